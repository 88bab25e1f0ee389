/- Trees whose rows lie in what was there, or in rows of terms and of limbs: what they stand for stays, whatever else turns. -/
import Derived.Test.YtnpocmhaoaigfaaGreatDoorOrdD
import Derived.Laws.AppendOwn
import Derived.Laws.OwnMore
import Derived.Lib.SliceRun
import Derived.Deep.AppendLies

namespace Go.Proofs.YtnpocmhaoaigfaaGreatDoor
open Go.RowKit

/-- A block of terms, or of limbs, made from there on, or one that was there. -/
def Ty (base : Nat × Nat) (w : World) (b : Nat) : Prop := b < base.1 ∨ base.2 ≤ b ∧ ∃ cur fr T, w.heap[b]? = some (.cells cur T fr) ∧ (T = 26 ∨ T = 61)

def RowB (P : Nat → Prop) (R : List Value → Tm → Prop) (w : World) (a : Option Addr) (I : List Tm) : Prop :=
  I = [] ∨ ∃ b o, a = some ⟨b, o, none⟩ ∧ P b ∧ b < w.heap.size ∧ ∀ i (hi : i < I.length), ∃ cs : List Value, cs.length = 7 ∧ (∀ j, j < 7 → w.cell? ⟨b, o + (i * 7 + j), none⟩ = cs[j]?) ∧ R cs I[i]
def AtB (P : Nat → Prop) (w : World) (a : Option Addr) (L : List Nat) : Prop :=
  L = [] ∨ ∃ b o, a = some ⟨b, o, none⟩ ∧ P b ∧ b < w.heap.size ∧ ∀ i, i < L.length → w.cell? ⟨b, o + i, none⟩ = some (.int .u32 (L.getD i 0 : Nat))
/-- The seven cells of a term stand for a tree, and its rows lie where P holds. -/
def InB (P : Nat → Prop) (w : World) : Nat → List Value → Tm → Prop
  | 0, _, _ => False
  | d + 1, cs, .mk k num neg L s I T => ∃ (a ai at' : Option Addr) (c ci ct : Nat), cs = [.int .u8 k, .bool neg, .slice a L.length c, .string s, .int .i64 num, .slice ai I.length ci, .slice at' T.length ct] ∧ AtB P w a L ∧ Dig L ∧ RowB P (InB P w d) w ai I ∧ RowB P (InB P w d) w at' T

theorem InB.plain {P : Nat → Prop} {w : World} : ∀ (d : Nat) (cs : List Value) (t : Tm), InB P w d cs t → In w d cs t := by
  intro d
  induction d with
  | zero => intro cs t h; exact h.elim
  | succ d ih =>
    intro cs t h
    cases t with
    | mk k num neg L s I T =>
      obtain ⟨a, ai, at', c, ci, ct, rfl, h1, h2, h3, h4⟩ := h
      have row : ∀ (a : Option Addr) (I : List Tm), RowB P (InB P w d) w a I → RowAt (In w d) w a I := by
        intro a I h
        rcases h with h | ⟨b, o, e, _, hlt, hc⟩
        · exact Or.inl h
        · refine Or.inr ⟨b, o, e, hlt, fun i hi => ?_⟩
          obtain ⟨cs, k1, k2, k3⟩ := hc i hi
          exact ⟨cs, k1, k2, ih _ _ k3⟩
      refine ⟨a, ai, at', c, ci, ct, rfl, ?_, h2, row _ _ h3, row _ _ h4⟩
      rcases h1 with h | ⟨b, o, e, _, hlt, hc⟩
      · exact Or.inl h
      · exact Or.inr ⟨b, o, e, hlt, hc⟩
theorem In.toB {P : Nat → Prop} {w w' : World} (hP : ∀ b, b < w.heap.size → P b) (hu : Upd [] w w') : ∀ (d : Nat) (cs : List Value) (t : Tm), In w d cs t → InB P w' d cs t := by
  intro d
  induction d with
  | zero => intro cs t h; exact h.elim
  | succ d ih =>
    intro cs t h
    cases t with
    | mk k num neg L s I T =>
      obtain ⟨a, ai, at', c, ci, ct, rfl, h1, h2, h3, h4⟩ := h
      have row : ∀ (a : Option Addr) (I : List Tm), RowAt (In w d) w a I → RowB P (InB P w' d) w' a I := by
        intro a I h
        rcases h with h | ⟨b, o, e, hlt, hc⟩
        · exact Or.inl h
        · refine Or.inr ⟨b, o, e, hP b hlt, Nat.lt_of_lt_of_le hlt hu.size, fun i hi => ?_⟩
          obtain ⟨cs, k1, k2, k3⟩ := hc i hi
          exact ⟨cs, k1, fun j hj => (hu.cell (p := ⟨b, o + (i * 7 + j), none⟩) hlt (by simp)).trans (k2 j hj), ih _ _ k3⟩
      refine ⟨a, ai, at', c, ci, ct, rfl, ?_, h2, row _ _ h3, row _ _ h4⟩
      rcases h1 with h | ⟨b, o, e, hlt, hc⟩
      · exact Or.inl h
      · exact Or.inr ⟨b, o, e, hP b hlt, Nat.lt_of_lt_of_le hlt hu.size, fun i hi => (hu.cell (p := ⟨b, o + i, none⟩) hlt (by simp)).trans (hc i hi)⟩

/-- What turns is in no row of the tree. -/
theorem InB.upd {P Q : Nat → Prop} {S : List Nat} {w w' : World} (hu : Upd S w w') (hS : ∀ b, P b → b ∉ S) (hPQ : ∀ b, P b → b < w.heap.size → Q b) : ∀ (d : Nat) (cs : List Value) (t : Tm), InB P w d cs t → InB Q w' d cs t := by
  intro d
  induction d with
  | zero => intro cs t h; exact h.elim
  | succ d ih =>
    intro cs t h
    cases t with
    | mk k num neg L s I T =>
      obtain ⟨a, ai, at', c, ci, ct, rfl, h1, h2, h3, h4⟩ := h
      have row : ∀ (a : Option Addr) (I : List Tm), RowB P (InB P w d) w a I → RowB Q (InB Q w' d) w' a I := by
        intro a I h
        rcases h with h | ⟨b, o, e, hb, hlt, hc⟩
        · exact Or.inl h
        · refine Or.inr ⟨b, o, e, hPQ b hb hlt, Nat.lt_of_lt_of_le hlt hu.size, fun i hi => ?_⟩
          obtain ⟨cs, k1, k2, k3⟩ := hc i hi
          exact ⟨cs, k1, fun j hj => (hu.cell (p := ⟨b, o + (i * 7 + j), none⟩) hlt (hS b hb)).trans (k2 j hj), ih _ _ k3⟩
      refine ⟨a, ai, at', c, ci, ct, rfl, ?_, h2, row _ _ h3, row _ _ h4⟩
      rcases h1 with h | ⟨b, o, e, hb, hlt, hc⟩
      · exact Or.inl h
      · exact Or.inr ⟨b, o, e, hPQ b hb hlt, Nat.lt_of_lt_of_le hlt hu.size, fun i hi => (hu.cell (p := ⟨b, o + i, none⟩) hlt (hS b hb)).trans (hc i hi)⟩

/-- One row of a tree is put for another one of the same cells: the tree stays. -/
theorem InB.swap {P Q : Nat → Prop} {w w' : World} {p : Addr} {a a' : Option Addr} {n c c' : Nat} (hne : ∀ q : Addr, q ≠ p → q.block < w.heap.size → w'.cell? q = w.cell? q) (hsz : w.heap.size ≤ w'.heap.size) (hPQ : ∀ b, P b → b < w.heap.size → Q b)
    (hp : w.cell? p = some (.slice a n c)) (hp' : w'.cell? p = some (.slice a' n c'))
    (hlimb : ∀ L : List Nat, L.length = n → AtB P w a L → AtB Q w' a' L)
    (hrow : ∀ (I : List Tm), I.length = n → I ≠ [] → ∀ d, RowB P (InB P w d) w a I → ∃ b o b' o', a = some ⟨b, o, none⟩ ∧ a' = some ⟨b', o', none⟩ ∧ Q b' ∧ b' < w'.heap.size ∧ ∀ j, j < n * 7 → w'.cell? ⟨b', o' + j, none⟩ = w.cell? ⟨b, o + j, none⟩) :
    ∀ (d : Nat) (cs : List Value) (t : Tm), InB P w d cs t → InB Q w' d cs t := by
  intro d
  induction d using Nat.strongRecOn with
  | ind d0 ih0 =>
    intro cs t h
    cases d0 with
    | zero => exact h.elim
    | succ d =>
    have ih := ih0 d (by omega)
    cases t with
    | mk k num neg L s I T =>
      obtain ⟨al, ai, at', cl, ci, ct, rfl, h1, h2, h3, h4⟩ := h
      -- a row read in the new world, whichever of its cells has turned
      have cells : ∀ (cs : List Value) (t : Tm) (b o : Nat), cs.length = 7 → b < w.heap.size → (∀ j, j < 7 → w.cell? ⟨b, o + j, none⟩ = cs[j]?) → InB P w d cs t → ∃ cs' : List Value, cs'.length = 7 ∧ (∀ j, j < 7 → w'.cell? ⟨b, o + j, none⟩ = cs'[j]?) ∧ InB Q w' d cs' t := by
        intro cs t b o hl hb hc hin
        by_cases hex : ∃ j, j < 7 ∧ (⟨b, o + j, none⟩ : Addr) = p
        · obtain ⟨j, hj, e⟩ := hex
          have hcj : cs[j]? = some (.slice a n c) := by rw [← hc j hj, e]; exact hp
          have hoth : ∀ i, i < 7 → i ≠ j → w'.cell? ⟨b, o + i, none⟩ = cs[i]? := fun i hi hij => by
            refine (hne _ (fun e2 => hij ?_) hb).trans (hc i hi)
            rw [← e] at e2
            simp only [Addr.mk.injEq] at e2
            omega
          refine ⟨cs.set j (.slice a' n c'), by simpa using hl, fun i hi => ?_, ?_⟩
          · by_cases hij : i = j
            · subst hij
              rw [e, hp', List.getElem?_set_self (by omega)]
            · rw [List.getElem?_set_ne (by omega)]
              exact hoth i hi hij
          · cases d with
            | zero => exact hin.elim
            | succ d =>
              have hin2 := ih _ _ hin
              cases t with
              | mk k num neg L s I T =>
                obtain ⟨a1, a2, a3, c1, c2, c3, rfl, g1, g2, g3, g4⟩ := hin
                obtain ⟨b1, b2, b3, e1, e2, e3, eq, f1, f2, f3, f4⟩ := hin2
                simp only [List.cons.injEq, Value.slice.injEq, true_and, and_true] at eq
                obtain ⟨⟨rfl, rfl⟩, ⟨rfl, rfl⟩, rfl, rfl⟩ := eq
                have row : ∀ (I : List Tm), I.length = n → RowB P (InB P w d) w a I → RowB Q (InB Q w' d) w' a' I := by
                  intro I hI hr
                  by_cases h0 : I = []
                  · exact Or.inl h0
                  obtain ⟨x, o1, x', o1', rfl, rfl, q1, q2, q3⟩ := hrow I hI h0 d hr
                  rcases hr with hr | ⟨bb, oo, ee, _, hlt, hcc⟩
                  · exact absurd hr h0
                  simp only [Option.some.injEq, Addr.mk.injEq] at ee
                  obtain ⟨rfl, rfl, _⟩ := ee
                  refine Or.inr ⟨x', o1', rfl, q1, q2, fun i hi => ?_⟩
                  obtain ⟨cs, m1, m2, m3⟩ := hcc i hi
                  refine ⟨cs, m1, fun j hj => ?_, ?_⟩
                  · rw [q3 (i * 7 + j) (by omega)]; exact m2 j hj
                  · exact ih0 d (by omega) _ _ m3
                match j, hj, hcj with
                | 0, _, hcj => simp at hcj
                | 1, _, hcj => simp at hcj
                | 2, _, hcj =>
                  simp only [List.getElem?_cons_succ, List.getElem?_cons_zero, Option.some.injEq, Value.slice.injEq] at hcj
                  obtain ⟨rfl, rfl, rfl⟩ := hcj
                  exact ⟨a', a2, a3, c', c2, c3, rfl, hlimb L rfl g1, g2, f3, f4⟩
                | 3, _, hcj => simp at hcj
                | 4, _, hcj => simp at hcj
                | 5, _, hcj =>
                  simp only [List.getElem?_cons_succ, List.getElem?_cons_zero, Option.some.injEq, Value.slice.injEq] at hcj
                  obtain ⟨rfl, rfl, rfl⟩ := hcj
                  exact ⟨a1, a', a3, c1, c', c3, rfl, f1, g2, row I rfl g3, f4⟩
                | 6, _, hcj =>
                  simp only [List.getElem?_cons_succ, List.getElem?_cons_zero, Option.some.injEq, Value.slice.injEq] at hcj
                  obtain ⟨rfl, rfl, rfl⟩ := hcj
                  exact ⟨a1, a2, a', c1, c2, c', rfl, f1, g2, f3, row T rfl g4⟩
                | j + 7, hj, _ => omega
        · refine ⟨cs, hl, fun j hj => (hne _ (fun e => hex ⟨j, hj, e⟩) hb).trans (hc j hj), ih _ _ hin⟩
      have row : ∀ (a : Option Addr) (I : List Tm), RowB P (InB P w d) w a I → RowB Q (InB Q w' d) w' a I := by
        intro a I h
        rcases h with h | ⟨b, o, e, hb, hlt, hc⟩
        · exact Or.inl h
        · refine Or.inr ⟨b, o, e, hPQ b hb hlt, Nat.lt_of_lt_of_le hlt hsz, fun i hi => ?_⟩
          obtain ⟨cs, k1, k2, k3⟩ := hc i hi
          obtain ⟨cs', l1, l2, l3⟩ := cells cs I[i] b (o + i * 7) k1 hlt (fun j hj => by rw [Nat.add_assoc]; exact k2 j hj) k3
          exact ⟨cs', l1, fun j hj => by rw [← Nat.add_assoc]; exact l2 j hj, l3⟩
      refine ⟨al, ai, at', cl, ci, ct, rfl, ?_, h2, row _ _ h3, row _ _ h4⟩
      rcases h1 with h | ⟨b, o, e, hb, hlt, hc⟩
      · exact Or.inl h
      · refine Or.inr ⟨b, o, e, hPQ b hb hlt, Nat.lt_of_lt_of_le hlt hsz, fun i hi => ?_⟩
        refine (hne _ (fun e2 => ?_) hlt).trans (hc i hi)
        have := hc i hi
        rw [e2, hp] at this
        cases this

end Go.Proofs.YtnpocmhaoaigfaaGreatDoor

/- slices.Clone, by its contracts. -/
namespace Go.Proofs.YtnpocmhaoaigfaaGreatDoor
open Go.RowKit

theorem info_parts {P : Program} {t : TypeId} {z : Value} {n b : Nat} (h : (P.info? t).map (fun i => (i.zero, i.size, i.bytes)) = some (some z, n, b)) : ∃ i, P.info? t = some i ∧ i.zero = some z ∧ i.size = n ∧ i.bytes = b := by
  obtain ⟨i, h1, h2⟩ := Option.map_eq_some_iff.1 h
  simp only [Prod.mk.injEq] at h2
  exact ⟨i, h1, h2.1, h2.2.1, h2.2.2⟩
theorem info_termP : (Tryz.prog.info? 26).map (fun i => (i.zero, i.size, i.bytes)) = some (some (.agg #[.int .u8 0, .bool false, .slice none 0 0, .string ⟨#[]⟩, .int .i64 0, .slice none 0 0, .slice none 0 0]), 7, 104) := by kernel_rfl
theorem info_u32P : (Tryz.prog.info? 61).map (fun i => (i.zero, i.size, i.bytes)) = some (some (.int .u32 0), 1, 4) := by kernel_rfl

/-- A row's cells are there to be read. -/
structure Rd (w : World) (a : Option Addr) (n sz : Nat) (xs : List Value) : Prop where
  len : xs.length = n * sz
  nil : a = none → n = 0
  one : ∀ u ∈ xs, u.oneCell' = true
  get : ∀ ad, a = some ad → ∀ j u, xs[j]? = some u → w.cell? (ad.add j) = some u
/-- A row of one's own, of these cells. -/
def Own (w : World) (base : Nat) (T : TypeId) (sz n : Nat) (v : Value) (xs : List Value) : Prop := w.ownsRow base T sz v n xs ∧ ∃ a c, v = .slice a n c

set_option maxHeartbeats 4000000 in
set_option maxRecDepth 100000 in
theorem CloneT_any (a : Option Addr) (n c : Nat) (xs : List Value) (w : World) (h : Rd w a n 7 xs) (hn : n ≤ 1353245080330) :
    Calls Tryz.prog 88 #[.slice a n c] w fun e w' => ∃ v, e = .returned v ∧ Own w' w.heap.size 26 7 n v xs ∧ Upd [] w w' := by
  have he := fun w => Lib.run_eql_slice_nil (P := Tryz.prog) w 24 26 a n c 0 0 Tryz.underlying24
  cases a with
  | none =>
    have h0 := h.nil rfl
    subst h0
    have hx : xs = [] := List.eq_nil_of_length_eq_zero (by simp [h.len])
    subst hx
    go_enter Tryz.func88, Tryz.ntmps88
    go_wp2
    go_ret
    exact ⟨_, rfl, ⟨World.ownsRow_nil _ _ _ _, none, 0, rfl⟩, Upd.refl _ _⟩
  | some ad =>
    obtain ⟨i0, hi, hz0, hz1, hz2⟩ := info_parts info_termP
    have hown : (w.alloc (.cells #[] 26)).ownsRow w.heap.size 26 7 (.slice (some ⟨w.heap.size, 0, none⟩) 0 0) 0 [] := ⟨rfl, Or.inr ⟨w.heap.size, 0, #[], rfl, Nat.le_refl _, heap_alloc_new w _, Nat.le_refl _, by unfold maxLen; omega, rfl, rfl⟩⟩
    have hlt := fun ad' (e : some ad = some ad') j u (hj : xs[j]? = some u) => h.get ad' e j u hj
    have hget : ∀ j u, xs[j]? = some u → (w.alloc (.cells #[] 26)).cell? (ad.add j) = some u := fun j u hj => by
      have h1 := h.get ad rfl j u hj
      exact (((Upd.refl [] w).alloc _).cell (World.block_lt_of_cell? _ _ h1) (by simp)).trans h1
    have HR : Hid (Rd w (some ad) n 7 xs) := h
    clear h hlt
    go_enter Tryz.func88, Tryz.ntmps88
    go_wp2_with (at_builtin; refine wpList_append_own _ rfl _ _ 24 rfl w.heap.size 26 i0 _ 7 104 Tryz.underlying24 hi hz0 hz1 hz2 rfl (by decide) _ _ _ rfl hown ad n c xs rfl HR.out.len hget HR.out.one (by unfold maxLen; omega) (by omega) (by simp) ?_; intro v' w3 hown' hgrow hnil)
    have hO : w3.ownsRow w.heap.size 26 7 v' n xs := by simpa using hown'
    have hgrow2 : (w.alloc (.cells #[] 26)).grownBy w3 (some w.heap.size) := hgrow
    have hU : Upd [] w w3 := ((Upd.refl [] w).alloc (.cells #[] 26)).grown hgrow2 (fun k hk => Or.inl (by cases hk; exact Nat.le_refl _))
    have hf : ∃ a c, v' = .slice a n c := by
      obtain ⟨_, ⟨rfl, h0⟩ | ⟨g, cap, cur, rfl, _⟩⟩ := hO
      · exact ⟨none, 0, by rw [h0]⟩
      · exact ⟨_, _, rfl⟩
    go_ret
    exact ⟨_, rfl, ⟨hO, hf⟩, hU⟩

set_option maxHeartbeats 4000000 in
set_option maxRecDepth 100000 in
theorem CloneU_any (a : Option Addr) (n c : Nat) (xs : List Value) (w : World) (h : Rd w a n 1 xs) (hn : n ≤ 35184372088800) :
    Calls Tryz.prog 93 #[.slice a n c] w fun e w' => ∃ v, e = .returned v ∧ Own w' w.heap.size 61 1 n v xs ∧ Upd [] w w' := by
  have he := fun w => Lib.run_eql_slice_nil (P := Tryz.prog) w 23 61 a n c 0 0 Tryz.underlying23
  cases a with
  | none =>
    have h0 := h.nil rfl
    subst h0
    have hx : xs = [] := List.eq_nil_of_length_eq_zero (by simp [h.len])
    subst hx
    go_enter Tryz.func93, Tryz.ntmps93
    go_wp2
    go_ret
    exact ⟨_, rfl, ⟨World.ownsRow_nil _ _ _ _, none, 0, rfl⟩, Upd.refl _ _⟩
  | some ad =>
    obtain ⟨i0, hi, hz0, hz1, hz2⟩ := info_parts info_u32P
    have hown : (w.alloc (.cells #[] 61)).ownsRow w.heap.size 61 1 (.slice (some ⟨w.heap.size, 0, none⟩) 0 0) 0 [] := ⟨rfl, Or.inr ⟨w.heap.size, 0, #[], rfl, Nat.le_refl _, heap_alloc_new w _, Nat.le_refl _, by unfold maxLen; omega, rfl, rfl⟩⟩
    have hlt := fun ad' (e : some ad = some ad') j u (hj : xs[j]? = some u) => h.get ad' e j u hj
    have hget : ∀ j u, xs[j]? = some u → (w.alloc (.cells #[] 61)).cell? (ad.add j) = some u := fun j u hj => by
      have h1 := h.get ad rfl j u hj
      exact (((Upd.refl [] w).alloc _).cell (World.block_lt_of_cell? _ _ h1) (by simp)).trans h1
    have HR : Hid (Rd w (some ad) n 1 xs) := h
    clear h hlt
    go_enter Tryz.func93, Tryz.ntmps93
    go_wp2_with (at_builtin; refine wpList_append_own _ rfl _ _ 23 rfl w.heap.size 61 i0 _ 1 4 Tryz.underlying23 hi hz0 hz1 hz2 rfl (by decide) _ _ _ rfl hown ad n c xs rfl HR.out.len hget HR.out.one (by unfold maxLen; omega) (by omega) (by simp) ?_; intro v' w3 hown' hgrow hnil)
    have hO : w3.ownsRow w.heap.size 61 1 v' n xs := by simpa using hown'
    have hgrow2 : (w.alloc (.cells #[] 61)).grownBy w3 (some w.heap.size) := hgrow
    have hU : Upd [] w w3 := ((Upd.refl [] w).alloc (.cells #[] 61)).grown hgrow2 (fun k hk => Or.inl (by cases hk; exact Nat.le_refl _))
    have hf : ∃ a c, v' = .slice a n c := by
      obtain ⟨_, ⟨rfl, h0⟩ | ⟨g, cap, cur, rfl, _⟩⟩ := hO
      · exact ⟨none, 0, by rw [h0]⟩
      · exact ⟨_, _, rfl⟩
    go_ret
    exact ⟨_, rfl, ⟨hO, hf⟩, hU⟩

end Go.Proofs.YtnpocmhaoaigfaaGreatDoor

/- cloning's closure and fresh's: by their contracts. -/
namespace Go.Proofs.YtnpocmhaoaigfaaGreatDoor
open Go.RowKit

theorem addr_block (a : Addr) (j : Nat) : (a.add j).block = a.block := by unfold Addr.add; split <;> rfl
theorem Rd.upd {S : List Nat} {w w' : World} {a : Option Addr} {n sz : Nat} {xs : List Value} (h : Rd w a n sz xs) (hu : Upd S w w') (hb : ∀ ad, a = some ad → n ≠ 0 → ad.block ∉ S) : Rd w' a n sz xs :=
  ⟨h.len, h.nil, h.one, fun ad e j u hj => by
    have h1 := h.get ad e j u hj
    exact (hu.cell (World.block_lt_of_cell? _ _ h1) (by rw [addr_block]; exact hb ad e (fun h0 => by have := h.len; rw [h0, Nat.zero_mul] at this; rw [List.eq_nil_of_length_eq_zero this] at hj; simp at hj))).trans h1⟩
theorem tupleret {a b c d : Value} (h1 : a = c) (h2 : b = d) : Ending.returned (.tuple #[a, b]) = .returned (.tuple #[c, d]) := by rw [h1, h2]

set_option maxHeartbeats 4000000 in
set_option maxRecDepth 100000 in
/-- A row is cloned, as long as there is something left. -/
theorem cln_any (a : Option Addr) (n c gl gm lf : Nat) (xs : List Value) (w : World) (h : Rd w a n 7 xs) (hb : ∀ ad, a = some ad → n ≠ 0 → ad.block ≠ gl) (hl : IntB w gl lf) (hlf : n ≤ lf) (hlf2 : lf ≤ 65536) :
    Calls Tryz.prog 122 #[.slice a n c, .pointer (some ⟨gl, 0, none⟩), .pointer (some ⟨gm, 0, none⟩)] w fun e w' => ∃ v, e = .returned (.tuple #[v, .bool (decide (0 < n))]) ∧ Own w' w.heap.size 26 7 n v xs ∧ IntB w' gl ((lf - n : Nat) : Int) ∧ Upd [gl] w w' := by
  have y0 : w.cell? ⟨gl, 0, none⟩ = some (.int .i64 (lf : Int)) := hl.cell
  have z0 : w.frozen? ⟨gl, 0, none⟩ = false := hl.free
  have hsub : IntKind.i64.wrap ((lf : Int) - (n : Int)) = ((lf - n : Nat) : Int) := by rw [IntKind.wrap_i64]; omega
  obtain ⟨m, hm⟩ : ∃ m, m = lf - n := ⟨_, rfl⟩
  rw [← hm] at hsub ⊢
  have hB1 : IntB (w.setCell ⟨gl, 0, none⟩ (.int .i64 (m : Int))) gl (m : Int) := hl.set _
  have hU1 : Upd [gl] w (w.setCell ⟨gl, 0, none⟩ (.int .i64 (m : Int))) := (Upd.refl [gl] w).setCell (Or.inr (by simp)) _
  have y1 : (w.setCell ⟨gl, 0, none⟩ (.int .i64 (m : Int))).cell? ⟨gl, 0, none⟩ = some (.int .i64 (m : Int)) := hB1.cell
  have HC : Hid _ := CloneT_any a n c xs _ (h.upd hU1 (fun ad e h0 => by simp; exact hb ad e h0)) (by omega)
  have HB1 : Hid (IntB _ gl (m : Int)) := hB1
  have HU1 : Hid (Upd [gl] w _) := hU1
  have hsz : (w.setCell ⟨gl, 0, none⟩ (.int .i64 (m : Int))).heap.size = w.heap.size := by simp
  have hm0 : decide ((m : Int) ≥ 0) = true := by simp
  have hm1 : (0 : Int) ≤ (m : Int) := by omega
  clear h hl hB1 hU1
  by_cases h0 : n = 0
  · subst h0
    have hm2 : m = lf := by omega
    subst hm2
    clear hm hsub
    go_enter Tryz.func122, Tryz.ntmps122
    go_wp2_with fail
    refine Calls.mono HC.out ?_
    rintro e w2 ⟨v, rfl, hO, hU2⟩
    rw [hsz] at hO
    go_wp2
    go_ret2
    exact ⟨v, rfl, hO, HB1.out.mono hU2 (by simp), HU1.out.then hU2 (by simp)⟩
  · have n0 : ((n : Int) == 0) = false := by simp; omega
    have n1 : (0 : Int) < (n : Int) := by omega
    have hd : decide (0 < n) = true := by simp; omega
    clear hm h0
    go_enter Tryz.func122, Tryz.ntmps122
    go_wp2_with fail
    refine Calls.mono HC.out ?_
    rintro e w2 ⟨v, rfl, hO, hU2⟩
    rw [hsz] at hO
    go_wp2
    go_ret2
    exact ⟨v, tupleret rfl (by simp <;> omega), hO, HB1.out.mono hU2 (by simp), HU1.out.then hU2 (by simp)⟩

theorem info_terms : (Tryz.prog.info? 24).map (fun i => (i.zero, i.size, i.bytes)) = some (some (.slice none 0 0), 1, 24) := by kernel_rfl
theorem FunB.set {w : World} {b : Nat} {v : Value} {T : TypeId} (h : FunB w b v T) (u : Value) : FunB (w.setCell ⟨b, 0, none⟩ u) b u T := by
  unfold FunB
  rw [heap_setCell_same w b 0 _ _ _ h]
  rfl
theorem FunB.free {w : World} {b : Nat} {v : Value} {T : TypeId} (h : FunB w b v T) : w.frozen? ⟨b, 0, none⟩ = false := frozen_of_row w b 0 _ _ h
theorem FunB.ne {w : World} {b b' : Nat} {v v' : Value} {T T' : TypeId} (h : FunB w b v T) (h' : FunB w b' v' T') (hT : T ≠ T') : b ≠ b' := fun e => by
  subst e
  have := h.symm.trans h'
  simp at this
  exact hT this.2
theorem IntB.fun {w : World} {b : Nat} {n : Int} (h : IntB w b n) : FunB w b (.int .i64 n) 3 := h
/-- A row of one's own lies in no block of another type. -/
theorem own_ne {w : World} {base : Nat} {T T' : TypeId} {sz n b : Nat} {v u : Value} {xs : List Value} (h : w.ownsRow base T sz v n xs) (hb : FunB w b u T') (hT : T ≠ T') : v.ownBlock ≠ some b := fun e => by
  obtain ⟨_, ⟨rfl, _⟩ | ⟨g, cap, cur, rfl, _, hh, _⟩⟩ := h
  · cases e
  · simp only [Value.ownBlock, Option.some.injEq] at e
    subst e
    have := hh.symm.trans hb
    simp at this
    exact hT this.2
theorem own_upd {S : List Nat} {w w' : World} {base : Nat} {T : TypeId} {sz n : Nat} {v : Value} {xs : List Value} (h : w.ownsRow base T sz v n xs) (hu : Upd S w w') (hn : ∀ x, v.ownBlock = some x → x ∉ S) : w'.ownsRow base T sz v n xs := by
  obtain ⟨h0, h1 | ⟨g, cap, cur, hv, hb, hh, h2⟩⟩ := h
  · exact ⟨h0, Or.inl h1⟩
  · exact ⟨h0, Or.inr ⟨g, cap, cur, hv, hb, (hu.block g (lt_of_block hh) (hn g (by rw [hv]; rfl))).trans hh, h2⟩⟩

theorem own_form {w : World} {base : Nat} {T : TypeId} {sz n : Nat} {v : Value} {xs : List Value} (h : w.ownsRow base T sz v n xs) : ∃ a c, v = .slice a n c := by
  obtain ⟨_, ⟨rfl, rfl⟩ | ⟨g, cap, cur, rfl, _⟩⟩ := h
  · exact ⟨none, 0, rfl⟩
  · exact ⟨_, _, rfl⟩
def InsP (w : World) (gl gt lf base n : Nat) (xs ys : List Value) (tv : Value) (e : Ending) (w' : World) : Prop := ∃ v tv', e = .returned v ∧ Own w' w.heap.size 26 7 n v xs ∧ IntB w' gl ((lf - n : Nat) : Int) ∧ FunB w' gt tv' 98 ∧ w'.ownsRow base 24 1 tv' (if 0 < n then ys ++ [v] else ys).length (if 0 < n then ys ++ [v] else ys) ∧ Upd ([gl, gt] ++ tv.ownBlock.toList) w w'

set_option maxHeartbeats 4000000 in
set_option maxRecDepth 100000 in
/-- What is inside a term is cloned, and set down to be gone through, if there is something in it. -/
theorem inside_any (a : Option Addr) (n c gl gm gc gt lf base : Nat) (xs ys : List Value) (tv : Value) (w : World) (h : Rd w a n 7 xs) (hb : ∀ ad, a = some ad → n ≠ 0 → ad.block ≠ gl) (hl : IntB w gl lf) (hlf : n ≤ lf) (hlf2 : lf ≤ 65536)
    (hF : FunB w gc (.func (.func 122) #[] #[.pointer (some ⟨gl, 0, none⟩), .pointer (some ⟨gm, 0, none⟩)]) 99) (hT : FunB w gt tv 98) (hY : w.ownsRow base 24 1 tv ys.length ys) (hys : ys.length ≤ 1000000) (hbase : base ≤ w.heap.size) :
    Calls Tryz.prog 92 #[.slice a n c, .pointer (some ⟨gc, 0, none⟩), .pointer (some ⟨gt, 0, none⟩)] w (InsP w gl gt lf base n xs ys tv) := by
  have y0 : w.cell? ⟨gc, 0, none⟩ = some (.func (.func 122) #[] #[.pointer (some ⟨gl, 0, none⟩), .pointer (some ⟨gm, 0, none⟩)]) := hF.cell
  have HC : Hid _ := cln_any a n c gl gm lf xs w h hb hl hlf hlf2
  have HT : Hid (FunB w gt tv 98) := hT
  have HY : Hid (w.ownsRow base 24 1 tv ys.length ys) := hY
  have hgt : gt ≠ gl := hT.ne hl.fun (by decide)
  have hnl := own_ne hY hl.fun (by decide)
  have hnt := own_ne hY hT (by decide)
  have hcall : ∀ args w, (callFunc 122 args).run Tryz.prog w = .ok (.enter 122 args) w := Tryz.call122
  obtain ⟨i0, hi, hz0, hz1, hz2⟩ := info_parts info_terms
  clear h hl hF hT hY
  go_enter Tryz.func92, Tryz.ntmps92
  go_wp2_with fail
  refine Calls.mono HC.out ?_
  rintro e w2 ⟨v, rfl, hO, hB2, hU2⟩
  have hT2 : FunB w2 gt tv 98 := HT.out.mono hU2 (by simp; exact hgt)
  have hY2 : w2.ownsRow base 24 1 tv ys.length ys := own_upd HY.out hU2 (fun x hx => by simp; intro e; subst e; exact hnl hx)
  have HO : Hid (Own w2 w.heap.size 26 7 n v xs) := hO
  have HB2 : Hid (IntB w2 gl _) := hB2
  have HU2 : Hid (Upd [gl] w w2) := hU2
  clear hO hB2 hU2
  by_cases h0 : n = 0
  · subst h0
    have HT2 : Hid (FunB w2 gt tv 98) := hT2
    have HY2 : Hid (w2.ownsRow base 24 1 tv ys.length ys) := hY2
    clear hT2 hY2
    go_wp2
    go_ret
    exact ⟨v, tv, rfl, HO.out, HB2.out, HT2.out, by simpa using HY2.out, (Upd.refl _ w).then HU2.out (by simp)⟩
  · have n1 : (0 : Int) < (n : Int) := by omega
    have n2 : decide (0 < n) = true := by simp; omega
    have yt : w2.cell? ⟨gt, 0, none⟩ = some tv := hT2.cell
    obtain ⟨_, a', c', hv⟩ := HO.out
    subst hv
    have hsz2 := HU2.out.size
    go_wp2_with (first
      | (at_builtin; (refine wpList_append_own _ rfl _ _ 98 rfl base 24 i0 _ 1 24 Tryz.underlying98 hi hz0 hz1 hz2 rfl (by decide) tv _ _ rfl (hY2.alloc _) ⟨w2.heap.size, 0, none⟩ 1 1 [.slice a' n c'] rfl rfl (World.news_of_block (heap_alloc_new _ _)) (by intro u hu; simp at hu; subst hu; rfl) (by unfold maxLen; omega) (by omega) (by simp; omega) ?_); intro tv' w3 hown' hgrow _; obtain ⟨t3, k3, hv3⟩ := own_form hown'; subst hv3
         have hT3 : FunB w3 gt tv 98 := (hgrow.block gt (by simp; have := hT2.lt; omega) (fun e => hnt e.symm)).trans ((Below.heap_alloc w2 _ _ hT2.lt).trans hT2)
         have z3 : w3.frozen? ⟨gt, 0, none⟩ = false := hT3.free
         have y3 : w3.cell? ⟨gt, 0, none⟩ = some tv := hT3.cell)
      | fail)
    have hU3 : Upd ([gl, gt] ++ tv.ownBlock.toList) w w3 := (((Upd.refl _ w).then HU2.out (by simp)).alloc _).grown hgrow (fun k hk => Or.inr (by simp [hk]))
    have hU4 := hU3.setCell (p := ⟨gt, 0, none⟩) (Or.inr (by simp)) (.slice t3 (ys.length + 1) k3)
    have hlt2 := HO.out.1
    have hO3 : Own w3 w.heap.size 26 7 n (.slice a' n c') xs := by
      refine ⟨?_, HO.out.2⟩
      have h1 : (w2.alloc (.cells #[.slice a' n c'] 24)).ownsRow w.heap.size 26 7 (.slice a' n c') n xs := HO.out.1.alloc _
      refine World.ownsRow.kept h1 hgrow ?_
      by_cases hv : (Value.slice a' n c').ownBlock = none
      · exact Or.inl hv
      · refine Or.inr fun e => ?_
        cases ho : (Value.slice a' n c').ownBlock with
        | none => exact hv ho
        | some k =>
          have k1 := (World.ownsRow.lt HO.out.1 k ho).1
          have k2 := (World.ownsRow.lt HY.out k (by rw [← e, ho])).2
          omega
    have hB3 : IntB w3 gl _ := (hgrow.block gl (by simp; have := HB2.out.lt; omega) (fun e => hnl e.symm)).trans ((Below.heap_alloc w2 _ _ HB2.out.lt).trans HB2.out)
    have hO4 : Own (w3.setCell ⟨gt, 0, none⟩ (.slice t3 (ys.length + 1) k3)) w.heap.size 26 7 n (.slice a' n c') xs := ⟨own_upd hO3.1 ((Upd.refl [gt] w3).setCell (Or.inr (by simp)) (.slice t3 (ys.length + 1) k3)) (fun x hx => by simp; intro e; subst e; exact own_ne hO3.1 hT3 (by decide) hx), hO3.2⟩
    have hB4 : IntB (w3.setCell ⟨gt, 0, none⟩ (.slice t3 (ys.length + 1) k3)) gl _ := hB3.mono ((Upd.refl [gt] w3).setCell (Or.inr (by simp)) (.slice t3 (ys.length + 1) k3)) (by simp; exact fun e => hgt e.symm)
    have hT4 := hT3.set (.slice t3 (ys.length + 1) k3)
    have hY4 : (w3.setCell ⟨gt, 0, none⟩ (.slice t3 (ys.length + 1) k3)).ownsRow base 24 1 (.slice t3 (ys.length + 1) k3) (ys.length + 1) (ys ++ [.slice a' n c']) := own_upd hown' ((Upd.refl [gt] w3).setCell (Or.inr (by simp)) (.slice t3 (ys.length + 1) k3)) (fun x hx => by simp; intro e; subst e; exact own_ne hown' hT3 (by decide) hx)
    go_wp2
    go_ret
    refine ⟨_, _, rfl, hO4, hB4, hT4, ?_, hU4⟩
    rw [if_pos (by omega), List.length_append]
    exact hY4

end Go.Proofs.YtnpocmhaoaigfaaGreatDoor
