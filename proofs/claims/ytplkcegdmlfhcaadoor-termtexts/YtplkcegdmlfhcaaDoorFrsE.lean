/- What holds while rows are gone through: the trees stay, whichever row is put for a clone of it. -/
import Derived.Test.YtplkcegdmlfhcaaDoorFrsD
namespace Go.Proofs.YtplkcegdmlfhcaaDoor
open Go.RowKit

theorem Ty.upd {base : Nat × Nat} {S : List Nat} {w w' : World} (hu : Upd S w w') (hS : ∀ x ∈ S, base.1 ≤ x ∧ ∃ cur T fr, w.heap[x]? = some (.cells cur T fr) ∧ T ≠ 26 ∧ T ≠ 43) : (∀ b, Ty base w b → b ∉ S) ∧ ∀ b, Ty base w b → b < w.heap.size → Ty base w' b := by
  have h1 : ∀ b, Ty base w b → b ∉ S := by
    intro b h hm
    obtain ⟨hb, cur, T, fr, hh, h1, h2⟩ := hS b hm
    rcases h with h | ⟨_, cur', fr', T', hh', h | h⟩
    · omega
    · rw [hh] at hh'; simp at hh'; exact h1 (hh'.2.1.trans h)
    · rw [hh] at hh'; simp at hh'; exact h2 (hh'.2.1.trans h)
  refine ⟨h1, fun b h hlt => ?_⟩
  have hn := h1 b h
  rcases h with h | ⟨hlo, cur', fr', T', hh', h⟩
  · exact Or.inl h
  · exact Or.inr ⟨hlo, cur', fr', T', (hu.block b hlt hn).trans hh', h⟩
/-- Trees in rows of terms and of limbs. -/
def InT (base : Nat × Nat) (w : World) (d : Nat) (cs : List Value) (t : Tm) : Prop := InB (Ty base w) w d cs t
def RowT (base : Nat × Nat) (w : World) (d : Nat) (a : Option Addr) (I : List Tm) : Prop := RowB (Ty base w) (InB (Ty base w) w d) w a I
theorem RowT.in {base : Nat × Nat} {w : World} {d : Nat} {a : Option Addr} {I : List Tm} (h : RowT base w d a I) : InT base w (d + 1) [.int .u8 0, .bool false, .slice none 0 0, .string ⟨#[]⟩, .int .i64 0, .slice a I.length 0, .slice none 0 0] (.mk 0 0 false [] ⟨#[]⟩ I []) :=
  ⟨none, a, none, 0, 0, 0, rfl, Or.inl rfl, Dig.nil, h, Or.inl rfl⟩
theorem RowT.of {base : Nat × Nat} {w : World} {d : Nat} {a : Option Addr} {I : List Tm} (h : InT base w (d + 1) [.int .u8 0, .bool false, .slice none 0 0, .string ⟨#[]⟩, .int .i64 0, .slice a I.length 0, .slice none 0 0] (.mk 0 0 false [] ⟨#[]⟩ I [])) : RowT base w d a I := by
  obtain ⟨_, _, _, _, _, _, e, _, _, h2, _⟩ := h
  simp only [List.cons.injEq, Value.slice.injEq] at e
  rw [← e.2.2.2.2.2.1.1] at h2
  exact h2
/-- A step that keeps trees and rows. -/
structure Keep (base : Nat × Nat) (w w' : World) : Prop where
  tree : ∀ d cs t, InT base w d cs t → InT base w' d cs t
  row : ∀ (g : Nat) (cur : Array Value), w.heap[g]? = some (.cells cur 26 (0, 0)) → ∃ cur' : Array Value, w'.heap[g]? = some (.cells cur' 26 (0, 0)) ∧ cur'.size = cur.size
theorem Keep.trans {base : Nat × Nat} {a b c : World} (h : Keep base a b) (k : Keep base b c) : Keep base a c :=
  ⟨fun d cs t ht => k.tree d cs t (h.tree d cs t ht), fun g cur hg => by
    obtain ⟨cur', h1, h2⟩ := h.row g cur hg
    obtain ⟨cur2, h3, h4⟩ := k.row g cur' h1
    exact ⟨cur2, h3, h4.trans h2⟩⟩
theorem Keep.rowT {base : Nat × Nat} {w w' : World} (h : Keep base w w') {d : Nat} {a : Option Addr} {I : List Tm} (hr : RowT base w d a I) : RowT base w' d a I := RowT.of (h.tree _ _ _ hr.in)
theorem Keep.upd {base : Nat × Nat} {S : List Nat} {w w' : World} (hu : Upd S w w') (hS : ∀ x ∈ S, base.1 ≤ x ∧ ∃ cur T fr, w.heap[x]? = some (.cells cur T fr) ∧ T ≠ 26 ∧ T ≠ 43) : Keep base w w' := by
  obtain ⟨h1, h2⟩ := Ty.upd hu hS
  refine ⟨fun d cs t h => InB.upd hu h1 h2 d cs t h, fun g cur hg => ⟨cur, (hu.block g (lt_of_block hg) (fun hm => ?_)).trans hg, rfl⟩⟩
  obtain ⟨_, cur', T, fr, hh, h3, _⟩ := hS g hm
  rw [hh] at hg
  simp at hg
  exact h3 hg.2.1

theorem cell_other {w : World} {a b : Addr} {v : Value} (h : a ≠ b) : (w.setCell a v).cell? b = w.cell? b := World.cell?_setCell_other _ _ _ _ h
theorem cell_same {w : World} {a : Addr} {v u : Value} (h : w.cell? a = some u) : (w.setCell a v).cell? a = some v := World.cell?_setCell_same _ _ _ h
theorem Ty.set {base : Nat × Nat} {w : World} {g i : Nat} {v : Value} {cur : Array Value} (hg : w.heap[g]? = some (.cells cur 26 (0, 0))) (b : Nat) (h : Ty base w b) : Ty base (w.setCell ⟨g, i, none⟩ v) b := by
  rcases h with h | ⟨hlo, cur', fr, T, hh, h⟩
  · exact Or.inl h
  · by_cases hb : b = g
    · subst hb
      exact Or.inr ⟨hlo, _, _, _, heap_setCell_same w b i _ _ _ hg, Or.inl rfl⟩
    · exact Or.inr ⟨hlo, cur', fr, T, (heap_setCell_other _ _ _ _ (fun e => hb e)).trans hh, h⟩
/-- A row's field is turned to another row of the same cells. -/
theorem Keep.swap {base : Nat × Nat} {w : World} {g i : Nat} {a a' : Option Addr} {n c c' : Nat} {cur : Array Value} (hg : w.heap[g]? = some (.cells cur 26 (0, 0))) (hp : w.cell? ⟨g, i, none⟩ = some (.slice a n c))
    (hlimb : ∀ L : List Nat, L.length = n → L ≠ [] → AtB (Ty base w) w a L → ∃ b', a' = some ⟨b', 0, none⟩ ∧ Ty base w b' ∧ b' < w.heap.size ∧ b' ≠ g ∧ ∀ j, j < L.length → w.cell? ⟨b', j, none⟩ = some (.int .u32 (L.getD j 0 : Nat)))
    (hrow : ∀ (I : List Tm), I.length = n → I ≠ [] → ∀ d, RowT base w d a I → ∃ b o b', a = some ⟨b, o, none⟩ ∧ a' = some ⟨b', 0, none⟩ ∧ Ty base w b' ∧ b' < w.heap.size ∧ b' ≠ g ∧ ∀ j, j < n * 7 → w.cell? ⟨b', j, none⟩ = w.cell? ⟨b, o + j, none⟩) :
    Keep base w (w.setCell ⟨g, i, none⟩ (.slice a' n c')) := by
  have hsz : (w.setCell ⟨g, i, none⟩ (.slice a' n c')).heap.size = w.heap.size := by simp
  refine ⟨fun d cs t h => ?_, fun g2 cur2 h2 => ?_⟩
  · refine InB.swap (p := ⟨g, i, none⟩) (a := a) (a' := a') (n := n) (c := c) (c' := c') (fun q hq _ => cell_other (fun e => hq e.symm)) (by rw [hsz]; exact Nat.le_refl _) (fun b hb _ => Ty.set hg b hb) hp (cell_same hp) ?_ ?_ d cs t h
    · intro L hL hA
      by_cases h0 : L = []
      · exact Or.inl h0
      obtain ⟨b', rfl, h1, h2, h3, h4⟩ := hlimb L hL h0 hA
      refine Or.inr ⟨b', 0, rfl, Ty.set hg b' h1, by rw [hsz]; exact h2, fun j hj => ?_⟩
      rw [Nat.zero_add, cell_other (fun e => h3 (by have := congrArg Addr.block e; exact this.symm))]
      exact h4 j hj
    · intro I hI h0 d2 hr
      obtain ⟨b, o, b', rfl, rfl, h1, h2, h3, h4⟩ := hrow I hI h0 d2 hr
      refine ⟨b, o, b', 0, rfl, rfl, Ty.set hg b' h1, by rw [hsz]; exact h2, fun j hj => ?_⟩
      rw [Nat.zero_add, cell_other (fun e => h3 (by have := congrArg Addr.block e; exact this.symm))]
      exact h4 j hj
  · by_cases hb : g2 = g
    · subst hb
      rw [hg] at h2
      simp at h2
      subst h2
      exact ⟨_, heap_setCell_same w g2 i _ _ _ hg, by simp⟩
    · exact ⟨cur2, (heap_setCell_other _ _ _ _ (fun e => hb e)).trans h2, rfl⟩

/-- Limbs and terms lie in no common row. -/
theorem limb_row {base : Nat × Nat} {w : World} {a : Option Addr} {L : List Nat} {I : List Tm} {d : Nat} (hL : L ≠ []) (hI : I ≠ []) (h : AtB (Ty base w) w a L) (hr : RowT base w d a I) : False := by
  rcases h with h | ⟨b, o, rfl, _, _, hc⟩
  · exact hL h
  rcases hr with hr | ⟨b2, o2, e, _, _, hc2⟩
  · exact hI hr
  simp only [Option.some.injEq, Addr.mk.injEq] at e
  obtain ⟨rfl, rfl, _⟩ := e
  have h1 := hc 0 (by cases L with | nil => exact absurd rfl hL | cons x t => simp)
  obtain ⟨cs, k1, k2, k3⟩ := hc2 0 (by cases I with | nil => exact absurd rfl hI | cons x t => simp)
  have h2 := k2 0 (by omega)
  have k4 := (InB.plain _ _ _ k3).kd
  rw [k4] at h2
  rw [Nat.add_zero] at h1
  rw [Nat.zero_mul, Nat.zero_add, Nat.add_zero, h1] at h2
  simp at h2
theorem own_ty {w : World} {base : Nat × Nat} {bs : Nat} {T : TypeId} {sz n : Nat} {v : Value} {xs : List Value} (h : w.ownsRow bs T sz v n xs) (hT : T = 26 ∨ T = 43) (hn : 0 < n) (hlo : base.2 ≤ bs) : ∃ g c, v = .slice (some ⟨g, 0, none⟩) n c ∧ bs ≤ g ∧ Ty base w g ∧ g < w.heap.size ∧ ∀ j, j < n * sz → w.cell? ⟨g, j, none⟩ = xs[j]? := by
  have h' := h
  obtain ⟨_, ⟨_, h0⟩ | ⟨g, cap, cur, rfl, hb, hh, _⟩⟩ := h
  · omega
  · exact ⟨g, cap, rfl, hb, Or.inr ⟨by omega, cur, (0, 0), T, hh, hT⟩, lt_of_block hh, fun j hj => World.ownsRow.cellAt h' j hj⟩

/-- A term's limbs are turned to a clone of them. -/
theorem Keep.limbs {base : Nat × Nat} {bs : Nat} {w : World} {g i : Nat} {a a' : Option Addr} {L : List Nat} {c c' : Nat} {cur : Array Value} (hg : w.heap[g]? = some (.cells cur 26 (0, 0))) (hp : w.cell? ⟨g, i, none⟩ = some (.slice a L.length c)) (hA : AtB (Ty base w) w a L)
    (ho : w.ownsRow bs 43 1 (.slice a' L.length c') L.length (L.map fun n => Value.int .u32 (n : Nat))) (hgb : g < bs) (hlo : base.2 ≤ bs) : Keep base w (w.setCell ⟨g, i, none⟩ (.slice a' L.length c')) := by
  refine Keep.swap hg hp (fun M hM h0 hA2 => ?_) (fun I hI h0 d hr => ?_)
  · have hpos : 0 < L.length := by rw [← hM]; cases M with | nil => exact absurd rfl h0 | cons x t => simp
    have hLM : M = L := by
      rcases hA with h | ⟨b, o, rfl, _, _, hc⟩
      · rw [h] at hpos; simp at hpos
      rcases hA2 with h | ⟨b2, o2, e, _, _, hc2⟩
      · exact absurd h h0
      simp only [Option.some.injEq, Addr.mk.injEq] at e
      obtain ⟨rfl, rfl, _⟩ := e
      refine List.ext_getElem hM fun j h1 h2 => ?_
      have q1 := hc j h2
      have q2 := hc2 j h1
      rw [q1] at q2
      simp [List.getD, h1, h2] at q2
      omega
    subst hLM
    obtain ⟨g', c2, e, hb, hty, hlt, hc⟩ := own_ty (base := base) ho (Or.inr rfl) hpos hlo
    cases e
    refine ⟨g', rfl, hty, hlt, by omega, fun j hj => ?_⟩
    rw [hc j (by omega)]
    simp [List.getD, hj]
  · exact (limb_row (L := L) (fun e => h0 (List.eq_nil_of_length_eq_zero (by rw [hI, e]; rfl))) h0 hA hr).elim
/-- A term's items are turned to a clone of them. -/
theorem Keep.items {base : Nat × Nat} {bs d : Nat} {w : World} {g i : Nat} {a a' : Option Addr} {I : List Tm} {c c' : Nat} {cur : Array Value} {xs : List Value} (hg : w.heap[g]? = some (.cells cur 26 (0, 0))) (hp : w.cell? ⟨g, i, none⟩ = some (.slice a I.length c)) (hR : RowT base w d a I)
    (hx : Rd w a I.length 7 xs) (ho : w.ownsRow bs 26 7 (.slice a' I.length c') I.length xs) (hgb : g < bs) (hlo : base.2 ≤ bs) : Keep base w (w.setCell ⟨g, i, none⟩ (.slice a' I.length c')) := by
  refine Keep.swap hg hp (fun M hM h0 hA2 => ?_) (fun I2 hI h0 d2 hr => ?_)
  · exact (limb_row h0 (fun e => h0 (List.eq_nil_of_length_eq_zero (by rw [hM, e]; rfl))) hA2 hR).elim
  · have hpos : 0 < I.length := by rw [← hI]; cases I2 with | nil => exact absurd rfl h0 | cons x t => simp
    obtain ⟨g', c2, e, hb, hty, hlt, hc⟩ := own_ty (base := base) ho (Or.inl rfl) hpos hlo
    cases e
    rcases hr with h | ⟨b, o, rfl, _⟩
    · exact absurd h h0
    refine ⟨b, o, g', rfl, rfl, hty, hlt, by omega, fun j hj => ?_⟩
    have hjx : j < xs.length := by rw [hx.len]; exact hj
    rw [hc j hj, List.getElem?_eq_getElem hjx]
    have := hx.get _ rfl j _ (List.getElem?_eq_getElem hjx)
    rw [Addr.add_lit] at this
    exact this.symm

/-- The cells of a row of trees. -/
theorem RowAt.rd {w : World} {d : Nat} {a : Option Addr} {I : List Tm} (h : RowAt (In w d) w a I) : ∃ xs, Rd w a I.length 7 xs ∧ ∀ i (hi : i < I.length), ∃ cs : List Value, cs.length = 7 ∧ (∀ j, j < 7 → xs[i * 7 + j]? = cs[j]?) ∧ In w d cs I[i] := by
  by_cases h0 : I = []
  · subst h0
    exact ⟨[], ⟨rfl, fun _ => rfl, fun u hu => by simp at hu, fun ad _ j u hj => by simp at hj⟩, fun i hi => by simp at hi⟩
  rcases h with h | ⟨b, o, rfl, hlt, hc⟩
  · exact absurd h h0
  -- the cells, one behind the other
  have key : ∀ n, n ≤ I.length → ∃ xs : List Value, xs.length = n * 7 ∧ (∀ j u, xs[j]? = some u → w.cell? ⟨b, o + j, none⟩ = some u) ∧ (∀ u ∈ xs, u.oneCell' = true) ∧ ∀ i (hi : i < I.length), i < n → ∃ cs : List Value, cs.length = 7 ∧ (∀ j, j < 7 → xs[i * 7 + j]? = cs[j]?) ∧ In w d cs I[i] := by
    intro n
    induction n with
    | zero => intro _; exact ⟨[], rfl, fun j u hj => by simp at hj, fun u hu => by simp at hu, fun i _ hi => by omega⟩
    | succ n ih =>
      intro hn
      obtain ⟨xs, h1, h2, h3, h4⟩ := ih (by omega)
      obtain ⟨cs, k1, k2, k3⟩ := hc n (by omega)
      refine ⟨xs ++ cs, by rw [List.length_append, h1, k1]; omega, fun j u hj => ?_, fun u hu => ?_, fun i hi hin => ?_⟩
      · by_cases hjx : j < xs.length
        · rw [List.getElem?_append_left hjx] at hj; exact h2 j u hj
        · rw [List.getElem?_append_right (by omega)] at hj
          have hj7 : j - xs.length < 7 := by
            have := (List.getElem?_eq_some_iff.1 hj).1
            omega
          have := k2 (j - xs.length) hj7
          rw [hj] at this
          have e : o + (n * 7 + (j - xs.length)) = o + j := by omega
          rw [e] at this
          exact this
      · rcases List.mem_append.1 hu with hu | hu
        · exact h3 u hu
        · have := k3.one
          simp only [List.all_toArray, List.all_eq_true] at this
          exact this u hu
      · by_cases hi2 : i < n
        · obtain ⟨cs2, m1, m2, m3⟩ := h4 i hi hi2
          exact ⟨cs2, m1, fun j hj => by rw [List.getElem?_append_left (by omega)]; exact m2 j hj, m3⟩
        · have e : i = n := by omega
          subst e
          exact ⟨cs, k1, fun j hj => by rw [List.getElem?_append_right (by omega)]; congr 1; omega, k3⟩
  obtain ⟨xs, h1, h2, h3, h4⟩ := key I.length (Nat.le_refl _)
  refine ⟨xs, ⟨h1, fun e => (by cases e), h3, fun ad e j u hj => ?_⟩, fun i hi => h4 i hi hi⟩
  cases e
  rw [Addr.add_lit]
  exact h2 j u hj

end Go.Proofs.YtplkcegdmlfhcaaDoor
