/- rightNum of package node, of trees. -/
import Derived.Test.YtehfoblfmehbdaaDoorJAD

namespace Go.Proofs.YtehfoblfmehbdaaDoor
open Go.RowKit

def brB (K : List Nd) (m : Nat) : Bool := kdAll 20 (K.take m) && kdAll 15 (K.drop m)
/-- How many patterns the first clause has. -/
def parB (K : List Nd) : Nat := match K with
  | .mk _ _ _ _ (p :: _) :: _ => p.kids.length
  | _ => 0
/-- The document's number of a node. -/
def nmB : Nd → Bool
  | .mk k _ num _ K => if k = 6 then (if num = 0 then true else if num = 1 then decide (2 ≤ K.length) else false) else if k = 11 then (if 0 ≤ num then decide (num ≤ 255) else false)
    else if k = 14 then (if num = 0 then brB K K.length else if num = 1 then brB K (K.length - 1) else false) else if k = 21 then num == parB K else num == 0
/-- What its kids must be ahead of it. -/
def nmOk : Nd → Prop
  | .mk k _ _ _ K => (k = 14 → 0 < K.length) ∧ (k = 21 → ∃ k1 s1 n1 p1 q r K', K = .mk k1 s1 n1 p1 (q :: r) :: K')

theorem RowN.at0 {w : World} {d : Nat} {a : Option Addr} {K : List Nd} (h : RowN (NIn w d) w a K) (h0 : 0 < K.length) : ∃ b o, a = some ⟨b, o, none⟩ ∧ b < w.heap.size ∧ ∃ cs : List Value, cs.length = 5 ∧ (∀ j, j < 5 → w.cell? ⟨b, o + j, none⟩ = cs[j]?) ∧ NIn w d cs K[0] := by
  rcases h with h | ⟨b, o, rfl, hb, hc⟩
  · rw [h] at h0; simp at h0
  · obtain ⟨cs, k1, k2, k3⟩ := hc 0 h0
    exact ⟨b, o, rfl, hb, cs, k1, fun j hj => by have := k2 j hj; simpa using this, k3⟩

theorem rightNum_in (d : Nat) (w : World) (cs : List Value) (t : Nd) (h : NIn w d cs t) (hs : nsz t ≤ 2199023255488) (hok : nmOk t) :
    Calls Tryd.prog 65 #[.agg cs.toArray] w fun e w' => e = .returned (.bool (nmB t)) ∧ Upd [] w w' := by
  obtain ⟨k, s, num, pos, K⟩ := t
  cases d with
  | zero => exact h.elim
  | succ d =>
    obtain ⟨a, c, rfl, hK, hc1, hc2⟩ := h
    simp only [nsz] at hs
    have hl : K.length ≤ 2199023255488 := Nat.le_trans (nszs_len K) hs
    simp only [nmB]
    by_cases h6 : k = 6
    · subst h6
      simp only [if_true]
      by_cases n0 : num = 0
      · rw [if_pos n0]; exact nm_6a a K.length c s num pos w n0
      · rw [if_neg n0]
        by_cases n1 : num = 1
        · rw [if_pos n1]; exact nm_6b a K.length c s num pos w n1 hl
        · rw [if_neg n1]; exact nm_6c a K.length c s num pos w n0 n1
    rw [if_neg h6]
    by_cases h11 : k = 11
    · subst h11
      simp only [if_true]
      by_cases n0 : 0 ≤ num
      · rw [if_pos n0]; exact nm_11a a K.length c s num pos w n0
      · rw [if_neg n0]; exact nm_11b a K.length c s num pos w n0
    rw [if_neg h11]
    by_cases h14 : k = 14
    · subst h14
      simp only [if_true]
      have hpos : 0 < K.length := hok.1 rfl
      obtain ⟨b, o, rfl, hb, -⟩ := hK.at0 hpos
      by_cases n0 : num = 0
      · rw [if_pos n0]
        exact nm_14a b o K.length K.length c s num pos w n0 rfl hl _ (fun W hu => rb_any b o c d K.length K W hl (hK.imp hu (NIn.mono hu d)) (Nat.le_refl _) hc1 hc2)
      · rw [if_neg n0]
        by_cases n1 : num = 1
        · rw [if_pos n1]
          exact nm_14b b o K.length (K.length - 1) c s num pos w n1 (by omega) hl _ (fun W hu => rb_any b o c d (K.length - 1) K W hl (hK.imp hu (NIn.mono hu d)) (by omega) hc1 hc2)
        · rw [if_neg n1]; exact nm_14c (some ⟨b, o, none⟩) K.length c s num pos w n0 n1
    rw [if_neg h14]
    by_cases h21 : k = 21
    · subst h21
      simp only [if_true]
      obtain ⟨k1, s1, m1, p1, q, r, K', rfl⟩ := hok.2 rfl
      obtain ⟨b, o, rfl, hb, cs1, l1, hc, hin⟩ := hK.at0 (by simp)
      cases d with
      | zero => exact hin.elim
      | succ d =>
        obtain ⟨a1, c1, rfl, hK1, -⟩ := hin
        obtain ⟨b1, o1, rfl, hb1, cs2, l2, hcc, hin2⟩ := hK1.at0 (by simp)
        cases d with
        | zero => exact hin2.elim
        | succ d =>
          obtain ⟨k2, s2, m2, p2, K2⟩ := q
          obtain ⟨a2, c2, rfl, -, -⟩ := hin2
          simp only [nszs, nsz] at hs
          have g1 := nszs_len K2
          have g2 := nszs_len r
          exact nm_21 b o _ b1 o1 _ c1 K2.length c2 a2 _ _ _ _ c s num pos w hl (by simp) (by simp only [List.length_cons]; omega) (by simp) (by omega) hb hb1 (by simp [Value.oneCell']) (hc 0 (by omega)) (hc 1 (by omega)) (hc 2 (by omega)) (hc 3 (by omega)) (hc 4 (by omega)) (hcc 4 (by omega))
    rw [if_neg h21]
    exact nm_0 a K.length k c s num pos w h6 h11 h14 h21

end Go.Proofs.YtehfoblfmehbdaaDoor

/- rightFields of package node, by its contract. -/
namespace Go.Proofs.YtehfoblfmehbdaaDoor
open Go.RowKit

set_option maxHeartbeats 1000000 in
set_option maxRecDepth 100000 in
theorem fields_no (a : Option Addr) (n c : Nat) (k : Int) (s : ByteArray) (num pos : Int) (w : World) (h : ¬ 0 ≤ pos) : Calls Tryd.prog 45 #[.agg #[.int .u8 k, .string s, .int .i64 num, .int .i64 pos, .slice a n c]] w fun e w' => e = .returned (.bool false) ∧ Upd [] w w' := by
  have HU0 : Hid (Upd [] w (w.alloc (.cells #[.int .u8 k, .string s, .int .i64 num, .int .i64 pos, .slice a n c] 25))) := (Upd.refl [] w).alloc _
  have e0 : decide (0 ≤ pos) = false := decide_eq_false h
  go_enter Tryd.func45, Tryd.ntmps45
  go_wp2
  go_ret
  exact ⟨rfl, HU0.out⟩
set_option maxHeartbeats 1000000 in
set_option maxRecDepth 100000 in
theorem fields_walk (a : Option Addr) (n c : Nat) (k : Int) (s : ByteArray) (num pos : Int) (w : World) (h : 0 ≤ pos) (z1 z2 : Bool)
    (hT : ∀ W, Upd [] w W → Calls Tryd.prog 64 #[.agg #[.int .u8 k, .string s, .int .i64 num, .int .i64 pos, .slice a n c]] W fun e w' => e = .returned (.bool z1) ∧ Upd [] W w')
    (hN : ∀ W, Upd [] w W → Calls Tryd.prog 65 #[.agg #[.int .u8 k, .string s, .int .i64 num, .int .i64 pos, .slice a n c]] W fun e w' => e = .returned (.bool z2) ∧ Upd [] W w') :
    Calls Tryd.prog 45 #[.agg #[.int .u8 k, .string s, .int .i64 num, .int .i64 pos, .slice a n c]] w fun e w' => e = .returned (.bool (z1 && z2)) ∧ Upd [] w w' := by
  have HU0 : Hid (Upd [] w (w.alloc (.cells #[.int .u8 k, .string s, .int .i64 num, .int .i64 pos, .slice a n c] 25))) := (Upd.refl [] w).alloc _
  have tb0 : Tb (w.alloc (.cells #[.int .u8 k, .string s, .int .i64 num, .int .i64 pos, .slice a n c] 25)) w.heap.size #[.int .u8 k, .string s, .int .i64 num, .int .i64 pos, .slice a n c] := Tb.new _ _ _ rfl
  have HT : Hid (∀ W, Upd [] w W → Calls Tryd.prog 64 #[.agg #[.int .u8 k, .string s, .int .i64 num, .int .i64 pos, .slice a n c]] W fun e w' => e = .returned (.bool z1) ∧ Upd [] W w') := hT
  have HN : Hid (∀ W, Upd [] w W → Calls Tryd.prog 65 #[.agg #[.int .u8 k, .string s, .int .i64 num, .int .i64 pos, .slice a n c]] W fun e w' => e = .returned (.bool z2) ∧ Upd [] W w') := hN
  clear hT hN
  cases z1 with
  | false =>
    go_enter Tryd.func45, Tryd.ntmps45
    go_wp2_with (first | (refine load_G _ _ rfl _ _ rfl tb0 rfl rfl ?_) | fail)
    refine (HT.out _ HU0.out).mono ?_
    rintro e w1 ⟨rfl, hu⟩
    have HU1 : Hid (Upd [] w w1) := HU0.out.trans hu
    clear hu tb0
    go_wp2
    go_ret
    exact ⟨rfl, HU1.out⟩
  | true =>
    go_enter Tryd.func45, Tryd.ntmps45
    go_wp2_with (first | (refine load_G _ _ rfl _ _ rfl tb0 rfl rfl ?_) | fail)
    refine (HT.out _ HU0.out).mono ?_
    rintro e w1 ⟨rfl, hu⟩
    have HU1 : Hid (Upd [] w w1) := HU0.out.trans hu
    have tb1 := tb0.mono hu (by simp)
    clear hu tb0
    go_wp2_with (first | (refine load_G _ _ rfl _ _ rfl tb1 rfl rfl ?_) | fail)
    refine (HN.out _ HU1.out).mono ?_
    rintro e w2 ⟨rfl, hu⟩
    have HU2 : Hid (Upd [] w w2) := HU1.out.trans hu
    clear hu tb1
    go_wp2
    go_ret
    exact ⟨rfl, HU2.out⟩

/-- The document's fields of a node beside its kids. -/
def fldB : Nd → Bool
  | .mk k s num pos K => decide (0 ≤ pos) && (txB k s K.length && nmB (.mk k s num pos K))
theorem rightFields_in (d : Nat) (w : World) (cs : List Value) (t : Nd) (h : NIn w d cs t) (hs : nsz t ≤ 2199023255488) (hx : nxz t ≤ 140737488355328) (hok : nmOk t) (hO : Ops w) :
    Calls Tryd.prog 45 #[.agg cs.toArray] w fun e w' => e = .returned (.bool (fldB t)) ∧ Upd [] w w' := by
  obtain ⟨k, s, num, pos, K⟩ := t
  have hN := fun W hu => rightNum_in d W cs (.mk k s num pos K) (NIn.mono hu _ _ _ h) hs hok
  cases d with
  | zero => exact h.elim
  | succ d =>
    obtain ⟨a, c, rfl, hK, -⟩ := h
    simp only [nsz] at hs
    simp only [nxz] at hx
    have hl : K.length ≤ 2199023255488 := Nat.le_trans (nszs_len K) hs
    simp only [fldB]
    by_cases hp : 0 ≤ pos
    · rw [decide_eq_true hp, Bool.true_and]
      exact fields_walk a K.length c k s num pos w hp _ _ (fun W hu => rightText_any a K.length c k s num pos W (by omega) hl (hO.mono hu)) hN
    · rw [decide_eq_false hp, Bool.false_and]
      exact fields_no a K.length c k s num pos w hp

end Go.Proofs.YtehfoblfmehbdaaDoor

/- formOf of package node, by its contract. -/
namespace Go.Proofs.YtehfoblfmehbdaaDoor
open Go.RowKit

/-- A form: the role, the kind, how many kids at least, their roles, and whether there may be more. -/
structure Fm where
  ro : Int
  kd : Int
  le : Nat
  ks : List Int
  mo : Bool
def formsL : List Fm := [⟨0, 1, 0, [], false⟩, ⟨0, 2, 0, [], false⟩, ⟨0, 3, 0, [], false⟩, ⟨0, 4, 0, [], false⟩, ⟨0, 5, 0, [0], true⟩, ⟨0, 6, 0, [0], true⟩, ⟨0, 7, 1, [0, 0], false⟩, ⟨0, 8, 2, [0, 0], false⟩, ⟨0, 9, 1, [0], true⟩, ⟨0, 10, 1, [9], true⟩, ⟨0, 11, 0, [], false⟩, ⟨0, 12, 2, [0, 10], true⟩, ⟨0, 13, 1, [11], true⟩, ⟨0, 14, 1, [16], true⟩, ⟨0, 16, 2, [3, 12], true⟩, ⟨0, 17, 2, [0, 17], true⟩, ⟨0, 19, 1, [0], true⟩, ⟨1, 22, 0, [2], true⟩, ⟨2, 21, 1, [9], true⟩, ⟨3, 19, 1, [0], true⟩, ⟨4, 19, 0, [0], true⟩, ⟨5, 19, 1, [0], false⟩, ⟨6, 19, 0, [], false⟩, ⟨7, 19, 0, [3], true⟩, ⟨8, 19, 1, [3], true⟩, ⟨9, 20, 3, [4, 7, 3], false⟩, ⟨10, 20, 3, [5, 7, 3], false⟩, ⟨11, 20, 3, [6, 8, 3], false⟩, ⟨12, 20, 3, [13, 7, 3], false⟩, ⟨13, 19, 1, [14], false⟩, ⟨14, 5, 2, [15, 0], false⟩, ⟨15, 2, 0, [], false⟩, ⟨15, 3, 0, [], false⟩, ⟨16, 20, 3, [5, 7, 3], false⟩, ⟨16, 15, 2, [0, 3], false⟩, ⟨17, 18, 2, [0, 0], false⟩]
theorem forms_len : formsL.length = 36 := rfl
def fm (i : Nat) : Fm := formsL.getD i ⟨0, 0, 0, [], false⟩
/-- The table stands in its block: its rows of roles at A, with the room C. -/
structure Frm (A : Nat → Option Addr) (C : Nat → Nat) (w : World) : Prop where
  lt : 0 < w.heap.size
  c0 : ∀ i, i < 36 → w.cell? ⟨0, i * 5, none⟩ = some (.int .u8 (fm i).ro)
  c1 : ∀ i, i < 36 → w.cell? ⟨0, i * 5 + 1, none⟩ = some (.int .u8 (fm i).kd)
  c2 : ∀ i, i < 36 → w.cell? ⟨0, i * 5 + 2, none⟩ = some (.int .u8 (fm i).le)
  c3 : ∀ i, i < 36 → w.cell? ⟨0, i * 5 + 3, none⟩ = some (.slice (A i) (fm i).ks.length (C i))
  c4 : ∀ i, i < 36 → w.cell? ⟨0, i * 5 + 4, none⟩ = some (.bool (fm i).mo)
  cap : ∀ i, i < 36 → (fm i).ks.length ≤ C i ∧ C i ≤ 9223372036854775807
  row : ∀ i, i < 36 → ∀ j (h : j < (fm i).ks.length), ∃ b o, A i = some ⟨b, o, none⟩ ∧ b < w.heap.size ∧ w.cell? ⟨b, o + j, none⟩ = some (.int .u8 ((fm i).ks[j]'h))
theorem Frm.mono {A : Nat → Option Addr} {C : Nat → Nat} {w w' : World} (h : Frm A C w) (hu : Upd [] w w') : Frm A C w' where
  lt := Nat.lt_of_lt_of_le h.lt hu.size
  c0 := fun i hi => (hu.cell (p := ⟨0, i * 5, none⟩) h.lt (by simp)).trans (h.c0 i hi)
  c1 := fun i hi => (hu.cell (p := ⟨0, i * 5 + 1, none⟩) h.lt (by simp)).trans (h.c1 i hi)
  c2 := fun i hi => (hu.cell (p := ⟨0, i * 5 + 2, none⟩) h.lt (by simp)).trans (h.c2 i hi)
  c3 := fun i hi => (hu.cell (p := ⟨0, i * 5 + 3, none⟩) h.lt (by simp)).trans (h.c3 i hi)
  c4 := fun i hi => (hu.cell (p := ⟨0, i * 5 + 4, none⟩) h.lt (by simp)).trans (h.c4 i hi)
  cap := h.cap
  row := fun i hi j hj => by
    obtain ⟨b, o, e, hb, hc⟩ := h.row i hi j hj
    exact ⟨b, o, e, Nat.lt_of_lt_of_le hb hu.size, (hu.cell (p := ⟨b, o + j, none⟩) hb (by simp)).trans hc⟩
/-- What formOf answers: the first form of the role and the kind. -/
def FoP (A : Nat → Option Addr) (C : Nat → Nat) (w : World) (k r : Int) (e : Ending) (w' : World) : Prop :=
  Upd [] w w' ∧ ((∃ i, i < 36 ∧ (fm i).ro = r ∧ (fm i).kd = k ∧ (∀ j, j < i → ¬ ((fm j).ro = r ∧ (fm j).kd = k)) ∧ e = .returned (.tuple #[.agg #[.int .u8 (fm i).ro, .int .u8 (fm i).kd, .int .u8 (fm i).le, .slice (A i) (fm i).ks.length (C i), .bool (fm i).mo], .bool true])) ∨
    ((∀ j, j < 36 → ¬ ((fm j).ro = r ∧ (fm j).kd = k)) ∧ e = .returned (.tuple #[.agg #[.int .u8 0, .int .u8 0, .int .u8 0, .slice none 0 0, .bool false], .bool false])))

theorem info62 : (Tryd.prog.info? 55).map (·.size) = some 5 := by kernel_rfl
theorem agg62 : (match (Tryd.prog.underlying 55) with | some (.struct _) => true | _ => false) = true := by kernel_rfl
theorem desc62 : ∃ fs, Tryd.prog.underlying 55 = some (.struct fs) := by
  have h := agg62
  revert h
  cases hq : Tryd.prog.underlying 55 with
  | none => intro h; simp at h
  | some d =>
    intro h
    cases d <;> simp_all
theorem load_runF (w : World) (g : Nat) (cs : Array Value) (hg : w.heap[g]? = some (.cells cs 55 (0, 0))) (hc : cs.size = 5) : (loadVar 55 ⟨g, 0, none⟩).run Tryd.prog w = .ok (.agg cs) w := by
  obtain ⟨fs, h1⟩ := desc62
  exact run_loadVar_row w g 55 55 cs (0, 0) _ hg h1 rfl (by rw [info62, hc])
/-- A form and a word more are handed back. -/
theorem ret_F {fn : Func} {R : Ending → World → Prop} {a : Act} {w : World} {p u : Tmp} (h : fn.results = #[.cell p 55, .tmp u]) (hd : a.defers = []) (g : Nat) (cs : Array Value) (v : Value)
    (hp : a.tmps.getD p undef = .pointer (some ⟨g, 0, none⟩)) (hg : w.heap[g]? = some (.cells cs 55 (0, 0))) (hc : cs.size = 5) (hu : a.tmps.getD u undef = v) (hR : R (.returned (.tuple #[.agg cs, v])) w) : bodyPost Tryd.prog fn R .ret a w := by
  refine bodyPost_ret (v := .tuple #[.agg cs, v]) ?_ hd hR
  rw [results_cell_tmp h, hp, hu]
  simp only [asAddr, Sem.run_pure, Result.andThen_ok, load_runF w g cs hg hc]

set_option maxHeartbeats 2000000 in
set_option maxRecDepth 100000 in
theorem fo_a (A : Nat → Option Addr) (C : Nat → Nat) (k r : Int) (w : World) (hF : Frm A C w) (h : r ≠ 17) : Calls Tryd.prog 43 #[.int .u8 k, .int .u8 r] w (FoP A C w k r) := by
  have HF : Hid (Frm A C (w.alloc (.cells #[.int .u8 0, .int .u8 0, .int .u8 0, .slice none 0 0, .bool false] 55))) := hF.mono ((Upd.refl [] w).alloc _)
  have HU0 : Hid (Upd [] w (w.alloc (.cells #[.int .u8 0, .int .u8 0, .int .u8 0, .slice none 0 0, .bool false] 55))) := (Upd.refl [] w).alloc _
  have e0 : (r == 17) = false := beq_eq_false_iff_ne.2 h
  clear hF
  go_enter Tryd.func43, Tryd.ntmps43
  go_wp2
  go_loopw [13] (fun i wr => ∃ j : Nat, j ≤ 36 ∧ i = .int .i64 j ∧ (∀ l, l < j → ¬ ((fm l).ro = r ∧ (fm l).kd = k)) ∧ wr = w.alloc (.cells #[.int .u8 0, .int .u8 0, .int .u8 0, .slice none 0 0, .bool false] 55)) (fun i _ => 36 - (intOf i).toNat)
  case atStart => exact ⟨0, by omega, rfl, fun l hl => by omega, rfl⟩
  case round =>
    obtain ⟨j, hj, rfl, hy, rfl⟩ := hrel
    have HY : Hid (∀ l, l < j → ¬ ((fm l).ro = r ∧ (fm l).kd = k)) := hy
    clear hy
    by_cases hlt : j < 36
    · have i1 : (j : Int) < 36 := by omega
      have x0 := HF.out.c0 j hlt
      have x1 := HF.out.c1 j hlt
      have x2 := HF.out.c2 j hlt
      have x3 := HF.out.c3 j hlt
      have x4 := HF.out.c4 j hlt
      go_wp2
      · rename_i e1 e2
        have e3 : (fm j).kd = k := eq_of_beq e2
        clear x0 x1 x2 x3 x4
        refine ret_F Tryd.results43 rfl w.heap.size _ (.bool true) rfl (heap_alloc_new w _) rfl rfl ?_
        exact ⟨(Upd.refl [] w).alloc _, Or.inl ⟨j, hlt, e1, e3, HY.out, by rw [e1]⟩⟩
      · rename_i e1 e2
        refine ⟨⟨j + 1, by omega, by go_num, fun l hl => ?_, trivial⟩, by simp [intOf]; omega⟩
        by_cases e : l = j
        · subst e; rintro ⟨_, h⟩; rw [h] at e2; simp at e2
        · exact HY.out l (by omega)
      · rename_i e1
        refine ⟨⟨j + 1, by omega, by go_num, fun l hl => ?_, trivial⟩, by simp [intOf]; omega⟩
        by_cases e : l = j
        · subst e; rintro ⟨h, _⟩; exact e1 h
        · exact HY.out l (by omega)
    · have i1 : ¬ (j : Int) < 36 := by omega
      have HJ : Hid (j = 36) := by show j = 36; omega
      go_wp2
      refine ret_F Tryd.results43 rfl w.heap.size #[.int .u8 0, .int .u8 0, .int .u8 0, .slice none 0 0, .bool false] (.bool false) rfl (heap_alloc_new w _) rfl rfl ?_
      exact ⟨HU0.out, Or.inr ⟨fun l hl => HY.out l (by rw [HJ.out]; exact hl), rfl⟩⟩
set_option maxHeartbeats 2000000 in
set_option maxRecDepth 100000 in
theorem fo_b (A : Nat → Option Addr) (C : Nat → Nat)  (w : World) (hF : Frm A C w)  : Calls Tryd.prog 43 #[.int .u8 18, .int .u8 17] w (FoP A C w 18 17) := by
  have HF : Hid (Frm A C (w.alloc (.cells #[.int .u8 0, .int .u8 0, .int .u8 0, .slice none 0 0, .bool false] 55))) := hF.mono ((Upd.refl [] w).alloc _)
  have HU0 : Hid (Upd [] w (w.alloc (.cells #[.int .u8 0, .int .u8 0, .int .u8 0, .slice none 0 0, .bool false] 55))) := (Upd.refl [] w).alloc _
  clear hF
  go_enter Tryd.func43, Tryd.ntmps43
  go_wp2
  go_loopw [13] (fun i wr => ∃ j : Nat, j ≤ 36 ∧ i = .int .i64 j ∧ (∀ l, l < j → ¬ ((fm l).ro = 17 ∧ (fm l).kd = 18)) ∧ wr = w.alloc (.cells #[.int .u8 0, .int .u8 0, .int .u8 0, .slice none 0 0, .bool false] 55)) (fun i _ => 36 - (intOf i).toNat)
  case atStart => exact ⟨0, by omega, rfl, fun l hl => by omega, rfl⟩
  case round =>
    obtain ⟨j, hj, rfl, hy, rfl⟩ := hrel
    have HY : Hid (∀ l, l < j → ¬ ((fm l).ro = 17 ∧ (fm l).kd = 18)) := hy
    clear hy
    by_cases hlt : j < 36
    · have i1 : (j : Int) < 36 := by omega
      have x0 := HF.out.c0 j hlt
      have x1 := HF.out.c1 j hlt
      have x2 := HF.out.c2 j hlt
      have x3 := HF.out.c3 j hlt
      have x4 := HF.out.c4 j hlt
      go_wp2
      · rename_i e1 e2
        have e3 : (fm j).kd = 18 := eq_of_beq e2
        clear x0 x1 x2 x3 x4
        refine ret_F Tryd.results43 rfl w.heap.size _ (.bool true) rfl (heap_alloc_new w _) rfl rfl ?_
        exact ⟨(Upd.refl [] w).alloc _, Or.inl ⟨j, hlt, e1, e3, HY.out, by rw [e1]⟩⟩
      · rename_i e1 e2
        refine ⟨⟨j + 1, by omega, by go_num, fun l hl => ?_, trivial⟩, by simp [intOf]; omega⟩
        by_cases e : l = j
        · subst e; rintro ⟨_, h⟩; rw [h] at e2; simp at e2
        · exact HY.out l (by omega)
      · rename_i e1
        refine ⟨⟨j + 1, by omega, by go_num, fun l hl => ?_, trivial⟩, by simp [intOf]; omega⟩
        by_cases e : l = j
        · subst e; rintro ⟨h, _⟩; exact e1 h
        · exact HY.out l (by omega)
    · have i1 : ¬ (j : Int) < 36 := by omega
      have HJ : Hid (j = 36) := by show j = 36; omega
      go_wp2
      refine ret_F Tryd.results43 rfl w.heap.size #[.int .u8 0, .int .u8 0, .int .u8 0, .slice none 0 0, .bool false] (.bool false) rfl (heap_alloc_new w _) rfl rfl ?_
      exact ⟨HU0.out, Or.inr ⟨fun l hl => HY.out l (by rw [HJ.out]; exact hl), rfl⟩⟩
set_option maxHeartbeats 2000000 in
set_option maxRecDepth 100000 in
theorem fo_c (A : Nat → Option Addr) (C : Nat → Nat) (k : Int) (w : World) (hF : Frm A C w) (h : k ≠ 18) : Calls Tryd.prog 43 #[.int .u8 k, .int .u8 17] w (FoP A C w k 0) := by
  have HF : Hid (Frm A C (w.alloc (.cells #[.int .u8 0, .int .u8 0, .int .u8 0, .slice none 0 0, .bool false] 55))) := hF.mono ((Upd.refl [] w).alloc _)
  have HU0 : Hid (Upd [] w (w.alloc (.cells #[.int .u8 0, .int .u8 0, .int .u8 0, .slice none 0 0, .bool false] 55))) := (Upd.refl [] w).alloc _
  have e0 : (k == 18) = false := beq_eq_false_iff_ne.2 h
  have e9 : (k != 18) = true := by rw [bne, e0]; rfl
  clear hF
  go_enter Tryd.func43, Tryd.ntmps43
  go_wp2
  go_loopw [13] (fun i wr => ∃ j : Nat, j ≤ 36 ∧ i = .int .i64 j ∧ (∀ l, l < j → ¬ ((fm l).ro = 0 ∧ (fm l).kd = k)) ∧ wr = w.alloc (.cells #[.int .u8 0, .int .u8 0, .int .u8 0, .slice none 0 0, .bool false] 55)) (fun i _ => 36 - (intOf i).toNat)
  case atStart => exact ⟨0, by omega, rfl, fun l hl => by omega, rfl⟩
  case round =>
    obtain ⟨j, hj, rfl, hy, rfl⟩ := hrel
    have HY : Hid (∀ l, l < j → ¬ ((fm l).ro = 0 ∧ (fm l).kd = k)) := hy
    clear hy
    by_cases hlt : j < 36
    · have i1 : (j : Int) < 36 := by omega
      have x0 := HF.out.c0 j hlt
      have x1 := HF.out.c1 j hlt
      have x2 := HF.out.c2 j hlt
      have x3 := HF.out.c3 j hlt
      have x4 := HF.out.c4 j hlt
      go_wp2
      · rename_i e1 e2
        have e3 : (fm j).kd = k := eq_of_beq e2
        clear x0 x1 x2 x3 x4
        refine ret_F Tryd.results43 rfl w.heap.size _ (.bool true) rfl (heap_alloc_new w _) rfl rfl ?_
        exact ⟨(Upd.refl [] w).alloc _, Or.inl ⟨j, hlt, e1, e3, HY.out, by rw [e1]⟩⟩
      · rename_i e1 e2
        refine ⟨⟨j + 1, by omega, by go_num, fun l hl => ?_, trivial⟩, by simp [intOf]; omega⟩
        by_cases e : l = j
        · subst e; rintro ⟨_, h⟩; rw [h] at e2; simp at e2
        · exact HY.out l (by omega)
      · rename_i e1
        refine ⟨⟨j + 1, by omega, by go_num, fun l hl => ?_, trivial⟩, by simp [intOf]; omega⟩
        by_cases e : l = j
        · subst e; rintro ⟨h, _⟩; exact e1 h
        · exact HY.out l (by omega)
    · have i1 : ¬ (j : Int) < 36 := by omega
      have HJ : Hid (j = 36) := by show j = 36; omega
      go_wp2
      refine ret_F Tryd.results43 rfl w.heap.size #[.int .u8 0, .int .u8 0, .int .u8 0, .slice none 0 0, .bool false] (.bool false) rfl (heap_alloc_new w _) rfl rfl ?_
      exact ⟨HU0.out, Or.inr ⟨fun l hl => HY.out l (by rw [HJ.out]; exact hl), rfl⟩⟩

end Go.Proofs.YtehfoblfmehbdaaDoor
