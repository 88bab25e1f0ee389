/- Split of package term, of lists of two and more: by its contract. -/
import Derived.Test.YtedelcgimbclpaaDoorRstT

namespace Go.Proofs.YtedelcgimbclpaaDoor
open Go.RowKit

/-- Seven cells, one behind the other. -/
theorem set7 (w : World) (g : Nat) (old : Array Value) (q0 q1 q2 q3 q4 q5 q6 : Value) (ht : Tb w g old) (h7 : old.size = 7) : ∃ W5, W5 = ((((((w.setCell ⟨g, 0, none⟩ q0).setCell ⟨g, 1, none⟩ q1).setCell ⟨g, 2, none⟩ q2).setCell ⟨g, 3, none⟩ q3).setCell ⟨g, 4, none⟩ q4).setCell ⟨g, 5, none⟩ q5).setCell ⟨g, 6, none⟩ q6 ∧ Tb W5 g #[q0, q1, q2, q3, q4, q5, q6] ∧ Upd [g] w W5 := by
  obtain ⟨a0, a1, a2, a3, a4, a5, a6, rfl⟩ : ∃ a0 a1 a2 a3 a4 a5 a6, old = #[a0, a1, a2, a3, a4, a5, a6] := by
    obtain ⟨l⟩ := old
    obtain ⟨a0, a1, a2, a3, a4, a5, a6, h⟩ := list7 (cs := l) (by simpa using h7)
    exact ⟨a0, a1, a2, a3, a4, a5, a6, by rw [h]⟩
  have t1 : Tb (w.setCell ⟨g, 0, none⟩ q0) g #[q0, a1, a2, a3, a4, a5, a6] := ht.set 0 _
  have u1 : Upd [g] w (w.setCell ⟨g, 0, none⟩ q0) := (Upd.refl [g] w).setCell (Or.inr (by simp)) _
  obtain ⟨x1, h1⟩ : ∃ x, x = w.setCell ⟨g, 0, none⟩ q0 := ⟨_, rfl⟩
  rw [← h1] at t1 u1 ⊢
  have t2 : Tb (x1.setCell ⟨g, 1, none⟩ q1) g #[q0, q1, a2, a3, a4, a5, a6] := t1.set 1 _
  have u2 := u1.setCell (p := ⟨g, 1, none⟩) (Or.inr (by simp)) q1
  obtain ⟨x2, h2⟩ : ∃ x, x = x1.setCell ⟨g, 1, none⟩ q1 := ⟨_, rfl⟩
  rw [← h2] at t2 u2 ⊢
  have t3 : Tb (x2.setCell ⟨g, 2, none⟩ q2) g #[q0, q1, q2, a3, a4, a5, a6] := t2.set 2 _
  have u3 := u2.setCell (p := ⟨g, 2, none⟩) (Or.inr (by simp)) q2
  obtain ⟨x3, h3⟩ : ∃ x, x = x2.setCell ⟨g, 2, none⟩ q2 := ⟨_, rfl⟩
  rw [← h3] at t3 u3 ⊢
  have t4 : Tb (x3.setCell ⟨g, 3, none⟩ q3) g #[q0, q1, q2, q3, a4, a5, a6] := t3.set 3 _
  have u4 := u3.setCell (p := ⟨g, 3, none⟩) (Or.inr (by simp)) q3
  obtain ⟨x4, h4⟩ : ∃ x, x = x3.setCell ⟨g, 3, none⟩ q3 := ⟨_, rfl⟩
  rw [← h4] at t4 u4 ⊢
  have t5 : Tb (x4.setCell ⟨g, 4, none⟩ q4) g #[q0, q1, q2, q3, q4, a5, a6] := t4.set 4 _
  have u5 := u4.setCell (p := ⟨g, 4, none⟩) (Or.inr (by simp)) q4
  obtain ⟨x5, h5⟩ : ∃ x, x = x4.setCell ⟨g, 4, none⟩ q4 := ⟨_, rfl⟩
  rw [← h5] at t5 u5 ⊢
  have t6 : Tb (x5.setCell ⟨g, 5, none⟩ q5) g #[q0, q1, q2, q3, q4, q5, a6] := t5.set 5 _
  have u6 := u5.setCell (p := ⟨g, 5, none⟩) (Or.inr (by simp)) q5
  obtain ⟨x6, h6⟩ : ∃ x, x = x5.setCell ⟨g, 5, none⟩ q5 := ⟨_, rfl⟩
  rw [← h6] at t6 u6 ⊢
  have t7 : Tb (x6.setCell ⟨g, 6, none⟩ q6) g #[q0, q1, q2, q3, q4, q5, q6] := t6.set 6 _
  have u7 := u6.setCell (p := ⟨g, 6, none⟩) (Or.inr (by simp)) q6
  exact ⟨_, rfl, t7, u7⟩

theorem InB.shape {P : Nat → Prop} {w : World} {d : Nat} {cs : List Value} {t : Tm} (h : InB P w d cs t) : ∃ (k num : Int) (neg : Bool) (s : ByteArray) (a1 a2 a3 : Option Addr) (n1 n2 n3 c1 c2 c3 : Nat), cs = [.int .u8 k, .bool neg, .slice a1 n1 c1, .string s, .int .i64 num, .slice a2 n2 c2, .slice a3 n3 c3] := by
  cases d with
  | zero => exact h.elim
  | succ d =>
    cases t
    obtain ⟨_, _, _, _, _, _, rfl, _⟩ := h
    exact ⟨_, _, _, _, _, _, _, _, _, _, _, _, _, rfl⟩

/-- A list is parted. -/
def SplitP (B : Nat) (w : World) (d : Nat) (h r : Tm) (e : Ending) (w' : World) : Prop := ∃ cs cs' : List Value, cs.length = 7 ∧ cs'.length = 7 ∧ e = .returned (.tuple #[.agg cs.toArray, .agg cs'.toArray, .bool true]) ∧ InB (fun b => b < B ∨ w.heap.size ≤ b) w' d cs h ∧ InB (fun b => b < B ∨ w.heap.size ≤ b) w' d cs' r ∧ Upd [] w w'

set_option maxHeartbeats 8000000 in
set_option maxRecDepth 100000 in
theorem Split_many (B d b o ci ct c : Nat) (num : Int) (neg : Bool) (s : ByteArray) (L : List Nat) (a at' : Option Addr) (I T : List Tm) (w : World) (hB : B ≤ w.heap.size) (hin : InB (fun b => b < B) w (d + 1) [.int .u8 7, .bool neg, .slice a L.length c, .string s, .int .i64 num, .slice (some ⟨b, o, none⟩) I.length ci, .slice at' T.length ct] (.mk 7 num neg L s I T))
    (hz : tsz (.mk 7 num neg L s I T) ≤ 1353245080330) (hok : okS (.mk 7 num neg L s I T) = true) (h2 : 2 ≤ I.length) (hcap : I.length ≤ ci) (hci : ci ≤ 9223372036854775807) :
    Calls Tryd.prog 15 #[.agg #[.int .u8 7, .bool neg, .slice a L.length c, .string s, .int .i64 num, .slice (some ⟨b, o, none⟩) I.length ci, .slice at' T.length ct]] w (SplitP B w (d + 1) (I.getD 0 nilT) (.mk 7 0 false [] ⟨#[]⟩ (I.drop 1) T)) := by
  have HR : Hid (∀ V, Upd [] w V → Calls Tryd.prog 8 #[.agg #[.int .u8 7, .bool neg, .slice a L.length c, .string s, .int .i64 num, .slice (some ⟨b, o, none⟩) I.length ci, .slice at' T.length ct]] V fun e w' => e = .returned (.bool true) ∧ Upd [] V w') := fun V hU => by
    have := TRight_in (d + 1) V _ _ (In.mono hU _ _ _ (InB.plain _ _ _ hin)) hz
    rw [hok] at this
    exact this
  have hbl : I.length + belR I + (T.length + belR T) ≤ 60000 := by
    unfold okS at hok
    rw [Bool.and_eq_true, decide_eq_true_eq] at hok
    have := bel_lt (.mk 7 num neg L s I T)
    rw [belT] at this
    omega
  simp only [tsz] at hz
  have hzI : tszs I ≤ 1353245080330 := by omega
  have hzT : tszs T ≤ 1353245080330 := by omega
  obtain ⟨_, _, _, _, _, _, e, _, _, hI, hT⟩ := hin
  simp only [List.cons.injEq, Value.slice.injEq, true_and, and_true] at e
  obtain ⟨e2, ⟨e5, e5'⟩, e6, e6'⟩ := e
  rw [← e5] at hI
  rw [← e6] at hT
  clear e2 e5 e5' e6 e6'
  obtain ⟨t, I', hIe⟩ : ∃ t I', I = t :: I' := by
    cases I with
    | nil => simp at h2
    | cons t r => exact ⟨t, r, rfl⟩
  have hbt : belT t ≤ 60000 := by rw [hIe, belR] at hbl; omega
  have hzt : tsz t ≤ 1353245080330 := by rw [hIe] at hzI; simp only [tszs] at hzI; omega
  have hrow : ∃ p0 p1 p2 p3 p4 p5 p6, (∀ j, j < 7 → w.cell? ⟨b, o + j, none⟩ = [p0, p1, p2, p3, p4, p5, p6][j]?) ∧ InB (fun b => b < B) w d [p0, p1, p2, p3, p4, p5, p6] t := by
    rcases hI with h0 | ⟨b', o', e, _, hlt, hc⟩
    · rw [hIe] at h0; cases h0
    · cases e
      obtain ⟨cs, k1, k2, k3⟩ := hc 0 (by omega)
      obtain ⟨p0, p1, p2, p3, p4, p5, p6, rfl⟩ := list7 k1
      refine ⟨p0, p1, p2, p3, p4, p5, p6, fun j hj => by have := k2 j hj; rwa [Nat.zero_mul, Nat.zero_add] at this, ?_⟩
      have : I[0] = t := by simp [hIe]
      rw [this] at k3
      exact k3
  obtain ⟨p0, p1, p2, p3, p4, p5, p6, hpc, hpin⟩ := hrow
  have hgd : I.getD 0 nilT = t := by rw [hIe]; rfl
  rw [hgd]
  have hblt : b < w.heap.size := by have := World.block_lt_of_cell? _ _ (hpc 0 (by omega)); exact this
  have hU0 : Upd [] w (((w.alloc (.cells #[.int .u8 7, .bool neg, .slice a L.length c, .string s, .int .i64 num, .slice (some ⟨b, o, none⟩) I.length ci, .slice at' T.length ct] 26)).alloc (.cells #[.int .u8 0, .bool false, .slice none 0 0, .string ⟨#[]⟩, .int .i64 0, .slice none 0 0, .slice none 0 0] 26)).alloc (.cells #[.int .u8 0, .bool false, .slice none 0 0, .string ⟨#[]⟩, .int .i64 0, .slice none 0 0, .slice none 0 0] 26)) := (((Upd.refl [] w).alloc _).alloc _).alloc _
  have tb0 : Tb (((w.alloc (.cells #[.int .u8 7, .bool neg, .slice a L.length c, .string s, .int .i64 num, .slice (some ⟨b, o, none⟩) I.length ci, .slice at' T.length ct] 26)).alloc (.cells #[.int .u8 0, .bool false, .slice none 0 0, .string ⟨#[]⟩, .int .i64 0, .slice none 0 0, .slice none 0 0] 26)).alloc (.cells #[.int .u8 0, .bool false, .slice none 0 0, .string ⟨#[]⟩, .int .i64 0, .slice none 0 0, .slice none 0 0] 26)) w.heap.size #[.int .u8 7, .bool neg, .slice a L.length c, .string s, .int .i64 num, .slice (some ⟨b, o, none⟩) I.length ci, .slice at' T.length ct] := ((Tb.new _ _ _ rfl).old _).old _
  have tb1 : Tb (((w.alloc (.cells #[.int .u8 7, .bool neg, .slice a L.length c, .string s, .int .i64 num, .slice (some ⟨b, o, none⟩) I.length ci, .slice at' T.length ct] 26)).alloc (.cells #[.int .u8 0, .bool false, .slice none 0 0, .string ⟨#[]⟩, .int .i64 0, .slice none 0 0, .slice none 0 0] 26)).alloc (.cells #[.int .u8 0, .bool false, .slice none 0 0, .string ⟨#[]⟩, .int .i64 0, .slice none 0 0, .slice none 0 0] 26)) (w.heap.size + 1) #[.int .u8 0, .bool false, .slice none 0 0, .string ⟨#[]⟩, .int .i64 0, .slice none 0 0, .slice none 0 0] := (Tb.new _ _ _ (by simp)).old _
  have tb2 : Tb (((w.alloc (.cells #[.int .u8 7, .bool neg, .slice a L.length c, .string s, .int .i64 num, .slice (some ⟨b, o, none⟩) I.length ci, .slice at' T.length ct] 26)).alloc (.cells #[.int .u8 0, .bool false, .slice none 0 0, .string ⟨#[]⟩, .int .i64 0, .slice none 0 0, .slice none 0 0] 26)).alloc (.cells #[.int .u8 0, .bool false, .slice none 0 0, .string ⟨#[]⟩, .int .i64 0, .slice none 0 0, .slice none 0 0] 26)) (w.heap.size + 1 + 1) #[.int .u8 0, .bool false, .slice none 0 0, .string ⟨#[]⟩, .int .i64 0, .slice none 0 0, .slice none 0 0] := Tb.new _ _ _ (by simp)
  obtain ⟨W, hW⟩ : ∃ W, W = (((w.alloc (.cells #[.int .u8 7, .bool neg, .slice a L.length c, .string s, .int .i64 num, .slice (some ⟨b, o, none⟩) I.length ci, .slice at' T.length ct] 26)).alloc (.cells #[.int .u8 0, .bool false, .slice none 0 0, .string ⟨#[]⟩, .int .i64 0, .slice none 0 0, .slice none 0 0] 26)).alloc (.cells #[.int .u8 0, .bool false, .slice none 0 0, .string ⟨#[]⟩, .int .i64 0, .slice none 0 0, .slice none 0 0] 26)) := ⟨_, rfl⟩
  have hsW : W.heap.size = w.heap.size + 3 := by rw [hW]; simp
  have i0 : ((I.length : Int) == 0) = false := beq_eq_false_iff_ne.2 (by omega)
  have i1 : (0 : Int) < (I.length : Int) := by omega
  have i2 : 0 < I.length := by omega
  have hIl : I.length ≤ 1353245080330 := Nat.le_trans (tszs_len I) hzI
  have hTl : T.length ≤ 1353245080330 := Nat.le_trans (tszs_len T) hzT
  have HI : Hid (RowB (fun b => b < B) (InB (fun b => b < B) w d) w (some ⟨b, o, none⟩) I) := hI
  have HT : Hid (RowB (fun b => b < B) (InB (fun b => b < B) w d) w at' T) := hT
  have HP : Hid (InB (fun b => b < B) w d [p0, p1, p2, p3, p4, p5, p6] t) := hpin
  have HPC : Hid (∀ j, j < 7 → w.cell? ⟨b, o + j, none⟩ = [p0, p1, p2, p3, p4, p5, p6][j]?) := hpc
  clear hI hT hpin hpc hgd hIe hok hz
  go_enter Tryd.func15, Tryd.ntmps15
  rw [← hW] at hU0 tb0 tb1 tb2
  have HW : Hid (W = _) := hW
  go_wp2_with fail
  rw [← HW.out]
  refine Calls.mono (HR.out W hU0) ?_
  rintro e w1 ⟨rfl, hU1⟩
  have tc0 := tb0.mono hU1 (by simp)
  have HT1 : Hid (Tb w1 _ _) := tb1.mono hU1 (by simp)
  have HT2 : Hid (Tb w1 _ _) := tb2.mono hU1 (by simp)
  have HU1 : Hid (Upd [] w w1) := hU0.trans hU1
  have hl1 : w.heap.size < w1.heap.size := tc0.lt
  have hlb : b < w1.heap.size := Nat.lt_of_lt_of_le hblt HU1.out.size
  have hsz1 : w.heap.size + 3 ≤ w1.heap.size := by have := hU1.size; omega
  clear tb0 tb1 tb2 hU1 hU0
  have x0 : w1.cell? ⟨w.heap.size, 0, none⟩ = some (.int .u8 7) := tc0.cell 0
  have x1 : w1.cell? ⟨w.heap.size, 1, none⟩ = some (.bool neg) := tc0.cell 1
  have x2 : w1.cell? ⟨w.heap.size, 2, none⟩ = some (.slice a L.length c) := tc0.cell 2
  have x3 : w1.cell? ⟨w.heap.size, 3, none⟩ = some (.string s) := tc0.cell 3
  have x4 : w1.cell? ⟨w.heap.size, 4, none⟩ = some (.int .i64 num) := tc0.cell 4
  have x5 : w1.cell? ⟨w.heap.size, 5, none⟩ = some (.slice (some ⟨b, o, none⟩) I.length ci) := tc0.cell 5
  have x6 : w1.cell? ⟨w.heap.size, 6, none⟩ = some (.slice at' T.length ct) := tc0.cell 6
  have y0 : w1.cell? ⟨b, o, none⟩ = some p0 := (HU1.out.cell (p := ⟨b, o, none⟩) hblt (by simp)).trans (HPC.out 0 (by omega))
  have y1 : w1.cell? ⟨b, o + 1, none⟩ = some p1 := (HU1.out.cell (p := ⟨b, o + 1, none⟩) hblt (by simp)).trans (HPC.out 1 (by omega))
  have y2 : w1.cell? ⟨b, o + 2, none⟩ = some p2 := (HU1.out.cell (p := ⟨b, o + 2, none⟩) hblt (by simp)).trans (HPC.out 2 (by omega))
  have y3 : w1.cell? ⟨b, o + 3, none⟩ = some p3 := (HU1.out.cell (p := ⟨b, o + 3, none⟩) hblt (by simp)).trans (HPC.out 3 (by omega))
  have y4 : w1.cell? ⟨b, o + 4, none⟩ = some p4 := (HU1.out.cell (p := ⟨b, o + 4, none⟩) hblt (by simp)).trans (HPC.out 4 (by omega))
  have y5 : w1.cell? ⟨b, o + 5, none⟩ = some p5 := (HU1.out.cell (p := ⟨b, o + 5, none⟩) hblt (by simp)).trans (HPC.out 5 (by omega))
  have y6 : w1.cell? ⟨b, o + 6, none⟩ = some p6 := (HU1.out.cell (p := ⟨b, o + 6, none⟩) hblt (by simp)).trans (HPC.out 6 (by omega))
  have HF1 : Hid (∀ V, Upd [] w1 V → Calls Tryd.prog 12 #[.agg #[p0, p1, p2, p3, p4, p5, p6]] V (TermP B V d t)) := fun V hU =>
    Copy_in B d V [p0, p1, p2, p3, p4, p5, p6] t (Nat.le_trans hB (HU1.out.trans hU).size) (InB.upd (HU1.out.trans hU) (by simp) (fun b hb _ => hb) _ _ _ HP.out) hzt hbt
  have HF2 : Hid (∀ V, Upd [] w1 V → Calls Tryd.prog 33 #[.agg #[.int .u8 7, .bool neg, .slice a L.length c, .string s, .int .i64 num, .slice (some ⟨b, o, none⟩) I.length ci, .slice at' T.length ct]] V (TermP B V (d + 1) (.mk 7 0 false [] ⟨#[]⟩ (I.drop 1) T))) := fun V hU =>
    rest_many B d b o ci ct L.length c num neg s a at' I T V (Nat.le_trans hB (HU1.out.trans hU).size) (RowB.upd (HU1.out.trans hU) (by simp) (fun b hb _ => hb) HI.out) (RowB.upd (HU1.out.trans hU) (by simp) (fun b hb _ => hb) HT.out) h2 hzI hzT hbl hcap hci
  have nb1 : ¬ w.heap.size + 1 = b := by omega
  have nb2 : ¬ b = w.heap.size + 1 := by omega
  have nb3 : ¬ w.heap.size + 1 + 1 = b := by omega
  have nb4 : ¬ b = w.heap.size + 1 + 1 := by omega
  have nb5 : ¬ w.heap.size = b := by omega
  have nb8 : ¬ w.heap.size + 1 + 1 = w.heap.size := by omega
  have nb9 : ¬ w.heap.size = w.heap.size + 1 + 1 := by omega
  have nb10 : ¬ w.heap.size + 1 + 1 = w.heap.size + 1 := by omega
  have nb6 : ¬ w.heap.size + 2 = b := by omega
  have nb7 : ¬ b = w.heap.size + 2 := by omega
  clear HR tc0
  go_wp2_with fail
  go_region_held3 (fun w' => w'.cell? ⟨w.heap.size, 0, none⟩ = some (.int .u8 7) ∧ w'.cell? ⟨w.heap.size, 1, none⟩ = some (.bool neg) ∧ w'.cell? ⟨w.heap.size, 2, none⟩ = some (.slice a L.length c) ∧ w'.cell? ⟨w.heap.size, 3, none⟩ = some (.string s) ∧ w'.cell? ⟨w.heap.size, 4, none⟩ = some (.int .i64 num) ∧ w'.cell? ⟨w.heap.size, 5, none⟩ = some (.slice (some ⟨b, o, none⟩) I.length ci) ∧ w'.cell? ⟨w.heap.size, 6, none⟩ = some (.slice at' T.length ct) ∧ w'.cell? ⟨b, o, none⟩ = some p0 ∧ w'.cell? ⟨b, o + 1, none⟩ = some p1 ∧ w'.cell? ⟨b, o + 2, none⟩ = some p2 ∧ w'.cell? ⟨b, o + 3, none⟩ = some p3 ∧ w'.cell? ⟨b, o + 4, none⟩ = some p4 ∧ w'.cell? ⟨b, o + 5, none⟩ = some p5 ∧ w'.cell? ⟨b, o + 6, none⟩ = some p6)
    (go_keep)
    (first
      | (go_at_call 12; refine Calls.mono (HF1.out _ (by repeat (first | exact Upd.refl _ _ | refine Upd.drew ?_ | refine Upd.alloc ?_ _))) ?_; rintro e w3 ⟨cs3, h73, rfl, hR3, hU3⟩; obtain ⟨k3, nu3, ng3, st3, aa3, ab3, ac3, na3, nb3, nc3, ca3, cb3, cc3, rfl⟩ := InB.shape hR3; have uw3 : Hid (Upd [] w1 w3) := Upd.trans (by repeat (first | exact Upd.refl _ _ | refine Upd.drew ?_ | refine Upd.alloc ?_ _)) hU3; have HR3 : Hid (InB (Pl B w1.heap.size) w3 d [.int .u8 k3, .bool ng3, .slice aa3 na3 ca3, .string st3, .int .i64 nu3, .slice ab3 nb3 cb3, .slice ac3 nc3 cc3] t) := InB.upd (Upd.refl [] w3) (by simp) (fun b hb _ => Or.imp id (Nat.le_trans (Upd.size (w := w1) (S := []) (by repeat (first | exact Upd.refl _ _ | refine Upd.drew ?_ | refine Upd.alloc ?_ _)))) hb) _ _ _ hR3; clear hR3 hU3 h73; have kx0 : w3.cell? ⟨w.heap.size, 0, none⟩ = some (.int .u8 7) := (uw3.out.cell (p := ⟨w.heap.size, 0, none⟩) hl1 (by simp)).trans x0; have kx1 : w3.cell? ⟨w.heap.size, 1, none⟩ = some (.bool neg) := (uw3.out.cell (p := ⟨w.heap.size, 1, none⟩) hl1 (by simp)).trans x1; have kx2 : w3.cell? ⟨w.heap.size, 2, none⟩ = some (.slice a L.length c) := (uw3.out.cell (p := ⟨w.heap.size, 2, none⟩) hl1 (by simp)).trans x2; have kx3 : w3.cell? ⟨w.heap.size, 3, none⟩ = some (.string s) := (uw3.out.cell (p := ⟨w.heap.size, 3, none⟩) hl1 (by simp)).trans x3; have kx4 : w3.cell? ⟨w.heap.size, 4, none⟩ = some (.int .i64 num) := (uw3.out.cell (p := ⟨w.heap.size, 4, none⟩) hl1 (by simp)).trans x4; have kx5 : w3.cell? ⟨w.heap.size, 5, none⟩ = some (.slice (some ⟨b, o, none⟩) I.length ci) := (uw3.out.cell (p := ⟨w.heap.size, 5, none⟩) hl1 (by simp)).trans x5; have kx6 : w3.cell? ⟨w.heap.size, 6, none⟩ = some (.slice at' T.length ct) := (uw3.out.cell (p := ⟨w.heap.size, 6, none⟩) hl1 (by simp)).trans x6; have ky0 : w3.cell? ⟨b, o, none⟩ = some p0 := (uw3.out.cell (p := ⟨b, o, none⟩) hlb (by simp)).trans y0; have ky1 : w3.cell? ⟨b, o + 1, none⟩ = some p1 := (uw3.out.cell (p := ⟨b, o + 1, none⟩) hlb (by simp)).trans y1; have ky2 : w3.cell? ⟨b, o + 2, none⟩ = some p2 := (uw3.out.cell (p := ⟨b, o + 2, none⟩) hlb (by simp)).trans y2; have ky3 : w3.cell? ⟨b, o + 3, none⟩ = some p3 := (uw3.out.cell (p := ⟨b, o + 3, none⟩) hlb (by simp)).trans y3; have ky4 : w3.cell? ⟨b, o + 4, none⟩ = some p4 := (uw3.out.cell (p := ⟨b, o + 4, none⟩) hlb (by simp)).trans y4; have ky5 : w3.cell? ⟨b, o + 5, none⟩ = some p5 := (uw3.out.cell (p := ⟨b, o + 5, none⟩) hlb (by simp)).trans y5; have ky6 : w3.cell? ⟨b, o + 6, none⟩ = some p6 := (uw3.out.cell (p := ⟨b, o + 6, none⟩) hlb (by simp)).trans y6)
      | (go_at_call 33; refine Calls.mono (HF2.out _ (by repeat (first | exact Upd.refl _ _ | exact uw3.out | refine Upd.drew ?_ | refine Upd.alloc ?_ _))) ?_; rintro e w4 ⟨cs4, h74, rfl, hR4, hU4⟩; obtain ⟨k4, nu4, ng4, st4, aa4, ab4, ac4, na4, nb4, nc4, ca4, cb4, cc4, rfl⟩ := InB.shape hR4; have uw4 : Hid (Upd [] w3 w4) := Upd.trans (by repeat (first | exact Upd.refl _ _ | refine Upd.drew ?_ | refine Upd.alloc ?_ _)) hU4; have HR4 : Hid (InB (Pl B w1.heap.size) w4 (d + 1) [.int .u8 k4, .bool ng4, .slice aa4 na4 ca4, .string st4, .int .i64 nu4, .slice ab4 nb4 cb4, .slice ac4 nc4 cc4] (.mk 7 0 false [] ⟨#[]⟩ (I.drop 1) T)) := InB.upd (Upd.refl [] w4) (by simp) (fun b hb _ => Or.imp id (Nat.le_trans (Nat.le_trans uw3.out.size (Upd.size (w := w3) (S := []) (by repeat (first | exact Upd.refl _ _ | refine Upd.drew ?_ | refine Upd.alloc ?_ _))))) hb) _ _ _ hR4; clear hR4 hU4 h74; have lx0 : w4.cell? ⟨w.heap.size, 0, none⟩ = some (.int .u8 7) := ((uw3.out.trans uw4.out).cell (p := ⟨w.heap.size, 0, none⟩) hl1 (by simp)).trans x0; have lx1 : w4.cell? ⟨w.heap.size, 1, none⟩ = some (.bool neg) := ((uw3.out.trans uw4.out).cell (p := ⟨w.heap.size, 1, none⟩) hl1 (by simp)).trans x1; have lx2 : w4.cell? ⟨w.heap.size, 2, none⟩ = some (.slice a L.length c) := ((uw3.out.trans uw4.out).cell (p := ⟨w.heap.size, 2, none⟩) hl1 (by simp)).trans x2; have lx3 : w4.cell? ⟨w.heap.size, 3, none⟩ = some (.string s) := ((uw3.out.trans uw4.out).cell (p := ⟨w.heap.size, 3, none⟩) hl1 (by simp)).trans x3; have lx4 : w4.cell? ⟨w.heap.size, 4, none⟩ = some (.int .i64 num) := ((uw3.out.trans uw4.out).cell (p := ⟨w.heap.size, 4, none⟩) hl1 (by simp)).trans x4; have lx5 : w4.cell? ⟨w.heap.size, 5, none⟩ = some (.slice (some ⟨b, o, none⟩) I.length ci) := ((uw3.out.trans uw4.out).cell (p := ⟨w.heap.size, 5, none⟩) hl1 (by simp)).trans x5; have lx6 : w4.cell? ⟨w.heap.size, 6, none⟩ = some (.slice at' T.length ct) := ((uw3.out.trans uw4.out).cell (p := ⟨w.heap.size, 6, none⟩) hl1 (by simp)).trans x6; have ly0 : w4.cell? ⟨b, o, none⟩ = some p0 := ((uw3.out.trans uw4.out).cell (p := ⟨b, o, none⟩) hlb (by simp)).trans y0; have ly1 : w4.cell? ⟨b, o + 1, none⟩ = some p1 := ((uw3.out.trans uw4.out).cell (p := ⟨b, o + 1, none⟩) hlb (by simp)).trans y1; have ly2 : w4.cell? ⟨b, o + 2, none⟩ = some p2 := ((uw3.out.trans uw4.out).cell (p := ⟨b, o + 2, none⟩) hlb (by simp)).trans y2; have ly3 : w4.cell? ⟨b, o + 3, none⟩ = some p3 := ((uw3.out.trans uw4.out).cell (p := ⟨b, o + 3, none⟩) hlb (by simp)).trans y3; have ly4 : w4.cell? ⟨b, o + 4, none⟩ = some p4 := ((uw3.out.trans uw4.out).cell (p := ⟨b, o + 4, none⟩) hlb (by simp)).trans y4; have ly5 : w4.cell? ⟨b, o + 5, none⟩ = some p5 := ((uw3.out.trans uw4.out).cell (p := ⟨b, o + 5, none⟩) hlb (by simp)).trans y5; have ly6 : w4.cell? ⟨b, o + 6, none⟩ = some p6 := ((uw3.out.trans uw4.out).cell (p := ⟨b, o + 6, none⟩) hlb (by simp)).trans y6; have tbx := (HT1.out.mono uw3.out (by simp)).mono uw4.out (by simp); have tby := (HT2.out.mono uw3.out (by simp)).mono uw4.out (by simp); have z0 : w4.cell? ⟨w.heap.size + 1, 0, none⟩ = some (.int .u8 0) := tbx.cell 0; have f0 : w4.frozen? ⟨w.heap.size + 1, 0, none⟩ = false := tbx.free 0; have z1 : w4.cell? ⟨w.heap.size + 1, 1, none⟩ = some (.bool false) := tbx.cell 1; have f1 : w4.frozen? ⟨w.heap.size + 1, 1, none⟩ = false := tbx.free 1; have z2 : w4.cell? ⟨w.heap.size + 1, 2, none⟩ = some (.slice none 0 0) := tbx.cell 2; have f2 : w4.frozen? ⟨w.heap.size + 1, 2, none⟩ = false := tbx.free 2; have z3 : w4.cell? ⟨w.heap.size + 1, 3, none⟩ = some (.string ⟨#[]⟩) := tbx.cell 3; have f3 : w4.frozen? ⟨w.heap.size + 1, 3, none⟩ = false := tbx.free 3; have z4 : w4.cell? ⟨w.heap.size + 1, 4, none⟩ = some (.int .i64 0) := tbx.cell 4; have f4 : w4.frozen? ⟨w.heap.size + 1, 4, none⟩ = false := tbx.free 4; have z5 : w4.cell? ⟨w.heap.size + 1, 5, none⟩ = some (.slice none 0 0) := tbx.cell 5; have f5 : w4.frozen? ⟨w.heap.size + 1, 5, none⟩ = false := tbx.free 5; have z6 : w4.cell? ⟨w.heap.size + 1, 6, none⟩ = some (.slice none 0 0) := tbx.cell 6; have f6 : w4.frozen? ⟨w.heap.size + 1, 6, none⟩ = false := tbx.free 6; have zz0 : w4.cell? ⟨w.heap.size + 1 + 1, 0, none⟩ = some (.int .u8 0) := tby.cell 0; have ff0 : w4.frozen? ⟨w.heap.size + 1 + 1, 0, none⟩ = false := tby.free 0; have zz1 : w4.cell? ⟨w.heap.size + 1 + 1, 1, none⟩ = some (.bool false) := tby.cell 1; have ff1 : w4.frozen? ⟨w.heap.size + 1 + 1, 1, none⟩ = false := tby.free 1; have zz2 : w4.cell? ⟨w.heap.size + 1 + 1, 2, none⟩ = some (.slice none 0 0) := tby.cell 2; have ff2 : w4.frozen? ⟨w.heap.size + 1 + 1, 2, none⟩ = false := tby.free 2; have zz3 : w4.cell? ⟨w.heap.size + 1 + 1, 3, none⟩ = some (.string ⟨#[]⟩) := tby.cell 3; have ff3 : w4.frozen? ⟨w.heap.size + 1 + 1, 3, none⟩ = false := tby.free 3; have zz4 : w4.cell? ⟨w.heap.size + 1 + 1, 4, none⟩ = some (.int .i64 0) := tby.cell 4; have ff4 : w4.frozen? ⟨w.heap.size + 1 + 1, 4, none⟩ = false := tby.free 4; have zz5 : w4.cell? ⟨w.heap.size + 1 + 1, 5, none⟩ = some (.slice none 0 0) := tby.cell 5; have ff5 : w4.frozen? ⟨w.heap.size + 1 + 1, 5, none⟩ = false := tby.free 5; have zz6 : w4.cell? ⟨w.heap.size + 1 + 1, 6, none⟩ = some (.slice none 0 0) := tby.cell 6; have ff6 : w4.frozen? ⟨w.heap.size + 1 + 1, 6, none⟩ = false := tby.free 6; have HTX : Hid (Tb w4 _ _) := tbx; have HTY : Hid (Tb w4 _ _) := tby; clear tbx tby))
  all_goals
    obtain ⟨W5, hW5, hT5, hU5⟩ := set7 w4 (w.heap.size + 1) _ (.int .u8 k3) (.bool ng3) (.slice aa3 na3 ca3) (.string st3) (.int .i64 nu3) (.slice ab3 nb3 cb3) (.slice ac3 nc3 cc3) HTX.out rfl
    rw [← hW5]
    have hY5 := HTY.out.mono hU5 (by simp)
    obtain ⟨W6, hW6, hT6, hU6⟩ := set7 W5 (w.heap.size + 1 + 1) _ (.int .u8 k4) (.bool ng4) (.slice aa4 na4 ca4) (.string st4) (.int .i64 nu4) (.slice ab4 nb4 cb4) (.slice ac4 nc4 cc4) hY5 rfl
    rw [← hW6]
    have hT5' := hT5.mono hU6 (by simp)
    have hS1 : ∀ b, Pl B w1.heap.size b → b ∉ [w.heap.size + 1] := fun b hb hm => by
      simp at hm; subst hm
      rcases hb with hb | hb <;> omega
    have hS2 : ∀ b, Pl B w1.heap.size b → b ∉ [w.heap.size + 1 + 1] := fun b hb hm => by
      simp at hm; subst hm
      rcases hb with hb | hb <;> omega
    have hPQ : ∀ b, Pl B w1.heap.size b → b < W5.heap.size → (b < B ∨ w.heap.size ≤ b) := fun b hb _ => by
      rcases hb with hb | hb
      · exact Or.inl hb
      · exact Or.inr (by omega)
    have HA : Hid (InB (fun b => b < B ∨ w.heap.size ≤ b) W6 (d + 1) [.int .u8 k3, .bool ng3, .slice aa3 na3 ca3, .string st3, .int .i64 nu3, .slice ab3 nb3 cb3, .slice ac3 nc3 cc3] t) := InB.more _ _ _ (InB.upd hU6 hS2 hPQ _ _ _ (InB.upd hU5 hS1 (fun b hb _ => hb) _ _ _ (InB.upd uw4.out (by simp) (fun b hb _ => hb) _ _ _ HR3.out)))
    have HZ : Hid (InB (fun b => b < B ∨ w.heap.size ≤ b) W6 (d + 1) [.int .u8 k4, .bool ng4, .slice aa4 na4 ca4, .string st4, .int .i64 nu4, .slice ab4 nb4 cb4, .slice ac4 nc4 cc4] (.mk 7 0 false [] ⟨#[]⟩ (I.drop 1) T)) := InB.upd hU6 hS2 hPQ _ _ _ (InB.upd hU5 hS1 (fun b hb _ => hb) _ _ _ HR4.out)
    have HU6 : Hid (Upd [] w W6) := (((HU1.out.trans uw3.out).trans uw4.out).then hU5 (by simp)).then hU6 (by simp; omega)
    clear z0 f0 zz0 ff0 x0 y0 kx0 ky0 lx0 ly0 z1 f1 zz1 ff1 x1 y1 kx1 ky1 lx1 ly1 z2 f2 zz2 ff2 x2 y2 kx2 ky2 lx2 ly2 z3 f3 zz3 ff3 x3 y3 kx3 ky3 lx3 ly3 z4 f4 zz4 ff4 x4 y4 kx4 ky4 lx4 ly4 z5 f5 zz5 ff5 x5 y5 kx5 ky5 lx5 ly5 z6 f6 zz6 ff6 x6 y6 kx6 ky6 lx6 ly6 hW5 hW6 hS1 hS2 hPQ hU5 hU6 hY5 hT5
    go_wp2
    exact ret_TTb Tryd.results15 rfl _ _ _ _ _ rfl hT5' rfl rfl hT6 rfl rfl ⟨_, _, rfl, rfl, rfl, HA.out, HZ.out, HU6.out⟩

end Go.Proofs.YtedelcgimbclpaaDoor

/- fitting and Cons of package term, of a list: by their contracts. -/
namespace Go.Proofs.YtedelcgimbclpaaDoor
open Go.RowKit

def zeroC : List Value := [.int .u8 0, .bool false, .slice none 0 0, .string ⟨#[]⟩, .int .i64 0, .slice none 0 0, .slice none 0 0]

def fitC (t : Tm) (cs : List Value) : List Value := if okS t then cs else zeroC

set_option maxHeartbeats 4000000 in
set_option maxRecDepth 100000 in
theorem fitting_in (d : Nat) (w : World) (cs : List Value) (t : Tm) (h : In w d cs t) (hs : tsz t ≤ 1353245080330) :
    Calls Tryd.prog 28 #[.agg cs.toArray] w fun e w' => e = .returned (.agg (fitC t cs).toArray) ∧ Upd [] w w' := by
  have h7 := h.seven
  have hone := h.one
  have HR : Hid (∀ W, Upd [] w W → Calls Tryd.prog 8 #[.agg cs.toArray] W fun e w' => e = .returned (.bool (okS t)) ∧ Upd [] W w') := fun W hu => TRight_in d W cs t (In.mono hu _ _ _ h) hs
  obtain ⟨C, hC⟩ : ∃ C, C = cs.toArray := ⟨_, rfl⟩
  have HC : Hid (cs.toArray = C) := hC.symm
  rw [← hC] at h7 hone HR ⊢
  clear hC h hs
  have tb0 : Tb ((w.alloc (.cells C 26)).alloc (.cells #[.int .u8 0, .bool false, .slice none 0 0, .string ⟨#[]⟩, .int .i64 0, .slice none 0 0, .slice none 0 0] 26)) w.heap.size C := (Tb.new _ _ _ rfl).old _
  have tbz : Tb ((w.alloc (.cells C 26)).alloc (.cells #[.int .u8 0, .bool false, .slice none 0 0, .string ⟨#[]⟩, .int .i64 0, .slice none 0 0, .slice none 0 0] 26)) (w.heap.size + 1) #[.int .u8 0, .bool false, .slice none 0 0, .string ⟨#[]⟩, .int .i64 0, .slice none 0 0, .slice none 0 0] := Tb.new _ _ _ (by simp)
  have hU0 : Upd [] w ((w.alloc (.cells C 26)).alloc (.cells #[.int .u8 0, .bool false, .slice none 0 0, .string ⟨#[]⟩, .int .i64 0, .slice none 0 0, .slice none 0 0] 26)) := ((Upd.refl [] w).alloc _).alloc _
  have HU0 : Hid _ := hU0
  clear hU0
  go_enter Tryd.func28, Tryd.ntmps28
  go_wp2_with (first | (refine load_T _ rfl _ rfl _ _ rfl tb0 h7 ?_) | fail)
  refine Calls.mono (HR.out _ HU0.out) ?_
  rintro e w1 ⟨rfl, hU1⟩
  have tb1 := tb0.mono hU1 (by simp)
  have tbz1 := tbz.mono hU1 (by simp)
  have HU1 : Hid (Upd [] w w1) := HU0.out.trans hU1
  clear hU1 tb0 tbz HU0
  cases ht : okS t with
  | false =>
    go_wp2_with (refine store_V _ rfl _ _ rfl _ _ _ _ _ _ _ _ _ _ _ _ _ _ _ rfl rfl tbz1 rfl ?_; intro w2 hT2 hU2)
    exact ret_T Tryd.results28 rfl _ _ rfl hT2 rfl ⟨by unfold fitC; rw [ht]; rfl, HU1.out.then hU2 (by simp)⟩
  | true =>
    go_wp2_with (first | (refine load_T _ rfl _ rfl _ _ rfl tb1 h7 ?_) | (refine store_T _ rfl _ _ rfl _ C _ rfl rfl tbz1 rfl h7 hone ?_; intro w2 hT2 hU2))
    exact ret_T Tryd.results28 rfl _ _ rfl hT2 h7 ⟨by unfold fitC; rw [ht, if_pos rfl, HC.out], HU1.out.then hU2 (by simp)⟩

/-- fresh of two rows, the first one of one term. -/
theorem fresh_two (B b c c0 c1 d : Nat) (a0 a1 : Option Addr) (h : Tm) (I : List Tm) (Q0 Q1 : Nat → Prop) (w : World) (hb : b < w.heap.size) (hB : B ≤ w.heap.size) (hc0 : w.cell? ⟨b, 0, none⟩ = some (.slice a0 1 c0)) (hc1 : w.cell? ⟨b, 1, none⟩ = some (.slice a1 I.length c1))
    (hR0 : RowB Q0 (InB (fun b => b < B) w d) w a0 [h]) (hR1 : RowB Q1 (InB (fun b => b < B) w d) w a1 I) (hn : (h :: I).length + belR (h :: I) ≤ 65536) (hsz : tszs (h :: I) ≤ 1353245080330) :
    Calls Tryd.prog 27 #[.slice (some ⟨b, 0, none⟩) 2 c] w (FreshP B w d (h :: I)) := by
  obtain ⟨xs, hx, hxs⟩ := hR0.rd (fun cs t h => InB.one cs t h)
  obtain ⟨ys, hy, hys⟩ := hR1.rd (fun cs t h => InB.one cs t h)
  have two : ∀ i, i < 2 → i = 0 ∨ i = 1 := fun i hi => by omega
  refine fresh_any B b 0 2 c d [⟨a0, 1, c0, xs⟩, ⟨a1, I.length, c1, ys⟩] (h :: I) w rfl ⟨hb, fun i hi => ?_, fun i hi => ?_⟩ ⟨by simp [sumN]; omega, fun i hi => ?_⟩ hB (by simp) (by omega) (by omega) hsz
  · rcases two i hi with rfl | rfl
    · exact hc0
    · exact hc1
  · rcases two i hi with rfl | rfl
    · exact hx
    · exact hy
  · have hxl := hx.len
    simp only [List.length_cons, List.length_nil, Nat.zero_add, Nat.one_mul] at hxl
    cases i with
    | zero =>
      obtain ⟨cs, k1, k2, k3⟩ := hxs 0 (by simp)
      refine ⟨cs, k1, fun j hj => ?_, k3⟩
      have := k2 j hj
      simp only [catX, List.flatMap_cons, List.flatMap_nil, List.append_nil]
      rw [List.getElem?_append_left (by omega)]
      exact this
    | succ i =>
      obtain ⟨cs, k1, k2, k3⟩ := hys i (by simpa using hi)
      refine ⟨cs, k1, fun j hj => ?_, by simpa using k3⟩
      simp only [catX, List.flatMap_cons, List.flatMap_nil, List.append_nil]
      rw [List.getElem?_append_right (by omega), ← k2 j hj]
      congr 1
      omega

theorem nt0 (W : World) (v u : Value) (T : TypeId) : (W.alloc (.cells #[v, u] T)).cell? ⟨W.heap.size, 0, none⟩ = some v := cell_of_row _ _ 0 _ _ _ (heap_alloc_new W (.cells #[v, u] T))
theorem nt1 (W : World) (v u : Value) (T : TypeId) : (W.alloc (.cells #[v, u] T)).cell? ⟨W.heap.size, 1, none⟩ = some u := cell_of_row _ _ 1 _ _ _ (heap_alloc_new W (.cells #[v, u] T))
theorem ntl (W : World) (v u : Value) (T : TypeId) : W.heap.size < (W.alloc (.cells #[v, u] T)).heap.size := by simp
theorem nu0 (W : World) (v u x : Value) (T U : TypeId) : ((W.alloc (.cells #[v, u] T)).alloc (.cells #[x] U)).cell? ⟨W.heap.size, 0, none⟩ = some v := (((Upd.refl [] _).alloc (.cells #[x] U)).cell (p := ⟨W.heap.size, 0, none⟩) (ntl W v u T) (by simp)).trans (nt0 W v u T)
theorem nu1 (W : World) (v u x : Value) (T U : TypeId) : ((W.alloc (.cells #[v, u] T)).alloc (.cells #[x] U)).cell? ⟨W.heap.size, 1, none⟩ = some u := (((Upd.refl [] _).alloc (.cells #[x] U)).cell (p := ⟨W.heap.size, 1, none⟩) (ntl W v u T) (by simp)).trans (nt1 W v u T)
theorem nul (W : World) (v u x : Value) (T U : TypeId) : W.heap.size < ((W.alloc (.cells #[v, u] T)).alloc (.cells #[x] U)).heap.size := by simp; omega
theorem nv (W : World) (v u x : Value) (T U : TypeId) : ((W.alloc (.cells #[v, u] T)).alloc (.cells #[x] U)).cell? ⟨W.heap.size + 1, 0, none⟩ = some x := (FunB.new (W.alloc (.cells #[v, u] T)) x U _ (by simp)).cell
theorem nvl (W : World) (v u x : Value) (T U : TypeId) : W.heap.size + 1 < ((W.alloc (.cells #[v, u] T)).alloc (.cells #[x] U)).heap.size := by simp
theorem ny (W : World) (v u x : Value) (T U : TypeId) : ((W.alloc (.cells #[x] U)).alloc (.cells #[v, u] T)).cell? ⟨W.heap.size, 0, none⟩ = some x := ((FunB.new W x U _ rfl).mono ((Upd.refl [] _).alloc _) (by simp)).cell
theorem nyl (W : World) (v u x : Value) (T U : TypeId) : W.heap.size < ((W.alloc (.cells #[x] U)).alloc (.cells #[v, u] T)).heap.size := by simp; omega
theorem ny0 (W : World) (v u x : Value) (T U : TypeId) : ((W.alloc (.cells #[x] U)).alloc (.cells #[v, u] T)).cell? ⟨W.heap.size + 1, 0, none⟩ = some v := by have := nt0 (W.alloc (.cells #[x] U)) v u T; rwa [show (W.alloc (.cells #[x] U)).heap.size = W.heap.size + 1 by simp] at this
theorem ny1 (W : World) (v u x : Value) (T U : TypeId) : ((W.alloc (.cells #[x] U)).alloc (.cells #[v, u] T)).cell? ⟨W.heap.size + 1, 1, none⟩ = some u := by have := nt1 (W.alloc (.cells #[x] U)) v u T; rwa [show (W.alloc (.cells #[x] U)).heap.size = W.heap.size + 1 by simp] at this
theorem nyl0 (W : World) (v u x : Value) (T U : TypeId) : W.heap.size + 1 < ((W.alloc (.cells #[x] U)).alloc (.cells #[v, u] T)).heap.size := by simp

/-- A term ahead of a list. -/
def consT (h : Tm) (I T : List Tm) : Tm := .mk 7 0 false [] ⟨#[]⟩ (h :: I) T

set_option maxHeartbeats 8000000 in
set_option maxRecDepth 100000 in
theorem Cons_list (B d ci ct c : Nat) (num : Int) (neg : Bool) (s : ByteArray) (L : List Nat) (a ai at' : Option Addr) (I T : List Tm) (h : Tm) (q0 q1 q2 q3 q4 q5 q6 : Value) (w : World) (hB : B ≤ w.heap.size) (hh : InB (fun b => b < B) w (d + 1) [q0, q1, q2, q3, q4, q5, q6] h) (hin : InB (fun b => b < B) w (d + 1) [.int .u8 7, .bool neg, .slice a L.length c, .string s, .int .i64 num, .slice ai I.length ci, .slice at' T.length ct] (.mk 7 num neg L s I T))
    (hzh : tsz h ≤ 1353245080330) (hz : tsz (.mk 7 num neg L s I T) ≤ 1353245080330) (hok : okS (.mk 7 num neg L s I T) = true) (hokh : okS h = true) (hokc : okS (consT h I T) = true) :
    Calls Tryd.prog 13 #[.agg #[q0, q1, q2, q3, q4, q5, q6], .agg #[.int .u8 7, .bool neg, .slice a L.length c, .string s, .int .i64 num, .slice ai I.length ci, .slice at' T.length ct]] w (TermP B w (d + 2) (consT h I T)) := by
  have HR1 : Hid (∀ V, Upd [] w V → Calls Tryd.prog 8 #[.agg #[q0, q1, q2, q3, q4, q5, q6]] V fun e w' => e = .returned (.bool true) ∧ Upd [] V w') := fun V hU => by
    have := TRight_in (d + 1) V _ _ (In.mono hU _ _ _ (InB.plain _ _ _ hh)) hzh
    rw [hokh] at this
    exact this
  have HR2 : Hid (∀ V, Upd [] w V → Calls Tryd.prog 8 #[.agg #[.int .u8 7, .bool neg, .slice a L.length c, .string s, .int .i64 num, .slice ai I.length ci, .slice at' T.length ct]] V fun e w' => e = .returned (.bool true) ∧ Upd [] V w') := fun V hU => by
    have := TRight_in (d + 1) V _ _ (In.mono hU _ _ _ (InB.plain _ _ _ hin)) hz
    rw [hok] at this
    exact this
  have hone := (InB.plain _ _ _ hh).one
  have hbl : (h :: I).length + belR (h :: I) + (T.length + belR T) ≤ 60000 := by
    unfold okS at hokc
    rw [Bool.and_eq_true, decide_eq_true_eq] at hokc
    have := bel_lt (consT h I T)
    unfold consT at this hokc
    rw [belT] at this
    omega
  simp only [tsz] at hz
  have hzI : tszs I ≤ 1353245080330 := by omega
  have hzT : tszs T ≤ 1353245080330 := by omega
  have hzJ : tszs (h :: I) ≤ 1353245080330 := by
    have h1 : I.length ≤ 60000 := by simp only [List.length_cons] at hbl; omega
    simp only [tszs]; omega
  obtain ⟨_, _, _, _, _, _, e, _, _, hI, hT⟩ := hin
  simp only [List.cons.injEq, Value.slice.injEq, true_and, and_true] at e
  obtain ⟨e2, ⟨e5, e5'⟩, e6, e6'⟩ := e
  rw [← e5] at hI
  rw [← e6] at hT
  clear e2 e5 e5' e6 e6' hz hok hokh
  have hU0 : Upd [] w (((w.alloc (.cells #[q0, q1, q2, q3, q4, q5, q6] 26)).alloc (.cells #[.int .u8 7, .bool neg, .slice a L.length c, .string s, .int .i64 num, .slice ai I.length ci, .slice at' T.length ct] 26)).alloc (.cells #[.int .u8 0, .bool false, .slice none 0 0, .string ⟨#[]⟩, .int .i64 0, .slice none 0 0, .slice none 0 0] 26)) := (((Upd.refl [] w).alloc _).alloc _).alloc _
  have tb0 : Tb (((w.alloc (.cells #[q0, q1, q2, q3, q4, q5, q6] 26)).alloc (.cells #[.int .u8 7, .bool neg, .slice a L.length c, .string s, .int .i64 num, .slice ai I.length ci, .slice at' T.length ct] 26)).alloc (.cells #[.int .u8 0, .bool false, .slice none 0 0, .string ⟨#[]⟩, .int .i64 0, .slice none 0 0, .slice none 0 0] 26)) w.heap.size #[q0, q1, q2, q3, q4, q5, q6] := ((Tb.new _ _ _ rfl).old _).old _
  have tb1 : Tb (((w.alloc (.cells #[q0, q1, q2, q3, q4, q5, q6] 26)).alloc (.cells #[.int .u8 7, .bool neg, .slice a L.length c, .string s, .int .i64 num, .slice ai I.length ci, .slice at' T.length ct] 26)).alloc (.cells #[.int .u8 0, .bool false, .slice none 0 0, .string ⟨#[]⟩, .int .i64 0, .slice none 0 0, .slice none 0 0] 26)) (w.heap.size + 1) #[.int .u8 7, .bool neg, .slice a L.length c, .string s, .int .i64 num, .slice ai I.length ci, .slice at' T.length ct] := (Tb.new _ _ _ (by simp)).old _
  have tb2 : Tb (((w.alloc (.cells #[q0, q1, q2, q3, q4, q5, q6] 26)).alloc (.cells #[.int .u8 7, .bool neg, .slice a L.length c, .string s, .int .i64 num, .slice ai I.length ci, .slice at' T.length ct] 26)).alloc (.cells #[.int .u8 0, .bool false, .slice none 0 0, .string ⟨#[]⟩, .int .i64 0, .slice none 0 0, .slice none 0 0] 26)) (w.heap.size + 1 + 1) #[.int .u8 0, .bool false, .slice none 0 0, .string ⟨#[]⟩, .int .i64 0, .slice none 0 0, .slice none 0 0] := Tb.new _ _ _ (by simp)
  obtain ⟨W, hW⟩ : ∃ W, W = (((w.alloc (.cells #[q0, q1, q2, q3, q4, q5, q6] 26)).alloc (.cells #[.int .u8 7, .bool neg, .slice a L.length c, .string s, .int .i64 num, .slice ai I.length ci, .slice at' T.length ct] 26)).alloc (.cells #[.int .u8 0, .bool false, .slice none 0 0, .string ⟨#[]⟩, .int .i64 0, .slice none 0 0, .slice none 0 0] 26)) := ⟨_, rfl⟩
  have hsW : W.heap.size = w.heap.size + 3 := by rw [hW]; simp
  have hIl : I.length ≤ 1353245080330 := Nat.le_trans (tszs_len I) hzI
  have hTl : T.length ≤ 1353245080330 := Nat.le_trans (tszs_len T) hzT
  have HI : Hid (RowB (fun b => b < B) (InB (fun b => b < B) w (d + 1)) w ai I) := by
    rcases hI with h | ⟨b, o, e, hb, hlt, hc⟩
    · exact Or.inl h
    · refine Or.inr ⟨b, o, e, hb, hlt, fun i hi => ?_⟩
      obtain ⟨cs, k1, k2, k3⟩ := hc i hi
      exact ⟨cs, k1, k2, InB.more _ _ _ k3⟩
  have HT : Hid (RowB (fun b => b < B) (InB (fun b => b < B) w (d + 1)) w at' T) := by
    rcases hT with h | ⟨b, o, e, hb, hlt, hc⟩
    · exact Or.inl h
    · refine Or.inr ⟨b, o, e, hb, hlt, fun i hi => ?_⟩
      obtain ⟨cs, k1, k2, k3⟩ := hc i hi
      exact ⟨cs, k1, k2, InB.more _ _ _ k3⟩
  have HX0 : Hid (InB (fun b => b < B) w (d + 1) [q0, q1, q2, q3, q4, q5, q6] h) := hh
  have HOC : Hid (okS (consT h I T) = true) := hokc
  have HW : Hid (W = (((w.alloc (.cells #[q0, q1, q2, q3, q4, q5, q6] 26)).alloc (.cells #[.int .u8 7, .bool neg, .slice a L.length c, .string s, .int .i64 num, .slice ai I.length ci, .slice at' T.length ct] 26)).alloc (.cells #[.int .u8 0, .bool false, .slice none 0 0, .string ⟨#[]⟩, .int .i64 0, .slice none 0 0, .slice none 0 0] 26))) := hW
  clear hI hT hh hokc
  go_enter Tryd.func13, Tryd.ntmps13
  go_wp2_with (first | (refine load_T _ rfl _ rfl _ _ rfl tb0 rfl ?_) | fail)
  rw [← hW] at hU0 tb0 tb1 tb2 ⊢
  clear hW
  refine Calls.mono (HR1.out W hU0) ?_
  rintro e w1 ⟨rfl, hU1⟩
  have tc1 := tb1.mono hU1 (by simp)
  go_wp2_with (first | (refine load_G _ _ rfl _ _ rfl tc1 rfl rfl ?_) | fail)
  refine Calls.mono (HR2.out w1 (hU0.trans hU1)) ?_
  rintro e w2 ⟨rfl, hU2⟩
  have hU3 : Upd [] W w2 := hU1.trans hU2
  have td0 := tb0.mono hU3 (by simp)
  have td1 := tb1.mono hU3 (by simp)
  have td2 := tb2.mono hU3 (by simp)
  have hUa : Upd [] w2 (w2.alloc (.cells #[q0, q1, q2, q3, q4, q5, q6] 26)) := (Upd.refl [] w2).alloc _
  have te1 := td1.old (.cells #[q0, q1, q2, q3, q4, q5, q6] 26)
  have te2 := td2.old (.cells #[q0, q1, q2, q3, q4, q5, q6] 26)
  have tef : Tb (w2.alloc (.cells #[q0, q1, q2, q3, q4, q5, q6] 26)) w2.heap.size #[q0, q1, q2, q3, q4, q5, q6] := Tb.new _ _ _ rfl
  have x0 : (w2.alloc (.cells #[q0, q1, q2, q3, q4, q5, q6] 26)).cell? ⟨w.heap.size + 1, 0, none⟩ = some (.int .u8 7) := te1.cell 0
  have hUW2 : Upd [] w w2 := hU0.trans hU3
  have hsz2 : w.heap.size + 3 ≤ w2.heap.size := by have := hU3.size; omega
  obtain ⟨X, hX⟩ : ∃ X, X = w2.alloc (.cells #[q0, q1, q2, q3, q4, q5, q6] 26) := ⟨_, rfl⟩
  have HSX : Hid (X.heap.size = w2.heap.size + 1) := by show _ = _; rw [hX]; simp
  go_wp2_with (first | (refine load_T _ rfl _ rfl _ _ rfl td0 rfl ?_) | fail)
  rw [← hX] at hUa te1 te2 tef x0 ⊢
  have HUX : Hid (Upd [] w X) := hUW2.trans hUa
  have HTE2 : Hid (Tb X _ _) := te2
  have HTF : Hid (Tb X w2.heap.size #[q0, q1, q2, q3, q4, q5, q6]) := tef
  have x5 : X.cell? ⟨w.heap.size + 1, 5, none⟩ = some (.slice ai I.length ci) := te1.cell 5
  have x6 : X.cell? ⟨w.heap.size + 1, 6, none⟩ = some (.slice at' T.length ct) := te1.cell 6
  have hl1 : w.heap.size + 1 < X.heap.size := te1.lt
  clear td0 td1 td2 tb0 tb1 tb2 tc1 hU1 hU2 hU3 hU0 hUa te1 te2 tef hX hUW2 x0
  have HF1 : Hid (∀ V g, Upd [] X V → g < V.heap.size → V.cell? ⟨g, 0, none⟩ = some (.slice (some ⟨w2.heap.size, 0, none⟩) 1 1) → V.cell? ⟨g, 1, none⟩ = some (.slice ai I.length ci) → Calls Tryd.prog 27 #[.slice (some ⟨g, 0, none⟩) 2 2] V (FreshP B V (d + 1) (h :: I))) := fun V g hU hg hc0 hc1 => by
    have hUV := HUX.out.trans hU
    have hr0 := Tb.row (R := InB (fun b => b < B) V (d + 1)) (cs := [q0, q1, q2, q3, q4, q5, q6]) (HTF.out.mono hU (by simp)) rfl (InB.upd hUV (by simp) (fun b hb _ => hb) _ _ _ HX0.out)
    exact fresh_two B g 2 1 ci (d + 1) _ ai h I _ (fun b => b < B) V hg (Nat.le_trans hB hUV.size) hc0 hc1 hr0 (RowB.upd hUV (by simp) (fun b hb _ => hb) HI.out) (by omega) hzJ
  have HF2 : Hid (∀ V g, Upd [] X V → g < V.heap.size → V.cell? ⟨g, 0, none⟩ = some (.slice at' T.length ct) → Calls Tryd.prog 27 #[.slice (some ⟨g, 0, none⟩) 1 1] V (FreshP B V (d + 1) T)) := fun V g hU hg hc => by
    have hUV := HUX.out.trans hU
    exact fresh_one B g 0 1 ct (d + 1) (fun b => b < B) at' T V hg (Nat.le_trans hB hUV.size) hc (RowB.upd hUV (by simp) (fun b hb _ => hb) HT.out) (by omega) hzT
  have hzC : tsz (consT h I T) ≤ 1353245080330 := by unfold consT; simp only [tsz, List.length_nil]; omega
  have HF3 : Hid (∀ V a3 c3 a4 c4, InB (Pl B X.heap.size) V (d + 2) [.int .u8 7, .bool false, .slice none 0 0, .string ⟨#[]⟩, .int .i64 0, .slice a3 (I.length + 1) c3, .slice a4 T.length c4] (consT h I T) → Calls Tryd.prog 28 #[.agg #[.int .u8 7, .bool false, .slice none 0 0, .string ⟨#[]⟩, .int .i64 0, .slice a3 (I.length + 1) c3, .slice a4 T.length c4]] V fun e w' => e = .returned (.agg #[.int .u8 7, .bool false, .slice none 0 0, .string ⟨#[]⟩, .int .i64 0, .slice a3 (I.length + 1) c3, .slice a4 T.length c4]) ∧ Upd [] V w') := fun V a3 c3 a4 c4 hin => by
    have := fitting_in (d + 2) V _ _ (InB.plain _ _ _ hin) hzC
    unfold fitC at this
    rw [HOC.out, if_pos rfl] at this
    exact this
  clear HR1 HR2
  go_wp2_with fail
  go_region_held3 (fun w' => w'.cell? ⟨w.heap.size + 1, 5, none⟩ = some (.slice ai I.length ci) ∧ w'.cell? ⟨w.heap.size + 1, 6, none⟩ = some (.slice at' T.length ct))
    (go_keep)
    (first
      | (go_at_call 28; go_loud (refine Calls.mono (HF3.out _ a3 c3 a4 c4 ?_) ?_); go_loud (exact ⟨none, a3, a4, 0, c3, c4, rfl, Or.inl rfl, Dig.nil, RowB.upd (S := []) (w := w3) (Upd.trans uw4.out (by repeat (first | exact Upd.refl _ _ | refine Upd.drew ?_ | refine Upd.alloc ?_ _))) (by simp) (fun b hb _ => hb) HR3.out, RowB.upd (S := []) (w := w4) (by repeat (first | exact Upd.refl _ _ | refine Upd.drew ?_ | refine Upd.alloc ?_ _)) (by simp) (fun b hb _ => hb) HR4.out⟩); rintro e w5 ⟨rfl, hU5⟩; have uw5 : Hid (Upd [] w4 w5) := Upd.trans (by repeat (first | exact Upd.refl _ _ | refine Upd.drew ?_ | refine Upd.alloc ?_ _)) hU5; clear hU5; have mx5 : w5.cell? ⟨w.heap.size + 1, 5, none⟩ = some (.slice ai I.length ci) := (((uw3.out.trans uw4.out).trans uw5.out).cell (p := ⟨w.heap.size + 1, 5, none⟩) hl1 (by simp)).trans x5; have mx6 : w5.cell? ⟨w.heap.size + 1, 6, none⟩ = some (.slice at' T.length ct) := (((uw3.out.trans uw4.out).trans uw5.out).cell (p := ⟨w.heap.size + 1, 6, none⟩) hl1 (by simp)).trans x6; have tbx := ((HTE2.out.mono uw3.out (by simp)).mono uw4.out (by simp)).mono uw5.out (by simp); have z0 : w5.cell? ⟨w.heap.size + 1 + 1, 0, none⟩ = some (.int .u8 0) := tbx.cell 0; have f0 : w5.frozen? ⟨w.heap.size + 1 + 1, 0, none⟩ = false := tbx.free 0; have z1 : w5.cell? ⟨w.heap.size + 1 + 1, 1, none⟩ = some (.bool false) := tbx.cell 1; have f1 : w5.frozen? ⟨w.heap.size + 1 + 1, 1, none⟩ = false := tbx.free 1; have z2 : w5.cell? ⟨w.heap.size + 1 + 1, 2, none⟩ = some (.slice none 0 0) := tbx.cell 2; have f2 : w5.frozen? ⟨w.heap.size + 1 + 1, 2, none⟩ = false := tbx.free 2; have z3 : w5.cell? ⟨w.heap.size + 1 + 1, 3, none⟩ = some (.string ⟨#[]⟩) := tbx.cell 3; have f3 : w5.frozen? ⟨w.heap.size + 1 + 1, 3, none⟩ = false := tbx.free 3; have z4 : w5.cell? ⟨w.heap.size + 1 + 1, 4, none⟩ = some (.int .i64 0) := tbx.cell 4; have f4 : w5.frozen? ⟨w.heap.size + 1 + 1, 4, none⟩ = false := tbx.free 4; have z5 : w5.cell? ⟨w.heap.size + 1 + 1, 5, none⟩ = some (.slice none 0 0) := tbx.cell 5; have f5 : w5.frozen? ⟨w.heap.size + 1 + 1, 5, none⟩ = false := tbx.free 5; have z6 : w5.cell? ⟨w.heap.size + 1 + 1, 6, none⟩ = some (.slice none 0 0) := tbx.cell 6; have f6 : w5.frozen? ⟨w.heap.size + 1 + 1, 6, none⟩ = false := tbx.free 6; have HTX : Hid (Tb w5 _ _) := tbx; clear tbx)
      | (go_at_call 27; (have _hw := uw3); go_loud (refine Calls.mono (HF2.out _ _ (by repeat (first | exact Upd.refl _ _ | exact uw3.out | refine Upd.drew ?_ | refine Upd.alloc ?_ _)) ?_ ?_) ?_); go_loud (first | exact nw0l _ _ _ | exact Nat.lt_of_lt_of_le (nvl _ _ _ _ _ _) HU3.out.size | exact Nat.lt_of_lt_of_le (nyl _ _ _ _ _ _) HU3.out.size); go_loud (first | exact nw0 _ _ _ | exact (HU3.out.cell (nvl _ _ _ _ _ _) (by simp)).trans (nv _ _ _ _ _ _) | exact (HU3.out.cell (nyl _ _ _ _ _ _) (by simp)).trans (ny _ _ _ _ _ _)); rintro e w4 ⟨a4, c4, rfl, hR4, hU4⟩; have uw4 : Hid (Upd [] w3 w4) := Upd.trans (by repeat (first | exact Upd.refl _ _ | refine Upd.drew ?_ | refine Upd.alloc ?_ _)) hU4; have HR4 : Hid (RowB (Pl B X.heap.size) (InB (Pl B X.heap.size) w4 (d + 1)) w4 a4 T) := hR4.weak (Nat.le_trans uw3.out.size (Upd.size (w := w3) (S := []) (by repeat (first | exact Upd.refl _ _ | refine Upd.drew ?_ | refine Upd.alloc ?_ _)))); clear hR4 hU4; have lx5 : w4.cell? ⟨w.heap.size + 1, 5, none⟩ = some (.slice ai I.length ci) := ((uw3.out.trans uw4.out).cell (p := ⟨w.heap.size + 1, 5, none⟩) hl1 (by simp)).trans x5; have lx6 : w4.cell? ⟨w.heap.size + 1, 6, none⟩ = some (.slice at' T.length ct) := ((uw3.out.trans uw4.out).cell (p := ⟨w.heap.size + 1, 6, none⟩) hl1 (by simp)).trans x6)
      | (go_at_call 27; go_loud (refine Calls.mono (HF1.out _ _ (by repeat (first | exact Upd.refl _ _ | refine Upd.drew ?_ | refine Upd.alloc ?_ _)) ?_ ?_ ?_) ?_); go_loud (first | exact ntl _ _ _ _ | exact nul _ _ _ _ _ _ | exact nyl0 _ _ _ _ _ _); go_loud (first | exact nt0 _ _ _ _ | exact nu0 _ _ _ _ _ _ | exact ny0 _ _ _ _ _ _); go_loud (first | exact nt1 _ _ _ _ | exact nu1 _ _ _ _ _ _ | exact ny1 _ _ _ _ _ _); rintro e w3 ⟨a3, c3, rfl, hR3, hU3⟩; have uw3 : Hid (Upd [] X w3) := Upd.trans (by repeat (first | exact Upd.refl _ _ | refine Upd.drew ?_ | refine Upd.alloc ?_ _)) hU3; have HR3 : Hid (RowB (Pl B X.heap.size) (InB (Pl B X.heap.size) w3 (d + 1)) w3 a3 (h :: I)) := hR3.weak (Upd.size (w := X) (S := []) (by repeat (first | exact Upd.refl _ _ | refine Upd.drew ?_ | refine Upd.alloc ?_ _))); have HU3 : Hid (Upd [] _ w3) := hU3; clear hR3 hU3; have kx5 : w3.cell? ⟨w.heap.size + 1, 5, none⟩ = some (.slice ai I.length ci) := (uw3.out.cell (p := ⟨w.heap.size + 1, 5, none⟩) hl1 (by simp)).trans x5; have kx6 : w3.cell? ⟨w.heap.size + 1, 6, none⟩ = some (.slice at' T.length ct) := (uw3.out.cell (p := ⟨w.heap.size + 1, 6, none⟩) hl1 (by simp)).trans x6))
  all_goals
    have hsX2 := HSX.out
    obtain ⟨W5, hW5, hT5, hin5, hU5⟩ := list_end B X.heap.size (d + 1) (w.heap.size + 1 + 1) (I.length + 1) c3 T.length c4 a3 a4 (h :: I) T w w5 (by simp) rfl (by omega) (by omega) hB (((HUX.out.trans uw3.out).trans uw4.out).trans uw5.out) HTX.out (RowB.upd (S := []) (uw4.out.trans uw5.out) (by simp) (fun b hb _ => hb) HR3.out) (RowB.upd (S := []) uw5.out (by simp) (fun b hb _ => hb) HR4.out)
    rw [← hW5]
    have HIN5 : Hid (InB (fun b => b < B ∨ w.heap.size ≤ b) W5 (d + 2) _ (consT h I T)) := hin5
    have HU5 : Hid (Upd [] w W5) := hU5
    clear z0 z1 z2 z3 z4 z5 z6 f0 f1 f2 f3 f4 f5 f6 hW5 hin5 hU5 x5 x6 kx5 kx6 lx5 lx6 mx5 mx6 hsX2
    go_wp2
    exact ret_T Tryd.results13 rfl _ _ rfl hT5 rfl ⟨_, rfl, rfl, HIN5.out, HU5.out⟩

end Go.Proofs.YtedelcgimbclpaaDoor

/- Lists put together and parted, as plain mathematics. -/
namespace Go.Proofs.YtedelcgimbclpaaDoor
open Go.RowKit

def zeroT : Tm := .mk 0 0 false [] ⟨#[]⟩ [] []
/-- A term ahead of another one. -/
def consI (h : Tm) : Tm → Tm
  | .mk k num neg L s I T => if k = 7 then consT h I T else consT h [] [.mk k num neg L s I T]
/-- What Cons tells. -/
def consS (h t : Tm) : Tm := if okS h && okS t && okS (consI h t) then consI h t else zeroT
/-- What a list has behind its first item. -/
def restT : Tm → Tm
  | .mk _ _ _ _ _ I T => if I.length ≤ 1 then T.headD nilT else .mk 7 0 false [] ⟨#[]⟩ (I.drop 1) T
def headT : Tm → Tm
  | .mk _ _ _ _ _ I _ => I.headD nilT
/-- A list that has items. -/
def splits : Tm → Bool
  | .mk k _ _ _ _ I _ => decide (k = 7) && decide (0 < I.length)

theorem consI_l (h : Tm) (num : Int) (neg : Bool) (L : List Nat) (s : ByteArray) (I T : List Tm) : consI h (.mk 7 num neg L s I T) = consT h I T := by rw [consI, if_pos rfl]
theorem consI_e (h : Tm) (k num : Int) (neg : Bool) (L : List Nat) (s : ByteArray) (I T : List Tm) (hk : ¬ k = 7) : consI h (.mk k num neg L s I T) = consT h [] [.mk k num neg L s I T] := by rw [consI, if_neg hk]
theorem okS_iff (t : Tm) : okS t = true ↔ okT' t = true ∧ szT t ≤ 4096 := by
  unfold okS
  rw [Bool.and_eq_true, decide_eq_true_eq]
theorem empty_bytes {s : ByteArray} (h : s.size = 0) : s = ⟨#[]⟩ := by
  obtain ⟨⟨l⟩⟩ := s
  cases l with
  | nil => rfl
  | cons x r => simp [ByteArray.size] at h
/-- A right list's fields. -/
theorem okF_list {num : Int} {neg : Bool} {L : List Nat} {s : ByteArray} {n : Nat} {T : List Tm} (h : okF 7 num neg L s n T = true) : num = 0 ∧ neg = false ∧ L = [] ∧ s = ⟨#[]⟩ ∧ (T = [] ∨ ∃ u, T = [u] ∧ 0 < n ∧ u.kd ≠ 7) := by
  unfold okF at h
  simp only [show ¬ ((7 : Int) = 1) by decide, show ¬ ((7 : Int) = 2) by decide, show ¬ ((7 : Int) = 3 ∨ (7 : Int) = 5) by decide, show ¬ ((7 : Int) = 4) by decide, show ¬ ((7 : Int) = 6) by decide, if_false, if_true, Bool.and_eq_true, decide_eq_true_eq] at h
  obtain ⟨⟨h1, h2⟩, ⟨h3, h4⟩, h5⟩ := h
  refine ⟨h4, h1, List.eq_nil_of_length_eq_zero h2, empty_bytes h3, ?_⟩
  match T, h5 with
  | [], _ => exact Or.inl rfl
  | [u], h5 =>
    simp only [Bool.and_eq_true, decide_eq_true_eq] at h5
    exact Or.inr ⟨u, rfl, h5.1, h5.2⟩
  | _ :: _ :: _, h5 => simp at h5
theorem okF_mk (n : Nat) (T : List Tm) (h : T = [] ∨ ∃ u, T = [u] ∧ 0 < n ∧ u.kd ≠ 7) : okF 7 0 false [] ⟨#[]⟩ n T = true := by
  rcases h with rfl | ⟨u, rfl, h1, h2⟩
  · rfl
  · unfold okF
    simp [h1, h2]
    rfl
/-- Two right terms, one ahead of the other, are right but for their size. -/
theorem cons_ok (h t : Tm) (hh : okT' h = true) (ht : okT' t = true) : okT' (consI h t) = true := by
  obtain ⟨k, num, neg, L, s, I, T⟩ := t
  by_cases hk : k = 7
  · subst hk
    rw [consI_l, consT, okT']
    rw [okT', Bool.and_eq_true, Bool.and_eq_true] at ht
    obtain ⟨_, _, _, _, hT⟩ := okF_list ht.1.1
    rw [okR, hh, ht.1.2, ht.2, okF_mk _ _ (by
      rcases hT with h | ⟨u, h1, _, h3⟩
      · exact Or.inl h
      · exact Or.inr ⟨u, h1, by simp, h3⟩)]
    rfl
  · rw [consI_e _ _ _ _ _ _ _ _ hk, consT, okT', okR, okR, okR, okR, hh, ht, okF_mk [h].length [.mk k num neg L s I T] (Or.inr ⟨.mk k num neg L s I T, rfl, by simp, hk⟩)]
    rfl
/-- How great they are. -/
theorem cons_sz (h t : Tm) : szT (consI h t) = szT h + szT t + (if t.kd = 7 then 1 else 2) := by
  obtain ⟨k, num, neg, L, s, I, T⟩ := t
  by_cases hk : k = 7
  · subst hk
    rw [consI_l]
    have e1 : ownZ 7 ([] : List Nat).length (h :: I).length = 1 + (I.length + 1) := rfl
    have e2 : ownZ 7 L.length I.length = 1 + I.length := rfl
    rw [consT, szT, szT, szR, e1, e2]
    simp only [Tm.kd, if_true]
    omega
  · rw [consI_e _ _ _ _ _ _ _ _ hk, consT, szT, szR, szR, szR, szR]
    have e1 : ownZ 7 ([] : List Nat).length [h].length = 2 := rfl
    rw [e1, show (Tm.mk k num neg L s I T).kd = k from rfl, if_neg hk]
    omega
theorem sz_pos (t : Tm) : 0 < szT t := by have := bel_lt t; omega
theorem cons_okS (h t : Tm) (hh : okS h = true) (ht : okS t = true) : okS (consI h t) = decide (szT h + szT t + (if t.kd = 7 then 1 else 2) ≤ 4096) := by
  rw [okS_iff] at hh ht
  unfold okS
  rw [cons_ok h t hh.1 ht.1, cons_sz]
  simp
theorem cons_kd (h t : Tm) : (consI h t).kd = 7 := by
  obtain ⟨k, num, neg, L, s, I, T⟩ := t
  by_cases hk : k = 7
  · subst hk; rw [consI_l, consT]; simp [Tm.kd]
  · rw [consI_e _ _ _ _ _ _ _ _ hk, consT]; simp [Tm.kd]
theorem cons_splits (h t : Tm) : splits (consI h t) = true := by
  obtain ⟨k, num, neg, L, s, I, T⟩ := t
  by_cases hk : k = 7
  · subst hk; rw [consI_l, consT]; simp [splits]
  · rw [consI_e _ _ _ _ _ _ _ _ hk, consT]; simp [splits]
theorem cons_head (h t : Tm) : headT (consI h t) = h := by
  obtain ⟨k, num, neg, L, s, I, T⟩ := t
  by_cases hk : k = 7
  · subst hk; rw [consI_l, consT]; simp [headT]
  · rw [consI_e _ _ _ _ _ _ _ _ hk, consT]; simp [headT]
theorem cons_rest (h t : Tm) (ht : okT' t = true) : restT (consI h t) = t := by
  obtain ⟨k, num, neg, L, s, I, T⟩ := t
  by_cases hk : k = 7
  · subst hk
    rw [okT', Bool.and_eq_true, Bool.and_eq_true] at ht
    obtain ⟨rfl, rfl, rfl, rfl, hT⟩ := okF_list ht.1.1
    rw [consI_l, consT, restT]
    cases I with
    | nil =>
      rcases hT with rfl | ⟨u, rfl, h1, _⟩
      · rfl
      · simp at h1
    | cons x r => simp
  · rw [consI_e _ _ _ _ _ _ _ _ hk, consT, restT]
    simp
/-- A right list parted: both are right, and put together they are the list. -/
theorem parts_ok (t : Tm) (ht : okS t = true) (hs : splits t = true) : okS (headT t) = true ∧ okS (restT t) = true ∧ consI (headT t) (restT t) = t := by
  obtain ⟨k, num, neg, L, s, I, T⟩ := t
  rw [okS_iff] at ht
  unfold splits at hs
  rw [Bool.and_eq_true, decide_eq_true_eq, decide_eq_true_eq] at hs
  obtain ⟨rfl, hI⟩ := hs
  obtain ⟨ht, hz⟩ := ht
  rw [okT', Bool.and_eq_true, Bool.and_eq_true] at ht
  obtain ⟨rfl, rfl, rfl, rfl, hT⟩ := okF_list ht.1.1
  cases I with
  | nil => simp at hI
  | cons x r =>
    rw [szT, szR, List.length_cons] at hz
    have hr := ht.1.2
    rw [okR, Bool.and_eq_true] at hr
    have ho : ownZ 7 ([] : List Nat).length (r.length + 1) = 1 + (r.length + 1) := rfl
    rw [ho] at hz
    refine ⟨?_, ?_, ?_⟩
    · rw [okS_iff]; exact ⟨hr.1, by simp only [headT, List.headD_cons]; omega⟩
    · rw [okS_iff, restT]
      cases r with
      | nil =>
        rw [if_pos (by simp)]
        rcases hT with rfl | ⟨u, rfl, h1, h2⟩
        · exact ⟨rfl, by decide⟩
        · have h3 := ht.2
          rw [okR, Bool.and_eq_true] at h3
          rw [szR, szR, szR] at hz
          exact ⟨h3.1, by simp only [List.headD_cons]; omega⟩
      | cons y q =>
        rw [if_neg (by simp), okT', List.drop_one, List.tail_cons, hr.2, ht.2, okF_mk _ _ (by
          rcases hT with h | ⟨u, h1, _, h3⟩
          · exact Or.inl h
          · exact Or.inr ⟨u, h1, by simp, h3⟩)]
        refine ⟨rfl, ?_⟩
        rw [szT]
        have ho2 : ownZ 7 ([] : List Nat).length (y :: q).length = 1 + (y :: q).length := rfl
        rw [ho2]
        omega
    · rw [restT, headT]
      cases r with
      | nil =>
        rw [if_pos (by simp)]
        rcases hT with rfl | ⟨u, rfl, h1, h2⟩
        · rfl
        · obtain ⟨k, num, neg, L, s, I, T⟩ := u
          simp only [List.headD_cons]
          rw [consI_e _ _ _ _ _ _ _ _ (show ¬ k = 7 from h2)]
          rfl
      | cons y q =>
        rw [if_neg (by simp)]
        simp only [List.headD_cons, List.drop_one, List.tail_cons]
        rw [consI_l]
        rfl

end Go.Proofs.YtedelcgimbclpaaDoor
