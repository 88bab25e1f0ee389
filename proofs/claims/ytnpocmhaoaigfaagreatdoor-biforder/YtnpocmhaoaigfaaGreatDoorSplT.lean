/- Split of package term, of lists of two and more: by its contract. -/
import Derived.Test.YtnpocmhaoaigfaaGreatDoorRstT
namespace Go.Proofs.YtnpocmhaoaigfaaGreatDoor
open Go.RowKit

/-- Seven cells, one behind the other. -/
theorem set7 (w : World) (g : Nat) (old : Array Value) (q0 q1 q2 q3 q4 q5 q6 : Value) (ht : Tb w g old) (h7 : old.size = 7) : ∃ W5, W5 = ((((((w.setCell ⟨g, 0, none⟩ q0).setCell ⟨g, 1, none⟩ q1).setCell ⟨g, 2, none⟩ q2).setCell ⟨g, 3, none⟩ q3).setCell ⟨g, 4, none⟩ q4).setCell ⟨g, 5, none⟩ q5).setCell ⟨g, 6, none⟩ q6 ∧ Tb W5 g #[q0, q1, q2, q3, q4, q5, q6] ∧ Upd [g] w W5 := by
  obtain ⟨a0, a1, a2, a3, a4, a5, a6, rfl⟩ : ∃ a0 a1 a2 a3 a4 a5 a6, old = #[a0, a1, a2, a3, a4, a5, a6] := by
    obtain ⟨l⟩ := old
    obtain ⟨a0, a1, a2, a3, a4, a5, a6, h⟩ := list7 (cs := l) (by simpa using h7)
    exact ⟨a0, a1, a2, a3, a4, a5, a6, by rw [h]⟩
  have t1 : Tb (w.setCell ⟨g, 0, none⟩ q0) g #[q0, a1, a2, a3, a4, a5, a6] := ht.set 0 _
  have u1 : Upd [g] w (w.setCell ⟨g, 0, none⟩ q0) := (Upd.refl [g] w).setCell (Or.inr (by simp)) _
  obtain ⟨x1, h1⟩ : ∃ x, x = w.setCell ⟨g, 0, none⟩ q0 := ⟨_, rfl⟩
  rw [← h1] at t1 u1 ⊢
  have t2 : Tb (x1.setCell ⟨g, 1, none⟩ q1) g #[q0, q1, a2, a3, a4, a5, a6] := t1.set 1 _
  have u2 := u1.setCell (p := ⟨g, 1, none⟩) (Or.inr (by simp)) q1
  obtain ⟨x2, h2⟩ : ∃ x, x = x1.setCell ⟨g, 1, none⟩ q1 := ⟨_, rfl⟩
  rw [← h2] at t2 u2 ⊢
  have t3 : Tb (x2.setCell ⟨g, 2, none⟩ q2) g #[q0, q1, q2, a3, a4, a5, a6] := t2.set 2 _
  have u3 := u2.setCell (p := ⟨g, 2, none⟩) (Or.inr (by simp)) q2
  obtain ⟨x3, h3⟩ : ∃ x, x = x2.setCell ⟨g, 2, none⟩ q2 := ⟨_, rfl⟩
  rw [← h3] at t3 u3 ⊢
  have t4 : Tb (x3.setCell ⟨g, 3, none⟩ q3) g #[q0, q1, q2, q3, a4, a5, a6] := t3.set 3 _
  have u4 := u3.setCell (p := ⟨g, 3, none⟩) (Or.inr (by simp)) q3
  obtain ⟨x4, h4⟩ : ∃ x, x = x3.setCell ⟨g, 3, none⟩ q3 := ⟨_, rfl⟩
  rw [← h4] at t4 u4 ⊢
  have t5 : Tb (x4.setCell ⟨g, 4, none⟩ q4) g #[q0, q1, q2, q3, q4, a5, a6] := t4.set 4 _
  have u5 := u4.setCell (p := ⟨g, 4, none⟩) (Or.inr (by simp)) q4
  obtain ⟨x5, h5⟩ : ∃ x, x = x4.setCell ⟨g, 4, none⟩ q4 := ⟨_, rfl⟩
  rw [← h5] at t5 u5 ⊢
  have t6 : Tb (x5.setCell ⟨g, 5, none⟩ q5) g #[q0, q1, q2, q3, q4, q5, a6] := t5.set 5 _
  have u6 := u5.setCell (p := ⟨g, 5, none⟩) (Or.inr (by simp)) q5
  obtain ⟨x6, h6⟩ : ∃ x, x = x5.setCell ⟨g, 5, none⟩ q5 := ⟨_, rfl⟩
  rw [← h6] at t6 u6 ⊢
  have t7 : Tb (x6.setCell ⟨g, 6, none⟩ q6) g #[q0, q1, q2, q3, q4, q5, q6] := t6.set 6 _
  have u7 := u6.setCell (p := ⟨g, 6, none⟩) (Or.inr (by simp)) q6
  exact ⟨_, rfl, t7, u7⟩

theorem InB.shape {P : Nat → Prop} {w : World} {d : Nat} {cs : List Value} {t : Tm} (h : InB P w d cs t) : ∃ (k num : Int) (neg : Bool) (s : ByteArray) (a1 a2 a3 : Option Addr) (n1 n2 n3 c1 c2 c3 : Nat), cs = [.int .u8 k, .bool neg, .slice a1 n1 c1, .string s, .int .i64 num, .slice a2 n2 c2, .slice a3 n3 c3] := by
  cases d with
  | zero => exact h.elim
  | succ d =>
    cases t
    obtain ⟨_, _, _, _, _, _, rfl, _⟩ := h
    exact ⟨_, _, _, _, _, _, _, _, _, _, _, _, _, rfl⟩

/-- A list is parted. -/
def SplitP (B : Nat) (w : World) (d : Nat) (h r : Tm) (e : Ending) (w' : World) : Prop := ∃ cs cs' : List Value, cs.length = 7 ∧ cs'.length = 7 ∧ e = .returned (.tuple #[.agg cs.toArray, .agg cs'.toArray, .bool true]) ∧ InB (fun b => b < B ∨ w.heap.size ≤ b) w' d cs h ∧ InB (fun b => b < B ∨ w.heap.size ≤ b) w' d cs' r ∧ Upd [] w w'

set_option maxHeartbeats 8000000 in
set_option maxRecDepth 100000 in
theorem Split_many (B d b o ci ct c : Nat) (num : Int) (neg : Bool) (s : ByteArray) (L : List Nat) (a at' : Option Addr) (I T : List Tm) (w : World) (hB : B ≤ w.heap.size) (hin : InB (fun b => b < B) w (d + 1) [.int .u8 7, .bool neg, .slice a L.length c, .string s, .int .i64 num, .slice (some ⟨b, o, none⟩) I.length ci, .slice at' T.length ct] (.mk 7 num neg L s I T))
    (hz : tsz (.mk 7 num neg L s I T) ≤ 1353245080330) (hok : okS (.mk 7 num neg L s I T) = true) (h2 : 2 ≤ I.length) (hcap : I.length ≤ ci) (hci : ci ≤ 9223372036854775807) :
    Calls Tryz.prog 106 #[.agg #[.int .u8 7, .bool neg, .slice a L.length c, .string s, .int .i64 num, .slice (some ⟨b, o, none⟩) I.length ci, .slice at' T.length ct]] w (SplitP B w (d + 1) (I.getD 0 nilT) (.mk 7 0 false [] ⟨#[]⟩ (I.drop 1) T)) := by
  have HR : Hid (∀ V, Upd [] w V → Calls Tryz.prog 7 #[.agg #[.int .u8 7, .bool neg, .slice a L.length c, .string s, .int .i64 num, .slice (some ⟨b, o, none⟩) I.length ci, .slice at' T.length ct]] V fun e w' => e = .returned (.bool true) ∧ Upd [] V w') := fun V hU => by
    have := TRight_in (d + 1) V _ _ (In.mono hU _ _ _ (InB.plain _ _ _ hin)) hz
    rw [hok] at this
    exact this
  have hbl : I.length + belR I + (T.length + belR T) ≤ 60000 := by
    unfold okS at hok
    rw [Bool.and_eq_true, decide_eq_true_eq] at hok
    have := bel_lt (.mk 7 num neg L s I T)
    rw [belT] at this
    omega
  simp only [tsz] at hz
  have hzI : tszs I ≤ 1353245080330 := by omega
  have hzT : tszs T ≤ 1353245080330 := by omega
  obtain ⟨_, _, _, _, _, _, e, _, _, hI, hT⟩ := hin
  simp only [List.cons.injEq, Value.slice.injEq, true_and, and_true] at e
  obtain ⟨e2, ⟨e5, e5'⟩, e6, e6'⟩ := e
  rw [← e5] at hI
  rw [← e6] at hT
  clear e2 e5 e5' e6 e6'
  obtain ⟨t, I', hIe⟩ : ∃ t I', I = t :: I' := by
    cases I with
    | nil => simp at h2
    | cons t r => exact ⟨t, r, rfl⟩
  have hbt : belT t ≤ 60000 := by rw [hIe, belR] at hbl; omega
  have hzt : tsz t ≤ 1353245080330 := by rw [hIe] at hzI; simp only [tszs] at hzI; omega
  have hrow : ∃ p0 p1 p2 p3 p4 p5 p6, (∀ j, j < 7 → w.cell? ⟨b, o + j, none⟩ = [p0, p1, p2, p3, p4, p5, p6][j]?) ∧ InB (fun b => b < B) w d [p0, p1, p2, p3, p4, p5, p6] t := by
    rcases hI with h0 | ⟨b', o', e, _, hlt, hc⟩
    · rw [hIe] at h0; cases h0
    · cases e
      obtain ⟨cs, k1, k2, k3⟩ := hc 0 (by omega)
      obtain ⟨p0, p1, p2, p3, p4, p5, p6, rfl⟩ := list7 k1
      refine ⟨p0, p1, p2, p3, p4, p5, p6, fun j hj => by have := k2 j hj; rwa [Nat.zero_mul, Nat.zero_add] at this, ?_⟩
      have : I[0] = t := by simp [hIe]
      rw [this] at k3
      exact k3
  obtain ⟨p0, p1, p2, p3, p4, p5, p6, hpc, hpin⟩ := hrow
  have hgd : I.getD 0 nilT = t := by rw [hIe]; rfl
  rw [hgd]
  have hblt : b < w.heap.size := by have := World.block_lt_of_cell? _ _ (hpc 0 (by omega)); exact this
  have hU0 : Upd [] w (((w.alloc (.cells #[.int .u8 7, .bool neg, .slice a L.length c, .string s, .int .i64 num, .slice (some ⟨b, o, none⟩) I.length ci, .slice at' T.length ct] 26)).alloc (.cells #[.int .u8 0, .bool false, .slice none 0 0, .string ⟨#[]⟩, .int .i64 0, .slice none 0 0, .slice none 0 0] 26)).alloc (.cells #[.int .u8 0, .bool false, .slice none 0 0, .string ⟨#[]⟩, .int .i64 0, .slice none 0 0, .slice none 0 0] 26)) := (((Upd.refl [] w).alloc _).alloc _).alloc _
  have tb0 : Tb (((w.alloc (.cells #[.int .u8 7, .bool neg, .slice a L.length c, .string s, .int .i64 num, .slice (some ⟨b, o, none⟩) I.length ci, .slice at' T.length ct] 26)).alloc (.cells #[.int .u8 0, .bool false, .slice none 0 0, .string ⟨#[]⟩, .int .i64 0, .slice none 0 0, .slice none 0 0] 26)).alloc (.cells #[.int .u8 0, .bool false, .slice none 0 0, .string ⟨#[]⟩, .int .i64 0, .slice none 0 0, .slice none 0 0] 26)) w.heap.size #[.int .u8 7, .bool neg, .slice a L.length c, .string s, .int .i64 num, .slice (some ⟨b, o, none⟩) I.length ci, .slice at' T.length ct] := ((Tb.new _ _ _ rfl).old _).old _
  have tb1 : Tb (((w.alloc (.cells #[.int .u8 7, .bool neg, .slice a L.length c, .string s, .int .i64 num, .slice (some ⟨b, o, none⟩) I.length ci, .slice at' T.length ct] 26)).alloc (.cells #[.int .u8 0, .bool false, .slice none 0 0, .string ⟨#[]⟩, .int .i64 0, .slice none 0 0, .slice none 0 0] 26)).alloc (.cells #[.int .u8 0, .bool false, .slice none 0 0, .string ⟨#[]⟩, .int .i64 0, .slice none 0 0, .slice none 0 0] 26)) (w.heap.size + 1) #[.int .u8 0, .bool false, .slice none 0 0, .string ⟨#[]⟩, .int .i64 0, .slice none 0 0, .slice none 0 0] := (Tb.new _ _ _ (by simp)).old _
  have tb2 : Tb (((w.alloc (.cells #[.int .u8 7, .bool neg, .slice a L.length c, .string s, .int .i64 num, .slice (some ⟨b, o, none⟩) I.length ci, .slice at' T.length ct] 26)).alloc (.cells #[.int .u8 0, .bool false, .slice none 0 0, .string ⟨#[]⟩, .int .i64 0, .slice none 0 0, .slice none 0 0] 26)).alloc (.cells #[.int .u8 0, .bool false, .slice none 0 0, .string ⟨#[]⟩, .int .i64 0, .slice none 0 0, .slice none 0 0] 26)) (w.heap.size + 1 + 1) #[.int .u8 0, .bool false, .slice none 0 0, .string ⟨#[]⟩, .int .i64 0, .slice none 0 0, .slice none 0 0] := Tb.new _ _ _ (by simp)
  obtain ⟨W, hW⟩ : ∃ W, W = (((w.alloc (.cells #[.int .u8 7, .bool neg, .slice a L.length c, .string s, .int .i64 num, .slice (some ⟨b, o, none⟩) I.length ci, .slice at' T.length ct] 26)).alloc (.cells #[.int .u8 0, .bool false, .slice none 0 0, .string ⟨#[]⟩, .int .i64 0, .slice none 0 0, .slice none 0 0] 26)).alloc (.cells #[.int .u8 0, .bool false, .slice none 0 0, .string ⟨#[]⟩, .int .i64 0, .slice none 0 0, .slice none 0 0] 26)) := ⟨_, rfl⟩
  have hsW : W.heap.size = w.heap.size + 3 := by rw [hW]; simp
  have i0 : ((I.length : Int) == 0) = false := beq_eq_false_iff_ne.2 (by omega)
  have i1 : (0 : Int) < (I.length : Int) := by omega
  have i2 : 0 < I.length := by omega
  have hIl : I.length ≤ 1353245080330 := Nat.le_trans (tszs_len I) hzI
  have hTl : T.length ≤ 1353245080330 := Nat.le_trans (tszs_len T) hzT
  have HI : Hid (RowB (fun b => b < B) (InB (fun b => b < B) w d) w (some ⟨b, o, none⟩) I) := hI
  have HT : Hid (RowB (fun b => b < B) (InB (fun b => b < B) w d) w at' T) := hT
  have HP : Hid (InB (fun b => b < B) w d [p0, p1, p2, p3, p4, p5, p6] t) := hpin
  have HPC : Hid (∀ j, j < 7 → w.cell? ⟨b, o + j, none⟩ = [p0, p1, p2, p3, p4, p5, p6][j]?) := hpc
  clear hI hT hpin hpc hgd hIe hok hz
  go_enter Tryz.func106, Tryz.ntmps106
  rw [← hW] at hU0 tb0 tb1 tb2
  have HW : Hid (W = _) := hW
  go_wp2_with fail
  rw [← HW.out]
  refine Calls.mono (HR.out W hU0) ?_
  rintro e w1 ⟨rfl, hU1⟩
  have tc0 := tb0.mono hU1 (by simp)
  have HT1 : Hid (Tb w1 _ _) := tb1.mono hU1 (by simp)
  have HT2 : Hid (Tb w1 _ _) := tb2.mono hU1 (by simp)
  have HU1 : Hid (Upd [] w w1) := hU0.trans hU1
  have hl1 : w.heap.size < w1.heap.size := tc0.lt
  have hlb : b < w1.heap.size := Nat.lt_of_lt_of_le hblt HU1.out.size
  have hsz1 : w.heap.size + 3 ≤ w1.heap.size := by have := hU1.size; omega
  clear tb0 tb1 tb2 hU1 hU0
  have x0 : w1.cell? ⟨w.heap.size, 0, none⟩ = some (.int .u8 7) := tc0.cell 0
  have x1 : w1.cell? ⟨w.heap.size, 1, none⟩ = some (.bool neg) := tc0.cell 1
  have x2 : w1.cell? ⟨w.heap.size, 2, none⟩ = some (.slice a L.length c) := tc0.cell 2
  have x3 : w1.cell? ⟨w.heap.size, 3, none⟩ = some (.string s) := tc0.cell 3
  have x4 : w1.cell? ⟨w.heap.size, 4, none⟩ = some (.int .i64 num) := tc0.cell 4
  have x5 : w1.cell? ⟨w.heap.size, 5, none⟩ = some (.slice (some ⟨b, o, none⟩) I.length ci) := tc0.cell 5
  have x6 : w1.cell? ⟨w.heap.size, 6, none⟩ = some (.slice at' T.length ct) := tc0.cell 6
  have y0 : w1.cell? ⟨b, o, none⟩ = some p0 := (HU1.out.cell (p := ⟨b, o, none⟩) hblt (by simp)).trans (HPC.out 0 (by omega))
  have y1 : w1.cell? ⟨b, o + 1, none⟩ = some p1 := (HU1.out.cell (p := ⟨b, o + 1, none⟩) hblt (by simp)).trans (HPC.out 1 (by omega))
  have y2 : w1.cell? ⟨b, o + 2, none⟩ = some p2 := (HU1.out.cell (p := ⟨b, o + 2, none⟩) hblt (by simp)).trans (HPC.out 2 (by omega))
  have y3 : w1.cell? ⟨b, o + 3, none⟩ = some p3 := (HU1.out.cell (p := ⟨b, o + 3, none⟩) hblt (by simp)).trans (HPC.out 3 (by omega))
  have y4 : w1.cell? ⟨b, o + 4, none⟩ = some p4 := (HU1.out.cell (p := ⟨b, o + 4, none⟩) hblt (by simp)).trans (HPC.out 4 (by omega))
  have y5 : w1.cell? ⟨b, o + 5, none⟩ = some p5 := (HU1.out.cell (p := ⟨b, o + 5, none⟩) hblt (by simp)).trans (HPC.out 5 (by omega))
  have y6 : w1.cell? ⟨b, o + 6, none⟩ = some p6 := (HU1.out.cell (p := ⟨b, o + 6, none⟩) hblt (by simp)).trans (HPC.out 6 (by omega))
  have HF1 : Hid (∀ V, Upd [] w1 V → Calls Tryz.prog 28 #[.agg #[p0, p1, p2, p3, p4, p5, p6]] V (TermP B V d t)) := fun V hU =>
    Copy_in B d V [p0, p1, p2, p3, p4, p5, p6] t (Nat.le_trans hB (HU1.out.trans hU).size) (InB.upd (HU1.out.trans hU) (by simp) (fun b hb _ => hb) _ _ _ HP.out) hzt hbt
  have HF2 : Hid (∀ V, Upd [] w1 V → Calls Tryz.prog 132 #[.agg #[.int .u8 7, .bool neg, .slice a L.length c, .string s, .int .i64 num, .slice (some ⟨b, o, none⟩) I.length ci, .slice at' T.length ct]] V (TermP B V (d + 1) (.mk 7 0 false [] ⟨#[]⟩ (I.drop 1) T))) := fun V hU =>
    rest_many B d b o ci ct L.length c num neg s a at' I T V (Nat.le_trans hB (HU1.out.trans hU).size) (RowB.upd (HU1.out.trans hU) (by simp) (fun b hb _ => hb) HI.out) (RowB.upd (HU1.out.trans hU) (by simp) (fun b hb _ => hb) HT.out) h2 hzI hzT hbl hcap hci
  have nb1 : ¬ w.heap.size + 1 = b := by omega
  have nb2 : ¬ b = w.heap.size + 1 := by omega
  have nb3 : ¬ w.heap.size + 1 + 1 = b := by omega
  have nb4 : ¬ b = w.heap.size + 1 + 1 := by omega
  have nb5 : ¬ w.heap.size = b := by omega
  have nb8 : ¬ w.heap.size + 1 + 1 = w.heap.size := by omega
  have nb9 : ¬ w.heap.size = w.heap.size + 1 + 1 := by omega
  have nb10 : ¬ w.heap.size + 1 + 1 = w.heap.size + 1 := by omega
  have nb6 : ¬ w.heap.size + 2 = b := by omega
  have nb7 : ¬ b = w.heap.size + 2 := by omega
  clear HR tc0
  go_wp2_with fail
  go_region_held3 (fun w' => w'.cell? ⟨w.heap.size, 0, none⟩ = some (.int .u8 7) ∧ w'.cell? ⟨w.heap.size, 1, none⟩ = some (.bool neg) ∧ w'.cell? ⟨w.heap.size, 2, none⟩ = some (.slice a L.length c) ∧ w'.cell? ⟨w.heap.size, 3, none⟩ = some (.string s) ∧ w'.cell? ⟨w.heap.size, 4, none⟩ = some (.int .i64 num) ∧ w'.cell? ⟨w.heap.size, 5, none⟩ = some (.slice (some ⟨b, o, none⟩) I.length ci) ∧ w'.cell? ⟨w.heap.size, 6, none⟩ = some (.slice at' T.length ct) ∧ w'.cell? ⟨b, o, none⟩ = some p0 ∧ w'.cell? ⟨b, o + 1, none⟩ = some p1 ∧ w'.cell? ⟨b, o + 2, none⟩ = some p2 ∧ w'.cell? ⟨b, o + 3, none⟩ = some p3 ∧ w'.cell? ⟨b, o + 4, none⟩ = some p4 ∧ w'.cell? ⟨b, o + 5, none⟩ = some p5 ∧ w'.cell? ⟨b, o + 6, none⟩ = some p6)
    (go_keep)
    (first
      | (go_at_call 28; refine Calls.mono (HF1.out _ (by repeat (first | exact Upd.refl _ _ | refine Upd.drew ?_ | refine Upd.alloc ?_ _))) ?_; rintro e w3 ⟨cs3, h73, rfl, hR3, hU3⟩; obtain ⟨k3, nu3, ng3, st3, aa3, ab3, ac3, na3, nb3, nc3, ca3, cb3, cc3, rfl⟩ := InB.shape hR3; have uw3 : Hid (Upd [] w1 w3) := Upd.trans (by repeat (first | exact Upd.refl _ _ | refine Upd.drew ?_ | refine Upd.alloc ?_ _)) hU3; have HR3 : Hid (InB (Pl B w1.heap.size) w3 d [.int .u8 k3, .bool ng3, .slice aa3 na3 ca3, .string st3, .int .i64 nu3, .slice ab3 nb3 cb3, .slice ac3 nc3 cc3] t) := InB.upd (Upd.refl [] w3) (by simp) (fun b hb _ => Or.imp id (Nat.le_trans (Upd.size (w := w1) (S := []) (by repeat (first | exact Upd.refl _ _ | refine Upd.drew ?_ | refine Upd.alloc ?_ _)))) hb) _ _ _ hR3; clear hR3 hU3 h73; have kx0 : w3.cell? ⟨w.heap.size, 0, none⟩ = some (.int .u8 7) := (uw3.out.cell (p := ⟨w.heap.size, 0, none⟩) hl1 (by simp)).trans x0; have kx1 : w3.cell? ⟨w.heap.size, 1, none⟩ = some (.bool neg) := (uw3.out.cell (p := ⟨w.heap.size, 1, none⟩) hl1 (by simp)).trans x1; have kx2 : w3.cell? ⟨w.heap.size, 2, none⟩ = some (.slice a L.length c) := (uw3.out.cell (p := ⟨w.heap.size, 2, none⟩) hl1 (by simp)).trans x2; have kx3 : w3.cell? ⟨w.heap.size, 3, none⟩ = some (.string s) := (uw3.out.cell (p := ⟨w.heap.size, 3, none⟩) hl1 (by simp)).trans x3; have kx4 : w3.cell? ⟨w.heap.size, 4, none⟩ = some (.int .i64 num) := (uw3.out.cell (p := ⟨w.heap.size, 4, none⟩) hl1 (by simp)).trans x4; have kx5 : w3.cell? ⟨w.heap.size, 5, none⟩ = some (.slice (some ⟨b, o, none⟩) I.length ci) := (uw3.out.cell (p := ⟨w.heap.size, 5, none⟩) hl1 (by simp)).trans x5; have kx6 : w3.cell? ⟨w.heap.size, 6, none⟩ = some (.slice at' T.length ct) := (uw3.out.cell (p := ⟨w.heap.size, 6, none⟩) hl1 (by simp)).trans x6; have ky0 : w3.cell? ⟨b, o, none⟩ = some p0 := (uw3.out.cell (p := ⟨b, o, none⟩) hlb (by simp)).trans y0; have ky1 : w3.cell? ⟨b, o + 1, none⟩ = some p1 := (uw3.out.cell (p := ⟨b, o + 1, none⟩) hlb (by simp)).trans y1; have ky2 : w3.cell? ⟨b, o + 2, none⟩ = some p2 := (uw3.out.cell (p := ⟨b, o + 2, none⟩) hlb (by simp)).trans y2; have ky3 : w3.cell? ⟨b, o + 3, none⟩ = some p3 := (uw3.out.cell (p := ⟨b, o + 3, none⟩) hlb (by simp)).trans y3; have ky4 : w3.cell? ⟨b, o + 4, none⟩ = some p4 := (uw3.out.cell (p := ⟨b, o + 4, none⟩) hlb (by simp)).trans y4; have ky5 : w3.cell? ⟨b, o + 5, none⟩ = some p5 := (uw3.out.cell (p := ⟨b, o + 5, none⟩) hlb (by simp)).trans y5; have ky6 : w3.cell? ⟨b, o + 6, none⟩ = some p6 := (uw3.out.cell (p := ⟨b, o + 6, none⟩) hlb (by simp)).trans y6)
      | (go_at_call 132; refine Calls.mono (HF2.out _ (by repeat (first | exact Upd.refl _ _ | exact uw3.out | refine Upd.drew ?_ | refine Upd.alloc ?_ _))) ?_; rintro e w4 ⟨cs4, h74, rfl, hR4, hU4⟩; obtain ⟨k4, nu4, ng4, st4, aa4, ab4, ac4, na4, nb4, nc4, ca4, cb4, cc4, rfl⟩ := InB.shape hR4; have uw4 : Hid (Upd [] w3 w4) := Upd.trans (by repeat (first | exact Upd.refl _ _ | refine Upd.drew ?_ | refine Upd.alloc ?_ _)) hU4; have HR4 : Hid (InB (Pl B w1.heap.size) w4 (d + 1) [.int .u8 k4, .bool ng4, .slice aa4 na4 ca4, .string st4, .int .i64 nu4, .slice ab4 nb4 cb4, .slice ac4 nc4 cc4] (.mk 7 0 false [] ⟨#[]⟩ (I.drop 1) T)) := InB.upd (Upd.refl [] w4) (by simp) (fun b hb _ => Or.imp id (Nat.le_trans (Nat.le_trans uw3.out.size (Upd.size (w := w3) (S := []) (by repeat (first | exact Upd.refl _ _ | refine Upd.drew ?_ | refine Upd.alloc ?_ _))))) hb) _ _ _ hR4; clear hR4 hU4 h74; have lx0 : w4.cell? ⟨w.heap.size, 0, none⟩ = some (.int .u8 7) := ((uw3.out.trans uw4.out).cell (p := ⟨w.heap.size, 0, none⟩) hl1 (by simp)).trans x0; have lx1 : w4.cell? ⟨w.heap.size, 1, none⟩ = some (.bool neg) := ((uw3.out.trans uw4.out).cell (p := ⟨w.heap.size, 1, none⟩) hl1 (by simp)).trans x1; have lx2 : w4.cell? ⟨w.heap.size, 2, none⟩ = some (.slice a L.length c) := ((uw3.out.trans uw4.out).cell (p := ⟨w.heap.size, 2, none⟩) hl1 (by simp)).trans x2; have lx3 : w4.cell? ⟨w.heap.size, 3, none⟩ = some (.string s) := ((uw3.out.trans uw4.out).cell (p := ⟨w.heap.size, 3, none⟩) hl1 (by simp)).trans x3; have lx4 : w4.cell? ⟨w.heap.size, 4, none⟩ = some (.int .i64 num) := ((uw3.out.trans uw4.out).cell (p := ⟨w.heap.size, 4, none⟩) hl1 (by simp)).trans x4; have lx5 : w4.cell? ⟨w.heap.size, 5, none⟩ = some (.slice (some ⟨b, o, none⟩) I.length ci) := ((uw3.out.trans uw4.out).cell (p := ⟨w.heap.size, 5, none⟩) hl1 (by simp)).trans x5; have lx6 : w4.cell? ⟨w.heap.size, 6, none⟩ = some (.slice at' T.length ct) := ((uw3.out.trans uw4.out).cell (p := ⟨w.heap.size, 6, none⟩) hl1 (by simp)).trans x6; have ly0 : w4.cell? ⟨b, o, none⟩ = some p0 := ((uw3.out.trans uw4.out).cell (p := ⟨b, o, none⟩) hlb (by simp)).trans y0; have ly1 : w4.cell? ⟨b, o + 1, none⟩ = some p1 := ((uw3.out.trans uw4.out).cell (p := ⟨b, o + 1, none⟩) hlb (by simp)).trans y1; have ly2 : w4.cell? ⟨b, o + 2, none⟩ = some p2 := ((uw3.out.trans uw4.out).cell (p := ⟨b, o + 2, none⟩) hlb (by simp)).trans y2; have ly3 : w4.cell? ⟨b, o + 3, none⟩ = some p3 := ((uw3.out.trans uw4.out).cell (p := ⟨b, o + 3, none⟩) hlb (by simp)).trans y3; have ly4 : w4.cell? ⟨b, o + 4, none⟩ = some p4 := ((uw3.out.trans uw4.out).cell (p := ⟨b, o + 4, none⟩) hlb (by simp)).trans y4; have ly5 : w4.cell? ⟨b, o + 5, none⟩ = some p5 := ((uw3.out.trans uw4.out).cell (p := ⟨b, o + 5, none⟩) hlb (by simp)).trans y5; have ly6 : w4.cell? ⟨b, o + 6, none⟩ = some p6 := ((uw3.out.trans uw4.out).cell (p := ⟨b, o + 6, none⟩) hlb (by simp)).trans y6; have tbx := (HT1.out.mono uw3.out (by simp)).mono uw4.out (by simp); have tby := (HT2.out.mono uw3.out (by simp)).mono uw4.out (by simp); have z0 : w4.cell? ⟨w.heap.size + 1, 0, none⟩ = some (.int .u8 0) := tbx.cell 0; have f0 : w4.frozen? ⟨w.heap.size + 1, 0, none⟩ = false := tbx.free 0; have z1 : w4.cell? ⟨w.heap.size + 1, 1, none⟩ = some (.bool false) := tbx.cell 1; have f1 : w4.frozen? ⟨w.heap.size + 1, 1, none⟩ = false := tbx.free 1; have z2 : w4.cell? ⟨w.heap.size + 1, 2, none⟩ = some (.slice none 0 0) := tbx.cell 2; have f2 : w4.frozen? ⟨w.heap.size + 1, 2, none⟩ = false := tbx.free 2; have z3 : w4.cell? ⟨w.heap.size + 1, 3, none⟩ = some (.string ⟨#[]⟩) := tbx.cell 3; have f3 : w4.frozen? ⟨w.heap.size + 1, 3, none⟩ = false := tbx.free 3; have z4 : w4.cell? ⟨w.heap.size + 1, 4, none⟩ = some (.int .i64 0) := tbx.cell 4; have f4 : w4.frozen? ⟨w.heap.size + 1, 4, none⟩ = false := tbx.free 4; have z5 : w4.cell? ⟨w.heap.size + 1, 5, none⟩ = some (.slice none 0 0) := tbx.cell 5; have f5 : w4.frozen? ⟨w.heap.size + 1, 5, none⟩ = false := tbx.free 5; have z6 : w4.cell? ⟨w.heap.size + 1, 6, none⟩ = some (.slice none 0 0) := tbx.cell 6; have f6 : w4.frozen? ⟨w.heap.size + 1, 6, none⟩ = false := tbx.free 6; have zz0 : w4.cell? ⟨w.heap.size + 1 + 1, 0, none⟩ = some (.int .u8 0) := tby.cell 0; have ff0 : w4.frozen? ⟨w.heap.size + 1 + 1, 0, none⟩ = false := tby.free 0; have zz1 : w4.cell? ⟨w.heap.size + 1 + 1, 1, none⟩ = some (.bool false) := tby.cell 1; have ff1 : w4.frozen? ⟨w.heap.size + 1 + 1, 1, none⟩ = false := tby.free 1; have zz2 : w4.cell? ⟨w.heap.size + 1 + 1, 2, none⟩ = some (.slice none 0 0) := tby.cell 2; have ff2 : w4.frozen? ⟨w.heap.size + 1 + 1, 2, none⟩ = false := tby.free 2; have zz3 : w4.cell? ⟨w.heap.size + 1 + 1, 3, none⟩ = some (.string ⟨#[]⟩) := tby.cell 3; have ff3 : w4.frozen? ⟨w.heap.size + 1 + 1, 3, none⟩ = false := tby.free 3; have zz4 : w4.cell? ⟨w.heap.size + 1 + 1, 4, none⟩ = some (.int .i64 0) := tby.cell 4; have ff4 : w4.frozen? ⟨w.heap.size + 1 + 1, 4, none⟩ = false := tby.free 4; have zz5 : w4.cell? ⟨w.heap.size + 1 + 1, 5, none⟩ = some (.slice none 0 0) := tby.cell 5; have ff5 : w4.frozen? ⟨w.heap.size + 1 + 1, 5, none⟩ = false := tby.free 5; have zz6 : w4.cell? ⟨w.heap.size + 1 + 1, 6, none⟩ = some (.slice none 0 0) := tby.cell 6; have ff6 : w4.frozen? ⟨w.heap.size + 1 + 1, 6, none⟩ = false := tby.free 6; have HTX : Hid (Tb w4 _ _) := tbx; have HTY : Hid (Tb w4 _ _) := tby; clear tbx tby))
  all_goals
    obtain ⟨W5, hW5, hT5, hU5⟩ := set7 w4 (w.heap.size + 1) _ (.int .u8 k3) (.bool ng3) (.slice aa3 na3 ca3) (.string st3) (.int .i64 nu3) (.slice ab3 nb3 cb3) (.slice ac3 nc3 cc3) HTX.out rfl
    rw [← hW5]
    have hY5 := HTY.out.mono hU5 (by simp)
    obtain ⟨W6, hW6, hT6, hU6⟩ := set7 W5 (w.heap.size + 1 + 1) _ (.int .u8 k4) (.bool ng4) (.slice aa4 na4 ca4) (.string st4) (.int .i64 nu4) (.slice ab4 nb4 cb4) (.slice ac4 nc4 cc4) hY5 rfl
    rw [← hW6]
    have hT5' := hT5.mono hU6 (by simp)
    have hS1 : ∀ b, Pl B w1.heap.size b → b ∉ [w.heap.size + 1] := fun b hb hm => by
      simp at hm; subst hm
      rcases hb with hb | hb <;> omega
    have hS2 : ∀ b, Pl B w1.heap.size b → b ∉ [w.heap.size + 1 + 1] := fun b hb hm => by
      simp at hm; subst hm
      rcases hb with hb | hb <;> omega
    have hPQ : ∀ b, Pl B w1.heap.size b → b < W5.heap.size → (b < B ∨ w.heap.size ≤ b) := fun b hb _ => by
      rcases hb with hb | hb
      · exact Or.inl hb
      · exact Or.inr (by omega)
    have HA : Hid (InB (fun b => b < B ∨ w.heap.size ≤ b) W6 (d + 1) [.int .u8 k3, .bool ng3, .slice aa3 na3 ca3, .string st3, .int .i64 nu3, .slice ab3 nb3 cb3, .slice ac3 nc3 cc3] t) := InB.more _ _ _ (InB.upd hU6 hS2 hPQ _ _ _ (InB.upd hU5 hS1 (fun b hb _ => hb) _ _ _ (InB.upd uw4.out (by simp) (fun b hb _ => hb) _ _ _ HR3.out)))
    have HZ : Hid (InB (fun b => b < B ∨ w.heap.size ≤ b) W6 (d + 1) [.int .u8 k4, .bool ng4, .slice aa4 na4 ca4, .string st4, .int .i64 nu4, .slice ab4 nb4 cb4, .slice ac4 nc4 cc4] (.mk 7 0 false [] ⟨#[]⟩ (I.drop 1) T)) := InB.upd hU6 hS2 hPQ _ _ _ (InB.upd hU5 hS1 (fun b hb _ => hb) _ _ _ HR4.out)
    have HU6 : Hid (Upd [] w W6) := (((HU1.out.trans uw3.out).trans uw4.out).then hU5 (by simp)).then hU6 (by simp; omega)
    clear z0 f0 zz0 ff0 x0 y0 kx0 ky0 lx0 ly0 z1 f1 zz1 ff1 x1 y1 kx1 ky1 lx1 ly1 z2 f2 zz2 ff2 x2 y2 kx2 ky2 lx2 ly2 z3 f3 zz3 ff3 x3 y3 kx3 ky3 lx3 ly3 z4 f4 zz4 ff4 x4 y4 kx4 ky4 lx4 ly4 z5 f5 zz5 ff5 x5 y5 kx5 ky5 lx5 ly5 z6 f6 zz6 ff6 x6 y6 kx6 ky6 lx6 ly6 hW5 hW6 hS1 hS2 hPQ hU5 hU6 hY5 hT5
    go_wp2
    exact ret_TTb Tryz.results106 rfl _ _ _ _ _ rfl hT5' rfl rfl hT6 rfl rfl ⟨_, _, rfl, rfl, rfl, HA.out, HZ.out, HU6.out⟩

end Go.Proofs.YtnpocmhaoaigfaaGreatDoor
