/- Split of package term, of whatever term: by its contract. -/
import Derived.Test.YtnpocmhaoaigfaaGreatDoorJAP
namespace Go.Proofs.YtnpocmhaoaigfaaGreatDoor
open Go.RowKit

set_option maxHeartbeats 4000000 in
set_option maxRecDepth 100000 in
theorem rest_one (d c n ci ct : Nat) (num : Int) (neg : Bool) (s : ByteArray) (a ai at' : Option Addr) (T : List Tm) (w V : World) (hUV : Upd [] w V) (hT : RowAt (In w d) w at' T) (hd : 0 < d) (hzT : tszs T ≤ 1353245080330) (hb : belR T ≤ 60000) :
    Calls Tryz.prog 132 #[.agg #[.int .u8 7, .bool neg, .slice a n c, .string s, .int .i64 num, .slice ai 1 ci, .slice at' T.length ct]] V (TermP w.heap.size V d (T.headD nilT)) := by
  have hl : T.length ≤ 1353245080330 := Nat.le_trans (tszs_len T) hzT
  obtain ⟨X, hX7, hXone, hXin, hXc⟩ := tailOf_in 7 num neg a ai at' n c 1 ci ct d s T w hT hl
  have hzu : tsz (T.headD nilT) ≤ 1353245080330 := by
    cases T with
    | nil => simp [nilT, tsz, tszs]
    | cons u r => simp only [tszs] at hzT; simp only [List.headD_cons]; omega
  have hbu : belT (T.headD nilT) ≤ 60000 := by
    cases T with
    | nil => simp [nilT, belT, belR]
    | cons u r => rw [belR] at hb; simp only [List.headD_cons]; omega
  obtain ⟨x0, x1, x2, x3, x4, x5, x6, rfl⟩ := list7 hX7
  have HC : Hid (∀ W, Upd [] V W → Calls Tryz.prog 64 #[.agg #[.int .u8 7, .bool neg, .slice a n c, .string s, .int .i64 num, .slice ai 1 ci, .slice at' T.length ct]] W fun e w' => e = .returned (.agg #[x0, x1, x2, x3, x4, x5, x6]) ∧ Upd [] W w') := fun W hU => hXc W (hUV.trans hU)
  have HCp : Hid (∀ W, Upd [] V W → Calls Tryz.prog 28 #[.agg #[x0, x1, x2, x3, x4, x5, x6]] W (TermP w.heap.size W d (T.headD nilT))) := fun W hU => Copy_in w.heap.size d W [x0, x1, x2, x3, x4, x5, x6] _ (Nat.le_trans hUV.size hU.size) (In.toB (P := fun b => b < w.heap.size) (fun b hb => hb) (hUV.trans hU) _ _ _ (hXin hd)) hzu hbu
  have hsz : w.heap.size ≤ V.heap.size := hUV.size
  have tb0 : Tb ((V.alloc (.cells #[.int .u8 7, .bool neg, .slice a n c, .string s, .int .i64 num, .slice ai 1 ci, .slice at' T.length ct] 26)).alloc (.cells #[.int .u8 0, .bool false, .slice none 0 0, .string ⟨#[]⟩, .int .i64 0, .slice none 0 0, .slice none 0 0] 26)) V.heap.size #[.int .u8 7, .bool neg, .slice a n c, .string s, .int .i64 num, .slice ai 1 ci, .slice at' T.length ct] := (Tb.new _ _ _ rfl).old _
  have tbz : Tb ((V.alloc (.cells #[.int .u8 7, .bool neg, .slice a n c, .string s, .int .i64 num, .slice ai 1 ci, .slice at' T.length ct] 26)).alloc (.cells #[.int .u8 0, .bool false, .slice none 0 0, .string ⟨#[]⟩, .int .i64 0, .slice none 0 0, .slice none 0 0] 26)) (V.heap.size + 1) #[.int .u8 0, .bool false, .slice none 0 0, .string ⟨#[]⟩, .int .i64 0, .slice none 0 0, .slice none 0 0] := Tb.new _ _ _ (by simp)
  have HU0 : Hid (Upd [] V ((V.alloc (.cells #[.int .u8 7, .bool neg, .slice a n c, .string s, .int .i64 num, .slice ai 1 ci, .slice at' T.length ct] 26)).alloc (.cells #[.int .u8 0, .bool false, .slice none 0 0, .string ⟨#[]⟩, .int .i64 0, .slice none 0 0, .slice none 0 0] 26))) := ((Upd.refl [] V).alloc _).alloc _
  have HSZ : Hid (((V.alloc (.cells #[.int .u8 7, .bool neg, .slice a n c, .string s, .int .i64 num, .slice ai 1 ci, .slice at' T.length ct] 26)).alloc (.cells #[.int .u8 0, .bool false, .slice none 0 0, .string ⟨#[]⟩, .int .i64 0, .slice none 0 0, .slice none 0 0] 26)).heap.size = V.heap.size + 2) := by show _ = _; simp
  obtain ⟨X0, hX0⟩ : ∃ X0, X0 = (V.alloc (.cells #[.int .u8 7, .bool neg, .slice a n c, .string s, .int .i64 num, .slice ai 1 ci, .slice at' T.length ct] 26)).alloc (.cells #[.int .u8 0, .bool false, .slice none 0 0, .string ⟨#[]⟩, .int .i64 0, .slice none 0 0, .slice none 0 0] 26) := ⟨_, rfl⟩
  have y5 : X0.cell? ⟨V.heap.size, 5, none⟩ = some (.slice ai 1 ci) := by rw [hX0]; exact tb0.cell 5
  clear hXc hXin hT hUV hX7 hXone hzT hb hzu hbu hl
  have HX0 : Hid (X0 = _) := hX0
  rw [← hX0] at tb0 tbz HU0 HSZ
  clear hX0
  go_enter Tryz.func132, Tryz.ntmps132
  go_wp2_with fail
  rw [← HX0.out]
  go_wp2_with (first | (refine load_T _ rfl _ rfl _ _ rfl tb0 rfl ?_) | fail)
  refine Calls.mono (HC.out _ HU0.out) ?_
  rintro e w1 ⟨rfl, hU1⟩
  have tz1 := tbz.mono hU1 (by simp)
  have U1 : Hid (Upd [] V w1) := HU0.out.trans hU1
  have hs1 : V.heap.size + 2 ≤ w1.heap.size := by have := hU1.size; have := HSZ.out; omega
  clear hU1 tb0 tbz y5 HU0
  go_wp2_with fail
  refine Calls.mono (HCp.out _ U1.out) ?_
  rintro e w2 ⟨cs, h7, rfl, hin2, hU2⟩
  have hone := (InB.plain _ _ _ hin2).one
  obtain ⟨p0, p1, p2, p3, p4, p5, p6, rfl⟩ := list7 h7
  have tz2 := tz1.mono hU2 (by simp)
  have U2 : Hid (Upd [] V w2) := U1.out.trans hU2
  have HIN : Hid (InB (fun b => b < w.heap.size ∨ w1.heap.size ≤ b) w2 d [p0, p1, p2, p3, p4, p5, p6] (T.headD nilT)) := hin2
  clear hU2 tz1 hin2
  go_wp2_with (refine store_T _ rfl _ _ rfl _ #[p0, p1, p2, p3, p4, p5, p6] _ rfl rfl tz2 rfl rfl hone ?_; intro w4 hT4 hU4)
  refine ret_T Tryz.results132 rfl _ _ rfl hT4 rfl ⟨[p0, p1, p2, p3, p4, p5, p6], rfl, rfl, ?_, U2.out.then hU4 (by simp)⟩
  refine InB.upd hU4 (fun b hb hm => ?_) (fun b hb _ => ?_) _ _ _ HIN.out
  · simp at hm
    subst hm
    rcases hb with hb | hb
    · omega
    · omega
  · rcases hb with hb | hb
    · exact Or.inl hb
    · exact Or.inr (by omega)

set_option maxHeartbeats 8000000 in
set_option maxRecDepth 100000 in
theorem Split_gen (B d b o ci ct c : Nat) (num : Int) (neg : Bool) (s : ByteArray) (L : List Nat) (a at' : Option Addr) (I T : List Tm) (w : World) (hB : B ≤ w.heap.size) (hin : InB (fun b => b < B) w (d + 1) [.int .u8 7, .bool neg, .slice a L.length c, .string s, .int .i64 num, .slice (some ⟨b, o, none⟩) I.length ci, .slice at' T.length ct] (.mk 7 num neg L s I T))
    (hz : tsz (.mk 7 num neg L s I T) ≤ 1353245080330) (hok : okS (.mk 7 num neg L s I T) = true) (h2 : 1 ≤ I.length) (R : Tm) (hrest : ∀ V, Upd [] w V → Calls Tryz.prog 132 #[.agg #[.int .u8 7, .bool neg, .slice a L.length c, .string s, .int .i64 num, .slice (some ⟨b, o, none⟩) I.length ci, .slice at' T.length ct]] V (TermP B V (d + 1) R)) :
    Calls Tryz.prog 106 #[.agg #[.int .u8 7, .bool neg, .slice a L.length c, .string s, .int .i64 num, .slice (some ⟨b, o, none⟩) I.length ci, .slice at' T.length ct]] w (SplitP B w (d + 1) (I.getD 0 nilT) R) := by
  have HREST : Hid (∀ V, Upd [] w V → Calls Tryz.prog 132 #[.agg #[.int .u8 7, .bool neg, .slice a L.length c, .string s, .int .i64 num, .slice (some ⟨b, o, none⟩) I.length ci, .slice at' T.length ct]] V (TermP B V (d + 1) R)) := hrest
  clear hrest
  have HR : Hid (∀ V, Upd [] w V → Calls Tryz.prog 7 #[.agg #[.int .u8 7, .bool neg, .slice a L.length c, .string s, .int .i64 num, .slice (some ⟨b, o, none⟩) I.length ci, .slice at' T.length ct]] V fun e w' => e = .returned (.bool true) ∧ Upd [] V w') := fun V hU => by
    have := TRight_in (d + 1) V _ _ (In.mono hU _ _ _ (InB.plain _ _ _ hin)) hz
    rw [hok] at this
    exact this
  have hbl : I.length + belR I + (T.length + belR T) ≤ 60000 := by
    unfold okS at hok
    rw [Bool.and_eq_true, decide_eq_true_eq] at hok
    have := bel_lt (.mk 7 num neg L s I T)
    rw [belT] at this
    omega
  simp only [tsz] at hz
  have hzI : tszs I ≤ 1353245080330 := by omega
  have hzT : tszs T ≤ 1353245080330 := by omega
  obtain ⟨_, _, _, _, _, _, e, _, _, hI, hT⟩ := hin
  simp only [List.cons.injEq, Value.slice.injEq, true_and, and_true] at e
  obtain ⟨e2, ⟨e5, e5'⟩, e6, e6'⟩ := e
  rw [← e5] at hI
  rw [← e6] at hT
  clear e2 e5 e5' e6 e6'
  obtain ⟨t, I', hIe⟩ : ∃ t I', I = t :: I' := by
    cases I with
    | nil => simp at h2
    | cons t r => exact ⟨t, r, rfl⟩
  have hbt : belT t ≤ 60000 := by rw [hIe, belR] at hbl; omega
  have hzt : tsz t ≤ 1353245080330 := by rw [hIe] at hzI; simp only [tszs] at hzI; omega
  have hrow : ∃ p0 p1 p2 p3 p4 p5 p6, (∀ j, j < 7 → w.cell? ⟨b, o + j, none⟩ = [p0, p1, p2, p3, p4, p5, p6][j]?) ∧ InB (fun b => b < B) w d [p0, p1, p2, p3, p4, p5, p6] t := by
    rcases hI with h0 | ⟨b', o', e, _, hlt, hc⟩
    · rw [hIe] at h0; cases h0
    · cases e
      obtain ⟨cs, k1, k2, k3⟩ := hc 0 (by omega)
      obtain ⟨p0, p1, p2, p3, p4, p5, p6, rfl⟩ := list7 k1
      refine ⟨p0, p1, p2, p3, p4, p5, p6, fun j hj => by have := k2 j hj; rwa [Nat.zero_mul, Nat.zero_add] at this, ?_⟩
      have : I[0] = t := by simp [hIe]
      rw [this] at k3
      exact k3
  obtain ⟨p0, p1, p2, p3, p4, p5, p6, hpc, hpin⟩ := hrow
  have hgd : I.getD 0 nilT = t := by rw [hIe]; rfl
  rw [hgd]
  have hblt : b < w.heap.size := by have := World.block_lt_of_cell? _ _ (hpc 0 (by omega)); exact this
  have hU0 : Upd [] w (((w.alloc (.cells #[.int .u8 7, .bool neg, .slice a L.length c, .string s, .int .i64 num, .slice (some ⟨b, o, none⟩) I.length ci, .slice at' T.length ct] 26)).alloc (.cells #[.int .u8 0, .bool false, .slice none 0 0, .string ⟨#[]⟩, .int .i64 0, .slice none 0 0, .slice none 0 0] 26)).alloc (.cells #[.int .u8 0, .bool false, .slice none 0 0, .string ⟨#[]⟩, .int .i64 0, .slice none 0 0, .slice none 0 0] 26)) := (((Upd.refl [] w).alloc _).alloc _).alloc _
  have tb0 : Tb (((w.alloc (.cells #[.int .u8 7, .bool neg, .slice a L.length c, .string s, .int .i64 num, .slice (some ⟨b, o, none⟩) I.length ci, .slice at' T.length ct] 26)).alloc (.cells #[.int .u8 0, .bool false, .slice none 0 0, .string ⟨#[]⟩, .int .i64 0, .slice none 0 0, .slice none 0 0] 26)).alloc (.cells #[.int .u8 0, .bool false, .slice none 0 0, .string ⟨#[]⟩, .int .i64 0, .slice none 0 0, .slice none 0 0] 26)) w.heap.size #[.int .u8 7, .bool neg, .slice a L.length c, .string s, .int .i64 num, .slice (some ⟨b, o, none⟩) I.length ci, .slice at' T.length ct] := ((Tb.new _ _ _ rfl).old _).old _
  have tb1 : Tb (((w.alloc (.cells #[.int .u8 7, .bool neg, .slice a L.length c, .string s, .int .i64 num, .slice (some ⟨b, o, none⟩) I.length ci, .slice at' T.length ct] 26)).alloc (.cells #[.int .u8 0, .bool false, .slice none 0 0, .string ⟨#[]⟩, .int .i64 0, .slice none 0 0, .slice none 0 0] 26)).alloc (.cells #[.int .u8 0, .bool false, .slice none 0 0, .string ⟨#[]⟩, .int .i64 0, .slice none 0 0, .slice none 0 0] 26)) (w.heap.size + 1) #[.int .u8 0, .bool false, .slice none 0 0, .string ⟨#[]⟩, .int .i64 0, .slice none 0 0, .slice none 0 0] := (Tb.new _ _ _ (by simp)).old _
  have tb2 : Tb (((w.alloc (.cells #[.int .u8 7, .bool neg, .slice a L.length c, .string s, .int .i64 num, .slice (some ⟨b, o, none⟩) I.length ci, .slice at' T.length ct] 26)).alloc (.cells #[.int .u8 0, .bool false, .slice none 0 0, .string ⟨#[]⟩, .int .i64 0, .slice none 0 0, .slice none 0 0] 26)).alloc (.cells #[.int .u8 0, .bool false, .slice none 0 0, .string ⟨#[]⟩, .int .i64 0, .slice none 0 0, .slice none 0 0] 26)) (w.heap.size + 1 + 1) #[.int .u8 0, .bool false, .slice none 0 0, .string ⟨#[]⟩, .int .i64 0, .slice none 0 0, .slice none 0 0] := Tb.new _ _ _ (by simp)
  obtain ⟨W, hW⟩ : ∃ W, W = (((w.alloc (.cells #[.int .u8 7, .bool neg, .slice a L.length c, .string s, .int .i64 num, .slice (some ⟨b, o, none⟩) I.length ci, .slice at' T.length ct] 26)).alloc (.cells #[.int .u8 0, .bool false, .slice none 0 0, .string ⟨#[]⟩, .int .i64 0, .slice none 0 0, .slice none 0 0] 26)).alloc (.cells #[.int .u8 0, .bool false, .slice none 0 0, .string ⟨#[]⟩, .int .i64 0, .slice none 0 0, .slice none 0 0] 26)) := ⟨_, rfl⟩
  have hsW : W.heap.size = w.heap.size + 3 := by rw [hW]; simp
  have i0 : ((I.length : Int) == 0) = false := beq_eq_false_iff_ne.2 (by omega)
  have i1 : (0 : Int) < (I.length : Int) := by omega
  have i2 : 0 < I.length := by omega
  have hIl : I.length ≤ 1353245080330 := Nat.le_trans (tszs_len I) hzI
  have hTl : T.length ≤ 1353245080330 := Nat.le_trans (tszs_len T) hzT
  have HI : Hid (RowB (fun b => b < B) (InB (fun b => b < B) w d) w (some ⟨b, o, none⟩) I) := hI
  have HT : Hid (RowB (fun b => b < B) (InB (fun b => b < B) w d) w at' T) := hT
  have HP : Hid (InB (fun b => b < B) w d [p0, p1, p2, p3, p4, p5, p6] t) := hpin
  have HPC : Hid (∀ j, j < 7 → w.cell? ⟨b, o + j, none⟩ = [p0, p1, p2, p3, p4, p5, p6][j]?) := hpc
  clear hI hT hpin hpc hgd hIe hok hz
  go_enter Tryz.func106, Tryz.ntmps106
  rw [← hW] at hU0 tb0 tb1 tb2
  have HW : Hid (W = _) := hW
  go_wp2_with fail
  rw [← HW.out]
  refine Calls.mono (HR.out W hU0) ?_
  rintro e w1 ⟨rfl, hU1⟩
  have tc0 := tb0.mono hU1 (by simp)
  have HT1 : Hid (Tb w1 _ _) := tb1.mono hU1 (by simp)
  have HT2 : Hid (Tb w1 _ _) := tb2.mono hU1 (by simp)
  have HU1 : Hid (Upd [] w w1) := hU0.trans hU1
  have hl1 : w.heap.size < w1.heap.size := tc0.lt
  have hlb : b < w1.heap.size := Nat.lt_of_lt_of_le hblt HU1.out.size
  have hsz1 : w.heap.size + 3 ≤ w1.heap.size := by have := hU1.size; omega
  clear tb0 tb1 tb2 hU1 hU0
  have x0 : w1.cell? ⟨w.heap.size, 0, none⟩ = some (.int .u8 7) := tc0.cell 0
  have x1 : w1.cell? ⟨w.heap.size, 1, none⟩ = some (.bool neg) := tc0.cell 1
  have x2 : w1.cell? ⟨w.heap.size, 2, none⟩ = some (.slice a L.length c) := tc0.cell 2
  have x3 : w1.cell? ⟨w.heap.size, 3, none⟩ = some (.string s) := tc0.cell 3
  have x4 : w1.cell? ⟨w.heap.size, 4, none⟩ = some (.int .i64 num) := tc0.cell 4
  have x5 : w1.cell? ⟨w.heap.size, 5, none⟩ = some (.slice (some ⟨b, o, none⟩) I.length ci) := tc0.cell 5
  have x6 : w1.cell? ⟨w.heap.size, 6, none⟩ = some (.slice at' T.length ct) := tc0.cell 6
  have y0 : w1.cell? ⟨b, o, none⟩ = some p0 := (HU1.out.cell (p := ⟨b, o, none⟩) hblt (by simp)).trans (HPC.out 0 (by omega))
  have y1 : w1.cell? ⟨b, o + 1, none⟩ = some p1 := (HU1.out.cell (p := ⟨b, o + 1, none⟩) hblt (by simp)).trans (HPC.out 1 (by omega))
  have y2 : w1.cell? ⟨b, o + 2, none⟩ = some p2 := (HU1.out.cell (p := ⟨b, o + 2, none⟩) hblt (by simp)).trans (HPC.out 2 (by omega))
  have y3 : w1.cell? ⟨b, o + 3, none⟩ = some p3 := (HU1.out.cell (p := ⟨b, o + 3, none⟩) hblt (by simp)).trans (HPC.out 3 (by omega))
  have y4 : w1.cell? ⟨b, o + 4, none⟩ = some p4 := (HU1.out.cell (p := ⟨b, o + 4, none⟩) hblt (by simp)).trans (HPC.out 4 (by omega))
  have y5 : w1.cell? ⟨b, o + 5, none⟩ = some p5 := (HU1.out.cell (p := ⟨b, o + 5, none⟩) hblt (by simp)).trans (HPC.out 5 (by omega))
  have y6 : w1.cell? ⟨b, o + 6, none⟩ = some p6 := (HU1.out.cell (p := ⟨b, o + 6, none⟩) hblt (by simp)).trans (HPC.out 6 (by omega))
  have HF1 : Hid (∀ V, Upd [] w1 V → Calls Tryz.prog 28 #[.agg #[p0, p1, p2, p3, p4, p5, p6]] V (TermP B V d t)) := fun V hU =>
    Copy_in B d V [p0, p1, p2, p3, p4, p5, p6] t (Nat.le_trans hB (HU1.out.trans hU).size) (InB.upd (HU1.out.trans hU) (by simp) (fun b hb _ => hb) _ _ _ HP.out) hzt hbt
  have HF2 : Hid (∀ V, Upd [] w1 V → Calls Tryz.prog 132 #[.agg #[.int .u8 7, .bool neg, .slice a L.length c, .string s, .int .i64 num, .slice (some ⟨b, o, none⟩) I.length ci, .slice at' T.length ct]] V (TermP B V (d + 1) R)) := fun V hU =>
    HREST.out V (HU1.out.trans hU)
  have nb1 : ¬ w.heap.size + 1 = b := by omega
  have nb2 : ¬ b = w.heap.size + 1 := by omega
  have nb3 : ¬ w.heap.size + 1 + 1 = b := by omega
  have nb4 : ¬ b = w.heap.size + 1 + 1 := by omega
  have nb5 : ¬ w.heap.size = b := by omega
  have nb8 : ¬ w.heap.size + 1 + 1 = w.heap.size := by omega
  have nb9 : ¬ w.heap.size = w.heap.size + 1 + 1 := by omega
  have nb10 : ¬ w.heap.size + 1 + 1 = w.heap.size + 1 := by omega
  have nb6 : ¬ w.heap.size + 2 = b := by omega
  have nb7 : ¬ b = w.heap.size + 2 := by omega
  clear HR tc0
  go_wp2_with fail
  go_region_held3 (fun w' => w'.cell? ⟨w.heap.size, 0, none⟩ = some (.int .u8 7) ∧ w'.cell? ⟨w.heap.size, 1, none⟩ = some (.bool neg) ∧ w'.cell? ⟨w.heap.size, 2, none⟩ = some (.slice a L.length c) ∧ w'.cell? ⟨w.heap.size, 3, none⟩ = some (.string s) ∧ w'.cell? ⟨w.heap.size, 4, none⟩ = some (.int .i64 num) ∧ w'.cell? ⟨w.heap.size, 5, none⟩ = some (.slice (some ⟨b, o, none⟩) I.length ci) ∧ w'.cell? ⟨w.heap.size, 6, none⟩ = some (.slice at' T.length ct) ∧ w'.cell? ⟨b, o, none⟩ = some p0 ∧ w'.cell? ⟨b, o + 1, none⟩ = some p1 ∧ w'.cell? ⟨b, o + 2, none⟩ = some p2 ∧ w'.cell? ⟨b, o + 3, none⟩ = some p3 ∧ w'.cell? ⟨b, o + 4, none⟩ = some p4 ∧ w'.cell? ⟨b, o + 5, none⟩ = some p5 ∧ w'.cell? ⟨b, o + 6, none⟩ = some p6)
    (go_keep)
    (first
      | (go_at_call 28; refine Calls.mono (HF1.out _ (by repeat (first | exact Upd.refl _ _ | refine Upd.drew ?_ | refine Upd.alloc ?_ _))) ?_; rintro e w3 ⟨cs3, h73, rfl, hR3, hU3⟩; obtain ⟨k3, nu3, ng3, st3, aa3, ab3, ac3, na3, nb3, nc3, ca3, cb3, cc3, rfl⟩ := InB.shape hR3; have uw3 : Hid (Upd [] w1 w3) := Upd.trans (by repeat (first | exact Upd.refl _ _ | refine Upd.drew ?_ | refine Upd.alloc ?_ _)) hU3; have HR3 : Hid (InB (Pl B w1.heap.size) w3 d [.int .u8 k3, .bool ng3, .slice aa3 na3 ca3, .string st3, .int .i64 nu3, .slice ab3 nb3 cb3, .slice ac3 nc3 cc3] t) := InB.upd (Upd.refl [] w3) (by simp) (fun b hb _ => Or.imp id (Nat.le_trans (Upd.size (w := w1) (S := []) (by repeat (first | exact Upd.refl _ _ | refine Upd.drew ?_ | refine Upd.alloc ?_ _)))) hb) _ _ _ hR3; clear hR3 hU3 h73; have kx0 : w3.cell? ⟨w.heap.size, 0, none⟩ = some (.int .u8 7) := (uw3.out.cell (p := ⟨w.heap.size, 0, none⟩) hl1 (by simp)).trans x0; have kx1 : w3.cell? ⟨w.heap.size, 1, none⟩ = some (.bool neg) := (uw3.out.cell (p := ⟨w.heap.size, 1, none⟩) hl1 (by simp)).trans x1; have kx2 : w3.cell? ⟨w.heap.size, 2, none⟩ = some (.slice a L.length c) := (uw3.out.cell (p := ⟨w.heap.size, 2, none⟩) hl1 (by simp)).trans x2; have kx3 : w3.cell? ⟨w.heap.size, 3, none⟩ = some (.string s) := (uw3.out.cell (p := ⟨w.heap.size, 3, none⟩) hl1 (by simp)).trans x3; have kx4 : w3.cell? ⟨w.heap.size, 4, none⟩ = some (.int .i64 num) := (uw3.out.cell (p := ⟨w.heap.size, 4, none⟩) hl1 (by simp)).trans x4; have kx5 : w3.cell? ⟨w.heap.size, 5, none⟩ = some (.slice (some ⟨b, o, none⟩) I.length ci) := (uw3.out.cell (p := ⟨w.heap.size, 5, none⟩) hl1 (by simp)).trans x5; have kx6 : w3.cell? ⟨w.heap.size, 6, none⟩ = some (.slice at' T.length ct) := (uw3.out.cell (p := ⟨w.heap.size, 6, none⟩) hl1 (by simp)).trans x6; have ky0 : w3.cell? ⟨b, o, none⟩ = some p0 := (uw3.out.cell (p := ⟨b, o, none⟩) hlb (by simp)).trans y0; have ky1 : w3.cell? ⟨b, o + 1, none⟩ = some p1 := (uw3.out.cell (p := ⟨b, o + 1, none⟩) hlb (by simp)).trans y1; have ky2 : w3.cell? ⟨b, o + 2, none⟩ = some p2 := (uw3.out.cell (p := ⟨b, o + 2, none⟩) hlb (by simp)).trans y2; have ky3 : w3.cell? ⟨b, o + 3, none⟩ = some p3 := (uw3.out.cell (p := ⟨b, o + 3, none⟩) hlb (by simp)).trans y3; have ky4 : w3.cell? ⟨b, o + 4, none⟩ = some p4 := (uw3.out.cell (p := ⟨b, o + 4, none⟩) hlb (by simp)).trans y4; have ky5 : w3.cell? ⟨b, o + 5, none⟩ = some p5 := (uw3.out.cell (p := ⟨b, o + 5, none⟩) hlb (by simp)).trans y5; have ky6 : w3.cell? ⟨b, o + 6, none⟩ = some p6 := (uw3.out.cell (p := ⟨b, o + 6, none⟩) hlb (by simp)).trans y6)
      | (go_at_call 132; refine Calls.mono (HF2.out _ (by repeat (first | exact Upd.refl _ _ | exact uw3.out | refine Upd.drew ?_ | refine Upd.alloc ?_ _))) ?_; rintro e w4 ⟨cs4, h74, rfl, hR4, hU4⟩; obtain ⟨k4, nu4, ng4, st4, aa4, ab4, ac4, na4, nb4, nc4, ca4, cb4, cc4, rfl⟩ := InB.shape hR4; have uw4 : Hid (Upd [] w3 w4) := Upd.trans (by repeat (first | exact Upd.refl _ _ | refine Upd.drew ?_ | refine Upd.alloc ?_ _)) hU4; have HR4 : Hid (InB (Pl B w1.heap.size) w4 (d + 1) [.int .u8 k4, .bool ng4, .slice aa4 na4 ca4, .string st4, .int .i64 nu4, .slice ab4 nb4 cb4, .slice ac4 nc4 cc4] R) := InB.upd (Upd.refl [] w4) (by simp) (fun b hb _ => Or.imp id (Nat.le_trans (Nat.le_trans uw3.out.size (Upd.size (w := w3) (S := []) (by repeat (first | exact Upd.refl _ _ | refine Upd.drew ?_ | refine Upd.alloc ?_ _))))) hb) _ _ _ hR4; clear hR4 hU4 h74; have lx0 : w4.cell? ⟨w.heap.size, 0, none⟩ = some (.int .u8 7) := ((uw3.out.trans uw4.out).cell (p := ⟨w.heap.size, 0, none⟩) hl1 (by simp)).trans x0; have lx1 : w4.cell? ⟨w.heap.size, 1, none⟩ = some (.bool neg) := ((uw3.out.trans uw4.out).cell (p := ⟨w.heap.size, 1, none⟩) hl1 (by simp)).trans x1; have lx2 : w4.cell? ⟨w.heap.size, 2, none⟩ = some (.slice a L.length c) := ((uw3.out.trans uw4.out).cell (p := ⟨w.heap.size, 2, none⟩) hl1 (by simp)).trans x2; have lx3 : w4.cell? ⟨w.heap.size, 3, none⟩ = some (.string s) := ((uw3.out.trans uw4.out).cell (p := ⟨w.heap.size, 3, none⟩) hl1 (by simp)).trans x3; have lx4 : w4.cell? ⟨w.heap.size, 4, none⟩ = some (.int .i64 num) := ((uw3.out.trans uw4.out).cell (p := ⟨w.heap.size, 4, none⟩) hl1 (by simp)).trans x4; have lx5 : w4.cell? ⟨w.heap.size, 5, none⟩ = some (.slice (some ⟨b, o, none⟩) I.length ci) := ((uw3.out.trans uw4.out).cell (p := ⟨w.heap.size, 5, none⟩) hl1 (by simp)).trans x5; have lx6 : w4.cell? ⟨w.heap.size, 6, none⟩ = some (.slice at' T.length ct) := ((uw3.out.trans uw4.out).cell (p := ⟨w.heap.size, 6, none⟩) hl1 (by simp)).trans x6; have ly0 : w4.cell? ⟨b, o, none⟩ = some p0 := ((uw3.out.trans uw4.out).cell (p := ⟨b, o, none⟩) hlb (by simp)).trans y0; have ly1 : w4.cell? ⟨b, o + 1, none⟩ = some p1 := ((uw3.out.trans uw4.out).cell (p := ⟨b, o + 1, none⟩) hlb (by simp)).trans y1; have ly2 : w4.cell? ⟨b, o + 2, none⟩ = some p2 := ((uw3.out.trans uw4.out).cell (p := ⟨b, o + 2, none⟩) hlb (by simp)).trans y2; have ly3 : w4.cell? ⟨b, o + 3, none⟩ = some p3 := ((uw3.out.trans uw4.out).cell (p := ⟨b, o + 3, none⟩) hlb (by simp)).trans y3; have ly4 : w4.cell? ⟨b, o + 4, none⟩ = some p4 := ((uw3.out.trans uw4.out).cell (p := ⟨b, o + 4, none⟩) hlb (by simp)).trans y4; have ly5 : w4.cell? ⟨b, o + 5, none⟩ = some p5 := ((uw3.out.trans uw4.out).cell (p := ⟨b, o + 5, none⟩) hlb (by simp)).trans y5; have ly6 : w4.cell? ⟨b, o + 6, none⟩ = some p6 := ((uw3.out.trans uw4.out).cell (p := ⟨b, o + 6, none⟩) hlb (by simp)).trans y6; have tbx := (HT1.out.mono uw3.out (by simp)).mono uw4.out (by simp); have tby := (HT2.out.mono uw3.out (by simp)).mono uw4.out (by simp); have z0 : w4.cell? ⟨w.heap.size + 1, 0, none⟩ = some (.int .u8 0) := tbx.cell 0; have f0 : w4.frozen? ⟨w.heap.size + 1, 0, none⟩ = false := tbx.free 0; have z1 : w4.cell? ⟨w.heap.size + 1, 1, none⟩ = some (.bool false) := tbx.cell 1; have f1 : w4.frozen? ⟨w.heap.size + 1, 1, none⟩ = false := tbx.free 1; have z2 : w4.cell? ⟨w.heap.size + 1, 2, none⟩ = some (.slice none 0 0) := tbx.cell 2; have f2 : w4.frozen? ⟨w.heap.size + 1, 2, none⟩ = false := tbx.free 2; have z3 : w4.cell? ⟨w.heap.size + 1, 3, none⟩ = some (.string ⟨#[]⟩) := tbx.cell 3; have f3 : w4.frozen? ⟨w.heap.size + 1, 3, none⟩ = false := tbx.free 3; have z4 : w4.cell? ⟨w.heap.size + 1, 4, none⟩ = some (.int .i64 0) := tbx.cell 4; have f4 : w4.frozen? ⟨w.heap.size + 1, 4, none⟩ = false := tbx.free 4; have z5 : w4.cell? ⟨w.heap.size + 1, 5, none⟩ = some (.slice none 0 0) := tbx.cell 5; have f5 : w4.frozen? ⟨w.heap.size + 1, 5, none⟩ = false := tbx.free 5; have z6 : w4.cell? ⟨w.heap.size + 1, 6, none⟩ = some (.slice none 0 0) := tbx.cell 6; have f6 : w4.frozen? ⟨w.heap.size + 1, 6, none⟩ = false := tbx.free 6; have zz0 : w4.cell? ⟨w.heap.size + 1 + 1, 0, none⟩ = some (.int .u8 0) := tby.cell 0; have ff0 : w4.frozen? ⟨w.heap.size + 1 + 1, 0, none⟩ = false := tby.free 0; have zz1 : w4.cell? ⟨w.heap.size + 1 + 1, 1, none⟩ = some (.bool false) := tby.cell 1; have ff1 : w4.frozen? ⟨w.heap.size + 1 + 1, 1, none⟩ = false := tby.free 1; have zz2 : w4.cell? ⟨w.heap.size + 1 + 1, 2, none⟩ = some (.slice none 0 0) := tby.cell 2; have ff2 : w4.frozen? ⟨w.heap.size + 1 + 1, 2, none⟩ = false := tby.free 2; have zz3 : w4.cell? ⟨w.heap.size + 1 + 1, 3, none⟩ = some (.string ⟨#[]⟩) := tby.cell 3; have ff3 : w4.frozen? ⟨w.heap.size + 1 + 1, 3, none⟩ = false := tby.free 3; have zz4 : w4.cell? ⟨w.heap.size + 1 + 1, 4, none⟩ = some (.int .i64 0) := tby.cell 4; have ff4 : w4.frozen? ⟨w.heap.size + 1 + 1, 4, none⟩ = false := tby.free 4; have zz5 : w4.cell? ⟨w.heap.size + 1 + 1, 5, none⟩ = some (.slice none 0 0) := tby.cell 5; have ff5 : w4.frozen? ⟨w.heap.size + 1 + 1, 5, none⟩ = false := tby.free 5; have zz6 : w4.cell? ⟨w.heap.size + 1 + 1, 6, none⟩ = some (.slice none 0 0) := tby.cell 6; have ff6 : w4.frozen? ⟨w.heap.size + 1 + 1, 6, none⟩ = false := tby.free 6; have HTX : Hid (Tb w4 _ _) := tbx; have HTY : Hid (Tb w4 _ _) := tby; clear tbx tby))
  all_goals
    obtain ⟨W5, hW5, hT5, hU5⟩ := set7 w4 (w.heap.size + 1) _ (.int .u8 k3) (.bool ng3) (.slice aa3 na3 ca3) (.string st3) (.int .i64 nu3) (.slice ab3 nb3 cb3) (.slice ac3 nc3 cc3) HTX.out rfl
    rw [← hW5]
    have hY5 := HTY.out.mono hU5 (by simp)
    obtain ⟨W6, hW6, hT6, hU6⟩ := set7 W5 (w.heap.size + 1 + 1) _ (.int .u8 k4) (.bool ng4) (.slice aa4 na4 ca4) (.string st4) (.int .i64 nu4) (.slice ab4 nb4 cb4) (.slice ac4 nc4 cc4) hY5 rfl
    rw [← hW6]
    have hT5' := hT5.mono hU6 (by simp)
    have hS1 : ∀ b, Pl B w1.heap.size b → b ∉ [w.heap.size + 1] := fun b hb hm => by
      simp at hm; subst hm
      rcases hb with hb | hb <;> omega
    have hS2 : ∀ b, Pl B w1.heap.size b → b ∉ [w.heap.size + 1 + 1] := fun b hb hm => by
      simp at hm; subst hm
      rcases hb with hb | hb <;> omega
    have hPQ : ∀ b, Pl B w1.heap.size b → b < W5.heap.size → (b < B ∨ w.heap.size ≤ b) := fun b hb _ => by
      rcases hb with hb | hb
      · exact Or.inl hb
      · exact Or.inr (by omega)
    have HA : Hid (InB (fun b => b < B ∨ w.heap.size ≤ b) W6 (d + 1) [.int .u8 k3, .bool ng3, .slice aa3 na3 ca3, .string st3, .int .i64 nu3, .slice ab3 nb3 cb3, .slice ac3 nc3 cc3] t) := InB.more _ _ _ (InB.upd hU6 hS2 hPQ _ _ _ (InB.upd hU5 hS1 (fun b hb _ => hb) _ _ _ (InB.upd uw4.out (by simp) (fun b hb _ => hb) _ _ _ HR3.out)))
    have HZ : Hid (InB (fun b => b < B ∨ w.heap.size ≤ b) W6 (d + 1) [.int .u8 k4, .bool ng4, .slice aa4 na4 ca4, .string st4, .int .i64 nu4, .slice ab4 nb4 cb4, .slice ac4 nc4 cc4] R) := InB.upd hU6 hS2 hPQ _ _ _ (InB.upd hU5 hS1 (fun b hb _ => hb) _ _ _ HR4.out)
    have HU6 : Hid (Upd [] w W6) := (((HU1.out.trans uw3.out).trans uw4.out).then hU5 (by simp)).then hU6 (by simp; omega)
    clear z0 f0 zz0 ff0 x0 y0 kx0 ky0 lx0 ly0 z1 f1 zz1 ff1 x1 y1 kx1 ky1 lx1 ly1 z2 f2 zz2 ff2 x2 y2 kx2 ky2 lx2 ly2 z3 f3 zz3 ff3 x3 y3 kx3 ky3 lx3 ly3 z4 f4 zz4 ff4 x4 y4 kx4 ky4 lx4 ly4 z5 f5 zz5 ff5 x5 y5 kx5 ky5 lx5 ly5 z6 f6 zz6 ff6 x6 y6 kx6 ky6 lx6 ly6 hW5 hW6 hS1 hS2 hPQ hU5 hU6 hY5 hT5
    go_wp2
    exact ret_TTb Tryz.results106 rfl _ _ _ _ _ rfl hT5' rfl rfl hT6 rfl rfl ⟨_, _, rfl, rfl, rfl, HA.out, HZ.out, HU6.out⟩


/-- What Split answers. -/
def SplitQ (w : World) (d : Nat) (t : Tm) (e : Ending) (w' : World) : Prop := ∃ cs cs' : List Value, cs.length = 7 ∧ cs'.length = 7 ∧ e = .returned (.tuple #[.agg cs.toArray, .agg cs'.toArray, .bool (splits t && okS t)]) ∧ In w' d cs (pickT (splits t && okS t) (headT t)) ∧ In w' d cs' (pickT (splits t && okS t) (restT t)) ∧ Upd [] w w'

set_option maxHeartbeats 4000000 in
set_option maxRecDepth 100000 in
theorem Split_bad (d c ci ct : Nat) (k num : Int) (neg : Bool) (s : ByteArray) (L : List Nat) (a ai at' : Option Addr) (I T : List Tm) (w : World) (hin : In w d [.int .u8 k, .bool neg, .slice a L.length c, .string s, .int .i64 num, .slice ai I.length ci, .slice at' T.length ct] (.mk k num neg L s I T)) (hz : tsz (.mk k num neg L s I T) ≤ 1353245080330) (hno : (splits (.mk k num neg L s I T) && okS (.mk k num neg L s I T)) = false) :
    Calls Tryz.prog 106 #[.agg #[.int .u8 k, .bool neg, .slice a L.length c, .string s, .int .i64 num, .slice ai I.length ci, .slice at' T.length ct]] w (SplitQ w d (.mk k num neg L s I T)) := by
  obtain ⟨o, ho⟩ : ∃ o, okS (.mk k num neg L s I T) = o := ⟨_, rfl⟩
  have HR : Hid (∀ V, Upd [] w V → Calls Tryz.prog 7 #[.agg #[.int .u8 k, .bool neg, .slice a L.length c, .string s, .int .i64 num, .slice ai I.length ci, .slice at' T.length ct]] V fun e w' => e = .returned (.bool o) ∧ Upd [] V w') := fun V hU => by
    have := TRight_in d V _ _ (In.mono hU _ _ _ hin) hz
    rw [ho] at this
    exact this
  have hzi : ∀ V : World, In V d zeroC zeroT := fun V => by
    cases d with
    | zero => exact hin.elim
    | succ d => exact zero_in V d
  have tb0 : Tb (((w.alloc (.cells #[.int .u8 k, .bool neg, .slice a L.length c, .string s, .int .i64 num, .slice ai I.length ci, .slice at' T.length ct] 26)).alloc (.cells #[.int .u8 0, .bool false, .slice none 0 0, .string ⟨#[]⟩, .int .i64 0, .slice none 0 0, .slice none 0 0] 26)).alloc (.cells #[.int .u8 0, .bool false, .slice none 0 0, .string ⟨#[]⟩, .int .i64 0, .slice none 0 0, .slice none 0 0] 26)) w.heap.size #[.int .u8 k, .bool neg, .slice a L.length c, .string s, .int .i64 num, .slice ai I.length ci, .slice at' T.length ct] := ((Tb.new _ _ _ rfl).old _).old _
  have tb1 : Tb (((w.alloc (.cells #[.int .u8 k, .bool neg, .slice a L.length c, .string s, .int .i64 num, .slice ai I.length ci, .slice at' T.length ct] 26)).alloc (.cells #[.int .u8 0, .bool false, .slice none 0 0, .string ⟨#[]⟩, .int .i64 0, .slice none 0 0, .slice none 0 0] 26)).alloc (.cells #[.int .u8 0, .bool false, .slice none 0 0, .string ⟨#[]⟩, .int .i64 0, .slice none 0 0, .slice none 0 0] 26)) (w.heap.size + 1) #[.int .u8 0, .bool false, .slice none 0 0, .string ⟨#[]⟩, .int .i64 0, .slice none 0 0, .slice none 0 0] := (Tb.new _ _ _ (by simp)).old _
  have tb2 : Tb (((w.alloc (.cells #[.int .u8 k, .bool neg, .slice a L.length c, .string s, .int .i64 num, .slice ai I.length ci, .slice at' T.length ct] 26)).alloc (.cells #[.int .u8 0, .bool false, .slice none 0 0, .string ⟨#[]⟩, .int .i64 0, .slice none 0 0, .slice none 0 0] 26)).alloc (.cells #[.int .u8 0, .bool false, .slice none 0 0, .string ⟨#[]⟩, .int .i64 0, .slice none 0 0, .slice none 0 0] 26)) (w.heap.size + 1 + 1) #[.int .u8 0, .bool false, .slice none 0 0, .string ⟨#[]⟩, .int .i64 0, .slice none 0 0, .slice none 0 0] := Tb.new _ _ _ (by simp)
  have HU0 : Hid (Upd [] w (((w.alloc (.cells #[.int .u8 k, .bool neg, .slice a L.length c, .string s, .int .i64 num, .slice ai I.length ci, .slice at' T.length ct] 26)).alloc (.cells #[.int .u8 0, .bool false, .slice none 0 0, .string ⟨#[]⟩, .int .i64 0, .slice none 0 0, .slice none 0 0] 26)).alloc (.cells #[.int .u8 0, .bool false, .slice none 0 0, .string ⟨#[]⟩, .int .i64 0, .slice none 0 0, .slice none 0 0] 26))) := (((Upd.refl [] w).alloc _).alloc _).alloc _
  have END : Hid (∀ V1 V2 V3, Upd [] w V1 → Upd [w.heap.size + 1] V1 V2 → Upd [w.heap.size + 1 + 1] V2 V3 → SplitQ w d (.mk k num neg L s I T) (.returned (.tuple #[(.agg #[.int .u8 0, .bool false, .slice none 0 0, .string ⟨#[]⟩, .int .i64 0, .slice none 0 0, .slice none 0 0]), (.agg #[.int .u8 0, .bool false, .slice none 0 0, .string ⟨#[]⟩, .int .i64 0, .slice none 0 0, .slice none 0 0]), .bool false])) V3) := fun V1 V2 V3 h1 h2 h3 => ⟨zeroC, zeroC, rfl, rfl, by rw [hno]; rfl, by rw [hno]; exact hzi V3, by rw [hno]; exact hzi V3, (h1.then h2 (by simp)).then h3 (by simp; omega)⟩
  have hl : I.length ≤ 1353245080330 := by simp only [tsz] at hz; exact Nat.le_trans (tszs_len I) (by omega)
  clear hin hz hzi
  by_cases hk : k = 7
  · subst hk
    cases I with
    | nil =>
      go_enter Tryz.func106, Tryz.ntmps106
      go_wp2_with (first | (refine store_V _ rfl _ _ rfl _ _ _ _ _ _ _ _ _ _ _ _ _ _ _ rfl rfl tb1 rfl ?_; intro w2 hT2 hU2; have tc2 := tb2.mono hU2 (by simp)) | (refine store_V _ rfl _ _ rfl _ _ _ _ _ _ _ _ _ _ _ _ _ _ _ rfl rfl tc2 rfl ?_; intro w3 hT3 hU3))
      exact ret_TTb Tryz.results106 rfl _ _ _ _ _ rfl (hT2.mono hU3 (by simp)) rfl rfl hT3 rfl rfl (END.out _ _ _ HU0.out hU2 hU3)
    | cons x r =>
      have ho2 : o = false := by
        rw [ho] at hno
        simpa [splits] using hno
      subst ho2
      have i0 : (((r.length + 1 : Nat) : Int) == 0) = false := beq_eq_false_iff_ne.2 (by omega)
      obtain ⟨W, hW⟩ : ∃ W, W = (((w.alloc (.cells #[.int .u8 7, .bool neg, .slice a L.length c, .string s, .int .i64 num, .slice ai (x :: r).length ci, .slice at' T.length ct] 26)).alloc (.cells #[.int .u8 0, .bool false, .slice none 0 0, .string ⟨#[]⟩, .int .i64 0, .slice none 0 0, .slice none 0 0] 26)).alloc (.cells #[.int .u8 0, .bool false, .slice none 0 0, .string ⟨#[]⟩, .int .i64 0, .slice none 0 0, .slice none 0 0] 26)) := ⟨_, rfl⟩
      have HW : Hid (W = (((w.alloc (.cells #[.int .u8 7, .bool neg, .slice a L.length c, .string s, .int .i64 num, .slice ai (x :: r).length ci, .slice at' T.length ct] 26)).alloc (.cells #[.int .u8 0, .bool false, .slice none 0 0, .string ⟨#[]⟩, .int .i64 0, .slice none 0 0, .slice none 0 0] 26)).alloc (.cells #[.int .u8 0, .bool false, .slice none 0 0, .string ⟨#[]⟩, .int .i64 0, .slice none 0 0, .slice none 0 0] 26))) := hW
      rw [List.length_cons] at hl
      simp only [List.length_cons] at tb0 tb1 tb2 HU0 HR hW HW ⊢
      rw [← hW] at tb0 tb1 tb2 HU0
      clear ho hno hW
      go_enter Tryz.func106, Tryz.ntmps106
      go_wp2_with fail
      rw [← HW.out]
      refine Calls.mono (HR.out _ HU0.out) ?_
      rintro e w1 ⟨rfl, hU1⟩
      have tc1 := tb1.mono hU1 (by simp)
      have td2 := tb2.mono hU1 (by simp)
      have U1 : Hid (Upd [] w w1) := HU0.out.trans hU1
      clear hU1 tb0 tb1 tb2
      go_wp2_with (first | (refine store_V _ rfl _ _ rfl _ _ _ _ _ _ _ _ _ _ _ _ _ _ _ rfl rfl tc1 rfl ?_; intro w2 hT2 hU2; have tc2 := td2.mono hU2 (by simp)) | (refine store_V _ rfl _ _ rfl _ _ _ _ _ _ _ _ _ _ _ _ _ _ _ rfl rfl tc2 rfl ?_; intro w3 hT3 hU3))
      exact ret_TTb Tryz.results106 rfl _ _ _ _ _ rfl (hT2.mono hU3 (by simp)) rfl rfl hT3 rfl rfl (END.out _ _ _ U1.out hU2 hU3)
  · have kne : (k == 7) = false := beq_eq_false_iff_ne.2 hk
    go_enter Tryz.func106, Tryz.ntmps106
    go_wp2_with (first | (refine store_V _ rfl _ _ rfl _ _ _ _ _ _ _ _ _ _ _ _ _ _ _ rfl rfl tb1 rfl ?_; intro w2 hT2 hU2; have tc2 := tb2.mono hU2 (by simp)) | (refine store_V _ rfl _ _ rfl _ _ _ _ _ _ _ _ _ _ _ _ _ _ _ rfl rfl tc2 rfl ?_; intro w3 hT3 hU3))
    exact ret_TTb Tryz.results106 rfl _ _ _ _ _ rfl (hT2.mono hU3 (by simp)) rfl rfl hT3 rfl rfl (END.out _ _ _ HU0.out hU2 hU3)

/-- Split of whatever term. -/
theorem Split_in (d : Nat) (w : World) (cs : List Value) (t : Tm) (hin : In w (d + 2) cs t) (hcap : CapC cs) (hz : tsz t ≤ 1353245080330) :
    Calls Tryz.prog 106 #[.agg cs.toArray] w (SplitQ w (d + 2) t) := by
  obtain ⟨k, num, neg, L, s, I, T⟩ := t
  have hin' := hin
  obtain ⟨a, ai, at', c, ci, ct, rfl, _, _, hI, hT⟩ := hin
  cases hyes : (splits (.mk k num neg L s I T) && okS (.mk k num neg L s I T)) with
  | false => exact Split_bad (d + 2) c ci ct k num neg s L a ai at' I T w hin' hz hyes
  | true =>
    have hy := hyes
    rw [Bool.and_eq_true] at hy
    obtain ⟨hsp, hok⟩ := hy
    unfold splits at hsp
    rw [Bool.and_eq_true, decide_eq_true_eq, decide_eq_true_eq] at hsp
    obtain ⟨rfl, hpos⟩ := hsp
    obtain ⟨b, o, rfl⟩ : ∃ b o, ai = some ⟨b, o, none⟩ := by
      rcases hI with h | ⟨b, o, e, _⟩
      · rw [h] at hpos; simp at hpos
      · exact ⟨b, o, e⟩
    have hinB := In.toB (P := fun b => b < w.heap.size) (fun b hb => hb) (Upd.refl [] w) _ _ _ hin'
    have hbl : I.length + belR I + (T.length + belR T) ≤ 4096 := by
      have h2 := hok
      rw [okS_iff] at h2
      have := bel_lt (.mk 7 num neg L s I T)
      rw [belT] at this
      omega
    have hzz := hz
    simp only [tsz] at hzz
    obtain ⟨ac, nc, cc, e5, hc1, hc2⟩ := hcap
    simp only [List.getElem?_cons_succ, List.getElem?_cons_zero, Option.some.injEq, Value.slice.injEq] at e5
    obtain ⟨_, rfl, rfl⟩ := e5
    have hH : I.getD 0 nilT = headT (.mk 7 num neg L s I T) := by unfold headT; cases I <;> rfl
    have key : ∀ e w', SplitP w.heap.size w (d + 2) (I.getD 0 nilT) (restT (.mk 7 num neg L s I T)) e w' → SplitQ w (d + 2) (.mk 7 num neg L s I T) e w' := by
      rintro e w' ⟨cs, cs', h1, h2, rfl, h4, h5, h6⟩
      refine ⟨cs, cs', h1, h2, by rw [hyes], ?_, ?_, h6⟩
      · rw [hyes, ← hH]
        exact InB.plain _ _ _ h4
      · rw [hyes]
        exact InB.plain _ _ _ h5
    refine (Split_gen w.heap.size (d + 1) b o ci ct c num neg s L a at' I T w (Nat.le_refl _) hinB hz hok hpos (restT (.mk 7 num neg L s I T)) (fun V hU => ?_)).mono key
    have hR : RowB (fun b => b < w.heap.size) (InB (fun b => b < w.heap.size) w (d + 1)) w (some ⟨b, o, none⟩) I ∧ RowB (fun b => b < w.heap.size) (InB (fun b => b < w.heap.size) w (d + 1)) w at' T := by
      obtain ⟨_, _, _, _, _, _, e, _, _, g1, g2⟩ := hinB
      simp only [List.cons.injEq, Value.slice.injEq, true_and, and_true] at e
      obtain ⟨_, ⟨e5, _⟩, e6, _⟩ := e
      rw [← e5] at g1
      rw [← e6] at g2
      exact ⟨g1, g2⟩
    rw [restT]
    by_cases h1 : I.length ≤ 1
    · rw [if_pos h1]
      have e1 : I.length = 1 := by omega
      rw [e1]
      have hT2 : RowAt (In w (d + 2)) w at' T := hT.imp (Upd.refl [] w) (fun cs t h => In.more _ _ _ h)
      exact rest_one (d + 2) c L.length ci ct num neg s a (some ⟨b, o, none⟩) at' T w V hU hT2 (by omega) (by omega) (by omega)
    · rw [if_neg h1]
      exact rest_many w.heap.size (d + 1) b o ci ct L.length c num neg s a at' I T V hU.size (RowB.upd hU (by simp) (fun b hb _ => hb) hR.1) (RowB.upd hU (by simp) (fun b hb _ => hb) hR.2) (by omega) (by omega) (by omega) (by omega) hc1 hc2

end Go.Proofs.YtnpocmhaoaigfaaGreatDoor
