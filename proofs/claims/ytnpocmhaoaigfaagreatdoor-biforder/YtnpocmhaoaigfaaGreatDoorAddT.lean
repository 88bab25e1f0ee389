/- Add, Sub, Compare. -/
import Derived.Test.YtnpocmhaoaigfaaGreatDoorSumT
import Derived.Test.YtnpocmhaoaigfaaGreatDoorJAB
namespace Go.Proofs.YtnpocmhaoaigfaaGreatDoor
open Go.RowKit

theorem limbsOk_norm {neg : Bool} {L : List Nat} {n : Nat} (hn : Norm L n) (hl : L.length ≤ 32) (hs : n = 0 → neg = false) : limbsOk neg L = true := by
  unfold limbsOk
  by_cases h0 : L.length = 0
  · rw [if_pos h0]
    have : L = [] := List.eq_nil_of_length_eq_zero h0
    rw [hs (hn.nil_iff.1 this)]; rfl
  · rw [if_neg h0]
    have ht := hn.top (L.getD (L.length - 1) 0) (by
      rw [List.getLast?_eq_getElem?, List.getD_eq_getElem?_getD, List.getElem?_eq_getElem (by omega)]; rfl)
    simp only [hl, decide_true, Bool.true_and, decide_eq_true_eq]
    exact ht

theorem TI.ok {w : World} {neg : Bool} {a : Option Addr} {L : List Nat} {z : Int} (h : TI w neg a L z) : okT 1 neg L ⟨#[]⟩ 0 0 0 = true := by
  unfold okT
  rw [limbsOk_norm h.norm h.len (fun e => by rw [h.sgn]; have : z = 0 := by omega
                                             simp [this])]
  rfl

/-- A right term, of whatever argument. -/
theorem okT_elim {w : World} {k num : Int} {neg : Bool} {a : Option Addr} {L : List Nat} {s : ByteArray} {ni nt : Nat} (h : okT k neg L s num ni nt = true) (hd : Dig L) (hm : At w a L) :
    k = 1 ∧ s = ⟨#[]⟩ ∧ num = 0 ∧ ni = 0 ∧ nt = 0 ∧ TI w neg a L (Go.Proofs.YtnpocmhaoaigfaaGreatDoor.sg neg (val L)) := by
  unfold okT at h
  simp only [Bool.and_eq_true, decide_eq_true_eq, beq_iff_eq] at h
  obtain ⟨⟨⟨⟨⟨h1, h2⟩, h3⟩, h4⟩, h5⟩, h6⟩ := h
  refine ⟨h1, ?_, h4, h5, h6, ?_⟩
  · cases s with
    | mk d => congr 1; exact Array.eq_empty_of_size_eq_zero h3
  · unfold limbsOk at h2
    have key : Norm L (val L) ∧ L.length ≤ 32 ∧ (L = [] → neg = false) := by
      by_cases h0 : L.length = 0
      · rw [if_pos h0] at h2
        have e : L = [] := List.eq_nil_of_length_eq_zero h0
        subst e
        exact ⟨Norm.zero, by simp, fun _ => by simpa using h2⟩
      · rw [if_neg h0] at h2
        simp only [Bool.and_eq_true, decide_eq_true_eq] at h2
        refine ⟨⟨hd, rfl, fun x hx => ?_⟩, h2.1, fun e => absurd (by rw [e]; rfl) h0⟩
        have ht := h2.2
        rw [List.getLast?_eq_getElem?] at hx
        rw [List.getD_eq_getElem?_getD, hx] at ht
        exact ht
    obtain ⟨hn, hl, hs⟩ := key
    refine ⟨by rw [sg_abs]; exact hn, hm, hl, ?_⟩
    rw [sg_neg]
    by_cases h0 : val L = 0
    · have e := hn.nil_iff.2 h0
      rw [hs e]; rfl
    · have h1 : 0 < val L := by omega
      simp [h1]

theorem TI.right {w W : World} {neg : Bool} {a : Option Addr} {L : List Nat} {z : Int} (h : TI w neg a L z) (ai at' : Option Addr) (c ci ct : Nat) (hu : Upd [] w W) :
    Calls Tryz.prog 11 #[.agg #[.int .u8 1, .bool neg, .slice a L.length c, .string ⟨#[]⟩, .int .i64 0, .slice ai 0 ci, .slice at' 0 ct]] W fun e w' => e = .returned (.bool true) ∧ w' = W.alloc (.cells #[.int .u8 1, .bool neg, .slice a L.length c, .string ⟨#[]⟩, .int .i64 0, .slice ai 0 ci, .slice at' 0 ct] 26) := by
  have h1 := Right_any 1 0 neg L ⟨#[]⟩ a ai at' c 0 ci 0 ct W (by have := h.len; omega) (h.mem.mono hu) (by omega) (by omega)
  rw [h.ok] at h1
  exact h1

theorem TI.sg_not {w : World} {neg : Bool} {a : Option Addr} {M : List Nat} {z : Int} (h : TI w neg a M z) : Go.Proofs.YtnpocmhaoaigfaaGreatDoor.sg (!neg) z.natAbs = -z := by
  have h1 := h.sg
  cases neg <;> simp [Go.Proofs.YtnpocmhaoaigfaaGreatDoor.sg] at h1 ⊢ <;> omega

/-- -1, 0, 1, of integers. -/
theorem cmpZ_pos3 (x y : Int) (hx : ¬ x < 0) (hy : ¬ y < 0) : cmp3 x.natAbs y.natAbs = cmpZ x y := by
  unfold cmp3 cmpZ
  have e1 : (x.natAbs < y.natAbs) = (x < y) := propext ⟨fun h => by omega, fun h => by omega⟩
  have e2 : (y.natAbs < x.natAbs) = (y < x) := propext ⟨fun h => by omega, fun h => by omega⟩
  simp only [e1, e2]
theorem cmpZ_neg3 (x y : Int) (hx : x < 0) (hy : y < 0) : cmp3 y.natAbs x.natAbs = cmpZ x y := by
  unfold cmp3 cmpZ
  have e1 : (y.natAbs < x.natAbs) = (x < y) := propext ⟨fun h => by omega, fun h => by omega⟩
  have e2 : (x.natAbs < y.natAbs) = (y < x) := propext ⟨fun h => by omega, fun h => by omega⟩
  simp only [e1, e2]

set_option maxHeartbeats 2000000 in
set_option maxRecDepth 100000 in
/-- Add, of right integers. -/
theorem Add_any (a ai at' b bi bt : Option Addr) (ca ci ct cb cbi cbt : Nat) (na nb : Bool) (A B : List Nat) (x y : Int) (w : World) (HA : TI w na a A x) (HB : TI w nb b B y) :
    Calls Tryz.prog 102 #[.agg #[.int .u8 1, .bool na, .slice a A.length ca, .string ⟨#[]⟩, .int .i64 0, .slice ai 0 ci, .slice at' 0 ct], .agg #[.int .u8 1, .bool nb, .slice b B.length cb, .string ⟨#[]⟩, .int .i64 0, .slice bi 0 cbi, .slice bt 0 cbt]] w fun e w' => Res w' e (x + y) ∧ Upd [] w w' := by
  have HRA : Hid (∀ W, Upd [] w W → _) := fun W hu => HA.right (W := W) ai at' ca ci ct hu
  have HRB : Hid (∀ W, Upd [] w W → _) := fun W hu => HB.right (W := W) bi bt cb cbi cbt hu
  have HTA : Hid _ := HA
  have HTB : Hid _ := HB
  have hlA := HA.len
  have hlB := HB.len
  clear HA HB
  go_enter Tryz.func102, Tryz.ntmps102
  go_wp2_with fail
  refine (HRA.out _ (by repeat (first | exact Upd.refl _ _ | refine Upd.alloc ?_ _))).mono ?_
  rintro e w1 ⟨rfl, rfl⟩
  go_wp2_with fail
  refine (HRB.out _ (by repeat (first | exact Upd.refl _ _ | refine Upd.alloc ?_ _))).mono ?_
  rintro e w2 ⟨rfl, rfl⟩
  go_wp2_with fail
  have hUW := ((((((Upd.refl [] w).alloc (.cells #[.int .u8 1, .bool na, .slice a A.length ca, .string ⟨#[]⟩, .int .i64 0, .slice ai 0 ci, .slice at' 0 ct] 26)).alloc (.cells #[.int .u8 1, .bool nb, .slice b B.length cb, .string ⟨#[]⟩, .int .i64 0, .slice bi 0 cbi, .slice bt 0 cbt] 26)).alloc (.cells #[.int .u8 0, .bool false, .slice none 0 0, .string ⟨#[]⟩, .int .i64 0, .slice none 0 0, .slice none 0 0] 26)).alloc (.cells #[.int .u8 1, .bool na, .slice a A.length ca, .string ⟨#[]⟩, .int .i64 0, .slice ai 0 ci, .slice at' 0 ct] 26)).alloc (.cells #[.int .u8 1, .bool nb, .slice b B.length cb, .string ⟨#[]⟩, .int .i64 0, .slice bi 0 cbi, .slice bt 0 cbt] 26))
  have hTW := (((Tb.new ((w.alloc (.cells #[.int .u8 1, .bool na, .slice a A.length ca, .string ⟨#[]⟩, .int .i64 0, .slice ai 0 ci, .slice at' 0 ct] 26)).alloc (.cells #[.int .u8 1, .bool nb, .slice b B.length cb, .string ⟨#[]⟩, .int .i64 0, .slice bi 0 cbi, .slice bt 0 cbt] 26)) #[.int .u8 0, .bool false, .slice none 0 0, .string ⟨#[]⟩, .int .i64 0, .slice none 0 0, .slice none 0 0] (w.heap.size + 2) (by simp)).old (.cells #[.int .u8 1, .bool na, .slice a A.length ca, .string ⟨#[]⟩, .int .i64 0, .slice ai 0 ci, .slice at' 0 ct] 26)).old (.cells #[.int .u8 1, .bool nb, .slice b B.length cb, .string ⟨#[]⟩, .int .i64 0, .slice bi 0 cbi, .slice bt 0 cbt] 26))
  refine (sum_any a b ca cb _ _ na nb A B _ (by omega) (by omega) (HTA.out.mem.mono hUW) (HTB.out.mem.mono hUW) HTA.out.norm HTB.out.norm).mono ?_
  rintro e w3 ⟨hR, hU3⟩
  rw [HTA.out.sg, HTB.out.sg] at hR
  have hT3 := hTW.mono hU3 (by simp)
  have hU03 := hUW.trans hU3
  clear hUW hTW hU3
  rcases hR with ⟨hs, neg', a2, c2, M2, rfl, hTI⟩ | ⟨hs, rfl⟩
  · have HTI : Hid _ := hTI
    have HS : Hid _ := hs
    clear hTI hs
    go_wp2_with (refine store_V _ rfl _ _ rfl _ _ _ _ _ _ _ _ _ _ _ _ _ _ _ rfl rfl hT3 rfl ?_; intro w4 hT4 hU4)
    exact ret_Tb Tryz.results102 rfl _ _ _ rfl hT4 rfl rfl ⟨Or.inl ⟨HS.out, neg', a2, c2, M2, rfl, ⟨HTI.out.norm, HTI.out.mem.keep hT3 hU4, HTI.out.len, HTI.out.sgn⟩⟩, hU03.then hU4 (by simp <;> omega)⟩
  · have HS : Hid _ := hs
    clear hs
    go_wp2_with (refine store_V _ rfl _ _ rfl _ _ _ _ _ _ _ _ _ _ _ _ _ _ _ rfl rfl hT3 rfl ?_; intro w4 hT4 hU4)
    exact ret_Tb Tryz.results102 rfl _ _ _ rfl hT4 rfl rfl ⟨Or.inr ⟨HS.out, rfl⟩, hU03.then hU4 (by simp <;> omega)⟩

set_option maxHeartbeats 2000000 in
set_option maxRecDepth 100000 in
/-- Sub, of right integers. -/
theorem Sub_any (a ai at' b bi bt : Option Addr) (ca ci ct cb cbi cbt : Nat) (na nb : Bool) (A B : List Nat) (x y : Int) (w : World) (HA : TI w na a A x) (HB : TI w nb b B y) :
    Calls Tryz.prog 103 #[.agg #[.int .u8 1, .bool na, .slice a A.length ca, .string ⟨#[]⟩, .int .i64 0, .slice ai 0 ci, .slice at' 0 ct], .agg #[.int .u8 1, .bool nb, .slice b B.length cb, .string ⟨#[]⟩, .int .i64 0, .slice bi 0 cbi, .slice bt 0 cbt]] w fun e w' => Res w' e (x - y) ∧ Upd [] w w' := by
  have HRA : Hid (∀ W, Upd [] w W → _) := fun W hu => HA.right (W := W) ai at' ca ci ct hu
  have HRB : Hid (∀ W, Upd [] w W → _) := fun W hu => HB.right (W := W) bi bt cb cbi cbt hu
  have HTA : Hid _ := HA
  have HTB : Hid _ := HB
  have hlA := HA.len
  have hlB := HB.len
  clear HA HB
  go_enter Tryz.func103, Tryz.ntmps103
  go_wp2_with fail
  refine (HRA.out _ (by repeat (first | exact Upd.refl _ _ | refine Upd.alloc ?_ _))).mono ?_
  rintro e w1 ⟨rfl, rfl⟩
  go_wp2_with fail
  refine (HRB.out _ (by repeat (first | exact Upd.refl _ _ | refine Upd.alloc ?_ _))).mono ?_
  rintro e w2 ⟨rfl, rfl⟩
  go_wp2_with fail
  have hUW := ((((((Upd.refl [] w).alloc (.cells #[.int .u8 1, .bool na, .slice a A.length ca, .string ⟨#[]⟩, .int .i64 0, .slice ai 0 ci, .slice at' 0 ct] 26)).alloc (.cells #[.int .u8 1, .bool nb, .slice b B.length cb, .string ⟨#[]⟩, .int .i64 0, .slice bi 0 cbi, .slice bt 0 cbt] 26)).alloc (.cells #[.int .u8 0, .bool false, .slice none 0 0, .string ⟨#[]⟩, .int .i64 0, .slice none 0 0, .slice none 0 0] 26)).alloc (.cells #[.int .u8 1, .bool na, .slice a A.length ca, .string ⟨#[]⟩, .int .i64 0, .slice ai 0 ci, .slice at' 0 ct] 26)).alloc (.cells #[.int .u8 1, .bool nb, .slice b B.length cb, .string ⟨#[]⟩, .int .i64 0, .slice bi 0 cbi, .slice bt 0 cbt] 26))
  have hTW := (((Tb.new ((w.alloc (.cells #[.int .u8 1, .bool na, .slice a A.length ca, .string ⟨#[]⟩, .int .i64 0, .slice ai 0 ci, .slice at' 0 ct] 26)).alloc (.cells #[.int .u8 1, .bool nb, .slice b B.length cb, .string ⟨#[]⟩, .int .i64 0, .slice bi 0 cbi, .slice bt 0 cbt] 26)) #[.int .u8 0, .bool false, .slice none 0 0, .string ⟨#[]⟩, .int .i64 0, .slice none 0 0, .slice none 0 0] (w.heap.size + 2) (by simp)).old (.cells #[.int .u8 1, .bool na, .slice a A.length ca, .string ⟨#[]⟩, .int .i64 0, .slice ai 0 ci, .slice at' 0 ct] 26)).old (.cells #[.int .u8 1, .bool nb, .slice b B.length cb, .string ⟨#[]⟩, .int .i64 0, .slice bi 0 cbi, .slice bt 0 cbt] 26))
  refine (sum_any a b ca cb _ _ na (!nb) A B _ (by omega) (by omega) (HTA.out.mem.mono hUW) (HTB.out.mem.mono hUW) HTA.out.norm HTB.out.norm).mono ?_
  rintro e w3 ⟨hR, hU3⟩
  rw [HTA.out.sg, HTB.out.sg_not, ← Int.sub_eq_add_neg] at hR
  have hT3 := hTW.mono hU3 (by simp)
  have hU03 := hUW.trans hU3
  clear hUW hTW hU3
  rcases hR with ⟨hs, neg', a2, c2, M2, rfl, hTI⟩ | ⟨hs, rfl⟩
  · have HTI : Hid _ := hTI
    have HS : Hid _ := hs
    clear hTI hs
    go_wp2_with (refine store_V _ rfl _ _ rfl _ _ _ _ _ _ _ _ _ _ _ _ _ _ _ rfl rfl hT3 rfl ?_; intro w4 hT4 hU4)
    exact ret_Tb Tryz.results103 rfl _ _ _ rfl hT4 rfl rfl ⟨Or.inl ⟨HS.out, neg', a2, c2, M2, rfl, ⟨HTI.out.norm, HTI.out.mem.keep hT3 hU4, HTI.out.len, HTI.out.sgn⟩⟩, hU03.then hU4 (by simp <;> omega)⟩
  · have HS : Hid _ := hs
    clear hs
    go_wp2_with (refine store_V _ rfl _ _ rfl _ _ _ _ _ _ _ _ _ _ _ _ _ _ _ rfl rfl hT3 rfl ?_; intro w4 hT4 hU4)
    exact ret_Tb Tryz.results103 rfl _ _ _ rfl hT4 rfl rfl ⟨Or.inr ⟨HS.out, rfl⟩, hU03.then hU4 (by simp <;> omega)⟩

set_option maxHeartbeats 2000000 in
set_option maxRecDepth 100000 in
/-- Compare, of right integers. -/
theorem Compare_any (a ai at' b bi bt : Option Addr) (ca ci ct cb cbi cbt : Nat) (na nb : Bool) (A B : List Nat) (x y : Int) (w : World) (HA : TI w na a A x) (HB : TI w nb b B y) :
    Calls Tryz.prog 38 #[.agg #[.int .u8 1, .bool na, .slice a A.length ca, .string ⟨#[]⟩, .int .i64 0, .slice ai 0 ci, .slice at' 0 ct], .agg #[.int .u8 1, .bool nb, .slice b B.length cb, .string ⟨#[]⟩, .int .i64 0, .slice bi 0 cbi, .slice bt 0 cbt]] w fun e w' => e = .returned (.int .i64 (cmpZ x y)) ∧ Upd [] w w' := by
  have HRA : Hid (∀ W, Upd [] w W → _) := fun W hu => HA.right (W := W) ai at' ca ci ct hu
  have HRB : Hid (∀ W, Upd [] w W → _) := fun W hu => HB.right (W := W) bi bt cb cbi cbt hu
  have HTA : Hid _ := HA
  have HTB : Hid _ := HB
  have hlA := HA.len
  have hlB := HB.len
  clear HA HB
  have hUW := (((((Upd.refl [] w).alloc (.cells #[.int .u8 1, .bool na, .slice a A.length ca, .string ⟨#[]⟩, .int .i64 0, .slice ai 0 ci, .slice at' 0 ct] 26)).alloc (.cells #[.int .u8 1, .bool nb, .slice b B.length cb, .string ⟨#[]⟩, .int .i64 0, .slice bi 0 cbi, .slice bt 0 cbt] 26)).alloc (.cells #[.int .u8 1, .bool na, .slice a A.length ca, .string ⟨#[]⟩, .int .i64 0, .slice ai 0 ci, .slice at' 0 ct] 26)).alloc (.cells #[.int .u8 1, .bool nb, .slice b B.length cb, .string ⟨#[]⟩, .int .i64 0, .slice bi 0 cbi, .slice bt 0 cbt] 26))
  have HUW : Hid _ := hUW
  clear hUW
  have hsa := HTA.out.sgn
  have hsb := HTB.out.sgn
  by_cases hx : x < 0
  · have ea : na = true := by rw [hsa]; simp [hx]
    by_cases hy : y < 0
    · have eb : nb = true := by rw [hsb]; simp [hy]
      clear hsa hsb
      subst ea eb
      have hcz : cmp3 y.natAbs x.natAbs = cmpZ x y := cmpZ_neg3 x y hx hy
      go_enter Tryz.func38, Tryz.ntmps38
      go_wp2_with fail
      refine (HRA.out _ (by repeat (first | exact Upd.refl _ _ | refine Upd.alloc ?_ _))).mono ?_
      rintro e w1 ⟨rfl, rfl⟩
      go_wp2_with fail
      refine (HRB.out _ (by repeat (first | exact Upd.refl _ _ | refine Upd.alloc ?_ _))).mono ?_
      rintro e w2 ⟨rfl, rfl⟩
      go_wp2_with fail
      refine (compareLimbs_any b a cb ca _ _ B A _ (by omega) (by omega) (HTB.out.mem.mono HUW.out) (HTA.out.mem.mono HUW.out) HTB.out.norm HTA.out.norm).mono ?_
      rintro e w3 ⟨rfl, hU3⟩
      rw [hcz]
      go_wp2
      go_ret
      exact ⟨rfl, HUW.out.trans hU3⟩
    · have eb : nb = false := by rw [hsb]; simp [hy]
      clear hsa hsb
      subst ea eb
      have hcz : cmpZ x y = -1 := by unfold cmpZ; rw [if_pos (by omega)]
      rw [hcz]
      go_enter Tryz.func38, Tryz.ntmps38
      go_wp2_with fail
      refine (HRA.out _ (by repeat (first | exact Upd.refl _ _ | refine Upd.alloc ?_ _))).mono ?_
      rintro e w1 ⟨rfl, rfl⟩
      go_wp2_with fail
      refine (HRB.out _ (by repeat (first | exact Upd.refl _ _ | refine Upd.alloc ?_ _))).mono ?_
      rintro e w2 ⟨rfl, rfl⟩
      go_wp2
      go_ret
      exact ⟨rfl, HUW.out⟩
  · have ea : na = false := by rw [hsa]; simp [hx]
    by_cases hy : y < 0
    · have eb : nb = true := by rw [hsb]; simp [hy]
      clear hsa hsb
      subst ea eb
      have hcz : cmpZ x y = 1 := by unfold cmpZ; rw [if_neg (by omega), if_pos (by omega)]
      rw [hcz]
      go_enter Tryz.func38, Tryz.ntmps38
      go_wp2_with fail
      refine (HRA.out _ (by repeat (first | exact Upd.refl _ _ | refine Upd.alloc ?_ _))).mono ?_
      rintro e w1 ⟨rfl, rfl⟩
      go_wp2_with fail
      refine (HRB.out _ (by repeat (first | exact Upd.refl _ _ | refine Upd.alloc ?_ _))).mono ?_
      rintro e w2 ⟨rfl, rfl⟩
      go_wp2
      go_ret
      exact ⟨rfl, HUW.out⟩
    · have eb : nb = false := by rw [hsb]; simp [hy]
      clear hsa hsb
      subst ea eb
      have hcz : cmp3 x.natAbs y.natAbs = cmpZ x y := cmpZ_pos3 x y hx hy
      go_enter Tryz.func38, Tryz.ntmps38
      go_wp2_with fail
      refine (HRA.out _ (by repeat (first | exact Upd.refl _ _ | refine Upd.alloc ?_ _))).mono ?_
      rintro e w1 ⟨rfl, rfl⟩
      go_wp2_with fail
      refine (HRB.out _ (by repeat (first | exact Upd.refl _ _ | refine Upd.alloc ?_ _))).mono ?_
      rintro e w2 ⟨rfl, rfl⟩
      go_wp2_with fail
      refine (compareLimbs_any a b ca cb _ _ A B _ (by omega) (by omega) (HTA.out.mem.mono HUW.out) (HTB.out.mem.mono HUW.out) HTA.out.norm HTB.out.norm).mono ?_
      rintro e w3 ⟨rfl, hU3⟩
      rw [hcz]
      go_wp2
      go_ret
      exact ⟨rfl, HUW.out.trans hU3⟩

end Go.Proofs.YtnpocmhaoaigfaaGreatDoor
