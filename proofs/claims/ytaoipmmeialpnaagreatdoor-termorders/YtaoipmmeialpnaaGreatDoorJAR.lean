/- SameTerm of the kit, of right integers. -/
import Derived.Test.YtaoipmmeialpnaaGreatDoorJAC
import Derived.Test.YtaoipmmeialpnaaGreatDoorJAB
import Derived.Test.YtaoipmmeialpnaaGreatDoorSizC
import Derived.Deep.RegionHeld3

namespace Go.Proofs.YtaoipmmeialpnaaGreatDoor
open Go.RowKit

theorem take_eq_of (A B : List Nat) (k : Nat) (hA : k < A.length) (hB : k < B.length) (h : A.take k = B.take k) (he : A.getD k 0 = B.getD k 0) : A.take (k + 1) = B.take (k + 1) := by
  rw [List.getD_eq_getElem?_getD, List.getD_eq_getElem?_getD, List.getElem?_eq_getElem hA, List.getElem?_eq_getElem hB] at he
  rw [List.take_add_one, List.take_add_one, h, List.getElem?_eq_getElem hA, List.getElem?_eq_getElem hB]
  rw [show A[k] = B[k] from he]

set_option maxHeartbeats 2000000 in
set_option maxRecDepth 100000 in
/-- SameTerms, of no terms. -/
theorem SameTerms_nil (ai bi : Option Addr) (ci cb : Nat) (w : World) :
    Calls Tryz.prog 61 #[.slice ai 0 ci, .slice bi 0 cb] w fun e w' => e = .returned (.bool true) ∧ w' = w := by
  go_enter Tryz.func61, Tryz.ntmps61
  go_wp2
  refine wp_loop_rounds 1 ?_
  rw [rounds_succ]
  go_wp2
  go_ret
  exact ⟨rfl, rfl⟩

set_option maxHeartbeats 2000000 in
set_option maxRecDepth 100000 in
/-- SameLimbs: whether two rows are the same. -/
theorem SameLimbs_any (a b : Option Addr) (ca cb : Nat) (A B : List Nat) (w : World) (hA : A.length ≤ 35184372088800) (_hB : B.length ≤ 35184372088800) (HA : At w a A) (HB : At w b B) :
    Calls Tryz.prog 60 #[.slice a A.length ca, .slice b B.length cb] w fun e w' => e = .returned (.bool (decide (A = B))) ∧ Upd [] w w' := by
  by_cases hl : A.length = B.length
  · have HLB : Hid (B.length = A.length) := hl.symm
    rw [← hl]
    clear hl
    go_enter Tryz.func60, Tryz.ntmps60
    go_wp2
    go_loopw [5] (fun i wr => ∃ k : Nat, k ≤ A.length ∧ i = .int .i64 k ∧ A.take k = B.take k ∧ Upd [] w wr) (fun i _ => A.length - (intOf i).toNat)
    case atStart => exact ⟨0, Nat.zero_le _, rfl, by simp, Upd.refl _ _⟩
    case round =>
      obtain ⟨k, hk1, rfl, hd, hU⟩ := hrel
      have HD : Hid _ := hd
      clear hd
      by_cases hk2 : k < A.length
      · have hlB := HLB.out
        rcases HA.mono hU with h | ⟨ba, oa, rfl, hlta, hca⟩
        · rw [h] at hk2; simp at hk2
        rcases HB.mono hU with h | ⟨bb, ob, rfl, hltb, hcb⟩
        · rw [h] at hlB; simp at hlB; omega
        have hcx := hca k (by omega)
        have hcy := hcb k (by omega)
        obtain ⟨x, hx⟩ : ∃ x, x = A.getD k 0 := ⟨_, rfl⟩
        obtain ⟨y, hy⟩ : ∃ y, y = B.getD k 0 := ⟨_, rfl⟩
        rw [← hx] at hcx
        rw [← hy] at hcy
        have HX : Hid _ := hx
        have HY : Hid _ := hy
        clear hx hy hca hcb hlB
        by_cases hxy : x = y
        · subst hxy
          go_wp2
          go_region
          all_goals
            go_wp2
            go_roundw
            case rel =>
              refine ⟨k + 1, by omega, by go_num, ?_, hU.drew⟩
              exact take_eq_of A B k (by omega) (by rw [HLB.out]; omega) HD.out (by rw [← HX.out, ← HY.out])
            case measure => simp [intOf]; omega
        · have hne : ((x : Int) == (y : Int)) = false := by simp; omega
          go_wp2
          go_region
          all_goals go_wp2
          all_goals go_ret
          all_goals exact ⟨by rw [decide_eq_false (fun e => hxy (by rw [HX.out, HY.out, e]))]; rfl, hU.drew⟩
      · go_wp2
        go_ret
        refine ⟨?_, hU⟩
        have e : A = B := by
          have := HD.out
          rwa [List.take_of_length_le (by omega), List.take_of_length_le (by rw [HLB.out]; omega)] at this
        rw [decide_eq_true e]; rfl
  · have h1 : ((A.length : Int) == (B.length : Int)) = false := by simp; omega
    have h2 : decide (A = B) = false := decide_eq_false (fun e => hl (by rw [e]))
    rw [h2]
    go_enter Tryz.func60, Tryz.ntmps60
    go_wp2
    go_ret
    exact ⟨rfl, Upd.refl _ _⟩

theorem SameLimbs_same (a b : Option Addr) (ca cb : Nat) (A : List Nat) (w : World) (hA : A.length ≤ 35184372088800) (HA : At w a A) (HB : At w b A) :
    Calls Tryz.prog 60 #[.slice a A.length ca, .slice b A.length cb] w fun e w' => e = .returned (.bool true) ∧ Upd [] w w' := by
  refine (SameLimbs_any a b ca cb A A w hA hA HA HB).mono ?_
  rintro e w' ⟨rfl, h⟩
  exact ⟨by rw [decide_eq_true rfl], h⟩

set_option maxHeartbeats 2000000 in
set_option maxRecDepth 100000 in
/-- SameTerm, of two terms that are the same and have no terms inside. -/
theorem SameTerm_same (k : Int) (neg : Bool) (a ai at' b bi bt : Option Addr) (ca ci ct cb cbi cbt : Nat) (A : List Nat) (w : World) (hA : A.length ≤ 35184372088800) (HA : At w a A) (HB : At w b A) :
    Calls Tryz.prog 19 #[.agg #[.int .u8 k, .bool neg, .slice a A.length ca, .string ⟨#[]⟩, .int .i64 0, .slice ai 0 ci, .slice at' 0 ct], .agg #[.int .u8 k, .bool neg, .slice b A.length cb, .string ⟨#[]⟩, .int .i64 0, .slice bi 0 cbi, .slice bt 0 cbt]] w fun e w' => e = .returned (.bool true) ∧ Upd [] w w' := by
  have hS : Hid (∀ W, Upd [] w W → _) := fun W hu => SameLimbs_same a b ca cb A W hA (HA.mono hu) (HB.mono hu)
  clear HA HB
  go_enter Tryz.func19, Tryz.ntmps19
  go_wp2_with fail
  have u0 := ((Upd.refl [] w).alloc (.cells #[.int .u8 k, .bool neg, .slice a A.length ca, .string ⟨#[]⟩, .int .i64 0, .slice ai 0 ci, .slice at' 0 ct] 26)).alloc (.cells #[.int .u8 k, .bool neg, .slice b A.length cb, .string ⟨#[]⟩, .int .i64 0, .slice bi 0 cbi, .slice bt 0 cbt] 26)
  have tx := (Tb.new w #[.int .u8 k, .bool neg, .slice a A.length ca, .string ⟨#[]⟩, .int .i64 0, .slice ai 0 ci, .slice at' 0 ct] _ rfl).old (.cells #[.int .u8 k, .bool neg, .slice b A.length cb, .string ⟨#[]⟩, .int .i64 0, .slice bi 0 cbi, .slice bt 0 cbt] 26)
  have ty := Tb.new (w.alloc (.cells #[.int .u8 k, .bool neg, .slice a A.length ca, .string ⟨#[]⟩, .int .i64 0, .slice ai 0 ci, .slice at' 0 ct] 26)) #[.int .u8 k, .bool neg, .slice b A.length cb, .string ⟨#[]⟩, .int .i64 0, .slice bi 0 cbi, .slice bt 0 cbt] (w.heap.size + 1) (by simp)
  refine (hS.out _ u0).mono ?_
  rintro e w1 ⟨rfl, hU1⟩
  have tx1 := tx.mono hU1 (by simp)
  have ty1 := ty.mono hU1 (by simp)
  have u1 := u0.trans hU1
  have x3 := tx1.cell 3
  have x4 := tx1.cell 4
  have x5 := tx1.cell 5
  have x6 := tx1.cell 6
  have y3 := ty1.cell 3
  have y4 := ty1.cell 4
  have y5 := ty1.cell 5
  have y6 := ty1.cell 6
  have U1 : Hid (Upd [] w w1) := u1
  clear u0 tx ty tx1 ty1 hU1 hS u1
  go_wp2_with fail
  refine (SameTerms_nil ai bi ci cbi _).mono ?_
  rintro e w2 ⟨rfl, rfl⟩
  go_wp2_with fail
  refine (SameTerms_nil at' bt ct cbt _).mono ?_
  rintro e w3 ⟨rfl, rfl⟩
  go_wp2
  go_ret
  exact ⟨rfl, U1.out⟩

end Go.Proofs.YtaoipmmeialpnaaGreatDoor

/- SameTerm, of two terms that stand for one tree. -/
namespace Go.Proofs.YtaoipmmeialpnaaGreatDoor
open Go.RowKit

/-- What SameTerm is to answer, of depth d. -/
def SameSaid (d : Nat) : Prop := ∀ (w : World) (cs cs' : List Value) (t : Tm), In w d cs t → In w d cs' t → tsz t ≤ 1353245080330 → Calls Tryz.prog 19 #[.agg cs.toArray, .agg cs'.toArray] w fun e w' => e = .returned (.bool true) ∧ Upd [] w w'

set_option maxHeartbeats 4000000 in
set_option maxRecDepth 100000 in
theorem SameTerms_in (d : Nat) (ih : SameSaid d) (w : World) (a a' : Option Addr) (c c' : Nat) (I : List Tm) (h : RowAt (In w d) w a I) (h' : RowAt (In w d) w a' I) (hs : tszs I ≤ 1353245080330) :
    Calls Tryz.prog 61 #[.slice a I.length c, .slice a' I.length c'] w fun e w' => e = .returned (.bool true) ∧ Upd [] w w' := by
  have hIl := tszs_len I
  have hlen : I.length ≤ 1353245080330 := by omega
  have HS : Hid (tszs I ≤ 1353245080330) := hs
  have HA : Hid (RowAt (In w d) w a I) := h
  have HA' : Hid (RowAt (In w d) w a' I) := h'
  have IH : Hid (SameSaid d) := ih
  clear hIl hs h h' ih
  go_enter Tryz.func61, Tryz.ntmps61
  go_wp2
  go_loopw [5] (fun i wr => ∃ k : Nat, k ≤ I.length ∧ i = .int .i64 k ∧ Upd [] w wr) (fun i _ => I.length - (intOf i).toNat)
  case atStart => exact ⟨0, Nat.zero_le _, rfl, Upd.refl _ _⟩
  case round =>
    obtain ⟨k, hk, rfl, hU⟩ := hrel
    by_cases hk2 : k < I.length
    · rcases HA.out with h0 | ⟨b, o, rfl, hlt, hc⟩
      · rw [h0] at hk2; simp at hk2
      rcases HA'.out with h0 | ⟨b', o', rfl, hlt', hc'⟩
      · rw [h0] at hk2; simp at hk2
      obtain ⟨cs, hl7, hcell, hin⟩ := hc k hk2
      obtain ⟨cs', hl7', hcell', hin'⟩ := hc' k hk2
      obtain ⟨q0, q1, q2, q3, q4, q5, q6, rfl⟩ := list7 hl7
      obtain ⟨p0, p1, p2, p3, p4, p5, p6, rfl⟩ := list7 hl7'
      have HIN : Hid (In w d [q0, q1, q2, q3, q4, q5, q6] I[k]) := hin
      have HIN' : Hid (In w d [p0, p1, p2, p3, p4, p5, p6] I[k]) := hin'
      have hsz := tszs_get I k hk2
      have HSZ : Hid (tsz I[k] ≤ 1353245080330) := Nat.le_trans hsz HS.out
      have mc : ∀ j, j < 7 → wr.cell? ⟨b, o + (k * 7 + j), none⟩ = [q0, q1, q2, q3, q4, q5, q6][j]? := fun j hj => (hU.cell (p := ⟨b, o + (k * 7 + j), none⟩) hlt (by simp)).trans (hcell j hj)
      have mc' : ∀ j, j < 7 → wr.cell? ⟨b', o' + (k * 7 + j), none⟩ = [p0, p1, p2, p3, p4, p5, p6][j]? := fun j hj => (hU.cell (p := ⟨b', o' + (k * 7 + j), none⟩) hlt' (by simp)).trans (hcell' j hj)
      clear hc hc' hin hin' hsz hcell hcell' hl7 hl7'
      go_wp2_with fail
      have xq0 : wr.cell? ⟨b, o + k * 7, none⟩ = some q0 := mc 0 (by omega)
      have xq1 : wr.cell? ⟨b, o + k * 7 + 1, none⟩ = some q1 := mc 1 (by omega)
      have xq2 : wr.cell? ⟨b, o + k * 7 + 2, none⟩ = some q2 := mc 2 (by omega)
      have xq3 : wr.cell? ⟨b, o + k * 7 + 3, none⟩ = some q3 := mc 3 (by omega)
      have xq4 : wr.cell? ⟨b, o + k * 7 + 4, none⟩ = some q4 := mc 4 (by omega)
      have xq5 : wr.cell? ⟨b, o + k * 7 + 5, none⟩ = some q5 := mc 5 (by omega)
      have xq6 : wr.cell? ⟨b, o + k * 7 + 6, none⟩ = some q6 := mc 6 (by omega)
      have xp0 : wr.cell? ⟨b', o' + k * 7, none⟩ = some p0 := mc' 0 (by omega)
      have xp1 : wr.cell? ⟨b', o' + k * 7 + 1, none⟩ = some p1 := mc' 1 (by omega)
      have xp2 : wr.cell? ⟨b', o' + k * 7 + 2, none⟩ = some p2 := mc' 2 (by omega)
      have xp3 : wr.cell? ⟨b', o' + k * 7 + 3, none⟩ = some p3 := mc' 3 (by omega)
      have xp4 : wr.cell? ⟨b', o' + k * 7 + 4, none⟩ = some p4 := mc' 4 (by omega)
      have xp5 : wr.cell? ⟨b', o' + k * 7 + 5, none⟩ = some p5 := mc' 5 (by omega)
      have xp6 : wr.cell? ⟨b', o' + k * 7 + 6, none⟩ = some p6 := mc' 6 (by omega)
      clear mc mc'
      go_region_held3 (fun w' => w'.cell? ⟨b, o + k * 7, none⟩ = some q0 ∧ w'.cell? ⟨b, o + k * 7 + 1, none⟩ = some q1 ∧ w'.cell? ⟨b, o + k * 7 + 2, none⟩ = some q2 ∧ w'.cell? ⟨b, o + k * 7 + 3, none⟩ = some q3 ∧ w'.cell? ⟨b, o + k * 7 + 4, none⟩ = some q4 ∧ w'.cell? ⟨b, o + k * 7 + 5, none⟩ = some q5 ∧ w'.cell? ⟨b, o + k * 7 + 6, none⟩ = some q6 ∧ w'.cell? ⟨b', o' + k * 7, none⟩ = some p0 ∧ w'.cell? ⟨b', o' + k * 7 + 1, none⟩ = some p1 ∧ w'.cell? ⟨b', o' + k * 7 + 2, none⟩ = some p2 ∧ w'.cell? ⟨b', o' + k * 7 + 3, none⟩ = some p3 ∧ w'.cell? ⟨b', o' + k * 7 + 4, none⟩ = some p4 ∧ w'.cell? ⟨b', o' + k * 7 + 5, none⟩ = some p5 ∧ w'.cell? ⟨b', o' + k * 7 + 6, none⟩ = some p6)
        (go_keep)
        (first
          | (go_at_call 19; refine (Hid.out IH _ [q0, q1, q2, q3, q4, q5, q6] [p0, p1, p2, p3, p4, p5, p6] I[k] ?_ ?_ ?_).mono ?_; (exact In.mono (Upd.trans hU (by repeat (first | exact Upd.refl _ _ | refine Upd.drew ?_))) _ _ _ (Hid.out HIN)); (exact In.mono (Upd.trans hU (by repeat (first | exact Upd.refl _ _ | refine Upd.drew ?_))) _ _ _ (Hid.out HIN')); (exact HSZ.out); rintro e v1 ⟨rfl, hv1⟩; have uv1 : Hid (Upd [] wr v1) := Upd.trans (by repeat (first | exact Upd.refl _ _ | refine Upd.drew ?_)) hv1; have yq0 : v1.cell? ⟨b, o + k * 7, none⟩ = some q0 := ((Hid.out uv1).cell (p := ⟨b, o + k * 7, none⟩) (Nat.lt_of_lt_of_le hlt hU.size) (by simp)).trans xq0; have yq1 : v1.cell? ⟨b, o + k * 7 + 1, none⟩ = some q1 := ((Hid.out uv1).cell (p := ⟨b, o + k * 7 + 1, none⟩) (Nat.lt_of_lt_of_le hlt hU.size) (by simp)).trans xq1; have yq2 : v1.cell? ⟨b, o + k * 7 + 2, none⟩ = some q2 := ((Hid.out uv1).cell (p := ⟨b, o + k * 7 + 2, none⟩) (Nat.lt_of_lt_of_le hlt hU.size) (by simp)).trans xq2; have yq3 : v1.cell? ⟨b, o + k * 7 + 3, none⟩ = some q3 := ((Hid.out uv1).cell (p := ⟨b, o + k * 7 + 3, none⟩) (Nat.lt_of_lt_of_le hlt hU.size) (by simp)).trans xq3; have yq4 : v1.cell? ⟨b, o + k * 7 + 4, none⟩ = some q4 := ((Hid.out uv1).cell (p := ⟨b, o + k * 7 + 4, none⟩) (Nat.lt_of_lt_of_le hlt hU.size) (by simp)).trans xq4; have yq5 : v1.cell? ⟨b, o + k * 7 + 5, none⟩ = some q5 := ((Hid.out uv1).cell (p := ⟨b, o + k * 7 + 5, none⟩) (Nat.lt_of_lt_of_le hlt hU.size) (by simp)).trans xq5; have yq6 : v1.cell? ⟨b, o + k * 7 + 6, none⟩ = some q6 := ((Hid.out uv1).cell (p := ⟨b, o + k * 7 + 6, none⟩) (Nat.lt_of_lt_of_le hlt hU.size) (by simp)).trans xq6; have yp0 : v1.cell? ⟨b', o' + k * 7, none⟩ = some p0 := ((Hid.out uv1).cell (p := ⟨b', o' + k * 7, none⟩) (Nat.lt_of_lt_of_le hlt' hU.size) (by simp)).trans xp0; have yp1 : v1.cell? ⟨b', o' + k * 7 + 1, none⟩ = some p1 := ((Hid.out uv1).cell (p := ⟨b', o' + k * 7 + 1, none⟩) (Nat.lt_of_lt_of_le hlt' hU.size) (by simp)).trans xp1; have yp2 : v1.cell? ⟨b', o' + k * 7 + 2, none⟩ = some p2 := ((Hid.out uv1).cell (p := ⟨b', o' + k * 7 + 2, none⟩) (Nat.lt_of_lt_of_le hlt' hU.size) (by simp)).trans xp2; have yp3 : v1.cell? ⟨b', o' + k * 7 + 3, none⟩ = some p3 := ((Hid.out uv1).cell (p := ⟨b', o' + k * 7 + 3, none⟩) (Nat.lt_of_lt_of_le hlt' hU.size) (by simp)).trans xp3; have yp4 : v1.cell? ⟨b', o' + k * 7 + 4, none⟩ = some p4 := ((Hid.out uv1).cell (p := ⟨b', o' + k * 7 + 4, none⟩) (Nat.lt_of_lt_of_le hlt' hU.size) (by simp)).trans xp4; have yp5 : v1.cell? ⟨b', o' + k * 7 + 5, none⟩ = some p5 := ((Hid.out uv1).cell (p := ⟨b', o' + k * 7 + 5, none⟩) (Nat.lt_of_lt_of_le hlt' hU.size) (by simp)).trans xp5; have yp6 : v1.cell? ⟨b', o' + k * 7 + 6, none⟩ = some p6 := ((Hid.out uv1).cell (p := ⟨b', o' + k * 7 + 6, none⟩) (Nat.lt_of_lt_of_le hlt' hU.size) (by simp)).trans xp6))
      all_goals
        go_wp2
        go_roundw
        case rel => exact ⟨k + 1, by omega, by go_num, Upd.trans hU (Upd.trans (Hid.out uv1) (by repeat (first | exact Upd.refl _ _ | refine Upd.drew ?_)))⟩
        case measure => simp [intOf]; omega
    · go_wp2
      go_ret
      exact ⟨rfl, hU⟩

set_option maxHeartbeats 4000000 in
set_option maxRecDepth 100000 in
theorem SameTerm_step (d : Nat) (ih : SameSaid d) : SameSaid (d + 1) := by
  intro w cs cs' t h h' hs
  cases t with
  | mk k num neg L s I T =>
    obtain ⟨a, ai, at', c, ci, ct, rfl, hA, hD, hI, hT⟩ := h
    obtain ⟨b, bi, bt, cb, cbi, cbt, rfl, hA', hD', hI', hT'⟩ := h'
    simp only [tsz] at hs
    have HLm : Hid (∀ W, Upd [] w W → _) := fun W hu => SameLimbs_same a b c cb L W (by omega) (hA.mono hu) (hA'.mono hu)
    have HIt : Hid (∀ W, Upd [] w W → _) := fun W hu => SameTerms_in d ih W ai bi ci cbi I (hI.imp hu (In.mono hu d)) (hI'.imp hu (In.mono hu d)) (by omega)
    have HTt : Hid (∀ W, Upd [] w W → _) := fun W hu => SameTerms_in d ih W at' bt ct cbt T (hT.imp hu (In.mono hu d)) (hT'.imp hu (In.mono hu d)) (by omega)
    clear hA hA' hD hD' hI hI' hT hT' hs ih
    go_enter Tryz.func19, Tryz.ntmps19
    go_wp2_with fail
    have u0 := ((Upd.refl [] w).alloc (.cells #[.int .u8 k, .bool neg, .slice a L.length c, .string s, .int .i64 num, .slice ai I.length ci, .slice at' T.length ct] 26)).alloc (.cells #[.int .u8 k, .bool neg, .slice b L.length cb, .string s, .int .i64 num, .slice bi I.length cbi, .slice bt T.length cbt] 26)
    have tx := (Tb.new w #[.int .u8 k, .bool neg, .slice a L.length c, .string s, .int .i64 num, .slice ai I.length ci, .slice at' T.length ct] _ rfl).old (.cells #[.int .u8 k, .bool neg, .slice b L.length cb, .string s, .int .i64 num, .slice bi I.length cbi, .slice bt T.length cbt] 26)
    have ty := Tb.new (w.alloc (.cells #[.int .u8 k, .bool neg, .slice a L.length c, .string s, .int .i64 num, .slice ai I.length ci, .slice at' T.length ct] 26)) #[.int .u8 k, .bool neg, .slice b L.length cb, .string s, .int .i64 num, .slice bi I.length cbi, .slice bt T.length cbt] (w.heap.size + 1) (by simp)
    refine (HLm.out _ u0).mono ?_
    rintro e w1 ⟨rfl, hU1⟩
    have tx1 := tx.mono hU1 (by simp)
    have ty1 := ty.mono hU1 (by simp)
    have u1 := u0.trans hU1
    have x3 := tx1.cell 3
    have x4 := tx1.cell 4
    have x5 := tx1.cell 5
    have y3 := ty1.cell 3
    have y4 := ty1.cell 4
    have y5 := ty1.cell 5
    clear u0 tx ty hU1
    go_wp2_with fail
    refine (HIt.out _ u1).mono ?_
    rintro e w2 ⟨rfl, hU2⟩
    have tx2 := tx1.mono hU2 (by simp)
    have ty2 := ty1.mono hU2 (by simp)
    have u2 := u1.trans hU2
    have x6 := tx2.cell 6
    have y6 := ty2.cell 6
    clear tx1 ty1 hU2 x3 x4 x5 y3 y4 y5
    go_wp2_with fail
    refine (HTt.out _ u2).mono ?_
    rintro e w3 ⟨rfl, hU3⟩
    go_wp2
    go_ret
    exact ⟨rfl, u2.trans hU3⟩

/-- SameTerm, of two terms that stand for one tree: true. -/
theorem SameTerm_in : ∀ d, SameSaid d
  | 0 => fun _ _ _ _ h => h.elim
  | d + 1 => SameTerm_step d (SameTerm_in d)

end Go.Proofs.YtaoipmmeialpnaaGreatDoor
