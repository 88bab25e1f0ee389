/- SameTerm, of two terms that stand for one tree. -/
import Derived.Test.YtpjlhpopoacjdaaDoorTree
import Derived.Test.YtpjlhpopoacjdaaDoorSamT
import Derived.Deep.RegionHeld3
namespace Go.Proofs.YtpjlhpopoacjdaaDoor
open Go.RowKit

/-- What SameTerm is to answer, of depth d. -/
def SameSaid (d : Nat) : Prop := ∀ (w : World) (cs cs' : List Value) (t : Tm), In w d cs t → In w d cs' t → tsz t ≤ 1353245080330 → Calls Tryd.prog 18 #[.agg cs.toArray, .agg cs'.toArray] w fun e w' => e = .returned (.bool true) ∧ Upd [] w w'

theorem list7 {cs : List Value} (h : cs.length = 7) : ∃ c0 c1 c2 c3 c4 c5 c6, cs = [c0, c1, c2, c3, c4, c5, c6] := by
  match cs, h with
  | [c0, c1, c2, c3, c4, c5, c6], _ => exact ⟨c0, c1, c2, c3, c4, c5, c6, rfl⟩

set_option maxHeartbeats 4000000 in
set_option maxRecDepth 100000 in
theorem SameTerms_in (d : Nat) (ih : SameSaid d) (w : World) (a a' : Option Addr) (c c' : Nat) (I : List Tm) (h : RowAt (In w d) w a I) (h' : RowAt (In w d) w a' I) (hs : tszs I ≤ 1353245080330) :
    Calls Tryd.prog 45 #[.slice a I.length c, .slice a' I.length c'] w fun e w' => e = .returned (.bool true) ∧ Upd [] w w' := by
  have hIl := tszs_len I
  have hlen : I.length ≤ 1353245080330 := by omega
  have HS : Hid (tszs I ≤ 1353245080330) := hs
  have HA : Hid (RowAt (In w d) w a I) := h
  have HA' : Hid (RowAt (In w d) w a' I) := h'
  have IH : Hid (SameSaid d) := ih
  clear hIl hs h h' ih
  go_enter Tryd.func45, Tryd.ntmps45
  go_wp2
  go_loopw [5] (fun i wr => ∃ k : Nat, k ≤ I.length ∧ i = .int .i64 k ∧ Upd [] w wr) (fun i _ => I.length - (intOf i).toNat)
  case atStart => exact ⟨0, Nat.zero_le _, rfl, Upd.refl _ _⟩
  case round =>
    obtain ⟨k, hk, rfl, hU⟩ := hrel
    by_cases hk2 : k < I.length
    · rcases HA.out with h0 | ⟨b, o, rfl, hlt, hc⟩
      · rw [h0] at hk2; simp at hk2
      rcases HA'.out with h0 | ⟨b', o', rfl, hlt', hc'⟩
      · rw [h0] at hk2; simp at hk2
      obtain ⟨cs, hl7, hcell, hin⟩ := hc k hk2
      obtain ⟨cs', hl7', hcell', hin'⟩ := hc' k hk2
      obtain ⟨q0, q1, q2, q3, q4, q5, q6, rfl⟩ := list7 hl7
      obtain ⟨p0, p1, p2, p3, p4, p5, p6, rfl⟩ := list7 hl7'
      have HIN : Hid (In w d [q0, q1, q2, q3, q4, q5, q6] I[k]) := hin
      have HIN' : Hid (In w d [p0, p1, p2, p3, p4, p5, p6] I[k]) := hin'
      have hsz := tszs_get I k hk2
      have HSZ : Hid (tsz I[k] ≤ 1353245080330) := Nat.le_trans hsz HS.out
      have mc : ∀ j, j < 7 → wr.cell? ⟨b, o + (k * 7 + j), none⟩ = [q0, q1, q2, q3, q4, q5, q6][j]? := fun j hj => (hU.cell (p := ⟨b, o + (k * 7 + j), none⟩) hlt (by simp)).trans (hcell j hj)
      have mc' : ∀ j, j < 7 → wr.cell? ⟨b', o' + (k * 7 + j), none⟩ = [p0, p1, p2, p3, p4, p5, p6][j]? := fun j hj => (hU.cell (p := ⟨b', o' + (k * 7 + j), none⟩) hlt' (by simp)).trans (hcell' j hj)
      clear hc hc' hin hin' hsz hcell hcell' hl7 hl7'
      go_wp2_with fail
      have xq0 : wr.cell? ⟨b, o + k * 7, none⟩ = some q0 := mc 0 (by omega)
      have xq1 : wr.cell? ⟨b, o + k * 7 + 1, none⟩ = some q1 := mc 1 (by omega)
      have xq2 : wr.cell? ⟨b, o + k * 7 + 2, none⟩ = some q2 := mc 2 (by omega)
      have xq3 : wr.cell? ⟨b, o + k * 7 + 3, none⟩ = some q3 := mc 3 (by omega)
      have xq4 : wr.cell? ⟨b, o + k * 7 + 4, none⟩ = some q4 := mc 4 (by omega)
      have xq5 : wr.cell? ⟨b, o + k * 7 + 5, none⟩ = some q5 := mc 5 (by omega)
      have xq6 : wr.cell? ⟨b, o + k * 7 + 6, none⟩ = some q6 := mc 6 (by omega)
      have xp0 : wr.cell? ⟨b', o' + k * 7, none⟩ = some p0 := mc' 0 (by omega)
      have xp1 : wr.cell? ⟨b', o' + k * 7 + 1, none⟩ = some p1 := mc' 1 (by omega)
      have xp2 : wr.cell? ⟨b', o' + k * 7 + 2, none⟩ = some p2 := mc' 2 (by omega)
      have xp3 : wr.cell? ⟨b', o' + k * 7 + 3, none⟩ = some p3 := mc' 3 (by omega)
      have xp4 : wr.cell? ⟨b', o' + k * 7 + 4, none⟩ = some p4 := mc' 4 (by omega)
      have xp5 : wr.cell? ⟨b', o' + k * 7 + 5, none⟩ = some p5 := mc' 5 (by omega)
      have xp6 : wr.cell? ⟨b', o' + k * 7 + 6, none⟩ = some p6 := mc' 6 (by omega)
      clear mc mc'
      go_region_held3 (fun w' => w'.cell? ⟨b, o + k * 7, none⟩ = some q0 ∧ w'.cell? ⟨b, o + k * 7 + 1, none⟩ = some q1 ∧ w'.cell? ⟨b, o + k * 7 + 2, none⟩ = some q2 ∧ w'.cell? ⟨b, o + k * 7 + 3, none⟩ = some q3 ∧ w'.cell? ⟨b, o + k * 7 + 4, none⟩ = some q4 ∧ w'.cell? ⟨b, o + k * 7 + 5, none⟩ = some q5 ∧ w'.cell? ⟨b, o + k * 7 + 6, none⟩ = some q6 ∧ w'.cell? ⟨b', o' + k * 7, none⟩ = some p0 ∧ w'.cell? ⟨b', o' + k * 7 + 1, none⟩ = some p1 ∧ w'.cell? ⟨b', o' + k * 7 + 2, none⟩ = some p2 ∧ w'.cell? ⟨b', o' + k * 7 + 3, none⟩ = some p3 ∧ w'.cell? ⟨b', o' + k * 7 + 4, none⟩ = some p4 ∧ w'.cell? ⟨b', o' + k * 7 + 5, none⟩ = some p5 ∧ w'.cell? ⟨b', o' + k * 7 + 6, none⟩ = some p6)
        (go_keep)
        (first
          | (go_at_call 18; refine (Hid.out IH _ [q0, q1, q2, q3, q4, q5, q6] [p0, p1, p2, p3, p4, p5, p6] I[k] ?_ ?_ ?_).mono ?_; (exact In.mono (Upd.trans hU (by repeat (first | exact Upd.refl _ _ | refine Upd.drew ?_))) _ _ _ (Hid.out HIN)); (exact In.mono (Upd.trans hU (by repeat (first | exact Upd.refl _ _ | refine Upd.drew ?_))) _ _ _ (Hid.out HIN')); (exact HSZ.out); rintro e v1 ⟨rfl, hv1⟩; have uv1 : Hid (Upd [] wr v1) := Upd.trans (by repeat (first | exact Upd.refl _ _ | refine Upd.drew ?_)) hv1; have yq0 : v1.cell? ⟨b, o + k * 7, none⟩ = some q0 := ((Hid.out uv1).cell (p := ⟨b, o + k * 7, none⟩) (Nat.lt_of_lt_of_le hlt hU.size) (by simp)).trans xq0; have yq1 : v1.cell? ⟨b, o + k * 7 + 1, none⟩ = some q1 := ((Hid.out uv1).cell (p := ⟨b, o + k * 7 + 1, none⟩) (Nat.lt_of_lt_of_le hlt hU.size) (by simp)).trans xq1; have yq2 : v1.cell? ⟨b, o + k * 7 + 2, none⟩ = some q2 := ((Hid.out uv1).cell (p := ⟨b, o + k * 7 + 2, none⟩) (Nat.lt_of_lt_of_le hlt hU.size) (by simp)).trans xq2; have yq3 : v1.cell? ⟨b, o + k * 7 + 3, none⟩ = some q3 := ((Hid.out uv1).cell (p := ⟨b, o + k * 7 + 3, none⟩) (Nat.lt_of_lt_of_le hlt hU.size) (by simp)).trans xq3; have yq4 : v1.cell? ⟨b, o + k * 7 + 4, none⟩ = some q4 := ((Hid.out uv1).cell (p := ⟨b, o + k * 7 + 4, none⟩) (Nat.lt_of_lt_of_le hlt hU.size) (by simp)).trans xq4; have yq5 : v1.cell? ⟨b, o + k * 7 + 5, none⟩ = some q5 := ((Hid.out uv1).cell (p := ⟨b, o + k * 7 + 5, none⟩) (Nat.lt_of_lt_of_le hlt hU.size) (by simp)).trans xq5; have yq6 : v1.cell? ⟨b, o + k * 7 + 6, none⟩ = some q6 := ((Hid.out uv1).cell (p := ⟨b, o + k * 7 + 6, none⟩) (Nat.lt_of_lt_of_le hlt hU.size) (by simp)).trans xq6; have yp0 : v1.cell? ⟨b', o' + k * 7, none⟩ = some p0 := ((Hid.out uv1).cell (p := ⟨b', o' + k * 7, none⟩) (Nat.lt_of_lt_of_le hlt' hU.size) (by simp)).trans xp0; have yp1 : v1.cell? ⟨b', o' + k * 7 + 1, none⟩ = some p1 := ((Hid.out uv1).cell (p := ⟨b', o' + k * 7 + 1, none⟩) (Nat.lt_of_lt_of_le hlt' hU.size) (by simp)).trans xp1; have yp2 : v1.cell? ⟨b', o' + k * 7 + 2, none⟩ = some p2 := ((Hid.out uv1).cell (p := ⟨b', o' + k * 7 + 2, none⟩) (Nat.lt_of_lt_of_le hlt' hU.size) (by simp)).trans xp2; have yp3 : v1.cell? ⟨b', o' + k * 7 + 3, none⟩ = some p3 := ((Hid.out uv1).cell (p := ⟨b', o' + k * 7 + 3, none⟩) (Nat.lt_of_lt_of_le hlt' hU.size) (by simp)).trans xp3; have yp4 : v1.cell? ⟨b', o' + k * 7 + 4, none⟩ = some p4 := ((Hid.out uv1).cell (p := ⟨b', o' + k * 7 + 4, none⟩) (Nat.lt_of_lt_of_le hlt' hU.size) (by simp)).trans xp4; have yp5 : v1.cell? ⟨b', o' + k * 7 + 5, none⟩ = some p5 := ((Hid.out uv1).cell (p := ⟨b', o' + k * 7 + 5, none⟩) (Nat.lt_of_lt_of_le hlt' hU.size) (by simp)).trans xp5; have yp6 : v1.cell? ⟨b', o' + k * 7 + 6, none⟩ = some p6 := ((Hid.out uv1).cell (p := ⟨b', o' + k * 7 + 6, none⟩) (Nat.lt_of_lt_of_le hlt' hU.size) (by simp)).trans xp6))
      all_goals
        go_wp2
        go_roundw
        case rel => exact ⟨k + 1, by omega, by go_num, Upd.trans hU (Upd.trans (Hid.out uv1) (by repeat (first | exact Upd.refl _ _ | refine Upd.drew ?_)))⟩
        case measure => simp [intOf]; omega
    · go_wp2
      go_ret
      exact ⟨rfl, hU⟩

set_option maxHeartbeats 4000000 in
set_option maxRecDepth 100000 in
theorem SameTerm_step (d : Nat) (ih : SameSaid d) : SameSaid (d + 1) := by
  intro w cs cs' t h h' hs
  cases t with
  | mk k num neg L s I T =>
    obtain ⟨a, ai, at', c, ci, ct, rfl, hA, hD, hI, hT⟩ := h
    obtain ⟨b, bi, bt, cb, cbi, cbt, rfl, hA', hD', hI', hT'⟩ := h'
    simp only [tsz] at hs
    have HLm : Hid (∀ W, Upd [] w W → _) := fun W hu => SameLimbs_same a b c cb L W (by omega) (hA.mono hu) (hA'.mono hu)
    have HIt : Hid (∀ W, Upd [] w W → _) := fun W hu => SameTerms_in d ih W ai bi ci cbi I (hI.imp hu (In.mono hu d)) (hI'.imp hu (In.mono hu d)) (by omega)
    have HTt : Hid (∀ W, Upd [] w W → _) := fun W hu => SameTerms_in d ih W at' bt ct cbt T (hT.imp hu (In.mono hu d)) (hT'.imp hu (In.mono hu d)) (by omega)
    clear hA hA' hD hD' hI hI' hT hT' hs ih
    go_enter Tryd.func18, Tryd.ntmps18
    go_wp2_with fail
    have u0 := ((Upd.refl [] w).alloc (.cells #[.int .u8 k, .bool neg, .slice a L.length c, .string s, .int .i64 num, .slice ai I.length ci, .slice at' T.length ct] 26)).alloc (.cells #[.int .u8 k, .bool neg, .slice b L.length cb, .string s, .int .i64 num, .slice bi I.length cbi, .slice bt T.length cbt] 26)
    have tx := (Tb.new w #[.int .u8 k, .bool neg, .slice a L.length c, .string s, .int .i64 num, .slice ai I.length ci, .slice at' T.length ct] _ rfl).old (.cells #[.int .u8 k, .bool neg, .slice b L.length cb, .string s, .int .i64 num, .slice bi I.length cbi, .slice bt T.length cbt] 26)
    have ty := Tb.new (w.alloc (.cells #[.int .u8 k, .bool neg, .slice a L.length c, .string s, .int .i64 num, .slice ai I.length ci, .slice at' T.length ct] 26)) #[.int .u8 k, .bool neg, .slice b L.length cb, .string s, .int .i64 num, .slice bi I.length cbi, .slice bt T.length cbt] (w.heap.size + 1) (by simp)
    refine (HLm.out _ u0).mono ?_
    rintro e w1 ⟨rfl, hU1⟩
    have tx1 := tx.mono hU1 (by simp)
    have ty1 := ty.mono hU1 (by simp)
    have u1 := u0.trans hU1
    have x3 := tx1.cell 3
    have x4 := tx1.cell 4
    have x5 := tx1.cell 5
    have y3 := ty1.cell 3
    have y4 := ty1.cell 4
    have y5 := ty1.cell 5
    clear u0 tx ty hU1
    go_wp2_with fail
    refine (HIt.out _ u1).mono ?_
    rintro e w2 ⟨rfl, hU2⟩
    have tx2 := tx1.mono hU2 (by simp)
    have ty2 := ty1.mono hU2 (by simp)
    have u2 := u1.trans hU2
    have x6 := tx2.cell 6
    have y6 := ty2.cell 6
    clear tx1 ty1 hU2 x3 x4 x5 y3 y4 y5
    go_wp2_with fail
    refine (HTt.out _ u2).mono ?_
    rintro e w3 ⟨rfl, hU3⟩
    go_wp2
    go_ret
    exact ⟨rfl, u2.trans hU3⟩

/-- SameTerm, of two terms that stand for one tree: true. -/
theorem SameTerm_in : ∀ d, SameSaid d
  | 0 => fun _ _ _ _ h => h.elim
  | d + 1 => SameTerm_step d (SameTerm_in d)

end Go.Proofs.YtpjlhpopoacjdaaDoor
