/- slices.CompareFunc over terms, tailOf: by their contracts. -/
import Derived.Test.YtnpocmhaoaigfaaGreatDoorOrdA
namespace Go.Proofs.YtnpocmhaoaigfaaGreatDoor
open Go.RowKit

/-- What order is to answer, of depth d. -/
def OrdSaid (d : Nat) : Prop := ∀ (w : World) (cs cs' : List Value) (t u : Tm), In w d cs t → In w d cs' u → okT' t = true → okT' u = true → tsz t ≤ 1353245080330 → tsz u ≤ 1353245080330 →
  Calls Tryz.prog 20 #[.agg cs.toArray, .agg cs'.toArray] w fun e w' => e = .returned (.int .i64 (ordT t u)) ∧ Upd [] w w'

theorem okR_get (I : List Tm) (k : Nat) (hk : k < I.length) (h : okR I = true) : okT' I[k] = true := by
  cases ho : okT' I[k] with
  | true => rfl
  | false => rw [okR_bad I k hk ho] at h; cases h
theorem ordR_more (I I' : List Tm) (h : 0 < I.length) (h' : I' = []) : ordR I I' = 1 := by
  subst h'
  cases I with
  | nil => simp at h
  | cons t r => rfl
theorem ordR_less (I I' : List Tm) (h : I = []) (h' : 0 < I'.length) : ordR I I' = -1 := by
  subst h
  cases I' with
  | nil => simp at h'
  | cons t r => rfl
theorem ordR_end (I I' : List Tm) (h : I = []) (h' : I' = []) : ordR I I' = 0 := by subst h h'; rfl
theorem ordR_next (I I' : List Tm) (k : Nat) (hk : k < I.length) (hk' : k < I'.length) : ordR (I.drop k) (I'.drop k) = th (ordT I[k] I'[k]) (ordR (I.drop (k + 1)) (I'.drop (k + 1))) := by
  rw [List.drop_eq_getElem_cons hk, List.drop_eq_getElem_cons hk', ordR]
theorem ordT_bound (t u : Tm) (h : okT' t = true) (h' : okT' u = true) : -1 ≤ ordT t u ∧ ordT t u ≤ 1 := by
  rcases ordT_range t u h h' with e | e | e <;> rw [e] <;> omega

set_option maxHeartbeats 4000000 in
set_option maxRecDepth 100000 in
theorem cmpf_in (d : Nat) (ih : OrdSaid d) (w : World) (a a' : Option Addr) (c c' : Nat) (I I' : List Tm) (h : RowAt (In w d) w a I) (h' : RowAt (In w d) w a' I') (ho : okR I = true) (ho' : okR I' = true) (hs : tszs I ≤ 1353245080330) (hs' : tszs I' ≤ 1353245080330) :
    Calls Tryz.prog 42 #[.slice a I.length c, .slice a' I'.length c', .func (.func 20) #[] #[]] w fun e w' => e = .returned (.int .i64 (ordR I I')) ∧ Upd [] w w' := by
  have hlen : I.length ≤ 1353245080330 := Nat.le_trans (tszs_len I) hs
  have hlen' : I'.length ≤ 1353245080330 := Nat.le_trans (tszs_len I') hs'
  have HS : Hid (tszs I ≤ 1353245080330) := hs
  have HS' : Hid (tszs I' ≤ 1353245080330) := hs'
  have HA : Hid (RowAt (In w d) w a I) := h
  have HA' : Hid (RowAt (In w d) w a' I') := h'
  have HO : Hid (okR I = true) := ho
  have HO' : Hid (okR I' = true) := ho'
  have IH : Hid (OrdSaid d) := ih
  clear hs hs' h h' ho ho' ih
  have hcall : ∀ args w, (callFunc 20 args).run Tryz.prog w = .ok (.enter 20 args) w := Tryz.call20
  go_enter Tryz.func42, Tryz.ntmps42
  go_wp2
  go_loopw [13] (fun i wr => ∃ k : Nat, k ≤ I.length ∧ k ≤ I'.length ∧ i = .int .i64 k ∧ ordR I I' = ordR (I.drop k) (I'.drop k) ∧ Upd [] w wr) (fun i _ => I.length - (intOf i).toNat)
  case atStart => exact ⟨0, Nat.zero_le _, Nat.zero_le _, rfl, rfl, Upd.refl _ _⟩
  case round =>
    obtain ⟨k, hk, hk', rfl, hr, hU⟩ := hrel
    have HR : Hid (ordR I I' = ordR (I.drop k) (I'.drop k)) := hr
    have HU : Hid (Upd [] w wr) := hU
    have HA2 := HA.out.imp hU (fun cs t h => In.mono hU d cs t h)
    have HB2 := HA'.out.imp hU (fun cs t h => In.mono hU d cs t h)
    clear hr hU
    by_cases hlt : k < I.length
    · rcases HA2 with h0 | ⟨b0, o, rfl, hb0, hc⟩
      · rw [h0] at hlt; simp at hlt
      obtain ⟨cs, hl7, hcell, hin⟩ := hc k hlt
      have hone := hin.one
      obtain ⟨q0, q1, q2, q3, q4, q5, q6, rfl⟩ := list7 hl7
      have HIN : Hid (In wr d [q0, q1, q2, q3, q4, q5, q6] I[k]) := hin
      have xq0 : wr.cell? ⟨b0, o + k * 7, none⟩ = some q0 := hcell 0 (by omega)
      have xq1 : wr.cell? ⟨b0, o + k * 7 + 1, none⟩ = some q1 := hcell 1 (by omega)
      have xq2 : wr.cell? ⟨b0, o + k * 7 + 2, none⟩ = some q2 := hcell 2 (by omega)
      have xq3 : wr.cell? ⟨b0, o + k * 7 + 3, none⟩ = some q3 := hcell 3 (by omega)
      have xq4 : wr.cell? ⟨b0, o + k * 7 + 4, none⟩ = some q4 := hcell 4 (by omega)
      have xq5 : wr.cell? ⟨b0, o + k * 7 + 5, none⟩ = some q5 := hcell 5 (by omega)
      have xq6 : wr.cell? ⟨b0, o + k * 7 + 6, none⟩ = some q6 := hcell 6 (by omega)
      have i1 : (k : Int) < (I.length : Int) := by omega
      have tbz : Tb (wr.alloc (.cells #[.int .u8 0, .bool false, .slice none 0 0, .string ⟨#[]⟩, .int .i64 0, .slice none 0 0, .slice none 0 0] 26)) wr.heap.size #[.int .u8 0, .bool false, .slice none 0 0, .string ⟨#[]⟩, .int .i64 0, .slice none 0 0, .slice none 0 0] := Tb.new _ _ _ rfl
      clear hc hcell hin
      by_cases hlt' : k < I'.length
      · rcases HB2 with h0 | ⟨b1, o', rfl, hb1, hc'⟩
        · rw [h0] at hlt'; simp at hlt'
        obtain ⟨cs', hl7', hcell', hin'⟩ := hc' k hlt'
        have hone' := hin'.one
        obtain ⟨p0, p1, p2, p3, p4, p5, p6, rfl⟩ := list7 hl7'
        have HIN' : Hid (In wr d [p0, p1, p2, p3, p4, p5, p6] I'[k]) := hin'
        have i2 : (k : Int) < (I'.length : Int) := by omega
        clear hc' hin'
        have HC1 : Hid (∀ w1, Upd [] wr w1 → ∀ j, j < 7 → w1.cell? ⟨b1, o' + (k * 7 + j), none⟩ = [p0, p1, p2, p3, p4, p5, p6][j]?) := fun w1 hu j hj => (hu.cell (p := ⟨b1, o' + (k * 7 + j), none⟩) hb1 (by simp)).trans (hcell' j hj)
        go_wp2_with (first
          | (refine store_T _ rfl _ _ rfl _ #[q0, q1, q2, q3, q4, q5, q6] _ rfl rfl tbz rfl rfl hone ?_; intro w1 hT1 hU1; have HW1 : Hid (Upd [] wr w1) := ((Upd.refl [] wr).alloc _).then hU1 (by simp); clear hU1
             have xp0 : w1.cell? ⟨b1, o' + k * 7, none⟩ = some p0 := HC1.out w1 HW1.out 0 (by omega); have xp1 : w1.cell? ⟨b1, o' + k * 7 + 1, none⟩ = some p1 := HC1.out w1 HW1.out 1 (by omega); have xp2 : w1.cell? ⟨b1, o' + k * 7 + 2, none⟩ = some p2 := HC1.out w1 HW1.out 2 (by omega); have xp3 : w1.cell? ⟨b1, o' + k * 7 + 3, none⟩ = some p3 := HC1.out w1 HW1.out 3 (by omega); have xp4 : w1.cell? ⟨b1, o' + k * 7 + 4, none⟩ = some p4 := HC1.out w1 HW1.out 4 (by omega); have xp5 : w1.cell? ⟨b1, o' + k * 7 + 5, none⟩ = some p5 := HC1.out w1 HW1.out 5 (by omega); have xp6 : w1.cell? ⟨b1, o' + k * 7 + 6, none⟩ = some p6 := HC1.out w1 HW1.out 6 (by omega)
             have tby : Tb (w1.alloc (.cells #[.int .u8 0, .bool false, .slice none 0 0, .string ⟨#[]⟩, .int .i64 0, .slice none 0 0, .slice none 0 0] 26)) w1.heap.size #[.int .u8 0, .bool false, .slice none 0 0, .string ⟨#[]⟩, .int .i64 0, .slice none 0 0, .slice none 0 0] := Tb.new _ _ _ rfl)
          | (refine store_T _ rfl _ _ rfl _ #[p0, p1, p2, p3, p4, p5, p6] _ rfl rfl tby rfl rfl hone' ?_; intro w2 hT2 hU2; have HW2 : Hid (Upd [] w1 w2) := ((Upd.refl [] w1).alloc _).then hU2 (by simp); clear hU2; have hT3 := hT1.mono HW2.out (by simp))
          | (refine load_T _ rfl _ rfl _ _ rfl hT3 rfl ?_)
          | (refine load_T _ rfl _ rfl _ _ rfl hT2 rfl ?_))
        have hw2 : Upd [] wr w2 := HW1.out.trans HW2.out
        have HO1 := okR_get I k hlt HO.out
        have HO2 := okR_get I' k hlt' HO'.out
        refine (IH.out w2 [q0, q1, q2, q3, q4, q5, q6] [p0, p1, p2, p3, p4, p5, p6] I[k] I'[k] (In.mono hw2 _ _ _ HIN.out) (In.mono hw2 _ _ _ HIN'.out) HO1 HO2 (Nat.le_trans (tszs_get I k hlt) HS.out) (Nat.le_trans (tszs_get I' k hlt') HS'.out)).mono ?_
        rintro e w3 ⟨rfl, hU3⟩
        have hU4 : Upd [] w w3 := (HU.out.trans hw2).trans hU3
        have HN : Hid _ := ordR_next I I' k hlt hlt'
        obtain ⟨z, hz⟩ : ∃ z, z = ordT I[k] I'[k] := ⟨_, rfl⟩
        rw [← hz] at HN ⊢
        clear hz HO1 HO2 hw2 hU3 xq0 xq1 xq2 xq3 xq4 xq5 xq6 xp0 xp1 xp2 xp3 xp4 xp5 xp6 tbz tby hT1 hT2 hT3
        by_cases hz0 : z = 0
        · have hzb : (z != 0) = false := by simp [hz0]
          have HZ : Hid (z = 0) := hz0
          clear hz0
          go_wp2
          go_roundw
          case rel => exact ⟨k + 1, by omega, by omega, by go_num, by rw [HR.out, HN.out, HZ.out, th_z], hU4⟩
          case measure => simp [intOf]; omega
        · have hzb : (z != 0) = true := by simp [hz0]
          have HZ : Hid (¬ z = 0) := hz0
          clear hz0
          go_wp2
          go_ret
          rw [HR.out, HN.out]
          unfold th
          rw [if_neg HZ.out]
          exact ⟨rfl, hU4⟩
      · have i2 : decide ((k : Int) ≥ (I'.length : Int)) = true := by simp; omega
        have i3 : (I'.length : Int) ≤ (k : Int) := by omega
        have HE : Hid (ordR I I' = 1) := by show ordR I I' = 1; rw [HR.out]; exact ordR_more _ _ (by rw [List.length_drop]; omega) (List.drop_of_length_le (by omega))
        go_wp2_with (refine store_T _ rfl _ _ rfl _ #[q0, q1, q2, q3, q4, q5, q6] _ rfl rfl tbz rfl rfl hone ?_; intro w1 hT1 hU1)
        go_ret
        rw [HE.out]
        exact ⟨rfl, (HU.out.alloc _).then hU1 (by simp; have := HU.out.size; omega)⟩
    · have hd : decide ((k : Int) < (I.length : Int)) = false := by simp; omega
      by_cases hl : I.length < I'.length
      · have hl2 : (I.length : Int) < (I'.length : Int) := by omega
        have HE : Hid (ordR I I' = -1) := by show ordR I I' = -1; rw [HR.out]; exact ordR_less _ _ (List.drop_of_length_le (by omega)) (by rw [List.length_drop]; omega)
        go_wp2
        go_ret
        rw [HE.out]
        exact ⟨rfl, HU.out⟩
      · have hl2 : decide ((I.length : Int) < (I'.length : Int)) = false := by simp; omega
        have HE : Hid (ordR I I' = 0) := by show ordR I I' = 0; rw [HR.out]; exact ordR_end _ _ (List.drop_of_length_le (by omega)) (List.drop_of_length_le (by omega))
        go_wp2
        go_ret
        rw [HE.out]
        exact ⟨rfl, HU.out⟩

end Go.Proofs.YtnpocmhaoaigfaaGreatDoor
