/- TermsOf and great: some number, some answer. -/
import Derived.Test.YtaoipmmeialpnaaGreatDoorOrdD
namespace Go.Proofs.YtaoipmmeialpnaaGreatDoor
open Go.RowKit

/-- Some number is answered. -/
def IsInt (e : Ending) : Prop := ∃ z : Int, e = .returned (.int .i64 z)
def TofSaid (d : Nat) : Prop := ∀ (w : World) (cs : List Value) (t : Tm) (m : Int), In w d cs t → tsz t ≤ 1353245080330 → Calls Tryz.prog 37 #[.agg cs.toArray, .int .i64 m] w fun e w' => IsInt e ∧ Upd [] w w'

set_option maxHeartbeats 4000000 in
set_option maxRecDepth 100000 in
theorem Tof_step (d : Nat) (ih : TofSaid d) : TofSaid (d + 1) := by
  intro w cs t m h hs
  obtain ⟨kd, num, neg, L, s, I, T⟩ := t
  obtain ⟨a, ai, at', c, ci, ct, rfl, hA, hD, hI, hT⟩ := h
  simp only [tsz] at hs
  have HZI : Hid (tszs I ≤ 1353245080330) := by show _ ≤ _; omega
  have HZT : Hid (tszs T ≤ 1353245080330) := by show _ ≤ _; omega
  have hL : L.length ≤ 35184372088700 := by omega
  have hlI : I.length ≤ 1353245080330 := Nat.le_trans (tszs_len I) HZI.out
  have hlT : T.length ≤ 1353245080330 := Nat.le_trans (tszs_len T) HZT.out
  have HI : Hid (RowAt (In w d) w ai I) := hI
  have HT : Hid (RowAt (In w d) w at' T) := hT
  have IH : Hid (∀ (w : World) (cs : List Value) (t : Tm) (m : Int), In w d cs t → tsz t ≤ 1353245080330 → Calls Tryz.prog 37 #[.agg cs.toArray, .int .i64 m] w fun e w' => IsInt e ∧ Upd [] w w') := ih
  have hU0 : Upd [] w (w.alloc (.cells #[.int .u8 kd, .bool neg, .slice a L.length c, .string s, .int .i64 num, .slice ai I.length ci, .slice at' T.length ct] 26)) := (Upd.refl [] w).alloc _
  have HTB0 : Hid (Tb (w.alloc (.cells #[.int .u8 kd, .bool neg, .slice a L.length c, .string s, .int .i64 num, .slice ai I.length ci, .slice at' T.length ct] 26)) w.heap.size #[.int .u8 kd, .bool neg, .slice a L.length c, .string s, .int .i64 num, .slice ai I.length ci, .slice at' T.length ct]) := Tb.new _ _ _ rfl
  have HU0 : Hid (Upd [] w _) := hU0
  clear hA hD hI hT hs ih hU0
  go_enter Tryz.func37, Tryz.ntmps37
  go_wp2
  go_loopw [5, 6] (fun n i wr => ∃ (k : Nat) (z : Int), k ≤ I.length ∧ i = .int .i64 k ∧ n = .int .i64 z ∧ Upd [] w wr ∧ Tb wr w.heap.size #[.int .u8 kd, .bool neg, .slice a L.length c, .string s, .int .i64 num, .slice ai I.length ci, .slice at' T.length ct]) (fun _ i _ => I.length - (intOf i).toNat)
  case atStart => exact ⟨0, _, Nat.zero_le _, rfl, rfl, HU0.out, HTB0.out⟩
  case round =>
    obtain ⟨k, z, hk, rfl, rfl, hU, htb⟩ := hrel
    have y5 : wr.cell? ⟨w.heap.size, 5, none⟩ = some (.slice ai I.length ci) := htb.cell 5
    by_cases hlt2 : k < I.length
    · have i1 : (k : Int) < (I.length : Int) := by omega
      by_cases hzm : z ≤ m
      · rcases HI.out with h0 | ⟨b, o, rfl, hlt, hc⟩
        · rw [h0] at hlt2; simp at hlt2
        · obtain ⟨cs, hl7, hcell, hin⟩ := hc k hlt2
          obtain ⟨q0, q1, q2, q3, q4, q5, q6, rfl⟩ := list7 hl7
          have HIN : Hid (In w d [q0, q1, q2, q3, q4, q5, q6] I[k]) := hin
          have HSZ : Hid (tsz I[k] ≤ 1353245080330) := Nat.le_trans (tszs_get I k hlt2) HZI.out
          have x0 : wr.cell? ⟨b, o + k * 7, none⟩ = some q0 := (hU.cell (p := ⟨b, o + (k * 7 + 0), none⟩) hlt (by simp)).trans (hcell 0 (by omega))
          have x1 : wr.cell? ⟨b, o + k * 7 + 1, none⟩ = some q1 := (hU.cell (p := ⟨b, o + (k * 7 + 1), none⟩) hlt (by simp)).trans (hcell 1 (by omega))
          have x2 : wr.cell? ⟨b, o + k * 7 + 2, none⟩ = some q2 := (hU.cell (p := ⟨b, o + (k * 7 + 2), none⟩) hlt (by simp)).trans (hcell 2 (by omega))
          have x3 : wr.cell? ⟨b, o + k * 7 + 3, none⟩ = some q3 := (hU.cell (p := ⟨b, o + (k * 7 + 3), none⟩) hlt (by simp)).trans (hcell 3 (by omega))
          have x4 : wr.cell? ⟨b, o + k * 7 + 4, none⟩ = some q4 := (hU.cell (p := ⟨b, o + (k * 7 + 4), none⟩) hlt (by simp)).trans (hcell 4 (by omega))
          have x5 : wr.cell? ⟨b, o + k * 7 + 5, none⟩ = some q5 := (hU.cell (p := ⟨b, o + (k * 7 + 5), none⟩) hlt (by simp)).trans (hcell 5 (by omega))
          have x6 : wr.cell? ⟨b, o + k * 7 + 6, none⟩ = some q6 := (hU.cell (p := ⟨b, o + (k * 7 + 6), none⟩) hlt (by simp)).trans (hcell 6 (by omega))
          have HU : Hid (Upd [] w wr) := hU
          have HTB : Hid (Tb wr _ _) := htb
          clear hc hcell hin hU htb
          go_wp2_with fail
          refine Calls.mono (IH.out wr _ _ _ (In.mono HU.out _ _ _ HIN.out) HSZ.out) ?_
          rintro e w2 ⟨⟨zz, rfl⟩, hU2⟩
          have HU2 : Hid (Upd [] w w2) := HU.out.trans hU2
          have HTB2 : Hid (Tb w2 _ _) := HTB.out.mono hU2 (by simp)
          clear hU2 x0 x1 x2 x3 x4 x5 x6 y5
          go_wp2
          go_roundw
          case rel => exact ⟨k + 1, _, by omega, by go_num, rfl, HU2.out, HTB2.out⟩
          case measure => simp [intOf]; omega
      · have hzb : decide (z ≤ m) = false := by simp; omega
        have HU : Hid (Upd [] w wr) := hU
        have HTB : Hid (Tb wr w.heap.size _) := htb
        clear hU htb
        go_wp2
        go_loopw [5, 7] (fun n i wr => ∃ (k : Nat) (z : Int), k ≤ T.length ∧ i = .int .i64 k ∧ n = .int .i64 z ∧ Upd [] w wr ∧ Tb wr w.heap.size #[.int .u8 kd, .bool neg, .slice a L.length c, .string s, .int .i64 num, .slice ai I.length ci, .slice at' T.length ct]) (fun _ i _ => T.length - (intOf i).toNat)
        case atStart => exact ⟨0, _, Nat.zero_le _, rfl, rfl, HU.out, HTB.out⟩
        case round =>
          obtain ⟨k, z, hk, rfl, rfl, hU, htb⟩ := hrel
          have y6 : wr.cell? ⟨w.heap.size, 6, none⟩ = some (.slice at' T.length ct) := htb.cell 6
          by_cases hlt2 : k < T.length
          · have i1 : (k : Int) < (T.length : Int) := by omega
            by_cases hzm : z ≤ m
            · rcases HT.out with h0 | ⟨b, o, rfl, hlt, hc⟩
              · rw [h0] at hlt2; simp at hlt2
              · obtain ⟨cs, hl7, hcell, hin⟩ := hc k hlt2
                obtain ⟨q0, q1, q2, q3, q4, q5, q6, rfl⟩ := list7 hl7
                have HIN : Hid (In w d [q0, q1, q2, q3, q4, q5, q6] T[k]) := hin
                have HSZ : Hid (tsz T[k] ≤ 1353245080330) := Nat.le_trans (tszs_get T k hlt2) HZT.out
                have x0 : wr.cell? ⟨b, o + k * 7, none⟩ = some q0 := (hU.cell (p := ⟨b, o + (k * 7 + 0), none⟩) hlt (by simp)).trans (hcell 0 (by omega))
                have x1 : wr.cell? ⟨b, o + k * 7 + 1, none⟩ = some q1 := (hU.cell (p := ⟨b, o + (k * 7 + 1), none⟩) hlt (by simp)).trans (hcell 1 (by omega))
                have x2 : wr.cell? ⟨b, o + k * 7 + 2, none⟩ = some q2 := (hU.cell (p := ⟨b, o + (k * 7 + 2), none⟩) hlt (by simp)).trans (hcell 2 (by omega))
                have x3 : wr.cell? ⟨b, o + k * 7 + 3, none⟩ = some q3 := (hU.cell (p := ⟨b, o + (k * 7 + 3), none⟩) hlt (by simp)).trans (hcell 3 (by omega))
                have x4 : wr.cell? ⟨b, o + k * 7 + 4, none⟩ = some q4 := (hU.cell (p := ⟨b, o + (k * 7 + 4), none⟩) hlt (by simp)).trans (hcell 4 (by omega))
                have x5 : wr.cell? ⟨b, o + k * 7 + 5, none⟩ = some q5 := (hU.cell (p := ⟨b, o + (k * 7 + 5), none⟩) hlt (by simp)).trans (hcell 5 (by omega))
                have x6 : wr.cell? ⟨b, o + k * 7 + 6, none⟩ = some q6 := (hU.cell (p := ⟨b, o + (k * 7 + 6), none⟩) hlt (by simp)).trans (hcell 6 (by omega))
                have HU : Hid (Upd [] w wr) := hU
                have HTB : Hid (Tb wr _ _) := htb
                clear hc hcell hin hU htb
                go_wp2_with fail
                refine Calls.mono (IH.out wr _ _ _ (In.mono HU.out _ _ _ HIN.out) HSZ.out) ?_
                rintro e w2 ⟨⟨zz, rfl⟩, hU2⟩
                have HU2 : Hid (Upd [] w w2) := HU.out.trans hU2
                have HTB2 : Hid (Tb w2 _ _) := HTB.out.mono hU2 (by simp)
                clear hU2 x0 x1 x2 x3 x4 x5 x6 y6
                go_wp2
                go_roundw
                case rel => exact ⟨k + 1, _, by omega, by go_num, rfl, HU2.out, HTB2.out⟩
                case measure => simp [intOf]; omega
            · have hzb : decide (z ≤ m) = false := by simp; omega
              have HU : Hid (Upd [] w wr) := hU
              have HTB : Hid (Tb wr w.heap.size _) := htb
              clear hU htb
              go_wp2
              go_ret
              exact ⟨⟨_, rfl⟩, HU.out⟩
          · have hd : decide ((k : Int) < (T.length : Int)) = false := by simp; omega
            have HU : Hid (Upd [] w wr) := hU
            have HTB : Hid (Tb wr w.heap.size _) := htb
            clear hU htb
            go_wp2
            go_ret
            exact ⟨⟨_, rfl⟩, HU.out⟩
    · have hd : decide ((k : Int) < (I.length : Int)) = false := by simp; omega
      have HU : Hid (Upd [] w wr) := hU
      have HTB : Hid (Tb wr w.heap.size _) := htb
      clear hU htb
      go_wp2
      go_loopw [5, 7] (fun n i wr => ∃ (k : Nat) (z : Int), k ≤ T.length ∧ i = .int .i64 k ∧ n = .int .i64 z ∧ Upd [] w wr ∧ Tb wr w.heap.size #[.int .u8 kd, .bool neg, .slice a L.length c, .string s, .int .i64 num, .slice ai I.length ci, .slice at' T.length ct]) (fun _ i _ => T.length - (intOf i).toNat)
      case atStart => exact ⟨0, _, Nat.zero_le _, rfl, rfl, HU.out, HTB.out⟩
      case round =>
        obtain ⟨k, z, hk, rfl, rfl, hU, htb⟩ := hrel
        have y6 : wr.cell? ⟨w.heap.size, 6, none⟩ = some (.slice at' T.length ct) := htb.cell 6
        by_cases hlt2 : k < T.length
        · have i1 : (k : Int) < (T.length : Int) := by omega
          by_cases hzm : z ≤ m
          · rcases HT.out with h0 | ⟨b, o, rfl, hlt, hc⟩
            · rw [h0] at hlt2; simp at hlt2
            · obtain ⟨cs, hl7, hcell, hin⟩ := hc k hlt2
              obtain ⟨q0, q1, q2, q3, q4, q5, q6, rfl⟩ := list7 hl7
              have HIN : Hid (In w d [q0, q1, q2, q3, q4, q5, q6] T[k]) := hin
              have HSZ : Hid (tsz T[k] ≤ 1353245080330) := Nat.le_trans (tszs_get T k hlt2) HZT.out
              have x0 : wr.cell? ⟨b, o + k * 7, none⟩ = some q0 := (hU.cell (p := ⟨b, o + (k * 7 + 0), none⟩) hlt (by simp)).trans (hcell 0 (by omega))
              have x1 : wr.cell? ⟨b, o + k * 7 + 1, none⟩ = some q1 := (hU.cell (p := ⟨b, o + (k * 7 + 1), none⟩) hlt (by simp)).trans (hcell 1 (by omega))
              have x2 : wr.cell? ⟨b, o + k * 7 + 2, none⟩ = some q2 := (hU.cell (p := ⟨b, o + (k * 7 + 2), none⟩) hlt (by simp)).trans (hcell 2 (by omega))
              have x3 : wr.cell? ⟨b, o + k * 7 + 3, none⟩ = some q3 := (hU.cell (p := ⟨b, o + (k * 7 + 3), none⟩) hlt (by simp)).trans (hcell 3 (by omega))
              have x4 : wr.cell? ⟨b, o + k * 7 + 4, none⟩ = some q4 := (hU.cell (p := ⟨b, o + (k * 7 + 4), none⟩) hlt (by simp)).trans (hcell 4 (by omega))
              have x5 : wr.cell? ⟨b, o + k * 7 + 5, none⟩ = some q5 := (hU.cell (p := ⟨b, o + (k * 7 + 5), none⟩) hlt (by simp)).trans (hcell 5 (by omega))
              have x6 : wr.cell? ⟨b, o + k * 7 + 6, none⟩ = some q6 := (hU.cell (p := ⟨b, o + (k * 7 + 6), none⟩) hlt (by simp)).trans (hcell 6 (by omega))
              have HU : Hid (Upd [] w wr) := hU
              have HTB : Hid (Tb wr _ _) := htb
              clear hc hcell hin hU htb
              go_wp2_with fail
              refine Calls.mono (IH.out wr _ _ _ (In.mono HU.out _ _ _ HIN.out) HSZ.out) ?_
              rintro e w2 ⟨⟨zz, rfl⟩, hU2⟩
              have HU2 : Hid (Upd [] w w2) := HU.out.trans hU2
              have HTB2 : Hid (Tb w2 _ _) := HTB.out.mono hU2 (by simp)
              clear hU2 x0 x1 x2 x3 x4 x5 x6 y6
              go_wp2
              go_roundw
              case rel => exact ⟨k + 1, _, by omega, by go_num, rfl, HU2.out, HTB2.out⟩
              case measure => simp [intOf]; omega
          · have hzb : decide (z ≤ m) = false := by simp; omega
            have HU : Hid (Upd [] w wr) := hU
            have HTB : Hid (Tb wr w.heap.size _) := htb
            clear hU htb
            go_wp2
            go_ret
            exact ⟨⟨_, rfl⟩, HU.out⟩
        · have hd : decide ((k : Int) < (T.length : Int)) = false := by simp; omega
          have HU : Hid (Upd [] w wr) := hU
          have HTB : Hid (Tb wr w.heap.size _) := htb
          clear hU htb
          go_wp2
          go_ret
          exact ⟨⟨_, rfl⟩, HU.out⟩

theorem Tof_all : ∀ d, TofSaid d
  | 0 => fun _ _ _ _ h => h.elim
  | d + 1 => Tof_step d (Tof_all d)

/-- Some answer. -/
def IsBool (e : Ending) : Prop := ∃ b : Bool, e = .returned (.bool b)

set_option maxHeartbeats 4000000 in
set_option maxRecDepth 100000 in
theorem great_in (d : Nat) (w : World) (a : Option Addr) (c : Nat) (I : List Tm) (h : RowAt (In w d) w a I) (hz : tszs I ≤ 1353245080330) :
    Calls Tryz.prog 7 #[.slice a I.length c] w fun e w' => IsBool e ∧ Upd [] w w' := by
  have hlI : I.length ≤ 1353245080330 := Nat.le_trans (tszs_len I) hz
  have HI : Hid (RowAt (In w d) w a I) := h
  have HZ : Hid (tszs I ≤ 1353245080330) := hz
  clear h hz
  go_enter Tryz.func7, Tryz.ntmps7
  go_wp2
  go_loopw [3, 4] (fun n i wr => ∃ (k : Nat) (z : Int), k ≤ I.length ∧ i = .int .i64 k ∧ n = .int .i64 z ∧ Upd [] w wr) (fun _ i _ => I.length - (intOf i).toNat)
  case atStart => exact ⟨0, _, Nat.zero_le _, rfl, rfl, Upd.refl _ _⟩
  case round =>
    obtain ⟨k, z, hk, rfl, rfl, hU⟩ := hrel
    by_cases hlt2 : k < I.length
    · have i1 : (k : Int) < (I.length : Int) := by omega
      by_cases hzm : z ≤ 6000
      · rcases HI.out with h0 | ⟨b, o, rfl, hlt, hc⟩
        · rw [h0] at hlt2; simp at hlt2
        · obtain ⟨cs, hl7, hcell, hin⟩ := hc k hlt2
          obtain ⟨q0, q1, q2, q3, q4, q5, q6, rfl⟩ := list7 hl7
          have HIN : Hid (In w d [q0, q1, q2, q3, q4, q5, q6] I[k]) := hin
          have HSZ : Hid (tsz I[k] ≤ 1353245080330) := Nat.le_trans (tszs_get I k hlt2) HZ.out
          have x0 : wr.cell? ⟨b, o + k * 7, none⟩ = some q0 := (hU.cell (p := ⟨b, o + (k * 7 + 0), none⟩) hlt (by simp)).trans (hcell 0 (by omega))
          have x1 : wr.cell? ⟨b, o + k * 7 + 1, none⟩ = some q1 := (hU.cell (p := ⟨b, o + (k * 7 + 1), none⟩) hlt (by simp)).trans (hcell 1 (by omega))
          have x2 : wr.cell? ⟨b, o + k * 7 + 2, none⟩ = some q2 := (hU.cell (p := ⟨b, o + (k * 7 + 2), none⟩) hlt (by simp)).trans (hcell 2 (by omega))
          have x3 : wr.cell? ⟨b, o + k * 7 + 3, none⟩ = some q3 := (hU.cell (p := ⟨b, o + (k * 7 + 3), none⟩) hlt (by simp)).trans (hcell 3 (by omega))
          have x4 : wr.cell? ⟨b, o + k * 7 + 4, none⟩ = some q4 := (hU.cell (p := ⟨b, o + (k * 7 + 4), none⟩) hlt (by simp)).trans (hcell 4 (by omega))
          have x5 : wr.cell? ⟨b, o + k * 7 + 5, none⟩ = some q5 := (hU.cell (p := ⟨b, o + (k * 7 + 5), none⟩) hlt (by simp)).trans (hcell 5 (by omega))
          have x6 : wr.cell? ⟨b, o + k * 7 + 6, none⟩ = some q6 := (hU.cell (p := ⟨b, o + (k * 7 + 6), none⟩) hlt (by simp)).trans (hcell 6 (by omega))
          have HU : Hid (Upd [] w wr) := hU
          clear hc hcell hin hU
          go_wp2_with fail
          refine Calls.mono (Tof_all d wr _ _ _ (In.mono HU.out _ _ _ HIN.out) HSZ.out) ?_
          rintro e w2 ⟨⟨zz, rfl⟩, hU2⟩
          have HU2 : Hid (Upd [] w w2) := HU.out.trans hU2
          clear hU2 x0 x1 x2 x3 x4 x5 x6
          go_wp2
          go_roundw
          case rel => exact ⟨k + 1, _, by omega, by go_num, rfl, HU2.out⟩
          case measure => simp [intOf]; omega
      · have hzb : decide (z ≤ 6000) = false := by simp; omega
        have HU : Hid (Upd [] w wr) := hU
        clear hU
        go_wp2
        go_ret
        exact ⟨⟨_, rfl⟩, HU.out⟩
    · have hd : decide ((k : Int) < (I.length : Int)) = false := by simp; omega
      have HU : Hid (Upd [] w wr) := hU
      clear hU
      go_wp2
      go_ret
      exact ⟨⟨_, rfl⟩, HU.out⟩

end Go.Proofs.YtaoipmmeialpnaaGreatDoor
