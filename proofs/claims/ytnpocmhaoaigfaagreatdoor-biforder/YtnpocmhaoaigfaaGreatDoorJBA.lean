/- TermsOf and great: some number, some answer. -/
import Derived.Test.YtnpocmhaoaigfaaGreatDoorOrdD
import Derived.Test.YtnpocmhaoaigfaaGreatDoorJAO
import Derived.Test.YtnpocmhaoaigfaaGreatDoorJAN
import Derived.Test.YtnpocmhaoaigfaaGreatDoorJAU
import Derived.Test.YtnpocmhaoaigfaaGreatDoorJAQ
import Derived.Test.YtnpocmhaoaigfaaGreatDoorBfO
import Derived.Deep.RegionHeld3

namespace Go.Proofs.YtnpocmhaoaigfaaGreatDoor
open Go.RowKit

/-- Some number is answered. -/
def IsInt (e : Ending) : Prop := ∃ z : Int, e = .returned (.int .i64 z)
def TofSaid (d : Nat) : Prop := ∀ (w : World) (cs : List Value) (t : Tm) (m : Int), In w d cs t → tsz t ≤ 1353245080330 → Calls Tryz.prog 18 #[.agg cs.toArray, .int .i64 m] w fun e w' => IsInt e ∧ Upd [] w w'

set_option maxHeartbeats 4000000 in
set_option maxRecDepth 100000 in
theorem Tof_step (d : Nat) (ih : TofSaid d) : TofSaid (d + 1) := by
  intro w cs t m h hs
  obtain ⟨kd, num, neg, L, s, I, T⟩ := t
  obtain ⟨a, ai, at', c, ci, ct, rfl, hA, hD, hI, hT⟩ := h
  simp only [tsz] at hs
  have HZI : Hid (tszs I ≤ 1353245080330) := by show _ ≤ _; omega
  have HZT : Hid (tszs T ≤ 1353245080330) := by show _ ≤ _; omega
  have hL : L.length ≤ 35184372088700 := by omega
  have hlI : I.length ≤ 1353245080330 := Nat.le_trans (tszs_len I) HZI.out
  have hlT : T.length ≤ 1353245080330 := Nat.le_trans (tszs_len T) HZT.out
  have HI : Hid (RowAt (In w d) w ai I) := hI
  have HT : Hid (RowAt (In w d) w at' T) := hT
  have IH : Hid (∀ (w : World) (cs : List Value) (t : Tm) (m : Int), In w d cs t → tsz t ≤ 1353245080330 → Calls Tryz.prog 18 #[.agg cs.toArray, .int .i64 m] w fun e w' => IsInt e ∧ Upd [] w w') := ih
  have hU0 : Upd [] w (w.alloc (.cells #[.int .u8 kd, .bool neg, .slice a L.length c, .string s, .int .i64 num, .slice ai I.length ci, .slice at' T.length ct] 26)) := (Upd.refl [] w).alloc _
  have HTB0 : Hid (Tb (w.alloc (.cells #[.int .u8 kd, .bool neg, .slice a L.length c, .string s, .int .i64 num, .slice ai I.length ci, .slice at' T.length ct] 26)) w.heap.size #[.int .u8 kd, .bool neg, .slice a L.length c, .string s, .int .i64 num, .slice ai I.length ci, .slice at' T.length ct]) := Tb.new _ _ _ rfl
  have HU0 : Hid (Upd [] w _) := hU0
  clear hA hD hI hT hs ih hU0
  go_enter Tryz.func18, Tryz.ntmps18
  go_wp2
  go_loopw [5, 6] (fun n i wr => ∃ (k : Nat) (z : Int), k ≤ I.length ∧ i = .int .i64 k ∧ n = .int .i64 z ∧ Upd [] w wr ∧ Tb wr w.heap.size #[.int .u8 kd, .bool neg, .slice a L.length c, .string s, .int .i64 num, .slice ai I.length ci, .slice at' T.length ct]) (fun _ i _ => I.length - (intOf i).toNat)
  case atStart => exact ⟨0, _, Nat.zero_le _, rfl, rfl, HU0.out, HTB0.out⟩
  case round =>
    obtain ⟨k, z, hk, rfl, rfl, hU, htb⟩ := hrel
    have y5 : wr.cell? ⟨w.heap.size, 5, none⟩ = some (.slice ai I.length ci) := htb.cell 5
    by_cases hlt2 : k < I.length
    · have i1 : (k : Int) < (I.length : Int) := by omega
      by_cases hzm : z ≤ m
      · rcases HI.out with h0 | ⟨b, o, rfl, hlt, hc⟩
        · rw [h0] at hlt2; simp at hlt2
        · obtain ⟨cs, hl7, hcell, hin⟩ := hc k hlt2
          obtain ⟨q0, q1, q2, q3, q4, q5, q6, rfl⟩ := list7 hl7
          have HIN : Hid (In w d [q0, q1, q2, q3, q4, q5, q6] I[k]) := hin
          have HSZ : Hid (tsz I[k] ≤ 1353245080330) := Nat.le_trans (tszs_get I k hlt2) HZI.out
          have x0 : wr.cell? ⟨b, o + k * 7, none⟩ = some q0 := (hU.cell (p := ⟨b, o + (k * 7 + 0), none⟩) hlt (by simp)).trans (hcell 0 (by omega))
          have x1 : wr.cell? ⟨b, o + k * 7 + 1, none⟩ = some q1 := (hU.cell (p := ⟨b, o + (k * 7 + 1), none⟩) hlt (by simp)).trans (hcell 1 (by omega))
          have x2 : wr.cell? ⟨b, o + k * 7 + 2, none⟩ = some q2 := (hU.cell (p := ⟨b, o + (k * 7 + 2), none⟩) hlt (by simp)).trans (hcell 2 (by omega))
          have x3 : wr.cell? ⟨b, o + k * 7 + 3, none⟩ = some q3 := (hU.cell (p := ⟨b, o + (k * 7 + 3), none⟩) hlt (by simp)).trans (hcell 3 (by omega))
          have x4 : wr.cell? ⟨b, o + k * 7 + 4, none⟩ = some q4 := (hU.cell (p := ⟨b, o + (k * 7 + 4), none⟩) hlt (by simp)).trans (hcell 4 (by omega))
          have x5 : wr.cell? ⟨b, o + k * 7 + 5, none⟩ = some q5 := (hU.cell (p := ⟨b, o + (k * 7 + 5), none⟩) hlt (by simp)).trans (hcell 5 (by omega))
          have x6 : wr.cell? ⟨b, o + k * 7 + 6, none⟩ = some q6 := (hU.cell (p := ⟨b, o + (k * 7 + 6), none⟩) hlt (by simp)).trans (hcell 6 (by omega))
          have HU : Hid (Upd [] w wr) := hU
          have HTB : Hid (Tb wr _ _) := htb
          clear hc hcell hin hU htb
          go_wp2_with fail
          refine Calls.mono (IH.out wr _ _ _ (In.mono HU.out _ _ _ HIN.out) HSZ.out) ?_
          rintro e w2 ⟨⟨zz, rfl⟩, hU2⟩
          have HU2 : Hid (Upd [] w w2) := HU.out.trans hU2
          have HTB2 : Hid (Tb w2 _ _) := HTB.out.mono hU2 (by simp)
          clear hU2 x0 x1 x2 x3 x4 x5 x6 y5
          go_wp2
          go_roundw
          case rel => exact ⟨k + 1, _, by omega, by go_num, rfl, HU2.out, HTB2.out⟩
          case measure => simp [intOf]; omega
      · have hzb : decide (z ≤ m) = false := by simp; omega
        have HU : Hid (Upd [] w wr) := hU
        have HTB : Hid (Tb wr w.heap.size _) := htb
        clear hU htb
        go_wp2
        go_loopw [5, 7] (fun n i wr => ∃ (k : Nat) (z : Int), k ≤ T.length ∧ i = .int .i64 k ∧ n = .int .i64 z ∧ Upd [] w wr ∧ Tb wr w.heap.size #[.int .u8 kd, .bool neg, .slice a L.length c, .string s, .int .i64 num, .slice ai I.length ci, .slice at' T.length ct]) (fun _ i _ => T.length - (intOf i).toNat)
        case atStart => exact ⟨0, _, Nat.zero_le _, rfl, rfl, HU.out, HTB.out⟩
        case round =>
          obtain ⟨k, z, hk, rfl, rfl, hU, htb⟩ := hrel
          have y6 : wr.cell? ⟨w.heap.size, 6, none⟩ = some (.slice at' T.length ct) := htb.cell 6
          by_cases hlt2 : k < T.length
          · have i1 : (k : Int) < (T.length : Int) := by omega
            by_cases hzm : z ≤ m
            · rcases HT.out with h0 | ⟨b, o, rfl, hlt, hc⟩
              · rw [h0] at hlt2; simp at hlt2
              · obtain ⟨cs, hl7, hcell, hin⟩ := hc k hlt2
                obtain ⟨q0, q1, q2, q3, q4, q5, q6, rfl⟩ := list7 hl7
                have HIN : Hid (In w d [q0, q1, q2, q3, q4, q5, q6] T[k]) := hin
                have HSZ : Hid (tsz T[k] ≤ 1353245080330) := Nat.le_trans (tszs_get T k hlt2) HZT.out
                have x0 : wr.cell? ⟨b, o + k * 7, none⟩ = some q0 := (hU.cell (p := ⟨b, o + (k * 7 + 0), none⟩) hlt (by simp)).trans (hcell 0 (by omega))
                have x1 : wr.cell? ⟨b, o + k * 7 + 1, none⟩ = some q1 := (hU.cell (p := ⟨b, o + (k * 7 + 1), none⟩) hlt (by simp)).trans (hcell 1 (by omega))
                have x2 : wr.cell? ⟨b, o + k * 7 + 2, none⟩ = some q2 := (hU.cell (p := ⟨b, o + (k * 7 + 2), none⟩) hlt (by simp)).trans (hcell 2 (by omega))
                have x3 : wr.cell? ⟨b, o + k * 7 + 3, none⟩ = some q3 := (hU.cell (p := ⟨b, o + (k * 7 + 3), none⟩) hlt (by simp)).trans (hcell 3 (by omega))
                have x4 : wr.cell? ⟨b, o + k * 7 + 4, none⟩ = some q4 := (hU.cell (p := ⟨b, o + (k * 7 + 4), none⟩) hlt (by simp)).trans (hcell 4 (by omega))
                have x5 : wr.cell? ⟨b, o + k * 7 + 5, none⟩ = some q5 := (hU.cell (p := ⟨b, o + (k * 7 + 5), none⟩) hlt (by simp)).trans (hcell 5 (by omega))
                have x6 : wr.cell? ⟨b, o + k * 7 + 6, none⟩ = some q6 := (hU.cell (p := ⟨b, o + (k * 7 + 6), none⟩) hlt (by simp)).trans (hcell 6 (by omega))
                have HU : Hid (Upd [] w wr) := hU
                have HTB : Hid (Tb wr _ _) := htb
                clear hc hcell hin hU htb
                go_wp2_with fail
                refine Calls.mono (IH.out wr _ _ _ (In.mono HU.out _ _ _ HIN.out) HSZ.out) ?_
                rintro e w2 ⟨⟨zz, rfl⟩, hU2⟩
                have HU2 : Hid (Upd [] w w2) := HU.out.trans hU2
                have HTB2 : Hid (Tb w2 _ _) := HTB.out.mono hU2 (by simp)
                clear hU2 x0 x1 x2 x3 x4 x5 x6 y6
                go_wp2
                go_roundw
                case rel => exact ⟨k + 1, _, by omega, by go_num, rfl, HU2.out, HTB2.out⟩
                case measure => simp [intOf]; omega
            · have hzb : decide (z ≤ m) = false := by simp; omega
              have HU : Hid (Upd [] w wr) := hU
              have HTB : Hid (Tb wr w.heap.size _) := htb
              clear hU htb
              go_wp2
              go_ret
              exact ⟨⟨_, rfl⟩, HU.out⟩
          · have hd : decide ((k : Int) < (T.length : Int)) = false := by simp; omega
            have HU : Hid (Upd [] w wr) := hU
            have HTB : Hid (Tb wr w.heap.size _) := htb
            clear hU htb
            go_wp2
            go_ret
            exact ⟨⟨_, rfl⟩, HU.out⟩
    · have hd : decide ((k : Int) < (I.length : Int)) = false := by simp; omega
      have HU : Hid (Upd [] w wr) := hU
      have HTB : Hid (Tb wr w.heap.size _) := htb
      clear hU htb
      go_wp2
      go_loopw [5, 7] (fun n i wr => ∃ (k : Nat) (z : Int), k ≤ T.length ∧ i = .int .i64 k ∧ n = .int .i64 z ∧ Upd [] w wr ∧ Tb wr w.heap.size #[.int .u8 kd, .bool neg, .slice a L.length c, .string s, .int .i64 num, .slice ai I.length ci, .slice at' T.length ct]) (fun _ i _ => T.length - (intOf i).toNat)
      case atStart => exact ⟨0, _, Nat.zero_le _, rfl, rfl, HU.out, HTB.out⟩
      case round =>
        obtain ⟨k, z, hk, rfl, rfl, hU, htb⟩ := hrel
        have y6 : wr.cell? ⟨w.heap.size, 6, none⟩ = some (.slice at' T.length ct) := htb.cell 6
        by_cases hlt2 : k < T.length
        · have i1 : (k : Int) < (T.length : Int) := by omega
          by_cases hzm : z ≤ m
          · rcases HT.out with h0 | ⟨b, o, rfl, hlt, hc⟩
            · rw [h0] at hlt2; simp at hlt2
            · obtain ⟨cs, hl7, hcell, hin⟩ := hc k hlt2
              obtain ⟨q0, q1, q2, q3, q4, q5, q6, rfl⟩ := list7 hl7
              have HIN : Hid (In w d [q0, q1, q2, q3, q4, q5, q6] T[k]) := hin
              have HSZ : Hid (tsz T[k] ≤ 1353245080330) := Nat.le_trans (tszs_get T k hlt2) HZT.out
              have x0 : wr.cell? ⟨b, o + k * 7, none⟩ = some q0 := (hU.cell (p := ⟨b, o + (k * 7 + 0), none⟩) hlt (by simp)).trans (hcell 0 (by omega))
              have x1 : wr.cell? ⟨b, o + k * 7 + 1, none⟩ = some q1 := (hU.cell (p := ⟨b, o + (k * 7 + 1), none⟩) hlt (by simp)).trans (hcell 1 (by omega))
              have x2 : wr.cell? ⟨b, o + k * 7 + 2, none⟩ = some q2 := (hU.cell (p := ⟨b, o + (k * 7 + 2), none⟩) hlt (by simp)).trans (hcell 2 (by omega))
              have x3 : wr.cell? ⟨b, o + k * 7 + 3, none⟩ = some q3 := (hU.cell (p := ⟨b, o + (k * 7 + 3), none⟩) hlt (by simp)).trans (hcell 3 (by omega))
              have x4 : wr.cell? ⟨b, o + k * 7 + 4, none⟩ = some q4 := (hU.cell (p := ⟨b, o + (k * 7 + 4), none⟩) hlt (by simp)).trans (hcell 4 (by omega))
              have x5 : wr.cell? ⟨b, o + k * 7 + 5, none⟩ = some q5 := (hU.cell (p := ⟨b, o + (k * 7 + 5), none⟩) hlt (by simp)).trans (hcell 5 (by omega))
              have x6 : wr.cell? ⟨b, o + k * 7 + 6, none⟩ = some q6 := (hU.cell (p := ⟨b, o + (k * 7 + 6), none⟩) hlt (by simp)).trans (hcell 6 (by omega))
              have HU : Hid (Upd [] w wr) := hU
              have HTB : Hid (Tb wr _ _) := htb
              clear hc hcell hin hU htb
              go_wp2_with fail
              refine Calls.mono (IH.out wr _ _ _ (In.mono HU.out _ _ _ HIN.out) HSZ.out) ?_
              rintro e w2 ⟨⟨zz, rfl⟩, hU2⟩
              have HU2 : Hid (Upd [] w w2) := HU.out.trans hU2
              have HTB2 : Hid (Tb w2 _ _) := HTB.out.mono hU2 (by simp)
              clear hU2 x0 x1 x2 x3 x4 x5 x6 y6
              go_wp2
              go_roundw
              case rel => exact ⟨k + 1, _, by omega, by go_num, rfl, HU2.out, HTB2.out⟩
              case measure => simp [intOf]; omega
          · have hzb : decide (z ≤ m) = false := by simp; omega
            have HU : Hid (Upd [] w wr) := hU
            have HTB : Hid (Tb wr w.heap.size _) := htb
            clear hU htb
            go_wp2
            go_ret
            exact ⟨⟨_, rfl⟩, HU.out⟩
        · have hd : decide ((k : Int) < (T.length : Int)) = false := by simp; omega
          have HU : Hid (Upd [] w wr) := hU
          have HTB : Hid (Tb wr w.heap.size _) := htb
          clear hU htb
          go_wp2
          go_ret
          exact ⟨⟨_, rfl⟩, HU.out⟩

theorem Tof_all : ∀ d, TofSaid d
  | 0 => fun _ _ _ _ h => h.elim
  | d + 1 => Tof_step d (Tof_all d)

/-- Some answer. -/
def IsBool (e : Ending) : Prop := ∃ b : Bool, e = .returned (.bool b)

end Go.Proofs.YtnpocmhaoaigfaaGreatDoor

/- Terms compared and chosen by package bif. -/
namespace Go.Proofs.YtnpocmhaoaigfaaGreatDoor
open Go.RowKit

theorem row_cellsR {R : List Value → Tm → Prop} {w : World} {a : Option Addr} {t u : Tm} (h : RowAt R w a [t, u]) : ∃ (b o : Nat) (q0 q1 q2 q3 q4 q5 q6 p0 p1 p2 p3 p4 p5 p6 : Value), a = some ⟨b, o, none⟩ ∧ b < w.heap.size ∧
    R [q0, q1, q2, q3, q4, q5, q6] t ∧ R [p0, p1, p2, p3, p4, p5, p6] u ∧
    (w.cell? ⟨b, o, none⟩ = some q0 ∧ w.cell? ⟨b, o + 1, none⟩ = some q1 ∧ w.cell? ⟨b, o + 2, none⟩ = some q2 ∧ w.cell? ⟨b, o + 3, none⟩ = some q3 ∧ w.cell? ⟨b, o + 4, none⟩ = some q4 ∧ w.cell? ⟨b, o + 5, none⟩ = some q5 ∧ w.cell? ⟨b, o + 6, none⟩ = some q6) ∧
    (w.cell? ⟨b, o + 7, none⟩ = some p0 ∧ w.cell? ⟨b, o + 7 + 1, none⟩ = some p1 ∧ w.cell? ⟨b, o + 7 + 2, none⟩ = some p2 ∧ w.cell? ⟨b, o + 7 + 3, none⟩ = some p3 ∧ w.cell? ⟨b, o + 7 + 4, none⟩ = some p4 ∧ w.cell? ⟨b, o + 7 + 5, none⟩ = some p5 ∧ w.cell? ⟨b, o + 7 + 6, none⟩ = some p6) := by
  rcases h with h | ⟨b, o, rfl, hb, hc⟩
  · cases h
  obtain ⟨cs, h7, hcell, hin⟩ := hc 0 (by simp)
  obtain ⟨cs', h7', hcell', hin'⟩ := hc 1 (by simp)
  obtain ⟨q0, q1, q2, q3, q4, q5, q6, rfl⟩ := list7 h7
  obtain ⟨p0, p1, p2, p3, p4, p5, p6, rfl⟩ := list7 h7'
  refine ⟨b, o, q0, q1, q2, q3, q4, q5, q6, p0, p1, p2, p3, p4, p5, p6, rfl, hb, hin, hin', ⟨?_, ?_, ?_, ?_, ?_, ?_, ?_⟩, ⟨?_, ?_, ?_, ?_, ?_, ?_, ?_⟩⟩
  · exact hcell 0 (by omega)
  · exact hcell 1 (by omega)
  · exact hcell 2 (by omega)
  · exact hcell 3 (by omega)
  · exact hcell 4 (by omega)
  · exact hcell 5 (by omega)
  · exact hcell 6 (by omega)
  · exact hcell' 0 (by omega)
  · exact hcell' 1 (by omega)
  · exact hcell' 2 (by omega)
  · exact hcell' 3 (by omega)
  · exact hcell' 4 (by omega)
  · exact hcell' 5 (by omega)
  · exact hcell' 6 (by omega)

set_option maxHeartbeats 4000000 in
set_option maxRecDepth 100000 in
theorem made_twoR {R : List Value → Tm → Prop} {B D : Nat} {t u : Tm} {P : Tm → Prop} {why : ByteArray} (s : ByteArray) (a : Option Addr) (c : Nat) (w : World) (hI : RowAt R w a [t, u]) (hB : B ≤ w.heap.size)
    (hF : ∀ (cs cs' : List Value) (W : World), Upd [] w W → R cs t → R cs' u → Calls Tryz.prog 48 #[.string s, .agg cs.toArray, .agg cs'.toArray] W (MadeQ B D P why W)) :
    Calls Tryz.prog 26 #[.string s, .slice a 2 c] w (MadeQ B D P why w) := by
  obtain ⟨b, o, q0, q1, q2, q3, q4, q5, q6, p0, p1, p2, p3, p4, p5, p6, rfl, hb, hin, hin', ⟨x0, x1, x2, x3, x4, x5, x6⟩, ⟨y0, y1, y2, y3, y4, y5, y6⟩⟩ := row_cellsR hI
  have HF : Hid (∀ (W : World), Upd [] w W → Calls Tryz.prog 48 #[.string s, .agg #[q0, q1, q2, q3, q4, q5, q6], .agg #[p0, p1, p2, p3, p4, p5, p6]] W (MadeQ B D P why W)) := fun W hu => hF _ _ W hu hin hin'
  have HS : Hid (∀ w', Upd [] w w' → w'.cell? ⟨b, o, none⟩ = some q0 ∧ w'.cell? ⟨b, o + 1, none⟩ = some q1 ∧ w'.cell? ⟨b, o + 2, none⟩ = some q2 ∧ w'.cell? ⟨b, o + 3, none⟩ = some q3 ∧ w'.cell? ⟨b, o + 4, none⟩ = some q4 ∧ w'.cell? ⟨b, o + 5, none⟩ = some q5 ∧ w'.cell? ⟨b, o + 6, none⟩ = some q6 ∧ w'.cell? ⟨b, o + 7, none⟩ = some p0 ∧ w'.cell? ⟨b, o + 7 + 1, none⟩ = some p1 ∧ w'.cell? ⟨b, o + 7 + 2, none⟩ = some p2 ∧ w'.cell? ⟨b, o + 7 + 3, none⟩ = some p3 ∧ w'.cell? ⟨b, o + 7 + 4, none⟩ = some p4 ∧ w'.cell? ⟨b, o + 7 + 5, none⟩ = some p5 ∧ w'.cell? ⟨b, o + 7 + 6, none⟩ = some p6) := fun w' hu => ⟨(hu.cell (p := ⟨b, o, none⟩) hb (by simp)).trans x0, (hu.cell (p := ⟨b, o + 1, none⟩) hb (by simp)).trans x1, (hu.cell (p := ⟨b, o + 2, none⟩) hb (by simp)).trans x2, (hu.cell (p := ⟨b, o + 3, none⟩) hb (by simp)).trans x3, (hu.cell (p := ⟨b, o + 4, none⟩) hb (by simp)).trans x4, (hu.cell (p := ⟨b, o + 5, none⟩) hb (by simp)).trans x5, (hu.cell (p := ⟨b, o + 6, none⟩) hb (by simp)).trans x6, (hu.cell (p := ⟨b, o + 7, none⟩) hb (by simp)).trans y0, (hu.cell (p := ⟨b, o + 7 + 1, none⟩) hb (by simp)).trans y1, (hu.cell (p := ⟨b, o + 7 + 2, none⟩) hb (by simp)).trans y2, (hu.cell (p := ⟨b, o + 7 + 3, none⟩) hb (by simp)).trans y3, (hu.cell (p := ⟨b, o + 7 + 4, none⟩) hb (by simp)).trans y4, (hu.cell (p := ⟨b, o + 7 + 5, none⟩) hb (by simp)).trans y5, (hu.cell (p := ⟨b, o + 7 + 6, none⟩) hb (by simp)).trans y6⟩
  have HU0 : Hid (Upd [] w (w.alloc (.cells #[.int .u8 0, .bool false, .slice none 0 0, .string ⟨#[]⟩, .int .i64 0, .slice none 0 0, .slice none 0 0] 26))) := (Upd.refl [] w).alloc _
  have HTZ : Hid (Tb (w.alloc (.cells #[.int .u8 0, .bool false, .slice none 0 0, .string ⟨#[]⟩, .int .i64 0, .slice none 0 0, .slice none 0 0] 26)) w.heap.size #[.int .u8 0, .bool false, .slice none 0 0, .string ⟨#[]⟩, .int .i64 0, .slice none 0 0, .slice none 0 0]) := Tb.new _ _ _ rfl
  have HBL : Hid (B ≤ w.heap.size) := hB
  obtain ⟨u0, u1, u2, u3, u4, u5, u6, u7, u8, u9, u10, u11, u12, u13⟩ := HS.out _ HU0.out
  clear hF hI hin hin' hB x0 x1 x2 x3 x4 x5 x6 y0 y1 y2 y3 y4 y5 y6
  have hne1 : (b = w.heap.size) = False := eq_false (by omega)
  have hne2 : (w.heap.size = b) = False := eq_false (by omega)
  go_enter Tryz.func26, Tryz.ntmps26
  go_wp2_with fail
  rename_i K1 hK1
  go_region_held3 (fun w' => w'.cell? ⟨b, o, none⟩ = some q0 ∧ w'.cell? ⟨b, o + 1, none⟩ = some q1 ∧ w'.cell? ⟨b, o + 2, none⟩ = some q2 ∧ w'.cell? ⟨b, o + 3, none⟩ = some q3 ∧ w'.cell? ⟨b, o + 4, none⟩ = some q4 ∧ w'.cell? ⟨b, o + 5, none⟩ = some q5 ∧ w'.cell? ⟨b, o + 6, none⟩ = some q6 ∧ w'.cell? ⟨b, o + 7, none⟩ = some p0 ∧ w'.cell? ⟨b, o + 7 + 1, none⟩ = some p1 ∧ w'.cell? ⟨b, o + 7 + 2, none⟩ = some p2 ∧ w'.cell? ⟨b, o + 7 + 3, none⟩ = some p3 ∧ w'.cell? ⟨b, o + 7 + 4, none⟩ = some p4 ∧ w'.cell? ⟨b, o + 7 + 5, none⟩ = some p5 ∧ w'.cell? ⟨b, o + 7 + 6, none⟩ = some p6)
    (first | go_keep | exact HS.out _ (HU0.out.drew))
    (first
      | (go_at_call 48; go_loud (refine Calls.mono (HF.out _ (by repeat (first | exact Upd.refl _ _ | refine Upd.drew ?_ | refine Upd.alloc ?_ _))) ?_); rintro e w3 ⟨cs3, t3, h73, rfl, hin3, hP3, hU3⟩; obtain ⟨k3, num3, neg3, s3, a31, a32, a33, n31, n32, n33, c31, c32, c33, rfl⟩ := In.shape hin3.plain; have HU3 : Hid (Upd [] (w.alloc (.cells #[.int .u8 0, .bool false, .slice none 0 0, .string ⟨#[]⟩, .int .i64 0, .slice none 0 0, .slice none 0 0] 26)) w3) := Upd.trans (by repeat (first | exact Upd.refl _ _ | refine Upd.drew ?_)) hU3; have HT3 : Hid (Tb w3 w.heap.size #[.int .u8 0, .bool false, .slice none 0 0, .string ⟨#[]⟩, .int .i64 0, .slice none 0 0, .slice none 0 0]) := Tb.mono HTZ.out HU3.out (by simp); have HIN3 : Hid (InU B (w.heap.size + 1) w3 D [.int .u8 k3, .bool neg3, .slice a31 n31 c31, .string s3, .int .i64 num3, .slice a32 n32 c32, .slice a33 n33 c33] t3) := hin3.less (Nat.le_refl _) (by simp); have HP3 : Hid (P t3) := hP3; obtain ⟨sc0, sc1, sc2, sc3, sc4, sc5, sc6, sc7, sc8, sc9, sc10, sc11, sc12, sc13⟩ := HS.out w3 (HU0.out.trans HU3.out); have z0 : w3.cell? ⟨w.heap.size, 0, none⟩ = some (.int .u8 0) := Tb.cell HT3.out 0; have f0 : w3.frozen? ⟨w.heap.size, 0, none⟩ = false := Tb.free HT3.out 0; have z1 : w3.cell? ⟨w.heap.size, 1, none⟩ = some (.bool false) := Tb.cell HT3.out 1; have f1 : w3.frozen? ⟨w.heap.size, 1, none⟩ = false := Tb.free HT3.out 1; have z2 : w3.cell? ⟨w.heap.size, 2, none⟩ = some (.slice none 0 0) := Tb.cell HT3.out 2; have f2 : w3.frozen? ⟨w.heap.size, 2, none⟩ = false := Tb.free HT3.out 2; have z3 : w3.cell? ⟨w.heap.size, 3, none⟩ = some (.string ⟨#[]⟩) := Tb.cell HT3.out 3; have f3 : w3.frozen? ⟨w.heap.size, 3, none⟩ = false := Tb.free HT3.out 3; have z4 : w3.cell? ⟨w.heap.size, 4, none⟩ = some (.int .i64 0) := Tb.cell HT3.out 4; have f4 : w3.frozen? ⟨w.heap.size, 4, none⟩ = false := Tb.free HT3.out 4; have z5 : w3.cell? ⟨w.heap.size, 5, none⟩ = some (.slice none 0 0) := Tb.cell HT3.out 5; have f5 : w3.frozen? ⟨w.heap.size, 5, none⟩ = false := Tb.free HT3.out 5; have z6 : w3.cell? ⟨w.heap.size, 6, none⟩ = some (.slice none 0 0) := Tb.cell HT3.out 6; have f6 : w3.frozen? ⟨w.heap.size, 6, none⟩ = false := Tb.free HT3.out 6; clear hU3 hin3 hP3 h73))
  all_goals
    have h7 := seven HT3.out (.int .u8 k3) (.bool neg3) (.slice a31 n31 c31) (.string s3) (.int .i64 num3) (.slice a32 n32 c32) (.slice a33 n33 c33)
    show K1 _ _
    refine hK1 _ _ ?_
    go_wp2
    exact ret_Tb Tryz.results26 rfl _ _ _ rfl h7.1 rfl rfl ⟨_, t3, rfl, rfl, HIN3.out.step h7.2 (bx_zero HBL.out (by omega) HT3.out) (Nat.le_refl _) (Nat.succ_le_of_lt (Tb.lt HT3.out)), HP3.out, (HU0.out.trans HU3.out).then h7.2 (by simp)⟩
set_option maxHeartbeats 1000000 in
set_option maxRecDepth 100000 in
theorem stands_lt (s : ByteArray) (c : Int) (w : World) (e1 : (s.toList == [61, 61]) = false) (e2 : (s.toList == [61, 58, 61]) = false) (e3 : (s.toList == [47, 61]) = false) (e4 : (s.toList == [61, 47, 61]) = false) (e5 : (s.toList == [60]) = true) : Calls Tryz.prog 85 #[.string s, .int .i64 c] w fun e w' => e = .returned (.bool (decide (c < 0))) ∧ Upd [] w w' := by
  have hne : (c != 0) = !(c == 0) := rfl
  go_enter Tryz.func85, Tryz.ntmps85
  go_wp2
  go_ret
  exact ⟨by first | rfl | simp, Upd.refl _ _⟩
set_option maxHeartbeats 1000000 in
set_option maxRecDepth 100000 in
theorem stands_eq (s : ByteArray) (c : Int) (w : World) (e1 : (s.toList == [61, 61]) = true) : Calls Tryz.prog 85 #[.string s, .int .i64 c] w fun e w' => e = .returned (.bool ((c == 0))) ∧ Upd [] w w' := by
  have hne : (c != 0) = !(c == 0) := rfl
  go_enter Tryz.func85, Tryz.ntmps85
  go_wp2
  go_ret
  exact ⟨by first | rfl | simp, Upd.refl _ _⟩
set_option maxHeartbeats 1000000 in
set_option maxRecDepth 100000 in
theorem stands_gt (s : ByteArray) (c : Int) (w : World) (e1 : (s.toList == [61, 61]) = false) (e2 : (s.toList == [61, 58, 61]) = false) (e3 : (s.toList == [47, 61]) = false) (e4 : (s.toList == [61, 47, 61]) = false) (e5 : (s.toList == [60]) = false) (e6 : (s.toList == [61, 60]) = false) (e7 : (s.toList == [62]) = true) : Calls Tryz.prog 85 #[.string s, .int .i64 c] w fun e w' => e = .returned (.bool (decide (0 < c))) ∧ Upd [] w w' := by
  have hne : (c != 0) = !(c == 0) := rfl
  go_enter Tryz.func85, Tryz.ntmps85
  go_wp2
  go_ret
  exact ⟨by first | rfl | simp, Upd.refl _ _⟩
set_option maxHeartbeats 1000000 in
set_option maxRecDepth 100000 in
theorem stands_le (s : ByteArray) (c : Int) (w : World) (e1 : (s.toList == [61, 61]) = false) (e2 : (s.toList == [61, 58, 61]) = false) (e3 : (s.toList == [47, 61]) = false) (e4 : (s.toList == [61, 47, 61]) = false) (e5 : (s.toList == [60]) = false) (e6 : (s.toList == [61, 60]) = true) : Calls Tryz.prog 85 #[.string s, .int .i64 c] w fun e w' => e = .returned (.bool (decide (c ≤ 0))) ∧ Upd [] w w' := by
  have hne : (c != 0) = !(c == 0) := rfl
  go_enter Tryz.func85, Tryz.ntmps85
  go_wp2
  go_ret
  exact ⟨by first | rfl | simp, Upd.refl _ _⟩
set_option maxHeartbeats 1000000 in
set_option maxRecDepth 100000 in
theorem stands_ee (s : ByteArray) (c : Int) (w : World) (e1 : (s.toList == [61, 61]) = false) (e2 : (s.toList == [61, 58, 61]) = true) : Calls Tryz.prog 85 #[.string s, .int .i64 c] w fun e w' => e = .returned (.bool ((c == 0))) ∧ Upd [] w w' := by
  have hne : (c != 0) = !(c == 0) := rfl
  go_enter Tryz.func85, Tryz.ntmps85
  go_wp2
  go_ret
  exact ⟨by first | rfl | simp, Upd.refl _ _⟩
set_option maxHeartbeats 1000000 in
set_option maxRecDepth 100000 in
theorem stands_ne (s : ByteArray) (c : Int) (w : World) (e1 : (s.toList == [61, 61]) = false) (e2 : (s.toList == [61, 58, 61]) = false) (e3 : (s.toList == [47, 61]) = true) : Calls Tryz.prog 85 #[.string s, .int .i64 c] w fun e w' => e = .returned (.bool (!(c == 0))) ∧ Upd [] w w' := by
  have hne : (c != 0) = !(c == 0) := rfl
  go_enter Tryz.func85, Tryz.ntmps85
  go_wp2
  go_ret
  exact ⟨by first | rfl | simp, Upd.refl _ _⟩
set_option maxHeartbeats 2000000 in
set_option maxRecDepth 100000 in
theorem ofTwo_cmp {B d D : Nat} {t u : Tm} (r : Bool) (s : ByteArray) (cs0 cs1 : List Value) (w : World) (h0 : In w d cs0 t) (h1 : In w d cs1 u) (hB : B ≤ w.heap.size) (z0 : okS t = true) (z1 : okS u = true) (hS : ∀ W, Calls Tryz.prog 85 #[.string s, .int .i64 (cmpS t u)] W fun e w' => e = .returned (.bool r) ∧ Upd [] W w') (e1 : (s.toList == [43]) = false) (e2 : (s.toList == [45]) = false) (e3 : (s.toList == [42]) = false) (e4 : (s.toList == [100, 105, 118]) = false) (e5 : (s.toList == [114, 101, 109]) = false) (e6 : (s.toList == [97, 110, 100]) = false) (e7 : (s.toList == [111, 114]) = false) (e8 : (s.toList == [120, 111, 114]) = false) (e9 : (s.toList == [109, 97, 120]) = false) (e10 : (s.toList == [109, 105, 110]) = false) (e11 : (s.toList == [43, 43]) = false) (e12 : (s.toList == [45, 45]) = false) (e13 : (s.toList == [101, 108, 101, 109, 101, 110, 116]) = false) (e14 : (s.toList == [110, 116, 104]) = false) (e15 : (s.toList == [110, 116, 104, 116, 97, 105, 108]) = false) (e16 : (s.toList == [109, 101, 109, 98, 101, 114]) = false) (e17 : (s.toList == [115, 101, 113]) = false) (e18 : (s.toList == [105, 115, 95, 102, 117, 110, 99, 116, 105, 111, 110]) = false) :
    Calls Tryz.prog 48 #[.string s, .agg cs0.toArray, .agg cs1.toArray] w (MadeQ B (D + 1) (fun q => q = tmA (tfS r)) ⟨#[]⟩ w) := by
  have lh0 : cs0.length = 7 := h0.len
  have lh1 : cs1.length = 7 := h1.len
  obtain ⟨q0, q1, q2, q3, q4, q5, q6, rfl⟩ := list7 lh0
  obtain ⟨p0, p1, p2, p3, p4, p5, p6, rfl⟩ := list7 lh1
  have tA : Tb (((w.alloc (.cells #[q0, q1, q2, q3, q4, q5, q6] 26)).alloc (.cells #[p0, p1, p2, p3, p4, p5, p6] 26)).alloc (.cells #[.int .u8 0, .bool false, .slice none 0 0, .string ⟨#[]⟩, .int .i64 0, .slice none 0 0, .slice none 0 0] 26)) w.heap.size #[q0, q1, q2, q3, q4, q5, q6] := ((Tb.new _ _ _ rfl).old _).old _
  have tB : Tb (((w.alloc (.cells #[q0, q1, q2, q3, q4, q5, q6] 26)).alloc (.cells #[p0, p1, p2, p3, p4, p5, p6] 26)).alloc (.cells #[.int .u8 0, .bool false, .slice none 0 0, .string ⟨#[]⟩, .int .i64 0, .slice none 0 0, .slice none 0 0] 26)) (w.heap.size + 1) #[p0, p1, p2, p3, p4, p5, p6] := (Tb.new _ _ _ (by simp)).old _
  have tZ : Tb (((w.alloc (.cells #[q0, q1, q2, q3, q4, q5, q6] 26)).alloc (.cells #[p0, p1, p2, p3, p4, p5, p6] 26)).alloc (.cells #[.int .u8 0, .bool false, .slice none 0 0, .string ⟨#[]⟩, .int .i64 0, .slice none 0 0, .slice none 0 0] 26)) (w.heap.size + 1 + 1) #[.int .u8 0, .bool false, .slice none 0 0, .string ⟨#[]⟩, .int .i64 0, .slice none 0 0, .slice none 0 0] := Tb.new _ _ _ (by simp)
  have HU0 : Hid (Upd [] w (((w.alloc (.cells #[q0, q1, q2, q3, q4, q5, q6] 26)).alloc (.cells #[p0, p1, p2, p3, p4, p5, p6] 26)).alloc (.cells #[.int .u8 0, .bool false, .slice none 0 0, .string ⟨#[]⟩, .int .i64 0, .slice none 0 0, .slice none 0 0] 26))) := (((Upd.refl [] w).alloc _).alloc _).alloc _
  have HBL : Hid (B ≤ w.heap.size) := hB
  have HTZ : Hid (Tb (((w.alloc (.cells #[q0, q1, q2, q3, q4, q5, q6] 26)).alloc (.cells #[p0, p1, p2, p3, p4, p5, p6] 26)).alloc (.cells #[.int .u8 0, .bool false, .slice none 0 0, .string ⟨#[]⟩, .int .i64 0, .slice none 0 0, .slice none 0 0] 26)) (w.heap.size + 1 + 1) #[.int .u8 0, .bool false, .slice none 0 0, .string ⟨#[]⟩, .int .i64 0, .slice none 0 0, .slice none 0 0]) := tZ
  have H0 : Hid (In w d [q0, q1, q2, q3, q4, q5, q6] t) := h0
  have H1 : Hid (In w d [p0, p1, p2, p3, p4, p5, p6] u) := h1
  have HC : Hid (∀ (W : World), Upd [] w W → Calls Tryz.prog 86 #[.agg #[q0, q1, q2, q3, q4, q5, q6], .agg #[p0, p1, p2, p3, p4, p5, p6]] W fun e w' => e = .returned (.int .i64 (cmpS t u)) ∧ Upd [] W w') := fun W hu => TCompare_in d W _ _ t u (In.mono hu _ _ _ h0) (In.mono hu _ _ _ h1) (okS_tsz z0) (okS_tsz z1)
  have HS : Hid _ := hS
  obtain ⟨c, hc⟩ : ∃ c, c = cmpS t u := ⟨_, rfl⟩
  rw [← hc] at HC HS
  clear hS h0 h1 hB lh0 lh1 z0 z1 hc
  go_enter Tryz.func48, Tryz.ntmps48
  go_wp2_with (first | (refine load_T _ rfl _ rfl _ _ rfl tA rfl ?_) | (refine load_T _ rfl _ rfl _ _ rfl tB rfl ?_) | fail)
  refine Calls.mono (HC.out _ HU0.out) ?_
  rintro e w1 ⟨rfl, u1⟩
  have U1 : Hid (Upd [] w w1) := HU0.out.trans u1
  have tZ1 := tZ.mono u1 (by simp)
  clear u1 tA tB tZ HU0 HC
  go_wp2_with fail
  refine Calls.mono (HS.out _) ?_
  rintro e w2 ⟨rfl, u2⟩
  have U2 : Hid (Upd [] w w2) := U1.out.trans u2
  have tZ2 := tZ1.mono u2 (by simp)
  clear u2 tZ1 HS U1
  go_wp2_with fail
  refine Calls.mono (truth_any r _) ?_
  rintro e w3 ⟨rfl, u3⟩
  have U3 : Hid (Upd [] w w3) := U2.out.trans u3
  have tZ3 := tZ2.mono u3 (by simp)
  clear u3 tZ2 U2
  go_wp2_with (refine store_V _ rfl _ _ rfl _ _ _ _ _ _ _ _ _ _ _ _ _ _ _ rfl rfl tZ3 rfl ?_; intro w4 hT4 hU4)
  exact ret_Tb Tryz.results48 rfl _ _ _ rfl hT4 rfl rfl ⟨_, tmA (tfS r), rfl, rfl, InU.atom _ _ _ _ _, rfl, U3.out.then hU4 (by simp; omega)⟩

set_option maxHeartbeats 2000000 in
set_option maxRecDepth 100000 in
theorem chosen_max {B d : Nat} {t u : Tm} (s : ByteArray) (cs0 cs1 : List Value) (w : World) (h0 : InB (fun b => b < B) w d cs0 t) (h1 : InB (fun b => b < B) w d cs1 u) (_hB : B ≤ w.heap.size) (z0 : okS t = true) (z1 : okS u = true) (e1 : (s.toList == [109, 97, 120]) = true) (e2 : (s.toList == [109, 105, 110]) = false) :
    Calls Tryz.prog 77 #[.string s, .agg cs0.toArray, .agg cs1.toArray] w (OneQ B d (fun q => q = if cmpS t u < 0 then u else t) w) := by
  have g0 := InB.plain _ _ _ h0
  have g1 := InB.plain _ _ _ h1
  obtain ⟨q0, q1, q2, q3, q4, q5, q6, rfl⟩ := list7 g0.len
  obtain ⟨p0, p1, p2, p3, p4, p5, p6, rfl⟩ := list7 g1.len
  have o0 := g0.one
  have o1 := g1.one
  have tA : Tb (((w.alloc (.cells #[q0, q1, q2, q3, q4, q5, q6] 26)).alloc (.cells #[p0, p1, p2, p3, p4, p5, p6] 26)).alloc (.cells #[.int .u8 0, .bool false, .slice none 0 0, .string ⟨#[]⟩, .int .i64 0, .slice none 0 0, .slice none 0 0] 26)) w.heap.size #[q0, q1, q2, q3, q4, q5, q6] := ((Tb.new _ _ _ rfl).old _).old _
  have tB : Tb (((w.alloc (.cells #[q0, q1, q2, q3, q4, q5, q6] 26)).alloc (.cells #[p0, p1, p2, p3, p4, p5, p6] 26)).alloc (.cells #[.int .u8 0, .bool false, .slice none 0 0, .string ⟨#[]⟩, .int .i64 0, .slice none 0 0, .slice none 0 0] 26)) (w.heap.size + 1) #[p0, p1, p2, p3, p4, p5, p6] := (Tb.new _ _ _ (by simp)).old _
  have tZ : Tb (((w.alloc (.cells #[q0, q1, q2, q3, q4, q5, q6] 26)).alloc (.cells #[p0, p1, p2, p3, p4, p5, p6] 26)).alloc (.cells #[.int .u8 0, .bool false, .slice none 0 0, .string ⟨#[]⟩, .int .i64 0, .slice none 0 0, .slice none 0 0] 26)) (w.heap.size + 1 + 1) #[.int .u8 0, .bool false, .slice none 0 0, .string ⟨#[]⟩, .int .i64 0, .slice none 0 0, .slice none 0 0] := Tb.new _ _ _ (by simp)
  have HU0 : Hid (Upd [] w (((w.alloc (.cells #[q0, q1, q2, q3, q4, q5, q6] 26)).alloc (.cells #[p0, p1, p2, p3, p4, p5, p6] 26)).alloc (.cells #[.int .u8 0, .bool false, .slice none 0 0, .string ⟨#[]⟩, .int .i64 0, .slice none 0 0, .slice none 0 0] 26))) := (((Upd.refl [] w).alloc _).alloc _).alloc _
  have HC : Hid (∀ (W : World), Upd [] w W → Calls Tryz.prog 86 #[.agg #[q0, q1, q2, q3, q4, q5, q6], .agg #[p0, p1, p2, p3, p4, p5, p6]] W fun e w' => e = .returned (.int .i64 (cmpS t u)) ∧ Upd [] W w') := fun W hu => TCompare_in d W _ _ t u (In.mono hu _ _ _ g0) (In.mono hu _ _ _ g1) (okS_tsz z0) (okS_tsz z1)
  have H0 : Hid (InU B w.heap.size w d [q0, q1, q2, q3, q4, q5, q6] t) := InB.low h0
  have H1 : Hid (InU B w.heap.size w d [p0, p1, p2, p3, p4, p5, p6] u) := InB.low h1
  obtain ⟨c, hc⟩ : ∃ c, c = cmpS t u := ⟨_, rfl⟩
  rw [← hc] at HC ⊢
  clear h0 h1 _hB g0 g1 z0 z1 hc
  go_enter Tryz.func77, Tryz.ntmps77
  go_wp2_with (first | (refine load_T _ rfl _ rfl _ _ rfl tA rfl ?_) | (refine load_T _ rfl _ rfl _ _ rfl tB rfl ?_) | fail)
  refine Calls.mono (HC.out _ HU0.out) ?_
  rintro e w1 ⟨rfl, u1⟩
  have U1 : Hid (Upd [] w w1) := HU0.out.trans u1
  have tA1 := tA.mono u1 (by simp)
  have tB1 := tB.mono u1 (by simp)
  have tZ1 := tZ.mono u1 (by simp)
  clear u1 tA tB tZ HU0 HC
  by_cases hp : c < 0
  · skip
    go_wp2_with (first | (refine load_T _ rfl _ rfl _ _ rfl tB1 rfl ?_) | (refine store_T _ rfl _ _ rfl _ #[p0, p1, p2, p3, p4, p5, p6] _ rfl rfl tZ1 rfl rfl o1 ?_; intro w2 hT2 hU2) | fail)
    have U2 : Upd [] w w2 := U1.out.then hU2 (by simp; omega)
    exact ret_T Tryz.results77 rfl _ _ rfl hT2 rfl ⟨_, u, rfl, rfl, H1.out.mono U2 (Nat.le_refl _), by first | exact rfl | (rw [if_pos hp]), U2⟩
  · have hd : decide (c < 0) = false := by simp; omega
    go_wp2_with (first | (refine load_T _ rfl _ rfl _ _ rfl tA1 rfl ?_) | (refine store_T _ rfl _ _ rfl _ #[q0, q1, q2, q3, q4, q5, q6] _ rfl rfl tZ1 rfl rfl o0 ?_; intro w2 hT2 hU2) | fail)
    have U2 : Upd [] w w2 := U1.out.then hU2 (by simp; omega)
    exact ret_T Tryz.results77 rfl _ _ rfl hT2 rfl ⟨_, t, rfl, rfl, H0.out.mono U2 (Nat.le_refl _), by first | exact rfl | (rw [if_neg hp]), U2⟩

set_option maxHeartbeats 2000000 in
set_option maxRecDepth 100000 in
theorem chosen_min {B d : Nat} {t u : Tm} (s : ByteArray) (cs0 cs1 : List Value) (w : World) (h0 : InB (fun b => b < B) w d cs0 t) (h1 : InB (fun b => b < B) w d cs1 u) (_hB : B ≤ w.heap.size) (z0 : okS t = true) (z1 : okS u = true) (e1 : (s.toList == [109, 97, 120]) = false) (e2 : (s.toList == [109, 105, 110]) = true) :
    Calls Tryz.prog 77 #[.string s, .agg cs0.toArray, .agg cs1.toArray] w (OneQ B d (fun q => q = if 0 < cmpS t u then u else t) w) := by
  have g0 := InB.plain _ _ _ h0
  have g1 := InB.plain _ _ _ h1
  obtain ⟨q0, q1, q2, q3, q4, q5, q6, rfl⟩ := list7 g0.len
  obtain ⟨p0, p1, p2, p3, p4, p5, p6, rfl⟩ := list7 g1.len
  have o0 := g0.one
  have o1 := g1.one
  have tA : Tb (((w.alloc (.cells #[q0, q1, q2, q3, q4, q5, q6] 26)).alloc (.cells #[p0, p1, p2, p3, p4, p5, p6] 26)).alloc (.cells #[.int .u8 0, .bool false, .slice none 0 0, .string ⟨#[]⟩, .int .i64 0, .slice none 0 0, .slice none 0 0] 26)) w.heap.size #[q0, q1, q2, q3, q4, q5, q6] := ((Tb.new _ _ _ rfl).old _).old _
  have tB : Tb (((w.alloc (.cells #[q0, q1, q2, q3, q4, q5, q6] 26)).alloc (.cells #[p0, p1, p2, p3, p4, p5, p6] 26)).alloc (.cells #[.int .u8 0, .bool false, .slice none 0 0, .string ⟨#[]⟩, .int .i64 0, .slice none 0 0, .slice none 0 0] 26)) (w.heap.size + 1) #[p0, p1, p2, p3, p4, p5, p6] := (Tb.new _ _ _ (by simp)).old _
  have tZ : Tb (((w.alloc (.cells #[q0, q1, q2, q3, q4, q5, q6] 26)).alloc (.cells #[p0, p1, p2, p3, p4, p5, p6] 26)).alloc (.cells #[.int .u8 0, .bool false, .slice none 0 0, .string ⟨#[]⟩, .int .i64 0, .slice none 0 0, .slice none 0 0] 26)) (w.heap.size + 1 + 1) #[.int .u8 0, .bool false, .slice none 0 0, .string ⟨#[]⟩, .int .i64 0, .slice none 0 0, .slice none 0 0] := Tb.new _ _ _ (by simp)
  have HU0 : Hid (Upd [] w (((w.alloc (.cells #[q0, q1, q2, q3, q4, q5, q6] 26)).alloc (.cells #[p0, p1, p2, p3, p4, p5, p6] 26)).alloc (.cells #[.int .u8 0, .bool false, .slice none 0 0, .string ⟨#[]⟩, .int .i64 0, .slice none 0 0, .slice none 0 0] 26))) := (((Upd.refl [] w).alloc _).alloc _).alloc _
  have HC : Hid (∀ (W : World), Upd [] w W → Calls Tryz.prog 86 #[.agg #[q0, q1, q2, q3, q4, q5, q6], .agg #[p0, p1, p2, p3, p4, p5, p6]] W fun e w' => e = .returned (.int .i64 (cmpS t u)) ∧ Upd [] W w') := fun W hu => TCompare_in d W _ _ t u (In.mono hu _ _ _ g0) (In.mono hu _ _ _ g1) (okS_tsz z0) (okS_tsz z1)
  have H0 : Hid (InU B w.heap.size w d [q0, q1, q2, q3, q4, q5, q6] t) := InB.low h0
  have H1 : Hid (InU B w.heap.size w d [p0, p1, p2, p3, p4, p5, p6] u) := InB.low h1
  obtain ⟨c, hc⟩ : ∃ c, c = cmpS t u := ⟨_, rfl⟩
  rw [← hc] at HC ⊢
  clear h0 h1 _hB g0 g1 z0 z1 hc
  go_enter Tryz.func77, Tryz.ntmps77
  go_wp2_with (first | (refine load_T _ rfl _ rfl _ _ rfl tA rfl ?_) | (refine load_T _ rfl _ rfl _ _ rfl tB rfl ?_) | fail)
  refine Calls.mono (HC.out _ HU0.out) ?_
  rintro e w1 ⟨rfl, u1⟩
  have U1 : Hid (Upd [] w w1) := HU0.out.trans u1
  have tA1 := tA.mono u1 (by simp)
  have tB1 := tB.mono u1 (by simp)
  have tZ1 := tZ.mono u1 (by simp)
  clear u1 tA tB tZ HU0 HC
  by_cases hp : 0 < c
  · skip
    go_wp2_with (first | (refine load_T _ rfl _ rfl _ _ rfl tB1 rfl ?_) | (refine store_T _ rfl _ _ rfl _ #[p0, p1, p2, p3, p4, p5, p6] _ rfl rfl tZ1 rfl rfl o1 ?_; intro w2 hT2 hU2) | fail)
    have U2 : Upd [] w w2 := U1.out.then hU2 (by simp; omega)
    exact ret_T Tryz.results77 rfl _ _ rfl hT2 rfl ⟨_, u, rfl, rfl, H1.out.mono U2 (Nat.le_refl _), by first | exact rfl | (rw [if_pos hp]), U2⟩
  · have hd : decide (0 < c) = false := by simp; omega
    go_wp2_with (first | (refine load_T _ rfl _ rfl _ _ rfl tA1 rfl ?_) | (refine store_T _ rfl _ _ rfl _ #[q0, q1, q2, q3, q4, q5, q6] _ rfl rfl tZ1 rfl rfl o0 ?_; intro w2 hT2 hU2) | fail)
    have U2 : Upd [] w w2 := U1.out.then hU2 (by simp; omega)
    exact ret_T Tryz.results77 rfl _ _ rfl hT2 rfl ⟨_, t, rfl, rfl, H0.out.mono U2 (Nat.le_refl _), by first | exact rfl | (rw [if_neg hp]), U2⟩

set_option maxHeartbeats 2000000 in
set_option maxRecDepth 100000 in
theorem ofTwo_max {B d : Nat} {t u : Tm} {X : Tm → Prop} (s : ByteArray) (cs0 cs1 : List Value) (w : World) (h0 : InB (fun b => b < B) w d cs0 t) (h1 : InB (fun b => b < B) w d cs1 u) (hB : B ≤ w.heap.size)
    (hF : ∀ (cs cs' : List Value) (W : World), Upd [] w W → InB (fun b => b < B) W d cs t → InB (fun b => b < B) W d cs' u → Calls Tryz.prog 77 #[.string s, .agg cs.toArray, .agg cs'.toArray] W (OneQ B d X W)) (e1 : (s.toList == [43]) = false) (e2 : (s.toList == [45]) = false) (e3 : (s.toList == [42]) = false) (e4 : (s.toList == [100, 105, 118]) = false) (e5 : (s.toList == [114, 101, 109]) = false) (e6 : (s.toList == [97, 110, 100]) = false) (e7 : (s.toList == [111, 114]) = false) (e8 : (s.toList == [120, 111, 114]) = false) (e9 : (s.toList == [109, 97, 120]) = true) :
    Calls Tryz.prog 48 #[.string s, .agg cs0.toArray, .agg cs1.toArray] w (MadeQ B d X ⟨#[]⟩ w) := by
  have g0 := InB.plain _ _ _ h0
  have g1 := InB.plain _ _ _ h1
  obtain ⟨q0, q1, q2, q3, q4, q5, q6, rfl⟩ := list7 g0.len
  obtain ⟨p0, p1, p2, p3, p4, p5, p6, rfl⟩ := list7 g1.len
  have tA : Tb (((w.alloc (.cells #[q0, q1, q2, q3, q4, q5, q6] 26)).alloc (.cells #[p0, p1, p2, p3, p4, p5, p6] 26)).alloc (.cells #[.int .u8 0, .bool false, .slice none 0 0, .string ⟨#[]⟩, .int .i64 0, .slice none 0 0, .slice none 0 0] 26)) w.heap.size #[q0, q1, q2, q3, q4, q5, q6] := ((Tb.new _ _ _ rfl).old _).old _
  have tB : Tb (((w.alloc (.cells #[q0, q1, q2, q3, q4, q5, q6] 26)).alloc (.cells #[p0, p1, p2, p3, p4, p5, p6] 26)).alloc (.cells #[.int .u8 0, .bool false, .slice none 0 0, .string ⟨#[]⟩, .int .i64 0, .slice none 0 0, .slice none 0 0] 26)) (w.heap.size + 1) #[p0, p1, p2, p3, p4, p5, p6] := (Tb.new _ _ _ (by simp)).old _
  have tZ : Tb (((w.alloc (.cells #[q0, q1, q2, q3, q4, q5, q6] 26)).alloc (.cells #[p0, p1, p2, p3, p4, p5, p6] 26)).alloc (.cells #[.int .u8 0, .bool false, .slice none 0 0, .string ⟨#[]⟩, .int .i64 0, .slice none 0 0, .slice none 0 0] 26)) (w.heap.size + 1 + 1) #[.int .u8 0, .bool false, .slice none 0 0, .string ⟨#[]⟩, .int .i64 0, .slice none 0 0, .slice none 0 0] := Tb.new _ _ _ (by simp)
  have HU0 : Hid (Upd [] w (((w.alloc (.cells #[q0, q1, q2, q3, q4, q5, q6] 26)).alloc (.cells #[p0, p1, p2, p3, p4, p5, p6] 26)).alloc (.cells #[.int .u8 0, .bool false, .slice none 0 0, .string ⟨#[]⟩, .int .i64 0, .slice none 0 0, .slice none 0 0] 26))) := (((Upd.refl [] w).alloc _).alloc _).alloc _
  have HBL : Hid (B ≤ w.heap.size) := hB
  have HF : Hid (∀ (W : World), Upd [] w W → Calls Tryz.prog 77 #[.string s, .agg #[q0, q1, q2, q3, q4, q5, q6], .agg #[p0, p1, p2, p3, p4, p5, p6]] W (OneQ B d X W)) := fun W hu => hF _ _ W hu (InB.upd hu (by simp) (fun _ hb _ => hb) _ _ _ h0) (InB.upd hu (by simp) (fun _ hb _ => hb) _ _ _ h1)
  clear hF h0 h1 hB g0 g1
  go_enter Tryz.func48, Tryz.ntmps48
  go_wp2_with (first | (refine load_T _ rfl _ rfl _ _ rfl tA rfl ?_) | (refine load_T _ rfl _ rfl _ _ rfl tB rfl ?_) | fail)
  refine Calls.mono (HF.out _ HU0.out) ?_
  rintro e w1 ⟨cs, q, h7, rfl, hin, hP, hu1⟩
  have hone := hin.plain.one
  obtain ⟨r0, r1, r2, r3, r4, r5, r6, rfl⟩ := list7 h7
  have tZ1 := tZ.mono hu1 (by simp)
  have HTZ1 : Hid (Tb w1 (w.heap.size + 1 + 1) #[.int .u8 0, .bool false, .slice none 0 0, .string ⟨#[]⟩, .int .i64 0, .slice none 0 0, .slice none 0 0]) := tZ1
  have HIN : Hid (InU B (w.heap.size + 1 + 1 + 1) w1 d [r0, r1, r2, r3, r4, r5, r6] q) := hin.less (Nat.le_refl _) (by simp)
  have HP : Hid (X q) := hP
  have U1 : Hid (Upd [] w w1) := HU0.out.trans hu1
  clear hu1 hin hP tA tB tZ HU0
  go_wp2_with (refine store_T _ rfl _ _ rfl _ #[r0, r1, r2, r3, r4, r5, r6] _ rfl rfl tZ1 rfl rfl hone ?_; intro w2 hT2 hU2)
  exact ret_Tb Tryz.results48 rfl _ _ _ rfl hT2 rfl rfl ⟨_, q, rfl, rfl, HIN.out.step hU2 (bx_zero (Nat.le_trans HBL.out (by omega)) (by omega) HTZ1.out) (by omega) (Nat.succ_le_of_lt (Tb.lt HTZ1.out)), HP.out, U1.out.then hU2 (by simp; omega)⟩

set_option maxHeartbeats 2000000 in
set_option maxRecDepth 100000 in
theorem ofTwo_min {B d : Nat} {t u : Tm} {X : Tm → Prop} (s : ByteArray) (cs0 cs1 : List Value) (w : World) (h0 : InB (fun b => b < B) w d cs0 t) (h1 : InB (fun b => b < B) w d cs1 u) (hB : B ≤ w.heap.size)
    (hF : ∀ (cs cs' : List Value) (W : World), Upd [] w W → InB (fun b => b < B) W d cs t → InB (fun b => b < B) W d cs' u → Calls Tryz.prog 77 #[.string s, .agg cs.toArray, .agg cs'.toArray] W (OneQ B d X W)) (e1 : (s.toList == [43]) = false) (e2 : (s.toList == [45]) = false) (e3 : (s.toList == [42]) = false) (e4 : (s.toList == [100, 105, 118]) = false) (e5 : (s.toList == [114, 101, 109]) = false) (e6 : (s.toList == [97, 110, 100]) = false) (e7 : (s.toList == [111, 114]) = false) (e8 : (s.toList == [120, 111, 114]) = false) (e9 : (s.toList == [109, 97, 120]) = false) (e10 : (s.toList == [109, 105, 110]) = true) :
    Calls Tryz.prog 48 #[.string s, .agg cs0.toArray, .agg cs1.toArray] w (MadeQ B d X ⟨#[]⟩ w) := by
  have g0 := InB.plain _ _ _ h0
  have g1 := InB.plain _ _ _ h1
  obtain ⟨q0, q1, q2, q3, q4, q5, q6, rfl⟩ := list7 g0.len
  obtain ⟨p0, p1, p2, p3, p4, p5, p6, rfl⟩ := list7 g1.len
  have tA : Tb (((w.alloc (.cells #[q0, q1, q2, q3, q4, q5, q6] 26)).alloc (.cells #[p0, p1, p2, p3, p4, p5, p6] 26)).alloc (.cells #[.int .u8 0, .bool false, .slice none 0 0, .string ⟨#[]⟩, .int .i64 0, .slice none 0 0, .slice none 0 0] 26)) w.heap.size #[q0, q1, q2, q3, q4, q5, q6] := ((Tb.new _ _ _ rfl).old _).old _
  have tB : Tb (((w.alloc (.cells #[q0, q1, q2, q3, q4, q5, q6] 26)).alloc (.cells #[p0, p1, p2, p3, p4, p5, p6] 26)).alloc (.cells #[.int .u8 0, .bool false, .slice none 0 0, .string ⟨#[]⟩, .int .i64 0, .slice none 0 0, .slice none 0 0] 26)) (w.heap.size + 1) #[p0, p1, p2, p3, p4, p5, p6] := (Tb.new _ _ _ (by simp)).old _
  have tZ : Tb (((w.alloc (.cells #[q0, q1, q2, q3, q4, q5, q6] 26)).alloc (.cells #[p0, p1, p2, p3, p4, p5, p6] 26)).alloc (.cells #[.int .u8 0, .bool false, .slice none 0 0, .string ⟨#[]⟩, .int .i64 0, .slice none 0 0, .slice none 0 0] 26)) (w.heap.size + 1 + 1) #[.int .u8 0, .bool false, .slice none 0 0, .string ⟨#[]⟩, .int .i64 0, .slice none 0 0, .slice none 0 0] := Tb.new _ _ _ (by simp)
  have HU0 : Hid (Upd [] w (((w.alloc (.cells #[q0, q1, q2, q3, q4, q5, q6] 26)).alloc (.cells #[p0, p1, p2, p3, p4, p5, p6] 26)).alloc (.cells #[.int .u8 0, .bool false, .slice none 0 0, .string ⟨#[]⟩, .int .i64 0, .slice none 0 0, .slice none 0 0] 26))) := (((Upd.refl [] w).alloc _).alloc _).alloc _
  have HBL : Hid (B ≤ w.heap.size) := hB
  have HF : Hid (∀ (W : World), Upd [] w W → Calls Tryz.prog 77 #[.string s, .agg #[q0, q1, q2, q3, q4, q5, q6], .agg #[p0, p1, p2, p3, p4, p5, p6]] W (OneQ B d X W)) := fun W hu => hF _ _ W hu (InB.upd hu (by simp) (fun _ hb _ => hb) _ _ _ h0) (InB.upd hu (by simp) (fun _ hb _ => hb) _ _ _ h1)
  clear hF h0 h1 hB g0 g1
  go_enter Tryz.func48, Tryz.ntmps48
  go_wp2_with (first | (refine load_T _ rfl _ rfl _ _ rfl tA rfl ?_) | (refine load_T _ rfl _ rfl _ _ rfl tB rfl ?_) | fail)
  refine Calls.mono (HF.out _ HU0.out) ?_
  rintro e w1 ⟨cs, q, h7, rfl, hin, hP, hu1⟩
  have hone := hin.plain.one
  obtain ⟨r0, r1, r2, r3, r4, r5, r6, rfl⟩ := list7 h7
  have tZ1 := tZ.mono hu1 (by simp)
  have HTZ1 : Hid (Tb w1 (w.heap.size + 1 + 1) #[.int .u8 0, .bool false, .slice none 0 0, .string ⟨#[]⟩, .int .i64 0, .slice none 0 0, .slice none 0 0]) := tZ1
  have HIN : Hid (InU B (w.heap.size + 1 + 1 + 1) w1 d [r0, r1, r2, r3, r4, r5, r6] q) := hin.less (Nat.le_refl _) (by simp)
  have HP : Hid (X q) := hP
  have U1 : Hid (Upd [] w w1) := HU0.out.trans hu1
  clear hu1 hin hP tA tB tZ HU0
  go_wp2_with (refine store_T _ rfl _ _ rfl _ #[r0, r1, r2, r3, r4, r5, r6] _ rfl rfl tZ1 rfl rfl hone ?_; intro w2 hT2 hU2)
  exact ret_Tb Tryz.results48 rfl _ _ _ rfl hT2 rfl rfl ⟨_, q, rfl, rfl, HIN.out.step hU2 (bx_zero (Nat.le_trans HBL.out (by omega)) (by omega) HTZ1.out) (by omega) (Nat.succ_le_of_lt (Tb.lt HTZ1.out)), HP.out, U1.out.then hU2 (by simp; omega)⟩

end Go.Proofs.YtnpocmhaoaigfaaGreatDoor

/- What is asked of two terms: Call and yes by names. -/
namespace Go.Proofs.YtnpocmhaoaigfaaGreatDoor
open Go.RowKit

set_option maxHeartbeats 4000000 in
set_option maxRecDepth 100000 in
theorem small_in (d : Nat) (w : World) (a : Option Addr) (c : Nat) (I : List Tm) (h : RowAt (In w d) w a I) (hz : tszs I ≤ 1353245080330) :
    Calls Tryz.prog 6 #[.slice a I.length c] w fun e w' => IsBool e ∧ Upd [] w w' := by
  have hlI : I.length ≤ 1353245080330 := Nat.le_trans (tszs_len I) hz
  have HI : Hid (RowAt (In w d) w a I) := h
  have HZ : Hid (tszs I ≤ 1353245080330) := hz
  clear h hz
  go_enter Tryz.func6, Tryz.ntmps6
  go_wp2
  go_loopw [3, 4] (fun n i wr => ∃ (k : Nat) (z : Int), k ≤ I.length ∧ i = .int .i64 k ∧ n = .int .i64 z ∧ Upd [] w wr) (fun _ i _ => I.length - (intOf i).toNat)
  case atStart => exact ⟨0, _, Nat.zero_le _, rfl, rfl, Upd.refl _ _⟩
  case round =>
    obtain ⟨k, z, hk, rfl, rfl, hU⟩ := hrel
    by_cases hlt2 : k < I.length
    · have i1 : (k : Int) < (I.length : Int) := by omega
      by_cases hzm : z ≤ 400
      · rcases HI.out with h0 | ⟨b, o, rfl, hlt, hc⟩
        · rw [h0] at hlt2; simp at hlt2
        · obtain ⟨cs, hl7, hcell, hin⟩ := hc k hlt2
          obtain ⟨q0, q1, q2, q3, q4, q5, q6, rfl⟩ := list7 hl7
          have HIN : Hid (In w d [q0, q1, q2, q3, q4, q5, q6] I[k]) := hin
          have HSZ : Hid (tsz I[k] ≤ 1353245080330) := Nat.le_trans (tszs_get I k hlt2) HZ.out
          have x0 : wr.cell? ⟨b, o + k * 7, none⟩ = some q0 := (hU.cell (p := ⟨b, o + (k * 7 + 0), none⟩) hlt (by simp)).trans (hcell 0 (by omega))
          have x1 : wr.cell? ⟨b, o + k * 7 + 1, none⟩ = some q1 := (hU.cell (p := ⟨b, o + (k * 7 + 1), none⟩) hlt (by simp)).trans (hcell 1 (by omega))
          have x2 : wr.cell? ⟨b, o + k * 7 + 2, none⟩ = some q2 := (hU.cell (p := ⟨b, o + (k * 7 + 2), none⟩) hlt (by simp)).trans (hcell 2 (by omega))
          have x3 : wr.cell? ⟨b, o + k * 7 + 3, none⟩ = some q3 := (hU.cell (p := ⟨b, o + (k * 7 + 3), none⟩) hlt (by simp)).trans (hcell 3 (by omega))
          have x4 : wr.cell? ⟨b, o + k * 7 + 4, none⟩ = some q4 := (hU.cell (p := ⟨b, o + (k * 7 + 4), none⟩) hlt (by simp)).trans (hcell 4 (by omega))
          have x5 : wr.cell? ⟨b, o + k * 7 + 5, none⟩ = some q5 := (hU.cell (p := ⟨b, o + (k * 7 + 5), none⟩) hlt (by simp)).trans (hcell 5 (by omega))
          have x6 : wr.cell? ⟨b, o + k * 7 + 6, none⟩ = some q6 := (hU.cell (p := ⟨b, o + (k * 7 + 6), none⟩) hlt (by simp)).trans (hcell 6 (by omega))
          have HU : Hid (Upd [] w wr) := hU
          clear hc hcell hin hU
          go_wp2_with fail
          refine Calls.mono (Tof_all d wr _ _ _ (In.mono HU.out _ _ _ HIN.out) HSZ.out) ?_
          rintro e w2 ⟨⟨zz, rfl⟩, hU2⟩
          have HU2 : Hid (Upd [] w w2) := HU.out.trans hU2
          clear hU2 x0 x1 x2 x3 x4 x5 x6
          go_wp2
          go_roundw
          case rel => exact ⟨k + 1, _, by omega, by go_num, rfl, HU2.out⟩
          case measure => simp [intOf]; omega
      · have hzb : decide (z ≤ 400) = false := by simp; omega
        have HU : Hid (Upd [] w wr) := hU
        clear hU
        go_wp2
        go_ret
        exact ⟨⟨_, rfl⟩, HU.out⟩
    · have hd : decide ((k : Int) < (I.length : Int)) = false := by simp; omega
      have HU : Hid (Upd [] w wr) := hU
      clear hU
      go_wp2
      go_ret
      exact ⟨⟨_, rfl⟩, HU.out⟩


theorem tf_ok (r : Bool) : okS (tmA (tfS r)) = true := by cases r <;> kernel_rfl
theorem call_lt {d D c : Nat} {t u : Tm} (a : Option Addr) (w : World) (hBlt : Blt w) (hI : RowAt (In w d) w a [t, u]) (z0 : okS t = true) (z1 : okS u = true) :
    Calls Tryz.prog 12 #[.string ⟨#[60]⟩, .slice a 2 c] w (TwoQ (D + 1) (fun q => q = tmA (tfS (decide (cmpS t u < 0)))) (fun t => t = tmZ) true w) :=
  Call_val (B := 0) (I := [t, u]) (n := 2) (why := ⟨#[]⟩) ⟨#[60]⟩ a w (fun W hu => hBlt.mono hu) hI rfl (by simp) (two_tsz z0 z1) (two_ok z0 z1) (by kernel_rfl) (by kernel_rfl) (by kernel_rfl) (by kernel_rfl) (Nat.zero_le _)
    (fun W hu => made_two _ a c W (hI.imp hu (fun cs t h => In.mono hu d cs t h)) (Nat.zero_le _) (fun cs cs' V _ h0 h1 => ofTwo_cmp (decide (cmpS t u < 0)) _ cs cs' V h0 h1 (Nat.zero_le _) z0 z1 (fun W => stands_lt _ _ W (by kernel_rfl) (by kernel_rfl) (by kernel_rfl) (by kernel_rfl) (by kernel_rfl)) (by kernel_rfl) (by kernel_rfl) (by kernel_rfl) (by kernel_rfl) (by kernel_rfl) (by kernel_rfl) (by kernel_rfl) (by kernel_rfl) (by kernel_rfl) (by kernel_rfl) (by kernel_rfl) (by kernel_rfl) (by kernel_rfl) (by kernel_rfl) (by kernel_rfl) (by kernel_rfl) (by kernel_rfl) (by kernel_rfl))) rfl (fun t h => by subst h; exact tf_ok _)
theorem call_eq {d D c : Nat} {t u : Tm} (a : Option Addr) (w : World) (hBlt : Blt w) (hI : RowAt (In w d) w a [t, u]) (z0 : okS t = true) (z1 : okS u = true) :
    Calls Tryz.prog 12 #[.string ⟨#[61, 61]⟩, .slice a 2 c] w (TwoQ (D + 1) (fun q => q = tmA (tfS ((cmpS t u == 0)))) (fun t => t = tmZ) true w) :=
  Call_val (B := 0) (I := [t, u]) (n := 2) (why := ⟨#[]⟩) ⟨#[61, 61]⟩ a w (fun W hu => hBlt.mono hu) hI rfl (by simp) (two_tsz z0 z1) (two_ok z0 z1) (by kernel_rfl) (by kernel_rfl) (by kernel_rfl) (by kernel_rfl) (Nat.zero_le _)
    (fun W hu => made_two _ a c W (hI.imp hu (fun cs t h => In.mono hu d cs t h)) (Nat.zero_le _) (fun cs cs' V _ h0 h1 => ofTwo_cmp ((cmpS t u == 0)) _ cs cs' V h0 h1 (Nat.zero_le _) z0 z1 (fun W => stands_eq _ _ W (by kernel_rfl)) (by kernel_rfl) (by kernel_rfl) (by kernel_rfl) (by kernel_rfl) (by kernel_rfl) (by kernel_rfl) (by kernel_rfl) (by kernel_rfl) (by kernel_rfl) (by kernel_rfl) (by kernel_rfl) (by kernel_rfl) (by kernel_rfl) (by kernel_rfl) (by kernel_rfl) (by kernel_rfl) (by kernel_rfl) (by kernel_rfl))) rfl (fun t h => by subst h; exact tf_ok _)
theorem call_gt {d D c : Nat} {t u : Tm} (a : Option Addr) (w : World) (hBlt : Blt w) (hI : RowAt (In w d) w a [t, u]) (z0 : okS t = true) (z1 : okS u = true) :
    Calls Tryz.prog 12 #[.string ⟨#[62]⟩, .slice a 2 c] w (TwoQ (D + 1) (fun q => q = tmA (tfS (decide (0 < cmpS t u)))) (fun t => t = tmZ) true w) :=
  Call_val (B := 0) (I := [t, u]) (n := 2) (why := ⟨#[]⟩) ⟨#[62]⟩ a w (fun W hu => hBlt.mono hu) hI rfl (by simp) (two_tsz z0 z1) (two_ok z0 z1) (by kernel_rfl) (by kernel_rfl) (by kernel_rfl) (by kernel_rfl) (Nat.zero_le _)
    (fun W hu => made_two _ a c W (hI.imp hu (fun cs t h => In.mono hu d cs t h)) (Nat.zero_le _) (fun cs cs' V _ h0 h1 => ofTwo_cmp (decide (0 < cmpS t u)) _ cs cs' V h0 h1 (Nat.zero_le _) z0 z1 (fun W => stands_gt _ _ W (by kernel_rfl) (by kernel_rfl) (by kernel_rfl) (by kernel_rfl) (by kernel_rfl) (by kernel_rfl) (by kernel_rfl)) (by kernel_rfl) (by kernel_rfl) (by kernel_rfl) (by kernel_rfl) (by kernel_rfl) (by kernel_rfl) (by kernel_rfl) (by kernel_rfl) (by kernel_rfl) (by kernel_rfl) (by kernel_rfl) (by kernel_rfl) (by kernel_rfl) (by kernel_rfl) (by kernel_rfl) (by kernel_rfl) (by kernel_rfl) (by kernel_rfl))) rfl (fun t h => by subst h; exact tf_ok _)
theorem call_le {d D c : Nat} {t u : Tm} (a : Option Addr) (w : World) (hBlt : Blt w) (hI : RowAt (In w d) w a [t, u]) (z0 : okS t = true) (z1 : okS u = true) :
    Calls Tryz.prog 12 #[.string ⟨#[61, 60]⟩, .slice a 2 c] w (TwoQ (D + 1) (fun q => q = tmA (tfS (decide (cmpS t u ≤ 0)))) (fun t => t = tmZ) true w) :=
  Call_val (B := 0) (I := [t, u]) (n := 2) (why := ⟨#[]⟩) ⟨#[61, 60]⟩ a w (fun W hu => hBlt.mono hu) hI rfl (by simp) (two_tsz z0 z1) (two_ok z0 z1) (by kernel_rfl) (by kernel_rfl) (by kernel_rfl) (by kernel_rfl) (Nat.zero_le _)
    (fun W hu => made_two _ a c W (hI.imp hu (fun cs t h => In.mono hu d cs t h)) (Nat.zero_le _) (fun cs cs' V _ h0 h1 => ofTwo_cmp (decide (cmpS t u ≤ 0)) _ cs cs' V h0 h1 (Nat.zero_le _) z0 z1 (fun W => stands_le _ _ W (by kernel_rfl) (by kernel_rfl) (by kernel_rfl) (by kernel_rfl) (by kernel_rfl) (by kernel_rfl)) (by kernel_rfl) (by kernel_rfl) (by kernel_rfl) (by kernel_rfl) (by kernel_rfl) (by kernel_rfl) (by kernel_rfl) (by kernel_rfl) (by kernel_rfl) (by kernel_rfl) (by kernel_rfl) (by kernel_rfl) (by kernel_rfl) (by kernel_rfl) (by kernel_rfl) (by kernel_rfl) (by kernel_rfl) (by kernel_rfl))) rfl (fun t h => by subst h; exact tf_ok _)
theorem call_ee {d D c : Nat} {t u : Tm} (a : Option Addr) (w : World) (hBlt : Blt w) (hI : RowAt (In w d) w a [t, u]) (z0 : okS t = true) (z1 : okS u = true) :
    Calls Tryz.prog 12 #[.string ⟨#[61, 58, 61]⟩, .slice a 2 c] w (TwoQ (D + 1) (fun q => q = tmA (tfS ((cmpS t u == 0)))) (fun t => t = tmZ) true w) :=
  Call_val (B := 0) (I := [t, u]) (n := 2) (why := ⟨#[]⟩) ⟨#[61, 58, 61]⟩ a w (fun W hu => hBlt.mono hu) hI rfl (by simp) (two_tsz z0 z1) (two_ok z0 z1) (by kernel_rfl) (by kernel_rfl) (by kernel_rfl) (by kernel_rfl) (Nat.zero_le _)
    (fun W hu => made_two _ a c W (hI.imp hu (fun cs t h => In.mono hu d cs t h)) (Nat.zero_le _) (fun cs cs' V _ h0 h1 => ofTwo_cmp ((cmpS t u == 0)) _ cs cs' V h0 h1 (Nat.zero_le _) z0 z1 (fun W => stands_ee _ _ W (by kernel_rfl) (by kernel_rfl)) (by kernel_rfl) (by kernel_rfl) (by kernel_rfl) (by kernel_rfl) (by kernel_rfl) (by kernel_rfl) (by kernel_rfl) (by kernel_rfl) (by kernel_rfl) (by kernel_rfl) (by kernel_rfl) (by kernel_rfl) (by kernel_rfl) (by kernel_rfl) (by kernel_rfl) (by kernel_rfl) (by kernel_rfl) (by kernel_rfl))) rfl (fun t h => by subst h; exact tf_ok _)
theorem call_ne {d D c : Nat} {t u : Tm} (a : Option Addr) (w : World) (hBlt : Blt w) (hI : RowAt (In w d) w a [t, u]) (z0 : okS t = true) (z1 : okS u = true) :
    Calls Tryz.prog 12 #[.string ⟨#[47, 61]⟩, .slice a 2 c] w (TwoQ (D + 1) (fun q => q = tmA (tfS (!(cmpS t u == 0)))) (fun t => t = tmZ) true w) :=
  Call_val (B := 0) (I := [t, u]) (n := 2) (why := ⟨#[]⟩) ⟨#[47, 61]⟩ a w (fun W hu => hBlt.mono hu) hI rfl (by simp) (two_tsz z0 z1) (two_ok z0 z1) (by kernel_rfl) (by kernel_rfl) (by kernel_rfl) (by kernel_rfl) (Nat.zero_le _)
    (fun W hu => made_two _ a c W (hI.imp hu (fun cs t h => In.mono hu d cs t h)) (Nat.zero_le _) (fun cs cs' V _ h0 h1 => ofTwo_cmp (!(cmpS t u == 0)) _ cs cs' V h0 h1 (Nat.zero_le _) z0 z1 (fun W => stands_ne _ _ W (by kernel_rfl) (by kernel_rfl) (by kernel_rfl)) (by kernel_rfl) (by kernel_rfl) (by kernel_rfl) (by kernel_rfl) (by kernel_rfl) (by kernel_rfl) (by kernel_rfl) (by kernel_rfl) (by kernel_rfl) (by kernel_rfl) (by kernel_rfl) (by kernel_rfl) (by kernel_rfl) (by kernel_rfl) (by kernel_rfl) (by kernel_rfl) (by kernel_rfl) (by kernel_rfl))) rfl (fun t h => by subst h; exact tf_ok _)
theorem call_max {D c : Nat} {t u : Tm} (a : Option Addr) (w : World) (hBlt : Blt w) (hI : RowAt (In w (D + 1)) w a [t, u]) (z0 : okS t = true) (z1 : okS u = true) :
    Calls Tryz.prog 12 #[.string ⟨#[109, 97, 120]⟩, .slice a 2 c] w (TwoQ (D + 1) (fun q => q = if cmpS t u < 0 then u else t) (fun t => t = tmZ) true w) :=
  Call_val (B := w.heap.size) (I := [t, u]) (n := 2) (why := ⟨#[]⟩) ⟨#[109, 97, 120]⟩ a w (fun W hu => hBlt.mono hu) hI rfl (by simp) (two_tsz z0 z1) (two_ok z0 z1) (by kernel_rfl) (by kernel_rfl) (by kernel_rfl) (by kernel_rfl) (Nat.le_refl _)
    (fun W hu => made_twoR (R := fun cs t => InB (fun b => b < w.heap.size) W (D + 1) cs t) _ a c W (hI.imp hu (fun cs t h => In.toB (fun _ hb => hb) hu _ cs t h)) hu.size (fun cs cs' V hv h0 h1 => ofTwo_max _ cs cs' V (InB.upd hv (by simp) (fun _ hb _ => hb) _ _ _ h0) (InB.upd hv (by simp) (fun _ hb _ => hb) _ _ _ h1) (Nat.le_trans hu.size hv.size) (fun cs cs' V' hv' h0 h1 => chosen_max _ cs cs' V' h0 h1 (Nat.le_trans (Nat.le_trans hu.size hv.size) hv'.size) z0 z1 (by kernel_rfl) (by kernel_rfl)) (by kernel_rfl) (by kernel_rfl) (by kernel_rfl) (by kernel_rfl) (by kernel_rfl) (by kernel_rfl) (by kernel_rfl) (by kernel_rfl) (by kernel_rfl))) rfl (fun t h => by subst h; split <;> assumption)
theorem call_min {D c : Nat} {t u : Tm} (a : Option Addr) (w : World) (hBlt : Blt w) (hI : RowAt (In w (D + 1)) w a [t, u]) (z0 : okS t = true) (z1 : okS u = true) :
    Calls Tryz.prog 12 #[.string ⟨#[109, 105, 110]⟩, .slice a 2 c] w (TwoQ (D + 1) (fun q => q = if 0 < cmpS t u then u else t) (fun t => t = tmZ) true w) :=
  Call_val (B := w.heap.size) (I := [t, u]) (n := 2) (why := ⟨#[]⟩) ⟨#[109, 105, 110]⟩ a w (fun W hu => hBlt.mono hu) hI rfl (by simp) (two_tsz z0 z1) (two_ok z0 z1) (by kernel_rfl) (by kernel_rfl) (by kernel_rfl) (by kernel_rfl) (Nat.le_refl _)
    (fun W hu => made_twoR (R := fun cs t => InB (fun b => b < w.heap.size) W (D + 1) cs t) _ a c W (hI.imp hu (fun cs t h => In.toB (fun _ hb => hb) hu _ cs t h)) hu.size (fun cs cs' V hv h0 h1 => ofTwo_min _ cs cs' V (InB.upd hv (by simp) (fun _ hb _ => hb) _ _ _ h0) (InB.upd hv (by simp) (fun _ hb _ => hb) _ _ _ h1) (Nat.le_trans hu.size hv.size) (fun cs cs' V' hv' h0 h1 => chosen_min _ cs cs' V' h0 h1 (Nat.le_trans (Nat.le_trans hu.size hv.size) hv'.size) z0 z1 (by kernel_rfl) (by kernel_rfl)) (by kernel_rfl) (by kernel_rfl) (by kernel_rfl) (by kernel_rfl) (by kernel_rfl) (by kernel_rfl) (by kernel_rfl) (by kernel_rfl) (by kernel_rfl) (by kernel_rfl))) rfl (fun t h => by subst h; split <;> assumption)

set_option maxHeartbeats 2000000 in
set_option maxRecDepth 100000 in
theorem yes_in {d n c : Nat} {r : Bool} (s : ByteArray) (a : Option Addr) (w : World) (hC : ∀ W, Upd [] w W → Calls Tryz.prog 9 #[.string s, .slice a n c] W (CalQ (d + 1) (fun q => q = tmA (tfS r)) true W)) :
    Calls Tryz.prog 8 #[.string s, .slice a n c] w fun e w' => e = .returned (.bool r) ∧ Upd [] w w' := by
  have HC : Hid (∀ W, Upd [] w W → Calls Tryz.prog 9 #[.string s, .slice a n c] W (CalQ (d + 1) (fun q => q = tmA (tfS r)) true W)) := hC
  clear hC
  have k1 : (tfS r == ⟨#[116, 114, 117, 101]⟩) = r := by cases r <;> kernel_rfl
  have k2 : ((tfS r).toList == (⟨#[116, 114, 117, 101]⟩ : ByteArray).toList) = r := by cases r <;> kernel_rfl
  have HK : Hid _ := And.intro k1 k2
  clear k1 k2
  go_enter Tryz.func8, Tryz.ntmps8
  go_wp2_with fail
  refine Calls.mono (HC.out _ (Upd.refl [] w)) ?_
  rintro e w1 ⟨cs, v, l1, rfl, hin, rfl, u1⟩
  have o1 := hin.plain.one
  obtain ⟨q0, q1, q2, q3, q4, q5, q6, rfl⟩ := list7 l1
  have HIN : Hid (In w1 (d + 1) [q0, q1, q2, q3, q4, q5, q6] (tmA (tfS r))) := hin.plain
  have U1 : Hid (Upd [] w w1) := u1
  have tz : Tb (w1.alloc (.cells #[.int .u8 0, .bool false, .slice none 0 0, .string ⟨#[]⟩, .int .i64 0, .slice none 0 0, .slice none 0 0] 26)) w1.heap.size #[.int .u8 0, .bool false, .slice none 0 0, .string ⟨#[]⟩, .int .i64 0, .slice none 0 0, .slice none 0 0] := Tb.new _ _ _ rfl
  clear hin u1 l1
  go_wp2_with (first | (refine store_T _ rfl _ _ rfl _ #[q0, q1, q2, q3, q4, q5, q6] _ rfl rfl tz rfl rfl o1 ?_; intro w2 hT2 hU2; have V2 : Hid (Upd [] w1 w2) := ((Upd.refl [] w1).alloc _).then hU2 (by simp)) | (refine load_G _ _ rfl _ _ rfl hT2 rfl rfl ?_) | fail)
  refine Calls.mono (is_atom (tfS r) ⟨#[116, 114, 117, 101]⟩ _ w2 r (In.mono V2.out _ _ _ HIN.out) HK.out.1 HK.out.2) ?_
  rintro e w3 ⟨rfl, u3⟩
  have U3 : Hid (Upd [] w w3) := (U1.out.trans V2.out).trans u3
  clear u3 hT2 hU2 tz
  go_wp2
  go_ret
  exact ⟨rfl, U3.out⟩

theorem yes_lt {d c : Nat} {t u : Tm} {r : Bool} (a : Option Addr) (w : World) (hBlt : Blt w) (hI : RowAt (In w d) w a [t, u]) (z0 : okS t = true) (z1 : okS u = true) (hr : (decide (cmpS t u < 0)) = r) :
    Calls Tryz.prog 8 #[.string ⟨#[60]⟩, .slice a 2 c] w fun e w' => e = .returned (.bool r) ∧ Upd [] w w' := by
  subst hr
  exact yes_in (d := 0) _ a w (fun W hu => lcall_in (Q := fun t => t = tmZ) (ok := true) (kq := 0) _ a W (fun t h => by subst h; rfl) (fun V hv => call_lt a V (hBlt.mono (hu.trans hv)) (hI.imp (hu.trans hv) (fun cs t h => In.mono (hu.trans hv) d cs t h)) z0 z1) true rfl)
theorem yes_eq {d c : Nat} {t u : Tm} {r : Bool} (a : Option Addr) (w : World) (hBlt : Blt w) (hI : RowAt (In w d) w a [t, u]) (z0 : okS t = true) (z1 : okS u = true) (hr : ((cmpS t u == 0)) = r) :
    Calls Tryz.prog 8 #[.string ⟨#[61, 61]⟩, .slice a 2 c] w fun e w' => e = .returned (.bool r) ∧ Upd [] w w' := by
  subst hr
  exact yes_in (d := 0) _ a w (fun W hu => lcall_in (Q := fun t => t = tmZ) (ok := true) (kq := 0) _ a W (fun t h => by subst h; rfl) (fun V hv => call_eq a V (hBlt.mono (hu.trans hv)) (hI.imp (hu.trans hv) (fun cs t h => In.mono (hu.trans hv) d cs t h)) z0 z1) true rfl)
theorem yes_gt {d c : Nat} {t u : Tm} {r : Bool} (a : Option Addr) (w : World) (hBlt : Blt w) (hI : RowAt (In w d) w a [t, u]) (z0 : okS t = true) (z1 : okS u = true) (hr : (decide (0 < cmpS t u)) = r) :
    Calls Tryz.prog 8 #[.string ⟨#[62]⟩, .slice a 2 c] w fun e w' => e = .returned (.bool r) ∧ Upd [] w w' := by
  subst hr
  exact yes_in (d := 0) _ a w (fun W hu => lcall_in (Q := fun t => t = tmZ) (ok := true) (kq := 0) _ a W (fun t h => by subst h; rfl) (fun V hv => call_gt a V (hBlt.mono (hu.trans hv)) (hI.imp (hu.trans hv) (fun cs t h => In.mono (hu.trans hv) d cs t h)) z0 z1) true rfl)
theorem yes_le {d c : Nat} {t u : Tm} {r : Bool} (a : Option Addr) (w : World) (hBlt : Blt w) (hI : RowAt (In w d) w a [t, u]) (z0 : okS t = true) (z1 : okS u = true) (hr : (decide (cmpS t u ≤ 0)) = r) :
    Calls Tryz.prog 8 #[.string ⟨#[61, 60]⟩, .slice a 2 c] w fun e w' => e = .returned (.bool r) ∧ Upd [] w w' := by
  subst hr
  exact yes_in (d := 0) _ a w (fun W hu => lcall_in (Q := fun t => t = tmZ) (ok := true) (kq := 0) _ a W (fun t h => by subst h; rfl) (fun V hv => call_le a V (hBlt.mono (hu.trans hv)) (hI.imp (hu.trans hv) (fun cs t h => In.mono (hu.trans hv) d cs t h)) z0 z1) true rfl)
theorem yes_ee {d c : Nat} {t u : Tm} {r : Bool} (a : Option Addr) (w : World) (hBlt : Blt w) (hI : RowAt (In w d) w a [t, u]) (z0 : okS t = true) (z1 : okS u = true) (hr : ((cmpS t u == 0)) = r) :
    Calls Tryz.prog 8 #[.string ⟨#[61, 58, 61]⟩, .slice a 2 c] w fun e w' => e = .returned (.bool r) ∧ Upd [] w w' := by
  subst hr
  exact yes_in (d := 0) _ a w (fun W hu => lcall_in (Q := fun t => t = tmZ) (ok := true) (kq := 0) _ a W (fun t h => by subst h; rfl) (fun V hv => call_ee a V (hBlt.mono (hu.trans hv)) (hI.imp (hu.trans hv) (fun cs t h => In.mono (hu.trans hv) d cs t h)) z0 z1) true rfl)
theorem yes_ne {d c : Nat} {t u : Tm} {r : Bool} (a : Option Addr) (w : World) (hBlt : Blt w) (hI : RowAt (In w d) w a [t, u]) (z0 : okS t = true) (z1 : okS u = true) (hr : (!(cmpS t u == 0)) = r) :
    Calls Tryz.prog 8 #[.string ⟨#[47, 61]⟩, .slice a 2 c] w fun e w' => e = .returned (.bool r) ∧ Upd [] w w' := by
  subst hr
  exact yes_in (d := 0) _ a w (fun W hu => lcall_in (Q := fun t => t = tmZ) (ok := true) (kq := 0) _ a W (fun t h => by subst h; rfl) (fun V hv => call_ne a V (hBlt.mono (hu.trans hv)) (hI.imp (hu.trans hv) (fun cs t h => In.mono (hu.trans hv) d cs t h)) z0 z1) true rfl)
theorem lc_max {D c : Nat} {t u v : Tm} (a : Option Addr) (w : World) (hBlt : Blt w) (hI : RowAt (In w (D + 1)) w a [t, u]) (z0 : okS t = true) (z1 : okS u = true) (hv : (if cmpS t u < 0 then u else t) = v) :
    Calls Tryz.prog 9 #[.string ⟨#[109, 97, 120]⟩, .slice a 2 c] w (CalQ (D + 1) (fun q => q = v) true w) := by
  subst hv
  exact lcall_in (Q := fun t => t = tmZ) (ok := true) (kq := 0) _ a w (fun t h => by subst h; rfl) (fun W hu => call_max a W (hBlt.mono hu) (hI.imp hu (fun cs t h => In.mono hu (D + 1) cs t h)) z0 z1) true rfl
theorem lc_min {D c : Nat} {t u v : Tm} (a : Option Addr) (w : World) (hBlt : Blt w) (hI : RowAt (In w (D + 1)) w a [t, u]) (z0 : okS t = true) (z1 : okS u = true) (hv : (if 0 < cmpS t u then u else t) = v) :
    Calls Tryz.prog 9 #[.string ⟨#[109, 105, 110]⟩, .slice a 2 c] w (CalQ (D + 1) (fun q => q = v) true w) := by
  subst hv
  exact lcall_in (Q := fun t => t = tmZ) (ok := true) (kq := 0) _ a w (fun t h => by subst h; rfl) (fun W hu => call_min a W (hBlt.mono hu) (hI.imp hu (fun cs t h => In.mono hu (D + 1) cs t h)) z0 z1) true rfl

end Go.Proofs.YtnpocmhaoaigfaaGreatDoor

/- Operations of regions that draw, for truths. -/
namespace Go.Proofs.YtnpocmhaoaigfaaGreatDoor
open Go.RowKit

theorem wanted_no {ops : Array Oper} {o : Oper} {j d : Nat} {want : Bool} {tmps : Array Value} (hg : o.guard = some (j, want)) (hd : (ops[j]?).bind (·.dst) = some d) (hv : tmps.getD d undef = undef) : Region.wanted o (yielded ops tmps) = false := by
  have h1 : yielded ops tmps j = none := by
    unfold yielded
    rw [hd]
    simp only [Option.bind_some]
    rw [Array.getD_eq_getD_getElem?] at hv
    cases ht : tmps[d]? with
    | none => rfl
    | some v => rw [ht] at hv; simp at hv; rw [hv]; rfl
  unfold Region.wanted
  rw [hg]
  simp only [h1]
  first | rfl | simp
theorem wp_eqlI {o : Oper} {a : Act} {w : World} {K : Act → World → Prop} {Q : Exit → Act → World → Prop} (x y : Operand) (ho : o.op = .binOp .eql 3 x y 3) (n m : Int) (hx : a.eval x = .int .i64 n) (hy : a.eval y = .int .i64 m) (h : K (a.put o.dst (.bool (n == m))) w) : o.wp Tryz.prog a w K Q := by
  refine wp_pure ?_ h
  unfold execOp
  simp only [ho, hx, hy]
  simp [go_sem]
theorem wp_eql2B {o : Oper} {a : Act} {w : World} {K : Act → World → Prop} {Q : Exit → Act → World → Prop} (x y : Operand) {ty : TypeId} (ho : o.op = .binOp .eql 4 x y ty) (b c : Bool) (hx : a.eval x = .bool b) (hy : a.eval y = .bool c) (h : K (a.put o.dst (.bool (b == c))) w) : o.wp Tryz.prog a w K Q := by
  refine wp_pure ?_ h
  unfold execOp
  simp only [ho, hx, hy]
  simp [go_sem, Tryz.underlying4]
theorem wp_neqB {o : Oper} {a : Act} {w : World} {K : Act → World → Prop} {Q : Exit → Act → World → Prop} (x y : Operand) {ty : TypeId} (ho : o.op = .binOp .neq 4 x y ty) (b c : Bool) (hx : a.eval x = .bool b) (hy : a.eval y = .bool c) (h : K (a.put o.dst (.bool (!(b == c)))) w) : o.wp Tryz.prog a w K Q := by
  refine wp_pure ?_ h
  unfold execOp
  simp only [ho, hx, hy]
  simp [go_sem, Tryz.underlying4]
theorem wp_not {o : Oper} {a : Act} {w : World} {K : Act → World → Prop} {Q : Exit → Act → World → Prop} (x : Operand) (ho : o.op = .unOp .not 4 x) (z : Bool) (hx : a.eval x = .bool z) (h : K (a.put o.dst (.bool (!z))) w) : o.wp Tryz.prog a w K Q := by
  refine wp_pure ?_ h
  unfold execOp
  simp only [ho, hx]
  simp [go_sem]
theorem wp_pickT {o : Oper} {a : Act} {w : World} {K : Act → World → Prop} {Q : Exit → Act → World → Prop} (c x y : Operand) (ho : o.op = .pick c x y) (hc : a.eval c = .bool true) (v : Value) (hx : a.eval x = v) (h : K (a.put o.dst v) w) : o.wp Tryz.prog a w K Q := by
  refine wp_pure ?_ h
  unfold execOp
  simp only [ho, hc, hx]
  simp [asBool]
theorem wp_pickF {o : Oper} {a : Act} {w : World} {K : Act → World → Prop} {Q : Exit → Act → World → Prop} (c x y : Operand) (ho : o.op = .pick c x y) (hc : a.eval c = .bool false) (v : Value) (hy : a.eval y = v) (h : K (a.put o.dst v) w) : o.wp Tryz.prog a w K Q := by
  refine wp_pure ?_ h
  unfold execOp
  simp only [ho, hc, hy]
  simp [asBool]
/-- What is returned behind a region that has put a truth. -/
theorem put_end {fn : Func} {R : Ending → World → Prop} {a0 : Act} {w : World} {ds : List (Option Nat)} {vs : List Value} {i t : Nat} (hr : fn.results = #[.tmp t]) (h0 : a0.defers = []) (hl : vs.length = ds.length) (hd : ds.Pairwise fun a b => a = none ∨ a ≠ b) (hi : ds[i]? = some (some t)) (hz : t < a0.tmps.size) (hv : vs.getD i undef = .bool true) (hR : R (.returned (.bool true)) w) : bodyPost Tryz.prog fn R .ret (putAll a0 ds vs) w := by
  refine bodyPost_ret (results_tmp hr _ _ _) ((putAll_def ds vs a0).trans h0) ?_
  rw [putAll_on ds vs a0 i t hl hd hi hz, hv]
  exact hR
theorem wp_ret_end {Q : Exit → Act → World → Prop} {a : Act} {w : World} (h : Q .ret a w) : Code.ret.wp Tryz.prog Q a w := by
  first | exact h | (unfold Code.wp; exact h) | (simp only [Code.wp]; exact h) | (rw [Code.wp_ret]; exact h) | (go_wp2; exact h)
theorem wp_asg {o : Oper} {a : Act} {w : World} {K : Act → World → Prop} {Q : Exit → Act → World → Prop} (x : Operand) (ho : o.op = .assign x) (v : Value) (hx : a.eval x = v) (h : K (a.put o.dst v) w) : o.wp Tryz.prog a w K Q := by
  refine wp_pure ?_ h
  unfold execOp
  simp only [ho, hx]
  rfl

end Go.Proofs.YtnpocmhaoaigfaaGreatDoor

/- BifOrder, walked. -/
namespace Go.Proofs.YtnpocmhaoaigfaaGreatDoor
open Go.RowKit

set_option maxHeartbeats 4000000 in
set_option maxRecDepth 100000 in
theorem Order_no (w : World) (d : Nat) (cs0 cs1 : List Value) (t u : Tm) (hB : Blt w) (h0 : In w (d + 1) cs0 t) (h1 : In w (d + 1) cs1 u) (z0 : tsz t ≤ 1353245080330) (z1 : tsz u ≤ 1353245080330) (o0 o1 : Bool) (e0 : okS t = o0) (e1 : okS u = o1) (hno : (o0 && o1) = false) :
    Calls Tryz.prog 3 #[.agg cs0.toArray, .agg cs1.toArray] w fun e w' => e = .returned (.bool true) ∧ Upd [] w w' := by
  obtain ⟨k1, m1, g1, s1, a11, a12, a13, n11, n12, n13, c11, c12, c13, rfl⟩ := In.shape h0
  obtain ⟨k2, m2, g2, s2, a21, a22, a23, n21, n22, n23, c21, c22, c23, rfl⟩ := In.shape h1
  have HO : Hid (okS t = o0 ∧ okS u = o1) := ⟨e0, e1⟩
  have HN : Hid ((o0 && o1) = false) := hno
  clear e0 e1 hno
  have HB : Hid (Blt w) := hB
  have H0 : Hid (In w (d + 1) [.int .u8 k1, .bool g1, .slice a11 n11 c11, .string s1, .int .i64 m1, .slice a12 n12 c12, .slice a13 n13 c13] t) := h0
  have H1 : Hid (In w (d + 1) [.int .u8 k2, .bool g2, .slice a21 n21 c21, .string s2, .int .i64 m2, .slice a22 n22 c22, .slice a23 n23 c23] u) := h1
  have Z : Hid (tsz t ≤ 1353245080330 ∧ tsz u ≤ 1353245080330) := ⟨z0, z1⟩
  have ROW : Hid (∀ W g, Upd [] w W → Tb W g #[.int .u8 k1, .bool g1, .slice a11 n11 c11, .string s1, .int .i64 m1, .slice a12 n12 c12, .slice a13 n13 c13, .int .u8 k2, .bool g2, .slice a21 n21 c21, .string s2, .int .i64 m2, .slice a22 n22 c22, .slice a23 n23 c23] → RowAt (In W (d + 1)) W (some ⟨g, 0, none⟩) [t, u]) := fun W g hu hT => row_two hT (In.mono hu _ _ _ h0) (In.mono hu _ _ _ h1)
  have SM : Hid (∀ W g, Upd [] w W → Tb W g #[.int .u8 k1, .bool g1, .slice a11 n11 c11, .string s1, .int .i64 m1, .slice a12 n12 c12, .slice a13 n13 c13, .int .u8 k2, .bool g2, .slice a21 n21 c21, .string s2, .int .i64 m2, .slice a22 n22 c22, .slice a23 n23 c23] → Calls Tryz.prog 6 #[.slice (some ⟨g, 0, none⟩) 2 2] W fun e w' => IsBool e ∧ Upd [] W w') := fun W g hu hT => small_in (d + 1) W _ 2 [t, u] (ROW.out W g hu hT) (tszs_le _ _ (by simp) (fun i hi => by
    have : i = 0 ∨ i = 1 := by simp at hi; omega
    rcases this with rfl | rfl
    · exact z0
    · exact z1))
  have tA : Tb ((w.alloc (.cells #[.int .u8 k1, .bool g1, .slice a11 n11 c11, .string s1, .int .i64 m1, .slice a12 n12 c12, .slice a13 n13 c13] 26)).alloc (.cells #[.int .u8 k2, .bool g2, .slice a21 n21 c21, .string s2, .int .i64 m2, .slice a22 n22 c22, .slice a23 n23 c23] 26)) w.heap.size #[.int .u8 k1, .bool g1, .slice a11 n11 c11, .string s1, .int .i64 m1, .slice a12 n12 c12, .slice a13 n13 c13] := (Tb.new _ _ _ rfl).old _
  have tB : Tb ((w.alloc (.cells #[.int .u8 k1, .bool g1, .slice a11 n11 c11, .string s1, .int .i64 m1, .slice a12 n12 c12, .slice a13 n13 c13] 26)).alloc (.cells #[.int .u8 k2, .bool g2, .slice a21 n21 c21, .string s2, .int .i64 m2, .slice a22 n22 c22, .slice a23 n23 c23] 26)) (w.heap.size + 1) #[.int .u8 k2, .bool g2, .slice a21 n21 c21, .string s2, .int .i64 m2, .slice a22 n22 c22, .slice a23 n23 c23] := Tb.new _ _ _ (by simp)
  have HU0 : Hid (Upd [] w ((w.alloc (.cells #[.int .u8 k1, .bool g1, .slice a11 n11 c11, .string s1, .int .i64 m1, .slice a12 n12 c12, .slice a13 n13 c13] 26)).alloc (.cells #[.int .u8 k2, .bool g2, .slice a21 n21 c21, .string s2, .int .i64 m2, .slice a22 n22 c22, .slice a23 n23 c23] 26))) := ((Upd.refl [] w).alloc _).alloc _
  clear h0 h1 hB z0 z1
  go_enter Tryz.func3, Tryz.ntmps3
  go_wp2_with fail
  refine Calls.mono (awake_any _ (HB.out.mono HU0.out)) ?_
  rintro e w1 ⟨rfl, v1⟩
  have U1 : Hid (Upd [] w w1) := HU0.out.trans v1
  have tA1 := tA.mono v1 (by simp)
  have tB1 := tB.mono v1 (by simp)
  clear v1 tA tB HU0
  go_wp2_with (first | (refine load_G _ _ rfl _ _ rfl tA1 rfl rfl ?_) | (refine load_G _ _ rfl _ _ rfl tB1 rfl rfl ?_) | fail)
  refine Calls.mono (SM.out _ _ (U1.out.alloc _) (Tb.new _ _ _ rfl)) ?_
  rintro e w2 ⟨⟨g, rfl⟩, v2⟩
  have hv : Upd [] w1 w2 := Upd.trans ((Upd.refl [] w1).alloc _) v2
  have U2 : Hid (Upd [] w w2) := U1.out.trans hv
  have tA2 := tA1.mono hv (by simp)
  have tB2 := tB1.mono hv (by simp)
  clear v2 hv tA1 tB1 U1 SM
  cases g with
  | false =>
    clear tA2 tB2
    go_wp2
    go_ret
    exact ⟨rfl, U2.out⟩
  | true =>
  have RA : Hid (∀ W, Upd [] w W → Calls Tryz.prog 7 #[.agg #[.int .u8 k1, .bool g1, .slice a11 n11 c11, .string s1, .int .i64 m1, .slice a12 n12 c12, .slice a13 n13 c13]] W fun e w' => e = .returned (.bool o0) ∧ Upd [] W w') := fun W hu => by rw [← HO.out.1]; exact TRight_in (d + 1) W _ t (In.mono hu _ _ _ H0.out) Z.out.1
  have RB : Hid (∀ W, Upd [] w W → Calls Tryz.prog 7 #[.agg #[.int .u8 k2, .bool g2, .slice a21 n21 c21, .string s2, .int .i64 m2, .slice a22 n22 c22, .slice a23 n23 c23]] W fun e w' => e = .returned (.bool o1) ∧ Upd [] W w') := fun W hu => by rw [← HO.out.2]; exact TRight_in (d + 1) W _ u (In.mono hu _ _ _ H1.out) Z.out.2
  go_wp2_with (first | (refine load_G _ _ rfl _ _ rfl tA2 rfl rfl ?_) | fail)
  refine Calls.mono (RA.out _ U2.out) ?_
  rintro e w3 ⟨rfl, v3⟩
  have U3 : Hid (Upd [] w w3) := U2.out.trans v3
  have tA3 := tA2.mono v3 (by simp)
  have tB3 := tB2.mono v3 (by simp)
  clear v3 tA2 tB2 U2 RA
  cases o0 with
  | false =>
    clear tA3 tB3
    go_wp2
    go_ret
    exact ⟨rfl, U3.out⟩
  | true =>
    obtain rfl : o1 = false := HN.out
    go_wp2_with (first | (refine load_G _ _ rfl _ _ rfl tB3 rfl rfl ?_) | fail)
    refine Calls.mono (RB.out _ U3.out) ?_
    rintro e w4 ⟨rfl, v4⟩
    have U4 : Hid (Upd [] w w4) := U3.out.trans v4
    clear v4 tA3 tB3 U3 RB
    go_wp2
    go_ret
    exact ⟨rfl, U4.out⟩

end Go.Proofs.YtnpocmhaoaigfaaGreatDoor

/- BifOrder, walked. -/
namespace Go.Proofs.YtnpocmhaoaigfaaGreatDoor
open Go.RowKit

set_option maxHeartbeats 16000000 in
set_option maxRecDepth 100000 in
theorem Order_lt (w : World) (d : Nat) (cs0 cs1 : List Value) (t u : Tm) (hB : Blt w) (h0 : In w (d + 1) cs0 t) (h1 : In w (d + 1) cs1 u) (z0 : tsz t ≤ 1353245080330) (z1 : tsz u ≤ 1353245080330) (e0 : okS t = true) (e1 : okS u = true) (hc : cmpS t u = -1) (hyx : decide (cmpS t u ≤ 0) = true) (hXA : samS u t = false) (hXB : samS u u = true) (hYA : samS t t = true) :
    Calls Tryz.prog 3 #[.agg cs0.toArray, .agg cs1.toArray] w fun e w' => e = .returned (.bool true) ∧ Upd [] w w' := by
  obtain ⟨k1, m1, g1, s1, a11, a12, a13, n11, n12, n13, c11, c12, c13, rfl⟩ := In.shape h0
  obtain ⟨k2, m2, g2, s2, a21, a22, a23, n21, n22, n23, c21, c22, c23, rfl⟩ := In.shape h1
  obtain ⟨o0, ho0⟩ : ∃ o, o = true := ⟨_, rfl⟩
  obtain ⟨o1, ho1⟩ : ∃ o, o = true := ⟨_, rfl⟩
  have HO : Hid (okS t = o0 ∧ okS u = o1) := by rw [ho0, ho1]; exact ⟨e0, e1⟩
  have HC : Hid (cmpS t u = -1) := hc
  clear e0 e1 hc
  have HYX : Hid (decide (cmpS t u ≤ 0) = true) := hyx
  have HXA : Hid (samS u t = false) := hXA
  have HXB : Hid (samS u u = true) := hXB
  have HYA : Hid (samS t t = true) := hYA
  clear hyx hXA hXB hYA
  have HB : Hid (Blt w) := hB
  have H0 : Hid (In w (d + 1) [.int .u8 k1, .bool g1, .slice a11 n11 c11, .string s1, .int .i64 m1, .slice a12 n12 c12, .slice a13 n13 c13] t) := h0
  have H1 : Hid (In w (d + 1) [.int .u8 k2, .bool g2, .slice a21 n21 c21, .string s2, .int .i64 m2, .slice a22 n22 c22, .slice a23 n23 c23] u) := h1
  have Z : Hid (tsz t ≤ 1353245080330 ∧ tsz u ≤ 1353245080330) := ⟨z0, z1⟩
  have ROW : Hid (∀ W g, Upd [] w W → Tb W g #[.int .u8 k1, .bool g1, .slice a11 n11 c11, .string s1, .int .i64 m1, .slice a12 n12 c12, .slice a13 n13 c13, .int .u8 k2, .bool g2, .slice a21 n21 c21, .string s2, .int .i64 m2, .slice a22 n22 c22, .slice a23 n23 c23] → RowAt (In W (d + 1)) W (some ⟨g, 0, none⟩) [t, u]) := fun W g hu hT => row_two hT (In.mono hu _ _ _ h0) (In.mono hu _ _ _ h1)
  have SM : Hid (∀ W g, Upd [] w W → Tb W g #[.int .u8 k1, .bool g1, .slice a11 n11 c11, .string s1, .int .i64 m1, .slice a12 n12 c12, .slice a13 n13 c13, .int .u8 k2, .bool g2, .slice a21 n21 c21, .string s2, .int .i64 m2, .slice a22 n22 c22, .slice a23 n23 c23] → Calls Tryz.prog 6 #[.slice (some ⟨g, 0, none⟩) 2 2] W fun e w' => IsBool e ∧ Upd [] W w') := fun W g hu hT => small_in (d + 1) W _ 2 [t, u] (ROW.out W g hu hT) (tszs_le _ _ (by simp) (fun i hi => by
    have : i = 0 ∨ i = 1 := by simp at hi; omega
    rcases this with rfl | rfl
    · exact z0
    · exact z1))
  have tA : Tb ((w.alloc (.cells #[.int .u8 k1, .bool g1, .slice a11 n11 c11, .string s1, .int .i64 m1, .slice a12 n12 c12, .slice a13 n13 c13] 26)).alloc (.cells #[.int .u8 k2, .bool g2, .slice a21 n21 c21, .string s2, .int .i64 m2, .slice a22 n22 c22, .slice a23 n23 c23] 26)) w.heap.size #[.int .u8 k1, .bool g1, .slice a11 n11 c11, .string s1, .int .i64 m1, .slice a12 n12 c12, .slice a13 n13 c13] := (Tb.new _ _ _ rfl).old _
  have tB : Tb ((w.alloc (.cells #[.int .u8 k1, .bool g1, .slice a11 n11 c11, .string s1, .int .i64 m1, .slice a12 n12 c12, .slice a13 n13 c13] 26)).alloc (.cells #[.int .u8 k2, .bool g2, .slice a21 n21 c21, .string s2, .int .i64 m2, .slice a22 n22 c22, .slice a23 n23 c23] 26)) (w.heap.size + 1) #[.int .u8 k2, .bool g2, .slice a21 n21 c21, .string s2, .int .i64 m2, .slice a22 n22 c22, .slice a23 n23 c23] := Tb.new _ _ _ (by simp)
  have HU0 : Hid (Upd [] w ((w.alloc (.cells #[.int .u8 k1, .bool g1, .slice a11 n11 c11, .string s1, .int .i64 m1, .slice a12 n12 c12, .slice a13 n13 c13] 26)).alloc (.cells #[.int .u8 k2, .bool g2, .slice a21 n21 c21, .string s2, .int .i64 m2, .slice a22 n22 c22, .slice a23 n23 c23] 26))) := ((Upd.refl [] w).alloc _).alloc _
  clear h0 h1 hB z0 z1
  go_enter Tryz.func3, Tryz.ntmps3
  go_wp2_with fail
  refine Calls.mono (awake_any _ (HB.out.mono HU0.out)) ?_
  rintro e w1 ⟨rfl, v1⟩
  have U1 : Hid (Upd [] w w1) := HU0.out.trans v1
  have tA1 := tA.mono v1 (by simp)
  have tB1 := tB.mono v1 (by simp)
  clear v1 tA tB HU0
  go_wp2_with (first | (refine load_G _ _ rfl _ _ rfl tA1 rfl rfl ?_) | (refine load_G _ _ rfl _ _ rfl tB1 rfl rfl ?_) | fail)
  refine Calls.mono (SM.out _ _ (U1.out.alloc _) (Tb.new _ _ _ rfl)) ?_
  rintro e w2 ⟨⟨g, rfl⟩, v2⟩
  have hv : Upd [] w1 w2 := Upd.trans ((Upd.refl [] w1).alloc _) v2
  have U2 : Hid (Upd [] w w2) := U1.out.trans hv
  have tA2 := tA1.mono hv (by simp)
  have tB2 := tB1.mono hv (by simp)
  clear v2 hv tA1 tB1 U1 SM
  cases g with
  | false =>
    clear tA2 tB2
    go_wp2
    go_ret
    exact ⟨rfl, U2.out⟩
  | true =>
  have RA : Hid (∀ W, Upd [] w W → Calls Tryz.prog 7 #[.agg #[.int .u8 k1, .bool g1, .slice a11 n11 c11, .string s1, .int .i64 m1, .slice a12 n12 c12, .slice a13 n13 c13]] W fun e w' => e = .returned (.bool o0) ∧ Upd [] W w') := fun W hu => by rw [← HO.out.1]; exact TRight_in (d + 1) W _ t (In.mono hu _ _ _ H0.out) Z.out.1
  have RB : Hid (∀ W, Upd [] w W → Calls Tryz.prog 7 #[.agg #[.int .u8 k2, .bool g2, .slice a21 n21 c21, .string s2, .int .i64 m2, .slice a22 n22 c22, .slice a23 n23 c23]] W fun e w' => e = .returned (.bool o1) ∧ Upd [] W w') := fun W hu => by rw [← HO.out.2]; exact TRight_in (d + 1) W _ u (In.mono hu _ _ _ H1.out) Z.out.2
  go_wp2_with (first | (refine load_G _ _ rfl _ _ rfl tA2 rfl rfl ?_) | fail)
  refine Calls.mono (RA.out _ U2.out) ?_
  rintro e w3 ⟨rfl, v3⟩
  have U3 : Hid (Upd [] w w3) := U2.out.trans v3
  have tA3 := tA2.mono v3 (by simp)
  have tB3 := tB2.mono v3 (by simp)
  clear v3 tA2 tB2 U2 RA
  subst ho0
  subst ho1
  go_wp2_with (first | (refine load_G _ _ rfl _ _ rfl tB3 rfl rfl ?_) | fail)
  refine Calls.mono (RB.out _ U3.out) ?_
  rintro e w4 ⟨rfl, v4⟩
  have U4 : Hid (Upd [] w w4) := U3.out.trans v4
  have tA4 := tA3.mono v4 (by simp)
  have tB4 := tB3.mono v4 (by simp)
  clear v4 tA3 tB3 U3 RB
  go_wp2_with (first | (refine load_G _ _ rfl _ _ rfl tA4 rfl rfl ?_) | (refine load_G _ _ rfl _ _ rfl tB4 rfl rfl ?_) | fail)
  refine Calls.mono (yes_lt (r := true) _ _ (HB.out.mono (U4.out.alloc _)) (ROW.out _ _ (U4.out.alloc _) (Tb.new _ _ _ rfl)) HO.out.1 HO.out.2 (by rw [HC.out]; decide)) ?_
  rintro e w5 ⟨rfl, vv⟩
  have hv : Upd [] w4 w5 := Upd.trans ((Upd.refl [] w4).alloc _) vv
  have U5 : Hid (Upd [] w w5) := U4.out.trans hv
  have tA5 := tA4.mono hv (by simp)
  have tB5 := tB4.mono hv (by simp)
  clear vv hv tA4 tB4 U4
  go_wp2_with (first | (refine load_G _ _ rfl _ _ rfl tA5 rfl rfl ?_) | (refine load_G _ _ rfl _ _ rfl tB5 rfl rfl ?_) | fail)
  refine Calls.mono (yes_eq (r := false) _ _ (HB.out.mono (U5.out.alloc _)) (ROW.out _ _ (U5.out.alloc _) (Tb.new _ _ _ rfl)) HO.out.1 HO.out.2 (by rw [HC.out]; decide)) ?_
  rintro e w6 ⟨rfl, vv⟩
  have hv : Upd [] w5 w6 := Upd.trans ((Upd.refl [] w5).alloc _) vv
  have U6 : Hid (Upd [] w w6) := U5.out.trans hv
  have tA6 := tA5.mono hv (by simp)
  have tB6 := tB5.mono hv (by simp)
  clear vv hv tA5 tB5 U5
  go_wp2_with (first | (refine load_G _ _ rfl _ _ rfl tA6 rfl rfl ?_) | (refine load_G _ _ rfl _ _ rfl tB6 rfl rfl ?_) | fail)
  refine Calls.mono (yes_gt (r := false) _ _ (HB.out.mono (U6.out.alloc _)) (ROW.out _ _ (U6.out.alloc _) (Tb.new _ _ _ rfl)) HO.out.1 HO.out.2 (by rw [HC.out]; decide)) ?_
  rintro e w7 ⟨rfl, vv⟩
  have hv : Upd [] w6 w7 := Upd.trans ((Upd.refl [] w6).alloc _) vv
  have U7 : Hid (Upd [] w w7) := U6.out.trans hv
  have tA7 := tA6.mono hv (by simp)
  have tB7 := tB6.mono hv (by simp)
  clear vv hv tA6 tB6 U6
  go_wp2_with (first | (refine load_G _ _ rfl _ _ rfl tA7 rfl rfl ?_) | (refine load_G _ _ rfl _ _ rfl tB7 rfl rfl ?_) | fail)
  refine Calls.mono (lc_max (v := u) _ _ (HB.out.mono (U7.out.alloc _)) (ROW.out _ _ (U7.out.alloc _) (Tb.new _ _ _ rfl)) HO.out.1 HO.out.2 (by rw [HC.out]; rfl)) ?_
  rintro e w8 ⟨cs, v, l7, rfl, hin, hveq, vv⟩
  rw [hveq] at hin
  have hv : Upd [] w7 w8 := Upd.trans ((Upd.refl [] w7).alloc _) vv
  have on8 := hin.plain.one
  obtain ⟨k3, m3, g3, s3, a31, a32, a33, n31, n32, n33, c31, c32, c33, rfl⟩ := In.shape hin.plain
  have Hx : Hid (In w8 (d + 1) [.int .u8 k3, .bool g3, .slice a31 n31 c31, .string s3, .int .i64 m3, .slice a32 n32 c32, .slice a33 n33 c33] u) := hin.plain
  have U8 : Hid (Upd [] w w8) := U7.out.trans hv
  have tA8 := tA7.mono hv (by simp)
  have tB8 := tB7.mono hv (by simp)
  have tz8 : Tb (w8.alloc (.cells #[.int .u8 0, .bool false, .slice none 0 0, .string ⟨#[]⟩, .int .i64 0, .slice none 0 0, .slice none 0 0] 26)) w8.heap.size #[.int .u8 0, .bool false, .slice none 0 0, .string ⟨#[]⟩, .int .i64 0, .slice none 0 0, .slice none 0 0] := Tb.new _ _ _ rfl
  clear vv hv tA7 tB7 U7 hin l7 hveq
  go_wp2_with (first | (refine store_T _ rfl _ _ rfl _ #[.int .u8 k3, .bool g3, .slice a31 n31 c31, .string s3, .int .i64 m3, .slice a32 n32 c32, .slice a33 n33 c33] _ rfl rfl tz8 rfl rfl on8 ?_; intro w9 tx9 hU9; have V9 : Hid (Upd [] w8 w9) := ((Upd.refl [] w8).alloc _).then hU9 (by simp); have U9 : Hid (Upd [] w w9) := U8.out.trans V9.out; have tA9 := tA8.mono V9.out (by simp); have tB9 := tB8.mono V9.out (by simp); clear hU9 tz8 tA8 tB8) | (refine load_G _ _ rfl _ _ rfl tA9 rfl rfl ?_) | (refine load_G _ _ rfl _ _ rfl tB9 rfl rfl ?_) | fail)
  refine Calls.mono (lc_min (v := t) _ _ (HB.out.mono (U9.out.alloc _)) (ROW.out _ _ (U9.out.alloc _) (Tb.new _ _ _ rfl)) HO.out.1 HO.out.2 (by rw [HC.out]; rfl)) ?_
  rintro e w10 ⟨cs, v, l7, rfl, hin, hveq, vv⟩
  rw [hveq] at hin
  have hv : Upd [] w9 w10 := Upd.trans ((Upd.refl [] w9).alloc _) vv
  have on10 := hin.plain.one
  obtain ⟨k4, m4, g4, s4, a41, a42, a43, n41, n42, n43, c41, c42, c43, rfl⟩ := In.shape hin.plain
  have Hy : Hid (In w10 (d + 1) [.int .u8 k4, .bool g4, .slice a41 n41 c41, .string s4, .int .i64 m4, .slice a42 n42 c42, .slice a43 n43 c43] t) := hin.plain
  have U10 : Hid (Upd [] w w10) := U9.out.trans hv
  have tA10 := tA9.mono hv (by simp)
  have tB10 := tB9.mono hv (by simp)
  have tz10 : Tb (w10.alloc (.cells #[.int .u8 0, .bool false, .slice none 0 0, .string ⟨#[]⟩, .int .i64 0, .slice none 0 0, .slice none 0 0] 26)) w10.heap.size #[.int .u8 0, .bool false, .slice none 0 0, .string ⟨#[]⟩, .int .i64 0, .slice none 0 0, .slice none 0 0] := Tb.new _ _ _ rfl
  have tx10 := tx9.mono hv (by simp)
  have V10 : Hid (Upd [] w9 w10) := hv
  clear vv hv tA9 tB9 U9 hin l7 tx9 hveq
  go_wp2_with (first | (refine store_T _ rfl _ _ rfl _ #[.int .u8 k4, .bool g4, .slice a41 n41 c41, .string s4, .int .i64 m4, .slice a42 n42 c42, .slice a43 n43 c43] _ rfl rfl tz10 rfl rfl on10 ?_; intro w11 ty11 hU11; have V11 : Hid (Upd [] w10 w11) := ((Upd.refl [] w10).alloc _).then hU11 (by simp); have U11 : Hid (Upd [] w w11) := U10.out.trans V11.out; have tA11 := tA10.mono V11.out (by simp); have tB11 := tB10.mono V11.out (by simp); have tx11 := tx10.mono V11.out (by simp); clear hU11 tz10 tA10 tB10 tx10) | fail)
  rename_i K1 hK1
  have Hx9 : Hid (In w9 (d + 1) [.int .u8 k3, .bool g3, .slice a31 n31 c31, .string s3, .int .i64 m3, .slice a32 n32 c32, .slice a33 n33 c33] u) := In.mono V9.out _ _ _ Hx.out
  have YleYX : Hid (∀ W g, Upd [] w11 W → Tb W g #[.int .u8 k4, .bool g4, .slice a41 n41 c41, .string s4, .int .i64 m4, .slice a42 n42 c42, .slice a43 n43 c43, .int .u8 k3, .bool g3, .slice a31 n31 c31, .string s3, .int .i64 m3, .slice a32 n32 c32, .slice a33 n33 c33] → Calls Tryz.prog 8 #[.string ⟨#[61, 60]⟩, .slice (some ⟨g, 0, none⟩) 2 2] W fun e w' => e = .returned (.bool true) ∧ Upd [] W w') := fun W g hu hT => yes_le _ W (HB.out.mono (U11.out.trans hu)) (row_two hT (In.mono (V11.out.trans hu) _ _ _ Hy.out) (In.mono ((V10.out.trans V11.out).trans hu) _ _ _ Hx9.out)) HO.out.1 HO.out.2 HYX.out
  have YeqAB : Hid (∀ W g, Upd [] w11 W → Tb W g #[.int .u8 k1, .bool g1, .slice a11 n11 c11, .string s1, .int .i64 m1, .slice a12 n12 c12, .slice a13 n13 c13, .int .u8 k2, .bool g2, .slice a21 n21 c21, .string s2, .int .i64 m2, .slice a22 n22 c22, .slice a23 n23 c23] → Calls Tryz.prog 8 #[.string ⟨#[61, 61]⟩, .slice (some ⟨g, 0, none⟩) 2 2] W fun e w' => e = .returned (.bool false) ∧ Upd [] W w') := fun W g hu hT => yes_eq _ W (HB.out.mono (U11.out.trans hu)) (row_two hT (In.mono (U11.out.trans hu) _ _ _ H0.out) (In.mono (U11.out.trans hu) _ _ _ H1.out)) HO.out.1 HO.out.2 (by rw [HC.out]; decide)
  have YeeAB : Hid (∀ W g, Upd [] w11 W → Tb W g #[.int .u8 k1, .bool g1, .slice a11 n11 c11, .string s1, .int .i64 m1, .slice a12 n12 c12, .slice a13 n13 c13, .int .u8 k2, .bool g2, .slice a21 n21 c21, .string s2, .int .i64 m2, .slice a22 n22 c22, .slice a23 n23 c23] → Calls Tryz.prog 8 #[.string ⟨#[61, 58, 61]⟩, .slice (some ⟨g, 0, none⟩) 2 2] W fun e w' => e = .returned (.bool false) ∧ Upd [] W w') := fun W g hu hT => yes_ee _ W (HB.out.mono (U11.out.trans hu)) (row_two hT (In.mono (U11.out.trans hu) _ _ _ H0.out) (In.mono (U11.out.trans hu) _ _ _ H1.out)) HO.out.1 HO.out.2 (by rw [HC.out]; decide)
  have YneAB : Hid (∀ W g, Upd [] w11 W → Tb W g #[.int .u8 k1, .bool g1, .slice a11 n11 c11, .string s1, .int .i64 m1, .slice a12 n12 c12, .slice a13 n13 c13, .int .u8 k2, .bool g2, .slice a21 n21 c21, .string s2, .int .i64 m2, .slice a22 n22 c22, .slice a23 n23 c23] → Calls Tryz.prog 8 #[.string ⟨#[47, 61]⟩, .slice (some ⟨g, 0, none⟩) 2 2] W fun e w' => e = .returned (.bool true) ∧ Upd [] W w') := fun W g hu hT => yes_ne _ W (HB.out.mono (U11.out.trans hu)) (row_two hT (In.mono (U11.out.trans hu) _ _ _ H0.out) (In.mono (U11.out.trans hu) _ _ _ H1.out)) HO.out.1 HO.out.2 (by rw [HC.out]; decide)
  have SXA : Hid (∀ W, Upd [] w11 W → Calls Tryz.prog 10 #[.agg #[.int .u8 k3, .bool g3, .slice a31 n31 c31, .string s3, .int .i64 m3, .slice a32 n32 c32, .slice a33 n33 c33], .agg #[.int .u8 k1, .bool g1, .slice a11 n11 c11, .string s1, .int .i64 m1, .slice a12 n12 c12, .slice a13 n13 c13]] W fun e w' => e = .returned (.bool false) ∧ Upd [] W w') := fun W hu => by
    rw [← HXA.out]
    exact TSame_in (d + 1) W _ _ _ _ (In.mono ((V10.out.trans V11.out).trans hu) _ _ _ Hx9.out) (In.mono (U11.out.trans hu) _ _ _ H0.out) (okS_tsz HO.out.2) (okS_tsz HO.out.1)
  have SXB : Hid (∀ W, Upd [] w11 W → Calls Tryz.prog 10 #[.agg #[.int .u8 k3, .bool g3, .slice a31 n31 c31, .string s3, .int .i64 m3, .slice a32 n32 c32, .slice a33 n33 c33], .agg #[.int .u8 k2, .bool g2, .slice a21 n21 c21, .string s2, .int .i64 m2, .slice a22 n22 c22, .slice a23 n23 c23]] W fun e w' => e = .returned (.bool true) ∧ Upd [] W w') := fun W hu => by
    rw [← HXB.out]
    exact TSame_in (d + 1) W _ _ _ _ (In.mono ((V10.out.trans V11.out).trans hu) _ _ _ Hx9.out) (In.mono (U11.out.trans hu) _ _ _ H1.out) (okS_tsz HO.out.2) (okS_tsz HO.out.2)
  have SYA : Hid (∀ W, Upd [] w11 W → Calls Tryz.prog 10 #[.agg #[.int .u8 k4, .bool g4, .slice a41 n41 c41, .string s4, .int .i64 m4, .slice a42 n42 c42, .slice a43 n43 c43], .agg #[.int .u8 k1, .bool g1, .slice a11 n11 c11, .string s1, .int .i64 m1, .slice a12 n12 c12, .slice a13 n13 c13]] W fun e w' => e = .returned (.bool true) ∧ Upd [] W w') := fun W hu => by
    rw [← HYA.out]
    exact TSame_in (d + 1) W _ _ _ _ (In.mono (V11.out.trans hu) _ _ _ Hy.out) (In.mono (U11.out.trans hu) _ _ _ H0.out) (okS_tsz HO.out.1) (okS_tsz HO.out.1)
  have YleAB : Hid (∀ W g, Upd [] w11 W → Tb W g #[.int .u8 k1, .bool g1, .slice a11 n11 c11, .string s1, .int .i64 m1, .slice a12 n12 c12, .slice a13 n13 c13, .int .u8 k2, .bool g2, .slice a21 n21 c21, .string s2, .int .i64 m2, .slice a22 n22 c22, .slice a23 n23 c23] → Calls Tryz.prog 8 #[.string ⟨#[61, 60]⟩, .slice (some ⟨g, 0, none⟩) 2 2] W fun e w' => e = .returned (.bool true) ∧ Upd [] W w') := fun W g hu hT => yes_le _ W (HB.out.mono (U11.out.trans hu)) (row_two hT (In.mono (U11.out.trans hu) _ _ _ H0.out) (In.mono (U11.out.trans hu) _ _ _ H1.out)) HO.out.1 HO.out.2 (by rw [HC.out]; decide)
  have YgtAB : Hid (∀ W g, Upd [] w11 W → Tb W g #[.int .u8 k1, .bool g1, .slice a11 n11 c11, .string s1, .int .i64 m1, .slice a12 n12 c12, .slice a13 n13 c13, .int .u8 k2, .bool g2, .slice a21 n21 c21, .string s2, .int .i64 m2, .slice a22 n22 c22, .slice a23 n23 c23] → Calls Tryz.prog 8 #[.string ⟨#[62]⟩, .slice (some ⟨g, 0, none⟩) 2 2] W fun e w' => e = .returned (.bool false) ∧ Upd [] W w') := fun W g hu hT => yes_gt _ W (HB.out.mono (U11.out.trans hu)) (row_two hT (In.mono (U11.out.trans hu) _ _ _ H0.out) (In.mono (U11.out.trans hu) _ _ _ H1.out)) HO.out.1 HO.out.2 (by rw [HC.out]; decide)
  have tA5 := tA11
  have tB5 := tB11
  have tx5 := tx11
  have ty5 := ty11
  obtain ⟨fs, hdesc⟩ := term_desc
  dsimp only [List.append]
  refine region_last (by kernel_rfl) 68 rfl [some 59, some 60, some 61, some 62, some 63, some 64, some 65, some 66, some 67, some 68, some 69, some 70, some 71, some 72, some 73, some 74, some 75, some 76, some 77, some 78, some 79, some 80, some 81, some 82, some 83, some 84, some 85, some 86, some 87, some 88, some 89, some 90, some 91, some 92, some 93, some 94, some 95, some 96, some 97, some 98, some 99, some 100, some 101, some 102, some 103, some 104, some 105, some 106, some 107, some 108, some 109, some 110, some 111, some 112, some 113, some 114, some 115, some 116, some 117, some 118, some 119, some 120, some 121, some 122, some 123, some 124, some 125, some 126, some 4] rfl (of_decide_eq_true (by kernel_rfl)) rfl (by kernel_rfl) (by kernel_rfl) (fun j v w' => match j with | 0 => v = .int .i64 1 | 1 => v = .bool true | 2 => v = .bool true | 3 => v = .bool true | 4 => v = .bool true | 5 => v = .bool true | 6 => v = .bool true | 7 => v = .bool true | 8 => v = .bool true | 9 => v = .agg #[.int .u8 k4, .bool g4, .slice a41 n41 c41, .string s4, .int .i64 m4, .slice a42 n42 c42, .slice a43 n43 c43] | 10 => v = .agg #[.int .u8 k3, .bool g3, .slice a31 n31 c31, .string s3, .int .i64 m3, .slice a32 n32 c32, .slice a33 n33 c33] | 11 => ∃ g, v = .slice (some ⟨g, 0, none⟩) 2 2 ∧ Tb w' g #[.int .u8 k4, .bool g4, .slice a41 n41 c41, .string s4, .int .i64 m4, .slice a42 n42 c42, .slice a43 n43 c43, .int .u8 k3, .bool g3, .slice a31 n31 c31, .string s3, .int .i64 m3, .slice a32 n32 c32, .slice a33 n33 c33] | 12 => v = .bool true | 13 => v = .bool true | 14 => v = .bool true | 15 => v = .agg #[.int .u8 k1, .bool g1, .slice a11 n11 c11, .string s1, .int .i64 m1, .slice a12 n12 c12, .slice a13 n13 c13] | 16 => v = .agg #[.int .u8 k2, .bool g2, .slice a21 n21 c21, .string s2, .int .i64 m2, .slice a22 n22 c22, .slice a23 n23 c23] | 17 => ∃ g, v = .slice (some ⟨g, 0, none⟩) 2 2 ∧ Tb w' g #[.int .u8 k1, .bool g1, .slice a11 n11 c11, .string s1, .int .i64 m1, .slice a12 n12 c12, .slice a13 n13 c13, .int .u8 k2, .bool g2, .slice a21 n21 c21, .string s2, .int .i64 m2, .slice a22 n22 c22, .slice a23 n23 c23] | 18 => v = .bool false | 19 => v = .agg #[.int .u8 k1, .bool g1, .slice a11 n11 c11, .string s1, .int .i64 m1, .slice a12 n12 c12, .slice a13 n13 c13] | 20 => v = .agg #[.int .u8 k2, .bool g2, .slice a21 n21 c21, .string s2, .int .i64 m2, .slice a22 n22 c22, .slice a23 n23 c23] | 21 => ∃ g, v = .slice (some ⟨g, 0, none⟩) 2 2 ∧ Tb w' g #[.int .u8 k1, .bool g1, .slice a11 n11 c11, .string s1, .int .i64 m1, .slice a12 n12 c12, .slice a13 n13 c13, .int .u8 k2, .bool g2, .slice a21 n21 c21, .string s2, .int .i64 m2, .slice a22 n22 c22, .slice a23 n23 c23] | 22 => v = .bool false | 23 => v = .bool true | 24 => v = .bool true | 25 => v = .bool true | 26 => v = .agg #[.int .u8 k1, .bool g1, .slice a11 n11 c11, .string s1, .int .i64 m1, .slice a12 n12 c12, .slice a13 n13 c13] | 27 => v = .agg #[.int .u8 k2, .bool g2, .slice a21 n21 c21, .string s2, .int .i64 m2, .slice a22 n22 c22, .slice a23 n23 c23] | 28 => ∃ g, v = .slice (some ⟨g, 0, none⟩) 2 2 ∧ Tb w' g #[.int .u8 k1, .bool g1, .slice a11 n11 c11, .string s1, .int .i64 m1, .slice a12 n12 c12, .slice a13 n13 c13, .int .u8 k2, .bool g2, .slice a21 n21 c21, .string s2, .int .i64 m2, .slice a22 n22 c22, .slice a23 n23 c23] | 29 => v = .bool true | 30 => v = .agg #[.int .u8 k1, .bool g1, .slice a11 n11 c11, .string s1, .int .i64 m1, .slice a12 n12 c12, .slice a13 n13 c13] | 31 => v = .agg #[.int .u8 k2, .bool g2, .slice a21 n21 c21, .string s2, .int .i64 m2, .slice a22 n22 c22, .slice a23 n23 c23] | 32 => ∃ g, v = .slice (some ⟨g, 0, none⟩) 2 2 ∧ Tb w' g #[.int .u8 k1, .bool g1, .slice a11 n11 c11, .string s1, .int .i64 m1, .slice a12 n12 c12, .slice a13 n13 c13, .int .u8 k2, .bool g2, .slice a21 n21 c21, .string s2, .int .i64 m2, .slice a22 n22 c22, .slice a23 n23 c23] | 33 => v = .bool false | 34 => v = .bool true | 35 => v = .bool true | 36 => v = .bool true | 37 => v = .agg #[.int .u8 k3, .bool g3, .slice a31 n31 c31, .string s3, .int .i64 m3, .slice a32 n32 c32, .slice a33 n33 c33] | 38 => v = .agg #[.int .u8 k1, .bool g1, .slice a11 n11 c11, .string s1, .int .i64 m1, .slice a12 n12 c12, .slice a13 n13 c13] | 39 => v = .bool false | 40 => v = .bool false | 41 => v = undef | 42 => v = undef | 43 => v = undef | 44 => v = .bool false | 45 => v = .bool false | 46 => v = .agg #[.int .u8 k3, .bool g3, .slice a31 n31 c31, .string s3, .int .i64 m3, .slice a32 n32 c32, .slice a33 n33 c33] | 47 => v = .agg #[.int .u8 k2, .bool g2, .slice a21 n21 c21, .string s2, .int .i64 m2, .slice a22 n22 c22, .slice a23 n23 c23] | 48 => v = .bool true | 49 => v = .bool true | 50 => v = .agg #[.int .u8 k4, .bool g4, .slice a41 n41 c41, .string s4, .int .i64 m4, .slice a42 n42 c42, .slice a43 n43 c43] | 51 => v = .agg #[.int .u8 k1, .bool g1, .slice a11 n11 c11, .string s1, .int .i64 m1, .slice a12 n12 c12, .slice a13 n13 c13] | 52 => v = .bool true | 53 => v = .bool true | 54 => v = .bool true | 55 => v = .bool true | 56 => v = .bool true | 57 => v = .agg #[.int .u8 k1, .bool g1, .slice a11 n11 c11, .string s1, .int .i64 m1, .slice a12 n12 c12, .slice a13 n13 c13] | 58 => v = .agg #[.int .u8 k2, .bool g2, .slice a21 n21 c21, .string s2, .int .i64 m2, .slice a22 n22 c22, .slice a23 n23 c23] | 59 => ∃ g, v = .slice (some ⟨g, 0, none⟩) 2 2 ∧ Tb w' g #[.int .u8 k1, .bool g1, .slice a11 n11 c11, .string s1, .int .i64 m1, .slice a12 n12 c12, .slice a13 n13 c13, .int .u8 k2, .bool g2, .slice a21 n21 c21, .string s2, .int .i64 m2, .slice a22 n22 c22, .slice a23 n23 c23] | 60 => v = .bool true | 61 => v = .agg #[.int .u8 k1, .bool g1, .slice a11 n11 c11, .string s1, .int .i64 m1, .slice a12 n12 c12, .slice a13 n13 c13] | 62 => v = .agg #[.int .u8 k2, .bool g2, .slice a21 n21 c21, .string s2, .int .i64 m2, .slice a22 n22 c22, .slice a23 n23 c23] | 63 => ∃ g, v = .slice (some ⟨g, 0, none⟩) 2 2 ∧ Tb w' g #[.int .u8 k1, .bool g1, .slice a11 n11 c11, .string s1, .int .i64 m1, .slice a12 n12 c12, .slice a13 n13 c13, .int .u8 k2, .bool g2, .slice a21 n21 c21, .string s2, .int .i64 m2, .slice a22 n22 c22, .slice a23 n23 c23] | 64 => v = .bool false | 65 => v = .bool true | 66 => v = .bool true | 67 => v = .bool true | _ => True) (fun j v w w' h hu => ?_) ?_ ?_
  · match j, h with
      | 0, h => exact h
      | 1, h => exact h
      | 2, h => exact h
      | 3, h => exact h
      | 4, h => exact h
      | 5, h => exact h
      | 6, h => exact h
      | 7, h => exact h
      | 8, h => exact h
      | 9, h => exact h
      | 10, h => exact h
      | 11, ⟨g, e, ht⟩ => exact ⟨g, e, ht.mono hu (by simp)⟩
      | 12, h => exact h
      | 13, h => exact h
      | 14, h => exact h
      | 15, h => exact h
      | 16, h => exact h
      | 17, ⟨g, e, ht⟩ => exact ⟨g, e, ht.mono hu (by simp)⟩
      | 18, h => exact h
      | 19, h => exact h
      | 20, h => exact h
      | 21, ⟨g, e, ht⟩ => exact ⟨g, e, ht.mono hu (by simp)⟩
      | 22, h => exact h
      | 23, h => exact h
      | 24, h => exact h
      | 25, h => exact h
      | 26, h => exact h
      | 27, h => exact h
      | 28, ⟨g, e, ht⟩ => exact ⟨g, e, ht.mono hu (by simp)⟩
      | 29, h => exact h
      | 30, h => exact h
      | 31, h => exact h
      | 32, ⟨g, e, ht⟩ => exact ⟨g, e, ht.mono hu (by simp)⟩
      | 33, h => exact h
      | 34, h => exact h
      | 35, h => exact h
      | 36, h => exact h
      | 37, h => exact h
      | 38, h => exact h
      | 39, h => exact h
      | 40, h => exact h
      | 41, h => exact h
      | 42, h => exact h
      | 43, h => exact h
      | 44, h => exact h
      | 45, h => exact h
      | 46, h => exact h
      | 47, h => exact h
      | 48, h => exact h
      | 49, h => exact h
      | 50, h => exact h
      | 51, h => exact h
      | 52, h => exact h
      | 53, h => exact h
      | 54, h => exact h
      | 55, h => exact h
      | 56, h => exact h
      | 57, h => exact h
      | 58, h => exact h
      | 59, ⟨g, e, ht⟩ => exact ⟨g, e, ht.mono hu (by simp)⟩
      | 60, h => exact h
      | 61, h => exact h
      | 62, h => exact h
      | 63, ⟨g, e, ht⟩ => exact ⟨g, e, ht.mono hu (by simp)⟩
      | 64, h => exact h
      | 65, h => exact h
      | 66, h => exact h
      | 67, h => exact h
      | _ + 68, _ => trivial
  · intro D vs a' w5 i o' hA hU hV hS hi ho haf
    have hc5 : i = 0 ∨ i = 1 ∨ i = 2 ∨ i = 3 ∨ i = 4 ∨ i = 5 ∨ i = 6 ∨ i = 7 ∨ i = 8 ∨ i = 9 ∨ i = 10 ∨ i = 11 ∨ i = 12 ∨ i = 13 ∨ i = 14 ∨ i = 15 ∨ i = 16 ∨ i = 17 ∨ i = 18 ∨ i = 19 ∨ i = 20 ∨ i = 21 ∨ i = 22 ∨ i = 23 ∨ i = 24 ∨ i = 25 ∨ i = 26 ∨ i = 27 ∨ i = 28 ∨ i = 29 ∨ i = 30 ∨ i = 31 ∨ i = 32 ∨ i = 33 ∨ i = 34 ∨ i = 35 ∨ i = 36 ∨ i = 37 ∨ i = 38 ∨ i = 39 ∨ i = 40 ∨ i = 41 ∨ i = 42 ∨ i = 43 ∨ i = 44 ∨ i = 45 ∨ i = 46 ∨ i = 47 ∨ i = 48 ∨ i = 49 ∨ i = 50 ∨ i = 51 ∨ i = 52 ∨ i = 53 ∨ i = 54 ∨ i = 55 ∨ i = 56 ∨ i = 57 ∨ i = 58 ∨ i = 59 ∨ i = 60 ∨ i = 61 ∨ i = 62 ∨ i = 63 ∨ i = 64 ∨ i = 65 ∨ i = 66 ∨ i = 67 := by omega
    rcases hc5 with rfl | rfl | rfl | rfl | rfl | rfl | rfl | rfl | rfl | rfl | rfl | rfl | rfl | rfl | rfl | rfl | rfl | rfl | rfl | rfl | rfl | rfl | rfl | rfl | rfl | rfl | rfl | rfl | rfl | rfl | rfl | rfl | rfl | rfl | rfl | rfl | rfl | rfl | rfl | rfl | rfl | rfl | rfl | rfl | rfl | rfl | rfl | rfl | rfl | rfl | rfl | rfl | rfl | rfl | rfl | rfl | rfl | rfl | rfl | rfl | rfl | rfl | rfl | rfl | rfl | rfl | rfl | rfl <;> cases ho
    · exact ops_wp rfl rfl (wp_move (.tmp 5) rfl _ (hA.ev 5 (by decide)) ⟨_, rfl, rfl, Upd.refl _ _⟩)
    · have D0 := haf ⟨0, .data⟩ (by simp) rfl
      exact ops_wp rfl rfl (wp_eqlI (.tmp 59) (.const (.int .i64 1)) rfl 1 1 ((hS 0 59 rfl D0).trans (hV 0 D0)) rfl ⟨_, rfl, rfl, Upd.refl _ _⟩)
    · have D1 := haf ⟨1, .data⟩ (by simp) rfl
      exact ops_wp rfl rfl (wp_move (.tmp 60) rfl _ ((hS 1 60 rfl D1).trans (hV 1 D1)) ⟨_, rfl, rfl, Upd.refl _ _⟩)
    · have D2 := haf ⟨2, .guard⟩ (by simp) rfl
      exact ops_wpG rfl ((wanted_of rfl rfl ((hS 2 61 rfl D2).trans (hV 2 D2))).trans rfl) (wp_move (.tmp 7) rfl _ (hA.ev 7 (by decide)) ⟨_, rfl, rfl, Upd.refl _ _⟩)
    · have D2 := haf ⟨2, .data⟩ (by simp) rfl
      have D3 := haf ⟨3, .data⟩ (by simp) rfl
      exact ops_wp rfl rfl (wp_pickT (.tmp 61) (.tmp 62) (.const (.bool false)) rfl ((hS 2 61 rfl D2).trans (hV 2 D2)) _ ((hS 3 62 rfl D3).trans (hV 3 D3)) ⟨_, rfl, rfl, Upd.refl _ _⟩)
    · have D4 := haf ⟨4, .data⟩ (by simp) rfl
      exact ops_wp rfl rfl (wp_move (.tmp 63) rfl _ ((hS 4 63 rfl D4).trans (hV 4 D4)) ⟨_, rfl, rfl, Upd.refl _ _⟩)
    · have D5 := haf ⟨5, .guard⟩ (by simp) rfl
      exact ops_wpG rfl ((wanted_of rfl rfl ((hS 5 64 rfl D5).trans (hV 5 D5))).trans rfl) (wp_move (.tmp 9) rfl _ (hA.ev 9 (by decide)) ⟨_, rfl, rfl, Upd.refl _ _⟩)
    · have D5 := haf ⟨5, .data⟩ (by simp) rfl
      have D6 := haf ⟨6, .data⟩ (by simp) rfl
      exact ops_wp rfl rfl (wp_pickT (.tmp 64) (.tmp 65) (.const (.bool false)) rfl ((hS 5 64 rfl D5).trans (hV 5 D5)) _ ((hS 6 65 rfl D6).trans (hV 6 D6)) ⟨_, rfl, rfl, Upd.refl _ _⟩)
    · have D7 := haf ⟨7, .data⟩ (by simp) rfl
      exact ops_wp rfl rfl (wp_move (.tmp 66) rfl _ ((hS 7 66 rfl D7).trans (hV 7 D7)) ⟨_, rfl, rfl, Upd.refl _ _⟩)
    · have D8 := haf ⟨8, .guard⟩ (by simp) rfl
      exact ops_wpG rfl ((wanted_of rfl rfl ((hS 8 67 rfl D8).trans (hV 8 D8))).trans rfl) (wp_load_row 26 (.tmp 8) rfl _ (hA.ev 8 (by decide)) 26 _ (0, 0) _ (ty5.mono hU (by simp)) hdesc rfl (by rw [info_term]; rfl) ⟨_, rfl, rfl, Upd.refl _ _⟩)
    · have D8 := haf ⟨8, .guard⟩ (by simp) rfl
      exact ops_wpG rfl ((wanted_of rfl rfl ((hS 8 67 rfl D8).trans (hV 8 D8))).trans rfl) (wp_load_row 26 (.tmp 6) rfl _ (hA.ev 6 (by decide)) 26 _ (0, 0) _ (tx5.mono hU (by simp)) hdesc rfl (by rw [info_term]; rfl) ⟨_, rfl, rfl, Upd.refl _ _⟩)
    · have D8 := haf ⟨8, .guard⟩ (by simp) rfl
      have D9 := haf ⟨9, .data⟩ (by simp) rfl
      have D10 := haf ⟨10, .data⟩ (by simp) rfl
      exact ops_wpG rfl ((wanted_of rfl rfl ((hS 8 67 rfl D8).trans (hV 8 D8))).trans rfl) (wp_bs2 (.tmp 68) (.tmp 69) rfl _ _ _ _ _ _ _ _ _ _ _ _ _ _ _ _ _ _ _ _ _ _ _ _ _ _ ((hS 9 68 rfl D9).trans (hV 9 D9)) ((hS 10 69 rfl D10).trans (hV 10 D10)) ⟨_, rfl, ⟨_, rfl, Tb.new _ _ _ rfl⟩, (Upd.refl [] w5).alloc _⟩)
    · have D8 := haf ⟨8, .chain⟩ (by simp) rfl
      have D11 := haf ⟨11, .data⟩ (by simp) rfl
      obtain ⟨gg, eg, htg⟩ := hV 11 D11
      refine ops_wpG rfl ((wanted_of rfl rfl ((hS 8 67 rfl D8).trans (hV 8 D8))).trans rfl) (wp_callA rfl Tryz.call8 (vs := #[.string ⟨#[61, 60]⟩, .slice (some ⟨gg, 0, none⟩) 2 2]) ?_ (R := fun u w' => u = .bool true ∧ Upd [] w5 w') ?_ ?_)
      · have e0 : a'.eval (.tmp 70) = _ := (hS 11 70 rfl D11).trans eg; simp only [List.map_toArray, List.map_cons, List.map_nil, e0]; rfl
      · exact (YleYX.out w5 gg hU htg).mono fun e w' ⟨he, hu⟩ => ⟨_, he, rfl, hu⟩
      · rintro u w6 ⟨rfl, hu⟩; exact ⟨_, rfl, rfl, hu⟩
    · have D8 := haf ⟨8, .data⟩ (by simp) rfl
      have D12 := haf ⟨12, .data⟩ (by simp) rfl
      exact ops_wp rfl rfl (wp_pickT (.tmp 67) (.tmp 71) (.const (.bool false)) rfl ((hS 8 67 rfl D8).trans (hV 8 D8)) _ ((hS 12 71 rfl D12).trans (hV 12 D12)) ⟨_, rfl, rfl, Upd.refl _ _⟩)
    · have D13 := haf ⟨13, .data⟩ (by simp) rfl
      exact ops_wp rfl rfl (wp_move (.tmp 72) rfl _ ((hS 13 72 rfl D13).trans (hV 13 D13)) ⟨_, rfl, rfl, Upd.refl _ _⟩)
    · have D14 := haf ⟨14, .guard⟩ (by simp) rfl
      exact ops_wpG rfl ((wanted_of rfl rfl ((hS 14 73 rfl D14).trans (hV 14 D14))).trans rfl) (wp_load_row 26 (.tmp 2) rfl _ (hA.ev 2 (by decide)) 26 _ (0, 0) _ (tA5.mono hU (by simp)) hdesc rfl (by rw [info_term]; rfl) ⟨_, rfl, rfl, Upd.refl _ _⟩)
    · have D14 := haf ⟨14, .guard⟩ (by simp) rfl
      exact ops_wpG rfl ((wanted_of rfl rfl ((hS 14 73 rfl D14).trans (hV 14 D14))).trans rfl) (wp_load_row 26 (.tmp 3) rfl _ (hA.ev 3 (by decide)) 26 _ (0, 0) _ (tB5.mono hU (by simp)) hdesc rfl (by rw [info_term]; rfl) ⟨_, rfl, rfl, Upd.refl _ _⟩)
    · have D14 := haf ⟨14, .guard⟩ (by simp) rfl
      have D15 := haf ⟨15, .data⟩ (by simp) rfl
      have D16 := haf ⟨16, .data⟩ (by simp) rfl
      exact ops_wpG rfl ((wanted_of rfl rfl ((hS 14 73 rfl D14).trans (hV 14 D14))).trans rfl) (wp_bs2 (.tmp 74) (.tmp 75) rfl _ _ _ _ _ _ _ _ _ _ _ _ _ _ _ _ _ _ _ _ _ _ _ _ _ _ ((hS 15 74 rfl D15).trans (hV 15 D15)) ((hS 16 75 rfl D16).trans (hV 16 D16)) ⟨_, rfl, ⟨_, rfl, Tb.new _ _ _ rfl⟩, (Upd.refl [] w5).alloc _⟩)
    · have D14 := haf ⟨14, .chain⟩ (by simp) rfl
      have D17 := haf ⟨17, .data⟩ (by simp) rfl
      obtain ⟨gg, eg, htg⟩ := hV 17 D17
      refine ops_wpG rfl ((wanted_of rfl rfl ((hS 14 73 rfl D14).trans (hV 14 D14))).trans rfl) (wp_callA rfl Tryz.call8 (vs := #[.string ⟨#[61, 61]⟩, .slice (some ⟨gg, 0, none⟩) 2 2]) ?_ (R := fun u w' => u = .bool false ∧ Upd [] w5 w') ?_ ?_)
      · have e0 : a'.eval (.tmp 76) = _ := (hS 17 76 rfl D17).trans eg; simp only [List.map_toArray, List.map_cons, List.map_nil, e0]; rfl
      · exact (YeqAB.out w5 gg hU htg).mono fun e w' ⟨he, hu⟩ => ⟨_, he, rfl, hu⟩
      · rintro u w6 ⟨rfl, hu⟩; exact ⟨_, rfl, rfl, hu⟩
    · have D14 := haf ⟨14, .guard⟩ (by simp) rfl
      exact ops_wpG rfl ((wanted_of rfl rfl ((hS 14 73 rfl D14).trans (hV 14 D14))).trans rfl) (wp_load_row 26 (.tmp 2) rfl _ (hA.ev 2 (by decide)) 26 _ (0, 0) _ (tA5.mono hU (by simp)) hdesc rfl (by rw [info_term]; rfl) ⟨_, rfl, rfl, Upd.refl _ _⟩)
    · have D14 := haf ⟨14, .guard⟩ (by simp) rfl
      exact ops_wpG rfl ((wanted_of rfl rfl ((hS 14 73 rfl D14).trans (hV 14 D14))).trans rfl) (wp_load_row 26 (.tmp 3) rfl _ (hA.ev 3 (by decide)) 26 _ (0, 0) _ (tB5.mono hU (by simp)) hdesc rfl (by rw [info_term]; rfl) ⟨_, rfl, rfl, Upd.refl _ _⟩)
    · have D14 := haf ⟨14, .guard⟩ (by simp) rfl
      have D19 := haf ⟨19, .data⟩ (by simp) rfl
      have D20 := haf ⟨20, .data⟩ (by simp) rfl
      exact ops_wpG rfl ((wanted_of rfl rfl ((hS 14 73 rfl D14).trans (hV 14 D14))).trans rfl) (wp_bs2 (.tmp 78) (.tmp 79) rfl _ _ _ _ _ _ _ _ _ _ _ _ _ _ _ _ _ _ _ _ _ _ _ _ _ _ ((hS 19 78 rfl D19).trans (hV 19 D19)) ((hS 20 79 rfl D20).trans (hV 20 D20)) ⟨_, rfl, ⟨_, rfl, Tb.new _ _ _ rfl⟩, (Upd.refl [] w5).alloc _⟩)
    · have D14 := haf ⟨14, .guard⟩ (by simp) rfl
      have D21 := haf ⟨21, .data⟩ (by simp) rfl
      obtain ⟨gg, eg, htg⟩ := hV 21 D21
      refine ops_wpG rfl ((wanted_of rfl rfl ((hS 14 73 rfl D14).trans (hV 14 D14))).trans rfl) (wp_callA rfl Tryz.call8 (vs := #[.string ⟨#[61, 58, 61]⟩, .slice (some ⟨gg, 0, none⟩) 2 2]) ?_ (R := fun u w' => u = .bool false ∧ Upd [] w5 w') ?_ ?_)
      · have e0 : a'.eval (.tmp 80) = _ := (hS 21 80 rfl D21).trans eg; simp only [List.map_toArray, List.map_cons, List.map_nil, e0]; rfl
      · exact (YeeAB.out w5 gg hU htg).mono fun e w' ⟨he, hu⟩ => ⟨_, he, rfl, hu⟩
      · rintro u w6 ⟨rfl, hu⟩; exact ⟨_, rfl, rfl, hu⟩
    · have D14 := haf ⟨14, .guard⟩ (by simp) rfl
      have D18 := haf ⟨18, .data⟩ (by simp) rfl
      have D22 := haf ⟨22, .data⟩ (by simp) rfl
      exact ops_wpG rfl ((wanted_of rfl rfl ((hS 14 73 rfl D14).trans (hV 14 D14))).trans rfl) (wp_eql2B (.tmp 77) (.tmp 81) rfl _ _ ((hS 18 77 rfl D18).trans (hV 18 D18)) ((hS 22 81 rfl D22).trans (hV 22 D22)) ⟨_, rfl, rfl, Upd.refl _ _⟩)
    · have D14 := haf ⟨14, .data⟩ (by simp) rfl
      have D23 := haf ⟨23, .data⟩ (by simp) rfl
      exact ops_wp rfl rfl (wp_pickT (.tmp 73) (.tmp 82) (.const (.bool false)) rfl ((hS 14 73 rfl D14).trans (hV 14 D14)) _ ((hS 23 82 rfl D23).trans (hV 23 D23)) ⟨_, rfl, rfl, Upd.refl _ _⟩)
    · have D24 := haf ⟨24, .data⟩ (by simp) rfl
      exact ops_wp rfl rfl (wp_move (.tmp 83) rfl _ ((hS 24 83 rfl D24).trans (hV 24 D24)) ⟨_, rfl, rfl, Upd.refl _ _⟩)
    · have D25 := haf ⟨25, .guard⟩ (by simp) rfl
      exact ops_wpG rfl ((wanted_of rfl rfl ((hS 25 84 rfl D25).trans (hV 25 D25))).trans rfl) (wp_load_row 26 (.tmp 2) rfl _ (hA.ev 2 (by decide)) 26 _ (0, 0) _ (tA5.mono hU (by simp)) hdesc rfl (by rw [info_term]; rfl) ⟨_, rfl, rfl, Upd.refl _ _⟩)
    · have D25 := haf ⟨25, .guard⟩ (by simp) rfl
      exact ops_wpG rfl ((wanted_of rfl rfl ((hS 25 84 rfl D25).trans (hV 25 D25))).trans rfl) (wp_load_row 26 (.tmp 3) rfl _ (hA.ev 3 (by decide)) 26 _ (0, 0) _ (tB5.mono hU (by simp)) hdesc rfl (by rw [info_term]; rfl) ⟨_, rfl, rfl, Upd.refl _ _⟩)
    · have D25 := haf ⟨25, .guard⟩ (by simp) rfl
      have D26 := haf ⟨26, .data⟩ (by simp) rfl
      have D27 := haf ⟨27, .data⟩ (by simp) rfl
      exact ops_wpG rfl ((wanted_of rfl rfl ((hS 25 84 rfl D25).trans (hV 25 D25))).trans rfl) (wp_bs2 (.tmp 85) (.tmp 86) rfl _ _ _ _ _ _ _ _ _ _ _ _ _ _ _ _ _ _ _ _ _ _ _ _ _ _ ((hS 26 85 rfl D26).trans (hV 26 D26)) ((hS 27 86 rfl D27).trans (hV 27 D27)) ⟨_, rfl, ⟨_, rfl, Tb.new _ _ _ rfl⟩, (Upd.refl [] w5).alloc _⟩)
    · have D25 := haf ⟨25, .chain⟩ (by simp) rfl
      have D28 := haf ⟨28, .data⟩ (by simp) rfl
      obtain ⟨gg, eg, htg⟩ := hV 28 D28
      refine ops_wpG rfl ((wanted_of rfl rfl ((hS 25 84 rfl D25).trans (hV 25 D25))).trans rfl) (wp_callA rfl Tryz.call8 (vs := #[.string ⟨#[47, 61]⟩, .slice (some ⟨gg, 0, none⟩) 2 2]) ?_ (R := fun u w' => u = .bool true ∧ Upd [] w5 w') ?_ ?_)
      · have e0 : a'.eval (.tmp 87) = _ := (hS 28 87 rfl D28).trans eg; simp only [List.map_toArray, List.map_cons, List.map_nil, e0]; rfl
      · exact (YneAB.out w5 gg hU htg).mono fun e w' ⟨he, hu⟩ => ⟨_, he, rfl, hu⟩
      · rintro u w6 ⟨rfl, hu⟩; exact ⟨_, rfl, rfl, hu⟩
    · have D25 := haf ⟨25, .guard⟩ (by simp) rfl
      exact ops_wpG rfl ((wanted_of rfl rfl ((hS 25 84 rfl D25).trans (hV 25 D25))).trans rfl) (wp_load_row 26 (.tmp 2) rfl _ (hA.ev 2 (by decide)) 26 _ (0, 0) _ (tA5.mono hU (by simp)) hdesc rfl (by rw [info_term]; rfl) ⟨_, rfl, rfl, Upd.refl _ _⟩)
    · have D25 := haf ⟨25, .guard⟩ (by simp) rfl
      exact ops_wpG rfl ((wanted_of rfl rfl ((hS 25 84 rfl D25).trans (hV 25 D25))).trans rfl) (wp_load_row 26 (.tmp 3) rfl _ (hA.ev 3 (by decide)) 26 _ (0, 0) _ (tB5.mono hU (by simp)) hdesc rfl (by rw [info_term]; rfl) ⟨_, rfl, rfl, Upd.refl _ _⟩)
    · have D25 := haf ⟨25, .guard⟩ (by simp) rfl
      have D30 := haf ⟨30, .data⟩ (by simp) rfl
      have D31 := haf ⟨31, .data⟩ (by simp) rfl
      exact ops_wpG rfl ((wanted_of rfl rfl ((hS 25 84 rfl D25).trans (hV 25 D25))).trans rfl) (wp_bs2 (.tmp 89) (.tmp 90) rfl _ _ _ _ _ _ _ _ _ _ _ _ _ _ _ _ _ _ _ _ _ _ _ _ _ _ ((hS 30 89 rfl D30).trans (hV 30 D30)) ((hS 31 90 rfl D31).trans (hV 31 D31)) ⟨_, rfl, ⟨_, rfl, Tb.new _ _ _ rfl⟩, (Upd.refl [] w5).alloc _⟩)
    · have D25 := haf ⟨25, .guard⟩ (by simp) rfl
      have D32 := haf ⟨32, .data⟩ (by simp) rfl
      obtain ⟨gg, eg, htg⟩ := hV 32 D32
      refine ops_wpG rfl ((wanted_of rfl rfl ((hS 25 84 rfl D25).trans (hV 25 D25))).trans rfl) (wp_callA rfl Tryz.call8 (vs := #[.string ⟨#[61, 61]⟩, .slice (some ⟨gg, 0, none⟩) 2 2]) ?_ (R := fun u w' => u = .bool false ∧ Upd [] w5 w') ?_ ?_)
      · have e0 : a'.eval (.tmp 91) = _ := (hS 32 91 rfl D32).trans eg; simp only [List.map_toArray, List.map_cons, List.map_nil, e0]; rfl
      · exact (YeqAB.out w5 gg hU htg).mono fun e w' ⟨he, hu⟩ => ⟨_, he, rfl, hu⟩
      · rintro u w6 ⟨rfl, hu⟩; exact ⟨_, rfl, rfl, hu⟩
    · have D25 := haf ⟨25, .guard⟩ (by simp) rfl
      have D29 := haf ⟨29, .data⟩ (by simp) rfl
      have D33 := haf ⟨33, .data⟩ (by simp) rfl
      exact ops_wpG rfl ((wanted_of rfl rfl ((hS 25 84 rfl D25).trans (hV 25 D25))).trans rfl) (wp_neqB (.tmp 88) (.tmp 92) rfl _ _ ((hS 29 88 rfl D29).trans (hV 29 D29)) ((hS 33 92 rfl D33).trans (hV 33 D33)) ⟨_, rfl, rfl, Upd.refl _ _⟩)
    · have D25 := haf ⟨25, .data⟩ (by simp) rfl
      have D34 := haf ⟨34, .data⟩ (by simp) rfl
      exact ops_wp rfl rfl (wp_pickT (.tmp 84) (.tmp 93) (.const (.bool false)) rfl ((hS 25 84 rfl D25).trans (hV 25 D25)) _ ((hS 34 93 rfl D34).trans (hV 34 D34)) ⟨_, rfl, rfl, Upd.refl _ _⟩)
    · have D35 := haf ⟨35, .data⟩ (by simp) rfl
      exact ops_wp rfl rfl (wp_move (.tmp 94) rfl _ ((hS 35 94 rfl D35).trans (hV 35 D35)) ⟨_, rfl, rfl, Upd.refl _ _⟩)
    · have D36 := haf ⟨36, .guard⟩ (by simp) rfl
      exact ops_wpG rfl ((wanted_of rfl rfl ((hS 36 95 rfl D36).trans (hV 36 D36))).trans rfl) (wp_load_row 26 (.tmp 6) rfl _ (hA.ev 6 (by decide)) 26 _ (0, 0) _ (tx5.mono hU (by simp)) hdesc rfl (by rw [info_term]; rfl) ⟨_, rfl, rfl, Upd.refl _ _⟩)
    · have D36 := haf ⟨36, .guard⟩ (by simp) rfl
      exact ops_wpG rfl ((wanted_of rfl rfl ((hS 36 95 rfl D36).trans (hV 36 D36))).trans rfl) (wp_load_row 26 (.tmp 2) rfl _ (hA.ev 2 (by decide)) 26 _ (0, 0) _ (tA5.mono hU (by simp)) hdesc rfl (by rw [info_term]; rfl) ⟨_, rfl, rfl, Upd.refl _ _⟩)
    · have D36 := haf ⟨36, .chain⟩ (by simp) rfl
      have D37 := haf ⟨37, .data⟩ (by simp) rfl
      have D38 := haf ⟨38, .data⟩ (by simp) rfl
      refine ops_wpG rfl ((wanted_of rfl rfl ((hS 36 95 rfl D36).trans (hV 36 D36))).trans rfl) (wp_callA rfl Tryz.call10 (vs := #[.agg #[.int .u8 k3, .bool g3, .slice a31 n31 c31, .string s3, .int .i64 m3, .slice a32 n32 c32, .slice a33 n33 c33], .agg #[.int .u8 k1, .bool g1, .slice a11 n11 c11, .string s1, .int .i64 m1, .slice a12 n12 c12, .slice a13 n13 c13]]) ?_ (R := fun u w' => u = .bool false ∧ Upd [] w5 w') ?_ ?_)
      · have e0 : a'.eval (.tmp 96) = _ := ((hS 37 96 rfl D37).trans (hV 37 D37)); have e1 : a'.eval (.tmp 97) = _ := ((hS 38 97 rfl D38).trans (hV 38 D38)); simp only [List.map_toArray, List.map_cons, List.map_nil, e0, e1]
      · exact (SXA.out w5 hU).mono fun e w' ⟨he, hu⟩ => ⟨_, he, rfl, hu⟩
      · rintro u w6 ⟨rfl, hu⟩; exact ⟨_, rfl, rfl, hu⟩
    · have D36 := haf ⟨36, .guard⟩ (by simp) rfl
      have D39 := haf ⟨39, .data⟩ (by simp) rfl
      exact ops_wpG rfl ((wanted_of rfl rfl ((hS 36 95 rfl D36).trans (hV 36 D36))).trans rfl) (wp_move (.tmp 98) rfl _ ((hS 39 98 rfl D39).trans (hV 39 D39)) ⟨_, rfl, rfl, Upd.refl _ _⟩)
    · have D40 := haf ⟨40, .guard⟩ (by simp) rfl
      exact ops_skip rfl ((wanted_of rfl rfl ((hS 40 99 rfl D40).trans (hV 40 D40))).trans rfl) ⟨undef, rfl, rfl, Upd.refl _ _⟩
    · have D40 := haf ⟨40, .guard⟩ (by simp) rfl
      exact ops_skip rfl ((wanted_of rfl rfl ((hS 40 99 rfl D40).trans (hV 40 D40))).trans rfl) ⟨undef, rfl, rfl, Upd.refl _ _⟩
    · have D40 := haf ⟨40, .chain⟩ (by simp) rfl
      exact ops_skip rfl ((wanted_of rfl rfl ((hS 40 99 rfl D40).trans (hV 40 D40))).trans rfl) ⟨undef, rfl, rfl, Upd.refl _ _⟩
    · have D36 := haf ⟨36, .guard⟩ (by simp) rfl
      have D40 := haf ⟨40, .data⟩ (by simp) rfl
      exact ops_wpG rfl ((wanted_of rfl rfl ((hS 36 95 rfl D36).trans (hV 36 D36))).trans rfl) (wp_pickF (.tmp 99) (.tmp 102) (.const (.bool false)) rfl ((hS 40 99 rfl D40).trans (hV 40 D40)) _ rfl ⟨_, rfl, rfl, Upd.refl _ _⟩)
    · have D36 := haf ⟨36, .guard⟩ (by simp) rfl
      have D44 := haf ⟨44, .data⟩ (by simp) rfl
      exact ops_wpG rfl ((wanted_of rfl rfl ((hS 36 95 rfl D36).trans (hV 36 D36))).trans rfl) (wp_move (.tmp 103) rfl _ ((hS 44 103 rfl D44).trans (hV 44 D44)) ⟨_, rfl, rfl, Upd.refl _ _⟩)
    · have D45 := haf ⟨45, .guard⟩ (by simp) rfl
      exact ops_wpG rfl ((wanted_of rfl rfl ((hS 45 104 rfl D45).trans (hV 45 D45))).trans rfl) (wp_load_row 26 (.tmp 6) rfl _ (hA.ev 6 (by decide)) 26 _ (0, 0) _ (tx5.mono hU (by simp)) hdesc rfl (by rw [info_term]; rfl) ⟨_, rfl, rfl, Upd.refl _ _⟩)
    · have D45 := haf ⟨45, .guard⟩ (by simp) rfl
      exact ops_wpG rfl ((wanted_of rfl rfl ((hS 45 104 rfl D45).trans (hV 45 D45))).trans rfl) (wp_load_row 26 (.tmp 3) rfl _ (hA.ev 3 (by decide)) 26 _ (0, 0) _ (tB5.mono hU (by simp)) hdesc rfl (by rw [info_term]; rfl) ⟨_, rfl, rfl, Upd.refl _ _⟩)
    · have D45 := haf ⟨45, .chain⟩ (by simp) rfl
      have D46 := haf ⟨46, .data⟩ (by simp) rfl
      have D47 := haf ⟨47, .data⟩ (by simp) rfl
      refine ops_wpG rfl ((wanted_of rfl rfl ((hS 45 104 rfl D45).trans (hV 45 D45))).trans rfl) (wp_callA rfl Tryz.call10 (vs := #[.agg #[.int .u8 k3, .bool g3, .slice a31 n31 c31, .string s3, .int .i64 m3, .slice a32 n32 c32, .slice a33 n33 c33], .agg #[.int .u8 k2, .bool g2, .slice a21 n21 c21, .string s2, .int .i64 m2, .slice a22 n22 c22, .slice a23 n23 c23]]) ?_ (R := fun u w' => u = .bool true ∧ Upd [] w5 w') ?_ ?_)
      · have e0 : a'.eval (.tmp 105) = _ := ((hS 46 105 rfl D46).trans (hV 46 D46)); have e1 : a'.eval (.tmp 106) = _ := ((hS 47 106 rfl D47).trans (hV 47 D47)); simp only [List.map_toArray, List.map_cons, List.map_nil, e0, e1]
      · exact (SXB.out w5 hU).mono fun e w' ⟨he, hu⟩ => ⟨_, he, rfl, hu⟩
      · rintro u w6 ⟨rfl, hu⟩; exact ⟨_, rfl, rfl, hu⟩
    · have D45 := haf ⟨45, .guard⟩ (by simp) rfl
      have D48 := haf ⟨48, .data⟩ (by simp) rfl
      exact ops_wpG rfl ((wanted_of rfl rfl ((hS 45 104 rfl D45).trans (hV 45 D45))).trans rfl) (wp_move (.tmp 107) rfl _ ((hS 48 107 rfl D48).trans (hV 48 D48)) ⟨_, rfl, rfl, Upd.refl _ _⟩)
    · have D49 := haf ⟨49, .guard⟩ (by simp) rfl
      exact ops_wpG rfl ((wanted_of rfl rfl ((hS 49 108 rfl D49).trans (hV 49 D49))).trans rfl) (wp_load_row 26 (.tmp 8) rfl _ (hA.ev 8 (by decide)) 26 _ (0, 0) _ (ty5.mono hU (by simp)) hdesc rfl (by rw [info_term]; rfl) ⟨_, rfl, rfl, Upd.refl _ _⟩)
    · have D49 := haf ⟨49, .guard⟩ (by simp) rfl
      exact ops_wpG rfl ((wanted_of rfl rfl ((hS 49 108 rfl D49).trans (hV 49 D49))).trans rfl) (wp_load_row 26 (.tmp 2) rfl _ (hA.ev 2 (by decide)) 26 _ (0, 0) _ (tA5.mono hU (by simp)) hdesc rfl (by rw [info_term]; rfl) ⟨_, rfl, rfl, Upd.refl _ _⟩)
    · have D49 := haf ⟨49, .chain⟩ (by simp) rfl
      have D50 := haf ⟨50, .data⟩ (by simp) rfl
      have D51 := haf ⟨51, .data⟩ (by simp) rfl
      refine ops_wpG rfl ((wanted_of rfl rfl ((hS 49 108 rfl D49).trans (hV 49 D49))).trans rfl) (wp_callA rfl Tryz.call10 (vs := #[.agg #[.int .u8 k4, .bool g4, .slice a41 n41 c41, .string s4, .int .i64 m4, .slice a42 n42 c42, .slice a43 n43 c43], .agg #[.int .u8 k1, .bool g1, .slice a11 n11 c11, .string s1, .int .i64 m1, .slice a12 n12 c12, .slice a13 n13 c13]]) ?_ (R := fun u w' => u = .bool true ∧ Upd [] w5 w') ?_ ?_)
      · have e0 : a'.eval (.tmp 109) = _ := ((hS 50 109 rfl D50).trans (hV 50 D50)); have e1 : a'.eval (.tmp 110) = _ := ((hS 51 110 rfl D51).trans (hV 51 D51)); simp only [List.map_toArray, List.map_cons, List.map_nil, e0, e1]
      · exact (SYA.out w5 hU).mono fun e w' ⟨he, hu⟩ => ⟨_, he, rfl, hu⟩
      · rintro u w6 ⟨rfl, hu⟩; exact ⟨_, rfl, rfl, hu⟩
    · have D45 := haf ⟨45, .guard⟩ (by simp) rfl
      have D49 := haf ⟨49, .data⟩ (by simp) rfl
      have D52 := haf ⟨52, .data⟩ (by simp) rfl
      exact ops_wpG rfl ((wanted_of rfl rfl ((hS 45 104 rfl D45).trans (hV 45 D45))).trans rfl) (wp_pickT (.tmp 108) (.tmp 111) (.const (.bool false)) rfl ((hS 49 108 rfl D49).trans (hV 49 D49)) _ ((hS 52 111 rfl D52).trans (hV 52 D52)) ⟨_, rfl, rfl, Upd.refl _ _⟩)
    · have D36 := haf ⟨36, .guard⟩ (by simp) rfl
      have D45 := haf ⟨45, .data⟩ (by simp) rfl
      have D53 := haf ⟨53, .data⟩ (by simp) rfl
      exact ops_wpG rfl ((wanted_of rfl rfl ((hS 36 95 rfl D36).trans (hV 36 D36))).trans rfl) (wp_pickF (.tmp 104) (.const (.bool true)) (.tmp 112) rfl ((hS 45 104 rfl D45).trans (hV 45 D45)) _ ((hS 53 112 rfl D53).trans (hV 53 D53)) ⟨_, rfl, rfl, Upd.refl _ _⟩)
    · have D36 := haf ⟨36, .data⟩ (by simp) rfl
      have D54 := haf ⟨54, .data⟩ (by simp) rfl
      exact ops_wp rfl rfl (wp_pickT (.tmp 95) (.tmp 113) (.const (.bool false)) rfl ((hS 36 95 rfl D36).trans (hV 36 D36)) _ ((hS 54 113 rfl D54).trans (hV 54 D54)) ⟨_, rfl, rfl, Upd.refl _ _⟩)
    · have D55 := haf ⟨55, .data⟩ (by simp) rfl
      exact ops_wp rfl rfl (wp_move (.tmp 114) rfl _ ((hS 55 114 rfl D55).trans (hV 55 D55)) ⟨_, rfl, rfl, Upd.refl _ _⟩)
    · have D56 := haf ⟨56, .guard⟩ (by simp) rfl
      exact ops_wpG rfl ((wanted_of rfl rfl ((hS 56 115 rfl D56).trans (hV 56 D56))).trans rfl) (wp_load_row 26 (.tmp 2) rfl _ (hA.ev 2 (by decide)) 26 _ (0, 0) _ (tA5.mono hU (by simp)) hdesc rfl (by rw [info_term]; rfl) ⟨_, rfl, rfl, Upd.refl _ _⟩)
    · have D56 := haf ⟨56, .guard⟩ (by simp) rfl
      exact ops_wpG rfl ((wanted_of rfl rfl ((hS 56 115 rfl D56).trans (hV 56 D56))).trans rfl) (wp_load_row 26 (.tmp 3) rfl _ (hA.ev 3 (by decide)) 26 _ (0, 0) _ (tB5.mono hU (by simp)) hdesc rfl (by rw [info_term]; rfl) ⟨_, rfl, rfl, Upd.refl _ _⟩)
    · have D56 := haf ⟨56, .guard⟩ (by simp) rfl
      have D57 := haf ⟨57, .data⟩ (by simp) rfl
      have D58 := haf ⟨58, .data⟩ (by simp) rfl
      exact ops_wpG rfl ((wanted_of rfl rfl ((hS 56 115 rfl D56).trans (hV 56 D56))).trans rfl) (wp_bs2 (.tmp 116) (.tmp 117) rfl _ _ _ _ _ _ _ _ _ _ _ _ _ _ _ _ _ _ _ _ _ _ _ _ _ _ ((hS 57 116 rfl D57).trans (hV 57 D57)) ((hS 58 117 rfl D58).trans (hV 58 D58)) ⟨_, rfl, ⟨_, rfl, Tb.new _ _ _ rfl⟩, (Upd.refl [] w5).alloc _⟩)
    · have D56 := haf ⟨56, .chain⟩ (by simp) rfl
      have D59 := haf ⟨59, .data⟩ (by simp) rfl
      obtain ⟨gg, eg, htg⟩ := hV 59 D59
      refine ops_wpG rfl ((wanted_of rfl rfl ((hS 56 115 rfl D56).trans (hV 56 D56))).trans rfl) (wp_callA rfl Tryz.call8 (vs := #[.string ⟨#[61, 60]⟩, .slice (some ⟨gg, 0, none⟩) 2 2]) ?_ (R := fun u w' => u = .bool true ∧ Upd [] w5 w') ?_ ?_)
      · have e0 : a'.eval (.tmp 118) = _ := (hS 59 118 rfl D59).trans eg; simp only [List.map_toArray, List.map_cons, List.map_nil, e0]; rfl
      · exact (YleAB.out w5 gg hU htg).mono fun e w' ⟨he, hu⟩ => ⟨_, he, rfl, hu⟩
      · rintro u w6 ⟨rfl, hu⟩; exact ⟨_, rfl, rfl, hu⟩
    · have D56 := haf ⟨56, .guard⟩ (by simp) rfl
      exact ops_wpG rfl ((wanted_of rfl rfl ((hS 56 115 rfl D56).trans (hV 56 D56))).trans rfl) (wp_load_row 26 (.tmp 2) rfl _ (hA.ev 2 (by decide)) 26 _ (0, 0) _ (tA5.mono hU (by simp)) hdesc rfl (by rw [info_term]; rfl) ⟨_, rfl, rfl, Upd.refl _ _⟩)
    · have D56 := haf ⟨56, .guard⟩ (by simp) rfl
      exact ops_wpG rfl ((wanted_of rfl rfl ((hS 56 115 rfl D56).trans (hV 56 D56))).trans rfl) (wp_load_row 26 (.tmp 3) rfl _ (hA.ev 3 (by decide)) 26 _ (0, 0) _ (tB5.mono hU (by simp)) hdesc rfl (by rw [info_term]; rfl) ⟨_, rfl, rfl, Upd.refl _ _⟩)
    · have D56 := haf ⟨56, .guard⟩ (by simp) rfl
      have D61 := haf ⟨61, .data⟩ (by simp) rfl
      have D62 := haf ⟨62, .data⟩ (by simp) rfl
      exact ops_wpG rfl ((wanted_of rfl rfl ((hS 56 115 rfl D56).trans (hV 56 D56))).trans rfl) (wp_bs2 (.tmp 120) (.tmp 121) rfl _ _ _ _ _ _ _ _ _ _ _ _ _ _ _ _ _ _ _ _ _ _ _ _ _ _ ((hS 61 120 rfl D61).trans (hV 61 D61)) ((hS 62 121 rfl D62).trans (hV 62 D62)) ⟨_, rfl, ⟨_, rfl, Tb.new _ _ _ rfl⟩, (Upd.refl [] w5).alloc _⟩)
    · have D56 := haf ⟨56, .guard⟩ (by simp) rfl
      have D63 := haf ⟨63, .data⟩ (by simp) rfl
      obtain ⟨gg, eg, htg⟩ := hV 63 D63
      refine ops_wpG rfl ((wanted_of rfl rfl ((hS 56 115 rfl D56).trans (hV 56 D56))).trans rfl) (wp_callA rfl Tryz.call8 (vs := #[.string ⟨#[62]⟩, .slice (some ⟨gg, 0, none⟩) 2 2]) ?_ (R := fun u w' => u = .bool false ∧ Upd [] w5 w') ?_ ?_)
      · have e0 : a'.eval (.tmp 122) = _ := (hS 63 122 rfl D63).trans eg; simp only [List.map_toArray, List.map_cons, List.map_nil, e0]; rfl
      · exact (YgtAB.out w5 gg hU htg).mono fun e w' ⟨he, hu⟩ => ⟨_, he, rfl, hu⟩
      · rintro u w6 ⟨rfl, hu⟩; exact ⟨_, rfl, rfl, hu⟩
    · have D56 := haf ⟨56, .guard⟩ (by simp) rfl
      have D64 := haf ⟨64, .data⟩ (by simp) rfl
      exact ops_wpG rfl ((wanted_of rfl rfl ((hS 56 115 rfl D56).trans (hV 56 D56))).trans rfl) (wp_not (.tmp 123) rfl _ ((hS 64 123 rfl D64).trans (hV 64 D64)) ⟨_, rfl, rfl, Upd.refl _ _⟩)
    · have D56 := haf ⟨56, .guard⟩ (by simp) rfl
      have D60 := haf ⟨60, .data⟩ (by simp) rfl
      have D65 := haf ⟨65, .data⟩ (by simp) rfl
      exact ops_wpG rfl ((wanted_of rfl rfl ((hS 56 115 rfl D56).trans (hV 56 D56))).trans rfl) (wp_eql2B (.tmp 119) (.tmp 124) rfl _ _ ((hS 60 119 rfl D60).trans (hV 60 D60)) ((hS 65 124 rfl D65).trans (hV 65 D65)) ⟨_, rfl, rfl, Upd.refl _ _⟩)
    · have D56 := haf ⟨56, .data⟩ (by simp) rfl
      have D66 := haf ⟨66, .data⟩ (by simp) rfl
      exact ops_wp rfl rfl (wp_pickT (.tmp 115) (.tmp 125) (.const (.bool false)) rfl ((hS 56 115 rfl D56).trans (hV 56 D56)) _ ((hS 66 125 rfl D66).trans (hV 66 D66)) ⟨_, rfl, rfl, Upd.refl _ _⟩)
  · intro vs a' w5 o' hv hA hU hV hS ho
    cases ho
    have e126 : a'.eval (.tmp 126) = .bool true := (hS 67 126 rfl (by omega)).trans (hV 67 (by omega))
    refine ops_wp rfl rfl (wp_asg (.tmp 126) rfl _ e126 ⟨_, rfl, ?_⟩)
    show K1 _ _
    refine hK1 _ _ ?_
    refine wp_ret_end ?_
    show bodyPost Tryz.prog Tryz.f3 (fun e w' => e = .returned (.bool true) ∧ Upd [] w w') .ret (putAll _ _ _) w5
    exact put_end (i := 68) rfl rfl (by simpa using hv) (of_decide_eq_true (by kernel_rfl)) rfl (of_decide_eq_true rfl) (by rw [List.getD_eq_getElem?_getD, List.getElem?_set_self (by omega)]; rfl) ⟨rfl, U11.out.trans hU⟩


end Go.Proofs.YtnpocmhaoaigfaaGreatDoor

/- BifOrder, walked. -/
namespace Go.Proofs.YtnpocmhaoaigfaaGreatDoor
open Go.RowKit

set_option maxHeartbeats 16000000 in
set_option maxRecDepth 100000 in
theorem Order_eq (w : World) (d : Nat) (cs0 cs1 : List Value) (t u : Tm) (hB : Blt w) (h0 : In w (d + 1) cs0 t) (h1 : In w (d + 1) cs1 u) (z0 : tsz t ≤ 1353245080330) (z1 : tsz u ≤ 1353245080330) (e0 : okS t = true) (e1 : okS u = true) (hc : cmpS t u = 0) (hyx : decide (cmpS t t ≤ 0) = true) (hXA : samS t t = true) (hYB : samS t u = true) :
    Calls Tryz.prog 3 #[.agg cs0.toArray, .agg cs1.toArray] w fun e w' => e = .returned (.bool true) ∧ Upd [] w w' := by
  obtain ⟨k1, m1, g1, s1, a11, a12, a13, n11, n12, n13, c11, c12, c13, rfl⟩ := In.shape h0
  obtain ⟨k2, m2, g2, s2, a21, a22, a23, n21, n22, n23, c21, c22, c23, rfl⟩ := In.shape h1
  obtain ⟨o0, ho0⟩ : ∃ o, o = true := ⟨_, rfl⟩
  obtain ⟨o1, ho1⟩ : ∃ o, o = true := ⟨_, rfl⟩
  have HO : Hid (okS t = o0 ∧ okS u = o1) := by rw [ho0, ho1]; exact ⟨e0, e1⟩
  have HC : Hid (cmpS t u = 0) := hc
  clear e0 e1 hc
  have HYX : Hid (decide (cmpS t t ≤ 0) = true) := hyx
  have HXA : Hid (samS t t = true) := hXA
  have HYB : Hid (samS t u = true) := hYB
  clear hyx hXA hYB
  have HB : Hid (Blt w) := hB
  have H0 : Hid (In w (d + 1) [.int .u8 k1, .bool g1, .slice a11 n11 c11, .string s1, .int .i64 m1, .slice a12 n12 c12, .slice a13 n13 c13] t) := h0
  have H1 : Hid (In w (d + 1) [.int .u8 k2, .bool g2, .slice a21 n21 c21, .string s2, .int .i64 m2, .slice a22 n22 c22, .slice a23 n23 c23] u) := h1
  have Z : Hid (tsz t ≤ 1353245080330 ∧ tsz u ≤ 1353245080330) := ⟨z0, z1⟩
  have ROW : Hid (∀ W g, Upd [] w W → Tb W g #[.int .u8 k1, .bool g1, .slice a11 n11 c11, .string s1, .int .i64 m1, .slice a12 n12 c12, .slice a13 n13 c13, .int .u8 k2, .bool g2, .slice a21 n21 c21, .string s2, .int .i64 m2, .slice a22 n22 c22, .slice a23 n23 c23] → RowAt (In W (d + 1)) W (some ⟨g, 0, none⟩) [t, u]) := fun W g hu hT => row_two hT (In.mono hu _ _ _ h0) (In.mono hu _ _ _ h1)
  have SM : Hid (∀ W g, Upd [] w W → Tb W g #[.int .u8 k1, .bool g1, .slice a11 n11 c11, .string s1, .int .i64 m1, .slice a12 n12 c12, .slice a13 n13 c13, .int .u8 k2, .bool g2, .slice a21 n21 c21, .string s2, .int .i64 m2, .slice a22 n22 c22, .slice a23 n23 c23] → Calls Tryz.prog 6 #[.slice (some ⟨g, 0, none⟩) 2 2] W fun e w' => IsBool e ∧ Upd [] W w') := fun W g hu hT => small_in (d + 1) W _ 2 [t, u] (ROW.out W g hu hT) (tszs_le _ _ (by simp) (fun i hi => by
    have : i = 0 ∨ i = 1 := by simp at hi; omega
    rcases this with rfl | rfl
    · exact z0
    · exact z1))
  have tA : Tb ((w.alloc (.cells #[.int .u8 k1, .bool g1, .slice a11 n11 c11, .string s1, .int .i64 m1, .slice a12 n12 c12, .slice a13 n13 c13] 26)).alloc (.cells #[.int .u8 k2, .bool g2, .slice a21 n21 c21, .string s2, .int .i64 m2, .slice a22 n22 c22, .slice a23 n23 c23] 26)) w.heap.size #[.int .u8 k1, .bool g1, .slice a11 n11 c11, .string s1, .int .i64 m1, .slice a12 n12 c12, .slice a13 n13 c13] := (Tb.new _ _ _ rfl).old _
  have tB : Tb ((w.alloc (.cells #[.int .u8 k1, .bool g1, .slice a11 n11 c11, .string s1, .int .i64 m1, .slice a12 n12 c12, .slice a13 n13 c13] 26)).alloc (.cells #[.int .u8 k2, .bool g2, .slice a21 n21 c21, .string s2, .int .i64 m2, .slice a22 n22 c22, .slice a23 n23 c23] 26)) (w.heap.size + 1) #[.int .u8 k2, .bool g2, .slice a21 n21 c21, .string s2, .int .i64 m2, .slice a22 n22 c22, .slice a23 n23 c23] := Tb.new _ _ _ (by simp)
  have HU0 : Hid (Upd [] w ((w.alloc (.cells #[.int .u8 k1, .bool g1, .slice a11 n11 c11, .string s1, .int .i64 m1, .slice a12 n12 c12, .slice a13 n13 c13] 26)).alloc (.cells #[.int .u8 k2, .bool g2, .slice a21 n21 c21, .string s2, .int .i64 m2, .slice a22 n22 c22, .slice a23 n23 c23] 26))) := ((Upd.refl [] w).alloc _).alloc _
  clear h0 h1 hB z0 z1
  go_enter Tryz.func3, Tryz.ntmps3
  go_wp2_with fail
  refine Calls.mono (awake_any _ (HB.out.mono HU0.out)) ?_
  rintro e w1 ⟨rfl, v1⟩
  have U1 : Hid (Upd [] w w1) := HU0.out.trans v1
  have tA1 := tA.mono v1 (by simp)
  have tB1 := tB.mono v1 (by simp)
  clear v1 tA tB HU0
  go_wp2_with (first | (refine load_G _ _ rfl _ _ rfl tA1 rfl rfl ?_) | (refine load_G _ _ rfl _ _ rfl tB1 rfl rfl ?_) | fail)
  refine Calls.mono (SM.out _ _ (U1.out.alloc _) (Tb.new _ _ _ rfl)) ?_
  rintro e w2 ⟨⟨g, rfl⟩, v2⟩
  have hv : Upd [] w1 w2 := Upd.trans ((Upd.refl [] w1).alloc _) v2
  have U2 : Hid (Upd [] w w2) := U1.out.trans hv
  have tA2 := tA1.mono hv (by simp)
  have tB2 := tB1.mono hv (by simp)
  clear v2 hv tA1 tB1 U1 SM
  cases g with
  | false =>
    clear tA2 tB2
    go_wp2
    go_ret
    exact ⟨rfl, U2.out⟩
  | true =>
  have RA : Hid (∀ W, Upd [] w W → Calls Tryz.prog 7 #[.agg #[.int .u8 k1, .bool g1, .slice a11 n11 c11, .string s1, .int .i64 m1, .slice a12 n12 c12, .slice a13 n13 c13]] W fun e w' => e = .returned (.bool o0) ∧ Upd [] W w') := fun W hu => by rw [← HO.out.1]; exact TRight_in (d + 1) W _ t (In.mono hu _ _ _ H0.out) Z.out.1
  have RB : Hid (∀ W, Upd [] w W → Calls Tryz.prog 7 #[.agg #[.int .u8 k2, .bool g2, .slice a21 n21 c21, .string s2, .int .i64 m2, .slice a22 n22 c22, .slice a23 n23 c23]] W fun e w' => e = .returned (.bool o1) ∧ Upd [] W w') := fun W hu => by rw [← HO.out.2]; exact TRight_in (d + 1) W _ u (In.mono hu _ _ _ H1.out) Z.out.2
  go_wp2_with (first | (refine load_G _ _ rfl _ _ rfl tA2 rfl rfl ?_) | fail)
  refine Calls.mono (RA.out _ U2.out) ?_
  rintro e w3 ⟨rfl, v3⟩
  have U3 : Hid (Upd [] w w3) := U2.out.trans v3
  have tA3 := tA2.mono v3 (by simp)
  have tB3 := tB2.mono v3 (by simp)
  clear v3 tA2 tB2 U2 RA
  subst ho0
  subst ho1
  go_wp2_with (first | (refine load_G _ _ rfl _ _ rfl tB3 rfl rfl ?_) | fail)
  refine Calls.mono (RB.out _ U3.out) ?_
  rintro e w4 ⟨rfl, v4⟩
  have U4 : Hid (Upd [] w w4) := U3.out.trans v4
  have tA4 := tA3.mono v4 (by simp)
  have tB4 := tB3.mono v4 (by simp)
  clear v4 tA3 tB3 U3 RB
  go_wp2_with (first | (refine load_G _ _ rfl _ _ rfl tA4 rfl rfl ?_) | (refine load_G _ _ rfl _ _ rfl tB4 rfl rfl ?_) | fail)
  refine Calls.mono (yes_lt (r := false) _ _ (HB.out.mono (U4.out.alloc _)) (ROW.out _ _ (U4.out.alloc _) (Tb.new _ _ _ rfl)) HO.out.1 HO.out.2 (by rw [HC.out]; decide)) ?_
  rintro e w5 ⟨rfl, vv⟩
  have hv : Upd [] w4 w5 := Upd.trans ((Upd.refl [] w4).alloc _) vv
  have U5 : Hid (Upd [] w w5) := U4.out.trans hv
  have tA5 := tA4.mono hv (by simp)
  have tB5 := tB4.mono hv (by simp)
  clear vv hv tA4 tB4 U4
  go_wp2_with (first | (refine load_G _ _ rfl _ _ rfl tA5 rfl rfl ?_) | (refine load_G _ _ rfl _ _ rfl tB5 rfl rfl ?_) | fail)
  refine Calls.mono (yes_eq (r := true) _ _ (HB.out.mono (U5.out.alloc _)) (ROW.out _ _ (U5.out.alloc _) (Tb.new _ _ _ rfl)) HO.out.1 HO.out.2 (by rw [HC.out]; decide)) ?_
  rintro e w6 ⟨rfl, vv⟩
  have hv : Upd [] w5 w6 := Upd.trans ((Upd.refl [] w5).alloc _) vv
  have U6 : Hid (Upd [] w w6) := U5.out.trans hv
  have tA6 := tA5.mono hv (by simp)
  have tB6 := tB5.mono hv (by simp)
  clear vv hv tA5 tB5 U5
  go_wp2_with (first | (refine load_G _ _ rfl _ _ rfl tA6 rfl rfl ?_) | (refine load_G _ _ rfl _ _ rfl tB6 rfl rfl ?_) | fail)
  refine Calls.mono (yes_gt (r := false) _ _ (HB.out.mono (U6.out.alloc _)) (ROW.out _ _ (U6.out.alloc _) (Tb.new _ _ _ rfl)) HO.out.1 HO.out.2 (by rw [HC.out]; decide)) ?_
  rintro e w7 ⟨rfl, vv⟩
  have hv : Upd [] w6 w7 := Upd.trans ((Upd.refl [] w6).alloc _) vv
  have U7 : Hid (Upd [] w w7) := U6.out.trans hv
  have tA7 := tA6.mono hv (by simp)
  have tB7 := tB6.mono hv (by simp)
  clear vv hv tA6 tB6 U6
  go_wp2_with (first | (refine load_G _ _ rfl _ _ rfl tA7 rfl rfl ?_) | (refine load_G _ _ rfl _ _ rfl tB7 rfl rfl ?_) | fail)
  refine Calls.mono (lc_max (v := t) _ _ (HB.out.mono (U7.out.alloc _)) (ROW.out _ _ (U7.out.alloc _) (Tb.new _ _ _ rfl)) HO.out.1 HO.out.2 (by rw [HC.out]; rfl)) ?_
  rintro e w8 ⟨cs, v, l7, rfl, hin, hveq, vv⟩
  rw [hveq] at hin
  have hv : Upd [] w7 w8 := Upd.trans ((Upd.refl [] w7).alloc _) vv
  have on8 := hin.plain.one
  obtain ⟨k3, m3, g3, s3, a31, a32, a33, n31, n32, n33, c31, c32, c33, rfl⟩ := In.shape hin.plain
  have Hx : Hid (In w8 (d + 1) [.int .u8 k3, .bool g3, .slice a31 n31 c31, .string s3, .int .i64 m3, .slice a32 n32 c32, .slice a33 n33 c33] t) := hin.plain
  have U8 : Hid (Upd [] w w8) := U7.out.trans hv
  have tA8 := tA7.mono hv (by simp)
  have tB8 := tB7.mono hv (by simp)
  have tz8 : Tb (w8.alloc (.cells #[.int .u8 0, .bool false, .slice none 0 0, .string ⟨#[]⟩, .int .i64 0, .slice none 0 0, .slice none 0 0] 26)) w8.heap.size #[.int .u8 0, .bool false, .slice none 0 0, .string ⟨#[]⟩, .int .i64 0, .slice none 0 0, .slice none 0 0] := Tb.new _ _ _ rfl
  clear vv hv tA7 tB7 U7 hin l7 hveq
  go_wp2_with (first | (refine store_T _ rfl _ _ rfl _ #[.int .u8 k3, .bool g3, .slice a31 n31 c31, .string s3, .int .i64 m3, .slice a32 n32 c32, .slice a33 n33 c33] _ rfl rfl tz8 rfl rfl on8 ?_; intro w9 tx9 hU9; have V9 : Hid (Upd [] w8 w9) := ((Upd.refl [] w8).alloc _).then hU9 (by simp); have U9 : Hid (Upd [] w w9) := U8.out.trans V9.out; have tA9 := tA8.mono V9.out (by simp); have tB9 := tB8.mono V9.out (by simp); clear hU9 tz8 tA8 tB8) | (refine load_G _ _ rfl _ _ rfl tA9 rfl rfl ?_) | (refine load_G _ _ rfl _ _ rfl tB9 rfl rfl ?_) | fail)
  refine Calls.mono (lc_min (v := t) _ _ (HB.out.mono (U9.out.alloc _)) (ROW.out _ _ (U9.out.alloc _) (Tb.new _ _ _ rfl)) HO.out.1 HO.out.2 (by rw [HC.out]; rfl)) ?_
  rintro e w10 ⟨cs, v, l7, rfl, hin, hveq, vv⟩
  rw [hveq] at hin
  have hv : Upd [] w9 w10 := Upd.trans ((Upd.refl [] w9).alloc _) vv
  have on10 := hin.plain.one
  obtain ⟨k4, m4, g4, s4, a41, a42, a43, n41, n42, n43, c41, c42, c43, rfl⟩ := In.shape hin.plain
  have Hy : Hid (In w10 (d + 1) [.int .u8 k4, .bool g4, .slice a41 n41 c41, .string s4, .int .i64 m4, .slice a42 n42 c42, .slice a43 n43 c43] t) := hin.plain
  have U10 : Hid (Upd [] w w10) := U9.out.trans hv
  have tA10 := tA9.mono hv (by simp)
  have tB10 := tB9.mono hv (by simp)
  have tz10 : Tb (w10.alloc (.cells #[.int .u8 0, .bool false, .slice none 0 0, .string ⟨#[]⟩, .int .i64 0, .slice none 0 0, .slice none 0 0] 26)) w10.heap.size #[.int .u8 0, .bool false, .slice none 0 0, .string ⟨#[]⟩, .int .i64 0, .slice none 0 0, .slice none 0 0] := Tb.new _ _ _ rfl
  have tx10 := tx9.mono hv (by simp)
  have V10 : Hid (Upd [] w9 w10) := hv
  clear vv hv tA9 tB9 U9 hin l7 tx9 hveq
  go_wp2_with (first | (refine store_T _ rfl _ _ rfl _ #[.int .u8 k4, .bool g4, .slice a41 n41 c41, .string s4, .int .i64 m4, .slice a42 n42 c42, .slice a43 n43 c43] _ rfl rfl tz10 rfl rfl on10 ?_; intro w11 ty11 hU11; have V11 : Hid (Upd [] w10 w11) := ((Upd.refl [] w10).alloc _).then hU11 (by simp); have U11 : Hid (Upd [] w w11) := U10.out.trans V11.out; have tA11 := tA10.mono V11.out (by simp); have tB11 := tB10.mono V11.out (by simp); have tx11 := tx10.mono V11.out (by simp); clear hU11 tz10 tA10 tB10 tx10) | fail)
  rename_i K1 hK1
  have Hx9 : Hid (In w9 (d + 1) [.int .u8 k3, .bool g3, .slice a31 n31 c31, .string s3, .int .i64 m3, .slice a32 n32 c32, .slice a33 n33 c33] t) := In.mono V9.out _ _ _ Hx.out
  have YleYX : Hid (∀ W g, Upd [] w11 W → Tb W g #[.int .u8 k4, .bool g4, .slice a41 n41 c41, .string s4, .int .i64 m4, .slice a42 n42 c42, .slice a43 n43 c43, .int .u8 k3, .bool g3, .slice a31 n31 c31, .string s3, .int .i64 m3, .slice a32 n32 c32, .slice a33 n33 c33] → Calls Tryz.prog 8 #[.string ⟨#[61, 60]⟩, .slice (some ⟨g, 0, none⟩) 2 2] W fun e w' => e = .returned (.bool true) ∧ Upd [] W w') := fun W g hu hT => yes_le _ W (HB.out.mono (U11.out.trans hu)) (row_two hT (In.mono (V11.out.trans hu) _ _ _ Hy.out) (In.mono ((V10.out.trans V11.out).trans hu) _ _ _ Hx9.out)) HO.out.1 HO.out.1 HYX.out
  have YeqAB : Hid (∀ W g, Upd [] w11 W → Tb W g #[.int .u8 k1, .bool g1, .slice a11 n11 c11, .string s1, .int .i64 m1, .slice a12 n12 c12, .slice a13 n13 c13, .int .u8 k2, .bool g2, .slice a21 n21 c21, .string s2, .int .i64 m2, .slice a22 n22 c22, .slice a23 n23 c23] → Calls Tryz.prog 8 #[.string ⟨#[61, 61]⟩, .slice (some ⟨g, 0, none⟩) 2 2] W fun e w' => e = .returned (.bool true) ∧ Upd [] W w') := fun W g hu hT => yes_eq _ W (HB.out.mono (U11.out.trans hu)) (row_two hT (In.mono (U11.out.trans hu) _ _ _ H0.out) (In.mono (U11.out.trans hu) _ _ _ H1.out)) HO.out.1 HO.out.2 (by rw [HC.out]; decide)
  have YeeAB : Hid (∀ W g, Upd [] w11 W → Tb W g #[.int .u8 k1, .bool g1, .slice a11 n11 c11, .string s1, .int .i64 m1, .slice a12 n12 c12, .slice a13 n13 c13, .int .u8 k2, .bool g2, .slice a21 n21 c21, .string s2, .int .i64 m2, .slice a22 n22 c22, .slice a23 n23 c23] → Calls Tryz.prog 8 #[.string ⟨#[61, 58, 61]⟩, .slice (some ⟨g, 0, none⟩) 2 2] W fun e w' => e = .returned (.bool true) ∧ Upd [] W w') := fun W g hu hT => yes_ee _ W (HB.out.mono (U11.out.trans hu)) (row_two hT (In.mono (U11.out.trans hu) _ _ _ H0.out) (In.mono (U11.out.trans hu) _ _ _ H1.out)) HO.out.1 HO.out.2 (by rw [HC.out]; decide)
  have YneAB : Hid (∀ W g, Upd [] w11 W → Tb W g #[.int .u8 k1, .bool g1, .slice a11 n11 c11, .string s1, .int .i64 m1, .slice a12 n12 c12, .slice a13 n13 c13, .int .u8 k2, .bool g2, .slice a21 n21 c21, .string s2, .int .i64 m2, .slice a22 n22 c22, .slice a23 n23 c23] → Calls Tryz.prog 8 #[.string ⟨#[47, 61]⟩, .slice (some ⟨g, 0, none⟩) 2 2] W fun e w' => e = .returned (.bool false) ∧ Upd [] W w') := fun W g hu hT => yes_ne _ W (HB.out.mono (U11.out.trans hu)) (row_two hT (In.mono (U11.out.trans hu) _ _ _ H0.out) (In.mono (U11.out.trans hu) _ _ _ H1.out)) HO.out.1 HO.out.2 (by rw [HC.out]; decide)
  have SXA : Hid (∀ W, Upd [] w11 W → Calls Tryz.prog 10 #[.agg #[.int .u8 k3, .bool g3, .slice a31 n31 c31, .string s3, .int .i64 m3, .slice a32 n32 c32, .slice a33 n33 c33], .agg #[.int .u8 k1, .bool g1, .slice a11 n11 c11, .string s1, .int .i64 m1, .slice a12 n12 c12, .slice a13 n13 c13]] W fun e w' => e = .returned (.bool true) ∧ Upd [] W w') := fun W hu => by
    rw [← HXA.out]
    exact TSame_in (d + 1) W _ _ _ _ (In.mono ((V10.out.trans V11.out).trans hu) _ _ _ Hx9.out) (In.mono (U11.out.trans hu) _ _ _ H0.out) (okS_tsz HO.out.1) (okS_tsz HO.out.1)
  have SYB : Hid (∀ W, Upd [] w11 W → Calls Tryz.prog 10 #[.agg #[.int .u8 k4, .bool g4, .slice a41 n41 c41, .string s4, .int .i64 m4, .slice a42 n42 c42, .slice a43 n43 c43], .agg #[.int .u8 k2, .bool g2, .slice a21 n21 c21, .string s2, .int .i64 m2, .slice a22 n22 c22, .slice a23 n23 c23]] W fun e w' => e = .returned (.bool true) ∧ Upd [] W w') := fun W hu => by
    rw [← HYB.out]
    exact TSame_in (d + 1) W _ _ _ _ (In.mono (V11.out.trans hu) _ _ _ Hy.out) (In.mono (U11.out.trans hu) _ _ _ H1.out) (okS_tsz HO.out.1) (okS_tsz HO.out.2)
  have YleAB : Hid (∀ W g, Upd [] w11 W → Tb W g #[.int .u8 k1, .bool g1, .slice a11 n11 c11, .string s1, .int .i64 m1, .slice a12 n12 c12, .slice a13 n13 c13, .int .u8 k2, .bool g2, .slice a21 n21 c21, .string s2, .int .i64 m2, .slice a22 n22 c22, .slice a23 n23 c23] → Calls Tryz.prog 8 #[.string ⟨#[61, 60]⟩, .slice (some ⟨g, 0, none⟩) 2 2] W fun e w' => e = .returned (.bool true) ∧ Upd [] W w') := fun W g hu hT => yes_le _ W (HB.out.mono (U11.out.trans hu)) (row_two hT (In.mono (U11.out.trans hu) _ _ _ H0.out) (In.mono (U11.out.trans hu) _ _ _ H1.out)) HO.out.1 HO.out.2 (by rw [HC.out]; decide)
  have YgtAB : Hid (∀ W g, Upd [] w11 W → Tb W g #[.int .u8 k1, .bool g1, .slice a11 n11 c11, .string s1, .int .i64 m1, .slice a12 n12 c12, .slice a13 n13 c13, .int .u8 k2, .bool g2, .slice a21 n21 c21, .string s2, .int .i64 m2, .slice a22 n22 c22, .slice a23 n23 c23] → Calls Tryz.prog 8 #[.string ⟨#[62]⟩, .slice (some ⟨g, 0, none⟩) 2 2] W fun e w' => e = .returned (.bool false) ∧ Upd [] W w') := fun W g hu hT => yes_gt _ W (HB.out.mono (U11.out.trans hu)) (row_two hT (In.mono (U11.out.trans hu) _ _ _ H0.out) (In.mono (U11.out.trans hu) _ _ _ H1.out)) HO.out.1 HO.out.2 (by rw [HC.out]; decide)
  have tA5 := tA11
  have tB5 := tB11
  have tx5 := tx11
  have ty5 := ty11
  obtain ⟨fs, hdesc⟩ := term_desc
  dsimp only [List.append]
  refine region_last (by kernel_rfl) 68 rfl [some 59, some 60, some 61, some 62, some 63, some 64, some 65, some 66, some 67, some 68, some 69, some 70, some 71, some 72, some 73, some 74, some 75, some 76, some 77, some 78, some 79, some 80, some 81, some 82, some 83, some 84, some 85, some 86, some 87, some 88, some 89, some 90, some 91, some 92, some 93, some 94, some 95, some 96, some 97, some 98, some 99, some 100, some 101, some 102, some 103, some 104, some 105, some 106, some 107, some 108, some 109, some 110, some 111, some 112, some 113, some 114, some 115, some 116, some 117, some 118, some 119, some 120, some 121, some 122, some 123, some 124, some 125, some 126, some 4] rfl (of_decide_eq_true (by kernel_rfl)) rfl (by kernel_rfl) (by kernel_rfl) (fun j v w' => match j with | 0 => v = .int .i64 1 | 1 => v = .bool true | 2 => v = .bool true | 3 => v = .bool true | 4 => v = .bool true | 5 => v = .bool true | 6 => v = .bool true | 7 => v = .bool true | 8 => v = .bool true | 9 => v = .agg #[.int .u8 k4, .bool g4, .slice a41 n41 c41, .string s4, .int .i64 m4, .slice a42 n42 c42, .slice a43 n43 c43] | 10 => v = .agg #[.int .u8 k3, .bool g3, .slice a31 n31 c31, .string s3, .int .i64 m3, .slice a32 n32 c32, .slice a33 n33 c33] | 11 => ∃ g, v = .slice (some ⟨g, 0, none⟩) 2 2 ∧ Tb w' g #[.int .u8 k4, .bool g4, .slice a41 n41 c41, .string s4, .int .i64 m4, .slice a42 n42 c42, .slice a43 n43 c43, .int .u8 k3, .bool g3, .slice a31 n31 c31, .string s3, .int .i64 m3, .slice a32 n32 c32, .slice a33 n33 c33] | 12 => v = .bool true | 13 => v = .bool true | 14 => v = .bool true | 15 => v = .agg #[.int .u8 k1, .bool g1, .slice a11 n11 c11, .string s1, .int .i64 m1, .slice a12 n12 c12, .slice a13 n13 c13] | 16 => v = .agg #[.int .u8 k2, .bool g2, .slice a21 n21 c21, .string s2, .int .i64 m2, .slice a22 n22 c22, .slice a23 n23 c23] | 17 => ∃ g, v = .slice (some ⟨g, 0, none⟩) 2 2 ∧ Tb w' g #[.int .u8 k1, .bool g1, .slice a11 n11 c11, .string s1, .int .i64 m1, .slice a12 n12 c12, .slice a13 n13 c13, .int .u8 k2, .bool g2, .slice a21 n21 c21, .string s2, .int .i64 m2, .slice a22 n22 c22, .slice a23 n23 c23] | 18 => v = .bool true | 19 => v = .agg #[.int .u8 k1, .bool g1, .slice a11 n11 c11, .string s1, .int .i64 m1, .slice a12 n12 c12, .slice a13 n13 c13] | 20 => v = .agg #[.int .u8 k2, .bool g2, .slice a21 n21 c21, .string s2, .int .i64 m2, .slice a22 n22 c22, .slice a23 n23 c23] | 21 => ∃ g, v = .slice (some ⟨g, 0, none⟩) 2 2 ∧ Tb w' g #[.int .u8 k1, .bool g1, .slice a11 n11 c11, .string s1, .int .i64 m1, .slice a12 n12 c12, .slice a13 n13 c13, .int .u8 k2, .bool g2, .slice a21 n21 c21, .string s2, .int .i64 m2, .slice a22 n22 c22, .slice a23 n23 c23] | 22 => v = .bool true | 23 => v = .bool true | 24 => v = .bool true | 25 => v = .bool true | 26 => v = .agg #[.int .u8 k1, .bool g1, .slice a11 n11 c11, .string s1, .int .i64 m1, .slice a12 n12 c12, .slice a13 n13 c13] | 27 => v = .agg #[.int .u8 k2, .bool g2, .slice a21 n21 c21, .string s2, .int .i64 m2, .slice a22 n22 c22, .slice a23 n23 c23] | 28 => ∃ g, v = .slice (some ⟨g, 0, none⟩) 2 2 ∧ Tb w' g #[.int .u8 k1, .bool g1, .slice a11 n11 c11, .string s1, .int .i64 m1, .slice a12 n12 c12, .slice a13 n13 c13, .int .u8 k2, .bool g2, .slice a21 n21 c21, .string s2, .int .i64 m2, .slice a22 n22 c22, .slice a23 n23 c23] | 29 => v = .bool false | 30 => v = .agg #[.int .u8 k1, .bool g1, .slice a11 n11 c11, .string s1, .int .i64 m1, .slice a12 n12 c12, .slice a13 n13 c13] | 31 => v = .agg #[.int .u8 k2, .bool g2, .slice a21 n21 c21, .string s2, .int .i64 m2, .slice a22 n22 c22, .slice a23 n23 c23] | 32 => ∃ g, v = .slice (some ⟨g, 0, none⟩) 2 2 ∧ Tb w' g #[.int .u8 k1, .bool g1, .slice a11 n11 c11, .string s1, .int .i64 m1, .slice a12 n12 c12, .slice a13 n13 c13, .int .u8 k2, .bool g2, .slice a21 n21 c21, .string s2, .int .i64 m2, .slice a22 n22 c22, .slice a23 n23 c23] | 33 => v = .bool true | 34 => v = .bool true | 35 => v = .bool true | 36 => v = .bool true | 37 => v = .agg #[.int .u8 k3, .bool g3, .slice a31 n31 c31, .string s3, .int .i64 m3, .slice a32 n32 c32, .slice a33 n33 c33] | 38 => v = .agg #[.int .u8 k1, .bool g1, .slice a11 n11 c11, .string s1, .int .i64 m1, .slice a12 n12 c12, .slice a13 n13 c13] | 39 => v = .bool true | 40 => v = .bool true | 41 => v = .agg #[.int .u8 k4, .bool g4, .slice a41 n41 c41, .string s4, .int .i64 m4, .slice a42 n42 c42, .slice a43 n43 c43] | 42 => v = .agg #[.int .u8 k2, .bool g2, .slice a21 n21 c21, .string s2, .int .i64 m2, .slice a22 n22 c22, .slice a23 n23 c23] | 43 => v = .bool true | 44 => v = .bool true | 45 => v = .bool true | 46 => v = undef | 47 => v = undef | 48 => v = undef | 49 => v = undef | 50 => v = undef | 51 => v = undef | 52 => v = undef | 53 => v = undef | 54 => v = .bool true | 55 => v = .bool true | 56 => v = .bool true | 57 => v = .agg #[.int .u8 k1, .bool g1, .slice a11 n11 c11, .string s1, .int .i64 m1, .slice a12 n12 c12, .slice a13 n13 c13] | 58 => v = .agg #[.int .u8 k2, .bool g2, .slice a21 n21 c21, .string s2, .int .i64 m2, .slice a22 n22 c22, .slice a23 n23 c23] | 59 => ∃ g, v = .slice (some ⟨g, 0, none⟩) 2 2 ∧ Tb w' g #[.int .u8 k1, .bool g1, .slice a11 n11 c11, .string s1, .int .i64 m1, .slice a12 n12 c12, .slice a13 n13 c13, .int .u8 k2, .bool g2, .slice a21 n21 c21, .string s2, .int .i64 m2, .slice a22 n22 c22, .slice a23 n23 c23] | 60 => v = .bool true | 61 => v = .agg #[.int .u8 k1, .bool g1, .slice a11 n11 c11, .string s1, .int .i64 m1, .slice a12 n12 c12, .slice a13 n13 c13] | 62 => v = .agg #[.int .u8 k2, .bool g2, .slice a21 n21 c21, .string s2, .int .i64 m2, .slice a22 n22 c22, .slice a23 n23 c23] | 63 => ∃ g, v = .slice (some ⟨g, 0, none⟩) 2 2 ∧ Tb w' g #[.int .u8 k1, .bool g1, .slice a11 n11 c11, .string s1, .int .i64 m1, .slice a12 n12 c12, .slice a13 n13 c13, .int .u8 k2, .bool g2, .slice a21 n21 c21, .string s2, .int .i64 m2, .slice a22 n22 c22, .slice a23 n23 c23] | 64 => v = .bool false | 65 => v = .bool true | 66 => v = .bool true | 67 => v = .bool true | _ => True) (fun j v w w' h hu => ?_) ?_ ?_
  · match j, h with
      | 0, h => exact h
      | 1, h => exact h
      | 2, h => exact h
      | 3, h => exact h
      | 4, h => exact h
      | 5, h => exact h
      | 6, h => exact h
      | 7, h => exact h
      | 8, h => exact h
      | 9, h => exact h
      | 10, h => exact h
      | 11, ⟨g, e, ht⟩ => exact ⟨g, e, ht.mono hu (by simp)⟩
      | 12, h => exact h
      | 13, h => exact h
      | 14, h => exact h
      | 15, h => exact h
      | 16, h => exact h
      | 17, ⟨g, e, ht⟩ => exact ⟨g, e, ht.mono hu (by simp)⟩
      | 18, h => exact h
      | 19, h => exact h
      | 20, h => exact h
      | 21, ⟨g, e, ht⟩ => exact ⟨g, e, ht.mono hu (by simp)⟩
      | 22, h => exact h
      | 23, h => exact h
      | 24, h => exact h
      | 25, h => exact h
      | 26, h => exact h
      | 27, h => exact h
      | 28, ⟨g, e, ht⟩ => exact ⟨g, e, ht.mono hu (by simp)⟩
      | 29, h => exact h
      | 30, h => exact h
      | 31, h => exact h
      | 32, ⟨g, e, ht⟩ => exact ⟨g, e, ht.mono hu (by simp)⟩
      | 33, h => exact h
      | 34, h => exact h
      | 35, h => exact h
      | 36, h => exact h
      | 37, h => exact h
      | 38, h => exact h
      | 39, h => exact h
      | 40, h => exact h
      | 41, h => exact h
      | 42, h => exact h
      | 43, h => exact h
      | 44, h => exact h
      | 45, h => exact h
      | 46, h => exact h
      | 47, h => exact h
      | 48, h => exact h
      | 49, h => exact h
      | 50, h => exact h
      | 51, h => exact h
      | 52, h => exact h
      | 53, h => exact h
      | 54, h => exact h
      | 55, h => exact h
      | 56, h => exact h
      | 57, h => exact h
      | 58, h => exact h
      | 59, ⟨g, e, ht⟩ => exact ⟨g, e, ht.mono hu (by simp)⟩
      | 60, h => exact h
      | 61, h => exact h
      | 62, h => exact h
      | 63, ⟨g, e, ht⟩ => exact ⟨g, e, ht.mono hu (by simp)⟩
      | 64, h => exact h
      | 65, h => exact h
      | 66, h => exact h
      | 67, h => exact h
      | _ + 68, _ => trivial
  · intro D vs a' w5 i o' hA hU hV hS hi ho haf
    have hc5 : i = 0 ∨ i = 1 ∨ i = 2 ∨ i = 3 ∨ i = 4 ∨ i = 5 ∨ i = 6 ∨ i = 7 ∨ i = 8 ∨ i = 9 ∨ i = 10 ∨ i = 11 ∨ i = 12 ∨ i = 13 ∨ i = 14 ∨ i = 15 ∨ i = 16 ∨ i = 17 ∨ i = 18 ∨ i = 19 ∨ i = 20 ∨ i = 21 ∨ i = 22 ∨ i = 23 ∨ i = 24 ∨ i = 25 ∨ i = 26 ∨ i = 27 ∨ i = 28 ∨ i = 29 ∨ i = 30 ∨ i = 31 ∨ i = 32 ∨ i = 33 ∨ i = 34 ∨ i = 35 ∨ i = 36 ∨ i = 37 ∨ i = 38 ∨ i = 39 ∨ i = 40 ∨ i = 41 ∨ i = 42 ∨ i = 43 ∨ i = 44 ∨ i = 45 ∨ i = 46 ∨ i = 47 ∨ i = 48 ∨ i = 49 ∨ i = 50 ∨ i = 51 ∨ i = 52 ∨ i = 53 ∨ i = 54 ∨ i = 55 ∨ i = 56 ∨ i = 57 ∨ i = 58 ∨ i = 59 ∨ i = 60 ∨ i = 61 ∨ i = 62 ∨ i = 63 ∨ i = 64 ∨ i = 65 ∨ i = 66 ∨ i = 67 := by omega
    rcases hc5 with rfl | rfl | rfl | rfl | rfl | rfl | rfl | rfl | rfl | rfl | rfl | rfl | rfl | rfl | rfl | rfl | rfl | rfl | rfl | rfl | rfl | rfl | rfl | rfl | rfl | rfl | rfl | rfl | rfl | rfl | rfl | rfl | rfl | rfl | rfl | rfl | rfl | rfl | rfl | rfl | rfl | rfl | rfl | rfl | rfl | rfl | rfl | rfl | rfl | rfl | rfl | rfl | rfl | rfl | rfl | rfl | rfl | rfl | rfl | rfl | rfl | rfl | rfl | rfl | rfl | rfl | rfl | rfl <;> cases ho
    · exact ops_wp rfl rfl (wp_move (.tmp 5) rfl _ (hA.ev 5 (by decide)) ⟨_, rfl, rfl, Upd.refl _ _⟩)
    · have D0 := haf ⟨0, .data⟩ (by simp) rfl
      exact ops_wp rfl rfl (wp_eqlI (.tmp 59) (.const (.int .i64 1)) rfl 1 1 ((hS 0 59 rfl D0).trans (hV 0 D0)) rfl ⟨_, rfl, rfl, Upd.refl _ _⟩)
    · have D1 := haf ⟨1, .data⟩ (by simp) rfl
      exact ops_wp rfl rfl (wp_move (.tmp 60) rfl _ ((hS 1 60 rfl D1).trans (hV 1 D1)) ⟨_, rfl, rfl, Upd.refl _ _⟩)
    · have D2 := haf ⟨2, .guard⟩ (by simp) rfl
      exact ops_wpG rfl ((wanted_of rfl rfl ((hS 2 61 rfl D2).trans (hV 2 D2))).trans rfl) (wp_move (.tmp 7) rfl _ (hA.ev 7 (by decide)) ⟨_, rfl, rfl, Upd.refl _ _⟩)
    · have D2 := haf ⟨2, .data⟩ (by simp) rfl
      have D3 := haf ⟨3, .data⟩ (by simp) rfl
      exact ops_wp rfl rfl (wp_pickT (.tmp 61) (.tmp 62) (.const (.bool false)) rfl ((hS 2 61 rfl D2).trans (hV 2 D2)) _ ((hS 3 62 rfl D3).trans (hV 3 D3)) ⟨_, rfl, rfl, Upd.refl _ _⟩)
    · have D4 := haf ⟨4, .data⟩ (by simp) rfl
      exact ops_wp rfl rfl (wp_move (.tmp 63) rfl _ ((hS 4 63 rfl D4).trans (hV 4 D4)) ⟨_, rfl, rfl, Upd.refl _ _⟩)
    · have D5 := haf ⟨5, .guard⟩ (by simp) rfl
      exact ops_wpG rfl ((wanted_of rfl rfl ((hS 5 64 rfl D5).trans (hV 5 D5))).trans rfl) (wp_move (.tmp 9) rfl _ (hA.ev 9 (by decide)) ⟨_, rfl, rfl, Upd.refl _ _⟩)
    · have D5 := haf ⟨5, .data⟩ (by simp) rfl
      have D6 := haf ⟨6, .data⟩ (by simp) rfl
      exact ops_wp rfl rfl (wp_pickT (.tmp 64) (.tmp 65) (.const (.bool false)) rfl ((hS 5 64 rfl D5).trans (hV 5 D5)) _ ((hS 6 65 rfl D6).trans (hV 6 D6)) ⟨_, rfl, rfl, Upd.refl _ _⟩)
    · have D7 := haf ⟨7, .data⟩ (by simp) rfl
      exact ops_wp rfl rfl (wp_move (.tmp 66) rfl _ ((hS 7 66 rfl D7).trans (hV 7 D7)) ⟨_, rfl, rfl, Upd.refl _ _⟩)
    · have D8 := haf ⟨8, .guard⟩ (by simp) rfl
      exact ops_wpG rfl ((wanted_of rfl rfl ((hS 8 67 rfl D8).trans (hV 8 D8))).trans rfl) (wp_load_row 26 (.tmp 8) rfl _ (hA.ev 8 (by decide)) 26 _ (0, 0) _ (ty5.mono hU (by simp)) hdesc rfl (by rw [info_term]; rfl) ⟨_, rfl, rfl, Upd.refl _ _⟩)
    · have D8 := haf ⟨8, .guard⟩ (by simp) rfl
      exact ops_wpG rfl ((wanted_of rfl rfl ((hS 8 67 rfl D8).trans (hV 8 D8))).trans rfl) (wp_load_row 26 (.tmp 6) rfl _ (hA.ev 6 (by decide)) 26 _ (0, 0) _ (tx5.mono hU (by simp)) hdesc rfl (by rw [info_term]; rfl) ⟨_, rfl, rfl, Upd.refl _ _⟩)
    · have D8 := haf ⟨8, .guard⟩ (by simp) rfl
      have D9 := haf ⟨9, .data⟩ (by simp) rfl
      have D10 := haf ⟨10, .data⟩ (by simp) rfl
      exact ops_wpG rfl ((wanted_of rfl rfl ((hS 8 67 rfl D8).trans (hV 8 D8))).trans rfl) (wp_bs2 (.tmp 68) (.tmp 69) rfl _ _ _ _ _ _ _ _ _ _ _ _ _ _ _ _ _ _ _ _ _ _ _ _ _ _ ((hS 9 68 rfl D9).trans (hV 9 D9)) ((hS 10 69 rfl D10).trans (hV 10 D10)) ⟨_, rfl, ⟨_, rfl, Tb.new _ _ _ rfl⟩, (Upd.refl [] w5).alloc _⟩)
    · have D8 := haf ⟨8, .chain⟩ (by simp) rfl
      have D11 := haf ⟨11, .data⟩ (by simp) rfl
      obtain ⟨gg, eg, htg⟩ := hV 11 D11
      refine ops_wpG rfl ((wanted_of rfl rfl ((hS 8 67 rfl D8).trans (hV 8 D8))).trans rfl) (wp_callA rfl Tryz.call8 (vs := #[.string ⟨#[61, 60]⟩, .slice (some ⟨gg, 0, none⟩) 2 2]) ?_ (R := fun u w' => u = .bool true ∧ Upd [] w5 w') ?_ ?_)
      · have e0 : a'.eval (.tmp 70) = _ := (hS 11 70 rfl D11).trans eg; simp only [List.map_toArray, List.map_cons, List.map_nil, e0]; rfl
      · exact (YleYX.out w5 gg hU htg).mono fun e w' ⟨he, hu⟩ => ⟨_, he, rfl, hu⟩
      · rintro u w6 ⟨rfl, hu⟩; exact ⟨_, rfl, rfl, hu⟩
    · have D8 := haf ⟨8, .data⟩ (by simp) rfl
      have D12 := haf ⟨12, .data⟩ (by simp) rfl
      exact ops_wp rfl rfl (wp_pickT (.tmp 67) (.tmp 71) (.const (.bool false)) rfl ((hS 8 67 rfl D8).trans (hV 8 D8)) _ ((hS 12 71 rfl D12).trans (hV 12 D12)) ⟨_, rfl, rfl, Upd.refl _ _⟩)
    · have D13 := haf ⟨13, .data⟩ (by simp) rfl
      exact ops_wp rfl rfl (wp_move (.tmp 72) rfl _ ((hS 13 72 rfl D13).trans (hV 13 D13)) ⟨_, rfl, rfl, Upd.refl _ _⟩)
    · have D14 := haf ⟨14, .guard⟩ (by simp) rfl
      exact ops_wpG rfl ((wanted_of rfl rfl ((hS 14 73 rfl D14).trans (hV 14 D14))).trans rfl) (wp_load_row 26 (.tmp 2) rfl _ (hA.ev 2 (by decide)) 26 _ (0, 0) _ (tA5.mono hU (by simp)) hdesc rfl (by rw [info_term]; rfl) ⟨_, rfl, rfl, Upd.refl _ _⟩)
    · have D14 := haf ⟨14, .guard⟩ (by simp) rfl
      exact ops_wpG rfl ((wanted_of rfl rfl ((hS 14 73 rfl D14).trans (hV 14 D14))).trans rfl) (wp_load_row 26 (.tmp 3) rfl _ (hA.ev 3 (by decide)) 26 _ (0, 0) _ (tB5.mono hU (by simp)) hdesc rfl (by rw [info_term]; rfl) ⟨_, rfl, rfl, Upd.refl _ _⟩)
    · have D14 := haf ⟨14, .guard⟩ (by simp) rfl
      have D15 := haf ⟨15, .data⟩ (by simp) rfl
      have D16 := haf ⟨16, .data⟩ (by simp) rfl
      exact ops_wpG rfl ((wanted_of rfl rfl ((hS 14 73 rfl D14).trans (hV 14 D14))).trans rfl) (wp_bs2 (.tmp 74) (.tmp 75) rfl _ _ _ _ _ _ _ _ _ _ _ _ _ _ _ _ _ _ _ _ _ _ _ _ _ _ ((hS 15 74 rfl D15).trans (hV 15 D15)) ((hS 16 75 rfl D16).trans (hV 16 D16)) ⟨_, rfl, ⟨_, rfl, Tb.new _ _ _ rfl⟩, (Upd.refl [] w5).alloc _⟩)
    · have D14 := haf ⟨14, .chain⟩ (by simp) rfl
      have D17 := haf ⟨17, .data⟩ (by simp) rfl
      obtain ⟨gg, eg, htg⟩ := hV 17 D17
      refine ops_wpG rfl ((wanted_of rfl rfl ((hS 14 73 rfl D14).trans (hV 14 D14))).trans rfl) (wp_callA rfl Tryz.call8 (vs := #[.string ⟨#[61, 61]⟩, .slice (some ⟨gg, 0, none⟩) 2 2]) ?_ (R := fun u w' => u = .bool true ∧ Upd [] w5 w') ?_ ?_)
      · have e0 : a'.eval (.tmp 76) = _ := (hS 17 76 rfl D17).trans eg; simp only [List.map_toArray, List.map_cons, List.map_nil, e0]; rfl
      · exact (YeqAB.out w5 gg hU htg).mono fun e w' ⟨he, hu⟩ => ⟨_, he, rfl, hu⟩
      · rintro u w6 ⟨rfl, hu⟩; exact ⟨_, rfl, rfl, hu⟩
    · have D14 := haf ⟨14, .guard⟩ (by simp) rfl
      exact ops_wpG rfl ((wanted_of rfl rfl ((hS 14 73 rfl D14).trans (hV 14 D14))).trans rfl) (wp_load_row 26 (.tmp 2) rfl _ (hA.ev 2 (by decide)) 26 _ (0, 0) _ (tA5.mono hU (by simp)) hdesc rfl (by rw [info_term]; rfl) ⟨_, rfl, rfl, Upd.refl _ _⟩)
    · have D14 := haf ⟨14, .guard⟩ (by simp) rfl
      exact ops_wpG rfl ((wanted_of rfl rfl ((hS 14 73 rfl D14).trans (hV 14 D14))).trans rfl) (wp_load_row 26 (.tmp 3) rfl _ (hA.ev 3 (by decide)) 26 _ (0, 0) _ (tB5.mono hU (by simp)) hdesc rfl (by rw [info_term]; rfl) ⟨_, rfl, rfl, Upd.refl _ _⟩)
    · have D14 := haf ⟨14, .guard⟩ (by simp) rfl
      have D19 := haf ⟨19, .data⟩ (by simp) rfl
      have D20 := haf ⟨20, .data⟩ (by simp) rfl
      exact ops_wpG rfl ((wanted_of rfl rfl ((hS 14 73 rfl D14).trans (hV 14 D14))).trans rfl) (wp_bs2 (.tmp 78) (.tmp 79) rfl _ _ _ _ _ _ _ _ _ _ _ _ _ _ _ _ _ _ _ _ _ _ _ _ _ _ ((hS 19 78 rfl D19).trans (hV 19 D19)) ((hS 20 79 rfl D20).trans (hV 20 D20)) ⟨_, rfl, ⟨_, rfl, Tb.new _ _ _ rfl⟩, (Upd.refl [] w5).alloc _⟩)
    · have D14 := haf ⟨14, .guard⟩ (by simp) rfl
      have D21 := haf ⟨21, .data⟩ (by simp) rfl
      obtain ⟨gg, eg, htg⟩ := hV 21 D21
      refine ops_wpG rfl ((wanted_of rfl rfl ((hS 14 73 rfl D14).trans (hV 14 D14))).trans rfl) (wp_callA rfl Tryz.call8 (vs := #[.string ⟨#[61, 58, 61]⟩, .slice (some ⟨gg, 0, none⟩) 2 2]) ?_ (R := fun u w' => u = .bool true ∧ Upd [] w5 w') ?_ ?_)
      · have e0 : a'.eval (.tmp 80) = _ := (hS 21 80 rfl D21).trans eg; simp only [List.map_toArray, List.map_cons, List.map_nil, e0]; rfl
      · exact (YeeAB.out w5 gg hU htg).mono fun e w' ⟨he, hu⟩ => ⟨_, he, rfl, hu⟩
      · rintro u w6 ⟨rfl, hu⟩; exact ⟨_, rfl, rfl, hu⟩
    · have D14 := haf ⟨14, .guard⟩ (by simp) rfl
      have D18 := haf ⟨18, .data⟩ (by simp) rfl
      have D22 := haf ⟨22, .data⟩ (by simp) rfl
      exact ops_wpG rfl ((wanted_of rfl rfl ((hS 14 73 rfl D14).trans (hV 14 D14))).trans rfl) (wp_eql2B (.tmp 77) (.tmp 81) rfl _ _ ((hS 18 77 rfl D18).trans (hV 18 D18)) ((hS 22 81 rfl D22).trans (hV 22 D22)) ⟨_, rfl, rfl, Upd.refl _ _⟩)
    · have D14 := haf ⟨14, .data⟩ (by simp) rfl
      have D23 := haf ⟨23, .data⟩ (by simp) rfl
      exact ops_wp rfl rfl (wp_pickT (.tmp 73) (.tmp 82) (.const (.bool false)) rfl ((hS 14 73 rfl D14).trans (hV 14 D14)) _ ((hS 23 82 rfl D23).trans (hV 23 D23)) ⟨_, rfl, rfl, Upd.refl _ _⟩)
    · have D24 := haf ⟨24, .data⟩ (by simp) rfl
      exact ops_wp rfl rfl (wp_move (.tmp 83) rfl _ ((hS 24 83 rfl D24).trans (hV 24 D24)) ⟨_, rfl, rfl, Upd.refl _ _⟩)
    · have D25 := haf ⟨25, .guard⟩ (by simp) rfl
      exact ops_wpG rfl ((wanted_of rfl rfl ((hS 25 84 rfl D25).trans (hV 25 D25))).trans rfl) (wp_load_row 26 (.tmp 2) rfl _ (hA.ev 2 (by decide)) 26 _ (0, 0) _ (tA5.mono hU (by simp)) hdesc rfl (by rw [info_term]; rfl) ⟨_, rfl, rfl, Upd.refl _ _⟩)
    · have D25 := haf ⟨25, .guard⟩ (by simp) rfl
      exact ops_wpG rfl ((wanted_of rfl rfl ((hS 25 84 rfl D25).trans (hV 25 D25))).trans rfl) (wp_load_row 26 (.tmp 3) rfl _ (hA.ev 3 (by decide)) 26 _ (0, 0) _ (tB5.mono hU (by simp)) hdesc rfl (by rw [info_term]; rfl) ⟨_, rfl, rfl, Upd.refl _ _⟩)
    · have D25 := haf ⟨25, .guard⟩ (by simp) rfl
      have D26 := haf ⟨26, .data⟩ (by simp) rfl
      have D27 := haf ⟨27, .data⟩ (by simp) rfl
      exact ops_wpG rfl ((wanted_of rfl rfl ((hS 25 84 rfl D25).trans (hV 25 D25))).trans rfl) (wp_bs2 (.tmp 85) (.tmp 86) rfl _ _ _ _ _ _ _ _ _ _ _ _ _ _ _ _ _ _ _ _ _ _ _ _ _ _ ((hS 26 85 rfl D26).trans (hV 26 D26)) ((hS 27 86 rfl D27).trans (hV 27 D27)) ⟨_, rfl, ⟨_, rfl, Tb.new _ _ _ rfl⟩, (Upd.refl [] w5).alloc _⟩)
    · have D25 := haf ⟨25, .chain⟩ (by simp) rfl
      have D28 := haf ⟨28, .data⟩ (by simp) rfl
      obtain ⟨gg, eg, htg⟩ := hV 28 D28
      refine ops_wpG rfl ((wanted_of rfl rfl ((hS 25 84 rfl D25).trans (hV 25 D25))).trans rfl) (wp_callA rfl Tryz.call8 (vs := #[.string ⟨#[47, 61]⟩, .slice (some ⟨gg, 0, none⟩) 2 2]) ?_ (R := fun u w' => u = .bool false ∧ Upd [] w5 w') ?_ ?_)
      · have e0 : a'.eval (.tmp 87) = _ := (hS 28 87 rfl D28).trans eg; simp only [List.map_toArray, List.map_cons, List.map_nil, e0]; rfl
      · exact (YneAB.out w5 gg hU htg).mono fun e w' ⟨he, hu⟩ => ⟨_, he, rfl, hu⟩
      · rintro u w6 ⟨rfl, hu⟩; exact ⟨_, rfl, rfl, hu⟩
    · have D25 := haf ⟨25, .guard⟩ (by simp) rfl
      exact ops_wpG rfl ((wanted_of rfl rfl ((hS 25 84 rfl D25).trans (hV 25 D25))).trans rfl) (wp_load_row 26 (.tmp 2) rfl _ (hA.ev 2 (by decide)) 26 _ (0, 0) _ (tA5.mono hU (by simp)) hdesc rfl (by rw [info_term]; rfl) ⟨_, rfl, rfl, Upd.refl _ _⟩)
    · have D25 := haf ⟨25, .guard⟩ (by simp) rfl
      exact ops_wpG rfl ((wanted_of rfl rfl ((hS 25 84 rfl D25).trans (hV 25 D25))).trans rfl) (wp_load_row 26 (.tmp 3) rfl _ (hA.ev 3 (by decide)) 26 _ (0, 0) _ (tB5.mono hU (by simp)) hdesc rfl (by rw [info_term]; rfl) ⟨_, rfl, rfl, Upd.refl _ _⟩)
    · have D25 := haf ⟨25, .guard⟩ (by simp) rfl
      have D30 := haf ⟨30, .data⟩ (by simp) rfl
      have D31 := haf ⟨31, .data⟩ (by simp) rfl
      exact ops_wpG rfl ((wanted_of rfl rfl ((hS 25 84 rfl D25).trans (hV 25 D25))).trans rfl) (wp_bs2 (.tmp 89) (.tmp 90) rfl _ _ _ _ _ _ _ _ _ _ _ _ _ _ _ _ _ _ _ _ _ _ _ _ _ _ ((hS 30 89 rfl D30).trans (hV 30 D30)) ((hS 31 90 rfl D31).trans (hV 31 D31)) ⟨_, rfl, ⟨_, rfl, Tb.new _ _ _ rfl⟩, (Upd.refl [] w5).alloc _⟩)
    · have D25 := haf ⟨25, .guard⟩ (by simp) rfl
      have D32 := haf ⟨32, .data⟩ (by simp) rfl
      obtain ⟨gg, eg, htg⟩ := hV 32 D32
      refine ops_wpG rfl ((wanted_of rfl rfl ((hS 25 84 rfl D25).trans (hV 25 D25))).trans rfl) (wp_callA rfl Tryz.call8 (vs := #[.string ⟨#[61, 61]⟩, .slice (some ⟨gg, 0, none⟩) 2 2]) ?_ (R := fun u w' => u = .bool true ∧ Upd [] w5 w') ?_ ?_)
      · have e0 : a'.eval (.tmp 91) = _ := (hS 32 91 rfl D32).trans eg; simp only [List.map_toArray, List.map_cons, List.map_nil, e0]; rfl
      · exact (YeqAB.out w5 gg hU htg).mono fun e w' ⟨he, hu⟩ => ⟨_, he, rfl, hu⟩
      · rintro u w6 ⟨rfl, hu⟩; exact ⟨_, rfl, rfl, hu⟩
    · have D25 := haf ⟨25, .guard⟩ (by simp) rfl
      have D29 := haf ⟨29, .data⟩ (by simp) rfl
      have D33 := haf ⟨33, .data⟩ (by simp) rfl
      exact ops_wpG rfl ((wanted_of rfl rfl ((hS 25 84 rfl D25).trans (hV 25 D25))).trans rfl) (wp_neqB (.tmp 88) (.tmp 92) rfl _ _ ((hS 29 88 rfl D29).trans (hV 29 D29)) ((hS 33 92 rfl D33).trans (hV 33 D33)) ⟨_, rfl, rfl, Upd.refl _ _⟩)
    · have D25 := haf ⟨25, .data⟩ (by simp) rfl
      have D34 := haf ⟨34, .data⟩ (by simp) rfl
      exact ops_wp rfl rfl (wp_pickT (.tmp 84) (.tmp 93) (.const (.bool false)) rfl ((hS 25 84 rfl D25).trans (hV 25 D25)) _ ((hS 34 93 rfl D34).trans (hV 34 D34)) ⟨_, rfl, rfl, Upd.refl _ _⟩)
    · have D35 := haf ⟨35, .data⟩ (by simp) rfl
      exact ops_wp rfl rfl (wp_move (.tmp 94) rfl _ ((hS 35 94 rfl D35).trans (hV 35 D35)) ⟨_, rfl, rfl, Upd.refl _ _⟩)
    · have D36 := haf ⟨36, .guard⟩ (by simp) rfl
      exact ops_wpG rfl ((wanted_of rfl rfl ((hS 36 95 rfl D36).trans (hV 36 D36))).trans rfl) (wp_load_row 26 (.tmp 6) rfl _ (hA.ev 6 (by decide)) 26 _ (0, 0) _ (tx5.mono hU (by simp)) hdesc rfl (by rw [info_term]; rfl) ⟨_, rfl, rfl, Upd.refl _ _⟩)
    · have D36 := haf ⟨36, .guard⟩ (by simp) rfl
      exact ops_wpG rfl ((wanted_of rfl rfl ((hS 36 95 rfl D36).trans (hV 36 D36))).trans rfl) (wp_load_row 26 (.tmp 2) rfl _ (hA.ev 2 (by decide)) 26 _ (0, 0) _ (tA5.mono hU (by simp)) hdesc rfl (by rw [info_term]; rfl) ⟨_, rfl, rfl, Upd.refl _ _⟩)
    · have D36 := haf ⟨36, .chain⟩ (by simp) rfl
      have D37 := haf ⟨37, .data⟩ (by simp) rfl
      have D38 := haf ⟨38, .data⟩ (by simp) rfl
      refine ops_wpG rfl ((wanted_of rfl rfl ((hS 36 95 rfl D36).trans (hV 36 D36))).trans rfl) (wp_callA rfl Tryz.call10 (vs := #[.agg #[.int .u8 k3, .bool g3, .slice a31 n31 c31, .string s3, .int .i64 m3, .slice a32 n32 c32, .slice a33 n33 c33], .agg #[.int .u8 k1, .bool g1, .slice a11 n11 c11, .string s1, .int .i64 m1, .slice a12 n12 c12, .slice a13 n13 c13]]) ?_ (R := fun u w' => u = .bool true ∧ Upd [] w5 w') ?_ ?_)
      · have e0 : a'.eval (.tmp 96) = _ := ((hS 37 96 rfl D37).trans (hV 37 D37)); have e1 : a'.eval (.tmp 97) = _ := ((hS 38 97 rfl D38).trans (hV 38 D38)); simp only [List.map_toArray, List.map_cons, List.map_nil, e0, e1]
      · exact (SXA.out w5 hU).mono fun e w' ⟨he, hu⟩ => ⟨_, he, rfl, hu⟩
      · rintro u w6 ⟨rfl, hu⟩; exact ⟨_, rfl, rfl, hu⟩
    · have D36 := haf ⟨36, .guard⟩ (by simp) rfl
      have D39 := haf ⟨39, .data⟩ (by simp) rfl
      exact ops_wpG rfl ((wanted_of rfl rfl ((hS 36 95 rfl D36).trans (hV 36 D36))).trans rfl) (wp_move (.tmp 98) rfl _ ((hS 39 98 rfl D39).trans (hV 39 D39)) ⟨_, rfl, rfl, Upd.refl _ _⟩)
    · have D40 := haf ⟨40, .guard⟩ (by simp) rfl
      exact ops_wpG rfl ((wanted_of rfl rfl ((hS 40 99 rfl D40).trans (hV 40 D40))).trans rfl) (wp_load_row 26 (.tmp 8) rfl _ (hA.ev 8 (by decide)) 26 _ (0, 0) _ (ty5.mono hU (by simp)) hdesc rfl (by rw [info_term]; rfl) ⟨_, rfl, rfl, Upd.refl _ _⟩)
    · have D40 := haf ⟨40, .guard⟩ (by simp) rfl
      exact ops_wpG rfl ((wanted_of rfl rfl ((hS 40 99 rfl D40).trans (hV 40 D40))).trans rfl) (wp_load_row 26 (.tmp 3) rfl _ (hA.ev 3 (by decide)) 26 _ (0, 0) _ (tB5.mono hU (by simp)) hdesc rfl (by rw [info_term]; rfl) ⟨_, rfl, rfl, Upd.refl _ _⟩)
    · have D40 := haf ⟨40, .chain⟩ (by simp) rfl
      have D41 := haf ⟨41, .data⟩ (by simp) rfl
      have D42 := haf ⟨42, .data⟩ (by simp) rfl
      refine ops_wpG rfl ((wanted_of rfl rfl ((hS 40 99 rfl D40).trans (hV 40 D40))).trans rfl) (wp_callA rfl Tryz.call10 (vs := #[.agg #[.int .u8 k4, .bool g4, .slice a41 n41 c41, .string s4, .int .i64 m4, .slice a42 n42 c42, .slice a43 n43 c43], .agg #[.int .u8 k2, .bool g2, .slice a21 n21 c21, .string s2, .int .i64 m2, .slice a22 n22 c22, .slice a23 n23 c23]]) ?_ (R := fun u w' => u = .bool true ∧ Upd [] w5 w') ?_ ?_)
      · have e0 : a'.eval (.tmp 100) = _ := ((hS 41 100 rfl D41).trans (hV 41 D41)); have e1 : a'.eval (.tmp 101) = _ := ((hS 42 101 rfl D42).trans (hV 42 D42)); simp only [List.map_toArray, List.map_cons, List.map_nil, e0, e1]
      · exact (SYB.out w5 hU).mono fun e w' ⟨he, hu⟩ => ⟨_, he, rfl, hu⟩
      · rintro u w6 ⟨rfl, hu⟩; exact ⟨_, rfl, rfl, hu⟩
    · have D36 := haf ⟨36, .guard⟩ (by simp) rfl
      have D40 := haf ⟨40, .data⟩ (by simp) rfl
      have D43 := haf ⟨43, .data⟩ (by simp) rfl
      exact ops_wpG rfl ((wanted_of rfl rfl ((hS 36 95 rfl D36).trans (hV 36 D36))).trans rfl) (wp_pickT (.tmp 99) (.tmp 102) (.const (.bool false)) rfl ((hS 40 99 rfl D40).trans (hV 40 D40)) _ ((hS 43 102 rfl D43).trans (hV 43 D43)) ⟨_, rfl, rfl, Upd.refl _ _⟩)
    · have D36 := haf ⟨36, .guard⟩ (by simp) rfl
      have D44 := haf ⟨44, .data⟩ (by simp) rfl
      exact ops_wpG rfl ((wanted_of rfl rfl ((hS 36 95 rfl D36).trans (hV 36 D36))).trans rfl) (wp_move (.tmp 103) rfl _ ((hS 44 103 rfl D44).trans (hV 44 D44)) ⟨_, rfl, rfl, Upd.refl _ _⟩)
    · have D45 := haf ⟨45, .guard⟩ (by simp) rfl
      exact ops_skip rfl ((wanted_of rfl rfl ((hS 45 104 rfl D45).trans (hV 45 D45))).trans rfl) ⟨undef, rfl, rfl, Upd.refl _ _⟩
    · have D45 := haf ⟨45, .guard⟩ (by simp) rfl
      exact ops_skip rfl ((wanted_of rfl rfl ((hS 45 104 rfl D45).trans (hV 45 D45))).trans rfl) ⟨undef, rfl, rfl, Upd.refl _ _⟩
    · have D45 := haf ⟨45, .chain⟩ (by simp) rfl
      exact ops_skip rfl ((wanted_of rfl rfl ((hS 45 104 rfl D45).trans (hV 45 D45))).trans rfl) ⟨undef, rfl, rfl, Upd.refl _ _⟩
    · have D45 := haf ⟨45, .guard⟩ (by simp) rfl
      exact ops_skip rfl ((wanted_of rfl rfl ((hS 45 104 rfl D45).trans (hV 45 D45))).trans rfl) ⟨undef, rfl, rfl, Upd.refl _ _⟩
    · have D49 := haf ⟨49, .guard⟩ (by simp) rfl
      exact ops_skip rfl (wanted_no rfl rfl ((hS 49 108 rfl D49).trans (hV 49 D49))) ⟨undef, rfl, rfl, Upd.refl _ _⟩
    · have D49 := haf ⟨49, .guard⟩ (by simp) rfl
      exact ops_skip rfl (wanted_no rfl rfl ((hS 49 108 rfl D49).trans (hV 49 D49))) ⟨undef, rfl, rfl, Upd.refl _ _⟩
    · have D49 := haf ⟨49, .chain⟩ (by simp) rfl
      exact ops_skip rfl (wanted_no rfl rfl ((hS 49 108 rfl D49).trans (hV 49 D49))) ⟨undef, rfl, rfl, Upd.refl _ _⟩
    · have D45 := haf ⟨45, .guard⟩ (by simp) rfl
      exact ops_skip rfl ((wanted_of rfl rfl ((hS 45 104 rfl D45).trans (hV 45 D45))).trans rfl) ⟨undef, rfl, rfl, Upd.refl _ _⟩
    · have D36 := haf ⟨36, .guard⟩ (by simp) rfl
      have D45 := haf ⟨45, .data⟩ (by simp) rfl
      exact ops_wpG rfl ((wanted_of rfl rfl ((hS 36 95 rfl D36).trans (hV 36 D36))).trans rfl) (wp_pickT (.tmp 104) (.const (.bool true)) (.tmp 112) rfl ((hS 45 104 rfl D45).trans (hV 45 D45)) _ rfl ⟨_, rfl, rfl, Upd.refl _ _⟩)
    · have D36 := haf ⟨36, .data⟩ (by simp) rfl
      have D54 := haf ⟨54, .data⟩ (by simp) rfl
      exact ops_wp rfl rfl (wp_pickT (.tmp 95) (.tmp 113) (.const (.bool false)) rfl ((hS 36 95 rfl D36).trans (hV 36 D36)) _ ((hS 54 113 rfl D54).trans (hV 54 D54)) ⟨_, rfl, rfl, Upd.refl _ _⟩)
    · have D55 := haf ⟨55, .data⟩ (by simp) rfl
      exact ops_wp rfl rfl (wp_move (.tmp 114) rfl _ ((hS 55 114 rfl D55).trans (hV 55 D55)) ⟨_, rfl, rfl, Upd.refl _ _⟩)
    · have D56 := haf ⟨56, .guard⟩ (by simp) rfl
      exact ops_wpG rfl ((wanted_of rfl rfl ((hS 56 115 rfl D56).trans (hV 56 D56))).trans rfl) (wp_load_row 26 (.tmp 2) rfl _ (hA.ev 2 (by decide)) 26 _ (0, 0) _ (tA5.mono hU (by simp)) hdesc rfl (by rw [info_term]; rfl) ⟨_, rfl, rfl, Upd.refl _ _⟩)
    · have D56 := haf ⟨56, .guard⟩ (by simp) rfl
      exact ops_wpG rfl ((wanted_of rfl rfl ((hS 56 115 rfl D56).trans (hV 56 D56))).trans rfl) (wp_load_row 26 (.tmp 3) rfl _ (hA.ev 3 (by decide)) 26 _ (0, 0) _ (tB5.mono hU (by simp)) hdesc rfl (by rw [info_term]; rfl) ⟨_, rfl, rfl, Upd.refl _ _⟩)
    · have D56 := haf ⟨56, .guard⟩ (by simp) rfl
      have D57 := haf ⟨57, .data⟩ (by simp) rfl
      have D58 := haf ⟨58, .data⟩ (by simp) rfl
      exact ops_wpG rfl ((wanted_of rfl rfl ((hS 56 115 rfl D56).trans (hV 56 D56))).trans rfl) (wp_bs2 (.tmp 116) (.tmp 117) rfl _ _ _ _ _ _ _ _ _ _ _ _ _ _ _ _ _ _ _ _ _ _ _ _ _ _ ((hS 57 116 rfl D57).trans (hV 57 D57)) ((hS 58 117 rfl D58).trans (hV 58 D58)) ⟨_, rfl, ⟨_, rfl, Tb.new _ _ _ rfl⟩, (Upd.refl [] w5).alloc _⟩)
    · have D56 := haf ⟨56, .chain⟩ (by simp) rfl
      have D59 := haf ⟨59, .data⟩ (by simp) rfl
      obtain ⟨gg, eg, htg⟩ := hV 59 D59
      refine ops_wpG rfl ((wanted_of rfl rfl ((hS 56 115 rfl D56).trans (hV 56 D56))).trans rfl) (wp_callA rfl Tryz.call8 (vs := #[.string ⟨#[61, 60]⟩, .slice (some ⟨gg, 0, none⟩) 2 2]) ?_ (R := fun u w' => u = .bool true ∧ Upd [] w5 w') ?_ ?_)
      · have e0 : a'.eval (.tmp 118) = _ := (hS 59 118 rfl D59).trans eg; simp only [List.map_toArray, List.map_cons, List.map_nil, e0]; rfl
      · exact (YleAB.out w5 gg hU htg).mono fun e w' ⟨he, hu⟩ => ⟨_, he, rfl, hu⟩
      · rintro u w6 ⟨rfl, hu⟩; exact ⟨_, rfl, rfl, hu⟩
    · have D56 := haf ⟨56, .guard⟩ (by simp) rfl
      exact ops_wpG rfl ((wanted_of rfl rfl ((hS 56 115 rfl D56).trans (hV 56 D56))).trans rfl) (wp_load_row 26 (.tmp 2) rfl _ (hA.ev 2 (by decide)) 26 _ (0, 0) _ (tA5.mono hU (by simp)) hdesc rfl (by rw [info_term]; rfl) ⟨_, rfl, rfl, Upd.refl _ _⟩)
    · have D56 := haf ⟨56, .guard⟩ (by simp) rfl
      exact ops_wpG rfl ((wanted_of rfl rfl ((hS 56 115 rfl D56).trans (hV 56 D56))).trans rfl) (wp_load_row 26 (.tmp 3) rfl _ (hA.ev 3 (by decide)) 26 _ (0, 0) _ (tB5.mono hU (by simp)) hdesc rfl (by rw [info_term]; rfl) ⟨_, rfl, rfl, Upd.refl _ _⟩)
    · have D56 := haf ⟨56, .guard⟩ (by simp) rfl
      have D61 := haf ⟨61, .data⟩ (by simp) rfl
      have D62 := haf ⟨62, .data⟩ (by simp) rfl
      exact ops_wpG rfl ((wanted_of rfl rfl ((hS 56 115 rfl D56).trans (hV 56 D56))).trans rfl) (wp_bs2 (.tmp 120) (.tmp 121) rfl _ _ _ _ _ _ _ _ _ _ _ _ _ _ _ _ _ _ _ _ _ _ _ _ _ _ ((hS 61 120 rfl D61).trans (hV 61 D61)) ((hS 62 121 rfl D62).trans (hV 62 D62)) ⟨_, rfl, ⟨_, rfl, Tb.new _ _ _ rfl⟩, (Upd.refl [] w5).alloc _⟩)
    · have D56 := haf ⟨56, .guard⟩ (by simp) rfl
      have D63 := haf ⟨63, .data⟩ (by simp) rfl
      obtain ⟨gg, eg, htg⟩ := hV 63 D63
      refine ops_wpG rfl ((wanted_of rfl rfl ((hS 56 115 rfl D56).trans (hV 56 D56))).trans rfl) (wp_callA rfl Tryz.call8 (vs := #[.string ⟨#[62]⟩, .slice (some ⟨gg, 0, none⟩) 2 2]) ?_ (R := fun u w' => u = .bool false ∧ Upd [] w5 w') ?_ ?_)
      · have e0 : a'.eval (.tmp 122) = _ := (hS 63 122 rfl D63).trans eg; simp only [List.map_toArray, List.map_cons, List.map_nil, e0]; rfl
      · exact (YgtAB.out w5 gg hU htg).mono fun e w' ⟨he, hu⟩ => ⟨_, he, rfl, hu⟩
      · rintro u w6 ⟨rfl, hu⟩; exact ⟨_, rfl, rfl, hu⟩
    · have D56 := haf ⟨56, .guard⟩ (by simp) rfl
      have D64 := haf ⟨64, .data⟩ (by simp) rfl
      exact ops_wpG rfl ((wanted_of rfl rfl ((hS 56 115 rfl D56).trans (hV 56 D56))).trans rfl) (wp_not (.tmp 123) rfl _ ((hS 64 123 rfl D64).trans (hV 64 D64)) ⟨_, rfl, rfl, Upd.refl _ _⟩)
    · have D56 := haf ⟨56, .guard⟩ (by simp) rfl
      have D60 := haf ⟨60, .data⟩ (by simp) rfl
      have D65 := haf ⟨65, .data⟩ (by simp) rfl
      exact ops_wpG rfl ((wanted_of rfl rfl ((hS 56 115 rfl D56).trans (hV 56 D56))).trans rfl) (wp_eql2B (.tmp 119) (.tmp 124) rfl _ _ ((hS 60 119 rfl D60).trans (hV 60 D60)) ((hS 65 124 rfl D65).trans (hV 65 D65)) ⟨_, rfl, rfl, Upd.refl _ _⟩)
    · have D56 := haf ⟨56, .data⟩ (by simp) rfl
      have D66 := haf ⟨66, .data⟩ (by simp) rfl
      exact ops_wp rfl rfl (wp_pickT (.tmp 115) (.tmp 125) (.const (.bool false)) rfl ((hS 56 115 rfl D56).trans (hV 56 D56)) _ ((hS 66 125 rfl D66).trans (hV 66 D66)) ⟨_, rfl, rfl, Upd.refl _ _⟩)
  · intro vs a' w5 o' hv hA hU hV hS ho
    cases ho
    have e126 : a'.eval (.tmp 126) = .bool true := (hS 67 126 rfl (by omega)).trans (hV 67 (by omega))
    refine ops_wp rfl rfl (wp_asg (.tmp 126) rfl _ e126 ⟨_, rfl, ?_⟩)
    show K1 _ _
    refine hK1 _ _ ?_
    refine wp_ret_end ?_
    show bodyPost Tryz.prog Tryz.f3 (fun e w' => e = .returned (.bool true) ∧ Upd [] w w') .ret (putAll _ _ _) w5
    exact put_end (i := 68) rfl rfl (by simpa using hv) (of_decide_eq_true (by kernel_rfl)) rfl (of_decide_eq_true rfl) (by rw [List.getD_eq_getElem?_getD, List.getElem?_set_self (by omega)]; rfl) ⟨rfl, U11.out.trans hU⟩


end Go.Proofs.YtnpocmhaoaigfaaGreatDoor
