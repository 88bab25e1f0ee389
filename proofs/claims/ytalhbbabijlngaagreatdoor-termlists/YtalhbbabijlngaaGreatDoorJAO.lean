/- TermsOf and great: some number, some answer. -/
import Derived.Test.YtalhbbabijlngaaGreatDoorJAG
import Derived.Test.YtalhbbabijlngaaGreatDoorJAN
namespace Go.Proofs.YtalhbbabijlngaaGreatDoor
open Go.RowKit
mutual
def cntT : Tm → Nat
 | .mk _ _ _ L s I T => 1 + L.length + s.size / 8 + cntR I + cntR T
def cntR : List Tm → Nat
 | [] => 0
 | t :: r => cntT t + cntR r
end
mutual
def xsz : Tm → Nat
 | .mk _ _ _ _ s I T => max s.size (max (xszs I) (xszs T))
def xszs : List Tm → Nat
 | [] => 0
 | t :: r => max (xsz t) (xszs r)
end
theorem xszs_get (I : List Tm) (i : Nat) (hi : i < I.length) : xsz I[i] ≤ xszs I := by
 induction I generalizing i with
 | nil => simp at hi
 | cons t r ih =>
  cases i with
  | zero => simp only [xszs, List.getElem_cons_zero]; omega
  | succ i =>
   simp only [xszs, List.getElem_cons_succ]
   have := ih i (by simpa using hi)
   omega
theorem xszs_le (N : Nat) (I : List Tm) (h : ∀ i (hi : i < I.length), xsz I[i] ≤ N) : xszs I ≤ N := by
 induction I with
 | nil => simp [xszs]
 | cons t r ih =>
  have h0 := h 0 (by simp)
  have h1 := ih (fun i hi => by have := h (i + 1) (by simpa using hi); simpa using this)
  simp only [xszs]
  simp at h0
  omega
theorem cntR_take (I : List Tm) (k : Nat) (hk : k < I.length) : cntR (I.take (k + 1)) = cntR (I.take k) + cntT I[k] := by
 induction I generalizing k with
 | nil => simp at hk
 | cons t r ih =>
  cases k with
  | zero => simp [cntR]
  | succ k => simp only [List.take_succ_cons, cntR, List.getElem_cons_succ]; rw [ih k (by simpa using hk), Nat.add_assoc]
def CntX (m : Int) (t : Tm) (e : Ending) : Prop := ∃ z : Int, e = .returned (.int .i64 z) ∧ 1 ≤ z ∧ z ≤ m + 60000000000000 ∧ (z ≤ m → z = (cntT t : Nat))
def InvZ (m z : Int) (N : Nat) : Prop := 1 ≤ z ∧ z ≤ m + 60000000000000 ∧ (z ≤ m → z = (N : Int))
def InvG (I : List Tm) (z : Int) (k : Nat) : Prop := 0 ≤ z ∧ z ≤ 70000000000000 ∧ (z ≤ 6000 → ∀ j (hj : j < I.length), j < k → cntT I[j] ≤ 6000)
theorem InvZ.step {m z zz : Int} {N M c : Nat} (h : InvZ m z N) (hz : z ≤ m) (h1 : 1 ≤ zz) (h2 : zz ≤ m - z + 60000000000000) (h3 : zz ≤ m - z → zz = (c : Int)) (hM : M = N + c) : InvZ m (z + zz) M := by
 obtain ⟨a1, a2, a3⟩ := h
 refine ⟨by omega, by omega, fun h => ?_⟩
 have := a3 hz
 have := h3 (by omega)
 omega
theorem InvG.step {I : List Tm} {z zz : Int} {k : Nat} (h : InvG I z k) (hz : z ≤ 6000) (hk : k < I.length) (h1 : 1 ≤ zz) (h2 : zz ≤ 6000 + 60000000000000) (h3 : zz ≤ 6000 → zz = (cntT I[k] : Int)) : InvG I (z + zz) (k + 1) := by
 obtain ⟨a1, a2, a3⟩ := h
 refine ⟨by omega, by omega, fun h j hj hjk => ?_⟩
 by_cases e : j = k
 ·subst e; have := h3 (by omega); omega
 ·exact a3 hz j hj (by omega)
def TofX (d : Nat) : Prop := ∀ (w : World) (cs : List Value) (t : Tm) (m : Int), In w d cs t → tsz t ≤ 1353245080330 → xsz t ≤ 140737488355328 → 0 ≤ m → m ≤ 6000 → Calls Tryz.prog 30 #[.agg cs.toArray, .int .i64 m] w fun e w' => CntX m t e ∧ Upd [] w w'
set_option maxHeartbeats 4000000 in
set_option maxRecDepth 100000 in
theorem TofX_step (d : Nat) (ih : TofX d) : TofX (d + 1) := by
 intro w cs t m h hs hx hm0 hm1
 obtain ⟨kd, num, neg, L, s, I, T⟩ := t
 obtain ⟨a, ai, at', c, ci, ct, rfl, hA, hD, hI, hT⟩ := h
 simp only [tsz] at hs
 simp only [xsz] at hx
 have HZI : Hid (tszs I ≤ 1353245080330) := by show _ ≤ _; omega
 have HZT : Hid (tszs T ≤ 1353245080330) := by show _ ≤ _; omega
 have HXI : Hid (xszs I ≤ 140737488355328) := by show _ ≤ _; omega
 have HXT : Hid (xszs T ≤ 140737488355328) := by show _ ≤ _; omega
 have hL : L.length ≤ 35184372088700 := by omega
 have hsz : s.size ≤ 140737488355328 := by omega
 clear hs hx
 have hlI : I.length ≤ 1353245080330 := Nat.le_trans (tszs_len I) HZI.out
 have hlT : T.length ≤ 1353245080330 := Nat.le_trans (tszs_len T) HZT.out
 have HI : Hid (RowAt (In w d) w ai I) := hI
 have HT : Hid (RowAt (In w d) w at' T) := hT
 have IH : Hid (∀ (w : World) (cs : List Value) (t : Tm) (m : Int), In w d cs t → tsz t ≤ 1353245080330 → xsz t ≤ 140737488355328 → 0 ≤ m → m ≤ 6000 → Calls Tryz.prog 30 #[.agg cs.toArray, .int .i64 m] w fun e w' => CntX m t e ∧ Upd [] w w') := ih
 have HTB0 : Hid (Tb (w.alloc (.cells #[.int .u8 kd, .bool neg, .slice a L.length c, .string s, .int .i64 num, .slice ai I.length ci, .slice at' T.length ct] 26)) w.heap.size #[.int .u8 kd, .bool neg, .slice a L.length c, .string s, .int .i64 num, .slice ai I.length ci, .slice at' T.length ct]) := Tb.new _ _ _ rfl
 have HU0 : Hid (Upd [] w (w.alloc (.cells #[.int .u8 kd, .bool neg, .slice a L.length c, .string s, .int .i64 num, .slice ai I.length ci, .slice at' T.length ct] 26))) := (Upd.refl [] w).alloc _
 obtain ⟨n0, hn0⟩ : ∃ n : Nat, n = 1 + L.length + s.size / 8 := ⟨_, rfl⟩
 have hw0 : IntKind.i64.wrap (1 + (L.length : Int)) = 1 + (L.length : Int) := by rw [IntKind.wrap_i64]; omega
 have HW1 : Hid (wrap64 (1 + (L.length : Int) + wrap64 ((s.size : Int) / 8)) = (n0 : Int)) := by show _ = _; unfold wrap64; omega
 have HE : Hid (cntT (.mk kd num neg L s I T) = n0 + cntR I + cntR T) := by show _ = _; rw [cntT, hn0]
 have HN0 : Hid (1 ≤ n0 ∧ n0 ≤ 60000000000000) := ⟨by omega, by omega⟩
 clear hA hD hI hT ih hn0 hsz
 go_enter Tryz.func30, Tryz.ntmps30
 go_wp2
 go_loopw [5, 6] (fun n i wr => ∃ (k : Nat) (z : Int), k ≤ I.length ∧ i = .int .i64 k ∧ n = .int .i64 z ∧ Upd [] w wr ∧ Tb wr w.heap.size #[.int .u8 kd, .bool neg, .slice a L.length c, .string s, .int .i64 num, .slice ai I.length ci, .slice at' T.length ct] ∧ InvZ m z (n0 + cntR (I.take k))) (fun _ i _ => I.length - (intOf i).toNat)
 case atStart =>
  refine ⟨0, (n0 : Int), Nat.zero_le _, rfl, by rw [HW1.out], HU0.out, HTB0.out, ?_⟩
  have := HN0.out
  exact ⟨by omega, by omega, fun _ => by simp [cntR]⟩
 case round =>
  obtain ⟨k, z, hk, rfl, rfl, hU, htb, hzf⟩ := hrel
  have y5 : wr.cell? ⟨w.heap.size, 5, none⟩ = some (.slice ai I.length ci) := htb.cell 5
  by_cases hlt2 : k < I.length
  ·have i1 : (k : Int) < (I.length : Int) := by omega
   by_cases hzm : z ≤ m
   ·rcases HI.out with h0 | ⟨b, o, rfl, hlt, hc⟩
    ·rw [h0] at hlt2; simp at hlt2
    ·obtain ⟨cs, hl7, hcell, hin⟩ := hc k hlt2
     obtain ⟨q0, q1, q2, q3, q4, q5, q6, rfl⟩ := list7 hl7
     have HIN : Hid (In w d [q0, q1, q2, q3, q4, q5, q6] I[k]) := hin
     have HSZ : Hid (tsz I[k] ≤ 1353245080330) := Nat.le_trans (tszs_get I k hlt2) HZI.out
     have HXK : Hid (xsz I[k] ≤ 140737488355328) := Nat.le_trans (xszs_get I k hlt2) HXI.out
     have x0 : wr.cell? ⟨b, o + k * 7, none⟩ = some q0 := (hU.cell (p := ⟨b, o + (k * 7 + 0), none⟩) hlt (by simp)).trans (hcell 0 (by omega))
     have x1 : wr.cell? ⟨b, o + k * 7 + 1, none⟩ = some q1 := (hU.cell (p := ⟨b, o + (k * 7 + 1), none⟩) hlt (by simp)).trans (hcell 1 (by omega))
     have x2 : wr.cell? ⟨b, o + k * 7 + 2, none⟩ = some q2 := (hU.cell (p := ⟨b, o + (k * 7 + 2), none⟩) hlt (by simp)).trans (hcell 2 (by omega))
     have x3 : wr.cell? ⟨b, o + k * 7 + 3, none⟩ = some q3 := (hU.cell (p := ⟨b, o + (k * 7 + 3), none⟩) hlt (by simp)).trans (hcell 3 (by omega))
     have x4 : wr.cell? ⟨b, o + k * 7 + 4, none⟩ = some q4 := (hU.cell (p := ⟨b, o + (k * 7 + 4), none⟩) hlt (by simp)).trans (hcell 4 (by omega))
     have x5 : wr.cell? ⟨b, o + k * 7 + 5, none⟩ = some q5 := (hU.cell (p := ⟨b, o + (k * 7 + 5), none⟩) hlt (by simp)).trans (hcell 5 (by omega))
     have x6 : wr.cell? ⟨b, o + k * 7 + 6, none⟩ = some q6 := (hU.cell (p := ⟨b, o + (k * 7 + 6), none⟩) hlt (by simp)).trans (hcell 6 (by omega))
     have HU : Hid (Upd [] w wr) := hU
     have HTB : Hid (Tb wr _ _) := htb
     have HZN : Hid (InvZ m z (n0 + cntR (I.take k))) := hzf
     have hwm : IntKind.i64.wrap (m - z) = m - z := by have := hzf.1; have := hzf.2.1; rw [IntKind.wrap_i64]; omega
     have hwn : wrap64 (m - z) = m - z := by have := hzf.1; have := hzf.2.1; unfold wrap64; omega
     clear hc hcell hin hU htb hzf
     go_wp2_with fail
     refine Calls.mono (IH.out wr _ _ _ (In.mono HU.out _ _ _ HIN.out) HSZ.out HXK.out (by omega) (by have := HZN.out.1; omega)) ?_
     rintro e w2 ⟨⟨zz, rfl, hz1, hz2, hz3⟩, hU2⟩
     have HU2 : Hid (Upd [] w w2) := HU.out.trans hU2
     have HTB2 : Hid (Tb w2 _ _) := HTB.out.mono hU2 (by simp)
     have hww : IntKind.i64.wrap (z + zz) = z + zz := by have := HZN.out.1; have := HZN.out.2.1; rw [IntKind.wrap_i64]; omega
     have hwx : wrap64 (z + zz) = z + zz := by have := HZN.out.1; have := HZN.out.2.1; unfold wrap64; omega
     have HZM : Hid (1 ≤ zz ∧ zz ≤ (m - z) + 60000000000000 ∧ (zz ≤ (m - z) → zz = cntT I[k])) := ⟨hz1, hz2, hz3⟩
     clear hU2 x0 x1 x2 x3 x4 x5 x6 y5 hz1 hz2 hz3
     go_wp2
     go_roundw
     case rel => exact ⟨k + 1, z + zz, by omega, by go_num, rfl, HU2.out, HTB2.out, HZN.out.step hzm HZM.out.1 HZM.out.2.1 HZM.out.2.2 (by rw [cntR_take I k hlt2]; omega)⟩
     case measure => simp [intOf]; omega
   ·have hzb : decide (z ≤ m) = false := by simp; omega
    have HZS : Hid (InvZ m z (n0 + cntR I + cntR (T.take 0))) := ⟨hzf.1, hzf.2.1, fun h => absurd h hzm⟩
    have HU : Hid (Upd [] w wr) := hU
    have HTB : Hid (Tb wr w.heap.size #[.int .u8 kd, .bool neg, .slice a L.length c, .string s, .int .i64 num, .slice ai I.length ci, .slice at' T.length ct]) := htb
    clear hU htb hzf
    go_wp2
    go_loopw [5, 7] (fun n i wr => ∃ (k : Nat) (z : Int), k ≤ T.length ∧ i = .int .i64 k ∧ n = .int .i64 z ∧ Upd [] w wr ∧ Tb wr w.heap.size #[.int .u8 kd, .bool neg, .slice a L.length c, .string s, .int .i64 num, .slice ai I.length ci, .slice at' T.length ct] ∧ InvZ m z (n0 + cntR I + cntR (T.take k))) (fun _ i _ => T.length - (intOf i).toNat)
    case atStart => exact ⟨0, _, Nat.zero_le _, rfl, rfl, HU.out, HTB.out, HZS.out⟩
    case round =>
     obtain ⟨k, z, hk, rfl, rfl, hU, htb, hzf⟩ := hrel
     have y6 : wr.cell? ⟨w.heap.size, 6, none⟩ = some (.slice at' T.length ct) := htb.cell 6
     by_cases hlt2 : k < T.length
     ·have i1 : (k : Int) < (T.length : Int) := by omega
      by_cases hzm : z ≤ m
      ·rcases HT.out with h0 | ⟨b, o, rfl, hlt, hc⟩
       ·rw [h0] at hlt2; simp at hlt2
       ·obtain ⟨cs, hl7, hcell, hin⟩ := hc k hlt2
        obtain ⟨q0, q1, q2, q3, q4, q5, q6, rfl⟩ := list7 hl7
        have HIN : Hid (In w d [q0, q1, q2, q3, q4, q5, q6] T[k]) := hin
        have HSZ : Hid (tsz T[k] ≤ 1353245080330) := Nat.le_trans (tszs_get T k hlt2) HZT.out
        have HXK : Hid (xsz T[k] ≤ 140737488355328) := Nat.le_trans (xszs_get T k hlt2) HXT.out
        have x0 : wr.cell? ⟨b, o + k * 7, none⟩ = some q0 := (hU.cell (p := ⟨b, o + (k * 7 + 0), none⟩) hlt (by simp)).trans (hcell 0 (by omega))
        have x1 : wr.cell? ⟨b, o + k * 7 + 1, none⟩ = some q1 := (hU.cell (p := ⟨b, o + (k * 7 + 1), none⟩) hlt (by simp)).trans (hcell 1 (by omega))
        have x2 : wr.cell? ⟨b, o + k * 7 + 2, none⟩ = some q2 := (hU.cell (p := ⟨b, o + (k * 7 + 2), none⟩) hlt (by simp)).trans (hcell 2 (by omega))
        have x3 : wr.cell? ⟨b, o + k * 7 + 3, none⟩ = some q3 := (hU.cell (p := ⟨b, o + (k * 7 + 3), none⟩) hlt (by simp)).trans (hcell 3 (by omega))
        have x4 : wr.cell? ⟨b, o + k * 7 + 4, none⟩ = some q4 := (hU.cell (p := ⟨b, o + (k * 7 + 4), none⟩) hlt (by simp)).trans (hcell 4 (by omega))
        have x5 : wr.cell? ⟨b, o + k * 7 + 5, none⟩ = some q5 := (hU.cell (p := ⟨b, o + (k * 7 + 5), none⟩) hlt (by simp)).trans (hcell 5 (by omega))
        have x6 : wr.cell? ⟨b, o + k * 7 + 6, none⟩ = some q6 := (hU.cell (p := ⟨b, o + (k * 7 + 6), none⟩) hlt (by simp)).trans (hcell 6 (by omega))
        have HU : Hid (Upd [] w wr) := hU
        have HTB : Hid (Tb wr _ _) := htb
        have HZN : Hid (InvZ m z (n0 + cntR I + cntR (T.take k))) := hzf
        have hwm : IntKind.i64.wrap (m - z) = m - z := by have := hzf.1; have := hzf.2.1; rw [IntKind.wrap_i64]; omega
        have hwn : wrap64 (m - z) = m - z := by have := hzf.1; have := hzf.2.1; unfold wrap64; omega
        clear hc hcell hin hU htb hzf
        go_wp2_with fail
        refine Calls.mono (IH.out wr _ _ _ (In.mono HU.out _ _ _ HIN.out) HSZ.out HXK.out (by omega) (by have := HZN.out.1; omega)) ?_
        rintro e w2 ⟨⟨zz, rfl, hz1, hz2, hz3⟩, hU2⟩
        have HU2 : Hid (Upd [] w w2) := HU.out.trans hU2
        have HTB2 : Hid (Tb w2 _ _) := HTB.out.mono hU2 (by simp)
        have hww : IntKind.i64.wrap (z + zz) = z + zz := by have := HZN.out.1; have := HZN.out.2.1; rw [IntKind.wrap_i64]; omega
        have hwx : wrap64 (z + zz) = z + zz := by have := HZN.out.1; have := HZN.out.2.1; unfold wrap64; omega
        have HZM : Hid (1 ≤ zz ∧ zz ≤ (m - z) + 60000000000000 ∧ (zz ≤ (m - z) → zz = cntT T[k])) := ⟨hz1, hz2, hz3⟩
        clear hU2 x0 x1 x2 x3 x4 x5 x6 y6 hz1 hz2 hz3
        go_wp2
        go_roundw
        case rel => exact ⟨k + 1, z + zz, by omega, by go_num, rfl, HU2.out, HTB2.out, HZN.out.step hzm HZM.out.1 HZM.out.2.1 HZM.out.2.2 (by rw [cntR_take T k hlt2]; omega)⟩
        case measure => simp [intOf]; omega
      ·have hzb : decide (z ≤ m) = false := by simp; omega
       have HU : Hid (Upd [] w wr) := hU
       have HZS : Hid (1 ≤ z ∧ z ≤ m + 60000000000000) := ⟨hzf.1, hzf.2.1⟩
       clear hU htb hzf
       go_wp2
       go_ret
       exact ⟨⟨_, rfl, HZS.out.1, HZS.out.2, fun h => by omega⟩, HU.out⟩
     ·have hd : decide ((k : Int) < (T.length : Int)) = false := by simp; omega
      have HU : Hid (Upd [] w wr) := hU
      have HZS : Hid (1 ≤ z ∧ z ≤ m + 60000000000000 ∧ (z ≤ m → z = (cntT (.mk kd num neg L s I T) : Nat))) := ⟨hzf.1, hzf.2.1, fun h => by have := hzf.2.2 h; rw [List.take_of_length_le (by omega)] at this; rw [HE.out]; exact this⟩
      clear hU htb hzf
      go_wp2
      go_ret
      exact ⟨⟨_, rfl, HZS.out⟩, HU.out⟩
  ·have hd : decide ((k : Int) < (I.length : Int)) = false := by simp; omega
   have HZS : Hid (InvZ m z (n0 + cntR I + cntR (T.take 0))) := ⟨hzf.1, hzf.2.1, fun h => by have := hzf.2.2 h; rw [List.take_of_length_le (by omega)] at this; simpa [cntR] using this⟩
   have HU : Hid (Upd [] w wr) := hU
   have HTB : Hid (Tb wr w.heap.size #[.int .u8 kd, .bool neg, .slice a L.length c, .string s, .int .i64 num, .slice ai I.length ci, .slice at' T.length ct]) := htb
   clear hU htb hzf
   go_wp2
   go_loopw [5, 7] (fun n i wr => ∃ (k : Nat) (z : Int), k ≤ T.length ∧ i = .int .i64 k ∧ n = .int .i64 z ∧ Upd [] w wr ∧ Tb wr w.heap.size #[.int .u8 kd, .bool neg, .slice a L.length c, .string s, .int .i64 num, .slice ai I.length ci, .slice at' T.length ct] ∧ InvZ m z (n0 + cntR I + cntR (T.take k))) (fun _ i _ => T.length - (intOf i).toNat)
   case atStart => exact ⟨0, _, Nat.zero_le _, rfl, rfl, HU.out, HTB.out, HZS.out⟩
   case round =>
    obtain ⟨k, z, hk, rfl, rfl, hU, htb, hzf⟩ := hrel
    have y6 : wr.cell? ⟨w.heap.size, 6, none⟩ = some (.slice at' T.length ct) := htb.cell 6
    by_cases hlt2 : k < T.length
    ·have i1 : (k : Int) < (T.length : Int) := by omega
     by_cases hzm : z ≤ m
     ·rcases HT.out with h0 | ⟨b, o, rfl, hlt, hc⟩
      ·rw [h0] at hlt2; simp at hlt2
      ·obtain ⟨cs, hl7, hcell, hin⟩ := hc k hlt2
       obtain ⟨q0, q1, q2, q3, q4, q5, q6, rfl⟩ := list7 hl7
       have HIN : Hid (In w d [q0, q1, q2, q3, q4, q5, q6] T[k]) := hin
       have HSZ : Hid (tsz T[k] ≤ 1353245080330) := Nat.le_trans (tszs_get T k hlt2) HZT.out
       have HXK : Hid (xsz T[k] ≤ 140737488355328) := Nat.le_trans (xszs_get T k hlt2) HXT.out
       have x0 : wr.cell? ⟨b, o + k * 7, none⟩ = some q0 := (hU.cell (p := ⟨b, o + (k * 7 + 0), none⟩) hlt (by simp)).trans (hcell 0 (by omega))
       have x1 : wr.cell? ⟨b, o + k * 7 + 1, none⟩ = some q1 := (hU.cell (p := ⟨b, o + (k * 7 + 1), none⟩) hlt (by simp)).trans (hcell 1 (by omega))
       have x2 : wr.cell? ⟨b, o + k * 7 + 2, none⟩ = some q2 := (hU.cell (p := ⟨b, o + (k * 7 + 2), none⟩) hlt (by simp)).trans (hcell 2 (by omega))
       have x3 : wr.cell? ⟨b, o + k * 7 + 3, none⟩ = some q3 := (hU.cell (p := ⟨b, o + (k * 7 + 3), none⟩) hlt (by simp)).trans (hcell 3 (by omega))
       have x4 : wr.cell? ⟨b, o + k * 7 + 4, none⟩ = some q4 := (hU.cell (p := ⟨b, o + (k * 7 + 4), none⟩) hlt (by simp)).trans (hcell 4 (by omega))
       have x5 : wr.cell? ⟨b, o + k * 7 + 5, none⟩ = some q5 := (hU.cell (p := ⟨b, o + (k * 7 + 5), none⟩) hlt (by simp)).trans (hcell 5 (by omega))
       have x6 : wr.cell? ⟨b, o + k * 7 + 6, none⟩ = some q6 := (hU.cell (p := ⟨b, o + (k * 7 + 6), none⟩) hlt (by simp)).trans (hcell 6 (by omega))
       have HU : Hid (Upd [] w wr) := hU
       have HTB : Hid (Tb wr _ _) := htb
       have HZN : Hid (InvZ m z (n0 + cntR I + cntR (T.take k))) := hzf
       have hwm : IntKind.i64.wrap (m - z) = m - z := by have := hzf.1; have := hzf.2.1; rw [IntKind.wrap_i64]; omega
       have hwn : wrap64 (m - z) = m - z := by have := hzf.1; have := hzf.2.1; unfold wrap64; omega
       clear hc hcell hin hU htb hzf
       go_wp2_with fail
       refine Calls.mono (IH.out wr _ _ _ (In.mono HU.out _ _ _ HIN.out) HSZ.out HXK.out (by omega) (by have := HZN.out.1; omega)) ?_
       rintro e w2 ⟨⟨zz, rfl, hz1, hz2, hz3⟩, hU2⟩
       have HU2 : Hid (Upd [] w w2) := HU.out.trans hU2
       have HTB2 : Hid (Tb w2 _ _) := HTB.out.mono hU2 (by simp)
       have hww : IntKind.i64.wrap (z + zz) = z + zz := by have := HZN.out.1; have := HZN.out.2.1; rw [IntKind.wrap_i64]; omega
       have hwx : wrap64 (z + zz) = z + zz := by have := HZN.out.1; have := HZN.out.2.1; unfold wrap64; omega
       have HZM : Hid (1 ≤ zz ∧ zz ≤ (m - z) + 60000000000000 ∧ (zz ≤ (m - z) → zz = cntT T[k])) := ⟨hz1, hz2, hz3⟩
       clear hU2 x0 x1 x2 x3 x4 x5 x6 y6 hz1 hz2 hz3
       go_wp2
       go_roundw
       case rel => exact ⟨k + 1, z + zz, by omega, by go_num, rfl, HU2.out, HTB2.out, HZN.out.step hzm HZM.out.1 HZM.out.2.1 HZM.out.2.2 (by rw [cntR_take T k hlt2]; omega)⟩
       case measure => simp [intOf]; omega
     ·have hzb : decide (z ≤ m) = false := by simp; omega
      have HU : Hid (Upd [] w wr) := hU
      have HZS : Hid (1 ≤ z ∧ z ≤ m + 60000000000000) := ⟨hzf.1, hzf.2.1⟩
      clear hU htb hzf
      go_wp2
      go_ret
      exact ⟨⟨_, rfl, HZS.out.1, HZS.out.2, fun h => by omega⟩, HU.out⟩
    ·have hd : decide ((k : Int) < (T.length : Int)) = false := by simp; omega
     have HU : Hid (Upd [] w wr) := hU
     have HZS : Hid (1 ≤ z ∧ z ≤ m + 60000000000000 ∧ (z ≤ m → z = (cntT (.mk kd num neg L s I T) : Nat))) := ⟨hzf.1, hzf.2.1, fun h => by have := hzf.2.2 h; rw [List.take_of_length_le (by omega)] at this; rw [HE.out]; exact this⟩
     clear hU htb hzf
     go_wp2
     go_ret
     exact ⟨⟨_, rfl, HZS.out⟩, HU.out⟩
theorem TofX_all : ∀ d, TofX d
 | 0 => fun _ _ _ _ h => h.elim
 | d + 1 => TofX_step d (TofX_all d)
def GreatP (I : List Tm) (e : Ending) : Prop := ∃ b : Bool, e = .returned (.bool b) ∧ (b = false → ∀ i (hi : i < I.length), cntT I[i] ≤ 6000)
set_option maxHeartbeats 4000000 in
set_option maxRecDepth 100000 in
theorem greatX (d : Nat) (w : World) (a : Option Addr) (c : Nat) (I : List Tm) (h : RowAt (In w d) w a I) (hz : tszs I ≤ 1353245080330) (hx : xszs I ≤ 140737488355328) :
  Calls Tryz.prog 6 #[.slice a I.length c] w fun e w' => GreatP I e ∧ Upd [] w w' := by
 have hlI : I.length ≤ 1353245080330 := Nat.le_trans (tszs_len I) hz
 have HI : Hid (RowAt (In w d) w a I) := h
 have HZI : Hid (tszs I ≤ 1353245080330) := hz
 have HXI : Hid (xszs I ≤ 140737488355328) := hx
 clear h hz hx
 go_enter Tryz.func6, Tryz.ntmps6
 go_wp2
 go_loopw [3, 4] (fun n i wr => ∃ (k : Nat) (z : Int), k ≤ I.length ∧ i = .int .i64 k ∧ n = .int .i64 z ∧ Upd [] w wr ∧ InvG I z k) (fun _ i _ => I.length - (intOf i).toNat)
 case atStart => exact ⟨0, _, Nat.zero_le _, rfl, rfl, Upd.refl _ _, by omega, by omega, fun _ j _ h => by omega⟩
 case round =>
  obtain ⟨k, z, hk, rfl, rfl, hU, hzf⟩ := hrel
  by_cases hlt2 : k < I.length
  ·have i1 : (k : Int) < (I.length : Int) := by omega
   by_cases hzm : z ≤ 6000
   ·rcases HI.out with h0 | ⟨b, o, rfl, hlt, hc⟩
    ·rw [h0] at hlt2; simp at hlt2
    ·obtain ⟨cs, hl7, hcell, hin⟩ := hc k hlt2
     obtain ⟨q0, q1, q2, q3, q4, q5, q6, rfl⟩ := list7 hl7
     have HIN : Hid (In w d [q0, q1, q2, q3, q4, q5, q6] I[k]) := hin
     have HSZ : Hid (tsz I[k] ≤ 1353245080330) := Nat.le_trans (tszs_get I k hlt2) HZI.out
     have HXK : Hid (xsz I[k] ≤ 140737488355328) := Nat.le_trans (xszs_get I k hlt2) HXI.out
     have x0 : wr.cell? ⟨b, o + k * 7, none⟩ = some q0 := (hU.cell (p := ⟨b, o + (k * 7 + 0), none⟩) hlt (by simp)).trans (hcell 0 (by omega))
     have x1 : wr.cell? ⟨b, o + k * 7 + 1, none⟩ = some q1 := (hU.cell (p := ⟨b, o + (k * 7 + 1), none⟩) hlt (by simp)).trans (hcell 1 (by omega))
     have x2 : wr.cell? ⟨b, o + k * 7 + 2, none⟩ = some q2 := (hU.cell (p := ⟨b, o + (k * 7 + 2), none⟩) hlt (by simp)).trans (hcell 2 (by omega))
     have x3 : wr.cell? ⟨b, o + k * 7 + 3, none⟩ = some q3 := (hU.cell (p := ⟨b, o + (k * 7 + 3), none⟩) hlt (by simp)).trans (hcell 3 (by omega))
     have x4 : wr.cell? ⟨b, o + k * 7 + 4, none⟩ = some q4 := (hU.cell (p := ⟨b, o + (k * 7 + 4), none⟩) hlt (by simp)).trans (hcell 4 (by omega))
     have x5 : wr.cell? ⟨b, o + k * 7 + 5, none⟩ = some q5 := (hU.cell (p := ⟨b, o + (k * 7 + 5), none⟩) hlt (by simp)).trans (hcell 5 (by omega))
     have x6 : wr.cell? ⟨b, o + k * 7 + 6, none⟩ = some q6 := (hU.cell (p := ⟨b, o + (k * 7 + 6), none⟩) hlt (by simp)).trans (hcell 6 (by omega))
     have HU : Hid (Upd [] w wr) := hU
     have HZN : Hid (InvG I z k) := hzf
     clear hc hcell hin hU hzf
     go_wp2_with fail
     refine Calls.mono (TofX_all d wr _ _ 6000 (In.mono HU.out _ _ _ HIN.out) HSZ.out HXK.out (by omega) (by omega)) ?_
     rintro e w2 ⟨⟨zz, rfl, hz1, hz2, hz3⟩, hU2⟩
     have HU2 : Hid (Upd [] w w2) := HU.out.trans hU2
     have hww : IntKind.i64.wrap (z + zz) = z + zz := by have := HZN.out.1; have := HZN.out.2.1; rw [IntKind.wrap_i64]; omega
     have hwx : wrap64 (z + zz) = z + zz := by have := HZN.out.1; have := HZN.out.2.1; unfold wrap64; omega
     have HZM : Hid (1 ≤ zz ∧ zz ≤ 6000 + 60000000000000 ∧ (zz ≤ 6000 → zz = cntT I[k])) := ⟨hz1, hz2, hz3⟩
     clear hU2 x0 x1 x2 x3 x4 x5 x6 hz1 hz2 hz3
     go_wp2
     go_roundw
     case rel => exact ⟨k + 1, z + zz, by omega, by go_num, rfl, HU2.out, HZN.out.step hzm hlt2 HZM.out.1 HZM.out.2.1 HZM.out.2.2⟩
     case measure => simp [intOf]; omega
   ·have hzb : decide (z ≤ 6000) = false := by simp; omega
    have hgt : (6000 : Int) < z := by omega
    have HU : Hid (Upd [] w wr) := hU
    clear hU hzf
    go_wp2
    go_ret
    exact ⟨⟨_, rfl, fun h => by simp at h⟩, HU.out⟩
  ·have hd : decide ((k : Int) < (I.length : Int)) = false := by simp; omega
   have HU : Hid (Upd [] w wr) := hU
   have HZS : Hid (z ≤ 6000 → ∀ j (hj : j < I.length), cntT I[j] ≤ 6000) := fun h j hj => hzf.2.2 h j hj (by omega)
   clear hU hzf
   by_cases hgt : (6000 : Int) < z
   ·go_wp2
    go_ret
    exact ⟨⟨_, rfl, fun h => by simp at h⟩, HU.out⟩
   ·have hzb : decide ((6000 : Int) < z) = false := by simp; omega
    go_wp2
    go_ret
    exact ⟨⟨_, rfl, fun _ => HZS.out (by omega)⟩, HU.out⟩
end Go.Proofs.YtalhbbabijlngaaGreatDoor
namespace Go.Proofs.YtalhbbabijlngaaGreatDoor
open Go.RowKit
def szI (t : Tm) : Int := if okT' t then (szT t : Nat) else -1
def itI (n e : Nat) (I : List Tm) : Int := if okR I then ((n + szR I + e * I.length : Nat) : Int) else -1
mutual
theorem sz_cnt : ∀ t : Tm, szT t + 1 ≤ 3 * cntT t
 | .mk k _ _ L s I T => by
  rw [szT, cntT]
  have h1 := szs_cnt I
  have h2 := szs_cnt T
  have h3 : ownZ k L.length I.length ≤ 2 + L.length + I.length := by
   unfold ownZ
   split
   ·omega
   ·split
    ·omega
    ·split <;> omega
  omega
theorem szs_cnt : ∀ I : List Tm, szR I + I.length ≤ 3 * cntR I
 | [] => by simp [szR, cntR]
 | t :: r => by
  have h1 := sz_cnt t
  have h2 := szs_cnt r
  rw [szR, cntR, List.length_cons]
  omega
end
theorem cntR_get (I : List Tm) (k : Nat) (hk : k < I.length) : cntT I[k] ≤ cntR I := by
 induction I generalizing k with
 | nil => simp at hk
 | cons t r ih =>
  cases k with
  | zero => simp only [List.getElem_cons_zero, cntR]; omega
  | succ k => simp only [List.getElem_cons_succ, cntR]; have := ih k (by simpa using hk); omega
theorem szR_take2 (I : List Tm) (k : Nat) (hk : k < I.length) : szR (I.take (k + 1)) = szR (I.take k) + szT I[k] := by
 induction I generalizing k with
 | nil => simp at hk
 | cons t r ih =>
  cases k with
  | zero => simp [szR]
  | succ k => simp only [List.take_succ_cons, szR, List.getElem_cons_succ]; rw [ih k (by simpa using hk), Nat.add_assoc]
theorem okR_take2 (I : List Tm) (k : Nat) (hk : k < I.length) : okR (I.take (k + 1)) = (okR (I.take k) && okT' I[k]) := by
 induction I generalizing k with
 | nil => simp at hk
 | cons t r ih =>
  cases k with
  | zero => simp [okR]
  | succ k => simp only [List.take_succ_cons, okR, List.getElem_cons_succ]; rw [ih k (by simpa using hk), Bool.and_assoc]
theorem okR_bad2 (I : List Tm) (k : Nat) (hk : k < I.length) (h : okT' I[k] = false) : okR I = false := by
 induction I generalizing k with
 | nil => simp at hk
 | cons t r ih =>
  cases k with
  | zero => simp only [List.getElem_cons_zero] at h; rw [okR, h]; rfl
  | succ k => simp only [List.getElem_cons_succ] at h; rw [okR, ih k (by simpa using hk) h, Bool.and_false]
theorem szR_le2 (I : List Tm) (k : Nat) : szR (I.take k) ≤ szR I := by
 induction I generalizing k with
 | nil => simp
 | cons t r ih =>
  cases k with
  | zero => simp [szR]
  | succ k => simp only [List.take_succ_cons, szR]; have := ih k; omega
def SizR (d : Nat) : Prop := ∀ (w : World) (cs : List Value) (t : Tm), In w d cs t → tsz t ≤ 1353245080330 → cntT t ≤ 12100 → Calls Tryz.prog 55 #[.agg cs.toArray] w fun e w' => e = .returned (.int .i64 (szI t)) ∧ Upd [] w w'
set_option maxHeartbeats 4000000 in
set_option maxRecDepth 100000 in
theorem items2_in (d : Nat) (ih : SizR d) (w : World) (a : Option Addr) (c n e : Nat) (I : List Tm) (h : RowAt (In w d) w a I) (hz : tszs I ≤ 1353245080330) (hcn : cntR I ≤ 12100) (hn : n ≤ 60000) (he : e ≤ 1) :
  Calls Tryz.prog 87 #[.slice a I.length c, .int .i64 n, .int .i64 e] w fun e' w' => e' = .returned (.int .i64 (itI n e I)) ∧ Upd [] w w' := by
 have hlI : I.length ≤ 1353245080330 := Nat.le_trans (tszs_len I) hz
 have hsc := szs_cnt I
 have HI : Hid (RowAt (In w d) w a I) := h
 have HZI : Hid (tszs I ≤ 1353245080330) := hz
 have HCN : Hid (cntR I ≤ 12100) := hcn
 have IH : Hid (∀ (w : World) (cs : List Value) (t : Tm), In w d cs t → tsz t ≤ 1353245080330 → cntT t ≤ 12100 → Calls Tryz.prog 55 #[.agg cs.toArray] w fun e w' => e = .returned (.int .i64 (szI t)) ∧ Upd [] w w') := ih
 have hsz : szR I + I.length ≤ 36300 := by omega
 clear h hz ih hcn hsc
 go_enter Tryz.func87, Tryz.ntmps87
 go_wp2
 go_loopw [1, 7] (fun nv i wr => ∃ (k : Nat), k ≤ I.length ∧ i = .int .i64 k ∧ nv = .int .i64 ((n + szR (I.take k) + e * k : Nat) : Int) ∧ okR (I.take k) = true ∧ Upd [] w wr) (fun _ i _ => I.length - (intOf i).toNat)
 case atStart => exact ⟨0, Nat.zero_le _, rfl, by simp [szR], by simp [okR], Upd.refl _ _⟩
 case round =>
  obtain ⟨k, hk, rfl, rfl, hok, hU⟩ := hrel
  by_cases hlt2 : k < I.length
  ·have i1 : (k : Int) < (I.length : Int) := by omega
   rcases HI.out with h0 | ⟨b, o, rfl, hlt, hc⟩
   ·rw [h0] at hlt2; simp at hlt2
   ·obtain ⟨cs, hl7, hcell, hin⟩ := hc k hlt2
    obtain ⟨q0, q1, q2, q3, q4, q5, q6, rfl⟩ := list7 hl7
    have HIN : Hid (In w d [q0, q1, q2, q3, q4, q5, q6] I[k]) := hin
    have HSZ : Hid (tsz I[k] ≤ 1353245080330) := Nat.le_trans (tszs_get I k hlt2) HZI.out
    have HCK : Hid (cntT I[k] ≤ 12100) := Nat.le_trans (cntR_get I k hlt2) HCN.out
    have x0 : wr.cell? ⟨b, o + k * 7, none⟩ = some q0 := (hU.cell (p := ⟨b, o + (k * 7 + 0), none⟩) hlt (by simp)).trans (hcell 0 (by omega))
    have x1 : wr.cell? ⟨b, o + k * 7 + 1, none⟩ = some q1 := (hU.cell (p := ⟨b, o + (k * 7 + 1), none⟩) hlt (by simp)).trans (hcell 1 (by omega))
    have x2 : wr.cell? ⟨b, o + k * 7 + 2, none⟩ = some q2 := (hU.cell (p := ⟨b, o + (k * 7 + 2), none⟩) hlt (by simp)).trans (hcell 2 (by omega))
    have x3 : wr.cell? ⟨b, o + k * 7 + 3, none⟩ = some q3 := (hU.cell (p := ⟨b, o + (k * 7 + 3), none⟩) hlt (by simp)).trans (hcell 3 (by omega))
    have x4 : wr.cell? ⟨b, o + k * 7 + 4, none⟩ = some q4 := (hU.cell (p := ⟨b, o + (k * 7 + 4), none⟩) hlt (by simp)).trans (hcell 4 (by omega))
    have x5 : wr.cell? ⟨b, o + k * 7 + 5, none⟩ = some q5 := (hU.cell (p := ⟨b, o + (k * 7 + 5), none⟩) hlt (by simp)).trans (hcell 5 (by omega))
    have x6 : wr.cell? ⟨b, o + k * 7 + 6, none⟩ = some q6 := (hU.cell (p := ⟨b, o + (k * 7 + 6), none⟩) hlt (by simp)).trans (hcell 6 (by omega))
    have HU : Hid (Upd [] w wr) := hU
    have HOK : Hid (okR (I.take k) = true) := hok
    obtain ⟨m, hm⟩ : ∃ m, szI I[k] = m := ⟨_, rfl⟩
    obtain ⟨n1, hn1⟩ : ∃ n1 : Nat, n1 = n + szR (I.take k) + e * k := ⟨_, rfl⟩
    rw [← hn1]
    have HN1 : Hid (n1 = n + szR (I.take k) + e * k) := hn1
    have hb1 := szR_take2 I k hlt2
    have hb2 := szR_le2 I (k + 1)
    have hek : e * k ≤ k := by have := Nat.mul_le_mul_right k he; omega
    have hM : Hid (szI I[k] = m) := hm
    clear hc hcell hin hU hok hn1
    go_wp2_with fail
    refine Calls.mono (IH.out wr _ _ (In.mono HU.out _ _ _ HIN.out) HSZ.out HCK.out) ?_
    rw [hm]
    clear hm
    rintro e' w2 ⟨rfl, hU2⟩
    have HU2 : Hid (Upd [] w w2) := HU.out.trans hU2
    clear hU2 x0 x1 x2 x3 x4 x5 x6
    cases hok2 : okT' I[k] with
    | false =>
     have hmm : m = -1 := by have := hM.out; unfold szI at this; rw [hok2] at this; exact this.symm
     subst hmm
     go_wp2
     go_ret
     exact ⟨by unfold itI; rw [okR_bad2 I k hlt2 hok2]; rfl, HU2.out⟩
    | true =>
     have hmm : m = (szT I[k] : Nat) := by have := hM.out; unfold szI at this; rw [hok2] at this; exact this.symm
     obtain ⟨sk, hsk⟩ : ∃ sk, szT I[k] = sk := ⟨_, rfl⟩
     rw [hsk] at hmm hb1
     subst hmm
     have hd : decide (((sk : Nat) : Int) < 0) = false := by simp
     have hN := HN1.out
     have hw1 : IntKind.i64.wrap ((n1 : Int) + (sk : Int)) = (n1 : Int) + (sk : Int) := by rw [IntKind.wrap_i64]; omega
     have hw2 : IntKind.i64.wrap ((n1 : Int) + (sk : Int) + (e : Int)) = ((n1 + sk + e : Nat) : Int) := by rw [IntKind.wrap_i64]; omega
     have HSK : Hid (szT I[k] = sk) := hsk
     clear hN hsk
     go_wp2
     go_roundw
     case rel =>
      refine ⟨k + 1, by omega, by go_num, ?_, ?_, HU2.out⟩
      ·rw [szR_take2 I k hlt2, HSK.out, HN1.out, Nat.mul_succ]
       congr 2
       omega
      ·rw [okR_take2 I k hlt2, HOK.out, hok2]; rfl
     case measure => simp [intOf]; omega
  ·have hd : decide ((k : Int) < (I.length : Int)) = false := by simp; omega
   have HU : Hid (Upd [] w wr) := hU
   have HOK : Hid (itI n e I = ((n + szR (I.take k) + e * k : Nat) : Int)) := by
    have hkl : k = I.length := by omega
    rw [List.take_of_length_le (by omega)] at hok ⊢
    show itI n e I = _
    unfold itI
    rw [hok, if_pos rfl, hkl]
   clear hU hok
   go_wp2
   go_ret
   exact ⟨by rw [HOK.out]; rfl, HU.out⟩
end Go.Proofs.YtalhbbabijlngaaGreatDoor
