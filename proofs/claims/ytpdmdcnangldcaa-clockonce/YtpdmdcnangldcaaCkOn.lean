/- ClockOnce, walked. -/
import Derived.Test.YtpdmdcnangldcaaCkOa
import Derived.Test.YtpdmdcnangldcaaCkOb
import Derived.Test.YtpdmdcnangldcaaCkOc
import Derived.Deep.Cut
import Derived.Deep.CutRange
import Derived.Deep.DeepCutAuto
import Derived.Deep.CutBlock
import Derived.Deep.RegionHeld3
import Derived.BigQuiet
import Derived.Deep.QuietTactic
namespace Go.Proofs.Ytpdmdcnangldcaa
open Go.RowKit Go.Maps

set_option maxHeartbeats 8000000 in
set_option maxRecDepth 100000 in
theorem Once_walk (w : World) (a : Option Addr) (n0 c0 : Nat) (hn0 : n0 ≤ c0) (hcm : c0 ≤ 9223372036854775807) (hop : Steps w a n0) : Calls Try.prog 4 #[.slice a n0 c0] w fun e w' => e = .returned (.bool true) ∧ Upd [] w w' := by
  have HN : Hid (n0 ≤ c0 ∧ c0 ≤ 9223372036854775807 ∧ Steps w a n0) := ⟨hn0, hcm, hop⟩
  clear hop hn0 hcm
  go_enter Try.func4, Try.ntmps4
  go_wp2_with fail
  refine Calls.mono (awake_any _) ?_
  rintro e w1 ⟨rfl, hu⟩
  have U1 : Hid (Upd [] w w1) := hu
  clear hu
  go_upto_if 21 with fail
  go_cut [0] (fun s0 wx => s0 = .slice a (min n0 80) c0 ∧ wx = w1)
  case first =>
    by_cases h80 : n0 ≤ 80
    · have hd : decide ((80 : Int) < (n0 : Int)) = false := decide_eq_false (by omega)
      have hm : min n0 80 = n0 := by omega
      go_wp2_with fail
      go_meet
      case rel => exact ⟨by rw [hm], rfl⟩
    · have hd : decide ((80 : Int) < (n0 : Int)) = true := decide_eq_true (by omega)
      have hm : min n0 80 = 80 := by omega
      have hc : 80 ≤ c0 := by have := HN.out.1; omega
      obtain ⟨gl, ol, _, _, _, hae, _⟩ := HN.out.2.2 0 (by omega)
      subst hae
      go_wp2_with fail
      go_meet
      case rel => exact ⟨by rw [hm], rfl⟩
  case rest =>
    obtain ⟨rfl, hw⟩ := hcut
    rw [hw]
    clear hw
    obtain ⟨m, hm⟩ : ∃ m, m = min n0 80 := ⟨_, rfl⟩
    rw [← hm]
    have HM : Hid (m ≤ 80 ∧ Steps w a m) := ⟨by omega, HN.out.2.2.le (by omega)⟩
    clear hm HN
    go_wp2_with fail
    refine Calls.mono (own_new w1) ?_
    rintro e w2 ⟨c, P, rfl, o, hPl⟩
    have O2 : Hid (Own w w2 c 0 P 0 (fun _ => none) ∧ ∀ x, P x → x < w2.heap.size) := ⟨⟨o.ck, fun x hx => Nat.le_trans U1.out.size (o.own x hx), U1.out.trans o.up⟩, hPl⟩
    clear o hPl U1
    go_wp2_with fail
    generalize hw3 : World.alloc _ _ = w3
    obtain ⟨D, hD⟩ : ∃ D, D = w2.heap.size := ⟨_, rfl⟩
    have hC : ∃ cs, Cl w3 D cs 37 ∧ cs.size = 12 := by rw [← hw3, hD]; exact ⟨_, Cl.new _ _ _ _ rfl, rfl⟩
    have O3 : Hid (Own w w3 c 0 P 0 (fun _ => none) ∧ ¬ P D ∧ w.heap.size ≤ D) := by
      have := O2.out.1.upd (show Upd [] w2 w3 by rw [← hw3]; exact (Upd.refl [] w2).alloc _)
      exact ⟨this, fun hx => by have := O2.out.2 D hx; omega, by rw [hD]; exact O2.out.1.up.size⟩
    rw [← hD]
    clear hw3 hD O2
    go_loopw [5] (fun s5 wr => ∃ k : Nat, k ≤ 12 ∧ s5 = .int .i64 (k : Nat) ∧ Own w wr c 0 P 0 (fun _ => none) ∧ ∃ cs, Cl wr D cs 37 ∧ cs.size = 12 ∧ ∀ p : Nat, p < k → cs[p]? = some (.int .i64 (-1))) (fun s5 _ => 12 - (intOf s5).toNat)
    case atStart =>
      obtain ⟨cs, h1, h2⟩ := hC
      exact ⟨0, by omega, rfl, O3.out.1, cs, h1, h2, fun p hp => by omega⟩
    case round =>
      obtain ⟨k, hk, rfl, ho, cs, hcl, hsz, hlt⟩ := hrel
      by_cases h12 : k < 12
      · have i1 : (k : Int) < 12 := by omega
        have q0 : wr.cell? ⟨D, k, none⟩ = some (cs[k]'(by omega)) := by rw [hcl.cell]; exact Array.getElem?_eq_getElem (by omega)
        have f0 : wr.frozen? ⟨D, k, none⟩ = false := hcl.free k
        have HK : Hid (Own w (wr.setCell ⟨D, k, none⟩ (.int .i64 (-1))) c 0 P 0 (fun _ => none) ∧ ∃ cs, Cl (wr.setCell ⟨D, k, none⟩ (.int .i64 (-1))) D cs 37 ∧ cs.size = 12 ∧ ∀ p : Nat, p < k + 1 → cs[p]? = some (.int .i64 (-1))) := by
          have us : Upd [D] wr (wr.setCell ⟨D, k, none⟩ (.int .i64 (-1))) := (Upd.refl [D] wr).setCell (p := ⟨D, k, none⟩) (Or.inr (by simp)) _
          refine ⟨⟨ho.ck.mono us.toP (fun y hy e => ?_), ho.own, ho.up.setCell (p := ⟨D, k, none⟩) (Or.inl O3.out.2.2) _⟩, _, hcl.set k _, by simpa using hsz, fun p hp => ?_⟩
          · have : y = D := by simpa using e
            exact O3.out.2.1 (this ▸ hy)
          · by_cases e : p = k
            · subst e; rw [Array.getElem?_setIfInBounds_self_of_lt (by omega)]
            · rw [Array.getElem?_setIfInBounds_ne (fun h => e h.symm)]; exact hlt p (by omega)
        clear ho hcl hlt
        go_wp2_with fail
        go_roundw
        case rel => exact ⟨k + 1, by omega, by go_num, HK.out⟩
        case measure => simp [intOf]; omega
      · obtain rfl : k = 12 := by omega
        have HS : Hid (OnceR w wr c D m (.int .i64 0) (.int .i64 0)) := ⟨0, 0, P, 0, fun _ => none, rfl, by omega, by omega, rfl, by omega, by omega, ho, ⟨cs, hcl, hsz, fun p hp => by rw [hlt p hp]; rfl⟩, O3.out.2.1, O3.out.2.2, fun x hx => absurd rfl hx⟩
        clear ho hcl hlt hsz hC cs O3
        go_wp2_with fail
        go_loopw [6, 7] (fun s6 s7 wr => OnceR w wr c D m s6 s7) (fun _ s7 _ => m - (intOf s7).toNat)
        case atStart => exact HS.out
        case round =>
          obtain ⟨i, n, P, now, T, rfl, him, hni, rfl, hn0, hn1, o⟩ := hrel
          have HO : Hid (OnC w wr c D n P now T T ∧ n ≤ i) := ⟨o, hni⟩
          clear o hni HS
          by_cases hlt : i < m
          · have i1 : (i : Int) < (m : Int) := by omega
            obtain ⟨gl, ol, op, A, B, hae, hgl, k0, k1, k2, hI⟩ := HM.out.2 i hlt
            subst hae
            have l0 : wr.cell? ⟨gl, ol + i * 3, none⟩ = some (.int .i64 op) := (HO.out.1.own.up.cell (p := ⟨gl, ol + i * 3, none⟩) hgl (by simp)).trans k0
            have l1 : wr.cell? ⟨gl, ol + i * 3 + 1, none⟩ = some (.int .i64 A) := (HO.out.1.own.up.cell (p := ⟨gl, ol + i * 3 + 1, none⟩) hgl (by simp)).trans k1
            have l2 : wr.cell? ⟨gl, ol + i * 3 + 2, none⟩ = some (.int .i64 B) := (HO.out.1.own.up.cell (p := ⟨gl, ol + i * 3 + 2, none⟩) hgl (by simp)).trans k2
            have hm80 : m ≤ 80 := HM.out.1
            clear k0 k1 k2 hgl hI
            go_upto_block 3 with fail
            go_cut [2, 6, 8, 9, 10, 11, 12, 13, 14, 15, 16] (fun _ s6 _ _ _ _ _ _ _ _ _ wx => OnceC w wx c D i s6)
            case first =>
              go_upto_region 15 with fail
              go_quiet (first | (go_at_call 13; refine Calls.quiet_of_same (pick_any _ _ (by omega) (by omega) _)))
              obtain ⟨w4, hw4⟩ : ∃ w4, w4 = wr.drewN nq := ⟨_, rfl⟩
              have O4 : Hid (OnC w w4 c D n P now T T ∧ n ≤ i ∧ i < 80) := by
                have := HO.out.1.upd ((Upd.refl [] wr).drewN nq)
                rw [← hw4] at this
                exact ⟨this, HO.out.2, by omega⟩
              have l0' : w4.cell? ⟨gl, ol + i * 3, none⟩ = some (.int .i64 op) := by rw [hw4]; exact l0
              rw [← hw4]
              clear hw4 l0 l1 l2 HO
              obtain ⟨hp0, hp1⟩ := pk_lt A (n := 12) (by omega)
              obtain ⟨ht0, ht1⟩ := pk_lt B (n := 64) (by omega)
              obtain ⟨p, hp⟩ : ∃ p : Nat, pk A 12 = (p : Int) := ⟨(pk A 12).toNat, by omega⟩
              rw [hp] at hp0 hp1 ⊢
              have hp12 : p < 12 := by omega
              generalize pk B 64 = a at ht0 ht1 ⊢
              clear hp
              go_wp2_with fail
              refine Calls.mono (pick_any op 5 (by omega) (by omega) _) ?_
              rintro e w5 ⟨rfl, hw5⟩
              rw [hw5]
              clear hw5 w5 l0'
              obtain ⟨t, ht⟩ : ∃ t, t = pk op 5 := ⟨_, rfl⟩
              have htl : 0 ≤ t ∧ t < 5 := by rw [ht]; exact pk_lt op (by omega)
              rw [← ht]
              clear ht
              go_upto_block 4 with fail
              rcases (by omega : (t = 0 ∨ t = 1) ∨ t = 2 ∨ 3 ≤ t) with ht | rfl | ht3
              · refine arm_tick _ (by kernel_rfl) O4.out.1 O4.out.2.1 O4.out.2.2 ht hp12 ht0 ht1 hn0 hn1 ?_
                intros
                dsimp only
                go_step
                go_meet
                case rel => assumption
              · refine arm_drop _ (by kernel_rfl) O4.out.1 O4.out.2.1 O4.out.2.2 hp12 ht0 ht1 hn0 hn1 ?_
                intros
                dsimp only
                go_step
                go_meet
                case rel => assumption
              · refine arm_set _ (by kernel_rfl) O4.out.1 O4.out.2.1 O4.out.2.2 ht3 hp12 ht0 ht1 hn0 hn1 ?_
                intros
                dsimp only
                go_step
                go_meet
                case rel => assumption
            case rest =>
              obtain ⟨n', P', now', T', hn', rfl, h0', h1', o⟩ := hcut
              have HQ : Hid (OnC w wc c D n' P' now' T' T' ∧ n' ≤ i + 1) := ⟨o, hn'⟩
              clear o hn'
              have him80 : (i : Int) < 80 := by omega
              go_wp2_with fail
              go_roundw
              case rel => exact ⟨i + 1, n', P', now', T', by go_num, hlt, HQ.out.2, rfl, h0', by omega, HQ.out.1⟩
              case measure => simp [intOf]; omega
          · obtain rfl : i = m := by omega
            go_wp2_with fail
            go_ret
            exact ⟨rfl, HO.out.1.own.up⟩

end Go.Proofs.Ytpdmdcnangldcaa
