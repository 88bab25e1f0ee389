/- ClockParts, walked. -/
import Derived.Test.YtpdmdcnangldcaaCkPa
import Derived.Deep.Cut
import Derived.Deep.DeepCutAuto
import Derived.Deep.CutBlock
import Derived.Deep.RegionHeld3
import Derived.BigQuiet
import Derived.Deep.QuietTactic
namespace Go.Proofs.Ytpdmdcnangldcaa
open Go.RowKit Go.Maps

def PartR (w wr : World) (c d m : Nat) (s9 : Value) : Prop := ∃ (i n : Nat) (P Q : Nat → Prop) (T : TF), s9 = .int .i64 (i : Nat) ∧ i ≤ m ∧ n ≤ i ∧ Two w wr c d n P Q 0 T

set_option maxHeartbeats 8000000 in
set_option maxRecDepth 100000 in
theorem Parts_walk (w : World) (a : Option Addr) (n0 c0 : Nat) (x y : Int) (hn0 : n0 ≤ c0) (hcm : c0 ≤ 9223372036854775807) (hop : Steps w a n0) : Calls Try.prog 5 #[.slice a n0 c0, .int .i64 x, .int .i64 y] w fun e w' => e = .returned (.bool true) ∧ Upd [] w w' := by
  have HN : Hid (n0 ≤ c0 ∧ c0 ≤ 9223372036854775807 ∧ Steps w a n0) := ⟨hn0, hcm, hop⟩
  clear hop hn0 hcm
  go_enter Try.func5, Try.ntmps5
  go_wp2_with fail
  refine Calls.mono (awake_any _) ?_
  rintro e w1 ⟨rfl, hu⟩
  have U1 : Hid (Upd [] w w1) := hu
  clear hu
  go_upto_if 21 with fail
  go_cut [0] (fun s0 wx => s0 = .slice a (min n0 30) c0 ∧ wx = w1)
  case first =>
    by_cases h80 : n0 ≤ 30
    · have hd : decide ((30 : Int) < (n0 : Int)) = false := decide_eq_false (by omega)
      have hm : min n0 30 = n0 := by omega
      go_wp2_with fail
      go_meet
      case rel => exact ⟨by rw [hm], rfl⟩
    · have hd : decide ((30 : Int) < (n0 : Int)) = true := decide_eq_true (by omega)
      have hm : min n0 30 = 30 := by omega
      have hc : 30 ≤ c0 := by have := HN.out.1; omega
      obtain ⟨gl, ol, _, _, _, hae, _⟩ := HN.out.2.2 0 (by omega)
      subst hae
      go_wp2_with fail
      go_meet
      case rel => exact ⟨by rw [hm], rfl⟩
  case rest =>
    obtain ⟨rfl, hw⟩ := hcut
    rw [hw]
    clear hw
    obtain ⟨m, hm⟩ : ∃ m, m = min n0 30 := ⟨_, rfl⟩
    rw [← hm]
    have HM : Hid (m ≤ 30 ∧ Steps w a m) := ⟨by omega, HN.out.2.2.le (by omega)⟩
    clear hm HN
    go_wp2_with fail
    refine Calls.mono (own_new w1) ?_
    rintro e w2 ⟨c, P, rfl, o, hPl⟩
    have O2 : Hid (Own w1 w2 c 0 P 0 (fun _ => none) ∧ ∀ x, P x → x < w2.heap.size) := ⟨o, hPl⟩
    clear o hPl
    go_wp2_with fail
    refine Calls.mono (own_new w2) ?_
    rintro e w3 ⟨d, Q, rfl, o, hQl⟩
    have H3 : Hid (PartR w w3 c d m (.int .i64 0)) := ⟨0, 0, P, Q, fun _ => none, rfl, by omega, by omega, ⟨(O2.out.1.upd o.up).ck, fun x hx => Nat.le_trans U1.out.size (O2.out.1.own x hx), U1.out.trans (O2.out.1.up.trans o.up)⟩,
      ⟨o.ck, fun x hx => Nat.le_trans (Nat.le_trans U1.out.size O2.out.1.up.size) (o.own x hx), U1.out.trans (O2.out.1.up.trans o.up)⟩, fun x hp hq => by
        have h1 := O2.out.2 x hp
        have h2 := o.own x hq
        omega⟩
    clear o hQl O2 U1
    go_wp2_with fail
    go_loopw [9] (fun s9 wr => PartR w wr c d m s9) (fun s9 _ => m - (intOf s9).toNat)
    case atStart => exact H3.out
    case round =>
      obtain ⟨i, n, P, Q, T, rfl, him, hni, o⟩ := hrel
      have HO : Hid (Two w wr c d n P Q 0 T ∧ n ≤ i) := ⟨o, hni⟩
      have hm30 : m ≤ 30 := HM.out.1
      clear o hni H3
      by_cases hlt : i < m
      · have i1 : (i : Int) < (m : Int) := by omega
        obtain ⟨gl, ol, op, A, B, hae, hgl, k0, k1, k2, hI⟩ := HM.out.2 i hlt
        subst hae
        have l1 : wr.cell? ⟨gl, ol + i * 3 + 1, none⟩ = some (.int .i64 A) := (HO.out.1.one.up.cell (p := ⟨gl, ol + i * 3 + 1, none⟩) hgl (by simp)).trans k1
        have l2 : wr.cell? ⟨gl, ol + i * 3 + 2, none⟩ = some (.int .i64 B) := (HO.out.1.one.up.cell (p := ⟨gl, ol + i * 3 + 2, none⟩) hgl (by simp)).trans k2
        have HL : Hid (∀ W, Upd [] w W → W.cell? ⟨gl, ol + i * 3 + 1, none⟩ = some (.int .i64 A)) := fun W hW => (hW.cell (p := ⟨gl, ol + i * 3 + 1, none⟩) hgl (by simp)).trans k1
        have HI : Hid (I64 A) := hI.2.1
        clear k0 k1 k2 hgl hI
        go_wp2_with fail
        refine Calls.mono (pick_any B 200 (by omega) (by omega) _) ?_
        rintro e w5 ⟨rfl, hw5⟩
        rw [hw5]
        clear hw5 w5
        generalize pk B 200 = t
        have HC : Hid (∀ W, Upd [] wr W → Calls Try.prog 9 #[.pointer (some ⟨c, 0, none⟩), .int .i64 A, .int .i64 t] W fun e w' => e = .returned (.bool (setB T A t)) ∧ ∃ P', Own w w' c (n + 1) P' 0 (setT T 0 A t) ∧ Own w w' d n Q 0 T ∧ ∀ x, P' x → ¬ Q x) := fun W hW => two_set1 (HO.out.1.upd hW) (by have := HO.out.2; omega) HI.out t
        have HD : Hid (∀ W P', Own w W c (n + 1) P' 0 (setT T 0 A t) → Own w W d n Q 0 T → (∀ x, P' x → ¬ Q x) → Calls Try.prog 9 #[.pointer (some ⟨d, 0, none⟩), .int .i64 A, .int .i64 t] W fun e w' => e = .returned (.bool (setB T A t)) ∧ ∃ Q', Two w w' c d (n + 1) P' Q' 0 (setT T 0 A t)) := fun W P' h1 h2 h3 => two_set2 h1 h2 h3 (by have := HO.out.2; omega) HI.out t rfl
        cases hsb : setB T A t with
        | true =>
          rw [hsb] at HC HD
          have hli : (i : Int) < (m : Int) := i1
          clear hsb l2
          go_upto_region 10 with fail
          refine wp_region_held_drew (S := fun W => W.cell? ⟨gl, ol + i * 3 + 1, none⟩ = some (.int .i64 A)) (by kernel_rfl) l1 (fun hS => ?_)
          refine wpAnyH_take (i := 0) (v := .pointer (some ⟨c, 0, none⟩)) rfl (by kernel_rfl) (by kernel_rfl) (by kernel_rfl) (fun _ _ _ h => h) (Or.inl ⟨by rfl, ?_⟩) hS ?_
          · intro W hW; go_simp
          refine wpAnyH_take (i := 1) (v := .slice (some ⟨gl, ol, none⟩) m c0) rfl (by kernel_rfl) (by kernel_rfl) (by kernel_rfl) (fun _ _ _ h => h) (Or.inl ⟨by rfl, ?_⟩) hS ?_
          · intro W hW; go_simp
          refine wpAnyH_take (i := 2) (v := .int .i64 (i : Nat)) rfl (by kernel_rfl) (by kernel_rfl) (by kernel_rfl) (fun _ _ _ h => h) (Or.inl ⟨by rfl, ?_⟩) hS ?_
          · intro W hW; go_simp
          simp only [Act.put, List.getElem_toArray, List.getElem_cons_succ, List.getElem_cons_zero, List.setIfInBounds_toArray, List.set_cons_succ, List.set_cons_zero]
          refine wpAnyH_take (i := 3) (v := .pointer (some ⟨gl, ol + i * 3, none⟩)) rfl (by kernel_rfl) (by kernel_rfl) (by kernel_rfl) (fun _ _ _ h => h) (Or.inl ⟨by rfl, ?_⟩) hS ?_
          · intro W hW; go_simp
          simp only [Act.put, List.getElem_toArray, List.getElem_cons_succ, List.getElem_cons_zero, List.setIfInBounds_toArray, List.set_cons_succ, List.set_cons_zero]
          refine wpAnyH_take (i := 4) (v := .pointer (some ⟨gl, ol + i * 3 + 1, none⟩)) rfl (by kernel_rfl) (by kernel_rfl) (by kernel_rfl) (fun _ _ _ h => h) (Or.inl ⟨by rfl, ?_⟩) hS ?_
          · intro W hW; go_simp
          simp only [Act.put, List.getElem_toArray, List.getElem_cons_succ, List.getElem_cons_zero, List.setIfInBounds_toArray, List.set_cons_succ, List.set_cons_zero]
          refine wpAnyH_take (i := 5) (v := .int .i64 A) rfl (by kernel_rfl) (by kernel_rfl) (by kernel_rfl) (fun _ _ _ h => h) (Or.inl ⟨by rfl, ?_⟩) hS ?_
          · intro W hW; go_simp
          refine wpAnyH_take (i := 6) (v := .int .i64 t) rfl (by kernel_rfl) (by kernel_rfl) (by kernel_rfl) (fun _ _ _ h => h) (Or.inl ⟨by rfl, ?_⟩) hS ?_
          · intro W hW; go_simp
          simp only [Act.put, List.getElem_toArray, List.getElem_cons_succ, List.getElem_cons_zero, List.setIfInBounds_toArray, List.set_cons_succ, List.set_cons_zero]
          refine wpAnyH_take (i := 8) (v := .pointer (some ⟨d, 0, none⟩)) rfl (by kernel_rfl) (by kernel_rfl) (by kernel_rfl) (fun _ _ _ h => h) (Or.inl ⟨by rfl, ?_⟩) hS ?_
          · intro W hW; go_simp
          refine wpAnyH_take (i := 9) (v := .slice (some ⟨gl, ol, none⟩) m c0) rfl (by kernel_rfl) (by kernel_rfl) (by kernel_rfl) (fun _ _ _ h => h) (Or.inl ⟨by rfl, ?_⟩) hS ?_
          · intro W hW; go_simp
          refine wpAnyH_take (i := 10) (v := .int .i64 (i : Nat)) rfl (by kernel_rfl) (by kernel_rfl) (by kernel_rfl) (fun _ _ _ h => h) (Or.inl ⟨by rfl, ?_⟩) hS ?_
          · intro W hW; go_simp
          simp only [Act.put, List.getElem_toArray, List.getElem_cons_succ, List.getElem_cons_zero, List.setIfInBounds_toArray, List.set_cons_succ, List.set_cons_zero]
          refine wpAnyH_take (i := 11) (v := .pointer (some ⟨gl, ol + i * 3, none⟩)) rfl (by kernel_rfl) (by kernel_rfl) (by kernel_rfl) (fun _ _ _ h => h) (Or.inl ⟨by rfl, ?_⟩) hS ?_
          · intro W hW; go_simp
          simp only [Act.put, List.getElem_toArray, List.getElem_cons_succ, List.getElem_cons_zero, List.setIfInBounds_toArray, List.set_cons_succ, List.set_cons_zero]
          refine wpAnyH_take (i := 12) (v := .pointer (some ⟨gl, ol + i * 3 + 1, none⟩)) rfl (by kernel_rfl) (by kernel_rfl) (by kernel_rfl) (fun _ _ _ h => h) (Or.inl ⟨by rfl, ?_⟩) hS ?_
          · intro W hW; go_simp
          simp only [Act.put, List.getElem_toArray, List.getElem_cons_succ, List.getElem_cons_zero, List.setIfInBounds_toArray, List.set_cons_succ, List.set_cons_zero]
          refine wpAnyH_take (i := 13) (v := .int .i64 A) rfl (by kernel_rfl) (by kernel_rfl) (by kernel_rfl) (fun _ _ _ h => h) (Or.inl ⟨by rfl, ?_⟩) hS ?_
          · intro W hW; go_simp
          refine wpAnyH_take (i := 14) (v := .int .i64 t) rfl (by kernel_rfl) (by kernel_rfl) (by kernel_rfl) (fun _ _ _ h => h) (Or.inl ⟨by rfl, ?_⟩) hS ?_
          · intro W hW; go_simp
          simp only [Act.put, List.getElem_toArray, List.getElem_cons_succ, List.getElem_cons_zero, List.setIfInBounds_toArray, List.set_cons_succ, List.set_cons_zero]
          refine wpAnyH_ready (rs := [7]) (by kernel_rfl) (by simp) (AllReadyH.cons rfl (fun K hK => ?_) AllReadyH.nil)
          go_simp
          refine Calls.mono (HC.out _ (Upd.refl [] wr).drew) ?_
          rintro e w6 ⟨rfl, P', h6, h7, h8⟩
          have H6 : Hid (Own w w6 c (n + 1) P' 0 (setT T 0 A t) ∧ Own w w6 d n Q 0 T ∧ ∀ x, P' x → ¬ Q x) := ⟨h6, h7, h8⟩
          refine hK.out _ _ (HL.out w6 h6.up) (fun hS => ?_)
          clear hK K h6 h7 h8
          refine wpAnyH_ready (rs := [15]) (by kernel_rfl) (by simp) (AllReadyH.cons rfl (fun K hK => ?_) AllReadyH.nil)
          go_simp
          refine Calls.mono (HD.out _ _ H6.out.1 H6.out.2.1 H6.out.2.2) ?_
          rintro e w7 ⟨rfl, Q', h9⟩
          have H7 : Hid (Two w w7 c d (n + 1) P' Q' 0 (setT T 0 A t)) := h9
          refine hK.out _ _ (HL.out w7 h9.one.up) (fun hS => ?_)
          clear hK K h9
          refine wpAnyH_ready (rs := [16]) (by kernel_rfl) (by simp) (AllReadyH.cons rfl (fun K hK => ?_) AllReadyH.nil)
          go_simp
          refine hK.out _ _ hS (fun _ => ?_)
          clear hK K
          refine wpAnyH_done (by kernel_rfl) ?_ _
          go_wp2_with fail
          go_roundw
          case rel => exact ⟨i + 1, n + 1, P', Q', setT T 0 A t, by go_num, hlt, by have := HO.out.2; omega, H7.out⟩
          case measure => simp [intOf]; omega
        | false =>
          rw [hsb] at HC HD
          have hli : (i : Int) < (m : Int) := i1
          clear hsb l2
          go_upto_region 10 with fail
          refine wp_region_held_drew (S := fun W => W.cell? ⟨gl, ol + i * 3 + 1, none⟩ = some (.int .i64 A)) (by kernel_rfl) l1 (fun hS => ?_)
          refine wpAnyH_take (i := 0) (v := .pointer (some ⟨c, 0, none⟩)) rfl (by kernel_rfl) (by kernel_rfl) (by kernel_rfl) (fun _ _ _ h => h) (Or.inl ⟨by rfl, ?_⟩) hS ?_
          · intro W hW; go_simp
          refine wpAnyH_take (i := 1) (v := .slice (some ⟨gl, ol, none⟩) m c0) rfl (by kernel_rfl) (by kernel_rfl) (by kernel_rfl) (fun _ _ _ h => h) (Or.inl ⟨by rfl, ?_⟩) hS ?_
          · intro W hW; go_simp
          refine wpAnyH_take (i := 2) (v := .int .i64 (i : Nat)) rfl (by kernel_rfl) (by kernel_rfl) (by kernel_rfl) (fun _ _ _ h => h) (Or.inl ⟨by rfl, ?_⟩) hS ?_
          · intro W hW; go_simp
          simp only [Act.put, List.getElem_toArray, List.getElem_cons_succ, List.getElem_cons_zero, List.setIfInBounds_toArray, List.set_cons_succ, List.set_cons_zero]
          refine wpAnyH_take (i := 3) (v := .pointer (some ⟨gl, ol + i * 3, none⟩)) rfl (by kernel_rfl) (by kernel_rfl) (by kernel_rfl) (fun _ _ _ h => h) (Or.inl ⟨by rfl, ?_⟩) hS ?_
          · intro W hW; go_simp
          simp only [Act.put, List.getElem_toArray, List.getElem_cons_succ, List.getElem_cons_zero, List.setIfInBounds_toArray, List.set_cons_succ, List.set_cons_zero]
          refine wpAnyH_take (i := 4) (v := .pointer (some ⟨gl, ol + i * 3 + 1, none⟩)) rfl (by kernel_rfl) (by kernel_rfl) (by kernel_rfl) (fun _ _ _ h => h) (Or.inl ⟨by rfl, ?_⟩) hS ?_
          · intro W hW; go_simp
          simp only [Act.put, List.getElem_toArray, List.getElem_cons_succ, List.getElem_cons_zero, List.setIfInBounds_toArray, List.set_cons_succ, List.set_cons_zero]
          refine wpAnyH_take (i := 5) (v := .int .i64 A) rfl (by kernel_rfl) (by kernel_rfl) (by kernel_rfl) (fun _ _ _ h => h) (Or.inl ⟨by rfl, ?_⟩) hS ?_
          · intro W hW; go_simp
          refine wpAnyH_take (i := 6) (v := .int .i64 t) rfl (by kernel_rfl) (by kernel_rfl) (by kernel_rfl) (fun _ _ _ h => h) (Or.inl ⟨by rfl, ?_⟩) hS ?_
          · intro W hW; go_simp
          simp only [Act.put, List.getElem_toArray, List.getElem_cons_succ, List.getElem_cons_zero, List.setIfInBounds_toArray, List.set_cons_succ, List.set_cons_zero]
          refine wpAnyH_take (i := 8) (v := .pointer (some ⟨d, 0, none⟩)) rfl (by kernel_rfl) (by kernel_rfl) (by kernel_rfl) (fun _ _ _ h => h) (Or.inl ⟨by rfl, ?_⟩) hS ?_
          · intro W hW; go_simp
          refine wpAnyH_take (i := 9) (v := .slice (some ⟨gl, ol, none⟩) m c0) rfl (by kernel_rfl) (by kernel_rfl) (by kernel_rfl) (fun _ _ _ h => h) (Or.inl ⟨by rfl, ?_⟩) hS ?_
          · intro W hW; go_simp
          refine wpAnyH_take (i := 10) (v := .int .i64 (i : Nat)) rfl (by kernel_rfl) (by kernel_rfl) (by kernel_rfl) (fun _ _ _ h => h) (Or.inl ⟨by rfl, ?_⟩) hS ?_
          · intro W hW; go_simp
          simp only [Act.put, List.getElem_toArray, List.getElem_cons_succ, List.getElem_cons_zero, List.setIfInBounds_toArray, List.set_cons_succ, List.set_cons_zero]
          refine wpAnyH_take (i := 11) (v := .pointer (some ⟨gl, ol + i * 3, none⟩)) rfl (by kernel_rfl) (by kernel_rfl) (by kernel_rfl) (fun _ _ _ h => h) (Or.inl ⟨by rfl, ?_⟩) hS ?_
          · intro W hW; go_simp
          simp only [Act.put, List.getElem_toArray, List.getElem_cons_succ, List.getElem_cons_zero, List.setIfInBounds_toArray, List.set_cons_succ, List.set_cons_zero]
          refine wpAnyH_take (i := 12) (v := .pointer (some ⟨gl, ol + i * 3 + 1, none⟩)) rfl (by kernel_rfl) (by kernel_rfl) (by kernel_rfl) (fun _ _ _ h => h) (Or.inl ⟨by rfl, ?_⟩) hS ?_
          · intro W hW; go_simp
          simp only [Act.put, List.getElem_toArray, List.getElem_cons_succ, List.getElem_cons_zero, List.setIfInBounds_toArray, List.set_cons_succ, List.set_cons_zero]
          refine wpAnyH_take (i := 13) (v := .int .i64 A) rfl (by kernel_rfl) (by kernel_rfl) (by kernel_rfl) (fun _ _ _ h => h) (Or.inl ⟨by rfl, ?_⟩) hS ?_
          · intro W hW; go_simp
          refine wpAnyH_take (i := 14) (v := .int .i64 t) rfl (by kernel_rfl) (by kernel_rfl) (by kernel_rfl) (fun _ _ _ h => h) (Or.inl ⟨by rfl, ?_⟩) hS ?_
          · intro W hW; go_simp
          simp only [Act.put, List.getElem_toArray, List.getElem_cons_succ, List.getElem_cons_zero, List.setIfInBounds_toArray, List.set_cons_succ, List.set_cons_zero]
          refine wpAnyH_ready (rs := [7]) (by kernel_rfl) (by simp) (AllReadyH.cons rfl (fun K hK => ?_) AllReadyH.nil)
          go_simp
          refine Calls.mono (HC.out _ (Upd.refl [] wr).drew) ?_
          rintro e w6 ⟨rfl, P', h6, h7, h8⟩
          have H6 : Hid (Own w w6 c (n + 1) P' 0 (setT T 0 A t) ∧ Own w w6 d n Q 0 T ∧ ∀ x, P' x → ¬ Q x) := ⟨h6, h7, h8⟩
          refine hK.out _ _ (HL.out w6 h6.up) (fun hS => ?_)
          clear hK K h6 h7 h8
          refine wpAnyH_ready (rs := [15]) (by kernel_rfl) (by simp) (AllReadyH.cons rfl (fun K hK => ?_) AllReadyH.nil)
          go_simp
          refine Calls.mono (HD.out _ _ H6.out.1 H6.out.2.1 H6.out.2.2) ?_
          rintro e w7 ⟨rfl, Q', h9⟩
          have H7 : Hid (Two w w7 c d (n + 1) P' Q' 0 (setT T 0 A t)) := h9
          refine hK.out _ _ (HL.out w7 h9.one.up) (fun hS => ?_)
          clear hK K h9
          refine wpAnyH_ready (rs := [16]) (by kernel_rfl) (by simp) (AllReadyH.cons rfl (fun K hK => ?_) AllReadyH.nil)
          go_simp
          refine hK.out _ _ hS (fun _ => ?_)
          clear hK K
          refine wpAnyH_done (by kernel_rfl) ?_ _
          go_wp2_with fail
          go_roundw
          case rel => exact ⟨i + 1, n + 1, P', Q', setT T 0 A t, by go_num, hlt, by have := HO.out.2; omega, H7.out⟩
          case measure => simp [intOf]; omega
      · have hn30 : n ≤ 30 := by have := HO.out.2; omega
        obtain ⟨hx0, hx1⟩ := pk_lt x (n := 150) (by omega)
        obtain ⟨hy0, hy1⟩ := pk_lt y (n := 150) (by omega)
        go_wp2_with fail
        refine Calls.mono (pick_any x 150 (by omega) (by omega) _) ?_
        rintro e w5 ⟨rfl, hw5⟩
        rw [hw5]
        clear hw5 w5
        go_wp2_with fail
        refine Calls.mono (pick_any y 150 (by omega) (by omega) _) ?_
        rintro e w5 ⟨rfl, hw5⟩
        rw [hw5]
        clear hw5 w5
        generalize pk x 150 = s at hx0 hx1 ⊢
        generalize pk y 150 = t at hy0 hy1 ⊢
        have hwr : IntKind.i64.wrap (s + t) = s + t := IntWalk.i64_in _ ⟨by omega, by omega⟩
        go_wp2_with fail
        refine Calls.mono (own_tick HO.out.1.one (by omega) hx0 (by omega)) ?_
        rintro e w6 ⟨v6, xs, rfl, hA, hdx, hxl, o, hu⟩
        obtain ⟨p6, c6, hv6⟩ := hA.form
        subst hv6
        have H6 : Hid (Own w w6 c n P (0 + s) (tickT T (0 + s)) ∧ Own w w6 d n Q 0 T ∧ AR2 w6 wr.heap.size w6.heap.size (.slice p6 xs.length c6) xs ∧ (∀ x, P x → x < wr.heap.size) ∧ (∀ x, Q x → x < wr.heap.size) ∧ Due T (0 + s) xs ∧ xs.length ≤ n) := ⟨o, HO.out.1.two.past hu (fun x hq hp => HO.out.1.dis x hp hq) HO.out.1.one.own, hA.two, HO.out.1.one.ck.bnd, HO.out.1.two.ck.bnd, hdx, hxl⟩
        have HS6 : Hid (wr.heap.size ≤ w6.heap.size) := hu.size
        clear hA hdx hxl o hu
        go_wp2_with fail
        refine Calls.mono (own_tick H6.out.1 (by omega) hy0 (by omega)) ?_
        rintro e w7 ⟨v7, ys, rfl, hA, hdy, hyl, o, hu⟩
        obtain ⟨p7, c7, hv7⟩ := hA.form
        subst hv7
        have H7 : Hid (Own w w7 c n P (0 + s + t) (tickT (tickT T (0 + s)) (0 + s + t)) ∧ Own w w7 d n Q 0 T ∧ AR2 w7 wr.heap.size w6.heap.size (.slice p6 xs.length c6) xs ∧ AR w7 w6.heap.size (.slice p7 ys.length c7) ys ∧ Due (tickT T (0 + s)) (0 + s + t) ys ∧ ys.length ≤ n) := ⟨o, H6.out.2.1.past hu (fun x hq hp => HO.out.1.dis x hp hq) HO.out.1.one.own, H6.out.2.2.1.mono hu (fun x hx => Or.inl (H6.out.2.2.2.1 x hx)), hA, hdy, hyl⟩
        have HS7 : Hid (w6.heap.size ≤ w7.heap.size) := hu.size
        clear hA hdy hyl o hu
        go_wp2_with fail
        refine Calls.mono (own_tick H7.out.2.1 (by omega) (m := s + t) (by omega) (by omega)) ?_
        rintro e w8 ⟨v8, zs, rfl, hA, hdz, hzl, o, hu⟩
        obtain ⟨p8, c8, hv8⟩ := hA.form
        subst hv8
        have e1 : (0 : Int) + s + t = 0 + (s + t) := by omega
        have H8 : Hid (Own w w8 c n P (0 + s + t) (tickT T (0 + (s + t))) ∧ Own w w8 d n Q (0 + (s + t)) (tickT T (0 + (s + t))) ∧ AR2 w8 wr.heap.size w6.heap.size (.slice p6 xs.length c6) xs ∧ AR w8 w6.heap.size (.slice p7 ys.length c7) ys ∧ AR w8 w7.heap.size (.slice p8 zs.length c8) zs ∧ xs ++ ys = zs) := by
          refine ⟨?_, o, H7.out.2.2.1.mono hu (fun x hx => Or.inl (H6.out.2.2.2.2.1 x hx)), H7.out.2.2.2.1.mono hu (fun x hx => Or.inl (by have h1 := H6.out.2.2.2.2.1 x hx; have h2 := HS6.out; omega)), hA, ?_⟩
          · have h := H7.out.1.past hu HO.out.1.dis HO.out.1.two.own
            rw [tick_tick (by omega)] at h
            rw [e1] at h ⊢
            exact h
          · have hy' := H7.out.2.2.2.2.1
            rw [e1] at hy'
            exact due_app (by omega) H6.out.2.2.2.2.2.1 hy' hdz
        have HZ : Hid (w7.heap.size ≤ w8.heap.size ∧ xs.length ≤ 30 ∧ ys.length ≤ 30) := ⟨hu.size, by have := H6.out.2.2.2.2.2.2; omega, by have := H7.out.2.2.2.2.2; omega⟩
        clear hA hdz hzl o hu e1
        obtain ⟨v9, w9, hr, hA9, hu9⟩ := append_ar 0 H8.out.2.2.1 (fun s hs => src_ar H8.out.2.2.2.1 hs) (by have := HZ.out; omega) (by have := HZ.out; have := HS6.out; have := HS7.out; omega)
        have hr' : ∀ ty, (Builtin.append_ #[25, 25] ty #[.slice p6 xs.length c6, .slice p7 ys.length c7]).run Try.prog w8 = .ok v9 w9 := fun ty => hr
        have hPQ : (∀ x, P x → ¬ (wr.heap.size ≤ x ∧ x < w6.heap.size)) ∧ ∀ x, Q x → ¬ (wr.heap.size ≤ x ∧ x < w6.heap.size) := ⟨fun x hx h => by have := H6.out.2.2.2.1 x hx; omega, fun x hx h => by have := H6.out.2.2.2.2.1 x hx; omega⟩
        have H9 : Hid (Own w w9 c n P (0 + s + t) (tickT T (0 + (s + t))) ∧ Own w w9 d n Q (0 + (s + t)) (tickT T (0 + (s + t))) ∧ AR w9 wr.heap.size v9 zs ∧ AR w9 w7.heap.size (.slice p8 zs.length c8) zs) := ⟨H8.out.1.past hu9 hPQ.1 (fun x hx => Nat.le_trans HO.out.1.one.up.size hx.1), H8.out.2.1.past hu9 hPQ.2 (fun x hx => Nat.le_trans HO.out.1.one.up.size hx.1), by rw [← H8.out.2.2.2.2.2]; exact hA9, H8.out.2.2.2.2.1.mono hu9 (fun x hx => Or.inl (by have := HS7.out; omega))⟩
        clear hr hA9 hu9 hPQ
        go_wp2_with (first | (at_builtin; refine Lib.wpList_append_run _ rfl _ _ _ _ rfl _ _ rfl rfl _ _ (hr' _) ?_))
        refine Calls.mono (sameInts_any _ _ _ _ _ _ _ H9.out.2.2.1 H9.out.2.2.2) ?_
        rintro e w10 ⟨he, hu10⟩
        rw [show (zs == zs) = true by simp] at he
        subst he
        have H10 : Hid (Own w w10 c n P (0 + s + t) (tickT T (0 + (s + t))) ∧ Own w w10 d n Q (0 + (s + t)) (tickT T (0 + (s + t)))) := ⟨H9.out.1.upd hu10, H9.out.2.1.upd hu10⟩
        clear hu10
        go_wp2_with fail
        refine Calls.mono (own_waits H10.out.1 (by omega)) ?_
        rintro e w11 ⟨v11, us, rfl, hA, hS, _, o, hu⟩
        obtain ⟨p11, c11, hv11⟩ := hA.form
        subst hv11
        have H11 : Hid (Own w w11 d n Q (0 + (s + t)) (tickT T (0 + (s + t))) ∧ AR w11 w10.heap.size (.slice p11 us.length c11) us ∧ Srt (tickT T (0 + (s + t))) us) := ⟨H10.out.2.upd hu, hA, hS⟩
        clear hA hS o hu
        go_wp2_with fail
        refine Calls.mono (own_waits H11.out.1 (by omega)) ?_
        rintro e w12 ⟨v12, vs, rfl, hA, hS, _, o, hu⟩
        obtain ⟨p12, c12, hv12⟩ := hA.form
        subst hv12
        obtain rfl := H11.out.2.2.one hS
        have H12 : Hid (Own w w12 d n Q (0 + (s + t)) (tickT T (0 + (s + t))) ∧ AR w12 w10.heap.size (.slice p11 us.length c11) us ∧ AR w12 w11.heap.size (.slice p12 us.length c12) us) := ⟨o, H11.out.2.1.upd hu, hA⟩
        clear hA hS o hu
        go_wp2_with fail
        refine Calls.mono (sameInts_any _ _ _ _ _ _ _ H12.out.2.1 H12.out.2.2) ?_
        rintro e w13 ⟨he, hu13⟩
        rw [show (us == us) = true by simp] at he
        subst he
        have U13 : Hid (Upd [] w w13) := H12.out.1.up.trans hu13
        clear hu13
        go_wp2_with fail
        go_ret
        exact ⟨rfl, U13.out⟩

end Go.Proofs.Ytpdmdcnangldcaa
