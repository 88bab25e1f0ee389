/- NameLives, walked: given what All tells, and that the kit finds two rows apart that All handed out. -/
import Derived.Test.YtpojkmpimnnjiaaGreatNrS
import Derived.Test.YtpojkmpimnnjiaaGreatNkCc
import Derived.Deep.Cut
import Derived.Deep.DeepCutAuto
import Derived.Deep.CutBlock
import Derived.Deep.RegionHeld3
import Derived.BigQuiet
import Derived.Deep.QuietTactic
namespace Go.Proofs.YtpojkmpimnnjiaaGreat
open Go.RowKit Go.Maps

section
variable {P : Program} {md : Region.Mode} {ops : Array Oper} {Q : Exit → Act → World → Prop} {S : World → Prop}
/-- Number m itself; what is held behind it may hang on what it has left. -/
theorem wpAnyC_cutE {m : Nat} {fuel : Nat} {listed : Array Bool} {a : Act} {w : World} {o : Oper} (hr : Region.ready md ops listed = [m]) (ho : ops[m]? = some o)
    (h : ∀ K' : Act → World → Prop, Shut (∀ a w (S2 : World → Prop), S2 w → (S2 w → wpAnyH P md ops Q S2 fuel (listed.setIfInBounds m true) a w) → K' a w) → if Region.wanted o (yielded ops a.tmps) = true then Oper.wp P o a w K' Q else K' (a.put o.dst undef) w) :
    wpAnyC P md ops Q S m (fuel + 1) listed a w := by
  refine ⟨fun h0 => (by rw [hr] at h0; cases h0), fun j hj => ?_⟩
  rw [hr] at hj
  obtain rfl : j = m := by simpa using hj
  exact wpOp_step ho (fun K' hK => h K' (fun a w S2 hS hW => hK a w ⟨fun _ => wpAny_of_held _ _ _ _ (hW hS), fun e => absurd rfl e⟩))
end

theorem ptr_nilRIn (w : World) (b o d : Nat) : (Op.equalIn (d + 1) 25 (.pointer (some ⟨b, o, none⟩)) (.pointer none)).run Tryz.prog w = .ok false w := by
  simp [Op.equalIn, run_underlying und_pnames]
theorem ptr_nilR (w : World) (b o : Nat) : (binOp .eql 25 (.pointer (some ⟨b, o, none⟩)) (.pointer none)).run Tryz.prog w = .ok (.bool false) w := by
  simp only [binOp]
  simp [Op.equal, Op.maxDepth, ptr_nilRIn w b o 9999]

/-- The kit finds two rows apart that All handed out, one behind the other. -/
def ApSaid : Prop := ∀ (w w6 w7 w8 : World) (v7 v8 : Value) (xs ys : List Nd), MR w7 w6.heap.size v7 xs → Upd [] w w7 → w.heap.size ≤ w6.heap.size → MR w8 w7.heap.size v8 ys → Upd [] w7 w8 → xs.length ≤ 1000 → ys.length ≤ 1000 → ∀ cL : Nat,
  Calls Tryz.prog 11 #[.slice (some ⟨w8.heap.size, 0, none⟩) 2 cL] (w8.alloc (.cells #[v7, v8] 28)) fun e w' => e = .returned (.bool true) ∧ Upd [] w w'

theorem ln_all (HA : AllSaid) {w wr : World} {l n b : Nat} {F : NF} {G : PF} {lv : Value} {L : List Nd} (h : LN w wr l n b F G F lv L) (hn : n ≤ 1000000000) :
    Calls Tryz.prog 10 #[.pointer (some ⟨l, 0, none⟩)] wr fun e w' => ∃ v, e = .returned v ∧ MR w' wr.heap.size v L ∧ Upd [] wr w' := by
  obtain ⟨b1, b2, o, _⟩ := h.obj
  refine (HA wr l n b1 b2 F G o hn).mono ?_
  rintro e w' ⟨v, ms, rfl, h1, h2, h3, hu⟩
  obtain rfl : ms = L := nameds_one h2 h.sim.up (fun x => by rw [h3, h.sim.mem])
  exact ⟨v, rfl, h1, hu⟩
theorem ln_start {w wr : World} {l : Nat} (o : Ow w wr l 0 (fun _ => none) (fun _ => none)) : LN w (wr.alloc (.cells #[.slice none 0 0] 30)) l 0 wr.heap.size (fun _ => none) (fun _ => none) (fun _ => none) (.slice none 0 0) [] := by
  have hu : Upd [] wr (wr.alloc (.cells #[.slice none 0 0] 30)) := (Upd.refl [] wr).alloc _
  obtain ⟨b1, b2, o, h1, h2, h3⟩ := o
  exact ⟨⟨b1, b2, o.upd hu, h1, h2⟩, Cl.new _ _ _ _ rfl, ⟨rfl, Or.inl ⟨rfl, rfl⟩⟩, h3.size, h3.trans hu, SimN.nil⟩

def LivesR (w wr : World) (l m b : Nat) (s5 : Value) : Prop := ∃ (i n : Nat) (F : NF) (G : PF) (lv : Value) (L : List Nd), s5 = .int .i64 (i : Nat) ∧ i ≤ m ∧ n ≤ i ∧ L.length ≤ i ∧ LN w wr l n b F G F lv L

set_option maxHeartbeats 8000000 in
set_option maxRecDepth 100000 in
theorem Lives_walk (hall : AllSaid) (hap : ApSaid) (w : World) (a : Option Addr) (n0 c0 : Nat) (hn0 : n0 ≤ c0) (hcm : c0 ≤ 9223372036854775807) (hop : Steps w a n0) : Calls Tryz.prog 3 #[.slice a n0 c0] w fun e w' => e = .returned (.bool true) ∧ Upd [] w w' := by
  have HN : Hid (n0 ≤ c0 ∧ c0 ≤ 9223372036854775807 ∧ Steps w a n0) := ⟨hn0, hcm, hop⟩
  have HALL : Hid AllSaid := hall
  have HAP : Hid ApSaid := hap
  clear hop hn0 hcm hall hap
  go_enter Tryz.func3, Tryz.ntmps3
  go_upto_if 8 with fail
  go_cut [0] (fun s0 wx => s0 = .slice a (min n0 80) c0 ∧ wx = w)
  case first =>
    by_cases h80 : n0 ≤ 80
    · have hd : decide ((80 : Int) < (n0 : Int)) = false := decide_eq_false (by omega)
      have hm : min n0 80 = n0 := by omega
      go_wp2_with fail
      go_meet
      case rel => exact ⟨by rw [hm], rfl⟩
    · have hd : decide ((80 : Int) < (n0 : Int)) = true := decide_eq_true (by omega)
      have hm : min n0 80 = 80 := by omega
      have hc : 80 ≤ c0 := by have := HN.out.1; omega
      obtain ⟨gl, ol, _, _, _, hae, _⟩ := HN.out.2.2 0 (by omega)
      subst hae
      go_wp2_with fail
      go_meet
      case rel => exact ⟨by rw [hm], rfl⟩
  case rest =>
    obtain ⟨rfl, hw⟩ := hcut
    rw [hw]
    clear hw
    obtain ⟨m, hm⟩ : ∃ m, m = min n0 80 := ⟨_, rfl⟩
    rw [← hm]
    have HM : Hid (m ≤ 80 ∧ Steps w a m) := ⟨by omega, HN.out.2.2.le (by omega)⟩
    clear hm HN
    go_wp2_with fail
    refine Calls.mono (great_any w a m c0 (by have := HM.out.1; omega) HM.out.2) ?_
    rintro e w2 ⟨gb, rfl, hu, hshort⟩
    have U2 : Hid (Upd [] w w2) := hu
    clear hu
    cases gb with
    | true =>
      go_wp2_with fail
      refine Calls.mono (awake_any HALL.out _) ?_
      rintro e w3 ⟨rfl, hu⟩
      have U3 : Hid (Upd [] w w3) := U2.out.trans hu
      clear hu
      go_wp2_with fail
      go_ret
      exact ⟨rfl, U3.out⟩
    | false =>
      have HS : Hid (∀ i, i < m → ∀ gl ol s, a = some ⟨gl, ol, none⟩ → w.cell? ⟨gl, ol + i * 3 + 2, none⟩ = some (encStr s) → s.length ≤ 1000000000) := fun i hi gl ol s he hc => by
        have := hshort rfl i hi gl ol s he hc
        omega
      clear hshort
      go_wp2_with fail
      refine Calls.mono (ow_new w w2 U2.out) ?_
      rintro e w3 ⟨l, rfl, o⟩
      have H3 := ln_start o
      have hnn := fun W => ptr_nilR W l 0
      clear o U2
      go_wp2_with fail
      generalize hb : w3.heap.size = b at H3 ⊢
      clear hb
      go_loopw [5] (fun s5 wr => LivesR w wr l m b s5) (fun s5 _ => m - (intOf s5).toNat)
      case atStart => exact ⟨0, 0, _, _, _, _, rfl, Nat.zero_le _, Nat.zero_le _, Nat.zero_le _, H3⟩
      case round =>
        obtain ⟨i, n, F, G, lv, L, rfl, him, hni, hli, o⟩ := hrel
        have hm80 : m ≤ 80 := HM.out.1
        clear H3 hnn
        by_cases hlt : i < m
        · have HO : Hid (LN w wr l n b F G F lv L ∧ n ≤ i ∧ L.length ≤ i) := ⟨o, hni, hli⟩
          clear o hni hli
          have i1 : (i : Int) < (m : Int) := by omega
          obtain ⟨gl, ol, op, A, s, hae, hgl, k0, k1, k2, hI⟩ := HM.out.2 i hlt
          subst hae
          have l0 : wr.cell? ⟨gl, ol + i * 3, none⟩ = some (.int .i64 op) := (HO.out.1.up.cell (p := ⟨gl, ol + i * 3, none⟩) hgl (by simp)).trans k0
          have l1 : wr.cell? ⟨gl, ol + i * 3 + 1, none⟩ = some (.int .i64 A) := (HO.out.1.up.cell (p := ⟨gl, ol + i * 3 + 1, none⟩) hgl (by simp)).trans k1
          have l2 : wr.cell? ⟨gl, ol + i * 3 + 2, none⟩ = some (encStr s) := (HO.out.1.up.cell (p := ⟨gl, ol + i * 3 + 2, none⟩) hgl (by simp)).trans k2
          have hgr : gl < wr.heap.size := Nat.lt_of_lt_of_le hgl HO.out.1.up.size
          have HI : Hid (I64 A ∧ s.length ≤ 1000000000) := ⟨hI.2.1, HS.out i hlt gl ol s rfl k2⟩
          clear k0 k1 k2 hgl hI
          go_upto_region 11 with fail
          refine wp_region_cut_drew (S := fun W => Upd [] wr W) 6 (by kernel_rfl) (Upd.refl [] wr).drew (fun hS => ?_)
          refine wpAnyC_takeD (i := 0) [6] (v := .pointer (some ⟨l, 0, none⟩)) rfl (by kernel_rfl) (by kernel_rfl) (by kernel_rfl) (by kernel_rfl) (fun _ _ _ h => h) (Or.inl ⟨by rfl, ?_⟩) hS ?_
          · intro W hW; go_simp
          refine wpAnyC_takeD (i := 1) [6] (v := .pointer (some ⟨b, 0, none⟩)) rfl (by kernel_rfl) (by kernel_rfl) (by kernel_rfl) (by kernel_rfl) (fun _ _ _ h => h) (Or.inl ⟨by rfl, ?_⟩) hS ?_
          · intro W hW; go_simp
          refine wpAnyC_takeD (i := 2) [4, 5, 6] (v := .slice (some ⟨gl, ol, none⟩) m c0) rfl (by kernel_rfl) (by kernel_rfl) (by kernel_rfl) (by kernel_rfl) (fun _ _ _ h => h) (Or.inl ⟨by rfl, ?_⟩) hS ?_
          · intro W hW; go_simp
          refine wpAnyC_takeD (i := 3) [4, 5, 6] (v := .int .i64 (i : Nat)) rfl (by kernel_rfl) (by kernel_rfl) (by kernel_rfl) (by kernel_rfl) (fun _ _ _ h => h) (Or.inl ⟨by rfl, ?_⟩) hS ?_
          · intro W hW; go_simp
          simp only [Act.put, List.getElem_toArray, List.getElem_cons_succ, List.getElem_cons_zero, List.setIfInBounds_toArray, List.set_cons_succ, List.set_cons_zero]
          refine wpAnyC_takeD (i := 4) [5, 6] (v := .pointer (some ⟨gl, ol + i * 3, none⟩)) rfl (by kernel_rfl) (by kernel_rfl) (by kernel_rfl) (by kernel_rfl) (fun _ _ _ h => h) (Or.inl ⟨by rfl, ?_⟩) hS ?_
          · intro W hW; go_simp
          refine wpAnyC_takeD (i := 5) [6] (v := .agg #[.int .i64 op, .int .i64 A, encStr s]) rfl (by kernel_rfl) (by kernel_rfl) (by kernel_rfl) (by kernel_rfl) (fun _ _ _ h => h) (Or.inl ⟨by rfl, ?_⟩) hS ?_
          · intro W hW; have e0 : W.cell? ⟨gl, ol + i * 3, none⟩ = some (.int .i64 op) := (hW.cell (p := ⟨gl, ol + i * 3, none⟩) hgr (by simp)).trans l0
            have e1 : W.cell? ⟨gl, ol + i * 3 + 1, none⟩ = some (.int .i64 A) := (hW.cell (p := ⟨gl, ol + i * 3 + 1, none⟩) hgr (by simp)).trans l1
            have e2 : W.cell? ⟨gl, ol + i * 3 + 2, none⟩ = some (encStr s) := (hW.cell (p := ⟨gl, ol + i * 3 + 2, none⟩) hgr (by simp)).trans l2
            go_simp
          simp only [Act.put, List.getElem_toArray, List.getElem_cons_succ, List.getElem_cons_zero, List.setIfInBounds_toArray, List.set_cons_succ, List.set_cons_zero]
          refine wpAnyC_cutE (by kernel_rfl) rfl (fun K hK => ?_)
          go_simp
          refine Calls.mono (step_any (HO.out.1.upd hS) (by have := HO.out.2; omega) (by have := HO.out.2; omega) op A s HI.out.1 HI.out.2) ?_
          rintro en w5 ⟨rfl, n5, F5, G5, lv5, L5, hn5, hl5, o5⟩
          obtain ⟨p5, c5, hv5⟩ := o5.row.form
          subst hv5
          have HL : Hid (LN w w5 l n5 b F5 G5 F5 (.slice p5 L5.length c5) L5) := o5
          have HN : Hid (n5 ≤ i + 1 ∧ L5.length ≤ i + 1 ∧ i < 80) := ⟨by have := HO.out.2; omega, by have := HO.out.2; omega, by omega⟩
          have yb : w5.cell? ⟨b, 0, none⟩ = some (.slice p5 L5.length c5) := o5.box.cell 0
          have hb5 : b < w5.heap.size := o5.box.lt
          refine hK.out _ _ (fun W => Upd [] w5 W) (Upd.refl [] w5) (fun hS0 => ?_)
          clear hK K hS hS0 o5 hn5 hl5 HO l0 l1 l2
          have hS : Upd [] w5 w5 := Upd.refl [] w5
          refine wpAnyH_take (i := 7) (v := .bool false) rfl (by kernel_rfl) (by kernel_rfl) (by kernel_rfl) (fun _ _ _ h => h) (Or.inl ⟨by rfl, ?_⟩) hS ?_
          · intro W hW; go_simp
          refine wpAnyH_take (i := 8) (v := .bool false) rfl (by kernel_rfl) (by kernel_rfl) (by kernel_rfl) (fun _ _ _ h => h) (Or.inl ⟨by rfl, ?_⟩) hS ?_
          · intro W hW; go_simp
          simp only [Act.put, List.getElem_toArray, List.getElem_cons_succ, List.getElem_cons_zero, List.setIfInBounds_toArray, List.set_cons_succ, List.set_cons_zero]
          refine wpAnyH_take (i := 9) (v := .pointer (some ⟨l, 0, none⟩)) rfl (by kernel_rfl) (by kernel_rfl) (by kernel_rfl) (fun _ _ _ h => h) (Or.inl ⟨by rfl, ?_⟩) hS ?_
          · intro W hW; go_simp
          refine wpAnyH_take (i := 11) (v := .pointer (some ⟨b, 0, none⟩)) rfl (by kernel_rfl) (by kernel_rfl) (by kernel_rfl) (fun _ _ _ h => h) (Or.inl ⟨by rfl, ?_⟩) hS ?_
          · intro W hW; go_simp
          simp only [Act.put, List.getElem_toArray, List.getElem_cons_succ, List.getElem_cons_zero, List.setIfInBounds_toArray, List.set_cons_succ, List.set_cons_zero]
          refine wpAnyH_take (i := 12) (v := .pointer (some ⟨b, 0, none⟩)) rfl (by kernel_rfl) (by kernel_rfl) (by kernel_rfl) (fun _ _ _ h => h) (Or.inl ⟨by rfl, ?_⟩) hS ?_
          · intro W hW; go_simp
          simp only [Act.put, List.getElem_toArray, List.getElem_cons_succ, List.getElem_cons_zero, List.setIfInBounds_toArray, List.set_cons_succ, List.set_cons_zero]
          refine wpAnyH_take (i := 13) (v := .pointer (some ⟨b, 0, none⟩)) rfl (by kernel_rfl) (by kernel_rfl) (by kernel_rfl) (fun _ _ _ h => h) (Or.inl ⟨by rfl, ?_⟩) hS ?_
          · intro W hW; go_simp
          simp only [Act.put, List.getElem_toArray, List.getElem_cons_succ, List.getElem_cons_zero, List.setIfInBounds_toArray, List.set_cons_succ, List.set_cons_zero]
          refine wpAnyH_take (i := 14) (v := .slice p5 L5.length c5) rfl (by kernel_rfl) (by kernel_rfl) (by kernel_rfl) (fun _ _ _ h => h) (Or.inl ⟨by rfl, ?_⟩) hS ?_
          · intro W hW; have e1 : W.cell? ⟨b, 0, none⟩ = some (.slice p5 L5.length c5) := (hW.cell (p := ⟨b, 0, none⟩) hb5 (by simp)).trans yb; go_simp
          simp only [Act.put, List.getElem_toArray, List.getElem_cons_succ, List.getElem_cons_zero, List.setIfInBounds_toArray, List.set_cons_succ, List.set_cons_zero]
          refine wpAnyH_ready (rs := [10]) (by kernel_rfl) (by simp) (AllReadyH.cons rfl (fun K hK => ?_) AllReadyH.nil)
          go_simp
          refine Calls.mono (ln_all HALL.out (HL.out.upd hS) (by have := HN.out; omega)) ?_
          rintro en w6 ⟨v6, rfl, hA, hU⟩
          obtain ⟨p6, c6, hv6⟩ := hA.form
          subst hv6
          have HA : Hid (MR w6 _ (.slice p6 L5.length c6) L5 ∧ MR w6 w.heap.size (.slice p5 L5.length c5) L5) := ⟨hA, (HL.out.row.upd hS).upd hU⟩
          clear hA
          have hS2 : Upd [] w5 w6 := hS.trans hU
          refine hK.out _ _ hS2 (fun _ => ?_)
          clear hK K hS hU
          have hS : Upd [] w5 w6 := hS2
          clear hS2
          refine wpAnyH_ready (rs := [15]) (by kernel_rfl) (by simp) (AllReadyH.cons rfl (fun K hK => ?_) AllReadyH.nil)
          go_simp
          refine Calls.mono (sameNameds_any _ _ _ _ _ _ _ HA.out.1 HA.out.2) ?_
          rintro en w7 ⟨he, hU⟩
          have hzz : (L5 == L5) = true := by simp
          rw [hzz] at he
          subst he
          clear hzz HA
          have hS2 : Upd [] w5 w7 := hS.trans hU
          refine hK.out _ _ hS2 (fun _ => ?_)
          clear hK K hS hU
          have hS : Upd [] w5 w7 := hS2
          clear hS2
          refine wpAnyH_take (i := 16) (v := .bool false) rfl (by kernel_rfl) (by kernel_rfl) (by kernel_rfl) (fun _ _ _ h => h) (Or.inl ⟨by rfl, ?_⟩) hS ?_
          · intro W hW; go_simp
          simp only [Act.put, List.getElem_toArray, List.getElem_cons_succ, List.getElem_cons_zero, List.setIfInBounds_toArray, List.set_cons_succ, List.set_cons_zero]
          refine wpAnyH_take (i := 17) (v := .bool false) rfl (by kernel_rfl) (by kernel_rfl) (by kernel_rfl) (fun _ _ _ h => h) (Or.inl ⟨by rfl, ?_⟩) hS ?_
          · intro W hW; go_simp
          simp only [Act.put, List.getElem_toArray, List.getElem_cons_succ, List.getElem_cons_zero, List.setIfInBounds_toArray, List.set_cons_succ, List.set_cons_zero]
          refine wpAnyH_done (by kernel_rfl) ?_ _
          have HE : Hid (LN w w7 l n5 b F5 G5 F5 (.slice p5 L5.length c5) L5) := HL.out.upd hS
          clear hS
          go_wp2_with fail
          go_roundw
          case rel => exact ⟨i + 1, n5, F5, G5, _, L5, by go_num, hlt, HN.out.1, HN.out.2.1, HE.out⟩
          case measure => simp [intOf]; omega
        · obtain rfl : i = m := by omega
          have hn80 : n ≤ 80 := by omega
          have hl80 : L.length ≤ 80 := by omega
          obtain ⟨p, c, hv⟩ := o.row.form
          subst hv
          have HO : Hid (LN w wr l n b F G F (.slice p L.length c) L) := o
          have yb : wr.cell? ⟨b, 0, none⟩ = some (.slice p L.length c) := o.box.cell 0
          have hbl : b < wr.heap.size := o.box.lt
          have hii : decide ((i : Int) < (i : Int)) = false := decide_eq_false (by omega)
          clear o hni hli HM HS him hlt
          go_upto_region 13 with fail
          refine wp_region_held_drew (S := fun W => Upd [] wr W) (by kernel_rfl) (Upd.refl [] wr).drew (fun hS => ?_)
          refine wpAnyH_take (i := 0) (v := .pointer (some ⟨l, 0, none⟩)) rfl (by kernel_rfl) (by kernel_rfl) (by kernel_rfl) (fun _ _ _ h => h) (Or.inl ⟨by rfl, ?_⟩) hS ?_
          · intro W hW; go_simp
          refine wpAnyH_take (i := 2) (v := .pointer (some ⟨l, 0, none⟩)) rfl (by kernel_rfl) (by kernel_rfl) (by kernel_rfl) (fun _ _ _ h => h) (Or.inl ⟨by rfl, ?_⟩) hS ?_
          · intro W hW; go_simp
          simp only [Act.put, List.getElem_toArray, List.getElem_cons_succ, List.getElem_cons_zero, List.setIfInBounds_toArray, List.set_cons_succ, List.set_cons_zero]
          refine wpAnyH_ready (rs := [1]) (by kernel_rfl) (by simp) (AllReadyH.cons rfl (fun K hK => ?_) AllReadyH.nil)
          go_simp
          refine Calls.mono (ln_all HALL.out (HO.out.upd hS) (by omega)) ?_
          rintro en w1 ⟨v1, rfl, hA, hU⟩
          obtain ⟨p1, c1, hv1⟩ := hA.form
          subst hv1
          have H1 : Hid (MR w1 _ (.slice p1 L.length c1) L ∧ Upd [] wr w1 ∧ wr.heap.size ≤ _) := ⟨hA, hS.trans hU, hS.size⟩
          clear hA
          have hS2 : Upd [] wr w1 := hS.trans hU
          refine hK.out _ _ hS2 (fun _ => ?_)
          clear hK K hS hU
          have hS : Upd [] wr w1 := hS2
          clear hS2
          refine wpAnyH_ready (rs := [3]) (by kernel_rfl) (by simp) (AllReadyH.cons rfl (fun K hK => ?_) AllReadyH.nil)
          go_simp
          refine Calls.mono (ln_all HALL.out (HO.out.upd hS) (by omega)) ?_
          rintro en w2 ⟨v2, rfl, hA, hU⟩
          obtain ⟨p2, c2, hv2⟩ := hA.form
          subst hv2
          have hap := HAP.out wr _ w1 w2 (.slice p1 L.length c1) (.slice p2 L.length c2) L L H1.out.1 H1.out.2.1 H1.out.2.2 hA hU (by omega) (by omega)
          have HB : Hid (Upd [] wr w2) := hS.trans hU
          clear hA H1
          have hS2 : Upd [] wr w2 := hS.trans hU
          refine hK.out _ _ hS2 (fun _ => ?_)
          clear hK K hS hU
          have hS : Upd [] wr w2 := hS2
          clear hS2
          refine wpAnyH_ready (rs := [4]) (by kernel_rfl) (by simp) (AllReadyH.cons rfl (fun K hK => ?_) AllReadyH.nil)
          go_simp
          have hS2 : Upd [] wr (w2.alloc (.cells #[.slice p1 L.length c1, .slice p2 L.length c2] 28)) := hS.alloc _
          refine hK.out _ _ hS2 (fun _ => ?_)
          clear hK K hS
          have hS := hS2
          clear hS2
          refine wpAnyH_ready (rs := [5]) (by kernel_rfl) (by simp) (AllReadyH.cons rfl (fun K hK => ?_) AllReadyH.nil)
          go_simp
          refine Calls.mono (hap 2) ?_
          rintro en w3 ⟨rfl, hU3⟩
          clear hap
          refine hK.out _ _ hU3 (fun _ => ?_)
          clear hK K hS
          have hS := hU3
          clear hU3
          refine wpAnyH_take (i := 6) (v := .bool true) rfl (by kernel_rfl) (by kernel_rfl) (by kernel_rfl) (fun _ _ _ h => h) (Or.inl ⟨by rfl, ?_⟩) hS ?_
          · intro W hW; go_simp
          simp only [Act.put, List.getElem_toArray, List.getElem_cons_succ, List.getElem_cons_zero, List.setIfInBounds_toArray, List.set_cons_succ, List.set_cons_zero]
          refine wpAnyH_take (i := 7) (v := .pointer (some ⟨l, 0, none⟩)) rfl (by kernel_rfl) (by kernel_rfl) (by kernel_rfl) (fun _ _ _ h => h) (Or.inl ⟨by rfl, ?_⟩) hS ?_
          · intro W hW; go_simp
          refine wpAnyH_take (i := 9) (v := .pointer (some ⟨b, 0, none⟩)) rfl (by kernel_rfl) (by kernel_rfl) (by kernel_rfl) (fun _ _ _ h => h) (Or.inl ⟨by rfl, ?_⟩) hS ?_
          · intro W hW; go_simp
          simp only [Act.put, List.getElem_toArray, List.getElem_cons_succ, List.getElem_cons_zero, List.setIfInBounds_toArray, List.set_cons_succ, List.set_cons_zero]
          refine wpAnyH_take (i := 10) (v := .pointer (some ⟨b, 0, none⟩)) rfl (by kernel_rfl) (by kernel_rfl) (by kernel_rfl) (fun _ _ _ h => h) (Or.inl ⟨by rfl, ?_⟩) hS ?_
          · intro W hW; go_simp
          simp only [Act.put, List.getElem_toArray, List.getElem_cons_succ, List.getElem_cons_zero, List.setIfInBounds_toArray, List.set_cons_succ, List.set_cons_zero]
          refine wpAnyH_take (i := 11) (v := .pointer (some ⟨b, 0, none⟩)) rfl (by kernel_rfl) (by kernel_rfl) (by kernel_rfl) (fun _ _ _ h => h) (Or.inl ⟨by rfl, ?_⟩) hS ?_
          · intro W hW; go_simp
          simp only [Act.put, List.getElem_toArray, List.getElem_cons_succ, List.getElem_cons_zero, List.setIfInBounds_toArray, List.set_cons_succ, List.set_cons_zero]
          refine wpAnyH_take (i := 12) (v := .slice p L.length c) rfl (by kernel_rfl) (by kernel_rfl) (by kernel_rfl) (fun _ _ _ h => h) (Or.inl ⟨by rfl, ?_⟩) hS ?_
          · intro W hW; have e1 : W.cell? ⟨b, 0, none⟩ = some (.slice p L.length c) := (hW.cell (p := ⟨b, 0, none⟩) hbl (by simp)).trans yb; go_simp
          simp only [Act.put, List.getElem_toArray, List.getElem_cons_succ, List.getElem_cons_zero, List.setIfInBounds_toArray, List.set_cons_succ, List.set_cons_zero]
          refine wpAnyH_ready (rs := [8]) (by kernel_rfl) (by simp) (AllReadyH.cons rfl (fun K hK => ?_) AllReadyH.nil)
          go_simp
          refine Calls.mono (ln_all HALL.out (HO.out.upd hS) (by omega)) ?_
          rintro en w4 ⟨v4, rfl, hA, hU⟩
          obtain ⟨p4, c4, hv4⟩ := hA.form
          subst hv4
          have H4 : Hid (MR w4 _ (.slice p4 L.length c4) L ∧ MR w4 w.heap.size (.slice p L.length c) L) := ⟨hA, (HO.out.row.upd hS).upd hU⟩
          clear hA
          have hS2 : Upd [] wr w4 := hS.trans hU
          refine hK.out _ _ hS2 (fun _ => ?_)
          clear hK K hS hU
          have hS : Upd [] wr w4 := hS2
          clear hS2
          refine wpAnyH_ready (rs := [13]) (by kernel_rfl) (by simp) (AllReadyH.cons rfl (fun K hK => ?_) AllReadyH.nil)
          go_simp
          refine Calls.mono (sameNameds_any _ _ _ _ _ _ _ H4.out.1 H4.out.2) ?_
          rintro en w5 ⟨he, hU⟩
          have hzz : (L == L) = true := by simp
          rw [hzz] at he
          subst he
          clear hzz H4
          have hS2 : Upd [] wr w5 := hS.trans hU
          refine hK.out _ _ hS2 (fun _ => ?_)
          clear hK K hS hU
          have hS : Upd [] wr w5 := hS2
          clear hS2
          refine wpAnyH_take (i := 14) (v := .bool true) rfl (by kernel_rfl) (by kernel_rfl) (by kernel_rfl) (fun _ _ _ h => h) (Or.inl ⟨by rfl, ?_⟩) hS ?_
          · intro W hW; go_simp
          simp only [Act.put, List.getElem_toArray, List.getElem_cons_succ, List.getElem_cons_zero, List.setIfInBounds_toArray, List.set_cons_succ, List.set_cons_zero]
          refine wpAnyH_take (i := 15) (v := .bool true) rfl (by kernel_rfl) (by kernel_rfl) (by kernel_rfl) (fun _ _ _ h => h) (Or.inl ⟨by rfl, ?_⟩) hS ?_
          · intro W hW; go_simp
          simp only [Act.put, List.getElem_toArray, List.getElem_cons_succ, List.getElem_cons_zero, List.setIfInBounds_toArray, List.set_cons_succ, List.set_cons_zero]
          refine wpAnyH_ready (rs := [16]) (by kernel_rfl) (by simp) (AllReadyH.cons rfl (fun K hK => ?_) AllReadyH.nil)
          go_simp
          refine Calls.mono (awake_any HALL.out _) ?_
          rintro en w6 ⟨rfl, hU⟩
          have hS2 : Upd [] wr w6 := hS.trans hU
          refine hK.out _ _ hS2 (fun _ => ?_)
          clear hK K hS hU
          have hS : Upd [] wr w6 := hS2
          clear hS2
          refine wpAnyH_take (i := 17) (v := .bool true) rfl (by kernel_rfl) (by kernel_rfl) (by kernel_rfl) (fun _ _ _ h => h) (Or.inl ⟨by rfl, ?_⟩) hS ?_
          · intro W hW; go_simp
          simp only [Act.put, List.getElem_toArray, List.getElem_cons_succ, List.getElem_cons_zero, List.setIfInBounds_toArray, List.set_cons_succ, List.set_cons_zero]
          refine wpAnyH_ready (rs := [18]) (by kernel_rfl) (by simp) (AllReadyH.cons rfl (fun K hK => ?_) AllReadyH.nil)
          go_simp
          refine hK.out _ _ hS (fun _ => ?_)
          clear hK K
          refine wpAnyH_done (by kernel_rfl) ?_ _
          have HE : Hid (Upd [] w w6) := HO.out.up.trans hS
          clear hS
          go_wp2_with fail
          go_ret
          exact ⟨rfl, HE.out⟩

end Go.Proofs.YtpojkmpimnnjiaaGreat
