/- ClockLives, walked. -/
import Derived.Test.YtpemnficdhjkhaaCrP
import Derived.Test.YtpemnficdhjkhaaCrV
import Derived.Test.YtpemnficdhjkhaaBgU
import Derived.Test.YtpemnficdhjkhaaCrC
import Derived.Deep.Cut
import Derived.Deep.DeepCutAuto
import Derived.Deep.CutBlock
import Derived.Deep.RegionHeld3
import Derived.BigQuiet
import Derived.Deep.QuietTactic
namespace Go.Proofs.Ytpemnficdhjkhaa
open Go.RowKit Go.Maps

section
variable {P : Program} {md : Region.Mode} {ops : Array Oper} {Q : Exit → Act → World → Prop} {S : World → Prop}
/-- Number m itself; what is held behind it may hang on what it has left. -/
theorem wpAnyC_cutE {m : Nat} {fuel : Nat} {listed : Array Bool} {a : Act} {w : World} {o : Oper} (hr : Region.ready md ops listed = [m]) (ho : ops[m]? = some o)
    (h : ∀ K' : Act → World → Prop, Shut (∀ a w (S2 : World → Prop), S2 w → (S2 w → wpAnyH P md ops Q S2 fuel (listed.setIfInBounds m true) a w) → K' a w) → if Region.wanted o (yielded ops a.tmps) = true then Oper.wp P o a w K' Q else K' (a.put o.dst undef) w) :
    wpAnyC P md ops Q S m (fuel + 1) listed a w := by
  refine ⟨fun h0 => (by rw [hr] at h0; cases h0), fun j hj => ?_⟩
  rw [hr] at hj
  obtain rfl : j = m := by simpa using hj
  exact wpOp_step ho (fun K' hK => h K' (fun a w S2 hS hW => hK a w ⟨fun _ => wpAny_of_held _ _ _ _ (hW hS), fun e => absurd rfl e⟩))
end

theorem ptr_nilRIn (w : World) (b o d : Nat) : (Op.equalIn (d + 1) 23 (.pointer (some ⟨b, o, none⟩)) (.pointer none)).run Try.prog w = .ok false w := by
  simp [Op.equalIn, run_underlying und_pclock]
theorem ptr_nilR (w : World) (b o : Nat) : (binOp .eql 23 (.pointer (some ⟨b, o, none⟩)) (.pointer none)).run Try.prog w = .ok (.bool false) w := by
  simp only [binOp]
  simp [Op.equal, Op.maxDepth, ptr_nilRIn w b o 9999]

theorem AR0.at {w : World} {B n c : Nat} {p : Option Addr} {xs : List Int} (h : AR0 w B (.slice p n c) xs) (hx : 0 < xs.length) : ∃ g, p = some ⟨g, 0, none⟩ := by
  rcases h with ⟨rfl, _⟩ | ⟨b, cap, cur, h1, _⟩
  · simp at hx
  · simp only [Value.slice.injEq] at h1
    exact ⟨b, h1.1⟩
theorem UpP.of_set {P : Nat → Prop} {w : World} {g k : Nat} (hg : P g) (v : Value) : UpP P w (w.setCell ⟨g, k, none⟩ v) :=
  ⟨rfl, rfl, rfl, by rw [World.size_setCell]; exact Nat.le_refl _, fun b _ hn => heap_setCell_other _ _ _ _ (fun e => hn (by rw [e]; exact hg))⟩
/-- Two rows that Waits handed out lie apart. -/
theorem ap_two {w w6 w7 w8 W9 : World} {G : Nat} {v7 v8 : Value} {xs ys : List Int} {n : Nat} (h7 : AR0 w7 w6.heap.size v7 xs) (hu7 : Upd [] w w7) (hw6 : w.heap.size ≤ w6.heap.size) (h8 : AR0 w8 w7.heap.size v8 ys) (hu8 : Upd [] w7 w8) (hl7 : xs.length ≤ n) (hl8 : ys.length ≤ n) (hn : n ≤ 1000)
    (hW : W9 = w8.alloc (.cells #[v7, v8] 34)) (hG : G = w8.heap.size) (cL : Nat) :
    Calls Try.prog 11 #[.slice (some ⟨G, 0, none⟩) 2 cL] W9 fun e w' => e = .returned (.bool true) ∧ Upd [] w w' := by
  have u9 : Upd [] w8 W9 := by rw [hW]; exact (Upd.refl [] w8).alloc _
  have hb : Cl W9 G #[v7, v8] 34 := by rw [hW, hG]; exact Cl.new _ _ _ _ rfl
  have hs : W9.heap.size = G + 1 := by rw [hW, hG]; simp
  have o7 : ∀ g, oB v7 = some g → w6.heap.size ≤ g ∧ g < w7.heap.size := fun g hg => h7.ob hg
  have o8 : ∀ g, oB v8 = some g → w7.heap.size ≤ g ∧ g < w8.heap.size := fun g hg => h8.ob hg
  have s8 := hu8.size
  have hR : Rs W9 1 G 2 W9.heap.size (fun k => if k = 0 then v7 else v8) (fun k => if k = 0 then xs.length else ys.length) := by
    refine ⟨Nat.le_refl _, by omega, fun j hj => ?_, fun j hj => ?_, fun j g hj hg => ?_, fun i j g hi hj hij hg hg2 => ?_⟩
    · rw [hb.cell]
      rcases (by omega : j = 0 ∨ j = 1) with rfl | rfl <;> rfl
    · rcases (by omega : j = 0 ∨ j = 1) with rfl | rfl
      · exact ((h7.upd hu8).upd u9).row
      · exact (h8.upd u9).row
    · rcases (by omega : j = 0 ∨ j = 1) with rfl | rfl
      · have := o7 g hg; omega
      · have := o8 g hg; omega
    · rcases (by omega : (i = 0 ∧ j = 1) ∨ (i = 1 ∧ j = 0)) with ⟨rfl, rfl⟩ | ⟨rfl, rfl⟩
      · have h1 := o7 g hg
        have h2 := o8 g hg2
        omega
      · have h1 := o8 g hg
        have h2 := o7 g hg2
        omega
  refine (ApartInts_in W9 G 2 cL _ _ hR (by omega) (by omega) (fun k hk => ?_)).mono ?_
  · rcases (by omega : k = 0 ∨ k = 1) with rfl | rfl
    · show xs.length ≤ _; omega
    · show ys.length ≤ _; omega
  · rintro e w' ⟨rfl, hu⟩
    refine ⟨rfl, (((hu7.trans hu8).trans u9).toN.trans hu).upd (fun x hx => ?_)⟩
    obtain ⟨k, hk, hx⟩ := hx
    rcases (by omega : k = 0 ∨ k = 1) with rfl | rfl
    · have := o7 x hx; omega
    · have := o8 x hx; have := hu7.size; omega

def LivesR (w wr : World) (c m b : Nat) (s5 : Value) : Prop := ∃ (i n : Nat) (P : Nat → Prop) (now : Int) (T : TF) (lv : Value) (L : List (Int × Int)), s5 = .int .i64 (i : Nat) ∧ i ≤ m ∧ n ≤ i ∧ LC w wr c n b P now now T T lv L

set_option maxHeartbeats 8000000 in
set_option maxRecDepth 100000 in
theorem Lives_walk (w : World) (a : Option Addr) (n0 c0 : Nat) (hn0 : n0 ≤ c0) (hcm : c0 ≤ 9223372036854775807) (hop : Steps w a n0) : Calls Try.prog 3 #[.slice a n0 c0] w fun e w' => e = .returned (.bool true) ∧ Upd [] w w' := by
  have HN : Hid (n0 ≤ c0 ∧ c0 ≤ 9223372036854775807 ∧ Steps w a n0) := ⟨hn0, hcm, hop⟩
  clear hop hn0 hcm
  go_enter Try.func3, Try.ntmps3
  go_upto_if 10 with fail
  go_cut [0] (fun s0 wx => s0 = .slice a (min n0 80) c0 ∧ wx = w)
  case first =>
    by_cases h80 : n0 ≤ 80
    · have hd : decide ((80 : Int) < (n0 : Int)) = false := decide_eq_false (by omega)
      have hm : min n0 80 = n0 := by omega
      go_wp2_with fail
      go_meet
      case rel => exact ⟨by rw [hm], rfl⟩
    · have hd : decide ((80 : Int) < (n0 : Int)) = true := decide_eq_true (by omega)
      have hm : min n0 80 = 80 := by omega
      have hc : 80 ≤ c0 := by have := HN.out.1; omega
      obtain ⟨gl, ol, _, _, _, hae, _⟩ := HN.out.2.2 0 (by omega)
      subst hae
      go_wp2_with fail
      go_meet
      case rel => exact ⟨by rw [hm], rfl⟩
  case rest =>
    obtain ⟨rfl, hw⟩ := hcut
    rw [hw]
    clear hw
    obtain ⟨m, hm⟩ : ∃ m, m = min n0 80 := ⟨_, rfl⟩
    rw [← hm]
    have HM : Hid (m ≤ 80 ∧ Steps w a m) := ⟨by omega, HN.out.2.2.le (by omega)⟩
    clear hm HN
    go_wp2_with fail
    refine Calls.mono (own_new w) ?_
    rintro e w2 ⟨c, P, rfl, o, hPl⟩
    have H3 := lc_start o hPl
    have hnn := fun W => ptr_nilR W c 0
    clear o hPl
    go_wp2_with fail
    generalize hb : w2.heap.size = b at H3 ⊢
    clear hb
    go_loopw [5] (fun s5 wr => LivesR w wr c m b s5) (fun s5 _ => m - (intOf s5).toNat)
    case atStart => exact ⟨0, 0, _, _, _, _, _, rfl, Nat.zero_le _, Nat.zero_le _, H3⟩
    case round =>
      obtain ⟨i, n, P, now, T, lv, L, rfl, him, hni, o⟩ := hrel
      have HO : Hid (LC w wr c n b P now now T T lv L ∧ n ≤ i) := ⟨o, hni⟩
      have hm80 : m ≤ 80 := HM.out.1
      clear o hni H3 hnn
      by_cases hlt : i < m
      · have i1 : (i : Int) < (m : Int) := by omega
        obtain ⟨gl, ol, op, A, B, hae, hgl, k0, k1, k2, hI⟩ := HM.out.2 i hlt
        subst hae
        have l0 : wr.cell? ⟨gl, ol + i * 3, none⟩ = some (.int .i64 op) := (HO.out.1.own.up.cell (p := ⟨gl, ol + i * 3, none⟩) hgl (by simp)).trans k0
        have l1 : wr.cell? ⟨gl, ol + i * 3 + 1, none⟩ = some (.int .i64 A) := (HO.out.1.own.up.cell (p := ⟨gl, ol + i * 3 + 1, none⟩) hgl (by simp)).trans k1
        have l2 : wr.cell? ⟨gl, ol + i * 3 + 2, none⟩ = some (.int .i64 B) := (HO.out.1.own.up.cell (p := ⟨gl, ol + i * 3 + 2, none⟩) hgl (by simp)).trans k2
        have hgr : gl < wr.heap.size := Nat.lt_of_lt_of_le hgl HO.out.1.own.up.size
        have HI : Hid (I64 A) := hI.2.1
        clear k0 k1 k2 hgl hI
        go_upto_region 9 with fail
        refine wp_region_cut_drew (S := fun W => Upd [] wr W) 6 (by kernel_rfl) (Upd.refl [] wr).drew (fun hS => ?_)
        refine wpAnyC_takeD (i := 0) [6] (v := .pointer (some ⟨c, 0, none⟩)) rfl (by kernel_rfl) (by kernel_rfl) (by kernel_rfl) (by kernel_rfl) (fun _ _ _ h => h) (Or.inl ⟨by rfl, ?_⟩) hS ?_
        · intro W hW; go_simp
        refine wpAnyC_takeD (i := 1) [6] (v := .pointer (some ⟨b, 0, none⟩)) rfl (by kernel_rfl) (by kernel_rfl) (by kernel_rfl) (by kernel_rfl) (fun _ _ _ h => h) (Or.inl ⟨by rfl, ?_⟩) hS ?_
        · intro W hW; go_simp
        refine wpAnyC_takeD (i := 2) [4, 5, 6] (v := .slice (some ⟨gl, ol, none⟩) m c0) rfl (by kernel_rfl) (by kernel_rfl) (by kernel_rfl) (by kernel_rfl) (fun _ _ _ h => h) (Or.inl ⟨by rfl, ?_⟩) hS ?_
        · intro W hW; go_simp
        refine wpAnyC_takeD (i := 3) [4, 5, 6] (v := .int .i64 (i : Nat)) rfl (by kernel_rfl) (by kernel_rfl) (by kernel_rfl) (by kernel_rfl) (fun _ _ _ h => h) (Or.inl ⟨by rfl, ?_⟩) hS ?_
        · intro W hW; go_simp
        simp only [Act.put, List.getElem_toArray, List.getElem_cons_succ, List.getElem_cons_zero, List.setIfInBounds_toArray, List.set_cons_succ, List.set_cons_zero]
        refine wpAnyC_takeD (i := 4) [5, 6] (v := .pointer (some ⟨gl, ol + i * 3, none⟩)) rfl (by kernel_rfl) (by kernel_rfl) (by kernel_rfl) (by kernel_rfl) (fun _ _ _ h => h) (Or.inl ⟨by rfl, ?_⟩) hS ?_
        · intro W hW; go_simp
        refine wpAnyC_takeD (i := 5) [6] (v := .agg #[.int .i64 op, .int .i64 A, .int .i64 B]) rfl (by kernel_rfl) (by kernel_rfl) (by kernel_rfl) (by kernel_rfl) (fun _ _ _ h => h) (Or.inl ⟨by rfl, ?_⟩) hS ?_
        · intro W hW; have e0 : W.cell? ⟨gl, ol + i * 3, none⟩ = some (.int .i64 op) := (hW.cell (p := ⟨gl, ol + i * 3, none⟩) hgr (by simp)).trans l0
          have e1 : W.cell? ⟨gl, ol + i * 3 + 1, none⟩ = some (.int .i64 A) := (hW.cell (p := ⟨gl, ol + i * 3 + 1, none⟩) hgr (by simp)).trans l1
          have e2 : W.cell? ⟨gl, ol + i * 3 + 2, none⟩ = some (.int .i64 B) := (hW.cell (p := ⟨gl, ol + i * 3 + 2, none⟩) hgr (by simp)).trans l2
          go_simp
        simp only [Act.put, List.getElem_toArray, List.getElem_cons_succ, List.getElem_cons_zero, List.setIfInBounds_toArray, List.set_cons_succ, List.set_cons_zero]
        refine wpAnyC_cutE (by kernel_rfl) rfl (fun K hK => ?_)
        go_simp
        refine Calls.mono (step_any (HO.out.1.upd hS) (by have := HO.out.2; omega) op A B HI.out) ?_
        rintro en w5 ⟨rfl, P5, n5, now5, T5, lv5, L5, hn5, o5⟩
        have HL : Hid (LC w w5 c n5 b P5 now5 now5 T5 T5 lv5 L5) := o5
        have HN : Hid (n5 ≤ i + 1 ∧ i < 80) := ⟨by have := HO.out.2; omega, by omega⟩
        have yb : w5.cell? ⟨b, 0, none⟩ = some (.int .i64 now5) := o5.box.cell 0
        have hb5 : b < w5.heap.size := o5.box.lt
        refine hK.out _ _ (fun W => Upd [] w5 W) (Upd.refl [] w5) (fun hS0 => ?_)
        clear hK K hS hS0 o5 hn5 HO l0 l1 l2
        have hS : Upd [] w5 w5 := Upd.refl [] w5
        refine wpAnyH_take (i := 7) (v := .bool false) rfl (by kernel_rfl) (by kernel_rfl) (by kernel_rfl) (fun _ _ _ h => h) (Or.inl ⟨by rfl, ?_⟩) hS ?_
        · intro W hW; go_simp
        refine wpAnyH_take (i := 8) (v := .bool false) rfl (by kernel_rfl) (by kernel_rfl) (by kernel_rfl) (fun _ _ _ h => h) (Or.inl ⟨by rfl, ?_⟩) hS ?_
        · intro W hW; go_simp
        simp only [Act.put, List.getElem_toArray, List.getElem_cons_succ, List.getElem_cons_zero, List.setIfInBounds_toArray, List.set_cons_succ, List.set_cons_zero]
        refine wpAnyH_take (i := 9) (v := .pointer (some ⟨c, 0, none⟩)) rfl (by kernel_rfl) (by kernel_rfl) (by kernel_rfl) (fun _ _ _ h => h) (Or.inl ⟨by rfl, ?_⟩) hS ?_
        · intro W hW; go_simp
        refine wpAnyH_take (i := 11) (v := .pointer (some ⟨b, 0, none⟩)) rfl (by kernel_rfl) (by kernel_rfl) (by kernel_rfl) (fun _ _ _ h => h) (Or.inl ⟨by rfl, ?_⟩) hS ?_
        · intro W hW; go_simp
        simp only [Act.put, List.getElem_toArray, List.getElem_cons_succ, List.getElem_cons_zero, List.setIfInBounds_toArray, List.set_cons_succ, List.set_cons_zero]
        refine wpAnyH_take (i := 12) (v := .pointer (some ⟨b, 0, none⟩)) rfl (by kernel_rfl) (by kernel_rfl) (by kernel_rfl) (fun _ _ _ h => h) (Or.inl ⟨by rfl, ?_⟩) hS ?_
        · intro W hW; go_simp
        simp only [Act.put, List.getElem_toArray, List.getElem_cons_succ, List.getElem_cons_zero, List.setIfInBounds_toArray, List.set_cons_succ, List.set_cons_zero]
        refine wpAnyH_take (i := 13) (v := .pointer (some ⟨b, 0, none⟩)) rfl (by kernel_rfl) (by kernel_rfl) (by kernel_rfl) (fun _ _ _ h => h) (Or.inl ⟨by rfl, ?_⟩) hS ?_
        · intro W hW; go_simp
        simp only [Act.put, List.getElem_toArray, List.getElem_cons_succ, List.getElem_cons_zero, List.setIfInBounds_toArray, List.set_cons_succ, List.set_cons_zero]
        refine wpAnyH_take (i := 14) (v := .int .i64 now5) rfl (by kernel_rfl) (by kernel_rfl) (by kernel_rfl) (fun _ _ _ h => h) (Or.inl ⟨by rfl, ?_⟩) hS ?_
        · intro W hW; have e1 : W.cell? ⟨b, 0, none⟩ = some (.int .i64 now5) := (hW.cell (p := ⟨b, 0, none⟩) hb5 (by simp)).trans yb; go_simp
        simp only [Act.put, List.getElem_toArray, List.getElem_cons_succ, List.getElem_cons_zero, List.setIfInBounds_toArray, List.set_cons_succ, List.set_cons_zero]
        refine wpAnyH_ready (rs := [10]) (by kernel_rfl) (by simp) (AllReadyH.cons rfl (fun K hK => ?_) AllReadyH.nil)
        go_simp
        refine Calls.mono (now_any (HL.out.upd hS).own.ck) ?_
        rintro en w6 ⟨rfl, hw6⟩
        have hS2 : Upd [] w5 w6 := by rw [hw6]; exact hS
        refine hK.out _ _ hS2 (fun _ => ?_)
        clear hK K hS hw6
        have hS : Upd [] w5 w6 := hS2
        clear hS2
        refine wpAnyH_take (i := 15) (v := .bool false) rfl (by kernel_rfl) (by kernel_rfl) (by kernel_rfl) (fun _ _ _ h => h) (Or.inl ⟨by rfl, ?_⟩) hS ?_
        · intro W hW; go_simp
        simp only [Act.put, List.getElem_toArray, List.getElem_cons_succ, List.getElem_cons_zero, List.setIfInBounds_toArray, List.set_cons_succ, List.set_cons_zero]
        refine wpAnyH_take (i := 16) (v := .bool false) rfl (by kernel_rfl) (by kernel_rfl) (by kernel_rfl) (fun _ _ _ h => h) (Or.inl ⟨by rfl, ?_⟩) hS ?_
        · intro W hW; go_simp
        refine wpAnyH_take (i := 17) (v := .bool false) rfl (by kernel_rfl) (by kernel_rfl) (by kernel_rfl) (fun _ _ _ h => h) (Or.inl ⟨by rfl, ?_⟩) hS ?_
        · intro W hW; go_simp
        simp only [Act.put, List.getElem_toArray, List.getElem_cons_succ, List.getElem_cons_zero, List.setIfInBounds_toArray, List.set_cons_succ, List.set_cons_zero]
        refine wpAnyH_take (i := 18) (v := .pointer (some ⟨c, 0, none⟩)) rfl (by kernel_rfl) (by kernel_rfl) (by kernel_rfl) (fun _ _ _ h => h) (Or.inl ⟨by rfl, ?_⟩) hS ?_
        · intro W hW; go_simp
        refine wpAnyH_take (i := 20) (v := .pointer (some ⟨b, 0, none⟩)) rfl (by kernel_rfl) (by kernel_rfl) (by kernel_rfl) (fun _ _ _ h => h) (Or.inl ⟨by rfl, ?_⟩) hS ?_
        · intro W hW; go_simp
        simp only [Act.put, List.getElem_toArray, List.getElem_cons_succ, List.getElem_cons_zero, List.setIfInBounds_toArray, List.set_cons_succ, List.set_cons_zero]
        refine wpAnyH_ready (rs := [19]) (by kernel_rfl) (by simp) (AllReadyH.cons rfl (fun K hK => ?_) AllReadyH.nil)
        go_simp
        refine Calls.mono (own_waits (HL.out.upd hS).own (by have := HN.out; omega)) ?_
        rintro en w7 ⟨v7, ys, rfl, hA, hs7, _, _, hU⟩
        obtain ⟨p7, c7, hv7⟩ := hA.form
        subst hv7
        have HA : Hid (AR w7 _ (.slice p7 ys.length c7) ys ∧ Srt T5 ys) := ⟨hA, hs7⟩
        clear hA hs7
        have hS2 : Upd [] w5 w7 := hS.trans hU
        refine hK.out _ _ hS2 (fun _ => ?_)
        clear hK K hS hU
        have hS : Upd [] w5 w7 := hS2
        clear hS2
        refine wpAnyH_ready (rs := [21]) (by kernel_rfl) (by simp) (AllReadyH.cons rfl (fun K hK => ?_) AllReadyH.nil)
        go_simp
        refine Calls.mono (lc_waitsR (HL.out.upd hS) (by have := HN.out; omega)) ?_
        rintro en w8 ⟨v8, zs, rfl, hA, hs8, _, hU⟩
        obtain ⟨p8, c8, hv8⟩ := hA.form
        subst hv8
        obtain rfl : zs = ys := hs8.one HA.out.2
        have HZ : Hid (AR w8 _ (.slice p7 zs.length c7) zs ∧ AR w8 _ (.slice p8 zs.length c8) zs) := ⟨HA.out.1.upd hU, hA⟩
        clear hA hs8 HA
        have hS2 : Upd [] w5 w8 := hS.trans hU
        refine hK.out _ _ hS2 (fun _ => ?_)
        clear hK K hS hU
        have hS : Upd [] w5 w8 := hS2
        clear hS2
        refine wpAnyH_ready (rs := [22]) (by kernel_rfl) (by simp) (AllReadyH.cons rfl (fun K hK => ?_) AllReadyH.nil)
        go_simp
        refine Calls.mono (sameInts_any _ _ _ _ _ _ _ HZ.out.1 HZ.out.2) ?_
        rintro en w9 ⟨he, hU⟩
        have hzz : (zs == zs) = true := by simp
        rw [hzz] at he
        subst he
        clear hzz HZ
        have hS2 : Upd [] w5 w9 := hS.trans hU
        refine hK.out _ _ hS2 (fun _ => ?_)
        clear hK K hS hU
        have hS : Upd [] w5 w9 := hS2
        clear hS2
        refine wpAnyH_take (i := 23) (v := .bool false) rfl (by kernel_rfl) (by kernel_rfl) (by kernel_rfl) (fun _ _ _ h => h) (Or.inl ⟨by rfl, ?_⟩) hS ?_
        · intro W hW; go_simp
        simp only [Act.put, List.getElem_toArray, List.getElem_cons_succ, List.getElem_cons_zero, List.setIfInBounds_toArray, List.set_cons_succ, List.set_cons_zero]
        refine wpAnyH_take (i := 24) (v := .bool false) rfl (by kernel_rfl) (by kernel_rfl) (by kernel_rfl) (fun _ _ _ h => h) (Or.inl ⟨by rfl, ?_⟩) hS ?_
        · intro W hW; go_simp
        simp only [Act.put, List.getElem_toArray, List.getElem_cons_succ, List.getElem_cons_zero, List.setIfInBounds_toArray, List.set_cons_succ, List.set_cons_zero]
        refine wpAnyH_done (by kernel_rfl) ?_ _
        have HE : Hid (LC w w9 c n5 b P5 now5 now5 T5 T5 lv5 L5) := HL.out.upd hS
        clear hS
        go_wp2_with fail
        go_roundw
        case rel => exact ⟨i + 1, n5, P5, now5, T5, lv5, L5, by go_num, hlt, HN.out.1, HE.out⟩
        case measure => simp [intOf]; omega
      · obtain rfl : i = m := by omega
        obtain ⟨n', P', now', T', lv', L', HO'⟩ : ∃ n' P' now' T' lv' L', Hid (LC w wr c n' b P' now' now' T' T' lv' L' ∧ n' ≤ i) := ⟨_, _, _, _, _, _, HO⟩
        clear HO
        have hn80 : n' ≤ 80 := by have := HO'.out.2; omega
        have hii : decide ((i : Int) < (i : Int)) = false := decide_eq_false (by omega)
        go_wp2_with fail
        refine Calls.mono (own_waits0 HO'.out.1.own (by omega)) ?_
        rintro e w3 ⟨v3, ys, rfl, hA, hs3, hl3, hU⟩
        obtain ⟨p3, c3, hv3⟩ := hA.form
        subst hv3
        obtain ⟨E, hE⟩ : ∃ E, E = wr.heap.size := ⟨_, rfl⟩
        rw [← hE] at hA
        have H4 : Hid (LC w w3 c n' b P' now' now' T' T' lv' L' ∧ AR0 w3 E (.slice p3 ys.length c3) ys) := ⟨HO'.out.1.upd hU, hA⟩
        have HE : Hid (w.heap.size ≤ E ∧ (∀ x, P' x → x < E) ∧ b < E ∧ ∀ g, lv'.ownBlock = some g → g < E) := by
          show _ ∧ _ ∧ _ ∧ _
          rw [hE]; exact HO'.out.1.edge
        obtain ⟨N, hN⟩ : ∃ N, N = ys.length := ⟨_, rfl⟩
        rw [← hN] at H4 ⊢
        have HN : Hid (ys.length = N ∧ N ≤ 80) := ⟨hN.symm, by omega⟩
        clear hA hs3 hl3 hU hE hN HO' hii
        go_wp2_with fail
        go_loopw [7] (fun s7 wx => ∃ (j : Nat) (xs : List Int), s7 = .int .i64 (j : Nat) ∧ j ≤ N ∧ xs.length = N ∧ LC w wx c n' b P' now' now' T' T' lv' L' ∧ AR0 wx E (.slice p3 N c3) xs) (fun s7 _ => N - (intOf s7).toNat)
        case atStart => exact ⟨0, ys, rfl, Nat.zero_le _, HN.out.1, H4.out.1, H4.out.2⟩
        case round =>
          obtain ⟨j, xs, rfl, hj, hxs, o, hA⟩ := hrel
          clear H4
          by_cases hjl : j < N
          · have j1 : (j : Int) < (N : Int) := by omega
            have j80 : (j : Int) < 80 := by have := HN.out.2; omega
            have HW : Hid (LC w wr c n' b P' now' now' T' T' lv' L') := o
            obtain ⟨g, rfl⟩ := hA.at (by omega)
            have HA : Hid (AR0 wr E (.slice (some ⟨g, 0, none⟩) xs.length c3) xs ∧ xs.length = N) := ⟨by rw [hxs]; exact hA, hxs⟩
            have hst := fun x => HA.out.1.store (k := j) (by omega) x
            obtain ⟨_, y1, y2, _⟩ := hst 0
            generalize xs.getD j 0 = x0 at y2
            clear o hA hxs hst
            go_wp2_with fail
            go_roundw
            case rel =>
              have hst := HA.out.1.store (k := j) (by have := HA.out.2; omega)
              exact ⟨j + 1, xs.set j (wrap64 (x0 + 1)), by go_num, hjl, by rw [List.length_set]; exact HA.out.2, HW.out.above HE.out ((UpP.of_set (P := fun z => E ≤ z) (hst 0).2.2.2) _), by have h := (hst (wrap64 (x0 + 1))).1; rw [HA.out.2] at h; exact h⟩
            case measure => simp [intOf]; omega
          · have hjd : decide ((j : Int) < (N : Int)) = false := decide_eq_false (by omega)
            have HW : Hid (LC w wr c n' b P' now' now' T' T' lv' L') := o
            clear o hA hxs HE HN
            go_wp2_with fail
            refine Calls.mono (own_waits0 HW.out.own (by omega)) ?_
            rintro e w4 ⟨v4, zs, rfl, hA, hs4, _, hU⟩
            obtain ⟨p4, c4, hv4⟩ := hA.form
            subst hv4
            have H5 : Hid (LC w w4 c n' b P' now' now' T' T' lv' L' ∧ AR w4 wr.heap.size (.slice p4 zs.length c4) zs ∧ Srt T' zs) := ⟨HW.out.upd hU, hA.ar, hs4⟩
            clear hA hs4 hU HW
            go_wp2_with fail
            refine Calls.mono (lc_waitsR H5.out.1 (by omega)) ?_
            rintro e w5 ⟨v5, us, rfl, hA, hs5, h5, hU⟩
            obtain ⟨p5, c5, hv5⟩ := hA.form
            subst hv5
            obtain rfl : zs = us := H5.out.2.2.one hs5
            have H6 : Hid (LC w w5 c n' b P' now' now' T' T' lv' L' ∧ AR w5 wr.heap.size (.slice p4 zs.length c4) zs ∧ AR w5 0 (.slice p5 zs.length c5) zs) := ⟨h5, H5.out.2.1.upd hU, hA⟩
            clear hA hs5 h5 hU H5
            go_wp2_with fail
            refine Calls.mono (sameInts_any _ _ _ _ _ _ _ H6.out.2.1 H6.out.2.2) ?_
            rintro e w6 ⟨he, hU⟩
            rw [show (zs == zs) = true by simp] at he
            subst he
            have H7 : Hid (LC w w6 c n' b P' now' now' T' T' lv' L') := H6.out.1.upd hU
            clear hU H6
            go_wp2_with fail
            refine Calls.mono (own_waits0 H7.out.own (by omega)) ?_
            rintro e w7 ⟨v7, xs7, rfl, hA, _, hl7, hU⟩
            obtain ⟨p7, c7, hv7⟩ := hA.form
            subst hv7
            have H8 : Hid (LC w w7 c n' b P' now' now' T' T' lv' L' ∧ AR0 w7 w6.heap.size (.slice p7 xs7.length c7) xs7 ∧ w.heap.size ≤ w6.heap.size) := ⟨H7.out.upd hU, hA, H7.out.own.up.size⟩
            clear hA hU H7
            go_wp2_with fail
            refine Calls.mono (own_waits0 H8.out.1.own (by omega)) ?_
            rintro e w8 ⟨v8, xs8, rfl, hA, _, hl8, hU⟩
            obtain ⟨p8, c8, hv8⟩ := hA.form
            subst hv8
            obtain ⟨W9, hW9⟩ : ∃ W9, W9 = w8.alloc (.cells #[.slice p7 xs7.length c7, .slice p8 xs8.length c8] 34) := ⟨_, rfl⟩
            obtain ⟨G, hG⟩ : ∃ G, G = w8.heap.size := ⟨_, rfl⟩
            have hap := ap_two H8.out.2.1 H8.out.1.own.up H8.out.2.2 hA hU hl7 hl8 (by omega) hW9 hG
            have HP : Hid (W9 = w8.alloc (.cells #[.slice p7 xs7.length c7, .slice p8 xs8.length c8] 34) ∧ G = w8.heap.size) := ⟨hW9, hG⟩
            have HAp := hap
            clear hap hA hU H8 hl7 hl8 hW9 hG
            go_wp2_with fail
            rw [← HP.out.1, ← HP.out.2]
            clear HP
            refine Calls.mono (HAp 2) ?_
            rintro e w9 ⟨rfl, hu⟩
            have HU : Hid (Upd [] w w9) := hu
            clear hu HAp
            go_wp2_with fail
            refine Calls.mono (awake_any _) ?_
            rintro e wz ⟨rfl, hu⟩
            have HV : Hid (Upd [] w wz) := HU.out.trans hu
            clear hu HU
            go_wp2_with fail
            go_ret
            exact ⟨rfl, HV.out⟩

end Go.Proofs.Ytpemnficdhjkhaa
