/- LinkLives, walked. -/
import Derived.Test.YtmepiggkligacaaLkSd
namespace Go.Proofs.Ytmepiggkligacaa
open Go.RowKit Go.Maps

section
variable {P : Program} {md : Region.Mode} {ops : Array Oper} {Q : Exit → Act → World → Prop} {S : World → Prop}
/-- Number m itself; what is held behind it may hang on what it has left. -/
theorem wpAnyC_cutE {m : Nat} {fuel : Nat} {listed : Array Bool} {a : Act} {w : World} {o : Oper} (hr : Region.ready md ops listed = [m]) (ho : ops[m]? = some o)
    (h : ∀ K' : Act → World → Prop, Shut (∀ a w (S2 : World → Prop), S2 w → (S2 w → wpAnyH P md ops Q S2 fuel (listed.setIfInBounds m true) a w) → K' a w) → if Region.wanted o (yielded ops a.tmps) = true then Oper.wp P o a w K' Q else K' (a.put o.dst undef) w) :
    wpAnyC P md ops Q S m (fuel + 1) listed a w := by
  refine ⟨fun h0 => (by rw [hr] at h0; cases h0), fun j hj => ?_⟩
  rw [hr] at hj
  obtain rfl : j = m := by simpa using hj
  exact wpOp_step ho (fun K' hK => h K' (fun a w S2 hS hW => hK a w ⟨fun _ => wpAny_of_held _ _ _ _ (hW hS), fun e => absurd rfl e⟩))
end

section
variable {w wr : World} {l n b : Nat} {L : LF} {M : MF} {v u : Value} {ps : List (Int × Int)} {ms : List Mon}
theorem lr_of (h : LR w wr l n b L M v u ps ms) (hn : n ≤ 1073741824) {a : Int} (ha : I64 a) :
    Calls Try.prog 11 #[.pointer (some ⟨l, 0, none⟩), .int .i64 a] wr fun e w' => ∃ s xs, e = .returned s ∧ IR w' wr.heap.size s xs ∧ xs.Pairwise (· < ·) ∧ (∀ x, x ∈ xs ↔ L a x = true) ∧ Upd [] wr w' := by
  obtain ⟨P, o, _⟩ := h.obj
  exact of_any o hn ha
theorem lr_monitors (h : LR w wr l n b L M v u ps ms) (hn : n ≤ 1073741824) :
    Calls Try.prog 14 #[.pointer (some ⟨l, 0, none⟩)] wr fun e w' => ∃ s ks, e = .returned s ∧ MR w' wr.heap.size s ks ∧ MonsOf M ks ∧ Upd [] wr w' := by
  obtain ⟨P, o, _⟩ := h.obj
  exact monitors_any o hn
theorem lr_ofRef (h : LR w wr l n b L M v u ps ms) (hn : ps.length ≤ 1000) (a : Int) :
    Calls Try.prog 12 #[.pointer (some ⟨b, 0, none⟩), .int .i64 a] wr fun e w' => ∃ s xs, e = .returned s ∧ IR w' wr.heap.size s xs ∧ xs.Pairwise (· < ·) ∧ (∀ x, x ∈ xs ↔ L a x = true) ∧ Upd [] wr w' := by
  refine (ofRef_any wr w.heap.size b v u ps a h.box h.pr h.siml.1 hn).mono ?_
  rintro e w' ⟨s, xs, rfl, h1, h2, h3⟩
  exact ⟨s, xs, rfl, h1, h2.1, h.siml.of h2, h3⟩
theorem lr_start (hu : Upd [] w wr) {L : LF} {M : MF} (o : Lk wr l 0 (fun x => w.heap.size ≤ x ∧ x < wr.heap.size) L M) (hL : L = fun _ _ => false) (hM : M = fun _ => none) :
    LR w (wr.alloc (.cells #[.slice none 0 0, .slice none 0 0] 29)) l 0 wr.heap.size L M (.slice none 0 0) (.slice none 0 0) [] [] := by
  subst hL
  subst hM
  exact ⟨⟨_, o.upd ((Upd.refl [] wr).alloc _), fun x hx => hx.1, fun hx => Nat.lt_irrefl _ hx.2, (fun g hg => (by cases hg)), (fun g hg => (by cases hg))⟩, Cl.new _ _ _ _ rfl, hu.size, ⟨rfl, Or.inl ⟨rfl, rfl⟩⟩, ⟨rfl, Or.inl ⟨rfl, rfl⟩⟩, hu.alloc _, SimL.start, MonsOf.start⟩
end

def LivesR (w wr : World) (l m b : Nat) (s5 : Value) : Prop := ∃ (i n : Nat) (L : LF) (M : MF) (v u : Value) (ps : List (Int × Int)) (ms : List Mon), s5 = .int .i64 (i : Nat) ∧ i ≤ m ∧ n ≤ 2 * i ∧ ps.length ≤ i ∧ ms.length ≤ i ∧ LR w wr l n b L M v u ps ms

set_option maxHeartbeats 8000000 in
set_option maxRecDepth 100000 in
theorem Lives_walk (w : World) (a : Option Addr) (n0 c0 : Nat) (hn0 : n0 ≤ c0) (hcm : c0 ≤ 9223372036854775807) (hop : Steps w a n0) : Calls Try.prog 3 #[.slice a n0 c0] w fun e w' => e = .returned (.bool true) ∧ Upd [] w w' := by
  have HN : Hid (n0 ≤ c0 ∧ c0 ≤ 9223372036854775807 ∧ Steps w a n0) := ⟨hn0, hcm, hop⟩
  clear hop hn0 hcm
  go_enter Try.func3, Try.ntmps3
  go_upto_if 10 with fail
  go_cut [0] (fun s0 wx => s0 = .slice a (min n0 80) c0 ∧ wx = w)
  case first =>
    by_cases h80 : n0 ≤ 80
    · have hd : decide ((80 : Int) < (n0 : Int)) = false := decide_eq_false (by omega)
      have hm : min n0 80 = n0 := by omega
      go_wp2_with fail
      go_meet
      case rel => exact ⟨by rw [hm], rfl⟩
    · have hd : decide ((80 : Int) < (n0 : Int)) = true := decide_eq_true (by omega)
      have hm : min n0 80 = 80 := by omega
      have hc : 80 ≤ c0 := by have := HN.out.1; omega
      obtain ⟨gl, ol, _, _, _, _, hae, _⟩ := HN.out.2.2 0 (by omega)
      subst hae
      go_wp2_with fail
      go_meet
      case rel => exact ⟨by rw [hm], rfl⟩
  case rest =>
    obtain ⟨rfl, hw⟩ := hcut
    rw [hw]
    clear hw
    obtain ⟨m, hm⟩ : ∃ m, m = min n0 80 := ⟨_, rfl⟩
    rw [← hm]
    have HM : Hid (m ≤ 80 ∧ Steps w a m) := ⟨by omega, HN.out.2.2.le (by omega)⟩
    clear hm HN
    go_wp2_with fail
    refine Calls.mono (new_any w) ?_
    rintro e w2 ⟨l, rfl, o, hu⟩
    have H3 := lr_start hu o rfl rfl
    clear o hu
    go_wp2_with fail
    generalize hb : w2.heap.size = b at H3 ⊢
    clear hb
    go_loopw [5] (fun s5 wr => LivesR w wr l m b s5) (fun s5 _ => m - (intOf s5).toNat)
    case atStart => exact ⟨0, 0, _, _, _, _, _, _, rfl, Nat.zero_le _, Nat.zero_le _, Nat.zero_le _, Nat.zero_le _, H3⟩
    case round =>
      obtain ⟨i, n, L, M, v, u, ps, ms, rfl, him, hni, hpi, hmi, o⟩ := hrel
      have HO : Hid (LR w wr l n b L M v u ps ms ∧ n ≤ 2 * i ∧ ps.length ≤ i ∧ ms.length ≤ i) := ⟨o, hni, hpi, hmi⟩
      clear o hni hpi hmi H3
      by_cases hlt : i < m
      · have i1 : (i : Int) < (m : Int) := by omega
        have i80 : (i : Int) < 80 := by have := HM.out.1; omega
        obtain ⟨gl, ol, op, A, B, r, hae, hgl, k0, k1, k2, k3, hI⟩ := HM.out.2 i hlt
        subst hae
        have hl0 : wr.cell? ⟨gl, ol + i * 4, none⟩ = some (.int .i64 op) := (HO.out.1.up.cell (p := ⟨gl, ol + i * 4, none⟩) hgl (by simp)).trans k0
        have hl1 : wr.cell? ⟨gl, ol + i * 4 + 1, none⟩ = some (.int .i64 A) := (HO.out.1.up.cell (p := ⟨gl, ol + i * 4 + 1, none⟩) hgl (by simp)).trans k1
        have hl2 : wr.cell? ⟨gl, ol + i * 4 + 2, none⟩ = some (.int .i64 B) := (HO.out.1.up.cell (p := ⟨gl, ol + i * 4 + 2, none⟩) hgl (by simp)).trans k2
        have hl3 : wr.cell? ⟨gl, ol + i * 4 + 3, none⟩ = some (.int .i64 r) := (HO.out.1.up.cell (p := ⟨gl, ol + i * 4 + 3, none⟩) hgl (by simp)).trans k3
        have HI : Hid (I64 op ∧ I64 A ∧ I64 B ∧ I64 r) := hI
        clear k0 k1 k2 k3 hgl hI
        go_upto_region 10 with fail
        generalize hw3 : World.alloc _ _ = w3
        have hu3 : Upd [] wr w3 := by rw [← hw3]; exact (Upd.refl [] wr).alloc _
        have hC : Cl w3 wr.heap.size #[.int .i64 op, .int .i64 A, .int .i64 B, .int .i64 r] 31 := by rw [← hw3]; exact Cl.new _ _ _ _ rfl
        obtain ⟨x, hx⟩ : ∃ x, x = wr.heap.size := ⟨_, rfl⟩
        rw [← hx] at hC ⊢
        have q0 : w3.cell? ⟨x, 0, none⟩ = some (.int .i64 op) := by rw [hC.cell]; rfl
        have q1 : w3.cell? ⟨x, 1, none⟩ = some (.int .i64 A) := by rw [hC.cell]; rfl
        have q2 : w3.cell? ⟨x, 2, none⟩ = some (.int .i64 B) := by rw [hC.cell]; rfl
        have q3 : w3.cell? ⟨x, 3, none⟩ = some (.int .i64 r) := by rw [hC.cell]; rfl
        have hxl : x < w3.heap.size := hC.lt
        have O3 : Hid (LX w w3 l n b L M v u ps ms x #[.int .i64 op, .int .i64 A, .int .i64 B, .int .i64 r] ∧ n ≤ 2 * i ∧ ps.length ≤ i ∧ ms.length ≤ i) := ⟨by
          rw [← hw3, hx]
          exact HO.out.1.boxed _, HO.out.2⟩
        clear hu3 hC hx hw3 HO hl0 hl1 hl2 hl3
        refine wp_region_cut_drew (S := fun W => Upd [] w3 W) 3 (by kernel_rfl) (Upd.refl [] w3).drew (fun hS => ?_)
        refine wpAnyC_take (i := 0) (v := .pointer (some ⟨l, 0, none⟩)) rfl (by kernel_rfl) (by kernel_rfl) (by kernel_rfl) (by kernel_rfl) (fun _ _ _ h => h) (Or.inl ⟨by rfl, ?_⟩) hS ?_
        · intro W hW; go_simp
        refine wpAnyC_take (i := 1) (v := .pointer (some ⟨b, 0, none⟩)) rfl (by kernel_rfl) (by kernel_rfl) (by kernel_rfl) (by kernel_rfl) (fun _ _ _ h => h) (Or.inl ⟨by rfl, ?_⟩) hS ?_
        · intro W hW; go_simp
        refine wpAnyC_take (i := 2) (v := .agg #[.int .i64 op, .int .i64 A, .int .i64 B, .int .i64 r]) rfl (by kernel_rfl) (by kernel_rfl) (by kernel_rfl) (by kernel_rfl) (fun _ _ _ h => h) (Or.inl ⟨by rfl, ?_⟩) hS ?_
        · intro W hW; have e0 : W.cell? ⟨x, 0, none⟩ = some (.int .i64 op) := (hW.cell (p := ⟨x, 0, none⟩) hxl (by simp)).trans q0
          have e1 : W.cell? ⟨x, 1, none⟩ = some (.int .i64 A) := (hW.cell (p := ⟨x, 1, none⟩) hxl (by simp)).trans q1
          have e2 : W.cell? ⟨x, 2, none⟩ = some (.int .i64 B) := (hW.cell (p := ⟨x, 2, none⟩) hxl (by simp)).trans q2
          have e3 : W.cell? ⟨x, 3, none⟩ = some (.int .i64 r) := (hW.cell (p := ⟨x, 3, none⟩) hxl (by simp)).trans q3
          go_simp
        simp only [Act.put, List.getElem_toArray, List.getElem_cons_succ, List.getElem_cons_zero, List.setIfInBounds_toArray, List.set_cons_succ, List.set_cons_zero]
        refine wpAnyC_cutE (by kernel_rfl) rfl (fun K hK => ?_)
        go_simp
        refine Calls.mono (step_any (O3.out.1.upd hS) (by have := O3.out; have := HM.out.1; omega) (by have := O3.out; have := HM.out.1; omega) (by have := O3.out; have := HM.out.1; omega) HI.out.2.1 HI.out.2.2.1 HI.out.2.2.2) ?_
        rintro en w5 ⟨rfl, n', L', M', v', u', ps', ms', hn', hp', hm', o5⟩
        have hC5 := o5.cl
        have HL : Hid (LR w w5 l n' b L' M' v' u' ps' ms') := o5.whole
        have HN : Hid (n' ≤ 2 * (i + 1) ∧ ps'.length ≤ i + 1 ∧ ms'.length ≤ i + 1 ∧ i < 80) := ⟨by have := O3.out; omega, by have := O3.out; omega, by have := O3.out; omega, by have := HM.out.1; omega⟩
        have y1 : w5.cell? ⟨x, 1, none⟩ = some (.int .i64 A) := by rw [hC5.cell]; rfl
        have y2 : w5.cell? ⟨x, 2, none⟩ = some (.int .i64 B) := by rw [hC5.cell]; rfl
        have yb : w5.cell? ⟨b, 1, none⟩ = some u' := by rw [HL.out.box.cell]; rfl
        have hx5 : x < w5.heap.size := hC5.lt
        have hb5 : b < w5.heap.size := HL.out.box.lt
        refine hK.out _ _ (fun W => Upd [] w5 W) (Upd.refl [] w5) (fun hS0 => ?_)
        clear hK K hS hS0 o5 hC5 hn' hp' hm' O3 q0 q1 q2 q3
        have hS : Upd [] w5 w5 := Upd.refl [] w5
        refine wpAnyH_take (i := 4) (v := .bool false) rfl (by kernel_rfl) (by kernel_rfl) (by kernel_rfl) (fun _ _ _ h => h) (Or.inl ⟨by rfl, ?_⟩) hS ?_
        · intro W hW; go_simp
        refine wpAnyH_take (i := 5) (v := .bool false) rfl (by kernel_rfl) (by kernel_rfl) (by kernel_rfl) (fun _ _ _ h => h) (Or.inl ⟨by rfl, ?_⟩) hS ?_
        · intro W hW; go_simp
        simp only [Act.put, List.getElem_toArray, List.getElem_cons_succ, List.getElem_cons_zero, List.setIfInBounds_toArray, List.set_cons_succ, List.set_cons_zero]
        refine wpAnyH_take (i := 6) (v := .pointer (some ⟨l, 0, none⟩)) rfl (by kernel_rfl) (by kernel_rfl) (by kernel_rfl) (fun _ _ _ h => h) (Or.inl ⟨by rfl, ?_⟩) hS ?_
        · intro W hW; go_simp
        refine wpAnyH_take (i := 7) (v := .pointer (some ⟨x, 1, none⟩)) rfl (by kernel_rfl) (by kernel_rfl) (by kernel_rfl) (fun _ _ _ h => h) (Or.inl ⟨by rfl, ?_⟩) hS ?_
        · intro W hW; go_simp
        refine wpAnyH_take (i := 8) (v := .int .i64 A) rfl (by kernel_rfl) (by kernel_rfl) (by kernel_rfl) (fun _ _ _ h => h) (Or.inl ⟨by rfl, ?_⟩) hS ?_
        · intro W hW; have e1 : W.cell? ⟨x, 1, none⟩ = some (.int .i64 A) := (hW.cell (p := ⟨x, 1, none⟩) hx5 (by simp)).trans y1; go_simp
        simp only [Act.put, List.getElem_toArray, List.getElem_cons_succ, List.getElem_cons_zero, List.setIfInBounds_toArray, List.set_cons_succ, List.set_cons_zero]
        refine wpAnyH_take (i := 10) (v := .pointer (some ⟨b, 0, none⟩)) rfl (by kernel_rfl) (by kernel_rfl) (by kernel_rfl) (fun _ _ _ h => h) (Or.inl ⟨by rfl, ?_⟩) hS ?_
        · intro W hW; go_simp
        refine wpAnyH_take (i := 11) (v := .pointer (some ⟨x, 1, none⟩)) rfl (by kernel_rfl) (by kernel_rfl) (by kernel_rfl) (fun _ _ _ h => h) (Or.inl ⟨by rfl, ?_⟩) hS ?_
        · intro W hW; go_simp
        refine wpAnyH_take (i := 12) (v := .int .i64 A) rfl (by kernel_rfl) (by kernel_rfl) (by kernel_rfl) (fun _ _ _ h => h) (Or.inl ⟨by rfl, ?_⟩) hS ?_
        · intro W hW; have e1 : W.cell? ⟨x, 1, none⟩ = some (.int .i64 A) := (hW.cell (p := ⟨x, 1, none⟩) hx5 (by simp)).trans y1; go_simp
        simp only [Act.put, List.getElem_toArray, List.getElem_cons_succ, List.getElem_cons_zero, List.setIfInBounds_toArray, List.set_cons_succ, List.set_cons_zero]
        refine wpAnyH_ready (rs := [9]) (by kernel_rfl) (by simp) (AllReadyH.cons rfl (fun K hK => ?_) AllReadyH.nil)
        go_simp
        refine Calls.mono (lr_of (HL.out.upd hS) (by have := HN.out; omega) HI.out.2.1) ?_
        rintro en w6 ⟨s1, ys, rfl, h1, h2, h3, hU⟩
        obtain ⟨p1, c1, hv1⟩ := h1.form
        subst hv1
        have HY : Hid (IR w6 _ (.slice p1 ys.length c1) ys ∧ ys.Pairwise (· < ·) ∧ ∀ x, x ∈ ys ↔ L' A x = true) := ⟨h1, h2, h3⟩
        clear h1 h2 h3
        have hS2 : Upd [] w5 w6 := hS.trans hU
        refine hK.out _ _ hS2 (fun _ => ?_)
        clear hK K hS hU
        have hS : Upd [] w5 w6 := hS2
        clear hS2
        refine wpAnyH_ready (rs := [13]) (by kernel_rfl) (by simp) (AllReadyH.cons rfl (fun K hK => ?_) AllReadyH.nil)
        go_simp
        refine Calls.mono (lr_ofRef (HL.out.upd hS) (by have := HN.out; omega) A) ?_
        rintro en w7 ⟨s2, zs, rfl, h1, h2, h3, hU⟩
        obtain ⟨p2, c2, hv2⟩ := h1.form
        subst hv2
        obtain rfl : zs = ys := sorted_one h2 HY.out.2.1 (fun x => by rw [h3, HY.out.2.2])
        have HZ : Hid (IR w7 _ (.slice p1 zs.length c1) zs ∧ IR w7 _ (.slice p2 zs.length c2) zs) := ⟨HY.out.1.upd hU, h1⟩
        clear h1 h2 h3 HY
        have hS2 : Upd [] w5 w7 := hS.trans hU
        refine hK.out _ _ hS2 (fun _ => ?_)
        clear hK K hS hU
        have hS : Upd [] w5 w7 := hS2
        clear hS2
        refine wpAnyH_ready (rs := [14]) (by kernel_rfl) (by simp) (AllReadyH.cons rfl (fun K hK => ?_) AllReadyH.nil)
        go_simp
        refine Calls.mono (sameInts_any _ _ _ _ _ _ _ HZ.out.1 HZ.out.2) ?_
        rintro en w8 ⟨he, hU⟩
        have hzz : (zs == zs) = true := by simp
        rw [hzz] at he
        subst he
        clear hzz HZ
        have hS2 : Upd [] w5 w8 := hS.trans hU
        refine hK.out _ _ hS2 (fun _ => ?_)
        clear hK K hS hU
        have hS : Upd [] w5 w8 := hS2
        clear hS2
        refine wpAnyH_take (i := 15) (v := .bool false) rfl (by kernel_rfl) (by kernel_rfl) (by kernel_rfl) (fun _ _ _ h => h) (Or.inl ⟨by rfl, ?_⟩) hS ?_
        · intro W hW; go_simp
        refine wpAnyH_take (i := 16) (v := .bool false) rfl (by kernel_rfl) (by kernel_rfl) (by kernel_rfl) (fun _ _ _ h => h) (Or.inl ⟨by rfl, ?_⟩) hS ?_
        · intro W hW; go_simp
        refine wpAnyH_take (i := 17) (v := .bool false) rfl (by kernel_rfl) (by kernel_rfl) (by kernel_rfl) (fun _ _ _ h => h) (Or.inl ⟨by rfl, ?_⟩) hS ?_
        · intro W hW; go_simp
        simp only [Act.put, List.getElem_toArray, List.getElem_cons_succ, List.getElem_cons_zero, List.setIfInBounds_toArray, List.set_cons_succ, List.set_cons_zero]
        refine wpAnyH_take (i := 18) (v := .pointer (some ⟨l, 0, none⟩)) rfl (by kernel_rfl) (by kernel_rfl) (by kernel_rfl) (fun _ _ _ h => h) (Or.inl ⟨by rfl, ?_⟩) hS ?_
        · intro W hW; go_simp
        refine wpAnyH_take (i := 19) (v := .pointer (some ⟨x, 2, none⟩)) rfl (by kernel_rfl) (by kernel_rfl) (by kernel_rfl) (fun _ _ _ h => h) (Or.inl ⟨by rfl, ?_⟩) hS ?_
        · intro W hW; go_simp
        refine wpAnyH_take (i := 20) (v := .int .i64 B) rfl (by kernel_rfl) (by kernel_rfl) (by kernel_rfl) (fun _ _ _ h => h) (Or.inl ⟨by rfl, ?_⟩) hS ?_
        · intro W hW; have e1 : W.cell? ⟨x, 2, none⟩ = some (.int .i64 B) := (hW.cell (p := ⟨x, 2, none⟩) hx5 (by simp)).trans y2; go_simp
        simp only [Act.put, List.getElem_toArray, List.getElem_cons_succ, List.getElem_cons_zero, List.setIfInBounds_toArray, List.set_cons_succ, List.set_cons_zero]
        refine wpAnyH_take (i := 22) (v := .pointer (some ⟨b, 0, none⟩)) rfl (by kernel_rfl) (by kernel_rfl) (by kernel_rfl) (fun _ _ _ h => h) (Or.inl ⟨by rfl, ?_⟩) hS ?_
        · intro W hW; go_simp
        refine wpAnyH_take (i := 23) (v := .pointer (some ⟨x, 2, none⟩)) rfl (by kernel_rfl) (by kernel_rfl) (by kernel_rfl) (fun _ _ _ h => h) (Or.inl ⟨by rfl, ?_⟩) hS ?_
        · intro W hW; go_simp
        refine wpAnyH_take (i := 24) (v := .int .i64 B) rfl (by kernel_rfl) (by kernel_rfl) (by kernel_rfl) (fun _ _ _ h => h) (Or.inl ⟨by rfl, ?_⟩) hS ?_
        · intro W hW; have e1 : W.cell? ⟨x, 2, none⟩ = some (.int .i64 B) := (hW.cell (p := ⟨x, 2, none⟩) hx5 (by simp)).trans y2; go_simp
        simp only [Act.put, List.getElem_toArray, List.getElem_cons_succ, List.getElem_cons_zero, List.setIfInBounds_toArray, List.set_cons_succ, List.set_cons_zero]
        refine wpAnyH_ready (rs := [21]) (by kernel_rfl) (by simp) (AllReadyH.cons rfl (fun K hK => ?_) AllReadyH.nil)
        go_simp
        refine Calls.mono (lr_of (HL.out.upd hS) (by have := HN.out; omega) HI.out.2.2.1) ?_
        rintro en w9 ⟨s1, ys, rfl, h1, h2, h3, hU⟩
        obtain ⟨p1, c1, hv1⟩ := h1.form
        subst hv1
        have HY : Hid (IR w9 _ (.slice p1 ys.length c1) ys ∧ ys.Pairwise (· < ·) ∧ ∀ x, x ∈ ys ↔ L' B x = true) := ⟨h1, h2, h3⟩
        clear h1 h2 h3
        have hS2 : Upd [] w5 w9 := hS.trans hU
        refine hK.out _ _ hS2 (fun _ => ?_)
        clear hK K hS hU
        have hS : Upd [] w5 w9 := hS2
        clear hS2
        refine wpAnyH_ready (rs := [25]) (by kernel_rfl) (by simp) (AllReadyH.cons rfl (fun K hK => ?_) AllReadyH.nil)
        go_simp
        refine Calls.mono (lr_ofRef (HL.out.upd hS) (by have := HN.out; omega) B) ?_
        rintro en w10 ⟨s2, zs, rfl, h1, h2, h3, hU⟩
        obtain ⟨p2, c2, hv2⟩ := h1.form
        subst hv2
        obtain rfl : zs = ys := sorted_one h2 HY.out.2.1 (fun x => by rw [h3, HY.out.2.2])
        have HZ : Hid (IR w10 _ (.slice p1 zs.length c1) zs ∧ IR w10 _ (.slice p2 zs.length c2) zs) := ⟨HY.out.1.upd hU, h1⟩
        clear h1 h2 h3 HY
        have hS2 : Upd [] w5 w10 := hS.trans hU
        refine hK.out _ _ hS2 (fun _ => ?_)
        clear hK K hS hU
        have hS : Upd [] w5 w10 := hS2
        clear hS2
        refine wpAnyH_ready (rs := [26]) (by kernel_rfl) (by simp) (AllReadyH.cons rfl (fun K hK => ?_) AllReadyH.nil)
        go_simp
        refine Calls.mono (sameInts_any _ _ _ _ _ _ _ HZ.out.1 HZ.out.2) ?_
        rintro en w11 ⟨he, hU⟩
        have hzz : (zs == zs) = true := by simp
        rw [hzz] at he
        subst he
        clear hzz HZ
        have hS2 : Upd [] w5 w11 := hS.trans hU
        refine hK.out _ _ hS2 (fun _ => ?_)
        clear hK K hS hU
        have hS : Upd [] w5 w11 := hS2
        clear hS2
        refine wpAnyH_take (i := 27) (v := .bool false) rfl (by kernel_rfl) (by kernel_rfl) (by kernel_rfl) (fun _ _ _ h => h) (Or.inl ⟨by rfl, ?_⟩) hS ?_
        · intro W hW; go_simp
        refine wpAnyH_take (i := 28) (v := .bool false) rfl (by kernel_rfl) (by kernel_rfl) (by kernel_rfl) (fun _ _ _ h => h) (Or.inl ⟨by rfl, ?_⟩) hS ?_
        · intro W hW; go_simp
        refine wpAnyH_take (i := 29) (v := .bool false) rfl (by kernel_rfl) (by kernel_rfl) (by kernel_rfl) (fun _ _ _ h => h) (Or.inl ⟨by rfl, ?_⟩) hS ?_
        · intro W hW; go_simp
        simp only [Act.put, List.getElem_toArray, List.getElem_cons_succ, List.getElem_cons_zero, List.setIfInBounds_toArray, List.set_cons_succ, List.set_cons_zero]
        refine wpAnyH_take (i := 30) (v := .pointer (some ⟨l, 0, none⟩)) rfl (by kernel_rfl) (by kernel_rfl) (by kernel_rfl) (fun _ _ _ h => h) (Or.inl ⟨by rfl, ?_⟩) hS ?_
        · intro W hW; go_simp
        refine wpAnyH_take (i := 32) (v := .pointer (some ⟨b, 0, none⟩)) rfl (by kernel_rfl) (by kernel_rfl) (by kernel_rfl) (fun _ _ _ h => h) (Or.inl ⟨by rfl, ?_⟩) hS ?_
        · intro W hW; go_simp
        refine wpAnyH_take (i := 33) (v := .pointer (some ⟨b, 0, none⟩)) rfl (by kernel_rfl) (by kernel_rfl) (by kernel_rfl) (fun _ _ _ h => h) (Or.inl ⟨by rfl, ?_⟩) hS ?_
        · intro W hW; go_simp
        simp only [Act.put, List.getElem_toArray, List.getElem_cons_succ, List.getElem_cons_zero, List.setIfInBounds_toArray, List.set_cons_succ, List.set_cons_zero]
        refine wpAnyH_take (i := 34) (v := .pointer (some ⟨b, 1, none⟩)) rfl (by kernel_rfl) (by kernel_rfl) (by kernel_rfl) (fun _ _ _ h => h) (Or.inl ⟨by rfl, ?_⟩) hS ?_
        · intro W hW; go_simp
        refine wpAnyH_take (i := 35) (v := u') rfl (by kernel_rfl) (by kernel_rfl) (by kernel_rfl) (fun _ _ _ h => h) (Or.inl ⟨by rfl, ?_⟩) hS ?_
        · intro W hW; have e1 : W.cell? ⟨b, 1, none⟩ = some u' := (hW.cell (p := ⟨b, 1, none⟩) hb5 (by simp)).trans yb; go_simp
        simp only [Act.put, List.getElem_toArray, List.getElem_cons_succ, List.getElem_cons_zero, List.setIfInBounds_toArray, List.set_cons_succ, List.set_cons_zero]
        refine wpAnyH_ready (rs := [31]) (by kernel_rfl) (by simp) (AllReadyH.cons rfl (fun K hK => ?_) AllReadyH.nil)
        go_simp
        refine Calls.mono (lr_monitors (HL.out.upd hS) (by have := HN.out; omega)) ?_
        rintro en w12 ⟨s3, ks, rfl, h1, h2, hU⟩
        obtain rfl : ks = ms' := mons_of_one h2 HL.out.simm
        have HK3 : Hid (MR w12 _ s3 ks) := h1
        clear h1 h2
        have hS2 : Upd [] w5 w12 := hS.trans hU
        refine hK.out _ _ hS2 (fun _ => ?_)
        clear hK K hS hU
        have hS : Upd [] w5 w12 := hS2
        clear hS2
        refine wpAnyH_ready (rs := [36]) (by kernel_rfl) (by simp) (AllReadyH.cons rfl (fun K hK => ?_) AllReadyH.nil)
        go_simp
        refine Calls.mono (same_one _ _ _ _ _ _ HK3.out (HL.out.nr.upd hS)) ?_
        rintro en w13 ⟨rfl, hU⟩
        clear HK3
        have hS2 : Upd [] w5 w13 := hS.trans hU
        refine hK.out _ _ hS2 (fun _ => ?_)
        clear hK K hS hU
        have hS : Upd [] w5 w13 := hS2
        clear hS2
        refine wpAnyH_take (i := 37) (v := .bool false) rfl (by kernel_rfl) (by kernel_rfl) (by kernel_rfl) (fun _ _ _ h => h) (Or.inl ⟨by rfl, ?_⟩) hS ?_
        · intro W hW; go_simp
        refine wpAnyH_take (i := 38) (v := .bool false) rfl (by kernel_rfl) (by kernel_rfl) (by kernel_rfl) (fun _ _ _ h => h) (Or.inl ⟨by rfl, ?_⟩) hS ?_
        · intro W hW; go_simp
        simp only [Act.put, List.getElem_toArray, List.getElem_cons_succ, List.getElem_cons_zero, List.setIfInBounds_toArray, List.set_cons_succ, List.set_cons_zero]
        refine wpAnyH_done (by kernel_rfl) ?_ _
        have HE : Hid (LR w w13 l n' b L' M' v' u' ps' ks) := HL.out.upd hS
        clear hS
        go_wp2_with fail
        go_roundw
        case rel => exact ⟨i + 1, n', L', M', v', u', ps', ks, by go_num, hlt, by have := HN.out; omega, by have := HN.out; omega, by have := HN.out; omega, HE.out⟩
        case measure => simp [intOf]; omega
      · obtain rfl : i = m := by omega
        obtain ⟨n', L', M', v', u', ps', ms', HO'⟩ : ∃ n' L' M' v' u' ps' ms', Hid (LR w wr l n' b L' M' v' u' ps' ms' ∧ n' ≤ 2 * i ∧ ps'.length ≤ i ∧ ms'.length ≤ i) := ⟨_, _, _, _, _, _, _, HO⟩
        clear HO
        have HN : Hid (n' ≤ 160 ∧ ps'.length ≤ 80) := ⟨by have := HO'.out; have := HM.out.1; omega, by have := HO'.out; have := HM.out.1; omega⟩
        have H4 : Hid (LR w wr l n' b L' M' v' u' ps' ms') := HO'.out.1
        clear HO'
        go_wp2_with fail
        go_loopw [7] (fun s7 wx => ∃ j : Nat, s7 = .int .i64 (j : Nat) ∧ j ≤ i ∧ LR w wx l n' b L' M' v' u' ps' ms') (fun s7 _ => i - (intOf s7).toNat)
        case atStart => exact ⟨0, rfl, Nat.zero_le _, H4.out⟩
        case round =>
          obtain ⟨j, rfl, hj, o⟩ := hrel
          have HW : Hid (LR w wr l n' b L' M' v' u' ps' ms' ∧ True) := ⟨o, trivial⟩
          clear o H4
          by_cases hjl : j < i
          · have j1 : (j : Int) < (i : Int) := by omega
            have j80 : (j : Int) < 80 := by have := HM.out.1; omega
            obtain ⟨gl, ol, op, A, B, r, hae, hgl, k0, k1, k2, k3, hI⟩ := HM.out.2 j hjl
            subst hae
            have hl1 : wr.cell? ⟨gl, ol + j * 4 + 1, none⟩ = some (.int .i64 A) := (HW.out.1.up.cell (p := ⟨gl, ol + j * 4 + 1, none⟩) hgl (by simp)).trans k1
            have hgr : gl < wr.heap.size := Nat.lt_of_lt_of_le hgl HW.out.1.up.size
            have HA : Hid (I64 A) := hI.2.1
            clear k0 k1 k2 k3 hgl hI
            go_upto_region 15 with fail
            refine wp_region_held_drew (S := fun W => Upd [] wr W) (by kernel_rfl) (Upd.refl [] wr).drew (fun hS => ?_)
            refine wpAnyH_take (i := 0) (v := .pointer (some ⟨l, 0, none⟩)) rfl (by kernel_rfl) (by kernel_rfl) (by kernel_rfl) (fun _ _ _ h => h) (Or.inl ⟨by rfl, ?_⟩) hS ?_
            · intro W hW; go_simp
            refine wpAnyH_take (i := 1) (v := .slice (some ⟨gl, ol, none⟩) i c0) rfl (by kernel_rfl) (by kernel_rfl) (by kernel_rfl) (fun _ _ _ h => h) (Or.inl ⟨by rfl, ?_⟩) hS ?_
            · intro W hW; go_simp
            refine wpAnyH_take (i := 2) (v := .int .i64 (j : Nat)) rfl (by kernel_rfl) (by kernel_rfl) (by kernel_rfl) (fun _ _ _ h => h) (Or.inl ⟨by rfl, ?_⟩) hS ?_
            · intro W hW; go_simp
            simp only [Act.put, List.getElem_toArray, List.getElem_cons_succ, List.getElem_cons_zero, List.setIfInBounds_toArray, List.set_cons_succ, List.set_cons_zero]
            refine wpAnyH_take (i := 3) (v := .pointer (some ⟨gl, ol + j * 4, none⟩)) rfl (by kernel_rfl) (by kernel_rfl) (by kernel_rfl) (fun _ _ _ h => h) (Or.inl ⟨by rfl, ?_⟩) hS ?_
            · intro W hW; go_simp
            refine wpAnyH_take (i := 4) (v := .pointer (some ⟨gl, ol + j * 4 + 1, none⟩)) rfl (by kernel_rfl) (by kernel_rfl) (by kernel_rfl) (fun _ _ _ h => h) (Or.inl ⟨by rfl, ?_⟩) hS ?_
            · intro W hW; go_simp
            refine wpAnyH_take (i := 5) (v := .int .i64 A) rfl (by kernel_rfl) (by kernel_rfl) (by kernel_rfl) (fun _ _ _ h => h) (Or.inl ⟨by rfl, ?_⟩) hS ?_
            · intro W hW; have e1 : W.cell? ⟨gl, ol + j * 4 + 1, none⟩ = some (.int .i64 A) := (hW.cell (p := ⟨gl, ol + j * 4 + 1, none⟩) hgr (by simp)).trans hl1; go_simp
            simp only [Act.put, List.getElem_toArray, List.getElem_cons_succ, List.getElem_cons_zero, List.setIfInBounds_toArray, List.set_cons_succ, List.set_cons_zero]
            refine wpAnyH_take (i := 7) (v := .pointer (some ⟨b, 0, none⟩)) rfl (by kernel_rfl) (by kernel_rfl) (by kernel_rfl) (fun _ _ _ h => h) (Or.inl ⟨by rfl, ?_⟩) hS ?_
            · intro W hW; go_simp
            refine wpAnyH_take (i := 8) (v := .slice (some ⟨gl, ol, none⟩) i c0) rfl (by kernel_rfl) (by kernel_rfl) (by kernel_rfl) (fun _ _ _ h => h) (Or.inl ⟨by rfl, ?_⟩) hS ?_
            · intro W hW; go_simp
            refine wpAnyH_take (i := 9) (v := .int .i64 (j : Nat)) rfl (by kernel_rfl) (by kernel_rfl) (by kernel_rfl) (fun _ _ _ h => h) (Or.inl ⟨by rfl, ?_⟩) hS ?_
            · intro W hW; go_simp
            simp only [Act.put, List.getElem_toArray, List.getElem_cons_succ, List.getElem_cons_zero, List.setIfInBounds_toArray, List.set_cons_succ, List.set_cons_zero]
            refine wpAnyH_take (i := 10) (v := .pointer (some ⟨gl, ol + j * 4, none⟩)) rfl (by kernel_rfl) (by kernel_rfl) (by kernel_rfl) (fun _ _ _ h => h) (Or.inl ⟨by rfl, ?_⟩) hS ?_
            · intro W hW; go_simp
            refine wpAnyH_take (i := 11) (v := .pointer (some ⟨gl, ol + j * 4 + 1, none⟩)) rfl (by kernel_rfl) (by kernel_rfl) (by kernel_rfl) (fun _ _ _ h => h) (Or.inl ⟨by rfl, ?_⟩) hS ?_
            · intro W hW; go_simp
            refine wpAnyH_take (i := 12) (v := .int .i64 A) rfl (by kernel_rfl) (by kernel_rfl) (by kernel_rfl) (fun _ _ _ h => h) (Or.inl ⟨by rfl, ?_⟩) hS ?_
            · intro W hW; have e1 : W.cell? ⟨gl, ol + j * 4 + 1, none⟩ = some (.int .i64 A) := (hW.cell (p := ⟨gl, ol + j * 4 + 1, none⟩) hgr (by simp)).trans hl1; go_simp
            simp only [Act.put, List.getElem_toArray, List.getElem_cons_succ, List.getElem_cons_zero, List.setIfInBounds_toArray, List.set_cons_succ, List.set_cons_zero]
            refine wpAnyH_ready (rs := [6]) (by kernel_rfl) (by simp) (AllReadyH.cons rfl (fun K hK => ?_) AllReadyH.nil)
            go_simp
            refine Calls.mono (lr_of (HW.out.1.upd hS) (by have := HN.out; omega) HA.out) ?_
            rintro en w6 ⟨s1, ys, rfl, h1, h2, h3, hU⟩
            obtain ⟨p1, c1, hv1⟩ := h1.form
            subst hv1
            have HY : Hid (IR w6 _ (.slice p1 ys.length c1) ys ∧ ys.Pairwise (· < ·) ∧ ∀ x, x ∈ ys ↔ L' A x = true) := ⟨h1, h2, h3⟩
            clear h1 h2 h3
            have hS2 : Upd [] wr w6 := hS.trans hU
            refine hK.out _ _ hS2 (fun _ => ?_)
            clear hK K hS hU
            have hS : Upd [] wr w6 := hS2
            clear hS2
            refine wpAnyH_ready (rs := [13]) (by kernel_rfl) (by simp) (AllReadyH.cons rfl (fun K hK => ?_) AllReadyH.nil)
            go_simp
            refine Calls.mono (lr_ofRef (HW.out.1.upd hS) (by have := HN.out; omega) A) ?_
            rintro en w7 ⟨s2, zs, rfl, h1, h2, h3, hU⟩
            obtain ⟨p2, c2, hv2⟩ := h1.form
            subst hv2
            obtain rfl : zs = ys := sorted_one h2 HY.out.2.1 (fun x => by rw [h3, HY.out.2.2])
            have HZ : Hid (IR w7 _ (.slice p1 zs.length c1) zs ∧ IR w7 _ (.slice p2 zs.length c2) zs) := ⟨HY.out.1.upd hU, h1⟩
            clear h1 h2 h3 HY
            have hS2 : Upd [] wr w7 := hS.trans hU
            refine hK.out _ _ hS2 (fun _ => ?_)
            clear hK K hS hU
            have hS : Upd [] wr w7 := hS2
            clear hS2
            refine wpAnyH_ready (rs := [14]) (by kernel_rfl) (by simp) (AllReadyH.cons rfl (fun K hK => ?_) AllReadyH.nil)
            go_simp
            refine Calls.mono (sameInts_any _ _ _ _ _ _ _ HZ.out.1 HZ.out.2) ?_
            rintro en w8 ⟨he, hU⟩
            have hzz : (zs == zs) = true := by simp
            rw [hzz] at he
            subst he
            clear hzz HZ
            have hS2 : Upd [] wr w8 := hS.trans hU
            refine hK.out _ _ hS2 (fun _ => ?_)
            clear hK K hS hU
            have hS : Upd [] wr w8 := hS2
            clear hS2
            refine wpAnyH_take (i := 15) (v := .bool false) rfl (by kernel_rfl) (by kernel_rfl) (by kernel_rfl) (fun _ _ _ h => h) (Or.inl ⟨by rfl, ?_⟩) hS ?_
            · intro W hW; go_simp
            simp only [Act.put, List.getElem_toArray, List.getElem_cons_succ, List.getElem_cons_zero, List.setIfInBounds_toArray, List.set_cons_succ, List.set_cons_zero]
            refine wpAnyH_done (by kernel_rfl) ?_ _
            have HE : Hid (LR w w8 l n' b L' M' v' u' ps' ms') := HW.out.1.upd hS
            clear hS
            go_wp2_with fail
            go_roundw
            case rel => exact ⟨j + 1, by go_num, hjl, HE.out⟩
            case measure => simp [intOf]; omega
          · have HU : Hid (Upd [] w wr) := HW.out.1.up
            have hjd : decide ((j : Int) < (i : Int)) = false := decide_eq_false (by omega)
            go_wp2_with fail
            refine Calls.mono (awake_any _) ?_
            rintro e w9 ⟨rfl, hu⟩
            have HV : Hid (Upd [] w w9) := HU.out.trans hu
            clear hu HU
            go_wp2_with fail
            go_ret
            exact ⟨rfl, HV.out⟩

end Go.Proofs.Ytmepiggkligacaa
