/- The document's Set. -/
import Derived.Test.YtpemnficdhjkhaaCrD
namespace Go.Proofs.Ytpemnficdhjkhaa
open Go.RowKit Go.Maps

/-- A pair is put behind, whatever the row. -/
theorem oper_pushP {o : Oper} {a : Act} {w : World} {K : Act → World → Prop} {Q : Exit → Act → World → Prop} (s x : Operand) (ho : o.op = .call { callee := .builtin .append, args := #[s, x], argTypes := #[26, 26] })
    (B : Nat) (v u : Value) (xs : List (Int × Int)) (q : Int × Int) (hsv : a.eval s = v) (hxu : a.eval x = u) (hown : PR w B v xs) (hs : SrcP w u [q]) (hlen : xs.length ≤ 10000) (hB : B ≤ w.heap.size)
    (h : ∀ g c w', PR w' B (.slice (some ⟨g, 0, none⟩) (xs.length + 1) c) (xs ++ [q]) → w.grownBy w' v.ownBlock → (Value.ownBlock (.slice (some ⟨g, 0, none⟩) (xs.length + 1) c) = v.ownBlock ∨ Value.ownBlock (.slice (some ⟨g, 0, none⟩) (xs.length + 1) c) = some w.heap.size) → K (a.put o.dst (.slice (some ⟨g, 0, none⟩) (xs.length + 1) c)) w') : Oper.wp Try.prog o a w K Q := by
  obtain ⟨i0, hi, hz0, hz1, hz2⟩ := info_parts info_pr2
  rcases hs with ⟨_, _, he⟩ | ⟨ad, c2, hu, hc⟩
  · cases he
  · obtain ⟨v', w', hr, h2, h3, h4, h5⟩ := run_append_own_at (P := Try.prog) w B 26 o.type 50 i0 (.agg #[.int .i64 0, .int .i64 0]) 2 16 und_prs hi hz0 hz1 hz2 rfl (by decide) _ xs.length (xs.flatMap cellsP) hown ad [q].length c2 ([q].flatMap cellsP) (len_cellsP [q]) hc (one_cellsP [q]) (by unfold maxLen; simp; omega) (by simp; omega) hB
    have hI : PR w' B v' (xs ++ [q]) := by
      unfold PR
      rw [List.length_append, List.flatMap_append]
      exact h2
    rcases h2.2 with ⟨e, e0⟩ | ⟨g2, cap, cur, e, _⟩
    · simp at e0
    · subst e
      unfold Oper.wp execOp
      rw [hu] at hxu
      simp only [ho, resolve, invoke, builtin, Sem.run_bind, Sem.run_pure, Result.andThen_ok, List.map_toArray, List.map_cons, List.map_nil, hsv, hxu, hr]
      exact h g2 cap w' hI h3 h5
/-- The grown row is put in. -/
theorem put_push {w w3 : World} {b g c n : Nat} {v : Value} {nv : Int} {zs : List (Int × Int)} {B : Nat} (hb : Cl w b #[.int .i64 nv, v] 28) (hvb : ¬ v.ownBlock = some b) (hu : UpP (fun x => v.ownBlock = some x) w w3) (hr : PR w3 B (.slice (some ⟨g, 0, none⟩) n c) zs) :
    Cl (w3.setCell ⟨b, 1, none⟩ (.slice (some ⟨g, 0, none⟩) n c)) b #[.int .i64 nv, .slice (some ⟨g, 0, none⟩) n c] 28 ∧ PR (w3.setCell ⟨b, 1, none⟩ (.slice (some ⟨g, 0, none⟩) n c)) B (.slice (some ⟨g, 0, none⟩) n c) zs ∧ UpP (fun x => x = b ∨ v.ownBlock = some x) w (w3.setCell ⟨b, 1, none⟩ (.slice (some ⟨g, 0, none⟩) n c)) := by
  have h3 : Cl w3 b #[.int .i64 nv, v] 28 := hb.mono hu hvb
  have h4 : Upd [b] w3 (w3.setCell ⟨b, 1, none⟩ (.slice (some ⟨g, 0, none⟩) n c)) := (Upd.refl [b] w3).setCell (Or.inr (by simp)) _
  refine ⟨h3.set 1 _, hr.updS h4 (fun g2 hg2 => ?_), (hu.mono (fun x hx => Or.inr hx)).trans (h4.toP.mono (fun x hx => Or.inl (by simpa using hx)))⟩
  rcases hr.2 with ⟨e, _⟩ | ⟨g5, cap, cur, e, _, hg5, _⟩
  · cases e
  · simp only [Value.slice.injEq, Option.some.injEq, Addr.mk.injEq, and_true] at e
    obtain ⟨rfl, _⟩ := e
    cases hg2
    have hne := h3.ne (T' := 50) hg5 (by decide)
    simp
    exact fun e => hne e.symm

/-- What Set does and tells. -/
def SetP (w : World) (B b : Nat) (nv : Int) (v : Value) (ps : List (Int × Int)) (x af : Int) (e : Ending) (w' : World) : Prop :=
  (((af < 0 ∨ 1099511627776 < af) ∨ ∃ p ∈ ps, p.2 = x) ∧ e = .returned (.bool false) ∧ w' = w) ∨
    (¬ (af < 0 ∨ 1099511627776 < af) ∧ (∀ p ∈ ps, p.2 ≠ x) ∧ e = .returned (.bool true) ∧ ∃ v', Cl w' b #[.int .i64 nv, v'] 28 ∧ PR w' B v' (ps ++ [(nv + af, x)]) ∧ UpP (fun z => z = b ∨ v.ownBlock = some z) w w' ∧ (v'.ownBlock = v.ownBlock ∨ ∃ g, v'.ownBlock = some g ∧ w.heap.size ≤ g))

set_option maxHeartbeats 8000000 in
set_option maxRecDepth 100000 in
theorem setRef_any (w : World) (B b : Nat) (nv : Int) (v : Value) (ps : List (Int × Int)) (x af : Int) (hb : Cl w b #[.int .i64 nv, v] 28) (hr : PR w B v ps) (hB : B ≤ w.heap.size) (hn : ps.length ≤ 1000) (hvb : ¬ v.ownBlock = some b) (h0 : 0 ≤ nv) (h1 : nv ≤ 1099511627776) :
    Calls Try.prog 19 #[.pointer (some ⟨b, 0, none⟩), .int .i64 x, .int .i64 af] w fun e w' => SetP w B b nv v ps x af e w' := by
  obtain ⟨p, c, hv⟩ := hr.form
  subst hv
  have HB : Hid (Cl w b #[.int .i64 nv, .slice p ps.length c] 28 ∧ PR w B (.slice p ps.length c) ps ∧ B ≤ w.heap.size ∧ ¬ Value.ownBlock (.slice p ps.length c) = some b) := ⟨hb, hr, hB, hvb⟩
  have cb2 : w.cell? ⟨b, 1, none⟩ = some (.slice p ps.length c) := by rw [hb.cell]; rfl
  clear hb hr hB hvb
  by_cases ha : af < 0
  · have d0 : decide (af < 0) = true := by simpa using ha
    have HA : Hid (af < 0) := ha
    clear ha
    go_enter Try.func19, Try.ntmps19
    go_wp2_with fail
    go_ret
    exact Or.inl ⟨Or.inl (Or.inl HA.out), rfl, rfl⟩
  · have d0 : decide (af < 0) = false := by simpa using ha
    by_cases ha2 : 1099511627776 < af
    · have d1 : decide (1099511627776 < af) = true := by simpa using ha2
      have HA : Hid (1099511627776 < af) := ha2
      clear ha ha2
      go_enter Try.func19, Try.ntmps19
      go_wp2_with fail
      go_ret
      exact Or.inl ⟨Or.inl (Or.inr HA.out), rfl, rfl⟩
    · have d1 : decide (1099511627776 < af) = false := by simpa using ha2
      have HA : Hid (¬ (af < 0 ∨ 1099511627776 < af)) := by intro h; rcases h with h | h; exact ha h; exact ha2 h
      have hwr : IntKind.i64.wrap (nv + af) = nv + af := IntWalk.i64_in _ ⟨by omega, by omega⟩
      clear ha ha2
      go_enter Try.func19, Try.ntmps19
      go_wp2_with fail
      go_loopw [7] (fun s7 wr => ∃ k : Nat, k ≤ ps.length ∧ s7 = .int .i64 (k : Nat) ∧ (∀ p ∈ ps.take k, p.2 ≠ x) ∧ wr = w) (fun s7 _ => ps.length - (intOf s7).toNat)
      case atStart => exact ⟨0, Nat.zero_le _, rfl, by simp, rfl⟩
      case round =>
        obtain ⟨k, hk', rfl, hno, hw⟩ := hrel
        rw [hw]
        have HNk : Hid (∀ p ∈ ps.take k, p.2 ≠ x) := hno
        clear hno hw
        by_cases hk : k < ps.length
        · have hkl : (k : Int) < (ps.length : Int) := by omega
          obtain ⟨g, c', hv, q0, q1⟩ := HB.out.2.1.cells hk
          simp only [Value.slice.injEq] at hv
          obtain ⟨rfl, _, rfl⟩ := hv
          obtain ⟨y, hy⟩ : ∃ y, ps[k].2 = y := ⟨_, rfl⟩
          have HY : Hid (ps[k].2 = y) := hy
          rw [hy] at q1
          clear hy q0
          by_cases hyx : y = x
          · have HP : Hid (∃ p ∈ ps, p.2 = x) := ⟨ps[k], List.getElem_mem hk, HY.out.trans hyx⟩
            have heq : (y == x) = true := by simpa using hyx
            clear hyx
            go_wp2_with fail
            go_ret
            exact Or.inl ⟨Or.inr HP.out, rfl, rfl⟩
          · have heq : (y == x) = false := by simpa using hyx
            have HYX : Hid (y ≠ x) := hyx
            have hkm : (k : Int) + 1 ≤ 9223372036854775807 := by omega
            clear hyx
            go_wp2_with fail
            go_roundw
            case rel => exact ⟨k + 1, hk, by go_num, fun q hq => by
              rw [List.take_succ_eq_append_getElem hk] at hq
              rcases List.mem_append.1 hq with hq | hq
              · exact HNk.out q hq
              · obtain rfl : q = ps[k] := by simpa using hq
                rw [HY.out]; exact HYX.out, trivial⟩
            case measure => simp [intOf]; omega
        · obtain rfl : k = ps.length := by omega
          have HNo : Hid (∀ p ∈ ps, p.2 ≠ x) := fun q hq => HNk.out q (by rw [List.take_length]; exact hq)
          clear HNk hk hk'
          go_upto_region 8 with fail
          refine wp_region_cut_drew (S := fun W => UpP (fun x => Value.ownBlock (.slice p ps.length c) = some x) w W) 17 (by kernel_rfl) (UpP.refl _ w).drew (fun hS => ?_)
          refine wpAnyC_take (i := 0) (v := .pointer (some ⟨b, 0, none⟩)) rfl (by kernel_rfl) (by kernel_rfl) (by kernel_rfl) (by kernel_rfl) (fun _ _ _ h => h) (Or.inl ⟨by rfl, ?_⟩) hS ?_
          · intro W hW; go_simp
          refine wpAnyC_take (i := 1) (v := .pointer (some ⟨b, 0, none⟩)) rfl (by kernel_rfl) (by kernel_rfl) (by kernel_rfl) (by kernel_rfl) (fun _ _ _ h => h) (Or.inl ⟨by rfl, ?_⟩) hS ?_
          · intro W hW; go_simp
          refine wpAnyC_take (i := 2) (v := .pointer (some ⟨b, 0, none⟩)) rfl (by kernel_rfl) (by kernel_rfl) (by kernel_rfl) (by kernel_rfl) (fun _ _ _ h => h) (Or.inl ⟨by rfl, ?_⟩) hS ?_
          · intro W hW; go_simp
          simp only [Act.put, List.getElem_toArray, List.getElem_cons_succ, List.getElem_cons_zero, List.setIfInBounds_toArray, List.set_cons_succ, List.set_cons_zero]
          refine wpAnyC_take (i := 3) (v := .pointer (some ⟨b, 1, none⟩)) rfl (by kernel_rfl) (by kernel_rfl) (by kernel_rfl) (by kernel_rfl) (fun _ _ _ h => h) (Or.inl ⟨by rfl, ?_⟩) hS ?_
          · intro W hW; go_simp
          refine wpAnyC_take (i := 4) (v := .slice p ps.length c) rfl (by kernel_rfl) (by kernel_rfl) (by kernel_rfl) (by kernel_rfl) (fun _ _ _ h => h) (Or.inl ⟨by rfl, ?_⟩) hS ?_
          · intro W hW; have e1 : W.cell? ⟨b, 1, none⟩ = some (.slice p ps.length c) := (HB.out.1.mono hW HB.out.2.2.2).cell 1; go_simp
          refine wpAnyC_take (i := 5) (v := .pointer (some ⟨b, 0, none⟩)) rfl (by kernel_rfl) (by kernel_rfl) (by kernel_rfl) (by kernel_rfl) (fun _ _ _ h => h) (Or.inl ⟨by rfl, ?_⟩) hS ?_
          · intro W hW; go_simp
          simp only [Act.put, List.getElem_toArray, List.getElem_cons_succ, List.getElem_cons_zero, List.setIfInBounds_toArray, List.set_cons_succ, List.set_cons_zero]
          refine wpAnyC_take (i := 6) (v := .pointer (some ⟨b, 0, none⟩)) rfl (by kernel_rfl) (by kernel_rfl) (by kernel_rfl) (by kernel_rfl) (fun _ _ _ h => h) (Or.inl ⟨by rfl, ?_⟩) hS ?_
          · intro W hW; go_simp
          refine wpAnyC_take (i := 7) (v := .pointer (some ⟨b, 0, none⟩)) rfl (by kernel_rfl) (by kernel_rfl) (by kernel_rfl) (by kernel_rfl) (fun _ _ _ h => h) (Or.inl ⟨by rfl, ?_⟩) hS ?_
          · intro W hW; go_simp
          simp only [Act.put, List.getElem_toArray, List.getElem_cons_succ, List.getElem_cons_zero, List.setIfInBounds_toArray, List.set_cons_succ, List.set_cons_zero]
          refine wpAnyC_take (i := 8) (v := .int .i64 nv) rfl (by kernel_rfl) (by kernel_rfl) (by kernel_rfl) (by kernel_rfl) (fun _ _ _ h => h) (Or.inl ⟨by rfl, ?_⟩) hS ?_
          · intro W hW; have e1 : W.cell? ⟨b, 0, none⟩ = some (.int .i64 nv) := (HB.out.1.mono hW HB.out.2.2.2).cell 0; go_simp
          refine wpAnyC_take (i := 9) (v := .int .i64 af) rfl (by kernel_rfl) (by kernel_rfl) (by kernel_rfl) (by kernel_rfl) (fun _ _ _ h => h) (Or.inl ⟨by rfl, ?_⟩) hS ?_
          · intro W hW; go_simp
          simp only [Act.put, List.getElem_toArray, List.getElem_cons_succ, List.getElem_cons_zero, List.setIfInBounds_toArray, List.set_cons_succ, List.set_cons_zero]
          refine wpAnyC_take (i := 10) (v := .int .i64 (nv + af)) rfl (by kernel_rfl) (by kernel_rfl) (by kernel_rfl) (by kernel_rfl) (fun _ _ _ h => h) (Or.inl ⟨by rfl, ?_⟩) hS ?_
          · intro W hW; have e3 : IntKind.i64.wrap (nv + af) = nv + af := hwr; go_simp
          refine wpAnyC_take (i := 11) (v := .int .i64 x) rfl (by kernel_rfl) (by kernel_rfl) (by kernel_rfl) (by kernel_rfl) (fun _ _ _ h => h) (Or.inl ⟨by rfl, ?_⟩) hS ?_
          · intro W hW; go_simp
          simp only [Act.put, List.getElem_toArray, List.getElem_cons_succ, List.getElem_cons_zero, List.setIfInBounds_toArray, List.set_cons_succ, List.set_cons_zero]
          refine wpAnyC_take (i := 12) (v := .agg #[.int .i64 (nv + af), .int .i64 x]) rfl (by kernel_rfl) (by kernel_rfl) (by kernel_rfl) (by kernel_rfl) (fun _ _ _ h => h) (Or.inl ⟨by rfl, ?_⟩) hS ?_
          · intro W hW; go_simp
          simp only [Act.put, List.getElem_toArray, List.getElem_cons_succ, List.getElem_cons_zero, List.setIfInBounds_toArray, List.set_cons_succ, List.set_cons_zero]
          refine wpAnyC_ready (rs := [13]) (by kernel_rfl) (by simp) (AllReadyC.cons rfl (by decide) (fun K hK => ?_) AllReadyC.nil)
          go_simp
          obtain ⟨W2, hW2⟩ : ∃ W2, W2 = (w.alloc (.cells #[.int .i64 (nv + af), .int .i64 x] 50)).drew := ⟨_, rfl⟩
          have hU2 : Upd [] w W2 := by rw [hW2]; exact ((Upd.refl [] w).alloc _).drew
          have HSr : Hid (SrcP W2 (.slice (some ⟨w.heap.size, 0, none⟩) 1 1) [(nv + af, x)]) := by show SrcP _ _ _; rw [hW2]; exact srcP_one w _ _
          have hS2 : UpP (fun x => Value.ownBlock (.slice p ps.length c) = some x) w W2 := hU2.toN
          rw [← hW2]
          clear hW2
          refine hK.out _ _ hS2 (fun _ => ?_)
          clear hK K hS
          have hS := hS2
          clear hS2
          refine wpAnyC_ready (rs := [14]) (by kernel_rfl) (by simp) (AllReadyC.cons rfl (by decide) (fun K hK => ?_) AllReadyC.nil)
          rw [if_pos (by rfl)]
          refine oper_pushP _ _ rfl B _ _ ps _ rfl rfl (HB.out.2.1.upd hU2) HSr.out (by omega) (Nat.le_trans HB.out.2.2.1 hU2.size) ?_
          intro g2 c2 W3 hI2 hg2 hat
          have hS2 : UpP (fun x => Value.ownBlock (.slice p ps.length c) = some x) w W3 := (hU2.toN (P := fun x => Value.ownBlock (.slice p ps.length c) = some x)).trans (upP_grown hg2)
          have HP3 : Hid (PR W3 B (.slice (some ⟨g2, 0, none⟩) (ps.length + 1) c2) (ps ++ [(nv + af, x)]) ∧ UpP (fun x => Value.ownBlock (.slice p ps.length c) = some x) w W3 ∧ (Value.ownBlock (.slice p ps.length c) = some g2 ∨ w.heap.size ≤ g2)) := ⟨hI2, hS2, hat.imp (fun e => e.symm) (fun e => by cases e; exact hU2.size)⟩
          refine hK.out _ _ hS2 (fun _ => ?_)
          clear hK K hS hI2 hg2 hU2 hat
          have hS := hS2
          clear hS2
          refine wpAnyC_ready (rs := [15]) (by kernel_rfl) (by simp) (AllReadyC.cons rfl (by decide) (fun K hK => ?_) AllReadyC.nil)
          go_simp
          refine hK.out _ _ hS (fun _ => ?_)
          clear hK K
          refine wpAnyC_take (i := 16) (v := .pointer (some ⟨b, 1, none⟩)) rfl (by kernel_rfl) (by kernel_rfl) (by kernel_rfl) (by kernel_rfl) (fun _ _ _ h => h) (Or.inl ⟨by rfl, ?_⟩) hS ?_
          · intro W hW; go_simp
          simp only [Act.put, List.getElem_toArray, List.getElem_cons_succ, List.getElem_cons_zero, List.setIfInBounds_toArray, List.set_cons_succ, List.set_cons_zero]
          have cb3 : W3.cell? ⟨b, 1, none⟩ = some (.slice p ps.length c) := (HB.out.1.mono hS HB.out.2.2.2).cell 1
          have cf3 : W3.frozen? ⟨b, 1, none⟩ = false := (HB.out.1.mono hS HB.out.2.2.2).free 1
          refine wpAnyC_cut (fun _ => True) (by kernel_rfl) rfl (fun K hK => ?_)
          go_simp
          refine hK.out _ _ trivial (fun _ => ?_)
          clear hK K hS
          refine wpAnyH_done (by kernel_rfl) ?_ _
          go_wp2
          go_ret
          have hput := put_push HB.out.1 HB.out.2.2.2 HP3.out.2.1 HP3.out.1
          exact Or.inr ⟨HA.out, HNo.out, rfl, _, hput.1, hput.2.1, hput.2.2, HP3.out.2.2.imp (fun e => e.symm) (fun e => ⟨g2, rfl, e⟩)⟩

end Go.Proofs.Ytpemnficdhjkhaa
