/- The reference's Link. -/
import Derived.Test.YtofcniodobjopaaGreatLkRv
namespace Go.Proofs.YtofcniodobjopaaGreat
open Go.RowKit Go.Maps

/-- A pair is put behind, whatever the row. -/
theorem oper_pushP {o : Oper} {a : Act} {w : World} {K : Act → World → Prop} {Q : Exit → Act → World → Prop} (s x : Operand) (ho : o.op = .call { callee := .builtin .append, args := #[s, x], argTypes := #[38, 38] })
    (B : Nat) (v u : Value) (xs : List (Int × Int)) (q : Int × Int) (hsv : a.eval s = v) (hxu : a.eval x = u) (hown : PR w B v xs) (hs : SrcP w u [q]) (hlen : xs.length ≤ 10000) (hB : B ≤ w.heap.size)
    (h : ∀ g c w', PR w' B (.slice (some ⟨g, 0, none⟩) (xs.length + 1) c) (xs ++ [q]) → w.grownBy w' v.ownBlock → (Value.ownBlock (.slice (some ⟨g, 0, none⟩) (xs.length + 1) c) = v.ownBlock ∨ Value.ownBlock (.slice (some ⟨g, 0, none⟩) (xs.length + 1) c) = some w.heap.size) → K (a.put o.dst (.slice (some ⟨g, 0, none⟩) (xs.length + 1) c)) w') : Oper.wp Tryz.prog o a w K Q := by
  obtain ⟨i0, hi, hz0, hz1, hz2⟩ := info_parts info_pr2
  rcases hs with ⟨_, _, he⟩ | ⟨ad, c2, hu, hc⟩
  · cases he
  · obtain ⟨v', w', hr, h2, h3, h4, h5⟩ := run_append_own_at (P := Tryz.prog) w B 38 o.type 115 i0 (.agg #[.int .i64 0, .int .i64 0]) 2 16 und_prs hi hz0 hz1 hz2 rfl (by decide) _ xs.length (xs.flatMap cellsP) hown ad [q].length c2 ([q].flatMap cellsP) (len_cellsP [q]) hc (one_cellsP [q]) (by unfold maxLen; simp; omega) (by simp; omega) hB
    have hI : PR w' B v' (xs ++ [q]) := by
      unfold PR
      rw [List.length_append, List.flatMap_append]
      exact h2
    rcases h2.2 with ⟨e, e0⟩ | ⟨g2, cap, cur, e, _⟩
    · simp at e0
    · subst e
      unfold Oper.wp execOp
      rw [hu] at hxu
      simp only [ho, resolve, invoke, builtin, Sem.run_bind, Sem.run_pure, Result.andThen_ok, List.map_toArray, List.map_cons, List.map_nil, hsv, hxu, hr]
      exact h g2 cap w' hI h3 h5
/-- The grown row is put in. -/
theorem put_push {w w3 : World} {b g c n : Nat} {v u : Value} {zs : List (Int × Int)} {B : Nat} (hb : Cl w b #[v, u] 41) (hvb : ¬ v.ownBlock = some b) (hu : UpP (fun x => v.ownBlock = some x) w w3) (hr : PR w3 B (.slice (some ⟨g, 0, none⟩) n c) zs) :
    Cl (w3.setCell ⟨b, 0, none⟩ (.slice (some ⟨g, 0, none⟩) n c)) b #[.slice (some ⟨g, 0, none⟩) n c, u] 41 ∧ PR (w3.setCell ⟨b, 0, none⟩ (.slice (some ⟨g, 0, none⟩) n c)) B (.slice (some ⟨g, 0, none⟩) n c) zs ∧ UpP (fun x => x = b ∨ v.ownBlock = some x) w (w3.setCell ⟨b, 0, none⟩ (.slice (some ⟨g, 0, none⟩) n c)) := by
  have h3 : Cl w3 b #[v, u] 41 := hb.mono hu hvb
  have h4 : Upd [b] w3 (w3.setCell ⟨b, 0, none⟩ (.slice (some ⟨g, 0, none⟩) n c)) := (Upd.refl [b] w3).setCell (Or.inr (by simp)) _
  refine ⟨h3.set 0 _, hr.updS h4 (fun g2 hg2 => ?_), (hu.mono (fun x hx => Or.inr hx)).trans (h4.toP.mono (fun x hx => Or.inl (by simpa using hx)))⟩
  rcases hr.2 with ⟨e, _⟩ | ⟨g5, cap, cur, e, _, hg5, _⟩
  · cases e
  · simp only [Value.slice.injEq, Option.some.injEq, Addr.mk.injEq, and_true] at e
    obtain ⟨rfl, _⟩ := e
    cases hg2
    have hne := h3.ne (T' := 115) hg5 (by decide)
    simp
    exact fun e => hne e.symm

set_option maxHeartbeats 8000000 in
set_option maxRecDepth 100000 in
theorem linkRef_any (w : World) (B b : Nat) (v u : Value) (ps : List (Int × Int)) (x y : Int) (hb : Cl w b #[v, u] 41) (hr : PR w B v ps) (hB : B ≤ w.heap.size) (hn : ps.length ≤ 1000) (hvb : ¬ v.ownBlock = some b) :
    Calls Tryz.prog 31 #[.pointer (some ⟨b, 0, none⟩), .int .i64 x, .int .i64 y] w fun e w' => ((x = y ∨ ps.contains (min x y, max x y) = true) ∧ e = .returned (.bool false) ∧ Upd [] w w') ∨
      (x ≠ y ∧ ps.contains (min x y, max x y) = false ∧ e = .returned (.bool true) ∧ ∃ v', Cl w' b #[v', u] 41 ∧ PR w' B v' (ps ++ [(min x y, max x y)]) ∧ UpP (fun z => z = b ∨ v.ownBlock = some z) w w' ∧ (v'.ownBlock = v.ownBlock ∨ ∃ g, v'.ownBlock = some g ∧ w.heap.size ≤ g)) := by
  obtain ⟨p, c, hv⟩ := hr.form
  subst hv
  have HR : Hid (Cl w b #[.slice p ps.length c, u] 41 ∧ PR w B (.slice p ps.length c) ps ∧ B ≤ w.heap.size ∧ ¬ Value.ownBlock (.slice p ps.length c) = some b) := ⟨hb, hr, hB, hvb⟩
  clear hb hr hB hvb
  by_cases hxy : x = y
  · subst hxy
    have hxx : (x == x) = true := by simp
    go_enter Tryz.func31, Tryz.ntmps31
    go_wp2_with fail
    go_ret
    exact Or.inl ⟨Or.inl (by simp), rfl, Upd.refl [] w⟩
  · have hxn : (x == y) = false := beq_eq_false_iff_ne.2 hxy
    go_enter Tryz.func31, Tryz.ntmps31
    go_wp2_with fail
    refine Calls.mono (pair_any _ x y) ?_
    rintro e w1 ⟨rfl, hu1⟩
    have U1 : Hid (Upd [] w w1) := hu1
    clear hu1
    go_wp2_with fail
    refine Calls.mono (find_any w1 B b _ u ps (min x y) (max x y) (HR.out.1.upd U1.out (by simp)) (HR.out.2.1.upd U1.out)) ?_
    rintro e w2 ⟨r, rfl, hres, hu2⟩
    have U2 : Hid (Upd [] w w2) := U1.out.trans hu2
    clear hu2 U1
    rcases hres with ⟨hno, rfl⟩ | ⟨k, hk, hpk, rfl⟩
    · have HNo : Hid (ps.contains (min x y, max x y) = false) := hno
      have HB : Hid (Cl w2 b #[.slice p ps.length c, u] 41 ∧ PR w2 B (.slice p ps.length c) ps ∧ B ≤ w2.heap.size ∧ ¬ Value.ownBlock (.slice p ps.length c) = some b) := ⟨HR.out.1.upd U2.out (by simp), HR.out.2.1.upd U2.out, Nat.le_trans HR.out.2.2.1 U2.out.size, HR.out.2.2.2⟩
      clear hno
      go_upto_region 3 with fail
      refine wp_region_cut_drew (S := fun W => UpP (fun x => Value.ownBlock (.slice p ps.length c) = some x) w2 W) 12 (by kernel_rfl) (UpP.refl _ w2).drew (fun hS => ?_)
      refine wpAnyC_take (i := 0) (v := .pointer (some ⟨b, 0, none⟩)) rfl (by kernel_rfl) (by kernel_rfl) (by kernel_rfl) (by kernel_rfl) (fun _ _ _ h => h) (Or.inl ⟨by rfl, ?_⟩) hS ?_
      · intro W hW; go_simp
      refine wpAnyC_take (i := 1) (v := .pointer (some ⟨b, 0, none⟩)) rfl (by kernel_rfl) (by kernel_rfl) (by kernel_rfl) (by kernel_rfl) (fun _ _ _ h => h) (Or.inl ⟨by rfl, ?_⟩) hS ?_
      · intro W hW; go_simp
      refine wpAnyC_take (i := 2) (v := .pointer (some ⟨b, 0, none⟩)) rfl (by kernel_rfl) (by kernel_rfl) (by kernel_rfl) (by kernel_rfl) (fun _ _ _ h => h) (Or.inl ⟨by rfl, ?_⟩) hS ?_
      · intro W hW; go_simp
      simp only [Act.put, List.getElem_toArray, List.getElem_cons_succ, List.getElem_cons_zero, List.setIfInBounds_toArray, List.set_cons_succ, List.set_cons_zero]
      refine wpAnyC_take (i := 3) (v := .pointer (some ⟨b, 0, none⟩)) rfl (by kernel_rfl) (by kernel_rfl) (by kernel_rfl) (by kernel_rfl) (fun _ _ _ h => h) (Or.inl ⟨by rfl, ?_⟩) hS ?_
      · intro W hW; go_simp
      refine wpAnyC_take (i := 4) (v := .slice p ps.length c) rfl (by kernel_rfl) (by kernel_rfl) (by kernel_rfl) (by kernel_rfl) (fun _ _ _ h => h) (Or.inl ⟨by rfl, ?_⟩) hS ?_
      · intro W hW; have e1 : W.cell? ⟨b, 0, none⟩ = some (.slice p ps.length c) := (HB.out.1.mono hW HB.out.2.2.2).cell 0; go_simp
      refine wpAnyC_take (i := 5) (v := .int .i64 x) rfl (by kernel_rfl) (by kernel_rfl) (by kernel_rfl) (by kernel_rfl) (fun _ _ _ h => h) (Or.inl ⟨by rfl, ?_⟩) hS ?_
      · intro W hW; go_simp
      refine wpAnyC_take (i := 6) (v := .int .i64 y) rfl (by kernel_rfl) (by kernel_rfl) (by kernel_rfl) (by kernel_rfl) (fun _ _ _ h => h) (Or.inl ⟨by rfl, ?_⟩) hS ?_
      · intro W hW; go_simp
      simp only [Act.put, List.getElem_toArray, List.getElem_cons_succ, List.getElem_cons_zero, List.setIfInBounds_toArray, List.set_cons_succ, List.set_cons_zero]
      refine wpAnyC_ready (rs := [7]) (by kernel_rfl) (by simp) (AllReadyC.cons rfl (by decide) (fun K hK => ?_) AllReadyC.nil)
      go_simp
      refine Calls.mono (pair_any _ x y) ?_
      rintro e W1 ⟨rfl, hu1⟩
      have hU : Upd [] w2 W1 := (Upd.refl [] w2).drew.trans hu1
      have hS2 : UpP (fun x => Value.ownBlock (.slice p ps.length c) = some x) w2 W1 := hU.toN
      refine hK.out _ _ hS2 (fun _ => ?_)
      clear hK K hS hu1
      have hS := hS2
      clear hS2
      refine wpAnyC_ready (rs := [8]) (by kernel_rfl) (by simp) (AllReadyC.cons rfl (by decide) (fun K hK => ?_) AllReadyC.nil)
      go_simp
      obtain ⟨W2, hW2⟩ : ∃ W2, W2 = W1.alloc (.cells #[.int .i64 (min x y), .int .i64 (max x y)] 115) := ⟨_, rfl⟩
      have hU2 : Upd [] w2 W2 := by rw [hW2]; exact hU.alloc _
      have HSr : Hid (SrcP W2 (.slice (some ⟨W1.heap.size, 0, none⟩) 1 1) [(min x y, max x y)]) := by show SrcP _ _ _; rw [hW2]; exact srcP_one W1 _ _
      have hS2 : UpP (fun x => Value.ownBlock (.slice p ps.length c) = some x) w2 W2 := hU2.toN
      rw [← hW2]
      clear hW2
      refine hK.out _ _ hS2 (fun _ => ?_)
      clear hK K hS hU
      have hS := hS2
      clear hS2
      refine wpAnyC_ready (rs := [9]) (by kernel_rfl) (by simp) (AllReadyC.cons rfl (by decide) (fun K hK => ?_) AllReadyC.nil)
      rw [if_pos (by rfl)]
      refine oper_pushP _ _ rfl B _ _ ps _ rfl rfl (HB.out.2.1.upd hU2) HSr.out (by omega) (Nat.le_trans HB.out.2.2.1 hU2.size) ?_
      intro g2 c2 W3 hI2 hg2 hat
      have hS2 : UpP (fun x => Value.ownBlock (.slice p ps.length c) = some x) w2 W3 := (hU2.toN (P := fun x => Value.ownBlock (.slice p ps.length c) = some x)).trans (upP_grown hg2)
      have HP3 : Hid (PR W3 B (.slice (some ⟨g2, 0, none⟩) (ps.length + 1) c2) (ps ++ [(min x y, max x y)]) ∧ UpP (fun x => Value.ownBlock (.slice p ps.length c) = some x) w2 W3 ∧ (Value.ownBlock (.slice p ps.length c) = some g2 ∨ w2.heap.size ≤ g2)) := ⟨hI2, hS2, hat.imp (fun e => e.symm) (fun e => by cases e; exact hU2.size)⟩
      refine hK.out _ _ hS2 (fun _ => ?_)
      clear hK K hS hI2 hg2 hU2 hat
      have hS := hS2
      clear hS2
      refine wpAnyC_ready (rs := [10]) (by kernel_rfl) (by simp) (AllReadyC.cons rfl (by decide) (fun K hK => ?_) AllReadyC.nil)
      go_simp
      refine hK.out _ _ hS (fun _ => ?_)
      clear hK K
      refine wpAnyC_take (i := 11) (v := .pointer (some ⟨b, 0, none⟩)) rfl (by kernel_rfl) (by kernel_rfl) (by kernel_rfl) (by kernel_rfl) (fun _ _ _ h => h) (Or.inl ⟨by rfl, ?_⟩) hS ?_
      · intro W hW; go_simp
      simp only [Act.put, List.getElem_toArray, List.getElem_cons_succ, List.getElem_cons_zero, List.setIfInBounds_toArray, List.set_cons_succ, List.set_cons_zero]
      have cb3 : W3.cell? ⟨b, 0, none⟩ = some (.slice p ps.length c) := (HB.out.1.mono hS HB.out.2.2.2).cell 0
      have cf3 : W3.frozen? ⟨b, 0, none⟩ = false := (HB.out.1.mono hS HB.out.2.2.2).free 0
      refine wpAnyC_cut (fun _ => True) (by kernel_rfl) rfl (fun K hK => ?_)
      go_simp
      refine hK.out _ _ trivial (fun _ => ?_)
      clear hK K hS
      refine wpAnyH_done (by kernel_rfl) ?_ _
      go_wp2
      go_ret
      have hput := put_push HB.out.1 HB.out.2.2.2 HP3.out.2.1 HP3.out.1
      exact Or.inr ⟨hxy, HNo.out, rfl, _, hput.1, hput.2.1, ⟨hput.2.2.os.trans U2.out.os, hput.2.2.tape.trans U2.out.tape, hput.2.2.output.trans U2.out.output, Nat.le_trans U2.out.size hput.2.2.size, fun i hi hni => (hput.2.2.block i (Nat.lt_of_lt_of_le hi U2.out.size) hni).trans (U2.out.block i hi (by simp))⟩, HP3.out.2.2.imp (fun e => e.symm) (fun e => ⟨g2, rfl, Nat.le_trans U2.out.size e⟩)⟩
    · have hd : decide ((k : Int) < 0) = false := decide_eq_false (by omega)
      have hmem : ps.contains (min x y, max x y) = true := List.contains_iff_mem.2 (by rw [← hpk]; exact List.getElem_mem hk)
      clear hpk
      go_wp2_with fail
      go_ret
      exact Or.inl ⟨Or.inr hmem, rfl, U2.out⟩

end Go.Proofs.YtofcniodobjopaaGreat
