/- The reference's Unlink. -/
import Derived.Test.YtofcniodobjopaaGreatLkDc
namespace Go.Proofs.YtofcniodobjopaaGreat
open Go.RowKit Go.Maps

/-- An append of pairs, as an operation of a drawn region. -/
theorem oper_appP {o : Oper} {a : Act} {w : World} {K : Act → World → Prop} {Q : Exit → Act → World → Prop} (s x : Operand) (ho : o.op = .call { callee := .builtin .append, args := #[s, x], argTypes := #[38, 38] })
    (B g0 n0 c0 : Nat) (u : Value) (xs ys zs : List (Int × Int)) (n : Nat) (hsv : a.eval s = .slice (some ⟨g0, 0, none⟩) n0 c0) (hxu : a.eval x = u) (hown : PR w B (.slice (some ⟨g0, 0, none⟩) n0 c0) xs) (hn0 : n0 = xs.length) (hs : SrcP w u ys) (hz : xs ++ ys = zs) (hn : n = zs.length) (hlen : n ≤ 100000) (hB : B ≤ w.heap.size)
    (h : ∀ g c w', PR w' B (.slice (some ⟨g, 0, none⟩) n c) zs → w.grownBy w' (some g0) → K (a.put o.dst (.slice (some ⟨g, 0, none⟩) n c)) w') : Oper.wp Tryz.prog o a w K Q := by
  subst hz
  subst hn
  subst hn0
  obtain ⟨v', w', hr, h2, ⟨g, c, rfl⟩, h3⟩ := app_runP (ty := o.type) hown ⟨_, _, rfl⟩ hs (by rw [List.length_append] at hlen; exact hlen) hB
  unfold Oper.wp execOp
  simp only [ho, resolve, invoke, builtin, Sem.run_bind, Sem.run_pure, Result.andThen_ok, List.map_toArray, List.map_cons, List.map_nil, hsv, hxu, hr]
  exact h g c w' h2 h3
theorem PR.drew {w : World} {B : Nat} {v : Value} {xs : List (Int × Int)} (h : PR w B v xs) : PR w.drew B v xs := h.upd (Upd.refl [] w).drew
/-- The new row is put in. -/
theorem put_pairs {w w3 : World} {b g c n : Nat} {v u : Value} {zs : List (Int × Int)} {B : Nat} (hb : Cl w b #[v, u] 41) (hu : Upd [] w w3) (hr : PR w3 w.heap.size (.slice (some ⟨g, 0, none⟩) n c) zs) (hB : B ≤ w.heap.size) :
    Cl (w3.setCell ⟨b, 0, none⟩ (.slice (some ⟨g, 0, none⟩) n c)) b #[.slice (some ⟨g, 0, none⟩) n c, u] 41 ∧ PR (w3.setCell ⟨b, 0, none⟩ (.slice (some ⟨g, 0, none⟩) n c)) B (.slice (some ⟨g, 0, none⟩) n c) zs ∧ Upd [b] w (w3.setCell ⟨b, 0, none⟩ (.slice (some ⟨g, 0, none⟩) n c)) := by
  have h3 : Cl w3 b #[v, u] 41 := hb.upd hu (by simp)
  refine ⟨h3.set 0 _, (hr.updS (S := [b]) (((Upd.refl [b] w3)).setCell (Or.inr (by simp)) _) (fun g2 hg2 => ?_)).base hB, ?_⟩
  · have h4 := (hr.own hg2).1
    have h5 := hb.lt
    simp
    omega
  · have h6 : Upd [b] w w3 := ⟨hu.os, hu.tape, hu.output, hu.size, fun k hk _ => hu.block k hk (by simp)⟩
    exact h6.setCell (Or.inr (by simp)) _

set_option maxHeartbeats 8000000 in
set_option maxRecDepth 100000 in
theorem unlinkRef_any (w : World) (B b : Nat) (v u : Value) (ps : List (Int × Int)) (x y : Int) (hb : Cl w b #[v, u] 41) (hr : PR w B v ps) (hB : B ≤ w.heap.size) (hn : ps.length ≤ 1000) :
    Calls Tryz.prog 27 #[.pointer (some ⟨b, 0, none⟩), .int .i64 x, .int .i64 y] w fun e w' => (ps.contains (min x y, max x y) = false ∧ e = .returned (.bool false) ∧ Upd [] w w') ∨
      (∃ k, ∃ hk : k < ps.length, ps[k] = (min x y, max x y) ∧ e = .returned (.bool true) ∧ ∃ v', Cl w' b #[v', u] 41 ∧ PR w' w.heap.size v' (ps.take k ++ ps.drop (k + 1)) ∧ Upd [b] w w') := by
  have HR : Hid (Cl w b #[v, u] 41 ∧ PR w B v ps ∧ B ≤ w.heap.size) := ⟨hb, hr, hB⟩
  clear hb hr hB
  go_enter Tryz.func27, Tryz.ntmps27
  go_wp2_with fail
  refine Calls.mono (pair_any _ x y) ?_
  rintro e w1 ⟨rfl, hu1⟩
  have U1 : Hid (Upd [] w w1) := hu1
  clear hu1
  go_wp2_with fail
  refine Calls.mono (find_any w1 B b v u ps (min x y) (max x y) (HR.out.1.upd U1.out (by simp)) (HR.out.2.1.upd U1.out)) ?_
  rintro e w2 ⟨r, rfl, hres, hu2⟩
  have U2 : Hid (Upd [] w w2) := U1.out.trans hu2
  clear hu2 U1
  rcases hres with ⟨hno, rfl⟩ | ⟨k, hk, hpk, rfl⟩
  · go_wp2_with fail
    go_ret
    exact Or.inl ⟨hno, rfl, U2.out⟩
  · have HP : Hid (ps[k] = (min x y, max x y)) := hpk
    have HB : Hid (Cl w2 b #[v, u] 41 ∧ PR w2 B v ps ∧ B ≤ w2.heap.size) := ⟨HR.out.1.upd U2.out (by simp), HR.out.2.1.upd U2.out, Nat.le_trans HR.out.2.2 U2.out.size⟩
    clear hpk
    obtain ⟨g, c, hv, _⟩ := HB.out.2.1.cells hk
    subst hv
    have hkl : (k : Int) < (ps.length : Int) := by omega
    have hcap := HB.out.2.1.cap
    have hkc : k ≤ c := by omega
    have hkc2 : (k : Int) ≤ (c : Int) := by omega
    have hk2 : (k : Int) + 1 ≤ (ps.length : Int) := by omega
    have hkn : ¬ (k : Int) + 1 < 0 := by omega
    have hd : decide ((k : Int) < 0) = false := decide_eq_false (by omega)
    have cb2 : w2.cell? ⟨b, 0, none⟩ = some (.slice (some ⟨g, 0, none⟩) ps.length c) := by rw [HB.out.1.cell]; rfl
    by_cases hct : c = k + 1
    · subst hct
      have hlen : ps.length = k + 1 := by omega
      have HD : Hid (ps.drop (k + 1) = [] ∧ ps.length = k + 1) := ⟨List.drop_eq_nil_of_le (by omega), hlen⟩
      clear hlen
      have hk1c2 : (k : Int) + 1 ≤ ((k + 1 : Nat) : Int) := by omega
      have hkk : ¬ (k : Int) + 1 < (k : Int) := by omega
      go_upto_region 4 with fail
      refine wp_region_cut_drew (S := fun W => Upd [] w2 W) 19 (by kernel_rfl) (Upd.refl [] w2).drew (fun hS => ?_)
      refine wpAnyC_take (i := 0) (v := .pointer (some ⟨b, 0, none⟩)) rfl (by kernel_rfl) (by kernel_rfl) (by kernel_rfl) (by kernel_rfl) (fun _ _ _ h => h) (Or.inl ⟨by rfl, ?_⟩) hS ?_
      · intro W hW; go_simp
      refine wpAnyC_take (i := 2) (v := .pointer (some ⟨b, 0, none⟩)) rfl (by kernel_rfl) (by kernel_rfl) (by kernel_rfl) (by kernel_rfl) (fun _ _ _ h => h) (Or.inl ⟨by rfl, ?_⟩) hS ?_
      · intro W hW; go_simp
      refine wpAnyC_take (i := 3) (v := .pointer (some ⟨b, 0, none⟩)) rfl (by kernel_rfl) (by kernel_rfl) (by kernel_rfl) (by kernel_rfl) (fun _ _ _ h => h) (Or.inl ⟨by rfl, ?_⟩) hS ?_
      · intro W hW; go_simp
      simp only [Act.put, List.getElem_toArray, List.getElem_cons_succ, List.getElem_cons_zero, List.setIfInBounds_toArray, List.set_cons_succ, List.set_cons_zero]
      refine wpAnyC_take (i := 4) (v := .pointer (some ⟨b, 0, none⟩)) rfl (by kernel_rfl) (by kernel_rfl) (by kernel_rfl) (by kernel_rfl) (fun _ _ _ h => h) (Or.inl ⟨by rfl, ?_⟩) hS ?_
      · intro W hW; go_simp
      refine wpAnyC_take (i := 5) (v := .slice (some ⟨g, 0, none⟩) ps.length (k + 1)) rfl (by kernel_rfl) (by kernel_rfl) (by kernel_rfl) (by kernel_rfl) (fun _ _ _ h => h) (Or.inl ⟨by rfl, ?_⟩) hS ?_
      · intro W hW; have e1 : W.cell? ⟨b, 0, none⟩ = some (.slice (some ⟨g, 0, none⟩) ps.length (k + 1)) := (hW.cell (p := ⟨b, 0, none⟩) HB.out.1.lt (by simp)).trans cb2; go_simp
      refine wpAnyC_take (i := 6) (v := .int .i64 (k : Nat)) rfl (by kernel_rfl) (by kernel_rfl) (by kernel_rfl) (by kernel_rfl) (fun _ _ _ h => h) (Or.inl ⟨by rfl, ?_⟩) hS ?_
      · intro W hW; go_simp
      simp only [Act.put, List.getElem_toArray, List.getElem_cons_succ, List.getElem_cons_zero, List.setIfInBounds_toArray, List.set_cons_succ, List.set_cons_zero]
      refine wpAnyC_take (i := 7) (v := .slice (some ⟨g, 0, none⟩) k (k + 1)) rfl (by kernel_rfl) (by kernel_rfl) (by kernel_rfl) (by kernel_rfl) (fun _ _ _ h => h) (Or.inl ⟨by rfl, ?_⟩) hS ?_
      · intro W hW; go_simp
      refine wpAnyC_take (i := 9) (v := .pointer (some ⟨b, 0, none⟩)) rfl (by kernel_rfl) (by kernel_rfl) (by kernel_rfl) (by kernel_rfl) (fun _ _ _ h => h) (Or.inl ⟨by rfl, ?_⟩) hS ?_
      · intro W hW; go_simp
      refine wpAnyC_take (i := 10) (v := .pointer (some ⟨b, 0, none⟩)) rfl (by kernel_rfl) (by kernel_rfl) (by kernel_rfl) (by kernel_rfl) (fun _ _ _ h => h) (Or.inl ⟨by rfl, ?_⟩) hS ?_
      · intro W hW; go_simp
      simp only [Act.put, List.getElem_toArray, List.getElem_cons_succ, List.getElem_cons_zero, List.setIfInBounds_toArray, List.set_cons_succ, List.set_cons_zero]
      refine wpAnyC_take (i := 11) (v := .pointer (some ⟨b, 0, none⟩)) rfl (by kernel_rfl) (by kernel_rfl) (by kernel_rfl) (by kernel_rfl) (fun _ _ _ h => h) (Or.inl ⟨by rfl, ?_⟩) hS ?_
      · intro W hW; go_simp
      refine wpAnyC_take (i := 12) (v := .slice (some ⟨g, 0, none⟩) ps.length (k + 1)) rfl (by kernel_rfl) (by kernel_rfl) (by kernel_rfl) (by kernel_rfl) (fun _ _ _ h => h) (Or.inl ⟨by rfl, ?_⟩) hS ?_
      · intro W hW; have e1 : W.cell? ⟨b, 0, none⟩ = some (.slice (some ⟨g, 0, none⟩) ps.length (k + 1)) := (hW.cell (p := ⟨b, 0, none⟩) HB.out.1.lt (by simp)).trans cb2; go_simp
      refine wpAnyC_take (i := 13) (v := .int .i64 (k : Nat)) rfl (by kernel_rfl) (by kernel_rfl) (by kernel_rfl) (by kernel_rfl) (fun _ _ _ h => h) (Or.inl ⟨by rfl, ?_⟩) hS ?_
      · intro W hW; go_simp
      simp only [Act.put, List.getElem_toArray, List.getElem_cons_succ, List.getElem_cons_zero, List.setIfInBounds_toArray, List.set_cons_succ, List.set_cons_zero]
      refine wpAnyC_take (i := 14) (v := .int .i64 ((k : Int) + 1)) rfl (by kernel_rfl) (by kernel_rfl) (by kernel_rfl) (by kernel_rfl) (fun _ _ _ h => h) (Or.inl ⟨by rfl, ?_⟩) hS ?_
      · intro W hW; have e3 : IntKind.i64.wrap ((k : Int) + 1) = (k : Int) + 1 := IntWalk.i64_in _ ⟨by omega, by omega⟩; go_simp
      refine wpAnyC_take (i := 15) (v := .slice (some ⟨g, 0, none⟩) (ps.length - (k + 1)) 0) rfl (by kernel_rfl) (by kernel_rfl) (by kernel_rfl) (by kernel_rfl) (fun _ _ _ h => h) (Or.inl ⟨by rfl, ?_⟩) hS ?_
      · intro W hW; go_simp
      simp only [Act.put, List.getElem_toArray, List.getElem_cons_succ, List.getElem_cons_zero, List.setIfInBounds_toArray, List.set_cons_succ, List.set_cons_zero]
      refine wpAnyC_ready (rs := [1]) (by kernel_rfl) (by simp) (AllReadyC.cons rfl (by decide) (fun K hK => ?_) AllReadyC.nil)
      go_simp
      obtain ⟨W1, hW1⟩ : ∃ W1, W1 = (w2.alloc (.cells #[] 115)).drew := ⟨_, rfl⟩
      have hS2 : Upd [] w2 W1 := by rw [hW1]; exact ((Upd.refl [] w2).alloc _).drew
      have HP1 : Hid (PR W1 w2.heap.size (.slice (some ⟨w2.heap.size, 0, none⟩) 0 0) []) := by show PR _ _ _ _; rw [hW1]; exact (pr_lit0 w2).drew
      rw [← hW1]
      clear hW1
      refine hK.out _ _ hS2 (fun _ => ?_)
      clear hK K hS
      have hS : Upd [] w2 W1 := hS2
      clear hS2
      refine wpAnyC_ready (rs := [8]) (by kernel_rfl) (by simp) (AllReadyC.cons rfl (by decide) (fun K hK => ?_) AllReadyC.nil)
      rw [if_pos (by rfl)]
      refine oper_appP _ _ rfl w2.heap.size _ _ _ _ [] (ps.take k) (ps.take k) k rfl rfl HP1.out rfl (srcP_head (HB.out.2.1.upd hS) (by omega) _) rfl (by simp; omega) (by omega) hS.size ?_
      intro g1 c1 W2 hI1 hg1
      have hS2 : Upd [] w2 W2 := ((hS.toN (P := fun x => some w2.heap.size = some x)).trans (upP_grown hg1)).upd (fun x hx => by cases hx; exact Nat.le_refl _)
      have HP2 : Hid (PR W2 w2.heap.size (.slice (some ⟨g1, 0, none⟩) k c1) (ps.take k)) := hI1
      refine hK.out _ _ hS2 (fun _ => ?_)
      clear hK K hS hI1 hg1
      have hS : Upd [] w2 W2 := hS2
      clear hS2
      refine wpAnyC_ready (rs := [16]) (by kernel_rfl) (by simp) (AllReadyC.cons rfl (by decide) (fun K hK => ?_) AllReadyC.nil)
      rw [if_pos (by rfl)]
      refine oper_appP _ _ rfl w2.heap.size _ _ _ _ (ps.take k) (ps.drop (k + 1)) (ps.take k ++ ps.drop (k + 1)) (ps.length - 1) rfl rfl HP2.out (by simp; omega) (srcP_empty _ _ _ _ _ (by have := HD.out.2; omega) HD.out.1) rfl (by simp; omega) (by omega) hS.size ?_
      intro g2 c2 W3 hI2 hg2
      have hS2 : Upd [] w2 W3 := ((hS.toN (P := fun x => some g1 = some x)).trans (upP_grown hg2)).upd (fun x hx => by cases hx; exact (HP2.out.own rfl).1)
      have HP3 : Hid (PR W3 w2.heap.size (.slice (some ⟨g2, 0, none⟩) (ps.length - 1) c2) (ps.take k ++ ps.drop (k + 1))) := hI2
      refine hK.out _ _ hS2 (fun _ => ?_)
      clear hK K hS hI2 hg2
      have hS : Upd [] w2 W3 := hS2
      clear hS2
      refine wpAnyC_ready (rs := [17]) (by kernel_rfl) (by simp) (AllReadyC.cons rfl (by decide) (fun K hK => ?_) AllReadyC.nil)
      go_simp
      refine hK.out _ _ hS (fun _ => ?_)
      clear hK K
      refine wpAnyC_take (i := 18) (v := .pointer (some ⟨b, 0, none⟩)) rfl (by kernel_rfl) (by kernel_rfl) (by kernel_rfl) (by kernel_rfl) (fun _ _ _ h => h) (Or.inl ⟨by rfl, ?_⟩) hS ?_
      · intro W hW; go_simp
      simp only [Act.put, List.getElem_toArray, List.getElem_cons_succ, List.getElem_cons_zero, List.setIfInBounds_toArray, List.set_cons_succ, List.set_cons_zero]
      have cb3 : W3.cell? ⟨b, 0, none⟩ = some (.slice (some ⟨g, 0, none⟩) ps.length (k + 1)) := (hS.cell (p := ⟨b, 0, none⟩) HB.out.1.lt (by simp)).trans cb2
      have cf3 : W3.frozen? ⟨b, 0, none⟩ = false := (HB.out.1.upd hS (by simp)).free 0
      have H3 : Hid (Upd [] w2 W3) := hS
      refine wpAnyC_cut (fun _ => True) (by kernel_rfl) rfl (fun K hK => ?_)
      go_simp
      refine hK.out _ _ trivial (fun _ => ?_)
      clear hK K hS
      refine wpAnyH_done (by kernel_rfl) ?_ _
      go_wp2
      go_ret
      have hput := put_pairs HB.out.1 H3.out HP3.out U2.out.size
      exact Or.inr ⟨k, hk, HP.out, rfl, _, hput.1, hput.2.1, ⟨hput.2.2.os.trans U2.out.os, hput.2.2.tape.trans U2.out.tape, hput.2.2.output.trans U2.out.output, Nat.le_trans U2.out.size hput.2.2.size, fun i hi hni => (hput.2.2.block i (Nat.lt_of_lt_of_le hi U2.out.size) hni).trans (U2.out.block i hi (by simp))⟩⟩
    · have hk1c : k + 1 ≤ c := by omega
      have hk1c2 : (k : Int) + 1 ≤ (c : Int) := by omega
      go_upto_region 4 with fail
      refine wp_region_cut_drew (S := fun W => Upd [] w2 W) 19 (by kernel_rfl) (Upd.refl [] w2).drew (fun hS => ?_)
      refine wpAnyC_take (i := 0) (v := .pointer (some ⟨b, 0, none⟩)) rfl (by kernel_rfl) (by kernel_rfl) (by kernel_rfl) (by kernel_rfl) (fun _ _ _ h => h) (Or.inl ⟨by rfl, ?_⟩) hS ?_
      · intro W hW; go_simp
      refine wpAnyC_take (i := 2) (v := .pointer (some ⟨b, 0, none⟩)) rfl (by kernel_rfl) (by kernel_rfl) (by kernel_rfl) (by kernel_rfl) (fun _ _ _ h => h) (Or.inl ⟨by rfl, ?_⟩) hS ?_
      · intro W hW; go_simp
      refine wpAnyC_take (i := 3) (v := .pointer (some ⟨b, 0, none⟩)) rfl (by kernel_rfl) (by kernel_rfl) (by kernel_rfl) (by kernel_rfl) (fun _ _ _ h => h) (Or.inl ⟨by rfl, ?_⟩) hS ?_
      · intro W hW; go_simp
      simp only [Act.put, List.getElem_toArray, List.getElem_cons_succ, List.getElem_cons_zero, List.setIfInBounds_toArray, List.set_cons_succ, List.set_cons_zero]
      refine wpAnyC_take (i := 4) (v := .pointer (some ⟨b, 0, none⟩)) rfl (by kernel_rfl) (by kernel_rfl) (by kernel_rfl) (by kernel_rfl) (fun _ _ _ h => h) (Or.inl ⟨by rfl, ?_⟩) hS ?_
      · intro W hW; go_simp
      refine wpAnyC_take (i := 5) (v := .slice (some ⟨g, 0, none⟩) ps.length c) rfl (by kernel_rfl) (by kernel_rfl) (by kernel_rfl) (by kernel_rfl) (fun _ _ _ h => h) (Or.inl ⟨by rfl, ?_⟩) hS ?_
      · intro W hW; have e1 : W.cell? ⟨b, 0, none⟩ = some (.slice (some ⟨g, 0, none⟩) ps.length c) := (hW.cell (p := ⟨b, 0, none⟩) HB.out.1.lt (by simp)).trans cb2; go_simp
      refine wpAnyC_take (i := 6) (v := .int .i64 (k : Nat)) rfl (by kernel_rfl) (by kernel_rfl) (by kernel_rfl) (by kernel_rfl) (fun _ _ _ h => h) (Or.inl ⟨by rfl, ?_⟩) hS ?_
      · intro W hW; go_simp
      simp only [Act.put, List.getElem_toArray, List.getElem_cons_succ, List.getElem_cons_zero, List.setIfInBounds_toArray, List.set_cons_succ, List.set_cons_zero]
      refine wpAnyC_take (i := 7) (v := .slice (some ⟨g, 0, none⟩) k c) rfl (by kernel_rfl) (by kernel_rfl) (by kernel_rfl) (by kernel_rfl) (fun _ _ _ h => h) (Or.inl ⟨by rfl, ?_⟩) hS ?_
      · intro W hW; go_simp
      refine wpAnyC_take (i := 9) (v := .pointer (some ⟨b, 0, none⟩)) rfl (by kernel_rfl) (by kernel_rfl) (by kernel_rfl) (by kernel_rfl) (fun _ _ _ h => h) (Or.inl ⟨by rfl, ?_⟩) hS ?_
      · intro W hW; go_simp
      refine wpAnyC_take (i := 10) (v := .pointer (some ⟨b, 0, none⟩)) rfl (by kernel_rfl) (by kernel_rfl) (by kernel_rfl) (by kernel_rfl) (fun _ _ _ h => h) (Or.inl ⟨by rfl, ?_⟩) hS ?_
      · intro W hW; go_simp
      simp only [Act.put, List.getElem_toArray, List.getElem_cons_succ, List.getElem_cons_zero, List.setIfInBounds_toArray, List.set_cons_succ, List.set_cons_zero]
      refine wpAnyC_take (i := 11) (v := .pointer (some ⟨b, 0, none⟩)) rfl (by kernel_rfl) (by kernel_rfl) (by kernel_rfl) (by kernel_rfl) (fun _ _ _ h => h) (Or.inl ⟨by rfl, ?_⟩) hS ?_
      · intro W hW; go_simp
      refine wpAnyC_take (i := 12) (v := .slice (some ⟨g, 0, none⟩) ps.length c) rfl (by kernel_rfl) (by kernel_rfl) (by kernel_rfl) (by kernel_rfl) (fun _ _ _ h => h) (Or.inl ⟨by rfl, ?_⟩) hS ?_
      · intro W hW; have e1 : W.cell? ⟨b, 0, none⟩ = some (.slice (some ⟨g, 0, none⟩) ps.length c) := (hW.cell (p := ⟨b, 0, none⟩) HB.out.1.lt (by simp)).trans cb2; go_simp
      refine wpAnyC_take (i := 13) (v := .int .i64 (k : Nat)) rfl (by kernel_rfl) (by kernel_rfl) (by kernel_rfl) (by kernel_rfl) (fun _ _ _ h => h) (Or.inl ⟨by rfl, ?_⟩) hS ?_
      · intro W hW; go_simp
      simp only [Act.put, List.getElem_toArray, List.getElem_cons_succ, List.getElem_cons_zero, List.setIfInBounds_toArray, List.set_cons_succ, List.set_cons_zero]
      refine wpAnyC_take (i := 14) (v := .int .i64 ((k : Int) + 1)) rfl (by kernel_rfl) (by kernel_rfl) (by kernel_rfl) (by kernel_rfl) (fun _ _ _ h => h) (Or.inl ⟨by rfl, ?_⟩) hS ?_
      · intro W hW; have e3 : IntKind.i64.wrap ((k : Int) + 1) = (k : Int) + 1 := IntWalk.i64_in _ ⟨by omega, by omega⟩; go_simp
      refine wpAnyC_take (i := 15) (v := .slice (some ⟨g, (k + 1) * 2, none⟩) (ps.length - (k + 1)) (c - (k + 1))) rfl (by kernel_rfl) (by kernel_rfl) (by kernel_rfl) (by kernel_rfl) (fun _ _ _ h => h) (Or.inl ⟨by rfl, ?_⟩) hS ?_
      · intro W hW; go_simp
      simp only [Act.put, List.getElem_toArray, List.getElem_cons_succ, List.getElem_cons_zero, List.setIfInBounds_toArray, List.set_cons_succ, List.set_cons_zero]
      refine wpAnyC_ready (rs := [1]) (by kernel_rfl) (by simp) (AllReadyC.cons rfl (by decide) (fun K hK => ?_) AllReadyC.nil)
      go_simp
      obtain ⟨W1, hW1⟩ : ∃ W1, W1 = (w2.alloc (.cells #[] 115)).drew := ⟨_, rfl⟩
      have hS2 : Upd [] w2 W1 := by rw [hW1]; exact ((Upd.refl [] w2).alloc _).drew
      have HP1 : Hid (PR W1 w2.heap.size (.slice (some ⟨w2.heap.size, 0, none⟩) 0 0) []) := by show PR _ _ _ _; rw [hW1]; exact (pr_lit0 w2).drew
      rw [← hW1]
      clear hW1
      refine hK.out _ _ hS2 (fun _ => ?_)
      clear hK K hS
      have hS : Upd [] w2 W1 := hS2
      clear hS2
      refine wpAnyC_ready (rs := [8]) (by kernel_rfl) (by simp) (AllReadyC.cons rfl (by decide) (fun K hK => ?_) AllReadyC.nil)
      rw [if_pos (by rfl)]
      refine oper_appP _ _ rfl w2.heap.size _ _ _ _ [] (ps.take k) (ps.take k) k rfl rfl HP1.out rfl (srcP_head (HB.out.2.1.upd hS) (by omega) _) rfl (by simp; omega) (by omega) hS.size ?_
      intro g1 c1 W2 hI1 hg1
      have hS2 : Upd [] w2 W2 := ((hS.toN (P := fun x => some w2.heap.size = some x)).trans (upP_grown hg1)).upd (fun x hx => by cases hx; exact Nat.le_refl _)
      have HP2 : Hid (PR W2 w2.heap.size (.slice (some ⟨g1, 0, none⟩) k c1) (ps.take k)) := hI1
      refine hK.out _ _ hS2 (fun _ => ?_)
      clear hK K hS hI1 hg1
      have hS : Upd [] w2 W2 := hS2
      clear hS2
      refine wpAnyC_ready (rs := [16]) (by kernel_rfl) (by simp) (AllReadyC.cons rfl (by decide) (fun K hK => ?_) AllReadyC.nil)
      rw [if_pos (by rfl)]
      refine oper_appP _ _ rfl w2.heap.size _ _ _ _ (ps.take k) (ps.drop (k + 1)) (ps.take k ++ ps.drop (k + 1)) (ps.length - 1) rfl rfl HP2.out (by simp; omega) (srcP_tail (HB.out.2.1.upd hS) (by omega) _) rfl (by simp; omega) (by omega) hS.size ?_
      intro g2 c2 W3 hI2 hg2
      have hS2 : Upd [] w2 W3 := ((hS.toN (P := fun x => some g1 = some x)).trans (upP_grown hg2)).upd (fun x hx => by cases hx; exact (HP2.out.own rfl).1)
      have HP3 : Hid (PR W3 w2.heap.size (.slice (some ⟨g2, 0, none⟩) (ps.length - 1) c2) (ps.take k ++ ps.drop (k + 1))) := hI2
      refine hK.out _ _ hS2 (fun _ => ?_)
      clear hK K hS hI2 hg2
      have hS : Upd [] w2 W3 := hS2
      clear hS2
      refine wpAnyC_ready (rs := [17]) (by kernel_rfl) (by simp) (AllReadyC.cons rfl (by decide) (fun K hK => ?_) AllReadyC.nil)
      go_simp
      refine hK.out _ _ hS (fun _ => ?_)
      clear hK K
      refine wpAnyC_take (i := 18) (v := .pointer (some ⟨b, 0, none⟩)) rfl (by kernel_rfl) (by kernel_rfl) (by kernel_rfl) (by kernel_rfl) (fun _ _ _ h => h) (Or.inl ⟨by rfl, ?_⟩) hS ?_
      · intro W hW; go_simp
      simp only [Act.put, List.getElem_toArray, List.getElem_cons_succ, List.getElem_cons_zero, List.setIfInBounds_toArray, List.set_cons_succ, List.set_cons_zero]
      have cb3 : W3.cell? ⟨b, 0, none⟩ = some (.slice (some ⟨g, 0, none⟩) ps.length c) := (hS.cell (p := ⟨b, 0, none⟩) HB.out.1.lt (by simp)).trans cb2
      have cf3 : W3.frozen? ⟨b, 0, none⟩ = false := (HB.out.1.upd hS (by simp)).free 0
      have H3 : Hid (Upd [] w2 W3) := hS
      refine wpAnyC_cut (fun _ => True) (by kernel_rfl) rfl (fun K hK => ?_)
      go_simp
      refine hK.out _ _ trivial (fun _ => ?_)
      clear hK K hS
      refine wpAnyH_done (by kernel_rfl) ?_ _
      go_wp2
      go_ret
      have hput := put_pairs HB.out.1 H3.out HP3.out U2.out.size
      exact Or.inr ⟨k, hk, HP.out, rfl, _, hput.1, hput.2.1, ⟨hput.2.2.os.trans U2.out.os, hput.2.2.tape.trans U2.out.tape, hput.2.2.output.trans U2.out.output, Nat.le_trans U2.out.size hput.2.2.size, fun i hi hni => (hput.2.2.block i (Nat.lt_of_lt_of_le hi U2.out.size) hni).trans (U2.out.block i hi (by simp))⟩⟩

end Go.Proofs.YtofcniodobjopaaGreat
