/- The document's Take. -/
import Derived.Test.YtpojkmpimnnjiaaGreatNkDc
import Derived.Deep.Cut
namespace Go.Proofs.YtpojkmpimnnjiaaGreat
open Go.RowKit Go.Maps

/-- An append of pairs, as an operation of a drawn region. -/
theorem oper_appP {o : Oper} {a : Act} {w : World} {K : Act → World → Prop} {Q : Exit → Act → World → Prop} (s x : Operand) (ho : o.op = .call { callee := .builtin .append, args := #[s, x], argTypes := #[28, 28] })
    (B g0 n0 c0 : Nat) (u : Value) (xs ys zs : List Nd) (n : Nat) (hsv : a.eval s = .slice (some ⟨g0, 0, none⟩) n0 c0) (hxu : a.eval x = u) (hown : MR w B (.slice (some ⟨g0, 0, none⟩) n0 c0) xs) (hn0 : n0 = xs.length) (hs : SrcP w u ys) (hz : xs ++ ys = zs) (hn : n = zs.length) (hlen : n ≤ 100000) (hB : B ≤ w.heap.size)
    (h : ∀ g c w', MR w' B (.slice (some ⟨g, 0, none⟩) n c) zs → w.grownBy w' (some g0) → K (a.put o.dst (.slice (some ⟨g, 0, none⟩) n c)) w') : Oper.wp Tryz.prog o a w K Q := by
  subst hz
  subst hn
  subst hn0
  obtain ⟨v', w', hr, h2, ⟨g, c, rfl⟩, h3⟩ := app_runP (ty := o.type) hown ⟨_, _, rfl⟩ hs (by rw [List.length_append] at hlen; exact hlen) hB
  unfold Oper.wp execOp
  simp only [ho, resolve, invoke, builtin, Sem.run_bind, Sem.run_pure, Result.andThen_ok, List.map_toArray, List.map_cons, List.map_nil, hsv, hxu, hr]
  exact h g c w' h2 h3
theorem MR.drew {w : World} {B : Nat} {v : Value} {xs : List Nd} (h : MR w B v xs) : MR w.drew B v xs := h.upd (Upd.refl [] w).drew
/-- The new row is put in. -/
theorem put_pairs {w w3 : World} {b g c n : Nat} {v : Value} {zs : List Nd} {B : Nat} (hb : Cl w b #[v] 30) (hu : Upd [] w w3) (hr : MR w3 w.heap.size (.slice (some ⟨g, 0, none⟩) n c) zs) (hB : B ≤ w.heap.size) :
    Cl (w3.setCell ⟨b, 0, none⟩ (.slice (some ⟨g, 0, none⟩) n c)) b #[.slice (some ⟨g, 0, none⟩) n c] 30 ∧ MR (w3.setCell ⟨b, 0, none⟩ (.slice (some ⟨g, 0, none⟩) n c)) B (.slice (some ⟨g, 0, none⟩) n c) zs ∧ Upd [b] w (w3.setCell ⟨b, 0, none⟩ (.slice (some ⟨g, 0, none⟩) n c)) := by
  have h3 : Cl w3 b #[v] 30 := hb.upd hu (by simp)
  refine ⟨h3.set 0 _, (hr.updS (S := [b]) (((Upd.refl [b] w3)).setCell (Or.inr (by simp)) _) (fun g2 hg2 => ?_)).base hB, ?_⟩
  · have h4 := (hr.own hg2).1
    have h5 := hb.lt
    simp
    omega
  · have h6 : Upd [b] w w3 := ⟨hu.os, hu.tape, hu.output, hu.size, fun k hk _ => hu.block k hk (by simp)⟩
    exact h6.setCell (Or.inr (by simp)) _

theorem upP_grown {w w' : World} {o : Option Nat} (h : w.grownBy w' o) : UpP (fun x => o = some x) w w' := ⟨h.os, h.tape, h.output, h.size, fun k hk hn => h.block k hk (fun e => hn e.symm)⟩
/-- What Take does and tells. -/
def TakeP (w : World) (b : Nat) (ps : List Nd) (x : BS) (e : Ending) (w' : World) : Prop :=
  ((∀ p ∈ ps, p.1 ≠ x) ∧ e = .returned (.bool false) ∧ w' = w) ∨
    (∃ k, ∃ hk : k < ps.length, ps[k].1 = x ∧ e = .returned (.bool true) ∧ ∃ v', Cl w' b #[v'] 30 ∧ MR w' w.heap.size v' (ps.take k ++ ps.drop (k + 1)) ∧ Upd [b] w w')

set_option maxHeartbeats 8000000 in
set_option maxRecDepth 100000 in
theorem takeRef_any (w : World) (B b : Nat) (v : Value) (ps : List Nd) (x : BS) (hb : Cl w b #[v] 30) (hr : MR w B v ps) (hn : ps.length ≤ 1000) :
    Calls Tryz.prog 19 #[.pointer (some ⟨b, 0, none⟩), encStr x] w fun e w' => TakeP w b ps x e w' := by
  obtain ⟨p, c, hv⟩ := hr.form
  subst hv
  have HB : Hid (Cl w b #[.slice p ps.length c] 30 ∧ MR w B (.slice p ps.length c) ps) := ⟨hb, hr⟩
  have cb2 : w.cell? ⟨b, 0, none⟩ = some (.slice p ps.length c) := by rw [hb.cell]; rfl
  clear hb hr
  go_enter Tryz.func19, Tryz.ntmps19
  go_wp2_with fail
  go_loopw [5] (fun s5 wr => ∃ k : Nat, k ≤ ps.length ∧ s5 = .int .i64 (k : Nat) ∧ (∀ p ∈ ps.take k, p.1 ≠ x) ∧ wr = w) (fun s5 _ => ps.length - (intOf s5).toNat)
  case atStart => exact ⟨0, Nat.zero_le _, rfl, by simp, rfl⟩
  case round =>
    obtain ⟨k, hk', rfl, hno, hw⟩ := hrel
    rw [hw]
    have HNo : Hid (∀ p ∈ ps.take k, p.1 ≠ x) := hno
    clear hno hw
    by_cases hk : k < ps.length
    · have hkl : (k : Int) < (ps.length : Int) := by omega
      obtain ⟨g, c', hv, d0, d1⟩ := HB.out.2.cells hk
      simp only [Value.slice.injEq] at hv
      obtain ⟨rfl, _, rfl⟩ := hv
      obtain ⟨y, hy⟩ : ∃ y, ps[k].1 = y := ⟨_, rfl⟩
      have HY : Hid (ps[k].1 = y) := hy
      rw [hy] at d0
      clear hy d1
      by_cases hyx : y = x
      · have HP : Hid (ps[k].1 = x) := HY.out.trans hyx
        have heq : (y == x) = true := by simpa using hyx
        have hcap := HB.out.2.cap
        have hkc : k ≤ c := by omega
        have hkc2 : (k : Int) ≤ (c : Int) := by omega
        have hk2 : (k : Int) + 1 ≤ (ps.length : Int) := by omega
        have hkn : ¬ (k : Int) + 1 < 0 := by omega
        have hd : decide ((k : Int) < 0) = false := decide_eq_false (by omega)
        clear hyx
        by_cases hct : c = k + 1
        · subst hct
          have hlen : ps.length = k + 1 := by omega
          have HD : Hid (ps.drop (k + 1) = [] ∧ ps.length = k + 1) := ⟨List.drop_eq_nil_of_le (by omega), hlen⟩
          clear hlen
          have hk1c2 : (k : Int) + 1 ≤ ((k + 1 : Nat) : Int) := by omega
          have hkk : ¬ (k : Int) + 1 < (k : Int) := by omega
          go_upto_region 5 with fail
          refine wp_region_cut_drew (S := fun W => Upd [] w W) 19 (by kernel_rfl) (Upd.refl [] w).drew (fun hS => ?_)
          refine wpAnyC_take (i := 0) (v := .pointer (some ⟨b, 0, none⟩)) rfl (by kernel_rfl) (by kernel_rfl) (by kernel_rfl) (by kernel_rfl) (fun _ _ _ h => h) (Or.inl ⟨by rfl, ?_⟩) hS ?_
          · intro W hW; go_simp
          refine wpAnyC_take (i := 2) (v := .pointer (some ⟨b, 0, none⟩)) rfl (by kernel_rfl) (by kernel_rfl) (by kernel_rfl) (by kernel_rfl) (fun _ _ _ h => h) (Or.inl ⟨by rfl, ?_⟩) hS ?_
          · intro W hW; go_simp
          refine wpAnyC_take (i := 3) (v := .pointer (some ⟨b, 0, none⟩)) rfl (by kernel_rfl) (by kernel_rfl) (by kernel_rfl) (by kernel_rfl) (fun _ _ _ h => h) (Or.inl ⟨by rfl, ?_⟩) hS ?_
          · intro W hW; go_simp
          simp only [Act.put, List.getElem_toArray, List.getElem_cons_succ, List.getElem_cons_zero, List.setIfInBounds_toArray, List.set_cons_succ, List.set_cons_zero]
          refine wpAnyC_take (i := 4) (v := .pointer (some ⟨b, 0, none⟩)) rfl (by kernel_rfl) (by kernel_rfl) (by kernel_rfl) (by kernel_rfl) (fun _ _ _ h => h) (Or.inl ⟨by rfl, ?_⟩) hS ?_
          · intro W hW; go_simp
          refine wpAnyC_take (i := 5) (v := .slice (some ⟨g, 0, none⟩) ps.length (k + 1)) rfl (by kernel_rfl) (by kernel_rfl) (by kernel_rfl) (by kernel_rfl) (fun _ _ _ h => h) (Or.inl ⟨by rfl, ?_⟩) hS ?_
          · intro W hW; have e1 : W.cell? ⟨b, 0, none⟩ = some (.slice (some ⟨g, 0, none⟩) ps.length (k + 1)) := (hW.cell (p := ⟨b, 0, none⟩) HB.out.1.lt (by simp)).trans cb2; go_simp
          refine wpAnyC_take (i := 6) (v := .int .i64 (k : Nat)) rfl (by kernel_rfl) (by kernel_rfl) (by kernel_rfl) (by kernel_rfl) (fun _ _ _ h => h) (Or.inl ⟨by rfl, ?_⟩) hS ?_
          · intro W hW; go_simp
          simp only [Act.put, List.getElem_toArray, List.getElem_cons_succ, List.getElem_cons_zero, List.setIfInBounds_toArray, List.set_cons_succ, List.set_cons_zero]
          refine wpAnyC_take (i := 7) (v := .slice (some ⟨g, 0, none⟩) k (k + 1)) rfl (by kernel_rfl) (by kernel_rfl) (by kernel_rfl) (by kernel_rfl) (fun _ _ _ h => h) (Or.inl ⟨by rfl, ?_⟩) hS ?_
          · intro W hW; go_simp
          refine wpAnyC_take (i := 9) (v := .pointer (some ⟨b, 0, none⟩)) rfl (by kernel_rfl) (by kernel_rfl) (by kernel_rfl) (by kernel_rfl) (fun _ _ _ h => h) (Or.inl ⟨by rfl, ?_⟩) hS ?_
          · intro W hW; go_simp
          refine wpAnyC_take (i := 10) (v := .pointer (some ⟨b, 0, none⟩)) rfl (by kernel_rfl) (by kernel_rfl) (by kernel_rfl) (by kernel_rfl) (fun _ _ _ h => h) (Or.inl ⟨by rfl, ?_⟩) hS ?_
          · intro W hW; go_simp
          simp only [Act.put, List.getElem_toArray, List.getElem_cons_succ, List.getElem_cons_zero, List.setIfInBounds_toArray, List.set_cons_succ, List.set_cons_zero]
          refine wpAnyC_take (i := 11) (v := .pointer (some ⟨b, 0, none⟩)) rfl (by kernel_rfl) (by kernel_rfl) (by kernel_rfl) (by kernel_rfl) (fun _ _ _ h => h) (Or.inl ⟨by rfl, ?_⟩) hS ?_
          · intro W hW; go_simp
          refine wpAnyC_take (i := 12) (v := .slice (some ⟨g, 0, none⟩) ps.length (k + 1)) rfl (by kernel_rfl) (by kernel_rfl) (by kernel_rfl) (by kernel_rfl) (fun _ _ _ h => h) (Or.inl ⟨by rfl, ?_⟩) hS ?_
          · intro W hW; have e1 : W.cell? ⟨b, 0, none⟩ = some (.slice (some ⟨g, 0, none⟩) ps.length (k + 1)) := (hW.cell (p := ⟨b, 0, none⟩) HB.out.1.lt (by simp)).trans cb2; go_simp
          refine wpAnyC_take (i := 13) (v := .int .i64 (k : Nat)) rfl (by kernel_rfl) (by kernel_rfl) (by kernel_rfl) (by kernel_rfl) (fun _ _ _ h => h) (Or.inl ⟨by rfl, ?_⟩) hS ?_
          · intro W hW; go_simp
          simp only [Act.put, List.getElem_toArray, List.getElem_cons_succ, List.getElem_cons_zero, List.setIfInBounds_toArray, List.set_cons_succ, List.set_cons_zero]
          refine wpAnyC_take (i := 14) (v := .int .i64 ((k : Int) + 1)) rfl (by kernel_rfl) (by kernel_rfl) (by kernel_rfl) (by kernel_rfl) (fun _ _ _ h => h) (Or.inl ⟨by rfl, ?_⟩) hS ?_
          · intro W hW; have e3 : IntKind.i64.wrap ((k : Int) + 1) = (k : Int) + 1 := IntWalk.i64_in _ ⟨by omega, by omega⟩; go_simp
          refine wpAnyC_take (i := 15) (v := .slice (some ⟨g, 0, none⟩) (ps.length - (k + 1)) 0) rfl (by kernel_rfl) (by kernel_rfl) (by kernel_rfl) (by kernel_rfl) (fun _ _ _ h => h) (Or.inl ⟨by rfl, ?_⟩) hS ?_
          · intro W hW; go_simp
          simp only [Act.put, List.getElem_toArray, List.getElem_cons_succ, List.getElem_cons_zero, List.setIfInBounds_toArray, List.set_cons_succ, List.set_cons_zero]
          refine wpAnyC_ready (rs := [1]) (by kernel_rfl) (by simp) (AllReadyC.cons rfl (by decide) (fun K hK => ?_) AllReadyC.nil)
          go_simp
          obtain ⟨W1, hW1⟩ : ∃ W1, W1 = (w.alloc (.cells #[] 42)).drew := ⟨_, rfl⟩
          have hS2 : Upd [] w W1 := by rw [hW1]; exact ((Upd.refl [] w).alloc _).drew
          have HP1 : Hid (MR W1 w.heap.size (.slice (some ⟨w.heap.size, 0, none⟩) 0 0) []) := by show MR _ _ _ _; rw [hW1]; exact (mr_lit0 w).drew
          rw [← hW1]
          clear hW1
          refine hK.out _ _ hS2 (fun _ => ?_)
          clear hK K hS
          have hS : Upd [] w W1 := hS2
          clear hS2
          refine wpAnyC_ready (rs := [8]) (by kernel_rfl) (by simp) (AllReadyC.cons rfl (by decide) (fun K hK => ?_) AllReadyC.nil)
          rw [if_pos (by rfl)]
          refine oper_appP _ _ rfl w.heap.size _ _ _ _ [] (ps.take k) (ps.take k) k rfl rfl HP1.out rfl (srcP_head (HB.out.2.upd hS) (by omega) _) rfl (by simp; omega) (by omega) hS.size ?_
          intro g1 c1 W2 hI1 hg1
          have hS2 : Upd [] w W2 := ((hS.toN (P := fun x => some w.heap.size = some x)).trans (upP_grown hg1)).upd (fun x hx => by cases hx; exact Nat.le_refl _)
          have HP2 : Hid (MR W2 w.heap.size (.slice (some ⟨g1, 0, none⟩) k c1) (ps.take k)) := hI1
          refine hK.out _ _ hS2 (fun _ => ?_)
          clear hK K hS hI1 hg1
          have hS : Upd [] w W2 := hS2
          clear hS2
          refine wpAnyC_ready (rs := [16]) (by kernel_rfl) (by simp) (AllReadyC.cons rfl (by decide) (fun K hK => ?_) AllReadyC.nil)
          rw [if_pos (by rfl)]
          refine oper_appP _ _ rfl w.heap.size _ _ _ _ (ps.take k) (ps.drop (k + 1)) (ps.take k ++ ps.drop (k + 1)) (ps.length - 1) rfl rfl HP2.out (by simp; omega) (srcP_empty _ _ _ _ _ (by have := HD.out.2; omega) HD.out.1) rfl (by simp; omega) (by omega) hS.size ?_
          intro g2 c2 W3 hI2 hg2
          have hS2 : Upd [] w W3 := ((hS.toN (P := fun x => some g1 = some x)).trans (upP_grown hg2)).upd (fun x hx => by cases hx; exact (HP2.out.own rfl).1)
          have HP3 : Hid (MR W3 w.heap.size (.slice (some ⟨g2, 0, none⟩) (ps.length - 1) c2) (ps.take k ++ ps.drop (k + 1))) := hI2
          refine hK.out _ _ hS2 (fun _ => ?_)
          clear hK K hS hI2 hg2
          have hS : Upd [] w W3 := hS2
          clear hS2
          refine wpAnyC_ready (rs := [17]) (by kernel_rfl) (by simp) (AllReadyC.cons rfl (by decide) (fun K hK => ?_) AllReadyC.nil)
          go_simp
          refine hK.out _ _ hS (fun _ => ?_)
          clear hK K
          refine wpAnyC_take (i := 18) (v := .pointer (some ⟨b, 0, none⟩)) rfl (by kernel_rfl) (by kernel_rfl) (by kernel_rfl) (by kernel_rfl) (fun _ _ _ h => h) (Or.inl ⟨by rfl, ?_⟩) hS ?_
          · intro W hW; go_simp
          simp only [Act.put, List.getElem_toArray, List.getElem_cons_succ, List.getElem_cons_zero, List.setIfInBounds_toArray, List.set_cons_succ, List.set_cons_zero]
          have cb3 : W3.cell? ⟨b, 0, none⟩ = some (.slice (some ⟨g, 0, none⟩) ps.length (k + 1)) := (hS.cell (p := ⟨b, 0, none⟩) HB.out.1.lt (by simp)).trans cb2
          have cf3 : W3.frozen? ⟨b, 0, none⟩ = false := (HB.out.1.upd hS (by simp)).free 0
          have H3 : Hid (Upd [] w W3) := hS
          refine wpAnyC_cut (fun _ => True) (by kernel_rfl) rfl (fun K hK => ?_)
          go_simp
          refine hK.out _ _ trivial (fun _ => ?_)
          clear hK K hS
          refine wpAnyH_done (by kernel_rfl) ?_ _
          go_wp2
          go_ret
          have hput := put_pairs HB.out.1 H3.out HP3.out (Nat.le_refl _)
          exact Or.inr ⟨k, hk, HP.out, rfl, _, hput.1, hput.2.1, hput.2.2⟩
        · have hk1c : k + 1 ≤ c := by omega
          have hk1c2 : (k : Int) + 1 ≤ (c : Int) := by omega
          go_upto_region 5 with fail
          refine wp_region_cut_drew (S := fun W => Upd [] w W) 19 (by kernel_rfl) (Upd.refl [] w).drew (fun hS => ?_)
          refine wpAnyC_take (i := 0) (v := .pointer (some ⟨b, 0, none⟩)) rfl (by kernel_rfl) (by kernel_rfl) (by kernel_rfl) (by kernel_rfl) (fun _ _ _ h => h) (Or.inl ⟨by rfl, ?_⟩) hS ?_
          · intro W hW; go_simp
          refine wpAnyC_take (i := 2) (v := .pointer (some ⟨b, 0, none⟩)) rfl (by kernel_rfl) (by kernel_rfl) (by kernel_rfl) (by kernel_rfl) (fun _ _ _ h => h) (Or.inl ⟨by rfl, ?_⟩) hS ?_
          · intro W hW; go_simp
          refine wpAnyC_take (i := 3) (v := .pointer (some ⟨b, 0, none⟩)) rfl (by kernel_rfl) (by kernel_rfl) (by kernel_rfl) (by kernel_rfl) (fun _ _ _ h => h) (Or.inl ⟨by rfl, ?_⟩) hS ?_
          · intro W hW; go_simp
          simp only [Act.put, List.getElem_toArray, List.getElem_cons_succ, List.getElem_cons_zero, List.setIfInBounds_toArray, List.set_cons_succ, List.set_cons_zero]
          refine wpAnyC_take (i := 4) (v := .pointer (some ⟨b, 0, none⟩)) rfl (by kernel_rfl) (by kernel_rfl) (by kernel_rfl) (by kernel_rfl) (fun _ _ _ h => h) (Or.inl ⟨by rfl, ?_⟩) hS ?_
          · intro W hW; go_simp
          refine wpAnyC_take (i := 5) (v := .slice (some ⟨g, 0, none⟩) ps.length c) rfl (by kernel_rfl) (by kernel_rfl) (by kernel_rfl) (by kernel_rfl) (fun _ _ _ h => h) (Or.inl ⟨by rfl, ?_⟩) hS ?_
          · intro W hW; have e1 : W.cell? ⟨b, 0, none⟩ = some (.slice (some ⟨g, 0, none⟩) ps.length c) := (hW.cell (p := ⟨b, 0, none⟩) HB.out.1.lt (by simp)).trans cb2; go_simp
          refine wpAnyC_take (i := 6) (v := .int .i64 (k : Nat)) rfl (by kernel_rfl) (by kernel_rfl) (by kernel_rfl) (by kernel_rfl) (fun _ _ _ h => h) (Or.inl ⟨by rfl, ?_⟩) hS ?_
          · intro W hW; go_simp
          simp only [Act.put, List.getElem_toArray, List.getElem_cons_succ, List.getElem_cons_zero, List.setIfInBounds_toArray, List.set_cons_succ, List.set_cons_zero]
          refine wpAnyC_take (i := 7) (v := .slice (some ⟨g, 0, none⟩) k c) rfl (by kernel_rfl) (by kernel_rfl) (by kernel_rfl) (by kernel_rfl) (fun _ _ _ h => h) (Or.inl ⟨by rfl, ?_⟩) hS ?_
          · intro W hW; go_simp
          refine wpAnyC_take (i := 9) (v := .pointer (some ⟨b, 0, none⟩)) rfl (by kernel_rfl) (by kernel_rfl) (by kernel_rfl) (by kernel_rfl) (fun _ _ _ h => h) (Or.inl ⟨by rfl, ?_⟩) hS ?_
          · intro W hW; go_simp
          refine wpAnyC_take (i := 10) (v := .pointer (some ⟨b, 0, none⟩)) rfl (by kernel_rfl) (by kernel_rfl) (by kernel_rfl) (by kernel_rfl) (fun _ _ _ h => h) (Or.inl ⟨by rfl, ?_⟩) hS ?_
          · intro W hW; go_simp
          simp only [Act.put, List.getElem_toArray, List.getElem_cons_succ, List.getElem_cons_zero, List.setIfInBounds_toArray, List.set_cons_succ, List.set_cons_zero]
          refine wpAnyC_take (i := 11) (v := .pointer (some ⟨b, 0, none⟩)) rfl (by kernel_rfl) (by kernel_rfl) (by kernel_rfl) (by kernel_rfl) (fun _ _ _ h => h) (Or.inl ⟨by rfl, ?_⟩) hS ?_
          · intro W hW; go_simp
          refine wpAnyC_take (i := 12) (v := .slice (some ⟨g, 0, none⟩) ps.length c) rfl (by kernel_rfl) (by kernel_rfl) (by kernel_rfl) (by kernel_rfl) (fun _ _ _ h => h) (Or.inl ⟨by rfl, ?_⟩) hS ?_
          · intro W hW; have e1 : W.cell? ⟨b, 0, none⟩ = some (.slice (some ⟨g, 0, none⟩) ps.length c) := (hW.cell (p := ⟨b, 0, none⟩) HB.out.1.lt (by simp)).trans cb2; go_simp
          refine wpAnyC_take (i := 13) (v := .int .i64 (k : Nat)) rfl (by kernel_rfl) (by kernel_rfl) (by kernel_rfl) (by kernel_rfl) (fun _ _ _ h => h) (Or.inl ⟨by rfl, ?_⟩) hS ?_
          · intro W hW; go_simp
          simp only [Act.put, List.getElem_toArray, List.getElem_cons_succ, List.getElem_cons_zero, List.setIfInBounds_toArray, List.set_cons_succ, List.set_cons_zero]
          refine wpAnyC_take (i := 14) (v := .int .i64 ((k : Int) + 1)) rfl (by kernel_rfl) (by kernel_rfl) (by kernel_rfl) (by kernel_rfl) (fun _ _ _ h => h) (Or.inl ⟨by rfl, ?_⟩) hS ?_
          · intro W hW; have e3 : IntKind.i64.wrap ((k : Int) + 1) = (k : Int) + 1 := IntWalk.i64_in _ ⟨by omega, by omega⟩; go_simp
          refine wpAnyC_take (i := 15) (v := .slice (some ⟨g, (k + 1) * 2, none⟩) (ps.length - (k + 1)) (c - (k + 1))) rfl (by kernel_rfl) (by kernel_rfl) (by kernel_rfl) (by kernel_rfl) (fun _ _ _ h => h) (Or.inl ⟨by rfl, ?_⟩) hS ?_
          · intro W hW; go_simp
          simp only [Act.put, List.getElem_toArray, List.getElem_cons_succ, List.getElem_cons_zero, List.setIfInBounds_toArray, List.set_cons_succ, List.set_cons_zero]
          refine wpAnyC_ready (rs := [1]) (by kernel_rfl) (by simp) (AllReadyC.cons rfl (by decide) (fun K hK => ?_) AllReadyC.nil)
          go_simp
          obtain ⟨W1, hW1⟩ : ∃ W1, W1 = (w.alloc (.cells #[] 42)).drew := ⟨_, rfl⟩
          have hS2 : Upd [] w W1 := by rw [hW1]; exact ((Upd.refl [] w).alloc _).drew
          have HP1 : Hid (MR W1 w.heap.size (.slice (some ⟨w.heap.size, 0, none⟩) 0 0) []) := by show MR _ _ _ _; rw [hW1]; exact (mr_lit0 w).drew
          rw [← hW1]
          clear hW1
          refine hK.out _ _ hS2 (fun _ => ?_)
          clear hK K hS
          have hS : Upd [] w W1 := hS2
          clear hS2
          refine wpAnyC_ready (rs := [8]) (by kernel_rfl) (by simp) (AllReadyC.cons rfl (by decide) (fun K hK => ?_) AllReadyC.nil)
          rw [if_pos (by rfl)]
          refine oper_appP _ _ rfl w.heap.size _ _ _ _ [] (ps.take k) (ps.take k) k rfl rfl HP1.out rfl (srcP_head (HB.out.2.upd hS) (by omega) _) rfl (by simp; omega) (by omega) hS.size ?_
          intro g1 c1 W2 hI1 hg1
          have hS2 : Upd [] w W2 := ((hS.toN (P := fun x => some w.heap.size = some x)).trans (upP_grown hg1)).upd (fun x hx => by cases hx; exact Nat.le_refl _)
          have HP2 : Hid (MR W2 w.heap.size (.slice (some ⟨g1, 0, none⟩) k c1) (ps.take k)) := hI1
          refine hK.out _ _ hS2 (fun _ => ?_)
          clear hK K hS hI1 hg1
          have hS : Upd [] w W2 := hS2
          clear hS2
          refine wpAnyC_ready (rs := [16]) (by kernel_rfl) (by simp) (AllReadyC.cons rfl (by decide) (fun K hK => ?_) AllReadyC.nil)
          rw [if_pos (by rfl)]
          refine oper_appP _ _ rfl w.heap.size _ _ _ _ (ps.take k) (ps.drop (k + 1)) (ps.take k ++ ps.drop (k + 1)) (ps.length - 1) rfl rfl HP2.out (by simp; omega) (srcP_tail (HB.out.2.upd hS) (by omega) _) rfl (by simp; omega) (by omega) hS.size ?_
          intro g2 c2 W3 hI2 hg2
          have hS2 : Upd [] w W3 := ((hS.toN (P := fun x => some g1 = some x)).trans (upP_grown hg2)).upd (fun x hx => by cases hx; exact (HP2.out.own rfl).1)
          have HP3 : Hid (MR W3 w.heap.size (.slice (some ⟨g2, 0, none⟩) (ps.length - 1) c2) (ps.take k ++ ps.drop (k + 1))) := hI2
          refine hK.out _ _ hS2 (fun _ => ?_)
          clear hK K hS hI2 hg2
          have hS : Upd [] w W3 := hS2
          clear hS2
          refine wpAnyC_ready (rs := [17]) (by kernel_rfl) (by simp) (AllReadyC.cons rfl (by decide) (fun K hK => ?_) AllReadyC.nil)
          go_simp
          refine hK.out _ _ hS (fun _ => ?_)
          clear hK K
          refine wpAnyC_take (i := 18) (v := .pointer (some ⟨b, 0, none⟩)) rfl (by kernel_rfl) (by kernel_rfl) (by kernel_rfl) (by kernel_rfl) (fun _ _ _ h => h) (Or.inl ⟨by rfl, ?_⟩) hS ?_
          · intro W hW; go_simp
          simp only [Act.put, List.getElem_toArray, List.getElem_cons_succ, List.getElem_cons_zero, List.setIfInBounds_toArray, List.set_cons_succ, List.set_cons_zero]
          have cb3 : W3.cell? ⟨b, 0, none⟩ = some (.slice (some ⟨g, 0, none⟩) ps.length c) := (hS.cell (p := ⟨b, 0, none⟩) HB.out.1.lt (by simp)).trans cb2
          have cf3 : W3.frozen? ⟨b, 0, none⟩ = false := (HB.out.1.upd hS (by simp)).free 0
          have H3 : Hid (Upd [] w W3) := hS
          refine wpAnyC_cut (fun _ => True) (by kernel_rfl) rfl (fun K hK => ?_)
          go_simp
          refine hK.out _ _ trivial (fun _ => ?_)
          clear hK K hS
          refine wpAnyH_done (by kernel_rfl) ?_ _
          go_wp2
          go_ret
          have hput := put_pairs HB.out.1 H3.out HP3.out (Nat.le_refl _)
          exact Or.inr ⟨k, hk, HP.out, rfl, _, hput.1, hput.2.1, hput.2.2⟩
      · have heq : (y == x) = false := by simpa using hyx
        have HYX : Hid (y ≠ x) := hyx
        have hkm : (k : Int) + 1 ≤ 9223372036854775807 := by omega
        clear hyx
        go_wp2_with fail
        go_roundw
        case rel => exact ⟨k + 1, hk, by go_num, fun q hq => by
          rw [List.take_succ_eq_append_getElem hk] at hq
          rcases List.mem_append.1 hq with hq | hq
          · exact HNo.out q hq
          · obtain rfl : q = ps[k] := by simpa using hq
            rw [HY.out]; exact HYX.out, trivial⟩
        case measure => simp [intOf]; omega
    · obtain rfl : k = ps.length := by omega
      go_wp2_with fail
      go_ret
      exact Or.inl ⟨fun q hq => HNo.out q (by rw [List.take_length]; exact hq), rfl, rfl⟩

end Go.Proofs.YtpojkmpimnnjiaaGreat
