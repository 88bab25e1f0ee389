/- rightBranches of package node: the clauses are not all clauses. -/
import Derived.Test.YtehfoblfmehbdaaDoorNdV
namespace Go.Proofs.YtehfoblfmehbdaaDoor
open Go.RowKit

theorem ite_no {p : Bool} {A B : Prop} (h : p = false) (hb : B) : if p = true then A else B := by subst h; exact hb

set_option maxHeartbeats 1000000 in
set_option maxRecDepth 100000 in
theorem rb_no (b o n m c : Nat) (w : World) (hm : m ≤ n) (hc1 : n ≤ c) (_hc2 : c ≤ 9223372036854775807)
    (hA1 : ∀ W g, Upd [] w W → KindB W g 20 → Calls Tryd.prog 42 #[.slice (some ⟨b, o, none⟩) m c, kf g] W fun e w' => e = .returned (.bool false) ∧ Upd [] W w') :
    Calls Tryd.prog 71 #[.slice (some ⟨b, o, none⟩) n c, .int .i64 m] w fun e w' => e = .returned (.bool false) ∧ Upd [] w w' := by
  have hcall1 : ∀ args w, (callFunc 76 args).run Tryd.prog w = .ok (.enter 76 args) w := Tryd.call76
  have i0 : (m : Int) ≤ (c : Int) := by omega
  have HA1 : Hid (∀ W g, Upd [] w W → KindB W g 20 → Calls Tryd.prog 42 #[.slice (some ⟨b, o, none⟩) m c, kf g] W fun e w' => e = .returned (.bool false) ∧ Upd [] W w') := hA1
  have HOF : Hid (∀ k W, Calls Tryd.prog 76 #[.int .u8 k] W fun e w' => ∃ g, e = .returned (kf g) ∧ KindB w' g k ∧ Upd [] W w') := of_any
  clear hA1
  go_enter Tryd.func71, Tryd.ntmps71
  go_wp2_with fail
  refine wp_region_held_drew (S := fun _ => True) (by kernel_rfl) trivial (fun _ => ?_)
  refine wpAnyH_take (i := 0) (v := .slice (some ⟨b, o, none⟩) n c) rfl (by kernel_rfl) (by kernel_rfl) (by kernel_rfl) (fun _ _ _ h => h) (Or.inl ⟨by rfl, ?_⟩) trivial ?_
  · intro w _; go_simp
  refine wpAnyH_take (i := 1) (v := .int .i64 m) rfl (by kernel_rfl) (by kernel_rfl) (by kernel_rfl) (fun _ _ _ h => h) (Or.inl ⟨by rfl, ?_⟩) trivial ?_
  · intro w _; go_simp
  refine wpAnyH_take (i := 2) (v := .slice (some ⟨b, o, none⟩) m c) rfl (by kernel_rfl) (by kernel_rfl) (by kernel_rfl) (fun _ _ _ h => h) (Or.inl ⟨by rfl, ?_⟩) trivial ?_
  · intro w _; go_simp
  refine wpAnyH_take (i := 3) (v := .func (.func 76) #[] #[]) rfl (by kernel_rfl) (by kernel_rfl) (by kernel_rfl) (fun _ _ _ h => h) (Or.inl ⟨by rfl, ?_⟩) trivial ?_
  · intro w _; go_simp
  simp only [Act.put, List.setIfInBounds_toArray]
  refine wpAnyH_ready (rs := [4]) (by kernel_rfl) (by simp) (AllReadyH.cons rfl (fun K hK => ?_) AllReadyH.nil)
  go_simp
  refine (HOF.out 20 _).mono ?_
  rintro e w1 ⟨g1, rfl, hk1, hu1⟩
  have uw1 : Hid (Upd [] w w1) := Upd.trans ((Upd.refl [] w).drew) hu1
  have hg1 : Hid (KindB w1 g1 20) := hk1
  clear hk1 hu1
  refine hK.out _ _ trivial (fun _ => ?_)
  clear hK K
  refine wpAnyH_ready (rs := [5]) (by kernel_rfl) (by simp) (AllReadyH.cons rfl (fun K hK => ?_) AllReadyH.nil)
  go_simp
  refine (HA1.out _ g1 uw1.out hg1.out).mono ?_
  rintro e w2 ⟨rfl, hu2⟩
  have uw2 : Hid (Upd [] w w2) := uw1.out.trans hu2
  clear hu2
  refine hK.out _ _ trivial (fun _ => ?_)
  clear hK K
  refine wpAnyH_take (i := 6) (v := .bool false) rfl (by kernel_rfl) (by kernel_rfl) (by kernel_rfl) (fun _ _ _ h => h) (Or.inl ⟨by rfl, ?_⟩) trivial ?_
  · intro w _; go_simp
  simp only [Act.put, List.setIfInBounds_toArray]
  refine wpAnyH_take (i := 7) (v := undef) rfl (by kernel_rfl) (by kernel_rfl) (by kernel_rfl) (fun _ _ _ h => h) (Or.inr ⟨by rfl, rfl⟩) trivial ?_
  refine wpAnyH_take (i := 8) (v := undef) rfl (by kernel_rfl) (by kernel_rfl) (by kernel_rfl) (fun _ _ _ h => h) (Or.inr ⟨by rfl, rfl⟩) trivial ?_
  refine wpAnyH_take (i := 9) (v := undef) rfl (by kernel_rfl) (by kernel_rfl) (by kernel_rfl) (fun _ _ _ h => h) (Or.inr ⟨by rfl, rfl⟩) trivial ?_
  refine wpAnyH_take (i := 10) (v := undef) rfl (by kernel_rfl) (by kernel_rfl) (by kernel_rfl) (fun _ _ _ h => h) (Or.inr ⟨by rfl, rfl⟩) trivial ?_
  simp only [Act.put]
  refine wpAnyH_ready (rs := [11]) (by kernel_rfl) (by simp) (AllReadyH.cons rfl (fun K hK => ?_) AllReadyH.nil)
  refine ite_no (by rfl) ?_
  refine hK.out _ _ trivial (fun _ => ?_)
  clear hK K
  refine wpAnyH_ready (rs := [12]) (by kernel_rfl) (by simp) (AllReadyH.cons rfl (fun K hK => ?_) AllReadyH.nil)
  refine ite_no (by rfl) ?_
  refine hK.out _ _ trivial (fun _ => ?_)
  clear hK K
  simp only [Act.put]
  refine wpAnyH_take (i := 13) (v := .bool false) rfl (by kernel_rfl) (by kernel_rfl) (by kernel_rfl) (fun _ _ _ h => h) (Or.inl ⟨by rfl, ?_⟩) trivial ?_
  · intro w _; go_simp
  simp only [Act.put, List.getElem_toArray, List.getElem_cons_succ, List.getElem_cons_zero, List.setIfInBounds_toArray, List.set_cons_zero, List.set_cons_succ]
  refine wpAnyH_take (i := 14) (v := .bool false) rfl (by kernel_rfl) (by kernel_rfl) (by kernel_rfl) (fun _ _ _ h => h) (Or.inl ⟨by rfl, ?_⟩) trivial ?_
  · intro w _; go_simp
  simp only [Act.put, List.getElem_toArray, List.getElem_cons_succ, List.getElem_cons_zero, List.setIfInBounds_toArray, List.set_cons_zero, List.set_cons_succ]
  refine wpAnyH_done (by kernel_rfl) ?_ _
  go_wp2
  go_ret
  exact ⟨rfl, uw2.out⟩

end Go.Proofs.YtehfoblfmehbdaaDoor
