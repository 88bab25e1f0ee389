/- rightBranches of package node: the call. -/
import Derived.Test.YtehfoblfmehbdaaDoorJAC
import Derived.Deep.RegionHeld3
namespace Go.Proofs.YtehfoblfmehbdaaDoor
open Go.RowKit

set_option maxHeartbeats 1000000 in
set_option maxRecDepth 100000 in
theorem rb_lt (b o n m c : Nat) (b2 : Bool) (w : World) (_hs : n ≤ 2199023255488) (hm : m < n) (hc1 : n ≤ c) (_hc2 : c ≤ 9223372036854775807)
    (hA1 : ∀ W g, Upd [] w W → KindB W g 20 → Calls Tryd.prog 42 #[.slice (some ⟨b, o, none⟩) m c, kf g] W fun e w' => e = .returned (.bool true) ∧ Upd [] W w')
    (hA2 : ∀ W g c', Upd [] w W → KindB W g 15 → Calls Tryd.prog 42 #[.slice (some ⟨b, o + m * 5, none⟩) (n - m) c', kf g] W fun e w' => e = .returned (.bool b2) ∧ Upd [] W w') :
    Calls Tryd.prog 71 #[.slice (some ⟨b, o, none⟩) n c, .int .i64 m] w fun e w' => e = .returned (.bool (true && b2)) ∧ Upd [] w w' := by
  have hcall1 : ∀ args w, (callFunc 76 args).run Tryd.prog w = .ok (.enter 76 args) w := Tryd.call76
  have i0 : (m : Int) ≤ (c : Int) := by omega
  have i1 : (m : Int) ≤ (n : Int) := by omega
  have i2 : (n : Int) ≤ (c : Int) := by omega
  have HA1 : Hid (∀ W g, Upd [] w W → KindB W g 20 → Calls Tryd.prog 42 #[.slice (some ⟨b, o, none⟩) m c, kf g] W fun e w' => e = .returned (.bool true) ∧ Upd [] W w') := hA1
  have HA2 : Hid (∀ W g c', Upd [] w W → KindB W g 15 → Calls Tryd.prog 42 #[.slice (some ⟨b, o + m * 5, none⟩) (n - m) c', kf g] W fun e w' => e = .returned (.bool b2) ∧ Upd [] W w') := hA2
  have HOF : Hid (∀ k W, Calls Tryd.prog 76 #[.int .u8 k] W fun e w' => ∃ g, e = .returned (kf g) ∧ KindB w' g k ∧ Upd [] W w') := of_any
  clear hA1 hA2
  go_enter Tryd.func71, Tryd.ntmps71
  go_wp2_with fail
  go_region_held3 (fun _ => True)
    (trivial)
    (first
      | (go_at_call 42; (have _hw4 := uw3); go_loud (refine Calls.mono (HA2.out _ g3 _ (Upd.trans uw3.out (by repeat (first | with_reducible exact Upd.refl _ _ | with_reducible refine Upd.drew ?_))) (hg3.out.mono (by repeat (first | with_reducible exact Upd.refl _ _ | with_reducible refine Upd.drew ?_)))) ?_); rintro e w4 ⟨rfl, hu⟩; have uw4 : Hid (Upd [] w w4) := Upd.trans (Upd.trans uw3.out (by repeat (first | with_reducible exact Upd.refl _ _ | with_reducible refine Upd.drew ?_))) hu; clear hu)
      | (go_at_call 76; (have _hw3 := uw2); go_loud (refine Calls.mono (HOF.out 15 _) ?_); rintro e w3 ⟨g3, rfl, hk, hu⟩; have uw3 : Hid (Upd [] w w3) := Upd.trans (Upd.trans (uw2.out) (by repeat (first | with_reducible exact Upd.refl _ _ | with_reducible refine Upd.drew ?_))) hu; have hg3 : Hid (KindB w3 g3 15) := hk; clear hk hu)
      | (go_at_call 42; (have _hw2 := uw1); go_loud (refine Calls.mono (HA1.out _ g1 (Upd.trans uw1.out (by repeat (first | with_reducible exact Upd.refl _ _ | with_reducible refine Upd.drew ?_))) (hg1.out.mono (by repeat (first | with_reducible exact Upd.refl _ _ | with_reducible refine Upd.drew ?_)))) ?_); rintro e w2 ⟨rfl, hu⟩; have uw2 : Hid (Upd [] w w2) := Upd.trans (Upd.trans uw1.out (by repeat (first | with_reducible exact Upd.refl _ _ | with_reducible refine Upd.drew ?_))) hu; clear hu)
      | (go_at_call 76; go_loud (refine Calls.mono (HOF.out 20 _) ?_); rintro e w1 ⟨g1, rfl, hk, hu⟩; have uw1 : Hid (Upd [] w w1) := Upd.trans (Upd.trans (Upd.refl [] w) (by repeat (first | with_reducible exact Upd.refl _ _ | with_reducible refine Upd.drew ?_))) hu; have hg1 : Hid (KindB w1 g1 20) := hk; clear hk hu))
  all_goals
    go_wp2
    go_ret
    exact ⟨rfl, uw4.out⟩

set_option maxHeartbeats 1000000 in
set_option maxRecDepth 100000 in
theorem rb_eq (b o n c : Nat) (b2 : Bool) (w : World) (_hs : n ≤ 2199023255488) (hc1 : n < c) (_hc2 : c ≤ 9223372036854775807)
    (hA1 : ∀ W g, Upd [] w W → KindB W g 20 → Calls Tryd.prog 42 #[.slice (some ⟨b, o, none⟩) n c, kf g] W fun e w' => e = .returned (.bool true) ∧ Upd [] W w')
    (hA2 : ∀ W g a' c', Upd [] w W → KindB W g 15 → Calls Tryd.prog 42 #[.slice a' 0 c', kf g] W fun e w' => e = .returned (.bool b2) ∧ Upd [] W w') :
    Calls Tryd.prog 71 #[.slice (some ⟨b, o, none⟩) n c, .int .i64 n] w fun e w' => e = .returned (.bool (true && b2)) ∧ Upd [] w w' := by
  have hcall1 : ∀ args w, (callFunc 76 args).run Tryd.prog w = .ok (.enter 76 args) w := Tryd.call76
  have i0 : (n : Int) ≤ (c : Int) := by omega
  have i1 : (n : Int) < (c : Int) := by omega
  have HA1 : Hid (∀ W g, Upd [] w W → KindB W g 20 → Calls Tryd.prog 42 #[.slice (some ⟨b, o, none⟩) n c, kf g] W fun e w' => e = .returned (.bool true) ∧ Upd [] W w') := hA1
  have HA2 : Hid (∀ W g a' c', Upd [] w W → KindB W g 15 → Calls Tryd.prog 42 #[.slice a' 0 c', kf g] W fun e w' => e = .returned (.bool b2) ∧ Upd [] W w') := hA2
  have HOF : Hid (∀ k W, Calls Tryd.prog 76 #[.int .u8 k] W fun e w' => ∃ g, e = .returned (kf g) ∧ KindB w' g k ∧ Upd [] W w') := of_any
  clear hA1 hA2
  go_enter Tryd.func71, Tryd.ntmps71
  go_wp2_with fail
  go_region_held3 (fun _ => True)
    (trivial)
    (first
      | (go_at_call 42; (have _hw4 := uw3); go_loud (refine Calls.mono (HA2.out _ g3 _ _ (Upd.trans uw3.out (by repeat (first | with_reducible exact Upd.refl _ _ | with_reducible refine Upd.drew ?_))) (hg3.out.mono (by repeat (first | with_reducible exact Upd.refl _ _ | with_reducible refine Upd.drew ?_)))) ?_); rintro e w4 ⟨rfl, hu⟩; have uw4 : Hid (Upd [] w w4) := Upd.trans (Upd.trans uw3.out (by repeat (first | with_reducible exact Upd.refl _ _ | with_reducible refine Upd.drew ?_))) hu; clear hu)
      | (go_at_call 76; (have _hw3 := uw2); go_loud (refine Calls.mono (HOF.out 15 _) ?_); rintro e w3 ⟨g3, rfl, hk, hu⟩; have uw3 : Hid (Upd [] w w3) := Upd.trans (Upd.trans (uw2.out) (by repeat (first | with_reducible exact Upd.refl _ _ | with_reducible refine Upd.drew ?_))) hu; have hg3 : Hid (KindB w3 g3 15) := hk; clear hk hu)
      | (go_at_call 42; (have _hw2 := uw1); go_loud (refine Calls.mono (HA1.out _ g1 (Upd.trans uw1.out (by repeat (first | with_reducible exact Upd.refl _ _ | with_reducible refine Upd.drew ?_))) (hg1.out.mono (by repeat (first | with_reducible exact Upd.refl _ _ | with_reducible refine Upd.drew ?_)))) ?_); rintro e w2 ⟨rfl, hu⟩; have uw2 : Hid (Upd [] w w2) := Upd.trans (Upd.trans uw1.out (by repeat (first | with_reducible exact Upd.refl _ _ | with_reducible refine Upd.drew ?_))) hu; clear hu)
      | (go_at_call 76; go_loud (refine Calls.mono (HOF.out 20 _) ?_); rintro e w1 ⟨g1, rfl, hk, hu⟩; have uw1 : Hid (Upd [] w w1) := Upd.trans (Upd.trans (Upd.refl [] w) (by repeat (first | with_reducible exact Upd.refl _ _ | with_reducible refine Upd.drew ?_))) hu; have hg1 : Hid (KindB w1 g1 20) := hk; clear hk hu))
  all_goals
    go_wp2
    go_ret
    exact ⟨rfl, uw4.out⟩

set_option maxHeartbeats 1000000 in
set_option maxRecDepth 100000 in
theorem rb_eqc (b o n : Nat) (b2 : Bool) (w : World) (_hs : n ≤ 2199023255488) 
    (hA1 : ∀ W g, Upd [] w W → KindB W g 20 → Calls Tryd.prog 42 #[.slice (some ⟨b, o, none⟩) n n, kf g] W fun e w' => e = .returned (.bool true) ∧ Upd [] W w')
    (hA2 : ∀ W g a' c', Upd [] w W → KindB W g 15 → Calls Tryd.prog 42 #[.slice a' 0 c', kf g] W fun e w' => e = .returned (.bool b2) ∧ Upd [] W w') :
    Calls Tryd.prog 71 #[.slice (some ⟨b, o, none⟩) n n, .int .i64 n] w fun e w' => e = .returned (.bool (true && b2)) ∧ Upd [] w w' := by
  have hcall1 : ∀ args w, (callFunc 76 args).run Tryd.prog w = .ok (.enter 76 args) w := Tryd.call76
  have HA1 : Hid (∀ W g, Upd [] w W → KindB W g 20 → Calls Tryd.prog 42 #[.slice (some ⟨b, o, none⟩) n n, kf g] W fun e w' => e = .returned (.bool true) ∧ Upd [] W w') := hA1
  have HA2 : Hid (∀ W g a' c', Upd [] w W → KindB W g 15 → Calls Tryd.prog 42 #[.slice a' 0 c', kf g] W fun e w' => e = .returned (.bool b2) ∧ Upd [] W w') := hA2
  have HOF : Hid (∀ k W, Calls Tryd.prog 76 #[.int .u8 k] W fun e w' => ∃ g, e = .returned (kf g) ∧ KindB w' g k ∧ Upd [] W w') := of_any
  clear hA1 hA2
  go_enter Tryd.func71, Tryd.ntmps71
  go_wp2_with fail
  go_region_held3 (fun _ => True)
    (trivial)
    (first
      | (go_at_call 42; (have _hw4 := uw3); go_loud (refine Calls.mono (HA2.out _ g3 _ _ (Upd.trans uw3.out (by repeat (first | with_reducible exact Upd.refl _ _ | with_reducible refine Upd.drew ?_))) (hg3.out.mono (by repeat (first | with_reducible exact Upd.refl _ _ | with_reducible refine Upd.drew ?_)))) ?_); rintro e w4 ⟨rfl, hu⟩; have uw4 : Hid (Upd [] w w4) := Upd.trans (Upd.trans uw3.out (by repeat (first | with_reducible exact Upd.refl _ _ | with_reducible refine Upd.drew ?_))) hu; clear hu)
      | (go_at_call 76; (have _hw3 := uw2); go_loud (refine Calls.mono (HOF.out 15 _) ?_); rintro e w3 ⟨g3, rfl, hk, hu⟩; have uw3 : Hid (Upd [] w w3) := Upd.trans (Upd.trans (uw2.out) (by repeat (first | with_reducible exact Upd.refl _ _ | with_reducible refine Upd.drew ?_))) hu; have hg3 : Hid (KindB w3 g3 15) := hk; clear hk hu)
      | (go_at_call 42; (have _hw2 := uw1); go_loud (refine Calls.mono (HA1.out _ g1 (Upd.trans uw1.out (by repeat (first | with_reducible exact Upd.refl _ _ | with_reducible refine Upd.drew ?_))) (hg1.out.mono (by repeat (first | with_reducible exact Upd.refl _ _ | with_reducible refine Upd.drew ?_)))) ?_); rintro e w2 ⟨rfl, hu⟩; have uw2 : Hid (Upd [] w w2) := Upd.trans (Upd.trans uw1.out (by repeat (first | with_reducible exact Upd.refl _ _ | with_reducible refine Upd.drew ?_))) hu; clear hu)
      | (go_at_call 76; go_loud (refine Calls.mono (HOF.out 20 _) ?_); rintro e w1 ⟨g1, rfl, hk, hu⟩; have uw1 : Hid (Upd [] w w1) := Upd.trans (Upd.trans (Upd.refl [] w) (by repeat (first | with_reducible exact Upd.refl _ _ | with_reducible refine Upd.drew ?_))) hu; have hg1 : Hid (KindB w1 g1 20) := hk; clear hk hu))
  all_goals
    go_wp2
    go_ret
    exact ⟨rfl, uw4.out⟩


end Go.Proofs.YtehfoblfmehbdaaDoor
