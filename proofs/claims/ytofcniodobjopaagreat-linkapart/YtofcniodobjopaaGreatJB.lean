/- LinkLives: one step, by the program and by the reference. -/
import Derived.Test.YtofcniodobjopaaGreatLkSb
import Derived.Deep.DeepCutAuto
import Derived.Deep.CutBlock
import Derived.Deep.RegionHeld3
import Derived.BigQuiet
import Derived.Deep.QuietTactic
import Derived.Test.YtofcniodobjopaaGreatLkBa

namespace Go.Proofs.YtofcniodobjopaaGreat
open Go.RowKit Go.Maps

/-- Both, and boxes of the caller's beside them. -/
structure LY (w wr : World) (l n b : Nat) (L : LF) (M : MF) (v u : Value) (ps : List (Int × Int)) (ms : List Mon) (B0 : Nat → Array Value → Prop) : Prop where
  half : LH w wr l n b L M v u ps ms B0
  siml : SimL L ps
  simm : MonsOf M ms
theorem LY.upd {w wr w2 : World} {l n b : Nat} {L : LF} {M : MF} {v u : Value} {ps : List (Int × Int)} {ms : List Mon} {B0 : Nat → Array Value → Prop} (h : LY w wr l n b L M v u ps ms B0) (hu : Upd [] wr w2) : LY w w2 l n b L M v u ps ms B0 := ⟨h.half.upd hu, h.siml, h.simm⟩
/-- What a step leaves. -/
def Stepd2 (w : World) (l n b p m : Nat) (B0 : Nat → Array Value → Prop) (w' : World) : Prop := ∃ n' L' M' v' u' ps' ms', n' ≤ n + 2 ∧ ps'.length ≤ p + 1 ∧ ms'.length ≤ m + 1 ∧ LY w w' l n' b L' M' v' u' ps' ms' B0

set_option maxHeartbeats 4000000 in
set_option maxRecDepth 100000 in
theorem step_any2 {w wr : World} {l n b : Nat} {B0 : Nat → Array Value → Prop} {L : LF} {M : MF} {v u : Value} {ps : List (Int × Int)} {ms : List Mon} (h : LY w wr l n b L M v u ps ms B0) (hn : n ≤ 1000) (hp : ps.length ≤ 900) (hm : ms.length ≤ 900) {op A B r : Int} (hA : I64 A) (hB : I64 B) (hr : I64 r) :
    Calls Tryz.prog 11 #[.pointer (some ⟨l, 0, none⟩), .pointer (some ⟨b, 0, none⟩), .agg #[.int .i64 op, .int .i64 A, .int .i64 B, .int .i64 r]] wr fun e w' => e = .returned (.bool true) ∧ Stepd2 w l n b ps.length ms.length B0 w' := by
  obtain ⟨z, hz⟩ : ∃ z, z = wr.heap.size := ⟨_, rfl⟩
  obtain ⟨wz, hwz⟩ : ∃ wz, wz = wr.alloc (.cells #[.int .i64 op, .int .i64 A, .int .i64 B, .int .i64 r] 44) := ⟨_, rfl⟩
  obtain ⟨Bx, hBx⟩ : ∃ Bx : Nat → Array Value → Prop, Bx = fun z' cs => B0 z' cs ∨ (z' = z ∧ cs = #[.int .i64 op, .int .i64 A, .int .i64 B, .int .i64 r]) := ⟨_, rfl⟩
  have HH : Hid (LH w wz l n b L M v u ps ms Bx) := by
    show LH _ _ _ _ _ _ _ _ _ _ _ _
    rw [hwz, hBx, hz]
    exact h.half.lay _
  have HBX : Hid (∀ z' cs, B0 z' cs → Bx z' cs) := fun z' cs h => by rw [hBx]; exact Or.inl h
  have HBZ : Hid (Bx z #[.int .i64 op, .int .i64 A, .int .i64 B, .int .i64 r]) := by show Bx _ _; rw [hBx]; exact Or.inr ⟨rfl, rfl⟩
  have HS : Hid (SimL L ps ∧ MonsOf M ms) := ⟨h.siml, h.simm⟩
  have HI : Hid (I64 A ∧ I64 B ∧ I64 r ∧ n ≤ 1000 ∧ ps.length ≤ 900 ∧ ms.length ≤ 900) := ⟨hA, hB, hr, hn, hp, hm⟩
  have q0 : wz.cell? ⟨z, 0, none⟩ = some (.int .i64 op) := by rw [(HH.out.boxz _ _ HBZ.out).cell]; rfl
  have q1 : wz.cell? ⟨z, 1, none⟩ = some (.int .i64 A) := by rw [(HH.out.boxz _ _ HBZ.out).cell]; rfl
  have q2 : wz.cell? ⟨z, 2, none⟩ = some (.int .i64 B) := by rw [(HH.out.boxz _ _ HBZ.out).cell]; rfl
  have q3 : wz.cell? ⟨z, 3, none⟩ = some (.int .i64 r) := by rw [(HH.out.boxz _ _ HBZ.out).cell]; rfl
  have HC : Hid (∀ W n' L' M' v' u' ps' ms', LH w W l n' b L' M' v' u' ps' ms' Bx → W.cell? ⟨z, 1, none⟩ = some (.int .i64 A) ∧ W.cell? ⟨z, 2, none⟩ = some (.int .i64 B) ∧ W.cell? ⟨z, 3, none⟩ = some (.int .i64 r)) := fun W _ _ _ _ _ _ _ h => ⟨by rw [(h.boxz _ _ HBZ.out).cell]; rfl, by rw [(h.boxz _ _ HBZ.out).cell]; rfl, by rw [(h.boxz _ _ HBZ.out).cell]; rfl⟩
  clear h hA hB hr hn hp hm hBx
  go_enter Tryz.func11, Tryz.ntmps11
  go_wp2_with fail
  rw [← hwz, ← hz]
  clear hwz hz
  refine Calls.mono (pick_any op 9 (by omega) (by omega) _) ?_
  rintro e w1 ⟨rfl, hw1⟩
  rw [hw1]
  clear hw1 q0
  obtain ⟨t, ht⟩ : ∃ t, t = pk op 9 := ⟨_, rfl⟩
  have htl : 0 ≤ t ∧ t < 9 := by rw [ht]; exact pk_lt op (by omega)
  rw [← ht]
  clear ht
  rcases (by omega : t = 0 ∨ t = 1 ∨ t = 2 ∨ (3 ≤ t ∧ t ≤ 5) ∨ 6 ≤ t) with rfl | rfl | rfl | h35 | h6
  · clear htl
    go_wp2_with fail
    refine Calls.mono (lh_end HH.out (by have := HI.out; omega) HI.out.1) ?_
    rintro e w2 ⟨s, xs, t, rs, rfl, g3, g4, g5, g6, g7, g8, o⟩
    rw [HS.out.2.told g7 g8] at g6
    have H2 : Hid (IR w2 wz.heap.size s xs ∧ xs.Pairwise (· < ·) ∧ (∀ x, x ∈ xs ↔ L A x = true) ∧ MR w2 wz.heap.size t (ms.filter fun m => m.2.2 == A) ∧ (∀ x, x ∈ rs ↔ nam M A x = true) ∧ LH w w2 l n b (endL L A xs) (endM M rs) v u ps ms Bx) := ⟨g3, g4, g5, g6, g8, o⟩
    have y1 : w2.cell? ⟨z, 1, none⟩ = some (.int .i64 A) := (HC.out _ _ _ _ _ _ _ _ o).1
    have hbz := HH.out.box.lt
    clear g3 g4 g5 g6 g7 g8 o q1 q2 q3
    go_wp2_with fail
    refine Calls.mono (lh_endRef H2.out.2.2.2.2.2 HS.out.1 HS.out.2 (by have := HI.out; omega) (by have := HI.out; omega) A) ?_
    rintro e w3 ⟨s2, xs2, t2, v', u', ps', ms', rfl, k1, k2, k3, k4, o3, k6, k7, k8, k9, k10⟩
    obtain rfl : xs2 = xs := sorted_one k2 H2.out.2.1 (fun x => by rw [k3, H2.out.2.2.1])
    have H3 : Hid (IR w3 wz.heap.size s xs2 ∧ IR w3 w2.heap.size s2 xs2 ∧ MR w3 wz.heap.size t (ms.filter fun m => m.2.2 == A) ∧ NR w3 w2.heap.size t2 (ms.filter fun m => m.2.2 == A) ∧ LY w w3 l n b (endL L A xs2) (endM M rs) v' u' ps' ms' B0 ∧ ps'.length ≤ ps.length ∧ ms'.length ≤ ms.length) := by
      refine ⟨H2.out.1.updS k10 (far_of hbz fun g hg => (H2.out.1.own hg).1), k1, ?_, k4, ⟨o3.less HBX.out, k6, k7 rs H2.out.2.2.2.2.1⟩, k8, k9⟩
      exact H2.out.2.2.2.1.upP k10.toP (far_of hbz fun g hg => (H2.out.2.2.2.1.own hg).1)
    clear k1 k2 k3 k4 o3 k6 k7 k8 k9 k10 y1
    go_wp2_with fail
    refine Calls.mono (sameInts_any _ _ _ _ _ _ _ H3.out.1 H3.out.2.1) ?_
    rintro e w4 ⟨he, hu⟩
    have hxx : (xs2 == xs2) = true := by simp
    rw [hxx] at he
    subst he
    have H4 : Hid (MR w4 wz.heap.size t (ms.filter fun m => m.2.2 == A) ∧ NR w4 w2.heap.size t2 (ms.filter fun m => m.2.2 == A) ∧ LY w w4 l n b (endL L A xs2) (endM M rs) v' u' ps' ms' B0) := ⟨H3.out.2.2.1.upd hu, H3.out.2.2.2.1.upd hu, H3.out.2.2.2.2.1.upd hu⟩
    clear hu hxx
    go_wp2_with fail
    refine Calls.mono (same_one _ _ _ _ _ _ H4.out.1 H4.out.2.1) ?_
    rintro e w5 ⟨rfl, hu⟩
    have H5 : Hid (LY w w5 l n b (endL L A xs2) (endM M rs) v' u' ps' ms' B0) := H4.out.2.2.upd hu
    clear hu
    go_wp2_with fail
    go_ret
    exact ⟨rfl, n, _, _, _, _, _, _, by omega, by have := H3.out.2.2.2.2.2; omega, by have := H3.out.2.2.2.2.2; omega, H5.out⟩
  · clear htl
    obtain ⟨bb, hbb⟩ : ∃ bb, bb = (L A B) := ⟨_, rfl⟩
    have HP : Hid (∀ W, Upd [] wz W → Calls Tryz.prog 26 #[.pointer (some ⟨l, 0, none⟩), .int .i64 A, .int .i64 B] W fun e w' => e = .returned (.bool bb) ∧ LH w w' l (n) b (cutL L A B) (M) v u ps ms Bx) := fun W hu => by
      rw [hbb]
      exact lh_unlink (HH.out.upd hu) HI.out.1 HI.out.2.1
    have HQ : Hid (∀ W, LH w W l (n) b (cutL L A B) (M) v u ps ms Bx → Calls Tryz.prog 27 #[.pointer (some ⟨b, 0, none⟩), .int .i64 A, .int .i64 B] W fun e w' => e = .returned (.bool bb) ∧ ∃ v' ps', LH w w' l (n) b (cutL L A B) (M) v' u ps' ms Bx ∧ SimL (cutL L A B) ps' ∧ ps'.length ≤ ps.length + 1) := fun W h => by
      rw [hbb]
      exact lh_unlinkRef h HS.out.1 (by have := HI.out; omega) A B
    clear hbb
    go_upto_region 7 with fail
    go_region_held3 (fun W => W.cell? ⟨z, 1, none⟩ = some (.int .i64 A) ∧ W.cell? ⟨z, 2, none⟩ = some (.int .i64 B))
      (go_keep)
      (first
        | (go_at_call 27; refine Calls.mono (HQ.out _ (HG.out.upd (by repeat (first | exact Upd.refl _ _ | refine Upd.drew ?_)))) ?_; rintro e w3 ⟨rfl, v', ps', hG, hs, hl⟩; have HE : Hid (LH w w3 l (n) b (cutL L A B) (M) v' u ps' ms Bx ∧ SimL (cutL L A B) ps' ∧ ps'.length ≤ ps.length + 1) := ⟨hG, hs, hl⟩; obtain ⟨r1, r2, _⟩ := HC.out _ _ _ _ _ _ _ _ hG; clear hG hs hl)
        | (go_at_call 26; refine Calls.mono (HP.out _ (by repeat (first | exact Upd.refl _ _ | refine Upd.drew ?_))) ?_; rintro e w2 ⟨rfl, hG⟩; have HG : Hid (LH w w2 l (n) b (cutL L A B) (M) v u ps ms Bx) := hG; obtain ⟨p1, p2, _⟩ := HC.out _ _ _ _ _ _ _ _ hG; clear hG))
    go_wp2_with fail
    go_ret
    exact ⟨rfl, n, _, _, _, _, _, _, by omega, HE.out.2.2, by omega, ⟨HE.out.1.less HBX.out, HE.out.2.1, HS.out.2⟩⟩
  · clear htl
    obtain ⟨bb, hbb⟩ : ∃ bb, bb = (unwatchB M r A) := ⟨_, rfl⟩
    have HP : Hid (∀ W, Upd [] wz W → Calls Tryz.prog 28 #[.pointer (some ⟨l, 0, none⟩), .int .i64 r, .int .i64 A] W fun e w' => e = .returned (.bool bb) ∧ LH w w' l (n) b (L) (unwatchM M r A) v u ps ms Bx) := fun W hu => by
      rw [hbb]
      exact lh_unwatch (HH.out.upd hu) HI.out.2.2.1
    have HQ : Hid (∀ W, LH w W l (n) b (L) (unwatchM M r A) v u ps ms Bx → Calls Tryz.prog 29 #[.pointer (some ⟨b, 0, none⟩), .int .i64 r, .int .i64 A] W fun e w' => e = .returned (.bool bb) ∧ ∃ u' ms', LH w w' l (n) b (L) (unwatchM M r A) v u' ps ms' Bx ∧ MonsOf (unwatchM M r A) ms' ∧ ms'.length ≤ ms.length + 1) := fun W h => by
      rw [hbb]
      exact lh_unwatchRef h HS.out.2 (by have := HI.out; omega) r A
    clear hbb
    go_upto_region 9 with fail
    go_region_held3 (fun W => W.cell? ⟨z, 1, none⟩ = some (.int .i64 A) ∧ W.cell? ⟨z, 3, none⟩ = some (.int .i64 r))
      (go_keep)
      (first
        | (go_at_call 29; refine Calls.mono (HQ.out _ (HG.out.upd (by repeat (first | exact Upd.refl _ _ | refine Upd.drew ?_)))) ?_; rintro e w3 ⟨rfl, u', ms', hG, hs, hl⟩; have HE : Hid (LH w w3 l (n) b (L) (unwatchM M r A) v u' ps ms' Bx ∧ MonsOf (unwatchM M r A) ms' ∧ ms'.length ≤ ms.length + 1) := ⟨hG, hs, hl⟩; obtain ⟨r1, _, r3⟩ := HC.out _ _ _ _ _ _ _ _ hG; clear hG hs hl)
        | (go_at_call 28; refine Calls.mono (HP.out _ (by repeat (first | exact Upd.refl _ _ | refine Upd.drew ?_))) ?_; rintro e w2 ⟨rfl, hG⟩; have HG : Hid (LH w w2 l (n) b (L) (unwatchM M r A) v u ps ms Bx) := hG; obtain ⟨p1, _, p3⟩ := HC.out _ _ _ _ _ _ _ _ hG; clear hG))
    go_wp2_with fail
    go_ret
    exact ⟨rfl, n, _, _, _, _, _, _, by omega, by omega, HE.out.2.2, ⟨HE.out.1.less HBX.out, HS.out.1, HE.out.2.1⟩⟩
  · rcases (by omega : t = 3 ∨ t = 4 ∨ t = 5) with rfl | rfl | rfl
    · clear htl h35
      obtain ⟨bb, hbb⟩ : ∃ bb, bb = ((M r).isNone) := ⟨_, rfl⟩
      have HP : Hid (∀ W, Upd [] wz W → Calls Tryz.prog 21 #[.pointer (some ⟨l, 0, none⟩), .int .i64 r, .int .i64 A, .int .i64 B] W fun e w' => e = .returned (.bool bb) ∧ LH w w' l (n + 2) b (L) (watchM M r A B) v u ps ms Bx) := fun W hu => by
        rw [hbb]
        exact lh_watch (HH.out.upd hu) (by have := HI.out; omega) HI.out.2.2.1 HI.out.1 HI.out.2.1
      have HQ : Hid (∀ W, LH w W l (n + 2) b (L) (watchM M r A B) v u ps ms Bx → Calls Tryz.prog 30 #[.pointer (some ⟨b, 0, none⟩), .int .i64 r, .int .i64 A, .int .i64 B] W fun e w' => e = .returned (.bool bb) ∧ ∃ u' ms', LH w w' l (n + 2) b (L) (watchM M r A B) v u' ps ms' Bx ∧ MonsOf (watchM M r A B) ms' ∧ ms'.length ≤ ms.length + 1) := fun W h => by
        rw [hbb]
        exact lh_watchRef h HS.out.2 (by have := HI.out; omega) r A B
      clear hbb
      go_upto_region 13 with fail
      go_region_held3 (fun W => W.cell? ⟨z, 1, none⟩ = some (.int .i64 A) ∧ W.cell? ⟨z, 2, none⟩ = some (.int .i64 B) ∧ W.cell? ⟨z, 3, none⟩ = some (.int .i64 r))
        (go_keep)
        (first
          | (go_at_call 30; refine Calls.mono (HQ.out _ (HG.out.upd (by repeat (first | exact Upd.refl _ _ | refine Upd.drew ?_)))) ?_; rintro e w3 ⟨rfl, u', ms', hG, hs, hl⟩; have HE : Hid (LH w w3 l (n + 2) b (L) (watchM M r A B) v u' ps ms' Bx ∧ MonsOf (watchM M r A B) ms' ∧ ms'.length ≤ ms.length + 1) := ⟨hG, hs, hl⟩; obtain ⟨r1, r2, r3⟩ := HC.out _ _ _ _ _ _ _ _ hG; clear hG hs hl)
          | (go_at_call 21; refine Calls.mono (HP.out _ (by repeat (first | exact Upd.refl _ _ | refine Upd.drew ?_))) ?_; rintro e w2 ⟨rfl, hG⟩; have HG : Hid (LH w w2 l (n + 2) b (L) (watchM M r A B) v u ps ms Bx) := hG; obtain ⟨p1, p2, p3⟩ := HC.out _ _ _ _ _ _ _ _ hG; clear hG))
      go_wp2_with fail
      go_ret
      exact ⟨rfl, n + 2, _, _, _, _, _, _, by omega, by omega, HE.out.2.2, ⟨HE.out.1.less HBX.out, HS.out.1, HE.out.2.1⟩⟩
    · clear htl h35
      obtain ⟨bb, hbb⟩ : ∃ bb, bb = ((M r).isNone) := ⟨_, rfl⟩
      have HP : Hid (∀ W, Upd [] wz W → Calls Tryz.prog 21 #[.pointer (some ⟨l, 0, none⟩), .int .i64 r, .int .i64 A, .int .i64 B] W fun e w' => e = .returned (.bool bb) ∧ LH w w' l (n + 2) b (L) (watchM M r A B) v u ps ms Bx) := fun W hu => by
        rw [hbb]
        exact lh_watch (HH.out.upd hu) (by have := HI.out; omega) HI.out.2.2.1 HI.out.1 HI.out.2.1
      have HQ : Hid (∀ W, LH w W l (n + 2) b (L) (watchM M r A B) v u ps ms Bx → Calls Tryz.prog 30 #[.pointer (some ⟨b, 0, none⟩), .int .i64 r, .int .i64 A, .int .i64 B] W fun e w' => e = .returned (.bool bb) ∧ ∃ u' ms', LH w w' l (n + 2) b (L) (watchM M r A B) v u' ps ms' Bx ∧ MonsOf (watchM M r A B) ms' ∧ ms'.length ≤ ms.length + 1) := fun W h => by
        rw [hbb]
        exact lh_watchRef h HS.out.2 (by have := HI.out; omega) r A B
      clear hbb
      go_upto_region 13 with fail
      go_region_held3 (fun W => W.cell? ⟨z, 1, none⟩ = some (.int .i64 A) ∧ W.cell? ⟨z, 2, none⟩ = some (.int .i64 B) ∧ W.cell? ⟨z, 3, none⟩ = some (.int .i64 r))
        (go_keep)
        (first
          | (go_at_call 30; refine Calls.mono (HQ.out _ (HG.out.upd (by repeat (first | exact Upd.refl _ _ | refine Upd.drew ?_)))) ?_; rintro e w3 ⟨rfl, u', ms', hG, hs, hl⟩; have HE : Hid (LH w w3 l (n + 2) b (L) (watchM M r A B) v u' ps ms' Bx ∧ MonsOf (watchM M r A B) ms' ∧ ms'.length ≤ ms.length + 1) := ⟨hG, hs, hl⟩; obtain ⟨r1, r2, r3⟩ := HC.out _ _ _ _ _ _ _ _ hG; clear hG hs hl)
          | (go_at_call 21; refine Calls.mono (HP.out _ (by repeat (first | exact Upd.refl _ _ | refine Upd.drew ?_))) ?_; rintro e w2 ⟨rfl, hG⟩; have HG : Hid (LH w w2 l (n + 2) b (L) (watchM M r A B) v u ps ms Bx) := hG; obtain ⟨p1, p2, p3⟩ := HC.out _ _ _ _ _ _ _ _ hG; clear hG))
      go_wp2_with fail
      go_ret
      exact ⟨rfl, n + 2, _, _, _, _, _, _, by omega, by omega, HE.out.2.2, ⟨HE.out.1.less HBX.out, HS.out.1, HE.out.2.1⟩⟩
    · clear htl h35
      obtain ⟨bb, hbb⟩ : ∃ bb, bb = ((M r).isNone) := ⟨_, rfl⟩
      have HP : Hid (∀ W, Upd [] wz W → Calls Tryz.prog 21 #[.pointer (some ⟨l, 0, none⟩), .int .i64 r, .int .i64 A, .int .i64 B] W fun e w' => e = .returned (.bool bb) ∧ LH w w' l (n + 2) b (L) (watchM M r A B) v u ps ms Bx) := fun W hu => by
        rw [hbb]
        exact lh_watch (HH.out.upd hu) (by have := HI.out; omega) HI.out.2.2.1 HI.out.1 HI.out.2.1
      have HQ : Hid (∀ W, LH w W l (n + 2) b (L) (watchM M r A B) v u ps ms Bx → Calls Tryz.prog 30 #[.pointer (some ⟨b, 0, none⟩), .int .i64 r, .int .i64 A, .int .i64 B] W fun e w' => e = .returned (.bool bb) ∧ ∃ u' ms', LH w w' l (n + 2) b (L) (watchM M r A B) v u' ps ms' Bx ∧ MonsOf (watchM M r A B) ms' ∧ ms'.length ≤ ms.length + 1) := fun W h => by
        rw [hbb]
        exact lh_watchRef h HS.out.2 (by have := HI.out; omega) r A B
      clear hbb
      go_upto_region 13 with fail
      go_region_held3 (fun W => W.cell? ⟨z, 1, none⟩ = some (.int .i64 A) ∧ W.cell? ⟨z, 2, none⟩ = some (.int .i64 B) ∧ W.cell? ⟨z, 3, none⟩ = some (.int .i64 r))
        (go_keep)
        (first
          | (go_at_call 30; refine Calls.mono (HQ.out _ (HG.out.upd (by repeat (first | exact Upd.refl _ _ | refine Upd.drew ?_)))) ?_; rintro e w3 ⟨rfl, u', ms', hG, hs, hl⟩; have HE : Hid (LH w w3 l (n + 2) b (L) (watchM M r A B) v u' ps ms' Bx ∧ MonsOf (watchM M r A B) ms' ∧ ms'.length ≤ ms.length + 1) := ⟨hG, hs, hl⟩; obtain ⟨r1, r2, r3⟩ := HC.out _ _ _ _ _ _ _ _ hG; clear hG hs hl)
          | (go_at_call 21; refine Calls.mono (HP.out _ (by repeat (first | exact Upd.refl _ _ | refine Upd.drew ?_))) ?_; rintro e w2 ⟨rfl, hG⟩; have HG : Hid (LH w w2 l (n + 2) b (L) (watchM M r A B) v u ps ms Bx) := hG; obtain ⟨p1, p2, p3⟩ := HC.out _ _ _ _ _ _ _ _ hG; clear hG))
      go_wp2_with fail
      go_ret
      exact ⟨rfl, n + 2, _, _, _, _, _, _, by omega, by omega, HE.out.2.2, ⟨HE.out.1.less HBX.out, HS.out.1, HE.out.2.1⟩⟩
  · have t0 : (t == 0) = false := beq_eq_false_iff_ne.2 (by omega)
    have t1 : (t == 1) = false := beq_eq_false_iff_ne.2 (by omega)
    have t2 : (t == 2) = false := beq_eq_false_iff_ne.2 (by omega)
    have t3 : (t == 3) = false := beq_eq_false_iff_ne.2 (by omega)
    have t4 : (t == 4) = false := beq_eq_false_iff_ne.2 (by omega)
    have t5 : (t == 5) = false := beq_eq_false_iff_ne.2 (by omega)
    clear h6 htl
    obtain ⟨bb, hbb⟩ : ∃ bb, bb = (!(A == B) && !(L A B)) := ⟨_, rfl⟩
    have HP : Hid (∀ W, Upd [] wz W → Calls Tryz.prog 20 #[.pointer (some ⟨l, 0, none⟩), .int .i64 A, .int .i64 B] W fun e w' => e = .returned (.bool bb) ∧ LH w w' l (n + 2) b (linkL L A B) (M) v u ps ms Bx) := fun W hu => by
      rw [hbb]
      exact lh_link (HH.out.upd hu) (by have := HI.out; omega) HI.out.1 HI.out.2.1
    have HQ : Hid (∀ W, LH w W l (n + 2) b (linkL L A B) (M) v u ps ms Bx → Calls Tryz.prog 31 #[.pointer (some ⟨b, 0, none⟩), .int .i64 A, .int .i64 B] W fun e w' => e = .returned (.bool bb) ∧ ∃ v' ps', LH w w' l (n + 2) b (linkL L A B) (M) v' u ps' ms Bx ∧ SimL (linkL L A B) ps' ∧ ps'.length ≤ ps.length + 1) := fun W h => by
      rw [hbb]
      exact lh_linkRef h HS.out.1 (by have := HI.out; omega) A B
    clear hbb
    go_upto_region 14 with fail
    go_region_held3 (fun W => W.cell? ⟨z, 1, none⟩ = some (.int .i64 A) ∧ W.cell? ⟨z, 2, none⟩ = some (.int .i64 B))
      (go_keep)
      (first
        | (go_at_call 31; refine Calls.mono (HQ.out _ (HG.out.upd (by repeat (first | exact Upd.refl _ _ | refine Upd.drew ?_)))) ?_; rintro e w3 ⟨rfl, v', ps', hG, hs, hl⟩; have HE : Hid (LH w w3 l (n + 2) b (linkL L A B) (M) v' u ps' ms Bx ∧ SimL (linkL L A B) ps' ∧ ps'.length ≤ ps.length + 1) := ⟨hG, hs, hl⟩; obtain ⟨r1, r2, _⟩ := HC.out _ _ _ _ _ _ _ _ hG; clear hG hs hl)
        | (go_at_call 20; refine Calls.mono (HP.out _ (by repeat (first | exact Upd.refl _ _ | refine Upd.drew ?_))) ?_; rintro e w2 ⟨rfl, hG⟩; have HG : Hid (LH w w2 l (n + 2) b (linkL L A B) (M) v u ps ms Bx) := hG; obtain ⟨p1, p2, _⟩ := HC.out _ _ _ _ _ _ _ _ hG; clear hG))
    go_wp2_with fail
    go_ret
    exact ⟨rfl, n + 2, _, _, _, _, _, _, by omega, HE.out.2.2, by omega, ⟨HE.out.1.less HBX.out, HE.out.2.1, HS.out.2⟩⟩

end Go.Proofs.YtofcniodobjopaaGreat

/- LinkApart: what made leaves. -/
namespace Go.Proofs.YtofcniodobjopaaGreat
open Go.RowKit Go.Maps

section
variable {w wr : World} {l n b : Nat} {L : LF} {M : MF} {v u : Value} {ps : List (Int × Int)} {ms : List Mon}
theorem ly_start (hu : Upd [] w wr) {L : LF} {M : MF} (o : Lk wr l 0 (fun x => w.heap.size ≤ x ∧ x < wr.heap.size) L M) (hL : L = fun _ _ => false) (hM : M = fun _ => none) :
    LY w (wr.alloc (.cells #[.slice none 0 0, .slice none 0 0] 41)) l 0 wr.heap.size L M (.slice none 0 0) (.slice none 0 0) [] [] (fun _ _ => False) := by
  subst hL
  subst hM
  have h : LR w (wr.alloc (.cells #[.slice none 0 0, .slice none 0 0] 41)) l 0 wr.heap.size (fun _ _ => false) (fun _ => none) (.slice none 0 0) (.slice none 0 0) [] [] :=
    ⟨⟨_, o.upd ((Upd.refl [] wr).alloc _), fun x hx => hx.1, fun hx => Nat.lt_irrefl _ hx.2, (fun g hg => (by cases hg)), (fun g hg => (by cases hg))⟩, Cl.new _ _ _ _ rfl, hu.size, ⟨rfl, Or.inl ⟨rfl, rfl⟩⟩, ⟨rfl, Or.inl ⟨rfl, rfl⟩⟩, hu.alloc _, SimL.start, MonsOf.start⟩
  exact ⟨h.half, h.siml, h.simm⟩
end

def MadeR (w wr : World) (l m b : Nat) (s5 : Value) : Prop := ∃ (i n : Nat) (L : LF) (M : MF) (v u : Value) (ps : List (Int × Int)) (ms : List Mon), s5 = .int .i64 (i : Nat) ∧ i ≤ m ∧ n ≤ 2 * i ∧ ps.length ≤ i ∧ ms.length ≤ i ∧ LY w wr l n b L M v u ps ms (fun _ _ => False)

set_option maxHeartbeats 4000000 in
set_option maxRecDepth 100000 in
theorem made_any (w : World) (a : Option Addr) (m c0 : Nat) (hm : m ≤ 80) (hop : Steps w a m) : Calls Tryz.prog 4 #[.slice a m c0] w fun e w' => ∃ l n L M, e = .returned (.pointer (some ⟨l, 0, none⟩)) ∧ n ≤ 200 ∧ Ow w w' l n L M := by
  have HM : Hid (m ≤ 80 ∧ Steps w a m) := ⟨hm, hop⟩
  clear hop hm
  go_enter Tryz.func4, Tryz.ntmps4
  go_wp2_with fail
  refine Calls.mono (new_any w) ?_
  rintro e w2 ⟨l, rfl, o, hu⟩
  have H3 := ly_start hu o rfl rfl
  clear o hu
  go_wp2_with fail
  generalize hb : w2.heap.size = b at H3 ⊢
  clear hb
  go_loopw [5] (fun s5 wr => MadeR w wr l m b s5) (fun s5 _ => m - (intOf s5).toNat)
  case atStart => exact ⟨0, 0, _, _, _, _, _, _, rfl, Nat.zero_le _, Nat.zero_le _, Nat.zero_le _, Nat.zero_le _, H3⟩
  case round =>
    obtain ⟨i, n, L, M, v, u, ps, ms, rfl, him, hni, hpi, hmi, o⟩ := hrel
    have HO : Hid (LY w wr l n b L M v u ps ms (fun _ _ => False) ∧ n ≤ 2 * i ∧ ps.length ≤ i ∧ ms.length ≤ i) := ⟨o, hni, hpi, hmi⟩
    clear o hni hpi hmi H3
    by_cases hlt : i < m
    · have i1 : (i : Int) < (m : Int) := by omega
      have i80 : (i : Int) < 80 := by have := HM.out.1; omega
      obtain ⟨gl, ol, op, A, B, r, hae, hgl, k0, k1, k2, k3, hI⟩ := HM.out.2 i hlt
      subst hae
      have hl0 : wr.cell? ⟨gl, ol + i * 4, none⟩ = some (.int .i64 op) := (HO.out.1.half.up.cell (p := ⟨gl, ol + i * 4, none⟩) hgl (by simp)).trans k0
      have hl1 : wr.cell? ⟨gl, ol + i * 4 + 1, none⟩ = some (.int .i64 A) := (HO.out.1.half.up.cell (p := ⟨gl, ol + i * 4 + 1, none⟩) hgl (by simp)).trans k1
      have hl2 : wr.cell? ⟨gl, ol + i * 4 + 2, none⟩ = some (.int .i64 B) := (HO.out.1.half.up.cell (p := ⟨gl, ol + i * 4 + 2, none⟩) hgl (by simp)).trans k2
      have hl3 : wr.cell? ⟨gl, ol + i * 4 + 3, none⟩ = some (.int .i64 r) := (HO.out.1.half.up.cell (p := ⟨gl, ol + i * 4 + 3, none⟩) hgl (by simp)).trans k3
      have HI : Hid (I64 op ∧ I64 A ∧ I64 B ∧ I64 r) := hI
      clear k0 k1 k2 k3 hgl hI
      go_wp2_with fail
      refine Calls.mono (step_any2 HO.out.1 (by have := HO.out; have := HM.out.1; omega) (by have := HO.out; have := HM.out.1; omega) (by have := HO.out; have := HM.out.1; omega) HI.out.2.1 HI.out.2.2.1 HI.out.2.2.2) ?_
      rintro en w5 ⟨rfl, n', L', M', v', u', ps', ms', hn', hp', hm', o5⟩
      have HN : Hid (n' ≤ 2 * (i + 1) ∧ ps'.length ≤ i + 1 ∧ ms'.length ≤ i + 1) := ⟨by have := HO.out; omega, by have := HO.out; omega, by have := HO.out; omega⟩
      have H5 : Hid (LY w w5 l n' b L' M' v' u' ps' ms' (fun _ _ => False)) := o5
      clear hn' hp' hm' o5 hl0 hl1 hl2 hl3
      go_wp2_with fail
      go_roundw
      case rel => exact ⟨i + 1, n', L', M', v', u', ps', ms', by go_num, by omega, HN.out.1, HN.out.2.1, HN.out.2.2, H5.out⟩
      case measure => simp [intOf]; omega
    · have i1 : decide ((i : Int) < (m : Int)) = false := by simp; omega
      have hn200 : n ≤ 200 := by have := HO.out; have := HM.out.1; omega
      obtain ⟨P, o, h1, _⟩ := HO.out.1.half.obj
      have HW : Hid (Ow w wr l n L M) := ⟨P, o, h1, HO.out.1.half.up⟩
      clear o h1 HO
      go_wp2_with fail
      go_ret
      exact ⟨l, n, L, M, rfl, hn200, HW.out⟩

end Go.Proofs.YtofcniodobjopaaGreat
