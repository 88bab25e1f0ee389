/- renew of a row of one term without rows. -/
import Derived.Test.YtmdkhkeljpdbiaaMlC
import Derived.Handy
namespace Go.Proofs.Ytmdkhkeljpdbiaa
open Go.RowKit

theorem FunB.neT {w : World} {b g : Nat} {v : Value} {T : TypeId} {cs : Array Value} (h : FunB w b v T) (h' : Tb w g cs) (hT : T ≠ 26) : b ≠ g := fun e => by
  subst e
  have := h.symm.trans h'
  simp at this
  exact hT this.2

set_option maxHeartbeats 1000000 in
set_option maxRecDepth 100000 in
theorem renew_fl (w : World) (g c bl bt br bw : Nat) (d k n : Int) (b : Bool) (s : ByteArray) (p q p' q' : Value) (hg : Tb w g (fl k b s n))
    (hl : FunB w bl (.func (.func 37) #[] #[p, q]) 63) (ht : FunB w bt (.func (.func 35) #[] #[p', q']) 61) :
    Calls Try.prog 34 #[.slice (some ⟨g, 0, none⟩) 1 c, .int .i64 d, .pointer (some ⟨bl, 0, none⟩), .pointer (some ⟨bt, 0, none⟩), .pointer (some ⟨br, 0, none⟩), .pointer (some ⟨bw, 0, none⟩)] w fun e w' => e = .returned (.tuple #[]) ∧ Tb w' g (fl k b s n) ∧ Upd [g] w w' := by
  have UZ : Hid (Upd [g] w w) := Upd.refl _ _
  have hi0 : ∀ w, (Instr.index 70 (.agg #[.pointer (some ⟨g, 5, none⟩), .pointer (some ⟨g, 6, none⟩)]) (.int .i64 0)).run Try.prog w = .ok (.pointer (some ⟨g, 5, none⟩)) w := fun w => by rfl
  have hi1 : ∀ w, (Instr.index 70 (.agg #[.pointer (some ⟨g, 5, none⟩), .pointer (some ⟨g, 6, none⟩)]) (.int .i64 1)).run Try.prog w = .ok (.pointer (some ⟨g, 6, none⟩)) w := fun w => by rfl
  have HL : Hid (bl ≠ g) := hl.neT hg (by decide)
  have HT : Hid (bt ≠ g) := ht.neT hg (by decide)
  go_enter Try.func34, Try.ntmps34
  go_wp2_with fail
  refine wp_loop_rounds 2 ?_
  rw [rounds_succ]
  go_wp2_with fail
  refine wp_region_held_drew (S := fun W => FunB W bl (.func (.func 37) #[] #[p, q]) 63 ∧ FunB W bt (.func (.func 35) #[] #[p', q']) 61 ∧ Tb W g (fl k b s n)) (by kernel_rfl) ⟨hl, ht, hg⟩ (fun hS => ?_)
  obtain ⟨wd, hwd⟩ : ∃ v, v = w.drew := ⟨_, rfl⟩
  rw [← hwd] at hS ⊢
  have U0 : Hid (Upd [g] w wd) := by rw [hwd]; exact UZ.out.drew
  clear hwd
  clear hg hl ht UZ
  refine wpAnyH_take (i := 0) (v := .slice (some ⟨g, 0, none⟩) 1 c) rfl (by kernel_rfl) (by kernel_rfl) (by kernel_rfl) (fun _ _ _ h => h) (Or.inl ⟨by rfl, ?_⟩) hS ?_
  · intro W hW; obtain ⟨h1, h2, h3⟩ := hW; have e0 := h1.cell; have e1 := h2.cell; have e2 : W.cell? ⟨g, 2, none⟩ = some (.slice none 0 0) := h3.cell 2; have e3 : W.cell? ⟨g, 5, none⟩ = some (.slice none 0 0) := h3.cell 5; have e4 : W.cell? ⟨g, 6, none⟩ = some (.slice none 0 0) := h3.cell 6; go_simp
  refine wpAnyH_take (i := 1) (v := .int .i64 0) rfl (by kernel_rfl) (by kernel_rfl) (by kernel_rfl) (fun _ _ _ h => h) (Or.inl ⟨by rfl, ?_⟩) hS ?_
  · intro W hW; obtain ⟨h1, h2, h3⟩ := hW; have e0 := h1.cell; have e1 := h2.cell; have e2 : W.cell? ⟨g, 2, none⟩ = some (.slice none 0 0) := h3.cell 2; have e3 : W.cell? ⟨g, 5, none⟩ = some (.slice none 0 0) := h3.cell 5; have e4 : W.cell? ⟨g, 6, none⟩ = some (.slice none 0 0) := h3.cell 6; go_simp
  refine wpAnyH_take (i := 2) (v := .func (.func 37) #[] #[p, q]) rfl (by kernel_rfl) (by kernel_rfl) (by kernel_rfl) (fun _ _ _ h => h) (Or.inl ⟨by rfl, ?_⟩) hS ?_
  · intro W hW; obtain ⟨h1, h2, h3⟩ := hW; have e0 := h1.cell; have e1 := h2.cell; have e2 : W.cell? ⟨g, 2, none⟩ = some (.slice none 0 0) := h3.cell 2; have e3 : W.cell? ⟨g, 5, none⟩ = some (.slice none 0 0) := h3.cell 5; have e4 : W.cell? ⟨g, 6, none⟩ = some (.slice none 0 0) := h3.cell 6; go_simp
  refine wpAnyH_take (i := 3) (v := .slice (some ⟨g, 0, none⟩) 1 c) rfl (by kernel_rfl) (by kernel_rfl) (by kernel_rfl) (fun _ _ _ h => h) (Or.inl ⟨by rfl, ?_⟩) hS ?_
  · intro W hW; obtain ⟨h1, h2, h3⟩ := hW; have e0 := h1.cell; have e1 := h2.cell; have e2 : W.cell? ⟨g, 2, none⟩ = some (.slice none 0 0) := h3.cell 2; have e3 : W.cell? ⟨g, 5, none⟩ = some (.slice none 0 0) := h3.cell 5; have e4 : W.cell? ⟨g, 6, none⟩ = some (.slice none 0 0) := h3.cell 6; go_simp
  refine wpAnyH_take (i := 4) (v := .int .i64 0) rfl (by kernel_rfl) (by kernel_rfl) (by kernel_rfl) (fun _ _ _ h => h) (Or.inl ⟨by rfl, ?_⟩) hS ?_
  · intro W hW; obtain ⟨h1, h2, h3⟩ := hW; have e0 := h1.cell; have e1 := h2.cell; have e2 : W.cell? ⟨g, 2, none⟩ = some (.slice none 0 0) := h3.cell 2; have e3 : W.cell? ⟨g, 5, none⟩ = some (.slice none 0 0) := h3.cell 5; have e4 : W.cell? ⟨g, 6, none⟩ = some (.slice none 0 0) := h3.cell 6; go_simp
  refine wpAnyH_take (i := 5) (v := .pointer (some ⟨g, 0, none⟩)) rfl (by kernel_rfl) (by kernel_rfl) (by kernel_rfl) (fun _ _ _ h => h) (Or.inl ⟨by rfl, ?_⟩) hS ?_
  · intro W hW; obtain ⟨h1, h2, h3⟩ := hW; have e0 := h1.cell; have e1 := h2.cell; have e2 : W.cell? ⟨g, 2, none⟩ = some (.slice none 0 0) := h3.cell 2; have e3 : W.cell? ⟨g, 5, none⟩ = some (.slice none 0 0) := h3.cell 5; have e4 : W.cell? ⟨g, 6, none⟩ = some (.slice none 0 0) := h3.cell 6; go_simp
  refine wpAnyH_take (i := 6) (v := .pointer (some ⟨g, 2, none⟩)) rfl (by kernel_rfl) (by kernel_rfl) (by kernel_rfl) (fun _ _ _ h => h) (Or.inl ⟨by rfl, ?_⟩) hS ?_
  · intro W hW; obtain ⟨h1, h2, h3⟩ := hW; have e0 := h1.cell; have e1 := h2.cell; have e2 : W.cell? ⟨g, 2, none⟩ = some (.slice none 0 0) := h3.cell 2; have e3 : W.cell? ⟨g, 5, none⟩ = some (.slice none 0 0) := h3.cell 5; have e4 : W.cell? ⟨g, 6, none⟩ = some (.slice none 0 0) := h3.cell 6; go_simp
  refine wpAnyH_take (i := 7) (v := .slice none 0 0) rfl (by kernel_rfl) (by kernel_rfl) (by kernel_rfl) (fun _ _ _ h => h) (Or.inl ⟨by rfl, ?_⟩) hS ?_
  · intro W hW; obtain ⟨h1, h2, h3⟩ := hW; have e0 := h1.cell; have e1 := h2.cell; have e2 : W.cell? ⟨g, 2, none⟩ = some (.slice none 0 0) := h3.cell 2; have e3 : W.cell? ⟨g, 5, none⟩ = some (.slice none 0 0) := h3.cell 5; have e4 : W.cell? ⟨g, 6, none⟩ = some (.slice none 0 0) := h3.cell 6; go_simp
  simp only [Act.put, List.getElem_toArray, List.getElem_cons_succ, List.getElem_cons_zero, List.setIfInBounds_toArray, List.set_cons_succ, List.set_cons_zero]
  refine wpAnyH_ready (rs := [8]) (by kernel_rfl) (by simp) (AllReadyH.cons rfl (fun K hK => ?_) AllReadyH.nil)
  go_simp
  refine (cll_none _ _ _ _ _).mono ?_
  rintro en w1 ⟨rfl, hw1⟩
  rw [hw1]
  clear hw1 w1
  refine hK.out _ _ hS (fun _ => ?_)
  clear hK K
  refine wpAnyH_take (i := 9) (v := .tuple #[.slice none 0 0, .bool false]) rfl (by kernel_rfl) (by kernel_rfl) (by kernel_rfl) (fun _ _ _ h => h) (Or.inl ⟨by rfl, ?_⟩) hS ?_
  · intro W hW; obtain ⟨h1, h2, h3⟩ := hW; have e0 := h1.cell; have e1 := h2.cell; have e2 : W.cell? ⟨g, 2, none⟩ = some (.slice none 0 0) := h3.cell 2; have e3 : W.cell? ⟨g, 5, none⟩ = some (.slice none 0 0) := h3.cell 5; have e4 : W.cell? ⟨g, 6, none⟩ = some (.slice none 0 0) := h3.cell 6; go_simp
  refine wpAnyH_take (i := 10) (v := .slice none 0 0) rfl (by kernel_rfl) (by kernel_rfl) (by kernel_rfl) (fun _ _ _ h => h) (Or.inl ⟨by rfl, ?_⟩) hS ?_
  · intro W hW; obtain ⟨h1, h2, h3⟩ := hW; have e0 := h1.cell; have e1 := h2.cell; have e2 : W.cell? ⟨g, 2, none⟩ = some (.slice none 0 0) := h3.cell 2; have e3 : W.cell? ⟨g, 5, none⟩ = some (.slice none 0 0) := h3.cell 5; have e4 : W.cell? ⟨g, 6, none⟩ = some (.slice none 0 0) := h3.cell 6; go_simp
  refine wpAnyH_take (i := 11) (v := .bool false) rfl (by kernel_rfl) (by kernel_rfl) (by kernel_rfl) (fun _ _ _ h => h) (Or.inl ⟨by rfl, ?_⟩) hS ?_
  · intro W hW; obtain ⟨h1, h2, h3⟩ := hW; have e0 := h1.cell; have e1 := h2.cell; have e2 : W.cell? ⟨g, 2, none⟩ = some (.slice none 0 0) := h3.cell 2; have e3 : W.cell? ⟨g, 5, none⟩ = some (.slice none 0 0) := h3.cell 5; have e4 : W.cell? ⟨g, 6, none⟩ = some (.slice none 0 0) := h3.cell 6; go_simp
  refine wpAnyH_take (i := 12) (v := .pointer (some ⟨g, 0, none⟩)) rfl (by kernel_rfl) (by kernel_rfl) (by kernel_rfl) (fun _ _ _ h => h) (Or.inl ⟨by rfl, ?_⟩) hS ?_
  · intro W hW; obtain ⟨h1, h2, h3⟩ := hW; have e0 := h1.cell; have e1 := h2.cell; have e2 : W.cell? ⟨g, 2, none⟩ = some (.slice none 0 0) := h3.cell 2; have e3 : W.cell? ⟨g, 5, none⟩ = some (.slice none 0 0) := h3.cell 5; have e4 : W.cell? ⟨g, 6, none⟩ = some (.slice none 0 0) := h3.cell 6; go_simp
  refine wpAnyH_take (i := 13) (v := .pointer (some ⟨g, 2, none⟩)) rfl (by kernel_rfl) (by kernel_rfl) (by kernel_rfl) (fun _ _ _ h => h) (Or.inl ⟨by rfl, ?_⟩) hS ?_
  · intro W hW; obtain ⟨h1, h2, h3⟩ := hW; have e0 := h1.cell; have e1 := h2.cell; have e2 : W.cell? ⟨g, 2, none⟩ = some (.slice none 0 0) := h3.cell 2; have e3 : W.cell? ⟨g, 5, none⟩ = some (.slice none 0 0) := h3.cell 5; have e4 : W.cell? ⟨g, 6, none⟩ = some (.slice none 0 0) := h3.cell 6; go_simp
  simp only [Act.put, List.getElem_toArray, List.getElem_cons_succ, List.getElem_cons_zero, List.setIfInBounds_toArray, List.set_cons_succ, List.set_cons_zero]
  have c0 : wd.cell? ⟨g, 2, none⟩ = some (.slice none 0 0) := hS.2.2.cell 2
  have c1 := hS.2.2.free 2
  refine wpAnyH_ready (rs := [14]) (by kernel_rfl) (by simp) (AllReadyH.cons rfl (fun K hK => ?_) AllReadyH.nil)
  go_simp
  obtain ⟨w1, hw1⟩ : ∃ v, v = wd.setCell ⟨g, 2, none⟩ (.slice none 0 0) := ⟨_, rfl⟩
  rw [← hw1]
  have hb0 : FunB w1 bl (.func (.func 37) #[] #[p, q]) 63 := by rw [hw1]; exact hS.1.mono ((Upd.refl [g] _).setCell (Or.inr (by simp)) _) (by simpa using HL.out)
  have hb1 : FunB w1 bt (.func (.func 35) #[] #[p', q']) 61 := by rw [hw1]; exact hS.2.1.mono ((Upd.refl [g] _).setCell (Or.inr (by simp)) _) (by simpa using HT.out)
  have hb2 : Tb w1 g (fl k b s n) := by rw [hw1]; exact hS.2.2.set 2 _
  have U1 : Hid (Upd [g] w w1) := by rw [hw1]; exact U0.out.setCell (Or.inr (by simp)) _
  have hS1 := And.intro hb0 (And.intro hb1 hb2)
  clear hw1 c0 c1 hb0 hb1 hb2
  refine hK.out _ _ hS1 (fun _ => ?_)
  clear hK K hS U0
  refine wpAnyH_done (by kernel_rfl) ?_ _
  go_wp2_with fail
  refine wp_region_held_drew (S := fun W => FunB W bl (.func (.func 37) #[] #[p, q]) 63 ∧ FunB W bt (.func (.func 35) #[] #[p', q']) 61 ∧ Tb W g (fl k b s n)) (by kernel_rfl) hS1 (fun hS => ?_)
  obtain ⟨w2, hwd⟩ : ∃ v, v = w1.drew := ⟨_, rfl⟩
  rw [← hwd] at hS ⊢
  have U2 : Hid (Upd [g] w w2) := by rw [hwd]; exact U1.out.drew
  clear hwd
  clear hS1 U1
  refine wpAnyH_take (i := 0) (v := .slice (some ⟨g, 0, none⟩) 1 c) rfl (by kernel_rfl) (by kernel_rfl) (by kernel_rfl) (fun _ _ _ h => h) (Or.inl ⟨by rfl, ?_⟩) hS ?_
  · intro W hW; obtain ⟨h1, h2, h3⟩ := hW; have e0 := h1.cell; have e1 := h2.cell; have e2 : W.cell? ⟨g, 2, none⟩ = some (.slice none 0 0) := h3.cell 2; have e3 : W.cell? ⟨g, 5, none⟩ = some (.slice none 0 0) := h3.cell 5; have e4 : W.cell? ⟨g, 6, none⟩ = some (.slice none 0 0) := h3.cell 6; go_simp
  refine wpAnyH_take (i := 1) (v := .int .i64 0) rfl (by kernel_rfl) (by kernel_rfl) (by kernel_rfl) (fun _ _ _ h => h) (Or.inl ⟨by rfl, ?_⟩) hS ?_
  · intro W hW; obtain ⟨h1, h2, h3⟩ := hW; have e0 := h1.cell; have e1 := h2.cell; have e2 : W.cell? ⟨g, 2, none⟩ = some (.slice none 0 0) := h3.cell 2; have e3 : W.cell? ⟨g, 5, none⟩ = some (.slice none 0 0) := h3.cell 5; have e4 : W.cell? ⟨g, 6, none⟩ = some (.slice none 0 0) := h3.cell 6; go_simp
  refine wpAnyH_take (i := 2) (v := .pointer (some ⟨g, 0, none⟩)) rfl (by kernel_rfl) (by kernel_rfl) (by kernel_rfl) (fun _ _ _ h => h) (Or.inl ⟨by rfl, ?_⟩) hS ?_
  · intro W hW; obtain ⟨h1, h2, h3⟩ := hW; have e0 := h1.cell; have e1 := h2.cell; have e2 : W.cell? ⟨g, 2, none⟩ = some (.slice none 0 0) := h3.cell 2; have e3 : W.cell? ⟨g, 5, none⟩ = some (.slice none 0 0) := h3.cell 5; have e4 : W.cell? ⟨g, 6, none⟩ = some (.slice none 0 0) := h3.cell 6; go_simp
  refine wpAnyH_take (i := 3) (v := .pointer (some ⟨g, 5, none⟩)) rfl (by kernel_rfl) (by kernel_rfl) (by kernel_rfl) (fun _ _ _ h => h) (Or.inl ⟨by rfl, ?_⟩) hS ?_
  · intro W hW; obtain ⟨h1, h2, h3⟩ := hW; have e0 := h1.cell; have e1 := h2.cell; have e2 : W.cell? ⟨g, 2, none⟩ = some (.slice none 0 0) := h3.cell 2; have e3 : W.cell? ⟨g, 5, none⟩ = some (.slice none 0 0) := h3.cell 5; have e4 : W.cell? ⟨g, 6, none⟩ = some (.slice none 0 0) := h3.cell 6; go_simp
  refine wpAnyH_take (i := 4) (v := .slice (some ⟨g, 0, none⟩) 1 c) rfl (by kernel_rfl) (by kernel_rfl) (by kernel_rfl) (fun _ _ _ h => h) (Or.inl ⟨by rfl, ?_⟩) hS ?_
  · intro W hW; obtain ⟨h1, h2, h3⟩ := hW; have e0 := h1.cell; have e1 := h2.cell; have e2 : W.cell? ⟨g, 2, none⟩ = some (.slice none 0 0) := h3.cell 2; have e3 : W.cell? ⟨g, 5, none⟩ = some (.slice none 0 0) := h3.cell 5; have e4 : W.cell? ⟨g, 6, none⟩ = some (.slice none 0 0) := h3.cell 6; go_simp
  refine wpAnyH_take (i := 5) (v := .int .i64 0) rfl (by kernel_rfl) (by kernel_rfl) (by kernel_rfl) (fun _ _ _ h => h) (Or.inl ⟨by rfl, ?_⟩) hS ?_
  · intro W hW; obtain ⟨h1, h2, h3⟩ := hW; have e0 := h1.cell; have e1 := h2.cell; have e2 : W.cell? ⟨g, 2, none⟩ = some (.slice none 0 0) := h3.cell 2; have e3 : W.cell? ⟨g, 5, none⟩ = some (.slice none 0 0) := h3.cell 5; have e4 : W.cell? ⟨g, 6, none⟩ = some (.slice none 0 0) := h3.cell 6; go_simp
  refine wpAnyH_take (i := 6) (v := .pointer (some ⟨g, 0, none⟩)) rfl (by kernel_rfl) (by kernel_rfl) (by kernel_rfl) (fun _ _ _ h => h) (Or.inl ⟨by rfl, ?_⟩) hS ?_
  · intro W hW; obtain ⟨h1, h2, h3⟩ := hW; have e0 := h1.cell; have e1 := h2.cell; have e2 : W.cell? ⟨g, 2, none⟩ = some (.slice none 0 0) := h3.cell 2; have e3 : W.cell? ⟨g, 5, none⟩ = some (.slice none 0 0) := h3.cell 5; have e4 : W.cell? ⟨g, 6, none⟩ = some (.slice none 0 0) := h3.cell 6; go_simp
  refine wpAnyH_take (i := 7) (v := .pointer (some ⟨g, 6, none⟩)) rfl (by kernel_rfl) (by kernel_rfl) (by kernel_rfl) (fun _ _ _ h => h) (Or.inl ⟨by rfl, ?_⟩) hS ?_
  · intro W hW; obtain ⟨h1, h2, h3⟩ := hW; have e0 := h1.cell; have e1 := h2.cell; have e2 : W.cell? ⟨g, 2, none⟩ = some (.slice none 0 0) := h3.cell 2; have e3 : W.cell? ⟨g, 5, none⟩ = some (.slice none 0 0) := h3.cell 5; have e4 : W.cell? ⟨g, 6, none⟩ = some (.slice none 0 0) := h3.cell 6; go_simp
  refine wpAnyH_take (i := 8) (v := .agg #[.pointer (some ⟨g, 5, none⟩), .pointer (some ⟨g, 6, none⟩)]) rfl (by kernel_rfl) (by kernel_rfl) (by kernel_rfl) (fun _ _ _ h => h) (Or.inl ⟨by rfl, ?_⟩) hS ?_
  · intro W hW; obtain ⟨h1, h2, h3⟩ := hW; have e0 := h1.cell; have e1 := h2.cell; have e2 : W.cell? ⟨g, 2, none⟩ = some (.slice none 0 0) := h3.cell 2; have e3 : W.cell? ⟨g, 5, none⟩ = some (.slice none 0 0) := h3.cell 5; have e4 : W.cell? ⟨g, 6, none⟩ = some (.slice none 0 0) := h3.cell 6; go_simp
  refine wpAnyH_take (i := 9) (v := .int .i64 0) rfl (by kernel_rfl) (by kernel_rfl) (by kernel_rfl) (fun _ _ _ h => h) (Or.inl ⟨by rfl, ?_⟩) hS ?_
  · intro W hW; obtain ⟨h1, h2, h3⟩ := hW; have e0 := h1.cell; have e1 := h2.cell; have e2 : W.cell? ⟨g, 2, none⟩ = some (.slice none 0 0) := h3.cell 2; have e3 : W.cell? ⟨g, 5, none⟩ = some (.slice none 0 0) := h3.cell 5; have e4 : W.cell? ⟨g, 6, none⟩ = some (.slice none 0 0) := h3.cell 6; go_simp
  simp only [Act.put, List.getElem_toArray, List.getElem_cons_succ, List.getElem_cons_zero, List.setIfInBounds_toArray, List.set_cons_succ, List.set_cons_zero]
  refine wpAnyH_done (by kernel_rfl) ?_ _
  have hS2 := hS
  clear hS
  go_wp2_with fail
  refine wp_loop_rounds 3 ?_
  rw [rounds_succ]
  go_wp2_with fail
  refine wp_region_held_drew (S := fun W => FunB W bl (.func (.func 37) #[] #[p, q]) 63 ∧ FunB W bt (.func (.func 35) #[] #[p', q']) 61 ∧ Tb W g (fl k b s n)) (by kernel_rfl) hS2 (fun hS => ?_)
  obtain ⟨w3, hwd⟩ : ∃ v, v = w2.drew := ⟨_, rfl⟩
  rw [← hwd] at hS ⊢
  have U3 : Hid (Upd [g] w w3) := by rw [hwd]; exact U2.out.drew
  clear hwd
  clear hS2 U2
  refine wpAnyH_take (i := 0) (v := .func (.func 35) #[] #[p', q']) rfl (by kernel_rfl) (by kernel_rfl) (by kernel_rfl) (fun _ _ _ h => h) (Or.inl ⟨by rfl, ?_⟩) hS ?_
  · intro W hW; obtain ⟨h1, h2, h3⟩ := hW; have e0 := h1.cell; have e1 := h2.cell; have e2 : W.cell? ⟨g, 2, none⟩ = some (.slice none 0 0) := h3.cell 2; have e3 : W.cell? ⟨g, 5, none⟩ = some (.slice none 0 0) := h3.cell 5; have e4 : W.cell? ⟨g, 6, none⟩ = some (.slice none 0 0) := h3.cell 6; go_simp
  refine wpAnyH_take (i := 1) (v := .pointer (some ⟨g, 5, none⟩)) rfl (by kernel_rfl) (by kernel_rfl) (by kernel_rfl) (fun _ _ _ h => h) (Or.inl ⟨by rfl, ?_⟩) hS ?_
  · intro W hW; obtain ⟨h1, h2, h3⟩ := hW; have e0 := h1.cell; have e1 := h2.cell; have e2 : W.cell? ⟨g, 2, none⟩ = some (.slice none 0 0) := h3.cell 2; have e3 : W.cell? ⟨g, 5, none⟩ = some (.slice none 0 0) := h3.cell 5; have e4 : W.cell? ⟨g, 6, none⟩ = some (.slice none 0 0) := h3.cell 6; go_simp
  refine wpAnyH_take (i := 2) (v := .pointer (some ⟨g, 5, none⟩)) rfl (by kernel_rfl) (by kernel_rfl) (by kernel_rfl) (fun _ _ _ h => h) (Or.inl ⟨by rfl, ?_⟩) hS ?_
  · intro W hW; obtain ⟨h1, h2, h3⟩ := hW; have e0 := h1.cell; have e1 := h2.cell; have e2 : W.cell? ⟨g, 2, none⟩ = some (.slice none 0 0) := h3.cell 2; have e3 : W.cell? ⟨g, 5, none⟩ = some (.slice none 0 0) := h3.cell 5; have e4 : W.cell? ⟨g, 6, none⟩ = some (.slice none 0 0) := h3.cell 6; go_simp
  refine wpAnyH_take (i := 3) (v := .slice none 0 0) rfl (by kernel_rfl) (by kernel_rfl) (by kernel_rfl) (fun _ _ _ h => h) (Or.inl ⟨by rfl, ?_⟩) hS ?_
  · intro W hW; obtain ⟨h1, h2, h3⟩ := hW; have e0 := h1.cell; have e1 := h2.cell; have e2 : W.cell? ⟨g, 2, none⟩ = some (.slice none 0 0) := h3.cell 2; have e3 : W.cell? ⟨g, 5, none⟩ = some (.slice none 0 0) := h3.cell 5; have e4 : W.cell? ⟨g, 6, none⟩ = some (.slice none 0 0) := h3.cell 6; go_simp
  simp only [Act.put, List.getElem_toArray, List.getElem_cons_succ, List.getElem_cons_zero, List.setIfInBounds_toArray, List.set_cons_succ, List.set_cons_zero]
  refine wpAnyH_ready (rs := [4]) (by kernel_rfl) (by simp) (AllReadyH.cons rfl (fun K hK => ?_) AllReadyH.nil)
  go_simp
  refine (clt_none _ _ _ _ _).mono ?_
  rintro en w1 ⟨rfl, hw1⟩
  rw [hw1]
  clear hw1 w1
  refine hK.out _ _ hS (fun _ => ?_)
  clear hK K
  refine wpAnyH_take (i := 5) (v := .tuple #[.slice none 0 0, .bool false]) rfl (by kernel_rfl) (by kernel_rfl) (by kernel_rfl) (fun _ _ _ h => h) (Or.inl ⟨by rfl, ?_⟩) hS ?_
  · intro W hW; obtain ⟨h1, h2, h3⟩ := hW; have e0 := h1.cell; have e1 := h2.cell; have e2 : W.cell? ⟨g, 2, none⟩ = some (.slice none 0 0) := h3.cell 2; have e3 : W.cell? ⟨g, 5, none⟩ = some (.slice none 0 0) := h3.cell 5; have e4 : W.cell? ⟨g, 6, none⟩ = some (.slice none 0 0) := h3.cell 6; go_simp
  refine wpAnyH_take (i := 6) (v := .slice none 0 0) rfl (by kernel_rfl) (by kernel_rfl) (by kernel_rfl) (fun _ _ _ h => h) (Or.inl ⟨by rfl, ?_⟩) hS ?_
  · intro W hW; obtain ⟨h1, h2, h3⟩ := hW; have e0 := h1.cell; have e1 := h2.cell; have e2 : W.cell? ⟨g, 2, none⟩ = some (.slice none 0 0) := h3.cell 2; have e3 : W.cell? ⟨g, 5, none⟩ = some (.slice none 0 0) := h3.cell 5; have e4 : W.cell? ⟨g, 6, none⟩ = some (.slice none 0 0) := h3.cell 6; go_simp
  refine wpAnyH_take (i := 7) (v := .bool false) rfl (by kernel_rfl) (by kernel_rfl) (by kernel_rfl) (fun _ _ _ h => h) (Or.inl ⟨by rfl, ?_⟩) hS ?_
  · intro W hW; obtain ⟨h1, h2, h3⟩ := hW; have e0 := h1.cell; have e1 := h2.cell; have e2 : W.cell? ⟨g, 2, none⟩ = some (.slice none 0 0) := h3.cell 2; have e3 : W.cell? ⟨g, 5, none⟩ = some (.slice none 0 0) := h3.cell 5; have e4 : W.cell? ⟨g, 6, none⟩ = some (.slice none 0 0) := h3.cell 6; go_simp
  refine wpAnyH_take (i := 8) (v := .slice none 0 0) rfl (by kernel_rfl) (by kernel_rfl) (by kernel_rfl) (fun _ _ _ h => h) (Or.inl ⟨by rfl, ?_⟩) hS ?_
  · intro W hW; obtain ⟨h1, h2, h3⟩ := hW; have e0 := h1.cell; have e1 := h2.cell; have e2 : W.cell? ⟨g, 2, none⟩ = some (.slice none 0 0) := h3.cell 2; have e3 : W.cell? ⟨g, 5, none⟩ = some (.slice none 0 0) := h3.cell 5; have e4 : W.cell? ⟨g, 6, none⟩ = some (.slice none 0 0) := h3.cell 6; go_simp
  refine wpAnyH_take (i := 9) (v := .bool false) rfl (by kernel_rfl) (by kernel_rfl) (by kernel_rfl) (fun _ _ _ h => h) (Or.inl ⟨by rfl, ?_⟩) hS ?_
  · intro W hW; obtain ⟨h1, h2, h3⟩ := hW; have e0 := h1.cell; have e1 := h2.cell; have e2 : W.cell? ⟨g, 2, none⟩ = some (.slice none 0 0) := h3.cell 2; have e3 : W.cell? ⟨g, 5, none⟩ = some (.slice none 0 0) := h3.cell 5; have e4 : W.cell? ⟨g, 6, none⟩ = some (.slice none 0 0) := h3.cell 6; go_simp
  simp only [Act.put, List.getElem_toArray, List.getElem_cons_succ, List.getElem_cons_zero, List.setIfInBounds_toArray, List.set_cons_succ, List.set_cons_zero]
  refine wpAnyH_done (by kernel_rfl) ?_ _
  have c0 : w3.cell? ⟨g, 5, none⟩ = some (.slice none 0 0) := hS.2.2.cell 5
  have c1 := hS.2.2.free 5
  go_wp2_with fail
  obtain ⟨w4, hw1⟩ : ∃ v, v = w3.setCell ⟨g, 5, none⟩ (.slice none 0 0) := ⟨_, rfl⟩
  rw [← hw1]
  have hb0 : FunB w4 bl (.func (.func 37) #[] #[p, q]) 63 := by rw [hw1]; exact hS.1.mono ((Upd.refl [g] _).setCell (Or.inr (by simp)) _) (by simpa using HL.out)
  have hb1 : FunB w4 bt (.func (.func 35) #[] #[p', q']) 61 := by rw [hw1]; exact hS.2.1.mono ((Upd.refl [g] _).setCell (Or.inr (by simp)) _) (by simpa using HT.out)
  have hb2 : Tb w4 g (fl k b s n) := by rw [hw1]; exact hS.2.2.set 5 _
  have U4 : Hid (Upd [g] w w4) := by rw [hw1]; exact U3.out.setCell (Or.inr (by simp)) _
  have hS4 := And.intro hb0 (And.intro hb1 hb2)
  clear hw1 c0 c1 hb0 hb1 hb2
  clear hS U3
  rw [rounds_succ]
  go_wp2_with fail
  refine wp_region_held_drew (S := fun W => FunB W bl (.func (.func 37) #[] #[p, q]) 63 ∧ FunB W bt (.func (.func 35) #[] #[p', q']) 61 ∧ Tb W g (fl k b s n)) (by kernel_rfl) hS4 (fun hS => ?_)
  obtain ⟨w5, hwd⟩ : ∃ v, v = w4.drew := ⟨_, rfl⟩
  rw [← hwd] at hS ⊢
  have U5 : Hid (Upd [g] w w5) := by rw [hwd]; exact U4.out.drew
  clear hwd
  clear hS4 U4
  refine wpAnyH_take (i := 0) (v := .func (.func 35) #[] #[p', q']) rfl (by kernel_rfl) (by kernel_rfl) (by kernel_rfl) (fun _ _ _ h => h) (Or.inl ⟨by rfl, ?_⟩) hS ?_
  · intro W hW; obtain ⟨h1, h2, h3⟩ := hW; have e0 := h1.cell; have e1 := h2.cell; have e2 : W.cell? ⟨g, 2, none⟩ = some (.slice none 0 0) := h3.cell 2; have e3 : W.cell? ⟨g, 5, none⟩ = some (.slice none 0 0) := h3.cell 5; have e4 : W.cell? ⟨g, 6, none⟩ = some (.slice none 0 0) := h3.cell 6; go_simp
  refine wpAnyH_take (i := 1) (v := .pointer (some ⟨g, 6, none⟩)) rfl (by kernel_rfl) (by kernel_rfl) (by kernel_rfl) (fun _ _ _ h => h) (Or.inl ⟨by rfl, ?_⟩) hS ?_
  · intro W hW; obtain ⟨h1, h2, h3⟩ := hW; have e0 := h1.cell; have e1 := h2.cell; have e2 : W.cell? ⟨g, 2, none⟩ = some (.slice none 0 0) := h3.cell 2; have e3 : W.cell? ⟨g, 5, none⟩ = some (.slice none 0 0) := h3.cell 5; have e4 : W.cell? ⟨g, 6, none⟩ = some (.slice none 0 0) := h3.cell 6; go_simp
  refine wpAnyH_take (i := 2) (v := .pointer (some ⟨g, 6, none⟩)) rfl (by kernel_rfl) (by kernel_rfl) (by kernel_rfl) (fun _ _ _ h => h) (Or.inl ⟨by rfl, ?_⟩) hS ?_
  · intro W hW; obtain ⟨h1, h2, h3⟩ := hW; have e0 := h1.cell; have e1 := h2.cell; have e2 : W.cell? ⟨g, 2, none⟩ = some (.slice none 0 0) := h3.cell 2; have e3 : W.cell? ⟨g, 5, none⟩ = some (.slice none 0 0) := h3.cell 5; have e4 : W.cell? ⟨g, 6, none⟩ = some (.slice none 0 0) := h3.cell 6; go_simp
  refine wpAnyH_take (i := 3) (v := .slice none 0 0) rfl (by kernel_rfl) (by kernel_rfl) (by kernel_rfl) (fun _ _ _ h => h) (Or.inl ⟨by rfl, ?_⟩) hS ?_
  · intro W hW; obtain ⟨h1, h2, h3⟩ := hW; have e0 := h1.cell; have e1 := h2.cell; have e2 : W.cell? ⟨g, 2, none⟩ = some (.slice none 0 0) := h3.cell 2; have e3 : W.cell? ⟨g, 5, none⟩ = some (.slice none 0 0) := h3.cell 5; have e4 : W.cell? ⟨g, 6, none⟩ = some (.slice none 0 0) := h3.cell 6; go_simp
  simp only [Act.put, List.getElem_toArray, List.getElem_cons_succ, List.getElem_cons_zero, List.setIfInBounds_toArray, List.set_cons_succ, List.set_cons_zero]
  refine wpAnyH_ready (rs := [4]) (by kernel_rfl) (by simp) (AllReadyH.cons rfl (fun K hK => ?_) AllReadyH.nil)
  go_simp
  refine (clt_none _ _ _ _ _).mono ?_
  rintro en w1 ⟨rfl, hw1⟩
  rw [hw1]
  clear hw1 w1
  refine hK.out _ _ hS (fun _ => ?_)
  clear hK K
  refine wpAnyH_take (i := 5) (v := .tuple #[.slice none 0 0, .bool false]) rfl (by kernel_rfl) (by kernel_rfl) (by kernel_rfl) (fun _ _ _ h => h) (Or.inl ⟨by rfl, ?_⟩) hS ?_
  · intro W hW; obtain ⟨h1, h2, h3⟩ := hW; have e0 := h1.cell; have e1 := h2.cell; have e2 : W.cell? ⟨g, 2, none⟩ = some (.slice none 0 0) := h3.cell 2; have e3 : W.cell? ⟨g, 5, none⟩ = some (.slice none 0 0) := h3.cell 5; have e4 : W.cell? ⟨g, 6, none⟩ = some (.slice none 0 0) := h3.cell 6; go_simp
  refine wpAnyH_take (i := 6) (v := .slice none 0 0) rfl (by kernel_rfl) (by kernel_rfl) (by kernel_rfl) (fun _ _ _ h => h) (Or.inl ⟨by rfl, ?_⟩) hS ?_
  · intro W hW; obtain ⟨h1, h2, h3⟩ := hW; have e0 := h1.cell; have e1 := h2.cell; have e2 : W.cell? ⟨g, 2, none⟩ = some (.slice none 0 0) := h3.cell 2; have e3 : W.cell? ⟨g, 5, none⟩ = some (.slice none 0 0) := h3.cell 5; have e4 : W.cell? ⟨g, 6, none⟩ = some (.slice none 0 0) := h3.cell 6; go_simp
  refine wpAnyH_take (i := 7) (v := .bool false) rfl (by kernel_rfl) (by kernel_rfl) (by kernel_rfl) (fun _ _ _ h => h) (Or.inl ⟨by rfl, ?_⟩) hS ?_
  · intro W hW; obtain ⟨h1, h2, h3⟩ := hW; have e0 := h1.cell; have e1 := h2.cell; have e2 : W.cell? ⟨g, 2, none⟩ = some (.slice none 0 0) := h3.cell 2; have e3 : W.cell? ⟨g, 5, none⟩ = some (.slice none 0 0) := h3.cell 5; have e4 : W.cell? ⟨g, 6, none⟩ = some (.slice none 0 0) := h3.cell 6; go_simp
  refine wpAnyH_take (i := 8) (v := .slice none 0 0) rfl (by kernel_rfl) (by kernel_rfl) (by kernel_rfl) (fun _ _ _ h => h) (Or.inl ⟨by rfl, ?_⟩) hS ?_
  · intro W hW; obtain ⟨h1, h2, h3⟩ := hW; have e0 := h1.cell; have e1 := h2.cell; have e2 : W.cell? ⟨g, 2, none⟩ = some (.slice none 0 0) := h3.cell 2; have e3 : W.cell? ⟨g, 5, none⟩ = some (.slice none 0 0) := h3.cell 5; have e4 : W.cell? ⟨g, 6, none⟩ = some (.slice none 0 0) := h3.cell 6; go_simp
  refine wpAnyH_take (i := 9) (v := .bool false) rfl (by kernel_rfl) (by kernel_rfl) (by kernel_rfl) (fun _ _ _ h => h) (Or.inl ⟨by rfl, ?_⟩) hS ?_
  · intro W hW; obtain ⟨h1, h2, h3⟩ := hW; have e0 := h1.cell; have e1 := h2.cell; have e2 : W.cell? ⟨g, 2, none⟩ = some (.slice none 0 0) := h3.cell 2; have e3 : W.cell? ⟨g, 5, none⟩ = some (.slice none 0 0) := h3.cell 5; have e4 : W.cell? ⟨g, 6, none⟩ = some (.slice none 0 0) := h3.cell 6; go_simp
  simp only [Act.put, List.getElem_toArray, List.getElem_cons_succ, List.getElem_cons_zero, List.setIfInBounds_toArray, List.set_cons_succ, List.set_cons_zero]
  refine wpAnyH_done (by kernel_rfl) ?_ _
  have c0 : w5.cell? ⟨g, 6, none⟩ = some (.slice none 0 0) := hS.2.2.cell 6
  have c1 := hS.2.2.free 6
  go_wp2_with fail
  obtain ⟨w6, hw1⟩ : ∃ v, v = w5.setCell ⟨g, 6, none⟩ (.slice none 0 0) := ⟨_, rfl⟩
  rw [← hw1]
  have hb0 : FunB w6 bl (.func (.func 37) #[] #[p, q]) 63 := by rw [hw1]; exact hS.1.mono ((Upd.refl [g] _).setCell (Or.inr (by simp)) _) (by simpa using HL.out)
  have hb1 : FunB w6 bt (.func (.func 35) #[] #[p', q']) 61 := by rw [hw1]; exact hS.2.1.mono ((Upd.refl [g] _).setCell (Or.inr (by simp)) _) (by simpa using HT.out)
  have hb2 : Tb w6 g (fl k b s n) := by rw [hw1]; exact hS.2.2.set 6 _
  have U6 : Hid (Upd [g] w w6) := by rw [hw1]; exact U5.out.setCell (Or.inr (by simp)) _
  have hS6 := And.intro hb0 (And.intro hb1 hb2)
  clear hw1 c0 c1 hb0 hb1 hb2
  clear hS U5
  rw [rounds_succ]
  go_wp2_with fail
  rw [rounds_succ]
  go_wp2_with fail
  exact bodyPost_end (results_none rfl _ _ _) rfl ⟨rfl, hS6.2.2, U6.out⟩

end Go.Proofs.Ytmdkhkeljpdbiaa
