/- Two rows of Nameds that All handed out lie apart. -/
import Derived.Test.YtpojkmpimnnjiaaGreatNrX
import Derived.Test.YtpojkmpimnnjiaaGreatNbU
namespace Go.Proofs.YtpojkmpimnnjiaaGreat
open Go.RowKit Go.Maps

theorem mr_rowG {w : World} {B : Nat} {v : Value} {L : List Nd} (h : MR w B v L) : RowG w 2 v L.length := by
  rcases h.2 with ⟨h1, h2⟩ | ⟨g, cap, cur, h1, _, hg, h4, h5, h6, _⟩
  · exact Or.inl ⟨⟨none, h1⟩, h2⟩
  · rcases Nat.eq_zero_or_pos cap with h0 | h0
    · subst h0
      have hl : L.length = 0 := by omega
      rw [hl] at h1 ⊢
      exact Or.inl ⟨⟨_, h1⟩, rfl⟩
    · refine Or.inr ⟨g, cap, h1, (Array.getElem?_eq_some_iff.1 hg).1, h4, h5, fun j hj => ⟨?_, frozen_of_row _ _ _ _ _ hg⟩, h0⟩
      rw [cell_of_row w g _ _ _ _ hg, Nat.zero_add, Array.getElem?_eq_getElem (by omega)]
      rfl
theorem mr_ob {w : World} {B : Nat} {v : Value} {L : List Nd} (h : MR w B v L) {g : Nat} (hg : oB v = some g) : B ≤ g ∧ g < w.heap.size := by
  rcases h.2 with ⟨h1, h2⟩ | ⟨g', cap, cur, h1, hB, hc, _⟩
  · rw [h1, oB_zero] at hg; cases hg
  · rw [h1] at hg
    obtain rfl : g = g' := oB_some hg
    exact ⟨hB, (Array.getElem?_eq_some_iff.1 hc).1⟩

theorem ap_said : ApSaid := by
  intro w w6 w7 w8 v7 v8 xs ys h7 hu7 hw6 h8 hu8 hl7 hl8 cL
  obtain ⟨W9, hW⟩ : ∃ W9, W9 = w8.alloc (.cells #[v7, v8] 28) := ⟨_, rfl⟩
  obtain ⟨G, hG⟩ : ∃ G, G = w8.heap.size := ⟨_, rfl⟩
  rw [← hW, ← hG]
  have u9 : Upd [] w8 W9 := by rw [hW]; exact (Upd.refl [] w8).alloc _
  have hb : Cl W9 G #[v7, v8] 28 := by rw [hW, hG]; exact Cl.new _ _ _ _ rfl
  have hs : W9.heap.size = G + 1 := by rw [hW, hG]; simp
  have o7 : ∀ g, oB v7 = some g → w6.heap.size ≤ g ∧ g < w7.heap.size := fun g hg => mr_ob h7 hg
  have o8 : ∀ g, oB v8 = some g → w7.heap.size ≤ g ∧ g < w8.heap.size := fun g hg => mr_ob h8 hg
  have s8 := hu8.size
  have hR : Rs W9 2 G 2 W9.heap.size (fun k => if k = 0 then v7 else v8) (fun k => if k = 0 then xs.length else ys.length) := by
    refine ⟨Nat.le_refl _, by omega, fun j hj => ?_, fun j hj => ?_, fun j g hj hg => ?_, fun i j g hi hj hij hg hg2 => ?_⟩
    · rw [hb.cell]
      rcases (by omega : j = 0 ∨ j = 1) with rfl | rfl <;> rfl
    · rcases (by omega : j = 0 ∨ j = 1) with rfl | rfl
      · exact mr_rowG ((h7.upd hu8).upd u9)
      · exact mr_rowG (h8.upd u9)
    · rcases (by omega : j = 0 ∨ j = 1) with rfl | rfl
      · have := o7 g hg; omega
      · have := o8 g hg; omega
    · rcases (by omega : (i = 0 ∧ j = 1) ∨ (i = 1 ∧ j = 0)) with ⟨rfl, rfl⟩ | ⟨rfl, rfl⟩
      · have h1 := o7 g hg
        have h2 := o8 g hg2
        omega
      · have h1 := o8 g hg
        have h2 := o7 g hg2
        omega
  refine (ApartNameds_in W9 G 2 cL _ _ hR (by omega) (by omega) (fun k hk => ?_)).mono ?_
  · rcases (by omega : k = 0 ∨ k = 1) with rfl | rfl
    · show xs.length ≤ _; omega
    · show ys.length ≤ _; omega
  · rintro e w' ⟨rfl, hu⟩
    refine ⟨rfl, (((hu7.trans hu8).trans u9).toN.trans hu).upd (fun x hx => ?_)⟩
    obtain ⟨k, hk, hx⟩ := hx
    rcases (by omega : k = 0 ∨ k = 1) with rfl | rfl
    · have := o7 x hx; omega
    · have := o8 x hx; have := hu7.size; omega

end Go.Proofs.YtpojkmpimnnjiaaGreat
