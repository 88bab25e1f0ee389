/- The kit's bag: lists are put into it. -/
import Derived.Test.YtpojkmpimnnjiaaGreatNbM
import Derived.Deep.AppendLies
namespace Go.Proofs.YtpojkmpimnnjiaaGreat
open Go.RowKit

/-- A bag with nothing but this in its field of Nameds. -/
def bagNam (x : Value) : Array Value := #[.slice none 0 0, .slice none 0 0, .slice none 0 0, .slice none 0 0, .slice none 0 0, .slice none 0 0, .slice none 0 0, .slice none 0 0, .slice none 0 0, .slice none 0 0, .slice none 0 0, .slice none 0 0, .slice none 0 0, .slice none 0 0, .slice none 0 0, .slice none 0 0, .slice none 0 0, .slice none 0 0, x, .slice none 0 0]
theorem inf_nams : (Tryz.prog.info? 28).map (fun i => (i.zero, i.size, i.bytes)) = some (some (.slice none 0 0), 1, 24) := by kernel_rfl

/-- What has been put. -/
structure Bag (bag : Value → Array Value) (w w' : World) (g : Nat) (x l : Value) (k : Nat) (v : Nat → Value) : Prop where
  ok : ∃ g' c', Blk w' g (bag (.slice (some ⟨g', 0, none⟩) (k + 1) c')) 82 ∧ RowG w' 1 (.slice (some ⟨g', 0, none⟩) (k + 1) c') (k + 1) ∧ Hs w' 1 (.slice (some ⟨g', 0, none⟩) (k + 1) c') (k + 1) (fun j => [if j = k then l else v j]) ∧ Upd [g, g'] w w' ∧ (oB x = some g' ∨ w.heap.size ≤ g') ∧ g' ≠ g

theorem grew_ne {sz : Nat} {w w' : World} {x : Value} {n g' g : Nat} (h : Grew sz w w' x n g') (hx : ∀ b, oB x = some b → b ≠ g) (hl : g < w.heap.size) : g' ≠ g := by
  rcases h.at' with h1 | h1
  · exact hx g' h1
  · omega
theorem bag_done {bag : Value → Array Value} {i : Nat} (hset : ∀ x y, (bag x).setIfInBounds i y = bag y) {w w5 : World} {g k g' cap' : Nat} {x l : Value} {v : Nat → Value} {o : Obj} (hr : RowG w 1 x k) (hh : Hs w 1 x k (fun j => [v j])) (hr5 : RowG w5 1 (.slice (some ⟨g', 0, none⟩) (k + 1) cap') (k + 1)) (hg5 : Grew 1 (w.alloc o) w5 x k g') (hn5 : ∀ j, j < 1 * 1 → w5.cell? ⟨g', k * 1 + j, none⟩ = [l][j]?) (hgg : g' ≠ g) (hB5 : Blk w5 g (bag x) 82) :
    Bag bag w (w5.setCell ⟨g, i, none⟩ (.slice (some ⟨g', 0, none⟩) (k + 1) cap')) g x l k v := by
  have hua : Upd [] w (w.alloc o) := (Upd.refl [] w).alloc _
  have hu : Upd [g] w5 (w5.setCell ⟨g, i, none⟩ (.slice (some ⟨g', 0, none⟩) (k + 1) cap')) := (Upd.refl [g] w5).setCell (Or.inr (by simp)) _
  have hh2 : Hs (w.alloc o) 1 x k (fun j => [if j = k then l else v j]) := by
    intro g2 l2 c2 e a b ha hb
    have := (hh.upd hr (Nat.le_refl _) hua (by simp)) g2 l2 c2 e a b ha hb
    rw [this]
    simp only
    rw [if_neg (by omega)]
  have hh5 : Hs w5 1 (.slice (some ⟨g', 0, none⟩) (k + 1) cap') (k + 1) (fun j => [if j = k then l else v j]) := hg5.has1 hh2 (hr.upd hua (by simp)) (fun j hj => by rw [hn5 j (by omega)]; simp)
  refine ⟨g', cap', ?_, hr5.upd hu (fun b hb hm => by have hb := oB_some hb; simp at hm hb; omega), hh5.upd hr5 (Nat.le_refl _) hu (fun b hb hm => by have hb := oB_some hb; simp at hm hb; omega), ?_, ?_, hgg⟩
  · have := hB5.set i (.slice (some ⟨g', 0, none⟩) (k + 1) cap')
    rw [hset] at this
    exact this
  · refine ⟨?_, ?_, ?_, ?_, fun b hb hm => ?_⟩
    · exact hg5.upd.os
    · exact hg5.upd.tape
    · exact hg5.upd.output
    · exact Nat.le_trans hua.size (Nat.le_trans hg5.upd.size hu.size)
    · simp at hm
      rw [hu.block b (Nat.lt_of_lt_of_le hb (Nat.le_trans hua.size hg5.upd.size)) (by simp; exact hm.1), hg5.upd.block b (Nat.lt_of_lt_of_le hb hua.size) (by simp; exact hm.2), hua.block b hb (by simp)]
  · rcases hg5.at' with h1 | h1
    · exact Or.inl h1
    · exact Or.inr (by rw [h1]; exact hua.size)

set_option maxHeartbeats 1000000 in
set_option maxRecDepth 100000 in
theorem putNameds_in (w : World) (g k : Nat) (x : Value) (la : Option Addr) (ln lc : Nat) (v : Nat → Value) (hB : Blk w g (bagNam x) 82) (hr : RowG w 1 x k) (hh : Hs w 1 x k (fun j => [v j])) (hx : ∀ b, oB x = some b → b ≠ g) (hk : k ≤ 1000) :
    Calls Tryz.prog 27 #[.pointer (some ⟨g, 0, none⟩), .slice la ln lc] w fun e w' => e = .returned (.tuple #[]) ∧ Bag bagNam w w' g x (.slice la ln lc) k v := by
  obtain ⟨i0, hi, hz0, hz1, hz2⟩ := info_parts inf_nams
  obtain ⟨xa, xc, hxe, _⟩ := hr.form
  subst hxe
  have y8 : w.cell? ⟨g, 18, none⟩ = some (.slice xa k xc) := hB.cell 18
  have HB : Hid (Blk w g (bagNam (.slice xa k xc)) 82) := hB
  have HR : Hid (RowG w 1 (.slice xa k xc) k) := hr
  have HH : Hid (Hs w 1 (.slice xa k xc) k (fun j => [v j])) := hh
  have HX : Hid (∀ b, oB (Value.slice xa k xc) = some b → b ≠ g) := hx
  have hgl := hB.lt
  clear hB hr hh hx
  go_enter Tryz.func27, Tryz.ntmps27
  go_wp2_with (first
    | (at_builtin; refine wpList_appendG (v := .slice xa k xc) (n := k) rfl _ _ 37 rfl Tryz.underlying37 hi hz0 hz1 hz2 rfl rfl (HR.out.upd ((Upd.refl [] w).alloc _) (by simp)) ⟨w.heap.size, 0, none⟩ 1 1 [.slice la ln lc] rfl rfl (World.news_of_block (heap_alloc_new _ _)) (by intro u hu; simp at hu; subst hu; rfl) (by omega) (by omega) (by omega) ?_; intro g' cap' w5 hr5 hg5 hn5; have hgg : g' ≠ g := grew_ne hg5 HX.out (by simp; omega); have hB5 : Blk w5 g (bagNam (.slice xa k xc)) 82 := (HB.out.mono ((Upd.refl [] w).alloc _) (by simp)).mono hg5.upd (by simp; exact fun e => hgg e.symm); have z8 : w5.cell? ⟨g, 18, none⟩ = some (.slice xa k xc) := hB5.cell 18; have f8 : w5.frozen? ⟨g, 18, none⟩ = false := hB5.free 18)
    | fail)
  go_end0
  exact ⟨rfl, bag_done (i := 18) (fun _ _ => rfl) HR.out HH.out hr5 hg5 hn5 hgg hB5⟩

end Go.Proofs.YtpojkmpimnnjiaaGreat
