/- placeOf and join. -/
import Derived.Test.YtejcppnleckmfaaDoorNsF
namespace Go.Proofs.YtejcppnleckmfaaDoor
open Go.RowKit

set_option maxHeartbeats 1000000 in
set_option maxRecDepth 100000 in
theorem placeOf_none (w : World) (a : Option Addr) (c : Nat) : Calls Tryd.prog 22 #[.slice a 0 c] w fun e w' => e = .returned (pl none 0) ∧ Upd [] w w' := by
  unfold pl
  go_enter Tryd.func22, Tryd.ntmps22
  go_wp2
  refine bodyPost_ret (v := .agg #[.pointer none, .int .i64 0]) (by simp [results, Tryd.results22, go_sem]) rfl ⟨rfl, ?_⟩
  repeat (first | exact Upd.refl _ _ | refine Upd.setCell ?_ (Or.inl (by simp <;> omega)) _ | refine Upd.alloc ?_ _)
set_option maxHeartbeats 1000000 in
set_option maxRecDepth 100000 in
theorem placeOf_some (w : World) (g n c : Nat) (hn : 0 < n) (hn2 : n ≤ 20000) : Calls Tryd.prog 22 #[.slice (some ⟨g, 0, none⟩) n c] w fun e w' => e = .returned (pl (some ⟨g, 0, none⟩) n) ∧ Upd [] w w' := by
  unfold pl
  have h1 : ((n : Int) == 0) = false := by simp; omega
  have h2 : (0 : Int) < (n : Int) := by omega
  go_enter Tryd.func22, Tryd.ntmps22
  go_wp2
  refine bodyPost_ret (v := .agg #[.pointer (some ⟨g, 0, none⟩), .int .i64 n]) (by simp [results, Tryd.results22, go_sem]) rfl ⟨rfl, ?_⟩
  repeat (first | exact Upd.refl _ _ | refine Upd.setCell ?_ (Or.inl (by simp <;> omega)) _ | refine Upd.alloc ?_ _)

theorem ptr_none (w : World) (d : Nat) : (Op.equalIn (d + 1) 43 (.pointer none) (.pointer none)).run Tryd.prog w = .ok true w := by simp [Op.equalIn, run_underlying und_pnode]
theorem Far.upd {w w' : World} {p q : Option Addr} (h : Far w p q) (hu : Upd [] w w') : Far w' p q := by
  rcases h with h | h | ⟨g, g', h1, h2, h3, h4, h5⟩
  · exact Or.inl h
  · exact Or.inr (Or.inl h)
  · exact Or.inr (Or.inr ⟨g, g', h1, h2, h3, h4.upd hu (by simp), h5.upd hu (by simp)⟩)
/-- A box of a place. -/
def Pb (w : World) (g : Nat) (p : Option Addr) (n : Int) : Prop := w.heap[g]? = some (.cells #[.pointer p, .int .i64 n] 45 (0, 0))
theorem Pb.lt {w : World} {g : Nat} {p : Option Addr} {n : Int} (h : Pb w g p n) : g < w.heap.size := lt_of_block h
theorem Pb.upd {S : List Nat} {w w' : World} {g : Nat} {p : Option Addr} {n : Int} (h : Pb w g p n) (hu : Upd S w w') (hn : g ∉ S) : Pb w' g p n := (hu.block g h.lt hn).trans h
theorem Pb.c0 {w : World} {g : Nat} {p : Option Addr} {n : Int} (h : Pb w g p n) : w.cell? ⟨g, 0, none⟩ = some (.pointer p) := cell_of_row w g 0 _ _ _ h
theorem Pb.c1 {w : World} {g : Nat} {p : Option Addr} {n : Int} (h : Pb w g p n) : w.cell? ⟨g, 1, none⟩ = some (.int .i64 n) := cell_of_row w g 1 _ _ _ h
theorem Pb.f {w : World} {g : Nat} {p : Option Addr} {n : Int} (h : Pb w g p n) (i : Nat) : w.frozen? ⟨g, i, none⟩ = false := frozen_of_row w g i _ _ h
theorem Pb.set {w : World} {g : Nat} {p : Option Addr} {n : Int} (h : Pb w g p n) : Pb ((w.setCell ⟨g, 0, none⟩ (.pointer p)).setCell ⟨g, 1, none⟩ (.int .i64 n)) g p n := by
  have h1 : (w.setCell ⟨g, 0, none⟩ (.pointer p)).heap[g]? = some (.cells #[.pointer p, .int .i64 n] 45 (0, 0)) := by
    rw [heap_setCell_same w g 0 _ _ _ h]; rfl
  unfold Pb
  rw [heap_setCell_same _ g 1 _ _ _ h1]; rfl
theorem set2_upd (w : World) (g : Nat) (u v : Value) : Upd [g] w ((w.setCell ⟨g, 0, none⟩ u).setCell ⟨g, 1, none⟩ v) := ((Upd.refl [g] w).setCell (Or.inr (by simp)) _).setCell (Or.inr (by simp)) _
theorem Pb.new (w : World) (p : Option Addr) (n : Int) (g : Nat) (h : g = w.heap.size) : Pb (w.alloc (.cells #[.pointer p, .int .i64 n] 45)) g p n := by subst h; exact heap_alloc_new w _

set_option maxHeartbeats 2000000 in
set_option maxRecDepth 100000 in
theorem join_far (w : World) (bm : Nat) (G : Nat → Prop) (p q : Option Addr) (n m : Int) (h : MapK w bm G) (hp : Out w G p) (hq : Out w G q) (hf : Far w p q) :
    Calls Tryd.prog 21 #[.map (some bm), pl p n, pl q m] w fun e w' => e = .returned (.bool true) ∧ Upd [bm] w w' ∧ (∀ g, p = some ⟨g, 0, none⟩ → g ≠ bm → (∀ x, G x → x ≠ bm) → MapK w' bm (fun x => G x ∨ x = g)) := by
  have u0 : Upd [] w ((w.alloc (.cells #[.pointer p, .int .i64 n] 45)).alloc (.cells #[.pointer q, .int .i64 m] 45)) := ((Upd.refl [] w).alloc _).alloc _
  have hB0 : Pb ((w.alloc (.cells #[.pointer p, .int .i64 n] 45)).alloc (.cells #[.pointer q, .int .i64 m] 45)) w.heap.size p n ∧ Pb ((w.alloc (.cells #[.pointer p, .int .i64 n] 45)).alloc (.cells #[.pointer q, .int .i64 m] 45)) (w.heap.size + 1) q m := ⟨(Pb.new w p n _ rfl).upd ((Upd.refl [] _).alloc _) (by simp), Pb.new _ q m _ (by simp)⟩
  have HL : Hid (∀ W, Upd [] w W → ∀ p n, Out w G p → Calls Tryd.prog 36 #[.map (some bm), .agg #[.pointer p, .int .i64 n]] W fun e w' => e = .returned (.agg #[.pointer p, .int .i64 n]) ∧ Upd [] W w') := fun W hu p n ho => last_in W bm G p n (h.upd hu (by simp) (by simp)) (ho.upd hu (by simp))
  unfold pl
  go_enter Tryd.func21, Tryd.ntmps21
  go_wp2
  refine wp_region_held_drew (S := fun W => Pb W w.heap.size p n ∧ Pb W (w.heap.size + 1) q m) (by kernel_rfl) ⟨hB0.1.upd (Upd.refl [] _).drew (by simp), hB0.2.upd (Upd.refl [] _).drew (by simp)⟩ (fun hS => ?_)
  refine wpAnyH_take (i := 0) (v := .map (some bm)) rfl (by kernel_rfl) (by kernel_rfl) (by kernel_rfl) (fun _ _ _ h => h) (Or.inl ⟨by rfl, ?_⟩) hS ?_
  · intro W hW; obtain ⟨b1, b2⟩ := hW; have e0 := b1.c0; have e1 := b1.c1; have f0 := b2.c0; have f1 := b2.c1; go_simp
  refine wpAnyH_take (i := 1) (v := .agg #[.pointer p, .int .i64 n]) rfl (by kernel_rfl) (by kernel_rfl) (by kernel_rfl) (fun _ _ _ h => h) (Or.inl ⟨by rfl, ?_⟩) hS ?_
  · intro W hW; obtain ⟨b1, b2⟩ := hW; have e0 := b1.c0; have e1 := b1.c1; have f0 := b2.c0; have f1 := b2.c1; go_simp
  refine wpAnyH_take (i := 3) (v := .map (some bm)) rfl (by kernel_rfl) (by kernel_rfl) (by kernel_rfl) (fun _ _ _ h => h) (Or.inl ⟨by rfl, ?_⟩) hS ?_
  · intro W hW; obtain ⟨b1, b2⟩ := hW; have e0 := b1.c0; have e1 := b1.c1; have f0 := b2.c0; have f1 := b2.c1; go_simp
  refine wpAnyH_take (i := 4) (v := .agg #[.pointer q, .int .i64 m]) rfl (by kernel_rfl) (by kernel_rfl) (by kernel_rfl) (fun _ _ _ h => h) (Or.inl ⟨by rfl, ?_⟩) hS ?_
  · intro W hW; obtain ⟨b1, b2⟩ := hW; have e0 := b1.c0; have e1 := b1.c1; have f0 := b2.c0; have f1 := b2.c1; go_simp
  simp only [Act.put, List.setIfInBounds_toArray]
  refine wpAnyH_ready (rs := [2]) (by kernel_rfl) (by simp) (AllReadyH.cons rfl (fun K hK => ?_) AllReadyH.nil)
  go_simp
  refine (HL.out _ u0.drew p n hp).mono ?_
  rintro e w1 ⟨rfl, hU1⟩
  have U1 : Hid (Upd [] w w1) := u0.drew.trans hU1
  have hS1 : Pb w1 w.heap.size p n ∧ Pb w1 (w.heap.size + 1) q m := ⟨hS.1.upd hU1 (by simp), hS.2.upd hU1 (by simp)⟩
  refine hK.out _ _ hS1 (fun _ => ?_)
  clear hK K hU1 hS hB0
  refine wpAnyH_ready (rs := [5]) (by kernel_rfl) (by simp) (AllReadyH.cons rfl (fun K hK => ?_) AllReadyH.nil)
  go_simp
  refine (HL.out _ U1.out q m hq).mono ?_
  rintro e w2 ⟨rfl, hU2⟩
  have U2 : Hid (Upd [] w w2) := U1.out.trans hU2
  have hS2 : Pb w2 w.heap.size p n ∧ Pb w2 (w.heap.size + 1) q m := ⟨hS1.1.upd hU2 (by simp), hS1.2.upd hU2 (by simp)⟩
  refine hK.out _ _ hS2 (fun _ => ?_)
  clear hK K hU2 hS1 u0
  have e0 := hS2.1.c0
  have e1 := hS2.1.c1
  have e2 := hS2.1.f 0
  have e3 := hS2.1.f 1
  refine wpAnyH_ready (rs := [6]) (by kernel_rfl) (by simp) (AllReadyH.cons rfl (fun K hK => ?_) AllReadyH.nil)
  go_simp
  have hS3 : Pb ((w2.setCell ⟨w.heap.size, 0, none⟩ (.pointer p)).setCell ⟨w.heap.size, 1, none⟩ (.int .i64 n)) w.heap.size p n ∧ Pb ((w2.setCell ⟨w.heap.size, 0, none⟩ (.pointer p)).setCell ⟨w.heap.size, 1, none⟩ (.int .i64 n)) (w.heap.size + 1) q m := ⟨hS2.1.set, hS2.2.upd (set2_upd _ _ _ _) (by simp)⟩
  have hU3 : Upd [w.heap.size] w2 ((w2.setCell ⟨w.heap.size, 0, none⟩ (.pointer p)).setCell ⟨w.heap.size, 1, none⟩ (.int .i64 n)) := set2_upd _ _ _ _
  obtain ⟨w3, hw3⟩ : ∃ w3, w3 = (w2.setCell ⟨w.heap.size, 0, none⟩ (.pointer p)).setCell ⟨w.heap.size, 1, none⟩ (.int .i64 n) := ⟨_, rfl⟩
  rw [← hw3] at hS3 hU3 ⊢
  have U3 : Hid (Upd [] w w3) := U2.out.then hU3 (by simp)
  refine hK.out _ _ hS3 (fun _ => ?_)
  clear hK K hU3 hS2 e0 e1 e2 e3 hw3
  have e0 := hS3.2.c0
  have e1 := hS3.2.c1
  have e2 := hS3.2.f 0
  have e3 := hS3.2.f 1
  refine wpAnyH_ready (rs := [7]) (by kernel_rfl) (by simp) (AllReadyH.cons rfl (fun K hK => ?_) AllReadyH.nil)
  go_simp
  have hS4 : Pb ((w3.setCell ⟨w.heap.size + 1, 0, none⟩ (.pointer q)).setCell ⟨w.heap.size + 1, 1, none⟩ (.int .i64 m)) w.heap.size p n ∧ Pb ((w3.setCell ⟨w.heap.size + 1, 0, none⟩ (.pointer q)).setCell ⟨w.heap.size + 1, 1, none⟩ (.int .i64 m)) (w.heap.size + 1) q m := ⟨hS3.1.upd (set2_upd _ _ _ _) (by simp), hS3.2.set⟩
  have hU4 : Upd [w.heap.size + 1] w3 ((w3.setCell ⟨w.heap.size + 1, 0, none⟩ (.pointer q)).setCell ⟨w.heap.size + 1, 1, none⟩ (.int .i64 m)) := set2_upd _ _ _ _
  obtain ⟨w4, hw4⟩ : ∃ w4, w4 = (w3.setCell ⟨w.heap.size + 1, 0, none⟩ (.pointer q)).setCell ⟨w.heap.size + 1, 1, none⟩ (.int .i64 m) := ⟨_, rfl⟩
  rw [← hw4] at hS4 hU4 ⊢
  have U4 : Hid (Upd [] w w4) := U3.out.then hU4 (by simp)
  refine hK.out _ _ hS4 (fun _ => ?_)
  clear hK K hU4 hS3 e0 e1 e2 e3 hw4
  have e0 := hS4.1.c0
  have e1 := hS4.1.c1
  have e2 := hS4.2.c0
  have e3 := hS4.2.c1
  refine wpAnyH_done (by kernel_rfl) ?_ _
  have hE : (Op.equalIn 9999 43 (.pointer p) (.pointer q)).run Tryd.prog w4 = .ok false w4 := ptr_far (hf.upd U4.out) 9998
  obtain ⟨w5, hM, hU5, hK5⟩ := (h.upd U4.out (by simp) (by simp)).put (hp.upd U4.out (by simp)) n (.agg #[.pointer q, .int .i64 m])
  unfold pl at hM
  have HP : Hid (Upd [bm] w4 w5 ∧ (∀ g, p = some ⟨g, 0, none⟩ → g ≠ bm → (∀ x, G x → x ≠ bm) → MapK w5 bm (fun x => G x ∨ x = g))) := ⟨hU5, hK5⟩
  clear h hp hq hf hU5 hK5 HL
  go_wp2
  go_ret
  exact ⟨rfl, ((Upd.refl [bm] w).then U4.out (by simp)).trans HP.out.1, HP.out.2⟩
set_option maxHeartbeats 2000000 in
set_option maxRecDepth 100000 in
theorem join_none (w : World) (bm : Nat) (G : Nat → Prop) (h : MapK w bm G) :
    Calls Tryd.prog 21 #[.map (some bm), pl none 0, pl none 0] w fun e w' => e = .returned (.bool false) ∧ Upd [] w w' := by
  have u0 : Upd [] w ((w.alloc (.cells #[.pointer none, .int .i64 0] 45)).alloc (.cells #[.pointer none, .int .i64 0] 45)) := ((Upd.refl [] w).alloc _).alloc _
  have hB0 : Pb ((w.alloc (.cells #[.pointer none, .int .i64 0] 45)).alloc (.cells #[.pointer none, .int .i64 0] 45)) w.heap.size none 0 ∧ Pb ((w.alloc (.cells #[.pointer none, .int .i64 0] 45)).alloc (.cells #[.pointer none, .int .i64 0] 45)) (w.heap.size + 1) none 0 := ⟨(Pb.new w none 0 _ rfl).upd ((Upd.refl [] _).alloc _) (by simp), Pb.new _ none 0 _ (by simp)⟩
  have hp : Out w G none := Or.inl rfl
  have hq : Out w G none := Or.inl rfl
  have HL : Hid (∀ W, Upd [] w W → ∀ p n, Out w G p → Calls Tryd.prog 36 #[.map (some bm), .agg #[.pointer p, .int .i64 n]] W fun e w' => e = .returned (.agg #[.pointer p, .int .i64 n]) ∧ Upd [] W w') := fun W hu p n ho => last_in W bm G p n (h.upd hu (by simp) (by simp)) (ho.upd hu (by simp))
  unfold pl
  go_enter Tryd.func21, Tryd.ntmps21
  go_wp2
  refine wp_region_held_drew (S := fun W => Pb W w.heap.size none 0 ∧ Pb W (w.heap.size + 1) none 0) (by kernel_rfl) ⟨hB0.1.upd (Upd.refl [] _).drew (by simp), hB0.2.upd (Upd.refl [] _).drew (by simp)⟩ (fun hS => ?_)
  refine wpAnyH_take (i := 0) (v := .map (some bm)) rfl (by kernel_rfl) (by kernel_rfl) (by kernel_rfl) (fun _ _ _ h => h) (Or.inl ⟨by rfl, ?_⟩) hS ?_
  · intro W hW; obtain ⟨b1, b2⟩ := hW; have e0 := b1.c0; have e1 := b1.c1; have f0 := b2.c0; have f1 := b2.c1; go_simp
  refine wpAnyH_take (i := 1) (v := .agg #[.pointer none, .int .i64 0]) rfl (by kernel_rfl) (by kernel_rfl) (by kernel_rfl) (fun _ _ _ h => h) (Or.inl ⟨by rfl, ?_⟩) hS ?_
  · intro W hW; obtain ⟨b1, b2⟩ := hW; have e0 := b1.c0; have e1 := b1.c1; have f0 := b2.c0; have f1 := b2.c1; go_simp
  refine wpAnyH_take (i := 3) (v := .map (some bm)) rfl (by kernel_rfl) (by kernel_rfl) (by kernel_rfl) (fun _ _ _ h => h) (Or.inl ⟨by rfl, ?_⟩) hS ?_
  · intro W hW; obtain ⟨b1, b2⟩ := hW; have e0 := b1.c0; have e1 := b1.c1; have f0 := b2.c0; have f1 := b2.c1; go_simp
  refine wpAnyH_take (i := 4) (v := .agg #[.pointer none, .int .i64 0]) rfl (by kernel_rfl) (by kernel_rfl) (by kernel_rfl) (fun _ _ _ h => h) (Or.inl ⟨by rfl, ?_⟩) hS ?_
  · intro W hW; obtain ⟨b1, b2⟩ := hW; have e0 := b1.c0; have e1 := b1.c1; have f0 := b2.c0; have f1 := b2.c1; go_simp
  simp only [Act.put, List.setIfInBounds_toArray]
  refine wpAnyH_ready (rs := [2]) (by kernel_rfl) (by simp) (AllReadyH.cons rfl (fun K hK => ?_) AllReadyH.nil)
  go_simp
  refine (HL.out _ u0.drew none 0 hp).mono ?_
  rintro e w1 ⟨rfl, hU1⟩
  have U1 : Hid (Upd [] w w1) := u0.drew.trans hU1
  have hS1 : Pb w1 w.heap.size none 0 ∧ Pb w1 (w.heap.size + 1) none 0 := ⟨hS.1.upd hU1 (by simp), hS.2.upd hU1 (by simp)⟩
  refine hK.out _ _ hS1 (fun _ => ?_)
  clear hK K hU1 hS hB0
  refine wpAnyH_ready (rs := [5]) (by kernel_rfl) (by simp) (AllReadyH.cons rfl (fun K hK => ?_) AllReadyH.nil)
  go_simp
  refine (HL.out _ U1.out none 0 hq).mono ?_
  rintro e w2 ⟨rfl, hU2⟩
  have U2 : Hid (Upd [] w w2) := U1.out.trans hU2
  have hS2 : Pb w2 w.heap.size none 0 ∧ Pb w2 (w.heap.size + 1) none 0 := ⟨hS1.1.upd hU2 (by simp), hS1.2.upd hU2 (by simp)⟩
  refine hK.out _ _ hS2 (fun _ => ?_)
  clear hK K hU2 hS1 u0
  have e0 := hS2.1.c0
  have e1 := hS2.1.c1
  have e2 := hS2.1.f 0
  have e3 := hS2.1.f 1
  refine wpAnyH_ready (rs := [6]) (by kernel_rfl) (by simp) (AllReadyH.cons rfl (fun K hK => ?_) AllReadyH.nil)
  go_simp
  have hS3 : Pb ((w2.setCell ⟨w.heap.size, 0, none⟩ (.pointer none)).setCell ⟨w.heap.size, 1, none⟩ (.int .i64 0)) w.heap.size none 0 ∧ Pb ((w2.setCell ⟨w.heap.size, 0, none⟩ (.pointer none)).setCell ⟨w.heap.size, 1, none⟩ (.int .i64 0)) (w.heap.size + 1) none 0 := ⟨hS2.1.set, hS2.2.upd (set2_upd _ _ _ _) (by simp)⟩
  have hU3 : Upd [w.heap.size] w2 ((w2.setCell ⟨w.heap.size, 0, none⟩ (.pointer none)).setCell ⟨w.heap.size, 1, none⟩ (.int .i64 0)) := set2_upd _ _ _ _
  obtain ⟨w3, hw3⟩ : ∃ w3, w3 = (w2.setCell ⟨w.heap.size, 0, none⟩ (.pointer none)).setCell ⟨w.heap.size, 1, none⟩ (.int .i64 0) := ⟨_, rfl⟩
  rw [← hw3] at hS3 hU3 ⊢
  have U3 : Hid (Upd [] w w3) := U2.out.then hU3 (by simp)
  refine hK.out _ _ hS3 (fun _ => ?_)
  clear hK K hU3 hS2 e0 e1 e2 e3 hw3
  have e0 := hS3.2.c0
  have e1 := hS3.2.c1
  have e2 := hS3.2.f 0
  have e3 := hS3.2.f 1
  refine wpAnyH_ready (rs := [7]) (by kernel_rfl) (by simp) (AllReadyH.cons rfl (fun K hK => ?_) AllReadyH.nil)
  go_simp
  have hS4 : Pb ((w3.setCell ⟨w.heap.size + 1, 0, none⟩ (.pointer none)).setCell ⟨w.heap.size + 1, 1, none⟩ (.int .i64 0)) w.heap.size none 0 ∧ Pb ((w3.setCell ⟨w.heap.size + 1, 0, none⟩ (.pointer none)).setCell ⟨w.heap.size + 1, 1, none⟩ (.int .i64 0)) (w.heap.size + 1) none 0 := ⟨hS3.1.upd (set2_upd _ _ _ _) (by simp), hS3.2.set⟩
  have hU4 : Upd [w.heap.size + 1] w3 ((w3.setCell ⟨w.heap.size + 1, 0, none⟩ (.pointer none)).setCell ⟨w.heap.size + 1, 1, none⟩ (.int .i64 0)) := set2_upd _ _ _ _
  obtain ⟨w4, hw4⟩ : ∃ w4, w4 = (w3.setCell ⟨w.heap.size + 1, 0, none⟩ (.pointer none)).setCell ⟨w.heap.size + 1, 1, none⟩ (.int .i64 0) := ⟨_, rfl⟩
  rw [← hw4] at hS4 hU4 ⊢
  have U4 : Hid (Upd [] w w4) := U3.out.then hU4 (by simp)
  refine hK.out _ _ hS4 (fun _ => ?_)
  clear hK K hU4 hS3 e0 e1 e2 e3 hw4
  have e0 := hS4.1.c0
  have e1 := hS4.1.c1
  have e2 := hS4.2.c0
  have e3 := hS4.2.c1
  refine wpAnyH_done (by kernel_rfl) ?_ _
  have hE : (Op.equalIn 9999 43 (.pointer none) (.pointer none)).run Tryd.prog w4 = .ok true w4 := ptr_none w4 9998
  clear h hp hq HL
  go_wp2
  go_ret
  exact ⟨rfl, U4.out⟩

end Go.Proofs.YtejcppnleckmfaaDoor
