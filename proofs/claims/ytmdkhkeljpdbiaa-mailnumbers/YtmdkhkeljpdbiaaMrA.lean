/- The reference's box: Skip, Next. -/
import Derived.Test.YtmdkhkeljpdbiaaMoA
namespace Go.Proofs.Ytmdkhkeljpdbiaa
open Go.RowKit

def RBx (w : World) (b : Nat) (v : Value) (k : Int) : Prop := w.heap[b]? = some (.cells #[v, .int .i64 k] 46 (0, 0))
theorem RBx.lt {w : World} {b : Nat} {v : Value} {k : Int} (h : RBx w b v k) : b < w.heap.size := lt_of_block h
theorem RBx.c0 {w : World} {b : Nat} {v : Value} {k : Int} (h : RBx w b v k) : w.cell? ⟨b, 0, none⟩ = some v := cell_of_row w b 0 _ _ _ h
theorem RBx.c1 {w : World} {b : Nat} {v : Value} {k : Int} (h : RBx w b v k) : w.cell? ⟨b, 1, none⟩ = some (.int .i64 k) := cell_of_row w b 1 _ _ _ h
theorem RBx.f {w : World} {b : Nat} {v : Value} {k : Int} (h : RBx w b v k) (i : Nat) : w.frozen? ⟨b, i, none⟩ = false := frozen_of_row w b i _ _ h
theorem RBx.mono {S : List Nat} {w w' : World} {b : Nat} {v : Value} {k : Int} (h : RBx w b v k) (hu : Upd S w w') (hn : b ∉ S) : RBx w' b v k := (hu.block b h.lt hn).trans h
theorem RBx.set0 {w : World} {b : Nat} {v : Value} {k : Int} (h : RBx w b v k) (u : Value) : RBx (w.setCell ⟨b, 0, none⟩ u) b u k := by
  unfold RBx
  rw [heap_setCell_same w b 0 _ _ _ h]; rfl
theorem RBx.set1 {w : World} {b : Nat} {v : Value} {k : Int} (h : RBx w b v k) (m : Int) : RBx (w.setCell ⟨b, 1, none⟩ (.int .i64 m)) b v m := by
  unfold RBx
  rw [heap_setCell_same w b 1 _ _ _ h]; rfl
/-- The reference's box: its letters, and its look. -/
structure RBoxV (w : World) (b : Nat) (v : Value) (L : List (List Value)) (k : Nat) : Prop where
  bx : RBx w b v k
  row : RowG w 7 v L.length
  has : Hs w 7 v L.length (fun i => L.getD i [])
  far : v.ownBlock ≠ some b
theorem RBoxV.lt {w : World} {b : Nat} {v : Value} {L : List (List Value)} {k : Nat} (h : RBoxV w b v L k) : b < w.heap.size := h.bx.lt
theorem RBoxV.upd {S : List Nat} {w w' : World} {b : Nat} {v : Value} {L : List (List Value)} {k : Nat} (h : RBoxV w b v L k) (hu : Upd S w w') (hb : b ∉ S) (hv : ∀ g, v.ownBlock = some g → g ∉ S) : RBoxV w' b v L k :=
  ⟨h.bx.mono hu hb, h.row.upd hu hv, h.has.upd h.row hu hv, h.far⟩
theorem RBoxV.up {w w' : World} {b : Nat} {v : Value} {L : List (List Value)} {k : Nat} (h : RBoxV w b v L k) (hu : Upd [] w w') : RBoxV w' b v L k := h.upd hu (by simp) (fun _ _ => by simp)
theorem RBoxV.form {w : World} {b : Nat} {v : Value} {L : List (List Value)} {k : Nat} (h : RBoxV w b v L k) : ∃ p c, v = .slice p L.length c := by
  obtain ⟨a, c, h1, _⟩ := h.row.form
  exact ⟨a, c, h1⟩
theorem RBoxV.look {w w' : World} {b : Nat} {v : Value} {L : List (List Value)} {k k' : Nat} (h : RBoxV w b v L k) (hb : RBx w' b v k') (hu : Upd [b] w w') : RBoxV w' b v L k' := by
  have hn : ∀ g, v.ownBlock = some g → g ∉ [b] := fun g hg hm => h.far (by rw [hg]; simp at hm; rw [hm])
  exact ⟨hb, h.row.upd hu hn, h.has.upd h.row hu hn, h.far⟩

set_option maxHeartbeats 1000000 in
set_option maxRecDepth 100000 in
theorem rskip_end (w : World) (b : Nat) (p : Option Addr) (n c : Nat) (k : Int) (hq : decide ((n : Int) ≤ k) = true) (h : RBx w b (.slice p n c) k) : Calls Try.prog 19 #[.pointer (some ⟨b, 0, none⟩)] w fun e w' => e = .returned (.int .i64 6) ∧ Upd [] w w' := by
  have UZ : Hid (Upd [] w w) := Upd.refl _ _
  go_enter Try.func19, Try.ntmps19
  go_wp2_with fail
  refine wp_region_held_drew (S := fun W => RBx W b (.slice p n c) k) (by kernel_rfl) h (fun hS => ?_)
  obtain ⟨w1, hwd⟩ : ∃ v, v = w.drew := ⟨_, rfl⟩
  rw [← hwd] at hS ⊢
  have U1 : Hid (Upd [] w w1) := by rw [hwd]; exact UZ.out.drew
  clear hwd
  refine wpAnyH_take (i := 0) (v := .pointer (some ⟨b, 0, none⟩)) rfl (by kernel_rfl) (by kernel_rfl) (by kernel_rfl) (fun _ _ _ h => h) (Or.inl ⟨by rfl, ?_⟩) hS ?_
  · intro W hW; have e0 := hW.c0; have e1 := hW.c1; go_simp
  refine wpAnyH_take (i := 1) (v := .pointer (some ⟨b, 0, none⟩)) rfl (by kernel_rfl) (by kernel_rfl) (by kernel_rfl) (fun _ _ _ h => h) (Or.inl ⟨by rfl, ?_⟩) hS ?_
  · intro W hW; have e0 := hW.c0; have e1 := hW.c1; go_simp
  refine wpAnyH_take (i := 2) (v := .pointer (some ⟨b, 1, none⟩)) rfl (by kernel_rfl) (by kernel_rfl) (by kernel_rfl) (fun _ _ _ h => h) (Or.inl ⟨by rfl, ?_⟩) hS ?_
  · intro W hW; have e0 := hW.c0; have e1 := hW.c1; go_simp
  refine wpAnyH_take (i := 3) (v := .int .i64 k) rfl (by kernel_rfl) (by kernel_rfl) (by kernel_rfl) (fun _ _ _ h => h) (Or.inl ⟨by rfl, ?_⟩) hS ?_
  · intro W hW; have e0 := hW.c0; have e1 := hW.c1; go_simp
  refine wpAnyH_take (i := 4) (v := .pointer (some ⟨b, 0, none⟩)) rfl (by kernel_rfl) (by kernel_rfl) (by kernel_rfl) (fun _ _ _ h => h) (Or.inl ⟨by rfl, ?_⟩) hS ?_
  · intro W hW; have e0 := hW.c0; have e1 := hW.c1; go_simp
  refine wpAnyH_take (i := 5) (v := .pointer (some ⟨b, 0, none⟩)) rfl (by kernel_rfl) (by kernel_rfl) (by kernel_rfl) (fun _ _ _ h => h) (Or.inl ⟨by rfl, ?_⟩) hS ?_
  · intro W hW; have e0 := hW.c0; have e1 := hW.c1; go_simp
  refine wpAnyH_take (i := 6) (v := .pointer (some ⟨b, 0, none⟩)) rfl (by kernel_rfl) (by kernel_rfl) (by kernel_rfl) (fun _ _ _ h => h) (Or.inl ⟨by rfl, ?_⟩) hS ?_
  · intro W hW; have e0 := hW.c0; have e1 := hW.c1; go_simp
  refine wpAnyH_take (i := 7) (v := .slice p n c) rfl (by kernel_rfl) (by kernel_rfl) (by kernel_rfl) (fun _ _ _ h => h) (Or.inl ⟨by rfl, ?_⟩) hS ?_
  · intro W hW; have e0 := hW.c0; have e1 := hW.c1; go_simp
  refine wpAnyH_take (i := 8) (v := .int .i64 n) rfl (by kernel_rfl) (by kernel_rfl) (by kernel_rfl) (fun _ _ _ h => h) (Or.inl ⟨by rfl, ?_⟩) hS ?_
  · intro W hW; have e0 := hW.c0; have e1 := hW.c1; go_simp
  refine wpAnyH_take (i := 9) (v := .bool true) rfl (by kernel_rfl) (by kernel_rfl) (by kernel_rfl) (fun _ _ _ h => h) (Or.inl ⟨by rfl, ?_⟩) hS ?_
  · intro W hW; have e0 := hW.c0; have e1 := hW.c1; go_simp
  simp only [Act.put, List.getElem_toArray, List.getElem_cons_succ, List.getElem_cons_zero, List.setIfInBounds_toArray, List.set_cons_succ, List.set_cons_zero]
  refine wpAnyH_done (by kernel_rfl) ?_ _
  go_wp2_with fail
  go_ret
  exact ⟨rfl, U1.out⟩

set_option maxHeartbeats 1000000 in
set_option maxRecDepth 100000 in
theorem rskip_on (w : World) (b : Nat) (p : Option Addr) (n c : Nat) (k : Int) (hq : decide ((n : Int) ≤ k) = false) (h0 : 0 ≤ k) (h1 : k ≤ 2000) (h : RBx w b (.slice p n c) k) : Calls Try.prog 19 #[.pointer (some ⟨b, 0, none⟩)] w fun e w' => e = .returned (.int .i64 0) ∧ RBx w' b (.slice p n c) (k + 1) ∧ Upd [b] w w' := by
  have UZ : Hid (Upd [] w w) := Upd.refl _ _
  go_enter Try.func19, Try.ntmps19
  go_wp2_with fail
  refine wp_region_held_drew (S := fun W => RBx W b (.slice p n c) k) (by kernel_rfl) h (fun hS => ?_)
  obtain ⟨w1, hwd⟩ : ∃ v, v = w.drew := ⟨_, rfl⟩
  rw [← hwd] at hS ⊢
  have U1 : Hid (Upd [] w w1) := by rw [hwd]; exact UZ.out.drew
  clear hwd
  refine wpAnyH_take (i := 0) (v := .pointer (some ⟨b, 0, none⟩)) rfl (by kernel_rfl) (by kernel_rfl) (by kernel_rfl) (fun _ _ _ h => h) (Or.inl ⟨by rfl, ?_⟩) hS ?_
  · intro W hW; have e0 := hW.c0; have e1 := hW.c1; go_simp
  refine wpAnyH_take (i := 1) (v := .pointer (some ⟨b, 0, none⟩)) rfl (by kernel_rfl) (by kernel_rfl) (by kernel_rfl) (fun _ _ _ h => h) (Or.inl ⟨by rfl, ?_⟩) hS ?_
  · intro W hW; have e0 := hW.c0; have e1 := hW.c1; go_simp
  refine wpAnyH_take (i := 2) (v := .pointer (some ⟨b, 1, none⟩)) rfl (by kernel_rfl) (by kernel_rfl) (by kernel_rfl) (fun _ _ _ h => h) (Or.inl ⟨by rfl, ?_⟩) hS ?_
  · intro W hW; have e0 := hW.c0; have e1 := hW.c1; go_simp
  refine wpAnyH_take (i := 3) (v := .int .i64 k) rfl (by kernel_rfl) (by kernel_rfl) (by kernel_rfl) (fun _ _ _ h => h) (Or.inl ⟨by rfl, ?_⟩) hS ?_
  · intro W hW; have e0 := hW.c0; have e1 := hW.c1; go_simp
  refine wpAnyH_take (i := 4) (v := .pointer (some ⟨b, 0, none⟩)) rfl (by kernel_rfl) (by kernel_rfl) (by kernel_rfl) (fun _ _ _ h => h) (Or.inl ⟨by rfl, ?_⟩) hS ?_
  · intro W hW; have e0 := hW.c0; have e1 := hW.c1; go_simp
  refine wpAnyH_take (i := 5) (v := .pointer (some ⟨b, 0, none⟩)) rfl (by kernel_rfl) (by kernel_rfl) (by kernel_rfl) (fun _ _ _ h => h) (Or.inl ⟨by rfl, ?_⟩) hS ?_
  · intro W hW; have e0 := hW.c0; have e1 := hW.c1; go_simp
  refine wpAnyH_take (i := 6) (v := .pointer (some ⟨b, 0, none⟩)) rfl (by kernel_rfl) (by kernel_rfl) (by kernel_rfl) (fun _ _ _ h => h) (Or.inl ⟨by rfl, ?_⟩) hS ?_
  · intro W hW; have e0 := hW.c0; have e1 := hW.c1; go_simp
  refine wpAnyH_take (i := 7) (v := .slice p n c) rfl (by kernel_rfl) (by kernel_rfl) (by kernel_rfl) (fun _ _ _ h => h) (Or.inl ⟨by rfl, ?_⟩) hS ?_
  · intro W hW; have e0 := hW.c0; have e1 := hW.c1; go_simp
  refine wpAnyH_take (i := 8) (v := .int .i64 n) rfl (by kernel_rfl) (by kernel_rfl) (by kernel_rfl) (fun _ _ _ h => h) (Or.inl ⟨by rfl, ?_⟩) hS ?_
  · intro W hW; have e0 := hW.c0; have e1 := hW.c1; go_simp
  refine wpAnyH_take (i := 9) (v := .bool false) rfl (by kernel_rfl) (by kernel_rfl) (by kernel_rfl) (fun _ _ _ h => h) (Or.inl ⟨by rfl, ?_⟩) hS ?_
  · intro W hW; have e0 := hW.c0; have e1 := hW.c1; go_simp
  simp only [Act.put, List.getElem_toArray, List.getElem_cons_succ, List.getElem_cons_zero, List.setIfInBounds_toArray, List.set_cons_succ, List.set_cons_zero]
  refine wpAnyH_done (by kernel_rfl) ?_ _
  have e1 := hS.c1
  have f1 := hS.f 1
  have HB : Hid (RBx w1 b (.slice p n c) k) := hS
  clear hS h hq UZ
  go_wp2_with fail
  go_ret
  exact ⟨rfl, HB.out.set1 _, ((Upd.refl [b] w).then U1.out (by simp)).setCell (Or.inr (by simp)) _⟩

set_option maxHeartbeats 1000000 in
set_option maxRecDepth 100000 in
theorem rnext_end (w : World) (b : Nat) (p : Option Addr) (n c : Nat) (k : Int) (hq : decide ((n : Int) ≤ k) = true) (h : RBx w b (.slice p n c) k) : Calls Try.prog 30 #[.pointer (some ⟨b, 0, none⟩)] w fun e w' => e = .returned (.tuple #[(.agg #[.int .u8 0, .bool false, .slice none 0 0, .string ⟨#[]⟩, .int .i64 0, .slice none 0 0, .slice none 0 0]), .bool false]) ∧ Upd [] w w' := by
  have UZ : Hid (Upd [] w (w.alloc (.cells #[.int .u8 0, .bool false, .slice none 0 0, .string ⟨#[]⟩, .int .i64 0, .slice none 0 0, .slice none 0 0] 26))) := (Upd.refl [] w).alloc _
  have TZ : Hid (Tb (w.alloc (.cells #[.int .u8 0, .bool false, .slice none 0 0, .string ⟨#[]⟩, .int .i64 0, .slice none 0 0, .slice none 0 0] 26)) w.heap.size #[.int .u8 0, .bool false, .slice none 0 0, .string ⟨#[]⟩, .int .i64 0, .slice none 0 0, .slice none 0 0]) := Tb.new _ _ _ rfl
  go_enter Try.func30, Try.ntmps30
  go_wp2_with fail
  have hS0 : (fun W => RBx W b (.slice p n c) k) (w.alloc (.cells #[.int .u8 0, .bool false, .slice none 0 0, .string ⟨#[]⟩, .int .i64 0, .slice none 0 0, .slice none 0 0] 26)).drew := h.mono UZ.out.drew (by simp)
  refine wp_region_held_drew (S := fun W => RBx W b (.slice p n c) k) (by kernel_rfl) hS0 (fun hS => ?_)
  have U1 : Hid (Upd [] w (w.alloc (.cells #[.int .u8 0, .bool false, .slice none 0 0, .string ⟨#[]⟩, .int .i64 0, .slice none 0 0, .slice none 0 0] 26)).drew) := UZ.out.drew
  have T1 : Hid (Tb (w.alloc (.cells #[.int .u8 0, .bool false, .slice none 0 0, .string ⟨#[]⟩, .int .i64 0, .slice none 0 0, .slice none 0 0] 26)).drew w.heap.size #[.int .u8 0, .bool false, .slice none 0 0, .string ⟨#[]⟩, .int .i64 0, .slice none 0 0, .slice none 0 0]) := TZ.out.mono (Upd.refl [] _).drew (by simp)
  generalize World.drew _ = w1 at hS U1 T1 ⊢
  clear hS0 UZ TZ
  refine wpAnyH_take (i := 0) (v := .pointer (some ⟨b, 0, none⟩)) rfl (by kernel_rfl) (by kernel_rfl) (by kernel_rfl) (fun _ _ _ h => h) (Or.inl ⟨by rfl, ?_⟩) hS ?_
  · intro W hW; have e0 := hW.c0; have e1 := hW.c1; go_simp
  refine wpAnyH_take (i := 1) (v := .pointer (some ⟨b, 0, none⟩)) rfl (by kernel_rfl) (by kernel_rfl) (by kernel_rfl) (fun _ _ _ h => h) (Or.inl ⟨by rfl, ?_⟩) hS ?_
  · intro W hW; have e0 := hW.c0; have e1 := hW.c1; go_simp
  refine wpAnyH_take (i := 2) (v := .pointer (some ⟨b, 1, none⟩)) rfl (by kernel_rfl) (by kernel_rfl) (by kernel_rfl) (fun _ _ _ h => h) (Or.inl ⟨by rfl, ?_⟩) hS ?_
  · intro W hW; have e0 := hW.c0; have e1 := hW.c1; go_simp
  refine wpAnyH_take (i := 3) (v := .int .i64 k) rfl (by kernel_rfl) (by kernel_rfl) (by kernel_rfl) (fun _ _ _ h => h) (Or.inl ⟨by rfl, ?_⟩) hS ?_
  · intro W hW; have e0 := hW.c0; have e1 := hW.c1; go_simp
  refine wpAnyH_take (i := 4) (v := .pointer (some ⟨b, 0, none⟩)) rfl (by kernel_rfl) (by kernel_rfl) (by kernel_rfl) (fun _ _ _ h => h) (Or.inl ⟨by rfl, ?_⟩) hS ?_
  · intro W hW; have e0 := hW.c0; have e1 := hW.c1; go_simp
  refine wpAnyH_take (i := 5) (v := .pointer (some ⟨b, 0, none⟩)) rfl (by kernel_rfl) (by kernel_rfl) (by kernel_rfl) (fun _ _ _ h => h) (Or.inl ⟨by rfl, ?_⟩) hS ?_
  · intro W hW; have e0 := hW.c0; have e1 := hW.c1; go_simp
  refine wpAnyH_take (i := 6) (v := .pointer (some ⟨b, 0, none⟩)) rfl (by kernel_rfl) (by kernel_rfl) (by kernel_rfl) (fun _ _ _ h => h) (Or.inl ⟨by rfl, ?_⟩) hS ?_
  · intro W hW; have e0 := hW.c0; have e1 := hW.c1; go_simp
  refine wpAnyH_take (i := 7) (v := .slice p n c) rfl (by kernel_rfl) (by kernel_rfl) (by kernel_rfl) (fun _ _ _ h => h) (Or.inl ⟨by rfl, ?_⟩) hS ?_
  · intro W hW; have e0 := hW.c0; have e1 := hW.c1; go_simp
  refine wpAnyH_take (i := 8) (v := .int .i64 n) rfl (by kernel_rfl) (by kernel_rfl) (by kernel_rfl) (fun _ _ _ h => h) (Or.inl ⟨by rfl, ?_⟩) hS ?_
  · intro W hW; have e0 := hW.c0; have e1 := hW.c1; go_simp
  refine wpAnyH_take (i := 9) (v := .bool true) rfl (by kernel_rfl) (by kernel_rfl) (by kernel_rfl) (fun _ _ _ h => h) (Or.inl ⟨by rfl, ?_⟩) hS ?_
  · intro W hW; have e0 := hW.c0; have e1 := hW.c1; go_simp
  simp only [Act.put, List.getElem_toArray, List.getElem_cons_succ, List.getElem_cons_zero, List.setIfInBounds_toArray, List.set_cons_succ, List.set_cons_zero]
  refine wpAnyH_done (by kernel_rfl) ?_ _
  go_wp2_with (first | (refine store_T _ rfl _ _ rfl _ _ _ rfl rfl T1.out rfl rfl (fl_one 0 false ⟨#[]⟩ 0) ?_; intro w3 hT3 hU3) | fail)
  exact ret_Tb rfl rfl _ _ _ rfl hT3 rfl rfl ⟨rfl, U1.out.then hU3 (by simp)⟩

set_option maxHeartbeats 1000000 in
set_option maxRecDepth 100000 in
theorem rnext_on (w : World) (b g n c k : Nat) (kk nn : Int) (bb : Bool) (ss : ByteArray) (hk : k < n) (h : RBx w b (.slice (some ⟨g, 0, none⟩) n c) k) (hgl : g < w.heap.size) (hr : w.rangeAt g (k * 7) (fl kk bb ss nn).toList) :
    Calls Try.prog 30 #[.pointer (some ⟨b, 0, none⟩)] w fun e w' => e = .returned (.tuple #[.agg (fl kk bb ss nn), .bool true]) ∧ Upd [] w w' := by
  obtain ⟨fs, hdesc⟩ := term_desc
  have hq : decide ((n : Int) ≤ (k : Int)) = false := decide_eq_false (by omega)
  have HR : Hid (g < w.heap.size ∧ w.rangeAt g (k * 7) (fl kk bb ss nn).toList ∧ RBx w b (.slice (some ⟨g, 0, none⟩) n c) k) := ⟨hgl, hr, h⟩
  clear hgl hr
  have UZ : Hid (Upd [] w (w.alloc (.cells #[.int .u8 0, .bool false, .slice none 0 0, .string ⟨#[]⟩, .int .i64 0, .slice none 0 0, .slice none 0 0] 26))) := (Upd.refl [] w).alloc _
  have TZ : Hid (Tb (w.alloc (.cells #[.int .u8 0, .bool false, .slice none 0 0, .string ⟨#[]⟩, .int .i64 0, .slice none 0 0, .slice none 0 0] 26)) w.heap.size #[.int .u8 0, .bool false, .slice none 0 0, .string ⟨#[]⟩, .int .i64 0, .slice none 0 0, .slice none 0 0]) := Tb.new _ _ _ rfl
  go_enter Try.func30, Try.ntmps30
  go_wp2_with fail
  have hS0 : (fun W => RBx W b (.slice (some ⟨g, 0, none⟩) n c) k) (w.alloc (.cells #[.int .u8 0, .bool false, .slice none 0 0, .string ⟨#[]⟩, .int .i64 0, .slice none 0 0, .slice none 0 0] 26)).drew := h.mono UZ.out.drew (by simp)
  refine wp_region_held_drew (S := fun W => RBx W b (.slice (some ⟨g, 0, none⟩) n c) k) (by kernel_rfl) hS0 (fun hS => ?_)
  have U1 : Hid (Upd [] w (w.alloc (.cells #[.int .u8 0, .bool false, .slice none 0 0, .string ⟨#[]⟩, .int .i64 0, .slice none 0 0, .slice none 0 0] 26)).drew) := UZ.out.drew
  have T1 : Hid (Tb (w.alloc (.cells #[.int .u8 0, .bool false, .slice none 0 0, .string ⟨#[]⟩, .int .i64 0, .slice none 0 0, .slice none 0 0] 26)).drew w.heap.size #[.int .u8 0, .bool false, .slice none 0 0, .string ⟨#[]⟩, .int .i64 0, .slice none 0 0, .slice none 0 0]) := TZ.out.mono (Upd.refl [] _).drew (by simp)
  generalize World.drew _ = w1 at hS U1 T1 ⊢
  clear hS0 UZ TZ
  refine wpAnyH_take (i := 0) (v := .pointer (some ⟨b, 0, none⟩)) rfl (by kernel_rfl) (by kernel_rfl) (by kernel_rfl) (fun _ _ _ h => h) (Or.inl ⟨by rfl, ?_⟩) hS ?_
  · intro W hW; have e0 := hW.c0; have e1 := hW.c1; go_simp
  refine wpAnyH_take (i := 1) (v := .pointer (some ⟨b, 0, none⟩)) rfl (by kernel_rfl) (by kernel_rfl) (by kernel_rfl) (fun _ _ _ h => h) (Or.inl ⟨by rfl, ?_⟩) hS ?_
  · intro W hW; have e0 := hW.c0; have e1 := hW.c1; go_simp
  refine wpAnyH_take (i := 2) (v := .pointer (some ⟨b, 1, none⟩)) rfl (by kernel_rfl) (by kernel_rfl) (by kernel_rfl) (fun _ _ _ h => h) (Or.inl ⟨by rfl, ?_⟩) hS ?_
  · intro W hW; have e0 := hW.c0; have e1 := hW.c1; go_simp
  refine wpAnyH_take (i := 3) (v := .int .i64 k) rfl (by kernel_rfl) (by kernel_rfl) (by kernel_rfl) (fun _ _ _ h => h) (Or.inl ⟨by rfl, ?_⟩) hS ?_
  · intro W hW; have e0 := hW.c0; have e1 := hW.c1; go_simp
  refine wpAnyH_take (i := 4) (v := .pointer (some ⟨b, 0, none⟩)) rfl (by kernel_rfl) (by kernel_rfl) (by kernel_rfl) (fun _ _ _ h => h) (Or.inl ⟨by rfl, ?_⟩) hS ?_
  · intro W hW; have e0 := hW.c0; have e1 := hW.c1; go_simp
  refine wpAnyH_take (i := 5) (v := .pointer (some ⟨b, 0, none⟩)) rfl (by kernel_rfl) (by kernel_rfl) (by kernel_rfl) (fun _ _ _ h => h) (Or.inl ⟨by rfl, ?_⟩) hS ?_
  · intro W hW; have e0 := hW.c0; have e1 := hW.c1; go_simp
  refine wpAnyH_take (i := 6) (v := .pointer (some ⟨b, 0, none⟩)) rfl (by kernel_rfl) (by kernel_rfl) (by kernel_rfl) (fun _ _ _ h => h) (Or.inl ⟨by rfl, ?_⟩) hS ?_
  · intro W hW; have e0 := hW.c0; have e1 := hW.c1; go_simp
  refine wpAnyH_take (i := 7) (v := .slice (some ⟨g, 0, none⟩) n c) rfl (by kernel_rfl) (by kernel_rfl) (by kernel_rfl) (fun _ _ _ h => h) (Or.inl ⟨by rfl, ?_⟩) hS ?_
  · intro W hW; have e0 := hW.c0; have e1 := hW.c1; go_simp
  refine wpAnyH_take (i := 8) (v := .int .i64 n) rfl (by kernel_rfl) (by kernel_rfl) (by kernel_rfl) (fun _ _ _ h => h) (Or.inl ⟨by rfl, ?_⟩) hS ?_
  · intro W hW; have e0 := hW.c0; have e1 := hW.c1; go_simp
  refine wpAnyH_take (i := 9) (v := .bool false) rfl (by kernel_rfl) (by kernel_rfl) (by kernel_rfl) (fun _ _ _ h => h) (Or.inl ⟨by rfl, ?_⟩) hS ?_
  · intro W hW; have e0 := hW.c0; have e1 := hW.c1; go_simp
  simp only [Act.put, List.getElem_toArray, List.getElem_cons_succ, List.getElem_cons_zero, List.setIfInBounds_toArray, List.set_cons_succ, List.set_cons_zero]
  refine wpAnyH_done (by kernel_rfl) ?_ _
  clear hS
  go_wp2_with fail
  have hS0 : (fun W => RBx W b (.slice (some ⟨g, 0, none⟩) n c) k ∧ W.rangeAt g (k * 7) (fl kk bb ss nn).toList ∧ ∃ cs : Array Value, Tb W w.heap.size cs ∧ cs.size = 7) w1.drew := ⟨h.mono U1.out.drew (by simp), range_upd HR.out.2.1 HR.out.1 U1.out.drew (by simp), ⟨_, T1.out.mono (Upd.refl [] w1).drew (by simp), rfl⟩⟩
  refine wp_region_held_drew (S := fun W => RBx W b (.slice (some ⟨g, 0, none⟩) n c) k ∧ W.rangeAt g (k * 7) (fl kk bb ss nn).toList ∧ ∃ cs : Array Value, Tb W w.heap.size cs ∧ cs.size = 7) (by kernel_rfl) hS0 (fun hS => ?_)
  have U2 : Hid (Upd [] w w1.drew) := U1.out.drew
  generalize World.drew _ = w2 at hS U2 ⊢
  clear hS0 U1 T1
  refine wpAnyH_take (i := 0) (v := .pointer (some ⟨b, 0, none⟩)) rfl (by kernel_rfl) (by kernel_rfl) (by kernel_rfl) (fun _ _ _ h => h) (Or.inl ⟨by rfl, ?_⟩) hS ?_
  · intro W hW; have e0 := hW.1.c0; have e1 := hW.1.c1; go_simp
  refine wpAnyH_take (i := 1) (v := .pointer (some ⟨b, 0, none⟩)) rfl (by kernel_rfl) (by kernel_rfl) (by kernel_rfl) (fun _ _ _ h => h) (Or.inl ⟨by rfl, ?_⟩) hS ?_
  · intro W hW; have e0 := hW.1.c0; have e1 := hW.1.c1; go_simp
  refine wpAnyH_take (i := 2) (v := .pointer (some ⟨b, 0, none⟩)) rfl (by kernel_rfl) (by kernel_rfl) (by kernel_rfl) (fun _ _ _ h => h) (Or.inl ⟨by rfl, ?_⟩) hS ?_
  · intro W hW; have e0 := hW.1.c0; have e1 := hW.1.c1; go_simp
  refine wpAnyH_take (i := 3) (v := .slice (some ⟨g, 0, none⟩) n c) rfl (by kernel_rfl) (by kernel_rfl) (by kernel_rfl) (fun _ _ _ h => h) (Or.inl ⟨by rfl, ?_⟩) hS ?_
  · intro W hW; have e0 := hW.1.c0; have e1 := hW.1.c1; go_simp
  refine wpAnyH_take (i := 4) (v := .pointer (some ⟨b, 0, none⟩)) rfl (by kernel_rfl) (by kernel_rfl) (by kernel_rfl) (fun _ _ _ h => h) (Or.inl ⟨by rfl, ?_⟩) hS ?_
  · intro W hW; have e0 := hW.1.c0; have e1 := hW.1.c1; go_simp
  refine wpAnyH_take (i := 5) (v := .pointer (some ⟨b, 0, none⟩)) rfl (by kernel_rfl) (by kernel_rfl) (by kernel_rfl) (fun _ _ _ h => h) (Or.inl ⟨by rfl, ?_⟩) hS ?_
  · intro W hW; have e0 := hW.1.c0; have e1 := hW.1.c1; go_simp
  refine wpAnyH_take (i := 6) (v := .pointer (some ⟨b, 1, none⟩)) rfl (by kernel_rfl) (by kernel_rfl) (by kernel_rfl) (fun _ _ _ h => h) (Or.inl ⟨by rfl, ?_⟩) hS ?_
  · intro W hW; have e0 := hW.1.c0; have e1 := hW.1.c1; go_simp
  refine wpAnyH_take (i := 7) (v := .int .i64 k) rfl (by kernel_rfl) (by kernel_rfl) (by kernel_rfl) (fun _ _ _ h => h) (Or.inl ⟨by rfl, ?_⟩) hS ?_
  · intro W hW; have e0 := hW.1.c0; have e1 := hW.1.c1; go_simp
  refine wpAnyH_take (i := 8) (v := .pointer (some ⟨g, k * 7, none⟩)) rfl (by kernel_rfl) (by kernel_rfl) (by kernel_rfl) (fun _ _ _ h => h) (Or.inl ⟨by rfl, ?_⟩) hS ?_
  · intro W hW; have e0 := hW.1.c0; have e1 := hW.1.c1; have hk0 : (0 : Int) ≤ k := (by omega); go_simp
  simp only [Act.put, List.getElem_toArray, List.getElem_cons_succ, List.getElem_cons_zero, List.setIfInBounds_toArray, List.set_cons_succ, List.set_cons_zero]
  refine wpAnyH_take (i := 9) (v := .agg (fl kk bb ss nn)) rfl (by kernel_rfl) (by kernel_rfl) (by kernel_rfl) (fun _ _ _ h => h) (yieldsIf_load_mid rfl 26 (.tmp 23) rfl g (k * 7) rfl (fl kk bb ss nn).toList _ (fun W hW => hW.2.1) hdesc rfl (by rw [info_term]; rfl)) hS ?_
  simp only [Act.put, List.getElem_toArray, List.getElem_cons_succ, List.getElem_cons_zero, List.setIfInBounds_toArray, List.set_cons_succ, List.set_cons_zero]
  obtain ⟨cs, hT4, hcs⟩ := hS.2.2
  refine wpAnyH_ready (rs := [10]) (by kernel_rfl) (by simp) (AllReadyH.cons rfl (fun K hK => ?_) AllReadyH.nil)
  rw [if_pos (by rfl)]
  refine wp_store_row 26 (.tmp 2) (.tmp 24) rfl w.heap.size (fl kk bb ss nn) rfl rfl 26 cs hT4 (by rw [info_term]; rfl) hcs (fl_one kk bb ss nn) ?_
  have hT5 := setRow_tb hT4 (fl kk bb ss nn)
  have hU5 := setRow_upd w2 w.heap.size (fl kk bb ss nn)
  have hgb : b ≠ w.heap.size := by have := HR.out.2.2.lt; omega
  have hgg : g ≠ w.heap.size := by have := HR.out.1; omega
  have hS2 : (fun W => RBx W b (.slice (some ⟨g, 0, none⟩) n c) k ∧ W.rangeAt g (k * 7) (fl kk bb ss nn).toList ∧ ∃ cs : Array Value, Tb W w.heap.size cs ∧ cs.size = 7) (w2.setRow w.heap.size (fl kk bb ss nn)) := ⟨hS.1.mono hU5 (by simpa using hgb), range_upd hS.2.1 (Nat.lt_of_lt_of_le HR.out.1 U2.out.size) hU5 (by simpa using hgg), ⟨_, hT5, rfl⟩⟩
  have U5 : Hid (Upd [] w (w2.setRow w.heap.size (fl kk bb ss nn))) := U2.out.then hU5 (by simp)
  have HT5 : Hid (Tb (w2.setRow w.heap.size (fl kk bb ss nn)) w.heap.size (fl kk bb ss nn)) := hT5
  refine hK.out _ _ hS2 (fun _ => ?_)
  clear hK K hT5 hU5 hS hT4 U2
  refine wpAnyH_take (i := 11) (v := .bool true) rfl (by kernel_rfl) (by kernel_rfl) (by kernel_rfl) (fun _ _ _ h => h) (Or.inl ⟨by rfl, ?_⟩) hS2 ?_
  · intro W hW; skip; go_simp
  simp only [Act.put, List.getElem_toArray, List.getElem_cons_succ, List.getElem_cons_zero, List.setIfInBounds_toArray, List.set_cons_succ, List.set_cons_zero]
  refine wpAnyH_done (by kernel_rfl) ?_ _
  go_wp2_with fail
  exact ret_Tb rfl rfl _ _ _ rfl HT5.out rfl rfl ⟨rfl, U5.out⟩

theorem rskip_V (w : World) (b : Nat) (v : Value) (L : List (List Value)) (k : Nat) (hk : k < L.length) (hn : L.length ≤ 1024) (h : RBoxV w b v L k) : Calls Try.prog 19 #[.pointer (some ⟨b, 0, none⟩)] w fun e w' => e = .returned (.int .i64 0) ∧ RBoxV w' b v L (k + 1) ∧ UpdB b v w w' v := by
  obtain ⟨p, c, rfl⟩ := h.form
  refine (rskip_on w b p L.length c k (decide_eq_false (by omega)) (by omega) (by omega) h.bx).mono ?_
  rintro e w' ⟨rfl, h1, h2⟩
  exact ⟨rfl, h.look h1 h2, UpdB.of h2⟩
theorem rskip_Ve (w : World) (b : Nat) (v : Value) (L : List (List Value)) (k : Nat) (hk : k = L.length) (h : RBoxV w b v L k) : Calls Try.prog 19 #[.pointer (some ⟨b, 0, none⟩)] w fun e w' => e = .returned (.int .i64 6) ∧ Upd [] w w' := by
  obtain ⟨p, c, rfl⟩ := h.form
  exact rskip_end w b p L.length c k (decide_eq_true (by omega)) h.bx
theorem rnext_V (w : World) (b : Nat) (v : Value) (L : List (List Value)) (k : Nat) (kk nn : Int) (bb : Bool) (ss : ByteArray) (hk : k < L.length) (h : RBoxV w b v L k) (hc : L.getD k [] = (fl kk bb ss nn).toList) : Calls Try.prog 30 #[.pointer (some ⟨b, 0, none⟩)] w fun e w' => e = .returned (.tuple #[.agg (fl kk bb ss nn), .bool true]) ∧ Upd [] w w' := by
  rcases h.row with ⟨_, h2⟩ | ⟨g, cap, rfl, hgl, hc1, hc2, _⟩
  · omega
  have hr : w.rangeAt g (k * 7) (fl kk bb ss nn).toList := by
    have := h.has.range (i := k) hk (by rw [hc]; rfl)
    rw [hc] at this
    exact this
  exact rnext_on w b g L.length cap k kk nn bb ss hk h.bx hgl hr
theorem rnext_Ve (w : World) (b : Nat) (v : Value) (L : List (List Value)) (k : Nat) (hk : k = L.length) (h : RBoxV w b v L k) : Calls Try.prog 30 #[.pointer (some ⟨b, 0, none⟩)] w fun e w' => e = .returned (.tuple #[(.agg #[.int .u8 0, .bool false, .slice none 0 0, .string ⟨#[]⟩, .int .i64 0, .slice none 0 0, .slice none 0 0]), .bool false]) ∧ Upd [] w w' := by
  obtain ⟨p, c, rfl⟩ := h.form
  exact rnext_end w b p L.length c k (decide_eq_true (by omega)) h.bx

end Go.Proofs.Ytmdkhkeljpdbiaa
