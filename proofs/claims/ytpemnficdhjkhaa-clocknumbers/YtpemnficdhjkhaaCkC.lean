/- Clocks: slices.Delete of one out of a row; a row in memory of its own. -/
import Derived.Test.YtpemnficdhjkhaaCkI
import Derived.Deep.AppendSrc
import Derived.Shelf.Slices.Cells
namespace Go.Proofs.Ytpemnficdhjkhaa
open Go.RowKit Go.Maps

theorem drop_getD (xs : List Int) (k j : Nat) : (xs.drop k).getD j 0 = xs.getD (k + j) 0 := by
  rw [List.getD_eq_getElem?_getD, List.getD_eq_getElem?_getD, List.getElem?_drop]
/-- The row without its k-th. -/
def delL (xs : List Int) (k : Nat) : List Int := xs.take k ++ xs.drop (k + 1)
theorem delL_len (xs : List Int) {k : Nat} (hk : k < xs.length) : (delL xs k).length + 1 = xs.length := by
  unfold delL; simp; omega

theorem delete_any {W : World} {v : Value} {xs : List Int} {gb : Option Nat} (h : RowB W v xs gb) {k : Nat} (hk : k < xs.length) :
    Calls Try.prog 28 #[v, .int .i64 k, .int .i64 ((k : Int) + 1)] W fun e W' => ∃ v', e = .returned v' ∧ RowB W' v' (delL xs k) gb ∧ UpP (fun x => gb = some x) W W' := by
  rcases h with ⟨_, rfl, _⟩ | ⟨b, off, cap, cur, rfl, rfl, h3, h4, h5, h6, h7⟩
  · simp at hk
  · have := Any.slices_Delete_int_cells deleteA b off xs.length cap k (k + 1) xs W (Nat.le_refl _) h5 h6 (by omega) (by omega) (fun j hj => by rw [h3.cell]; exact h7 j hj) (fun j hj => h3.free _)
    refine Calls.mono this ?_
    rintro e W' ⟨rfl, q, rfl⟩
    rw [List.take_length]
    obtain ⟨ys, hys⟩ : ∃ ys, ys = delL xs k ++ List.replicate (k + 1 - k) (0 : Int) := ⟨_, rfl⟩
    have e1 : xs.take k ++ xs.drop (k + 1) ++ List.replicate (k + 1 - k) (0 : Int) = ys := by rw [hys]; rfl
    rw [e1]
    have hl := delL_len xs hk
    have hyl : ys.length = xs.length := by rw [hys, List.length_append, List.length_replicate]; omega
    obtain ⟨c2, k2, s2, in2, out2⟩ := Cl.sets (ys.map (Value.int .i64)) off (show Cl (W.drewN q) b cur 3 from h3)
    refine ⟨_, rfl, Or.inr ⟨b, off, cap, c2, rfl, by rw [show xs.length - (k + 1 - k) = (delL xs k).length by omega], k2, by omega, by omega, h6, ?_⟩, ?_⟩
    · intro j hj
      have := in2 j (by rw [List.length_map]; omega) (by omega)
      rw [this, vals_at ys (by omega)]
      congr 2
      rw [hys, List.getD_eq_getElem?_getD, List.getD_eq_getElem?_getD, List.getElem?_append_left hj]
    · exact (upd_sets (S := [b]) (blk := b) ((Upd.refl [b] W).drewN q) (Or.inr (by simp)) (ys.map (Value.int .i64)) off).toP.mono (fun x hx => by simp at hx; rw [hx])

/-! ### a row in memory of its own -/
/-- A row that is handed out: nobody's, or in a block from B on. -/
def AR (w : World) (B : Nat) (v : Value) (xs : List Int) : Prop := (xs = [] ∧ ∃ p, v = .slice p 0 0) ∨ ∃ b, RowB w v xs (some b) ∧ B ≤ b
theorem AR.mono {P : Nat → Prop} {w w' : World} {B : Nat} {v : Value} {xs : List Int} (h : AR w B v xs) (hu : UpP P w w') (hn : ∀ x, P x → x < B ∨ w.heap.size ≤ x) : AR w' B v xs := by
  rcases h with h | ⟨b, h, hB⟩
  · exact Or.inl h
  · refine Or.inr ⟨b, h.mono hu (fun b' hb hP => ?_), hB⟩
    cases hb
    have := h.lt rfl
    have := hn b hP
    omega
theorem AR.upd {w w' : World} {B : Nat} {v : Value} {xs : List Int} (h : AR w B v xs) (hu : Upd [] w w') : AR w' B v xs := h.mono (P := fun _ => False) hu.toN (fun _ h => h.elim)
theorem AR.base {w : World} {B B' : Nat} {v : Value} {xs : List Int} (h : AR w B v xs) (hB : B' ≤ B) : AR w B' v xs := by
  rcases h with h | ⟨b, h, hb⟩
  · exact Or.inl h
  · exact Or.inr ⟨b, h, Nat.le_trans hB hb⟩
theorem AR.form {w : World} {B : Nat} {v : Value} {xs : List Int} (h : AR w B v xs) : ∃ p c, v = .slice p xs.length c := by
  rcases h with ⟨rfl, p, rfl⟩ | ⟨b, h, hb⟩
  · exact ⟨p, 0, rfl⟩
  · exact h.form
theorem AR.cell {w : World} {B : Nat} {v : Value} {xs : List Int} (h : AR w B v xs) {k : Nat} (hk : k < xs.length) : ∃ b off cap, v = .slice (some ⟨b, off, none⟩) xs.length cap ∧ w.cell? ⟨b, off + k, none⟩ = some (.int .i64 (xs.getD k 0)) := by
  rcases h with ⟨rfl, _⟩ | ⟨b, h, hb⟩
  · simp at hk
  · obtain ⟨b', off, cap, _, h2, h3⟩ := h.cell hk
    exact ⟨b', off, cap, h2, h3⟩
theorem AR.le {w : World} {B : Nat} {v : Value} {xs : List Int} (h : AR w B v xs) : xs.length ≤ 9223372036854775807 := by
  rcases h with ⟨rfl, _⟩ | ⟨b, h, hb⟩
  · simp
  · rcases h with ⟨_, _, h⟩ | ⟨b, off, cap, cur, _, _, h3, h4, h5, h6, h7⟩
    · cases h
    · omega

theorem und_ints : Try.prog.underlying 34 = some (.slice 3) := by kernel_rfl
theorem info_int1 : ∃ i, Try.prog.info? 3 = some i ∧ i.size = 1 ∧ i.zero = some (.int .i64 0) ∧ i.bytes = 8 := by
  obtain ⟨i0, hi0, hz0, hzs, hzb⟩ := info_parts insertA.i3
  exact ⟨i0, hi0, hzs, hz0, hzb⟩
/-- What is read of a row that is put behind another one. -/
theorem src_row {W : World} {v : Value} {xs : List Int} {gb : Option Nat} (h : RowB W v xs gb) {s : Nat} (hs : s = 1) : Src Try.prog s 34 v xs.length (xs.map (Value.int .i64)) W := by
  subst hs
  rcases h with ⟨rfl, rfl, _⟩ | ⟨b, off, cap, cur, rfl, rfl, h3, h4, h5, h6, h7⟩
  · exact Src.ofNil W und_ints 0
  · refine Src.ofSlice W und_ints ⟨b, off, none⟩ xs.length cap _ (by simp) (fun j u hu => ?_) (vals_one xs)
    obtain ⟨hj, rfl⟩ := vals_get xs hu
    rw [Addr.add_lit, h3.cell]
    exact h7 j hj
theorem src_nil {W : World} {p : Option Addr} {s : Nat} (hs : s = 1) : Src Try.prog s 34 (.slice p 0 0) 0 [] W := by
  subst hs
  cases p with
  | none => exact Src.ofNil W und_ints 0
  | some a => exact Src.ofSlice W und_ints a 0 0 [] rfl (fun j u hu => by simp at hu) (fun u hu => by cases hu)
theorem src_ar {W : World} {B : Nat} {v : Value} {xs : List Int} (h : AR W B v xs) {s : Nat} (hs : s = 1) : Src Try.prog s 34 v xs.length (xs.map (Value.int .i64)) W := by
  rcases h with ⟨rfl, p, rfl⟩ | ⟨b, h, hb⟩
  · exact src_nil hs
  · exact src_row h hs

/-- A row put behind one without room: in new memory. -/
theorem append_fresh {W : World} {u : Value} {xs : List Int} (p : Option Addr) (ty : TypeId) (hs : ∀ s, s = 1 → Src Try.prog s 34 u xs.length (xs.map (Value.int .i64)) W) (hn : xs.length ≤ 1073741824) :
    ∃ v' W', (Builtin.append_ #[34, 34] ty #[.slice p 0 0, u]).run Try.prog W = .ok v' W' ∧ AR W' W.heap.size v' xs ∧ Upd [] W W' := by
  obtain ⟨i0, hi, h1, h2, h3⟩ := info_int1
  rcases Nat.eq_zero_or_pos xs.length with h0 | h0
  · obtain rfl := List.eq_nil_of_length_eq_zero h0
    cases p with
    | none =>
      have hS := hs i0.size h1
      rcases hS.kind with ⟨e', hk⟩ | hk
      · refine ⟨.slice none 0 0, W, ?_, Or.inl ⟨rfl, none, rfl⟩, Upd.refl _ _⟩
        have hl := hS.len
        have hc := hS.cells
        simp [Builtin.append_, run_underlying und_ints, sizeOf, typeInfo, hi, hl]
        simp at hc
        simp [hc]
      · rw [und_ints] at hk; cases hk
    | some a =>
      obtain ⟨ab, ao, asp⟩ := a
      have hS := hs i0.size h1
      refine ⟨.slice (some ⟨ab, ao, asp⟩) 0 0, W, ?_, Or.inl ⟨rfl, _, rfl⟩, Upd.refl _ _⟩
      have hl := hS.len
      have hc := hS.cells
      simp at hc
      simp [Builtin.append_, run_underlying und_ints, sizeOf, typeInfo, hi, hl, hc, storeCells]
  · have hold : (Builtin.firstCells i0.size 0 (.slice p 0 0)).run Try.prog W.drew = .ok ([] : List Value).toArray W.drew := by
      cases p with
      | none => exact run_firstCells_none _ _ _ _ _
      | some a => exact run_firstCells_some _ _ _ _ _ _ _ (by simp) (fun j v hj => by simp at hj)
    have := run_append_grow_src (P := Try.prog) W 34 34 ty 3 i0 (.int .i64 0) und_ints hi h2 p 0 0 [] hold u xs.length _ (hs _ h1) (by omega) (by omega) (by rw [h3]; exact growslice_fits (by omega) (by omega))
    have hge := grownCap_ge W (0 + xs.length) 0 3
    have hle := grownCap_le_maxLen W (0 + xs.length) 0 3 (by unfold maxLen; omega)
    refine ⟨_, _, this, Or.inr ⟨W.heap.size, Or.inr ⟨W.heap.size, 0, grownCap W (0 + xs.length) 0 3, _, rfl, by rw [Nat.zero_add], Cl.new W.drew _ _ _ rfl, ?_, by omega, by unfold maxLen at hle; omega, ?_⟩, Nat.le_refl _⟩, ((Upd.refl [] W).drew).alloc _⟩
    · rw [Array.size_append, zeros_size]
      simp
      omega
    · intro j hj
      rw [Array.getElem?_append_left (by simpa using hj), List.nil_append, List.getElem?_toArray, Nat.zero_add j]
      exact vals_at xs hj

set_option maxRecDepth 10000 in
theorem copied_any {W : World} {v : Value} {xs : List Int} {gb : Option Nat} (h : RowB W v xs gb) (hn : xs.length ≤ 1073741824) :
    Calls Try.prog 21 #[v] W fun e W' => ∃ v', e = .returned v' ∧ AR W' W.heap.size v' xs ∧ Upd [] W W' := by
  have hr : ∀ p ty, ∃ v' W', (Builtin.append_ #[34, 34] ty #[.slice p 0 0, v]).run Try.prog W = .ok v' W' ∧ AR W' W.heap.size v' xs ∧ Upd [] W W' := fun p ty => append_fresh p ty (fun s hs => src_row h hs) hn
  have hle : xs.length ≤ 9223372036854775807 := by omega
  rcases h with ⟨rfl, rfl, _⟩ | ⟨b, off, cap, cur, rfl, rfl, h3, h4, h5, h6, h7⟩
  · obtain ⟨v', W', hr, hA⟩ := hr none 34
    have HA : Hid (AR W' W.heap.size v' [] ∧ Upd [] W W') := hA
    clear hA
    go_enter Try.func21, Try.ntmps21
    go_wp2_with (first | (at_builtin; refine Lib.wpList_append_run _ rfl _ _ _ _ rfl _ _ rfl rfl _ _ hr ?_))
    go_ret
    exact ⟨_, rfl, HA.out⟩
  · obtain ⟨v', W', hr, hA⟩ := hr (some ⟨b, off, none⟩) 34
    have HA : Hid (AR W' W.heap.size v' xs ∧ Upd [] W W') := hA
    clear hA h3 h4 h7
    go_enter Try.func21, Try.ntmps21
    go_wp2_with (first | (at_builtin; refine Lib.wpList_append_run _ rfl _ _ _ _ rfl _ _ rfl rfl _ _ hr ?_))
    go_ret
    exact ⟨_, rfl, HA.out⟩

end Go.Proofs.Ytpemnficdhjkhaa
