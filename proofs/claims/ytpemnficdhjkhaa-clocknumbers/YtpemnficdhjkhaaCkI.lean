/- Clocks: slices.Insert of one into a row. -/
import Derived.Test.YtpemnficdhjkhaaCkQ
namespace Go.Proofs.Ytpemnficdhjkhaa
open Go.RowKit Go.Maps

/-- x put at place k. -/
def insL (xs : List Int) (k : Nat) (x : Int) : List Int := xs.take k ++ x :: xs.drop k
theorem insL_len (xs : List Int) {k : Nat} (x : Int) (hk : k ≤ xs.length) : (insL xs k x).length = xs.length + 1 := by
  unfold insL; simp; omega
theorem insL_lt (xs : List Int) {k j : Nat} (x : Int) (hk : k ≤ xs.length) (hj : j < k) : (insL xs k x).getD j 0 = xs.getD j 0 := by
  unfold insL
  rw [List.getD_eq_getElem?_getD, List.getD_eq_getElem?_getD, List.getElem?_append_left (by simp; omega), List.getElem?_take_of_lt hj]
theorem insL_eq (xs : List Int) {k : Nat} (x : Int) (hk : k ≤ xs.length) : (insL xs k x).getD k 0 = x := by
  unfold insL
  have h : (xs.take k).length = k := by simp; omega
  rw [List.getD_eq_getElem?_getD, List.getElem?_append_right (by omega), h, Nat.sub_self]
  rfl
theorem insL_gt (xs : List Int) {k j : Nat} (x : Int) (hk : k ≤ xs.length) (hj : k < j) : (insL xs k x).getD j 0 = xs.getD (j - 1) 0 := by
  unfold insL
  have h : (xs.take k).length = k := by simp; omega
  rw [List.getD_eq_getElem?_getD, List.getD_eq_getElem?_getD, List.getElem?_append_right (by omega), h, show j - k = (j - 1 - k) + 1 by omega, List.getElem?_cons_succ, List.getElem?_drop, show k + (j - 1 - k) = j - 1 by omega]

theorem vals_get (xs : List Int) {j : Nat} {u : Value} (h : (xs.map (Value.int .i64))[j]? = some u) : j < xs.length ∧ u = .int .i64 (xs.getD j 0) := by
  rw [List.getElem?_map] at h
  cases hx : xs[j]? with
  | none => rw [hx] at h; cases h
  | some y =>
    rw [hx] at h; cases h
    exact ⟨(List.getElem?_eq_some_iff.1 hx).1, by rw [List.getD_eq_getElem?_getD, hx]; rfl⟩
theorem vals_at (xs : List Int) {j : Nat} (h : j < xs.length) : (xs.map (Value.int .i64))[j]? = some (.int .i64 (xs.getD j 0)) := by
  rw [List.getElem?_map, List.getD_eq_getElem?_getD, List.getElem?_eq_getElem h]; rfl
theorem zeros_size (n : Nat) : (Builtin.zeroCells (Value.int .i64 0).cells n).size = n := by simp [Builtin.zeroCells, Value.cells]
theorem vals_one (xs : List Int) : ∀ u ∈ xs.map (Value.int .i64), u.oneCell' = true := by
  intro u hu
  obtain ⟨x, _, rfl⟩ := List.mem_map.1 hu
  rfl

/-- What Insert leaves. -/
def InsE (W : World) (gb : Option Nat) (ys : List Int) (e : Ending) (W' : World) : Prop :=
  ∃ v' gb', e = .returned v' ∧ RowB W' v' ys gb' ∧ (∀ b, gb' = some b → gb = some b ∨ W.heap.size ≤ b) ∧ UpP (fun x => gb = some x) W W'

theorem insert_any {W : World} {v : Value} {xs : List Int} {gb : Option Nat} (h : RowB W v xs gb) (hn : xs.length ≤ 1073741824) {vb : Nat} {pid : Int} {tV : TypeId} (hv : Cl W vb #[.int .i64 pid] tV) (hne : ∀ b, gb = some b → vb ≠ b) {k : Nat} (hk : k ≤ xs.length) (vc : Nat) :
    Calls Try.prog 26 #[v, .int .i64 k, .slice (some ⟨vb, 0, none⟩) 1 vc] W fun e W' => InsE W gb (insL xs k pid) e W' := by
  have hvs : ∀ j u, ([Value.int .i64 pid])[j]? = some u → W.cell? ⟨vb, 0 + j, none⟩ = some u := by
    intro j u hu
    match j with
    | 0 => rw [hv.cell]; exact hu
    | j + 1 => simp at hu
  have h1v : ∀ u ∈ [Value.int .i64 pid], u.oneCell' = true := by simp [Value.oneCell']
  rcases h with ⟨rfl, rfl, rfl⟩ | ⟨b, off, cap, cur, rfl, rfl, h3, h4, h5, h6, h7⟩
  · obtain rfl : k = 0 := by simpa using hk
    have := Any2.slices_Insert_int_end_grow insertA none 0 0 vb 0 1 vc [] [.int .i64 pid] W (by omega) (by omega) (by omega) (by omega) rfl rfl (fun _ => rfl) (fun a ha => by cases ha) hvs h1v
    refine Calls.mono this ?_
    rintro e W' ⟨rfl, rfl⟩
    have hge := grownCap_ge W (0 + 1) 0 (insertA_ren.t 3)
    have hle := grownCap_le_maxLen W (0 + 1) 0 (insertA_ren.t 3) (by unfold maxLen; omega)
    generalize grownCap W (0 + 1) 0 (insertA_ren.t 3) = G at hge hle
    refine ⟨_, some W.heap.size, rfl, Or.inr ⟨W.heap.size, 0, G, _, rfl, rfl, Cl.new _ _ _ _ rfl, ?_, ?_, by unfold maxLen at hle; omega, ?_⟩, fun b hb => by cases hb; exact Or.inr (Nat.le_refl _), Upd.toN (((Upd.refl [] W).drew).alloc _)⟩
    · rw [Array.size_append, zeros_size]; simp; omega
    · exact hge
    · intro j hj
      obtain rfl : j = 0 := by simp [insL] at hj; omega
      rw [Array.getElem?_append_left (by simp)]
      rfl
  · have hcs : ∀ j u, (xs.map (Value.int .i64))[j]? = some u → W.cell? ⟨b, off + j, none⟩ = some u := by
      intro j u hu
      obtain ⟨hj, rfl⟩ := vals_get xs hu
      rw [h3.cell]; exact h7 j hj
    have hcl : (xs.map (Value.int .i64)).length = xs.length := by simp
    rcases Nat.lt_or_ge k xs.length with hkl | hkl
    · rcases Nat.lt_or_ge xs.length cap with hc | hc
      · -- within, with room
        have := Any2.slices_Insert_int_shift insertA b off xs.length cap k vb 0 1 vc (xs.map (Value.int .i64)) [.int .i64 pid] W hkl (by omega) (by omega) h6 (hne b rfl) hcl rfl hcs
          (fun j hj => by rw [h3.cell, Array.getElem?_eq_getElem (by omega)]; rfl) (fun j hj => h3.free _) hvs (vals_one xs) h1v tV 3 1 cur.size
          (by unfold World.shape?; rw [hv]; rfl) (by unfold World.shape?; rw [h3]) (by omega) (hv.free _) (hv.free _)
        refine Calls.mono this ?_
        rintro e W' ⟨rfl, rfl⟩
        obtain ⟨c1, k1, s1, in1, out1⟩ := Cl.sets ((xs.map (Value.int .i64)).drop k) (off + (k + 1)) (h3.upd (S := []) ((Upd.refl [] W).drew) (by simp))
        obtain ⟨c2, k2, s2, in2, out2⟩ := Cl.sets [Value.int .i64 pid] (off + k) k1
        refine ⟨_, some b, rfl, Or.inr ⟨b, off, cap, c2, rfl, by rw [insL_len xs pid hk], k2, by omega, by rw [insL_len xs pid hk]; omega, h6, ?_⟩, fun b' hb => Or.inl hb, ?_⟩
        · intro j hj
          rw [insL_len xs pid hk] at hj
          rcases Nat.lt_trichotomy j k with hjk | hjk | hjk
          · rw [insL_lt xs pid hk hjk, out2 _ (by omega), out1 _ (by omega)]
            exact h7 j (by omega)
          · subst hjk
            rw [insL_eq xs pid hk]
            have := in2 0 (by simp) (by omega)
            rw [Nat.add_zero] at this
            rw [this]; rfl
          · rw [insL_gt xs pid hk hjk, out2 _ (by simp; omega)]
            have := in1 (j - (k + 1)) (by simp; omega) (by omega)
            rw [show off + (k + 1) + (j - (k + 1)) = off + j by omega] at this
            rw [this, List.getElem?_drop, show k + (j - (k + 1)) = j - 1 by omega]
            exact vals_at xs (by omega)
        · have u := upd_sets (S := [b]) (blk := b) (upd_sets (S := [b]) (blk := b) ((Upd.refl [b] W).drew) (Or.inr (by simp)) ((xs.map (Value.int .i64)).drop k) (off + (k + 1))) (Or.inr (by simp)) [Value.int .i64 pid] (off + k)
          exact u.toP.mono (fun x hx => by simp at hx; rw [hx])
      · -- within, no room
        have := Any2.slices_Insert_int_grow insertA b off xs.length cap k vb 0 1 vc (xs.map (Value.int .i64)) [.int .i64 pid] W hkl (by omega) h5 (by omega) (by omega) hcl rfl hcs hvs (vals_one xs) h1v
        refine Calls.mono this ?_
        rintro e W' ⟨rfl, rfl⟩
        have hge := grownCap_ge W (xs.length + 1) cap (insertA_ren.t 3)
        have hle := grownCap_le_maxLen W (xs.length + 1) cap (insertA_ren.t 3) (by unfold maxLen; omega)
        generalize grownCap W (xs.length + 1) cap (insertA_ren.t 3) = G at hge hle
        obtain ⟨ROW, hROW⟩ : ∃ R, R = ((xs.map (Value.int .i64)).take k).toArray ++ Builtin.zeroCells (Value.int .i64 0).cells (xs.length + 1 - k) ++ Builtin.zeroCells (Value.int .i64 0).cells (G - (xs.length + 1)) := ⟨_, rfl⟩
        rw [← hROW]
        have hsz : ROW.size = G := by rw [hROW, Array.size_append, Array.size_append, zeros_size, zeros_size]; simp; omega
        have hlo : ∀ j, j < k → ROW[j]? = some (.int .i64 (xs.getD j 0)) := fun j hj => by
          rw [hROW, Array.getElem?_append_left (by rw [Array.size_append, zeros_size]; simp; omega), Array.getElem?_append_left (by simp; omega), List.getElem?_toArray, List.getElem?_take_of_lt hj]
          exact vals_at xs (by omega)
        clear hROW
        obtain ⟨c1, k1, s1, in1, out1⟩ := Cl.sets [Value.int .i64 pid] k (Cl.new W ROW 3 _ rfl : Cl (W.alloc (.cells ROW 3)).drew W.heap.size ROW 3)
        obtain ⟨c2, k2, s2, in2, out2⟩ := Cl.sets ((xs.map (Value.int .i64)).drop k) (k + 1) (show Cl (((W.alloc (.cells ROW 3)).drew.setCells W.heap.size k [Value.int .i64 pid]).drew) W.heap.size c1 3 from k1)
        refine ⟨_, some W.heap.size, rfl, Or.inr ⟨W.heap.size, 0, G, c2, rfl, by rw [insL_len xs pid hk], k2, by omega, by rw [insL_len xs pid hk]; exact hge, by unfold maxLen at hle; omega, ?_⟩, fun b' hb => by cases hb; exact Or.inr (Nat.le_refl _), ?_⟩
        · intro j hj
          rw [insL_len xs pid hk] at hj
          rw [Nat.zero_add]
          rcases Nat.lt_trichotomy j k with hjk | hjk | hjk
          · rw [insL_lt xs pid hk hjk, out2 _ (by omega), out1 _ (by omega)]
            exact hlo j hjk
          · subst hjk
            rw [insL_eq xs pid hk, out2 _ (by omega)]
            have := in1 0 (by simp) (by omega)
            rw [Nat.add_zero] at this
            rw [this]; rfl
          · rw [insL_gt xs pid hk hjk]
            have := in2 (j - (k + 1)) (by simp; omega) (by omega)
            rw [show k + 1 + (j - (k + 1)) = j by omega] at this
            rw [this, List.getElem?_drop, show k + (j - (k + 1)) = j - 1 by omega]
            exact vals_at xs (by omega)
        · have u := upd_sets (S := []) (upd_sets (S := []) (((Upd.refl [] W).alloc (.cells ROW 3)).drew) (blk := W.heap.size) (Or.inl (Nat.le_refl _)) [Value.int .i64 pid] k).drew (blk := W.heap.size) (Or.inl (Nat.le_refl _)) ((xs.map (Value.int .i64)).drop k) (k + 1)
          exact u.toN
    · obtain rfl : k = xs.length := by omega
      rcases Nat.lt_or_ge xs.length cap with hc | hc
      · -- at the end, with room
        have := Any2.slices_Insert_int_end_room insertA b off xs.length cap vb 0 1 vc [.int .i64 pid] W (by omega) (by omega) h6 rfl
          (fun j hj => by rw [h3.cell, Array.getElem?_eq_getElem (by omega)]; rfl) (fun j hj => h3.free _) hvs h1v
        refine Calls.mono this ?_
        rintro e W' ⟨rfl, rfl⟩
        obtain ⟨c2, k2, s2, in2, out2⟩ := Cl.sets [Value.int .i64 pid] (off + xs.length) h3
        refine ⟨_, some b, rfl, Or.inr ⟨b, off, cap, c2, rfl, by rw [insL_len xs pid hk], k2, by omega, by rw [insL_len xs pid hk]; omega, h6, ?_⟩, fun b' hb => Or.inl hb, ?_⟩
        · intro j hj
          rw [insL_len xs pid hk] at hj
          rcases Nat.lt_or_ge j xs.length with hjk | hjk
          · rw [insL_lt xs pid hk hjk, out2 _ (by omega)]
            exact h7 j hjk
          · obtain rfl : j = xs.length := by omega
            rw [insL_eq xs pid hk]
            have := in2 0 (by simp) (by omega)
            rw [Nat.add_zero] at this
            rw [this]; rfl
        · exact (upd_sets (S := [b]) (blk := b) (Upd.refl [b] W) (Or.inr (by simp)) [Value.int .i64 pid] (off + xs.length)).toP.mono (fun x hx => by simp at hx; rw [hx])
      · -- at the end, no room
        have := Any2.slices_Insert_int_end_grow insertA (some ⟨b, off, none⟩) xs.length cap vb 0 1 vc (xs.map (Value.int .i64)) [.int .i64 pid] W (by omega) h5 (by omega) (by omega) hcl rfl (fun h => by cases h)
          (fun a ha j u hu => by cases ha; rw [Addr.add_lit]; exact hcs j u hu) hvs h1v
        refine Calls.mono this ?_
        rintro e W' ⟨rfl, rfl⟩
        have hge := grownCap_ge W (xs.length + 1) cap (insertA_ren.t 3)
        have hle := grownCap_le_maxLen W (xs.length + 1) cap (insertA_ren.t 3) (by unfold maxLen; omega)
        generalize grownCap W (xs.length + 1) cap (insertA_ren.t 3) = G at hge hle
        refine ⟨_, some W.heap.size, rfl, Or.inr ⟨W.heap.size, 0, G, _, rfl, by rw [insL_len xs pid hk], Cl.new _ _ _ _ rfl, ?_, by rw [insL_len xs pid hk]; exact hge, by unfold maxLen at hle; omega, ?_⟩, fun b hb => by cases hb; exact Or.inr (Nat.le_refl _), Upd.toN (((Upd.refl [] W).drew).alloc _)⟩
        · rw [Array.size_append, zeros_size]; simp; omega
        · intro j hj
          rw [insL_len xs pid hk] at hj
          rw [Nat.zero_add, Array.getElem?_append_left (by simp; omega), List.getElem?_toArray]
          rcases Nat.lt_or_ge j xs.length with hjk | hjk
          · rw [insL_lt xs pid hk hjk, List.getElem?_append_left (by simpa using hjk)]
            exact vals_at xs hjk
          · obtain rfl : j = xs.length := by omega
            rw [insL_eq xs pid hk, List.getElem?_append_right (by simp)]
            simp

end Go.Proofs.Ytpemnficdhjkhaa
