/- slices.SortedFunc of maps.Values: the monitors by rising Refs. -/
import Derived.Test.YtofcniodobjopaaGreatLkD
namespace Go.Proofs.YtofcniodobjopaaGreat
open Go.RowKit Go.Maps Go.Sort Go.Shelf Go.Lib

theorem collect_mon (n : Nat) (hn : 3 ≤ n) (g : Nat) (lb : Array Value) (eg : ∀ args w, (callFunc g args).run Tryz.prog w = .ok (.enter g args) w)
    (S : List Mon → Prop) (N : Nat) (hN : N ≤ maxLen) (hNb : N * 24 ≤ 140737488355328) (w : World) (hseq : SeqGives Fence.wide (n - 1 - 1) Tryz.prog g lb encM S N w) :
    Calls Tryz.prog 34 #[.func (.func g) #[] lb] w fun e w' => ∃ (v : Value) (ss : List Mon), e = .returned v ∧ S ss ∧ MR w' w.heap.size v ss ∧ (v = .slice none 0 0 ↔ ss = []) ∧ Upd [] w w' := by
  have h1 := callsIn_wide.1 (appendSeq_mon (n - 1) (by omega) g lb eg S N hN hNb w hseq)
  go_enter Tryz.func34, Tryz.ntmps34
  go_wp2_with fail
  refine Calls.mono h1 ?_
  rintro e w' ⟨v, ss, rfl, hS, hrow, hnil, hb⟩
  go_wp2
  go_ret
  exact ⟨v, ss, rfl, hS, hrow, hnil, upd_of_below hb⟩

theorem isNaN_any (x : Int) (w : World) : Calls Tryz.prog 37 #[.int .i64 x] w fun e w' => e = .returned (.bool false) ∧ w' = w := by
  go_enter Tryz.func37, Tryz.ntmps37
  go_wp2
  go_ret
  exact ⟨rfl, rfl⟩
set_option maxRecDepth 10000 in
theorem compare_any (x y : Int) (w : World) : Calls Tryz.prog 17 #[.int .i64 x, .int .i64 y] w fun e w' => e = .returned (.int .i64 (Lib.compareInt x y)) ∧ w' = w := by
  obtain ⟨c, hc⟩ : ∃ c, c = Lib.compareInt x y := ⟨_, rfl⟩
  rw [← hc]
  by_cases h1 : x < y
  · have e1 : c = -1 := by rw [hc]; unfold Lib.compareInt; simp [h1]
    subst e1
    clear hc
    go_enter Tryz.func17, Tryz.ntmps17
    go_wp2_with (go_at_call 37; refine (isNaN_any _ _).mono ?_; rintro e w' ⟨rfl, rfl⟩)
    go_ret
    exact ⟨rfl, rfl⟩
  · by_cases h2 : y < x
    · have e1 : c = 1 := by rw [hc]; unfold Lib.compareInt; simp [h1, h2]
      subst e1
      clear hc
      go_enter Tryz.func17, Tryz.ntmps17
      go_wp2_with (go_at_call 37; refine (isNaN_any _ _).mono ?_; rintro e w' ⟨rfl, rfl⟩)
      go_ret
      exact ⟨rfl, rfl⟩
    · have e1 : c = 0 := by rw [hc]; unfold Lib.compareInt; simp [h1, h2]
      subst e1
      clear hc
      go_enter Tryz.func17, Tryz.ntmps17
      go_wp2_with (go_at_call 37; refine (isNaN_any _ _).mono ?_; rintro e w' ⟨rfl, rfl⟩)
      go_ret
      exact ⟨rfl, rfl⟩

set_option maxHeartbeats 1000000 in
/-- The closure by which monitors are compared: by their Refs; two blocks are laid. -/
theorem byRef (x y : Mon) (W : World) : Calls Tryz.prog 16 #[.agg #[.int .i64 x.1, .int .i64 x.2.1, .int .i64 x.2.2], .agg #[.int .i64 y.1, .int .i64 y.2.1, .int .i64 y.2.2]] W fun e w' => e = .returned (.int .i64 (Lib.compareInt x.1 y.1)) ∧ ∃ q os', w' = grow (W.drewN q) os' := by
  have hcon := fun W' => compare_any x.1 y.1 W'
  generalize Lib.compareInt x.1 y.1 = r at hcon ⊢
  go_enter Tryz.func16, Tryz.ntmps16
  go_wp2_with (go_at_call 17; refine (hcon _).mono ?_; rintro e w' ⟨rfl, rfl⟩)
  go_ret
  exact ⟨rfl, 0, _, by rw [alloc_eq_grow, alloc_eq_grow, grow_grow]; rfl⟩

theorem ltRef (x y : Mon) : ltOf (fun x y : Mon => Lib.compareInt x.1 y.1) x y = decide (x.1 < y.1) := by
  unfold ltOf Lib.compareInt
  by_cases h1 : x.1 < y.1
  · simp [h1]
  · by_cases h2 : y.1 < x.1 <;> simp [h1, h2]
theorem swoRef : SWO (ltOf fun x y : Mon => Lib.compareInt x.1 y.1) where
  irrefl x := by rw [ltRef]; simp
  trans x y z h1 h2 := by rw [ltRef] at *; simp at *; omega
  ntrans x y z h1 h2 := by rw [ltRef] at *; simp at *; omega

theorem flat_list : ∀ ms : List Mon, (List.range (ms.length * 3)).map (fun t => (cellsM ms[t / 3]!)[t % 3]!) = ms.flatMap cellsM
  | [] => rfl
  | m :: r => by
    have e : (m :: r).length * 3 = 3 + r.length * 3 := by simp; omega
    rw [e, List.range_add, List.map_append, List.flatMap_cons, ← flat_list r, List.map_map]
    have e1 : (List.range 3).map (fun t => (cellsM (m :: r)[t / 3]!)[t % 3]!) = cellsM m := rfl
    rw [e1]
    refine congrArg (cellsM m ++ ·) (List.map_congr_left fun t _ => ?_)
    have h1 : (3 + t) / 3 = t / 3 + 1 := by omega
    have h2 : (3 + t) % 3 = t % 3 := by omega
    simp only [Function.comp]
    rw [h1, h2]
    rfl
theorem flat_cells (d : Array Mon) : (flatK cellsM 3 d).toList = d.toList.flatMap cellsM := by
  rw [← flat_list]
  unfold flatK
  rw [Array.toList_map, Array.toList_range, Array.length_toList]
  refine List.map_congr_left fun t _ => ?_
  rw [show d[t / 3]! = d.toList[t / 3]! by simp [Array.getElem!_eq_getD, Array.getD_eq_getD_getElem?]]
theorem holds_mon {w : World} {g : Nat} {cur : Array Value} {e : TypeId} {ms : List Mon} (hb : w.heap[g]? = some (.cells cur e (0, 0))) (ht : cur.toList.take (ms.length * 3) = ms.flatMap cellsM) : HoldsK cellsM 3 w g 0 ms.toArray := by
  intro j hj
  have hsz : (flatK cellsM 3 ms.toArray).size = ms.length * 3 := by simp
  have hj' : j < ms.length * 3 := by rw [← hsz]; exact hj
  refine ⟨?_, by simp [World.frozen?, hb]⟩
  have h1 : (cur.toList.take (ms.length * 3))[j]? = (flatK cellsM 3 ms.toArray).toList[j]? := by rw [ht, flat_cells]
  rw [List.getElem?_take_of_lt hj'] at h1
  simp only [World.cell?, hb, Nat.zero_add]
  simp only [Option.isSome_none, Bool.false_eq_true, if_false]
  rw [← Array.getElem?_toList, h1, Array.getElem?_toList, getElem!_pos _ j hj]
  simp
theorem heap_sorted_mon {w : World} {g n : Nat} {os : Array Obj} {cur : Array Value} {e : TypeId} (d : Array Mon) (hb : w.heap[g]? = some (.cells cur e (0, 0))) :
    (sortWorldK cellsM 3 w g 0 n d os).heap[g]? = some (.cells (putCells id 0 (flatK cellsM 3 d) cur) e (0, 0)) := by
  have hg : g < w.heap.size := (Array.getElem?_eq_some_iff.1 hb).1
  unfold sortWorldK putRowK
  rw [heap_grow_old _ _ (by simpa using hg)]
  simp [putRow, mapBlock, Sort.ahead, Array.getElem?_modify, hb, onCells]
theorem upd_sorted_mon {w : World} {g n : Nat} {os : Array Obj} (d : Array Mon) : Upd [g] w (sortWorldK cellsM 3 w g 0 n d os) := by
  unfold sortWorldK putRowK
  refine ⟨rfl, rfl, rfl, by simp, fun k hk hne => ?_⟩
  rw [heap_grow_old _ _ (by simpa using hk)]
  have : g ≠ k := fun e => hne (by simp [e])
  simp [putRow, mapBlock, Sort.ahead, Array.getElem?_modify, this]
theorem take_putCells_mon (cur : Array Value) (d : Array Mon) (h : d.size * 3 ≤ cur.size) : (putCells id 0 (flatK cellsM 3 d) cur).toList.take (d.size * 3) = d.toList.flatMap cellsM := by
  rw [← flat_cells]
  apply List.ext_getElem?
  intro j
  have hsz : (flatK cellsM 3 d).size = d.size * 3 := by simp
  by_cases hj : j < d.size * 3
  · rw [List.getElem?_take_of_lt hj, Array.getElem?_toList, Array.getElem?_toList]
    simp [putCells, hj, show j < cur.size by omega]
  · rw [List.getElem?_take_eq_none (by omega), List.getElem?_eq_none (by simp; omega)]

end Go.Proofs.YtofcniodobjopaaGreat
