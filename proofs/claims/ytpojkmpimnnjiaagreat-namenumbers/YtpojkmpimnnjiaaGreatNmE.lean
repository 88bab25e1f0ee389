/- slices.SortedFunc of maps.Values: the names, rising as bytes do. -/
import Derived.Test.YtpojkmpimnnjiaaGreatNmF0
namespace Go.Proofs.YtpojkmpimnnjiaaGreat
open Go.RowKit Go.Maps Go.Sort Go.Shelf Go.Lib

theorem collect_nam (n : Nat) (hn : 3 ≤ n) (g : Nat) (lb : Array Value) (eg : ∀ args w, (callFunc g args).run Tryz.prog w = .ok (.enter g args) w)
    (S : List Nd → Prop) (N : Nat) (hN : N ≤ maxLen) (hNb : N * 24 ≤ 140737488355328) (w : World) (hseq : SeqGives Fence.wide (n - 1 - 1) Tryz.prog g lb namV S N w) :
    Calls Tryz.prog 33 #[.func (.func g) #[] lb] w fun e w' => ∃ (v : Value) (ss : List Nd), e = .returned v ∧ S ss ∧ MR w' w.heap.size v ss ∧ (v = .slice none 0 0 ↔ ss = []) ∧ Upd [] w w' := by
  have h1 := callsIn_wide.1 (appendSeq_nam (n - 1) (by omega) g lb eg S N hN hNb w hseq)
  go_enter Tryz.func33, Tryz.ntmps33
  go_wp2_with fail
  refine Calls.mono h1 ?_
  rintro e w' ⟨v, ss, rfl, hS, hrow, hnil, hb⟩
  go_wp2
  go_ret
  exact ⟨v, ss, rfl, hS, hrow, hnil, upd_of_below hb⟩

theorem compare_any (x y : BS) (w : World) : Calls Tryz.prog 26 #[encStr x, encStr y] w fun e w' => e = .returned (.int .i64 (Lib.compareBytes x y)) ∧ w' = w := strings_Compare ⟨x.toArray⟩ ⟨y.toArray⟩ w

set_option maxHeartbeats 1000000 in
/-- The closure by which names are compared; two blocks are laid. -/
theorem byName (x y : Nd) (W : World) : Calls Tryz.prog 25 #[.agg #[encStr x.1, .int .i64 x.2], .agg #[encStr y.1, .int .i64 y.2]] W fun e w' => e = .returned (.int .i64 (Lib.compareBytes x.1 y.1)) ∧ ∃ q os', w' = grow (W.drewN q) os' := by
  have hcon := fun W' => compare_any x.1 y.1 W'
  generalize Lib.compareBytes x.1 y.1 = r at hcon ⊢
  go_enter Tryz.func25, Tryz.ntmps25
  go_wp2_with (go_at_call 26; refine (hcon _).mono ?_; rintro e w' ⟨rfl, rfl⟩)
  go_ret
  exact ⟨rfl, 0, _, by rw [alloc_eq_grow, alloc_eq_grow, grow_grow]; rfl⟩

theorem cmp_lt : ∀ a b : BS, (Lib.compareBytes a b < 0) ↔ a < b
  | [], [] => by simp [Lib.compareBytes]
  | [], _ :: _ => by simp [Lib.compareBytes]
  | _ :: _, [] => by simp [Lib.compareBytes]
  | x :: r, y :: s => by
    unfold Lib.compareBytes
    rw [List.cons_lt_cons_iff, ← cmp_lt r s]
    by_cases h1 : x < y
    · simp [h1]
    · by_cases h2 : y < x
      · have : x ≠ y := fun e => by subst e; exact UInt8.lt_irrefl _ h2
        simp [h1, h2, this]
      · have : x = y := UInt8.le_antisymm (UInt8.not_lt.1 h2) (UInt8.not_lt.1 h1)
        simp [this]
theorem ltName (x y : Nd) : ltOf (fun x y : Nd => Lib.compareBytes x.1 y.1) x y = decide (x.1 < y.1) := by
  unfold ltOf
  have := cmp_lt x.1 y.1
  by_cases h : x.1 < y.1
  · simp [h, this.2 h]
  · simp only [h, decide_false, decide_eq_false_iff_not]
    exact fun h2 => h (this.1 h2)
theorem swoName : SWO (ltOf fun x y : Nd => Lib.compareBytes x.1 y.1) where
  irrefl x := by rw [ltName]; simp
  trans x y z h1 h2 := by
    rw [ltName] at *
    simp only [decide_eq_true_eq] at *
    exact List.lt_trans h1 h2
  ntrans x y z h1 h2 := by
    rw [ltName] at *
    simp only [decide_eq_false_iff_not] at *
    exact List.not_lt.2 (List.le_trans (List.not_lt.1 h2) (List.not_lt.1 h1))

theorem flat_cells (d : Array Nd) : (flatK cellsN 2 d).toList = d.toList.flatMap cellsN := by
  rw [← flat_list]
  unfold flatK
  rw [Array.toList_map, Array.toList_range, Array.length_toList]
  refine List.map_congr_left fun t _ => ?_
  rw [show d[t / 2]! = d.toList[t / 2]! by simp [Array.getElem!_eq_getD, Array.getD_eq_getD_getElem?]]
theorem holds_nam {w : World} {g : Nat} {cur : Array Value} {e : TypeId} {ms : List Nd} (hb : w.heap[g]? = some (.cells cur e (0, 0))) (ht : cur.toList.take (ms.length * 2) = ms.flatMap cellsN) : HoldsK cellsN 2 w g 0 ms.toArray := by
  intro j hj
  have hsz : (flatK cellsN 2 ms.toArray).size = ms.length * 2 := by simp
  have hj' : j < ms.length * 2 := by rw [← hsz]; exact hj
  refine ⟨?_, by simp [World.frozen?, hb]⟩
  have h1 : (cur.toList.take (ms.length * 2))[j]? = (flatK cellsN 2 ms.toArray).toList[j]? := by rw [ht, flat_cells]
  rw [List.getElem?_take_of_lt hj'] at h1
  simp only [World.cell?, hb, Nat.zero_add]
  simp only [Option.isSome_none, Bool.false_eq_true, if_false]
  rw [← Array.getElem?_toList, h1, Array.getElem?_toList, getElem!_pos _ j hj]
  simp
theorem heap_sorted_nam {w : World} {g n : Nat} {os : Array Obj} {cur : Array Value} {e : TypeId} (d : Array Nd) (hb : w.heap[g]? = some (.cells cur e (0, 0))) :
    (sortWorldK cellsN 2 w g 0 n d os).heap[g]? = some (.cells (putCells id 0 (flatK cellsN 2 d) cur) e (0, 0)) := by
  have hg : g < w.heap.size := (Array.getElem?_eq_some_iff.1 hb).1
  unfold sortWorldK putRowK
  rw [heap_grow_old _ _ (by simpa using hg)]
  simp [putRow, mapBlock, Sort.ahead, Array.getElem?_modify, hb, onCells]
theorem upd_sorted_nam {w : World} {g n : Nat} {os : Array Obj} (d : Array Nd) : Upd [g] w (sortWorldK cellsN 2 w g 0 n d os) := by
  unfold sortWorldK putRowK
  refine ⟨rfl, rfl, rfl, by simp, fun k hk hne => ?_⟩
  rw [heap_grow_old _ _ (by simpa using hk)]
  have : g ≠ k := fun e => hne (by simp [e])
  simp [putRow, mapBlock, Sort.ahead, Array.getElem?_modify, this]
theorem take_putCells_nam (cur : Array Value) (d : Array Nd) (h : d.size * 2 ≤ cur.size) : (putCells id 0 (flatK cellsN 2 d) cur).toList.take (d.size * 2) = d.toList.flatMap cellsN := by
  rw [← flat_cells]
  apply List.ext_getElem?
  intro j
  have hsz : (flatK cellsN 2 d).size = d.size * 2 := by simp
  by_cases hj : j < d.size * 2
  · rw [List.getElem?_take_of_lt hj, Array.getElem?_toList, Array.getElem?_toList]
    simp [putCells, hj, show j < cur.size by omega]
  · rw [List.getElem?_take_eq_none (by omega), List.getElem?_eq_none (by simp; omega)]

end Go.Proofs.YtpojkmpimnnjiaaGreat
