/- The reference's rows; same, pair, find. -/
import Derived.Test.YtofcniodobjopaaGreatLkOm
import Derived.Deep.QuietTactic
import Derived.BigQuiet
import Derived.ChangeKeysEq
namespace Go.Proofs.YtofcniodobjopaaGreat
open Go.RowKit Go.Maps

/-- A row of the reference's monitors. -/
def NR (w : World) (B : Nat) (v : Value) (ms : List Mon) : Prop := w.ownsRow B 122 3 v ms.length (ms.flatMap cellsM)
theorem NR.form {w : World} {B : Nat} {v : Value} {xs : List Mon} (h : NR w B v xs) : ∃ p c, v = .slice p xs.length c := by
  rcases h.2 with ⟨h1, h2⟩ | ⟨g, cap, cur, h1, _⟩
  · exact ⟨none, 0, by rw [h1, h2]⟩
  · exact ⟨_, _, h1⟩
theorem NR.cells {w : World} {B : Nat} {v : Value} {ms : List Mon} (h : NR w B v ms) {k : Nat} (hk : k < ms.length) : ∃ g c, v = .slice (some ⟨g, 0, none⟩) ms.length c ∧ w.cell? ⟨g, k * 3, none⟩ = some (.int .i64 ms[k].1) ∧ w.cell? ⟨g, k * 3 + 1, none⟩ = some (.int .i64 ms[k].2.1) ∧ w.cell? ⟨g, k * 3 + 2, none⟩ = some (.int .i64 ms[k].2.2) := by
  rcases h.2 with ⟨_, h2⟩ | ⟨g, cap, cur, h1, _, hg, _, _, _, ht⟩
  · omega
  · have hat : ∀ j, j < 3 → w.cell? ⟨g, k * 3 + j, none⟩ = (cellsM ms[k])[j]? := by
      intro j hj
      rw [cell_of_row w g _ _ _ _ hg]
      have h3 : (cur.toList.take (ms.length * 3))[k * 3 + j]? = (ms.flatMap cellsM)[k * 3 + j]? := by rw [ht]
      rw [List.getElem?_take_of_lt (by omega), Array.getElem?_toList] at h3
      rw [h3, ← flat_list, List.getElem?_map, List.getElem?_range (by omega)]
      have e1 : (k * 3 + j) / 3 = k := by omega
      have e2 : (k * 3 + j) % 3 = j := by omega
      simp only [Option.map_some]
      rw [e1, e2, getElem!_pos ms k hk]
      match j, hj with
      | 0, _ => rfl
      | 1, _ => rfl
      | 2, _ => rfl
    exact ⟨g, cap, h1, hat 0 (by omega), hat 1 (by omega), hat 2 (by omega)⟩

set_option maxHeartbeats 4000000 in
set_option maxRecDepth 100000 in
/-- same, of one list. -/
theorem same_one (w : World) (B B2 : Nat) (v u : Value) (ms : List Mon) (h1 : MR w B v ms) (h2 : NR w B2 u ms) :
    Calls Tryz.prog 25 #[v, u] w fun e w' => e = .returned (.bool true) ∧ Upd [] w w' := by
  obtain ⟨p, c, hv⟩ := h1.form
  subst hv
  obtain ⟨p2, c2, hu⟩ := h2.form
  subst hu
  have HL : Hid (ms.length ≤ maxLen) := h1.le
  have H1 : Hid (MR w B (.slice p ms.length c) ms ∧ NR w B2 (.slice p2 ms.length c2) ms) := ⟨h1, h2⟩
  clear h1 h2
  obtain ⟨n, hn⟩ : ∃ n, n = ms.length := ⟨_, rfl⟩
  have HN : Hid (n = ms.length) := hn
  rw [← hn] at H1 HL ⊢
  clear hn
  have hnn : ((n : Int) == (n : Int)) = true := by simp
  go_enter Tryz.func25, Tryz.ntmps25
  go_wp2_with fail
  go_loopw [5] (fun s5 wx => ∃ (k q : Nat), s5 = .int .i64 (k : Nat) ∧ k ≤ n ∧ wx = w.drewN q) (fun s5 _ => n - (intOf s5).toNat)
  case atStart => exact ⟨0, 0, rfl, Nat.zero_le _, rfl⟩
  case round =>
    obtain ⟨k, q, rfl, hk, hw⟩ := hrel
    rw [hw]
    by_cases hlk : k < n
    · have j1 : (k : Int) < (n : Int) := by omega
      have hkm : (k : Int) + 1 ≤ 9223372036854775807 := by have h5 := HL.out; unfold maxLen at h5; omega
      have hlm : k < ms.length := by have := HN.out; omega
      obtain ⟨g, c9, e1, d0, d1, d2⟩ := MR.cells (v := .slice p ms.length c) (by rw [← HN.out]; exact H1.out.1) hlm
      simp only [Value.slice.injEq] at e1
      obtain ⟨rfl, _, rfl⟩ := e1
      obtain ⟨g2, c8, e2, t0, t1, t2⟩ := NR.cells (v := .slice p2 ms.length c2) (by rw [← HN.out]; exact H1.out.2) hlm
      simp only [Value.slice.injEq] at e2
      obtain ⟨rfl, _, rfl⟩ := e2
      obtain ⟨y0, y1, y2, hy⟩ : ∃ y0 y1 y2, ms[k] = (y0, y1, y2) := ⟨_, _, _, rfl⟩
      rw [hy] at d0 d1 d2 t0 t1 t2
      simp only at d0 d1 d2 t0 t1 t2
      have i0 : (y0 == y0) = true := by simp
      have i1 : (y1 == y1) = true := by simp
      have i2 : (y2 == y2) = true := by simp
      clear hy hlm
      go_upto_region 6 with fail
      go_quiet (fail)
      go_wp2_with fail
      go_roundw
      case rel => exact ⟨k + 1, q + nq, by go_num, hlk, rfl⟩
      case measure => simp [intOf]; omega
    · obtain rfl : k = n := by omega
      go_wp2_with fail
      go_ret
      exact ⟨rfl, (Upd.refl [] w).drewN q⟩

set_option maxHeartbeats 1000000 in
set_option maxRecDepth 100000 in
theorem pair_any (w : World) (x y : Int) : Calls Tryz.prog 66 #[.int .i64 x, .int .i64 y] w fun e w' => e = .returned (.agg #[.int .i64 (min x y), .int .i64 (max x y)]) ∧ Upd [] w w' := by
  go_enter Tryz.func66, Tryz.ntmps66
  go_wp2_with fail
  exact bodyPost_ret (results_cell_row rfl _ _ w.heap.size 115 #[.int .i64 (min x y), .int .i64 (max x y)] (0, 0) _ rfl (heap_alloc_new w _) Tryz.underlying115 rfl (by kernel_rfl)) rfl ⟨rfl, (Upd.refl [] w).alloc _⟩

/-- A row of pairs. -/
abbrev cellsP (p : Int × Int) : List Value := [.int .i64 p.1, .int .i64 p.2]
def PR (w : World) (B : Nat) (v : Value) (ps : List (Int × Int)) : Prop := w.ownsRow B 115 2 v ps.length (ps.flatMap cellsP)
theorem PR.form {w : World} {B : Nat} {v : Value} {xs : List (Int × Int)} (h : PR w B v xs) : ∃ p c, v = .slice p xs.length c := by
  rcases h.2 with ⟨h1, h2⟩ | ⟨g, cap, cur, h1, _⟩
  · exact ⟨none, 0, by rw [h1, h2]⟩
  · exact ⟨_, _, h1⟩
theorem PR.le {w : World} {B : Nat} {v : Value} {ms : List (Int × Int)} (h : PR w B v ms) : ms.length ≤ maxLen := by
  rcases h.2 with ⟨_, h2⟩ | ⟨g, cap, cur, _, _, _, h1, h2, _⟩
  · omega
  · omega
theorem flat_at (K : List (Int × Int)) : ∀ (k : Nat) (hk : k < K.length) (j : Nat), j < 2 → (K.flatMap cellsP)[k * 2 + j]? = (cellsP K[k])[j]? := by
  induction K with
  | nil => intro k hk; simp at hk
  | cons p r ih =>
    intro k hk j hj
    rw [List.flatMap_cons]
    cases k with
    | zero =>
      rw [List.getElem?_append_left (by simp; omega)]
      simp
    | succ k =>
      have e : (k + 1) * 2 + j - 2 = k * 2 + j := by omega
      rw [List.getElem?_append_right (by simp; omega)]
      simp only [List.length_cons, List.length_nil, Nat.zero_add, Nat.reduceAdd]
      rw [e, ih k (by simpa using hk) j hj]
      simp
theorem PR.cells {w : World} {B : Nat} {v : Value} {ps : List (Int × Int)} (h : PR w B v ps) {k : Nat} (hk : k < ps.length) : ∃ g c, v = .slice (some ⟨g, 0, none⟩) ps.length c ∧ w.cell? ⟨g, k * 2, none⟩ = some (.int .i64 ps[k].1) ∧ w.cell? ⟨g, k * 2 + 1, none⟩ = some (.int .i64 ps[k].2) := by
  rcases h.2 with ⟨_, h2⟩ | ⟨g, cap, cur, h1, _, hg, _, _, _, ht⟩
  · omega
  · have hat : ∀ j, j < 2 → w.cell? ⟨g, k * 2 + j, none⟩ = (cellsP ps[k])[j]? := by
      intro j hj
      rw [cell_of_row w g _ _ _ _ hg]
      have h3 : (cur.toList.take (ps.length * 2))[k * 2 + j]? = (ps.flatMap cellsP)[k * 2 + j]? := by rw [ht]
      rw [List.getElem?_take_of_lt (by omega), Array.getElem?_toList] at h3
      rw [h3, flat_at ps k hk j hj]
    exact ⟨g, cap, h1, hat 0 (by omega), hat 1 (by omega)⟩

theorem info_int2 : (Tryz.prog.info? 3).map (fun i => (i.zero, i.size, i.bytes)) = some (some (.int .i64 0), 1, 8) := by kernel_rfl
theorem eqIn_pr (w : World) (x0 x1 y0 y1 : Int) : (Op.equalIn 10000 115 (.agg #[.int .i64 x0, .int .i64 x1]) (.agg #[.int .i64 y0, .int .i64 y1])).run Tryz.prog w = .ok (decide (x0 = y0) && decide (x1 = y1)) w := by
  have u3 := Tryz.underlying3
  have a3 := Tryz.isAgg3
  have z3 := Tryz.sizeOf3
  have hc : Tryz.prog.cellsOf 3 = 1 := by kernel_rfl
  obtain ⟨i0, hi, _, _, _⟩ := info_parts info_int2
  rw [show (10000 : Nat) = 9999 + 1 from rfl, run_equalIn_array w 9999 _ _ Tryz.underlying115 hi, hc]
  simp only [List.range, List.range.loop, Op.eqItems]
  go_simp
  by_cases h1 : x0 = y0 <;> by_cases h2 : x1 = y1 <;> simp [h1, h2]
theorem guard_pr : Tryz.prog.eqGuardType Tryz.prog.depth 115 = false := by kernel_rfl
theorem eq_pr (w : World) (x0 x1 y0 y1 : Int) : (binOp .eql 115 (.agg #[.int .i64 x0, .int .i64 x1]) (.agg #[.int .i64 y0, .int .i64 y1])).run Tryz.prog w = .ok (.bool (decide (x0 = y0) && decide (x1 = y1))) w := by
  rw [run_eql_struct, eqIn_pr]
  rfl

set_option maxHeartbeats 4000000 in
set_option maxRecDepth 100000 in
theorem find_any (w : World) (B b : Nat) (v u : Value) (ps : List (Int × Int)) (x y : Int) (hb : Cl w b #[v, u] 41) (hr : PR w B v ps) :
    Calls Tryz.prog 65 #[.pointer (some ⟨b, 0, none⟩), .agg #[.int .i64 x, .int .i64 y]] w fun e w' => ∃ r : Int, e = .returned (.int .i64 r) ∧ ((ps.contains (x, y) = false ∧ r = -1) ∨ ∃ k, ∃ hk : k < ps.length, ps[k] = (x, y) ∧ r = k) ∧ Upd [] w w' := by
  obtain ⟨p, c, hv⟩ := hr.form
  subst hv
  have HL : Hid (ps.length ≤ maxLen) := hr.le
  obtain ⟨wb, hwb⟩ : ∃ wb, wb = w.alloc (.cells #[.int .i64 x, .int .i64 y] 115) := ⟨_, rfl⟩
  have hub : Upd [] w wb := by rw [hwb]; exact (Upd.refl [] w).alloc _
  have hcb : Cl wb w.heap.size #[.int .i64 x, .int .i64 y] 115 := by rw [hwb]; exact Cl.new _ _ _ _ rfl
  have c0 : wb.cell? ⟨b, 0, none⟩ = some (.slice p ps.length c) := by rw [hub.cell (p := ⟨b, 0, none⟩) hb.lt (by simp), hb.cell]; rfl
  obtain ⟨s, hs⟩ : ∃ s, s = w.heap.size := ⟨_, rfl⟩
  rw [← hs] at hcb
  have s0 : wb.cell? ⟨s, 0, none⟩ = some (.int .i64 x) := by rw [hcb.cell]; rfl
  have s1 : wb.cell? ⟨s, 1, none⟩ = some (.int .i64 y) := by rw [hcb.cell]; rfl
  have HR : Hid (PR w B (.slice p ps.length c) ps ∧ Upd [] w wb) := ⟨hr, hub⟩
  have hgp := guard_pr
  clear hr hb hub hcb
  go_enter Tryz.func65, Tryz.ntmps65
  go_wp2_with fail
  rw [← hwb, ← hs]
  clear hwb hs
  go_loopw [5] (fun s5 wx => ∃ (k q : Nat), s5 = .int .i64 (k : Nat) ∧ k ≤ ps.length ∧ wx = wb.drewN q ∧ (ps.take k).contains (x, y) = false) (fun s5 _ => ps.length - (intOf s5).toNat)
  case atStart => exact ⟨0, 0, rfl, Nat.zero_le _, rfl, by simp⟩
  case round =>
    obtain ⟨k, q, rfl, hk, hw, hno⟩ := hrel
    rw [hw]
    have HNo : Hid ((ps.take k).contains (x, y) = false) := hno
    clear hno
    by_cases hlk : k < ps.length
    · have j1 : (k : Int) < (ps.length : Int) := by omega
      have hkm : (k : Int) + 1 ≤ 9223372036854775807 := by have h5 := HL.out; unfold maxLen at h5; omega
      obtain ⟨g, c9, e1, d0, d1⟩ := HR.out.1.cells hlk
      simp only [Value.slice.injEq] at e1
      obtain ⟨rfl, _, rfl⟩ := e1
      obtain ⟨y0, y1, hy⟩ : ∃ y0 y1, ps[k] = (y0, y1) := ⟨_, _, rfl⟩
      rw [hy] at d0 d1
      simp only at d0 d1
      have HY : Hid (ps[k] = (y0, y1)) := hy
      have t0 : wb.cell? ⟨g, k * 2, none⟩ = some (.int .i64 y0) := (HR.out.2.cell (World.block_lt_of_cell? _ _ d0) (by simp)).trans d0
      have t1 : wb.cell? ⟨g, k * 2 + 1, none⟩ = some (.int .i64 y1) := (HR.out.2.cell (p := ⟨g, k * 2 + 1, none⟩) (World.block_lt_of_cell? _ _ d1) (by simp)).trans d1
      obtain ⟨dd, hdd⟩ : ∃ dd, dd = (decide (y0 = x) && decide (y1 = y)) := ⟨_, rfl⟩
      have heq : ∀ W, (binOp .eql 115 (.agg #[.int .i64 y0, .int .i64 y1]) (.agg #[.int .i64 x, .int .i64 y])).run Tryz.prog W = .ok (.bool dd) W := fun W => by rw [hdd]; exact eq_pr W _ _ _ _
      have heq2 : ∀ W, (Op.equalIn 10000 115 (.agg #[.int .i64 y0, .int .i64 y1]) (.agg #[.int .i64 x, .int .i64 y])).run Tryz.prog W = .ok dd W := fun W => by rw [hdd]; exact eqIn_pr W _ _ _ _
      have HD : Hid (dd = (decide (y0 = x) && decide (y1 = y))) := hdd
      clear hy hdd d0 d1
      cases dd with
      | true =>
        go_upto_region 4 with fail
        go_quiet (fail)
        go_wp2_with fail
        go_ret
        refine ⟨(k : Int), rfl, Or.inr ⟨k, hlk, ?_, rfl⟩, (HR.out.2.drewN q).drewN nq⟩
        have h5 := HD.out
        simp at h5
        rw [HY.out, h5.1, h5.2]
      | false =>
        go_upto_region 4 with fail
        go_quiet (fail)
        go_wp2_with fail
        go_roundw
        case rel =>
          refine ⟨k + 1, q + nq, by go_num, hlk, rfl, ?_⟩
          rw [List.take_succ_eq_append_getElem hlk, List.contains_append, HNo.out, HY.out]
          have h5 := HD.out
          simp at h5 ⊢
          intro e1 e2
          exact h5 e1.symm e2.symm
        case measure => simp [intOf]; omega
    · obtain rfl : k = ps.length := by omega
      have HN2 : Hid (ps.contains (x, y) = false) := by have := HNo.out; rw [List.take_length] at this; exact this
      go_wp2_with fail
      go_ret
      exact ⟨-1, rfl, Or.inl ⟨HN2.out, rfl⟩, HR.out.2.drewN q⟩

end Go.Proofs.YtofcniodobjopaaGreat
