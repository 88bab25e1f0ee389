/- Maps from places to numbers. -/
import Derived.Test.YtejcppnleckmfaaDoorNsJ
namespace Go.Proofs.YtejcppnleckmfaaDoor
open Go.RowKit

theorem und_depths : Tryd.prog.underlying 51 = some (.map 45 3) := by kernel_rfl
theorem zero_int (w : World) : (zeroValue 3).run Tryd.prog w = .ok (.int .i64 0) w := by kernel_rfl
/-- A map with just these entries. -/
def DM (w : World) (bm : Nat) (l : List (Option Addr × Int × Int)) : Prop := ∃ es clock, w.heap[bm]? = some (.map es clock) ∧ es.toList.map (fun e => (e.key, e.val)) = l.map (fun t => (pl t.1 t.2.1, Value.int .i64 t.2.2))
theorem DM.lt {w : World} {bm : Nat} {l : List (Option Addr × Int × Int)} (h : DM w bm l) : bm < w.heap.size := by
  obtain ⟨es, clock, hb, _⟩ := h
  exact lt_of_block hb
theorem DM.upd {S : List Nat} {w w' : World} {bm : Nat} {l : List (Option Addr × Int × Int)} (h : DM w bm l) (hu : Upd S w w') (hn : bm ∉ S) : DM w' bm l := by
  have hl := h.lt
  obtain ⟨es, clock, hb, r⟩ := h
  exact ⟨es, clock, (hu.block bm hl hn).trans hb, r⟩
theorem place_same {w : World} (p : Option Addr) (n : Int) (d : Nat) : (Op.equalIn (d + 2) 45 (pl p n) (pl p n)).run Tryd.prog w = .ok true w := by
  obtain ⟨f0, f1, hl, a1, a2, a3, b1, b2, b3⟩ := flds_eq
  rw [pl, run_equalIn_struct w (d + 1) 45 _ _ und_place held_place, hl]
  have e1 : (Op.equalIn (d + 1) 43 (.pointer p) (.pointer p)).run Tryd.prog w = .ok true w := by
    cases p with
    | none => exact ptr_none w d
    | some a =>
      have h3 := run_sameAddr_same (P := Tryd.prog) w a
      simp only [Op.equalIn, Sem.run_bind, run_underlying und_pnode, Result.andThen_ok, size_node]
      simpa using h3
  have e2 : (Op.equalIn (d + 1) 3 (.int .i64 n) (.int .i64 n)).run Tryd.prog w = .ok true w := by simp [Op.equalIn, run_underlying Tryd.underlying3]
  simp [Op.eqFields, a1, a2, a3, b1, b2, b3, part_p, part_n, e1, e2]
theorem ask_no {w : World} {p : Option Addr} {n : Int} : ∀ (es : List MapEntry) (l : List (Option Addr × Int × Int)) (i : Nat), es.map (fun e => (e.key, e.val)) = l.map (fun t => (pl t.1 t.2.1, Value.int .i64 t.2.2)) → (∀ t ∈ l, Far w p t.1) → (Instr.findAsking 45 (pl p n) es i).run Tryd.prog w = .ok none w
  | [], _, i, _, _ => rfl
  | e :: es, [], i, h, _ => by simp at h
  | e :: es, t :: l, i, h, hf => by
    simp only [List.map_cons, List.cons.injEq, Prod.mk.injEq] at h
    have ih := ask_no (w := w) (p := p) (n := n) es l (i + 1) h.2 (fun t ht => hf t (List.mem_cons_of_mem _ ht))
    have e1 := place_far (n := n) (m := t.2.1) (hf t List.mem_cons_self) 9998
    simp only [Instr.findAsking, h.1.1, Op.equal, Op.maxDepth, Sem.run_bind, e1, Result.andThen_ok]
    simpa using ih
theorem ask_at {w : World} {p : Option Addr} {n v : Int} : ∀ (es : List MapEntry) (l1 l2 : List (Option Addr × Int × Int)) (i : Nat), es.map (fun e => (e.key, e.val)) = (l1 ++ (p, n, v) :: l2).map (fun t => (pl t.1 t.2.1, Value.int .i64 t.2.2)) → (∀ t ∈ l1, Far w p t.1) → (Instr.findAsking 45 (pl p n) es i).run Tryd.prog w = .ok (some (i + l1.length, .int .i64 v)) w
  | [], l1, l2, i, h, _ => by simp at h
  | e :: es, [], l2, i, h, hf => by
    simp only [List.nil_append, List.map_cons, List.cons.injEq, Prod.mk.injEq] at h
    have e1 := place_same (w := w) p n 9998
    simp only [Instr.findAsking, h.1.1, h.1.2, Op.equal, Op.maxDepth, Sem.run_bind, e1, Result.andThen_ok]
    simp
  | e :: es, t :: l1, l2, i, h, hf => by
    simp only [List.cons_append, List.map_cons, List.cons.injEq, Prod.mk.injEq] at h
    have ih := ask_at (w := w) (p := p) (n := n) (v := v) es l1 l2 (i + 1) h.2 (fun t ht => hf t (List.mem_cons_of_mem _ ht))
    have e1 := place_far (n := n) (m := t.2.1) (hf t List.mem_cons_self) 9998
    simp only [Instr.findAsking, h.1.1, Op.equal, Op.maxDepth, Sem.run_bind, e1, Result.andThen_ok]
    rw [show i + (t :: l1).length = i + 1 + l1.length by simp; omega]
    simpa using ih
theorem DM.look_no {w : World} {bm : Nat} {l : List (Option Addr × Int × Int)} (h : DM w bm l) {p : Option Addr} (n : Int) (hf : ∀ t ∈ l, Far w p t.1) : (Instr.lookup 51 (.map (some bm)) (pl p n) true).run Tryd.prog w = .ok (.tuple #[.int .i64 0, .bool false]) w := by
  obtain ⟨es, clock, hb, r⟩ := h
  have hr : (Instr.findKey 45 (pl p n) es.toList).run Tryd.prog w = .ok none w := by
    rw [run_findKey_eq w (by rw [und_place])]
    exact ask_no _ _ _ r hf
  simp [Instr.lookup, run_underlying und_depths, MapKept.run_getObj_map hb, pk_check, hr, Result.andThen]
theorem DM.look_at {w : World} {bm : Nat} {l1 l2 : List (Option Addr × Int × Int)} {p : Option Addr} {n v : Int} (h : DM w bm (l1 ++ (p, n, v) :: l2)) (hf : ∀ t ∈ l1, Far w p t.1) : (Instr.lookup 51 (.map (some bm)) (pl p n) true).run Tryd.prog w = .ok (.tuple #[.int .i64 v, .bool true]) w ∧ (Instr.lookup 51 (.map (some bm)) (pl p n) false).run Tryd.prog w = .ok (.int .i64 v) w := by
  obtain ⟨es, clock, hb, r⟩ := h
  have hr : (Instr.findKey 45 (pl p n) es.toList).run Tryd.prog w = .ok (some (l1.length, .int .i64 v)) w := by
    rw [run_findKey_eq w (by rw [und_place])]
    have := ask_at _ l1 l2 0 r hf
    rwa [Nat.zero_add] at this
  constructor <;> simp [Instr.lookup, run_underlying und_depths, MapKept.run_getObj_map hb, pk_check, hr, Result.andThen]
theorem DM.put_new {w : World} {bm : Nat} {l : List (Option Addr × Int × Int)} (h : DM w bm l) {p : Option Addr} (n v : Int) (hf : ∀ t ∈ l, Far w p t.1) : ∃ w', (Instr.mapUpdate 51 (.map (some bm)) (pl p n) (.int .i64 v)).run Tryd.prog w = .ok () w' ∧ Upd [bm] w w' ∧ w'.heap.size = w.heap.size ∧ DM w' bm (l ++ [(p, n, v)]) := by
  have hlt := h.lt
  obtain ⟨es, clock, hb, r⟩ := h
  have hr : (Instr.findKey 45 (pl p n) es.toList).run Tryd.prog w = .ok none w := by
    rw [run_findKey_eq w (by rw [und_place])]
    exact ask_no _ _ _ r hf
  refine ⟨{ w with heap := w.heap.setIfInBounds bm (.map (es.push { key := pl p n, val := .int .i64 v, born := clock }) (clock + 1)) }, ?_, setObj_upd _ _ _, by simp, ⟨es.push { key := pl p n, val := .int .i64 v, born := clock }, clock + 1, by simp [hlt], ?_⟩⟩
  · simp [Instr.mapUpdate, run_underlying und_depths, MapKept.run_getObj_map hb, MapKept.run_setObj_map _ hb, pk_check, hr, Result.andThen]
  · rw [Array.toList_push, List.map_append, List.map_append, r]
    rfl
theorem stays (p : Option Addr) (n : Int) (w : World) : (Instr.keyThatStays (pl p n) (pl p n)).run Tryd.prog w = .ok (pl p n) w := by
  have h : Instr.sameBits 10000 (pl p n) (pl p n) = true := by simp [Instr.sameBits, pl]
  simp [Instr.keyThatStays, h]
theorem DM.put_at {w : World} {bm : Nat} {l1 l2 : List (Option Addr × Int × Int)} {p : Option Addr} {n v : Int} (h : DM w bm (l1 ++ (p, n, v) :: l2)) (hf : ∀ t ∈ l1, Far w p t.1) (u : Int) : ∃ w', (Instr.mapUpdate 51 (.map (some bm)) (pl p n) (.int .i64 u)).run Tryd.prog w = .ok () w' ∧ Upd [bm] w w' ∧ w'.heap.size = w.heap.size ∧ DM w' bm (l1 ++ (p, n, u) :: l2) := by
  have hlt := h.lt
  obtain ⟨es, clock, hb, r⟩ := h
  have hr : (Instr.findKey 45 (pl p n) es.toList).run Tryd.prog w = .ok (some (l1.length, .int .i64 v)) w := by
    rw [run_findKey_eq w (by rw [und_place])]
    have := ask_at _ l1 l2 0 r hf
    rwa [Nat.zero_add] at this
  have hl : es.size = l1.length + (l2.length + 1) := by
    have := congrArg List.length r
    simpa using this
  have hj : l1.length < es.size := by omega
  have hek : es[l1.length].key = pl p n := by
    have := congrArg (·[l1.length]?) r
    simp [hj] at this
    exact this.1
  refine ⟨{ w with heap := w.heap.setIfInBounds bm (.map (es.modify l1.length fun x => { key := pl p n, val := .int .i64 u, born := x.born }) clock) }, ?_, setObj_upd _ _ _, by simp, ⟨es.modify l1.length fun x => { key := pl p n, val := .int .i64 u, born := x.born }, clock, by simp [hlt], ?_⟩⟩
  · simp [Instr.mapUpdate, run_underlying und_depths, MapKept.run_getObj_map hb, MapKept.run_setObj_map _ hb, pk_check, hr, Result.andThen, Array.getElem?_eq_getElem hj, hek, stays]
  · apply List.ext_getElem?
    intro i
    have ri := congrArg (·[i]?) r
    simp only [List.getElem?_map] at ri ⊢
    rw [Array.toList_modify, List.getElem?_modify]
    by_cases hi : l1.length = i
    · subst hi
      have : es.toList[l1.length]? = some es[l1.length] := by simp [hj]
      rw [this]
      simp
    · simp only [hi, if_false]
      have e2 : (l1 ++ (p, n, u) :: l2)[i]? = (l1 ++ (p, n, v) :: l2)[i]? := by
        by_cases hlt : i < l1.length
        · rw [List.getElem?_append_left hlt, List.getElem?_append_left hlt]
        · rw [List.getElem?_append_right (by omega), List.getElem?_append_right (by omega)]
          obtain ⟨k, hk⟩ : ∃ k, i - l1.length = k + 1 := ⟨i - l1.length - 1, by omega⟩
          rw [hk]
          rfl
      rw [e2, ← ri]
      cases es.toList[i]? <;> rfl

end Go.Proofs.YtejcppnleckmfaaDoor
