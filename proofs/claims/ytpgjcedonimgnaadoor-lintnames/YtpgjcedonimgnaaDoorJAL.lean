/- Maps of names: what they hold, key by key. -/
import Derived.Test.YtpgjcedonimgnaaDoorJAD
import Derived.Maps.RangeRun
import Derived.Test.YtpgjcedonimgnaaDoorJAK
import Derived.Deep.LoopGhost
import Derived.Test.YtpgjcedonimgnaaDoorJAC

namespace Go.Proofs.YtpgjcedonimgnaaDoor
open Go.RowKit
open Go.ChangeMaps (setBlock)

/-- What has become of the names of a scope: 0: nothing. -/
abbrev Fr := ByteArray → Int
def Fr.put (f : Fr) (s : ByteArray) (v : Int) : Fr := fun x => if x = s then v else f x
def Fr0 : Fr := fun _ => 0
/-- The map in a block holds the names. -/
def NmIs (w : World) (bm : Nat) (f : Fr) : Prop := ∃ es clock, w.heap[bm]? = some (.map es clock) ∧ MapKept.Stamped es clock ∧ (∀ x ∈ es.toList, ∃ s, x.key = .string s ∧ x.val = .int .i64 (f s) ∧ f s ≠ 0) ∧ (∀ s, f s ≠ 0 → ∃ x ∈ es.toList, x.key = .string s) ∧ ∀ s, 0 ≤ f s ∧ f s ≤ 3

theorem NmIs.lt {w : World} {bm : Nat} {f : Fr} (h : NmIs w bm f) : bm < w.heap.size := by
  obtain ⟨es, clock, hb, _⟩ := h
  exact lt_of_block hb
theorem NmIs.mono {S : List Nat} {w w' : World} {bm : Nat} {f : Fr} (h : NmIs w bm f) (hu : Upd S w w') (hn : bm ∉ S) : NmIs w' bm f := by
  have hl := h.lt
  obtain ⟨es, clock, hb, r⟩ := h
  exact ⟨es, clock, (hu.block bm hl hn).trans hb, r⟩
theorem NmIs.new (w : World) : NmIs (w.alloc (.map #[] 0)) w.heap.size Fr0 :=
  ⟨#[], 0, heap_alloc_new w _, MapKept.stamped_empty 0, by simp, fun s h => absurd rfl h, fun _ => by simp [Fr0]⟩
theorem NmIs.at {w : World} {bm : Nat} (h : w.heap[bm]? = some (.map #[] 0)) : NmIs w bm Fr0 :=
  ⟨#[], 0, h, MapKept.stamped_empty 0, by simp, fun s h => absurd rfl h, fun _ => by simp [Fr0]⟩
theorem keyS (s : ByteArray) : MapKept.IsKey .string (.string s) := trivial
theorem NmIs.find {w : World} {bm : Nat} {f : Fr} (h : NmIs w bm f) (s : ByteArray) : ∃ es clock, w.heap[bm]? = some (.map es clock) ∧
    ((f s = 0 ∧ (Instr.findKey 9 (.string s) es.toList).run Tryd.prog w = .ok none w) ∨ ∃ j e, f s ≠ 0 ∧ (Instr.findKey 9 (.string s) es.toList).run Tryd.prog w = .ok (some (j, .int .i64 (f s))) w ∧ es.toList[j]? = some e ∧ e.key = .string s) := by
  obtain ⟨es, clock, hb, _, h1, h2, _⟩ := h
  have hk : ∀ x ∈ es.toList, MapKept.IsKey .string x.key := fun x hx => by
    obtain ⟨t, e, _⟩ := h1 x hx
    rw [e]; exact keyS t
  refine ⟨es, clock, hb, ?_⟩
  rcases MapKept.findNow_spec (keyS s) es.toList 0 hk with ⟨g1, g2⟩ | ⟨j, e, g1, g2, g3⟩
  · refine Or.inl ⟨?_, MapKept.run_findKey Tryd.underlying9 g1⟩
    apply Classical.byContradiction
    intro hne
    obtain ⟨x, hx, hxk⟩ := h2 s hne
    exact g2 x hx hxk
  · obtain ⟨t, e1, e2, e3⟩ := h1 e (List.mem_of_getElem? g2)
    have hts : t = s := by
      rw [g3] at e1
      cases e1
      rfl
    subst hts
    refine Or.inr ⟨j, e, e3, ?_, g2, g3⟩
    rw [e2] at g1
    have := MapKept.run_findKey (w := w) Tryd.underlying9 g1
    simpa using this
theorem NmIs.look {w : World} {bm : Nat} {f : Fr} (h : NmIs w bm f) (s : ByteArray) : (Instr.lookup 55 (.map (some bm)) (.string s) true).run Tryd.prog w = .ok (.tuple #[.int .i64 (f s), .bool (decide (f s ≠ 0))]) w := by
  obtain ⟨es, clock, hb, h1⟩ := h.find s
  rcases h1 with ⟨h0, hr⟩ | ⟨j, e, h0, hr, _, _⟩
  · simp [Instr.lookup, run_underlying und_names, MapKept.run_getObj_map hb, nm_check, hr, Result.andThen, h0]
  · simp [Instr.lookup, run_underlying und_names, MapKept.run_getObj_map hb, nm_check, hr, Result.andThen, h0]
theorem NmIs.look1 {w : World} {bm : Nat} {f : Fr} (h : NmIs w bm f) (s : ByteArray) : (Instr.lookup 55 (.map (some bm)) (.string s) false).run Tryd.prog w = .ok (.int .i64 (f s)) w := by
  obtain ⟨es, clock, hb, h1⟩ := h.find s
  rcases h1 with ⟨h0, hr⟩ | ⟨j, e, h0, hr, _, _⟩
  · simp [Instr.lookup, run_underlying und_names, MapKept.run_getObj_map hb, nm_check, hr, Result.andThen, h0]
  · simp [Instr.lookup, run_underlying und_names, MapKept.run_getObj_map hb, nm_check, hr, Result.andThen]
theorem modify_keys : ∀ (l : List MapEntry) (j : Nat) (v : Value), (l.modify j fun x => { x with val := v }).map (·.key) = l.map (·.key)
  | [], j, v => by simp
  | x :: l, 0, v => by simp
  | x :: l, j + 1, v => by simp [modify_keys l j v]
theorem modify_born : ∀ (l : List MapEntry) (j : Nat) (v : Value), (l.modify j fun x => { x with val := v }).map (·.born) = l.map (·.born)
  | [], j, v => by simp
  | x :: l, 0, v => by simp
  | x :: l, j + 1, v => by simp [modify_born l j v]
theorem key_inj {l : List MapEntry} (h : (l.map (·.key)).Nodup) {x y : MapEntry} (hx : x ∈ l) (hy : y ∈ l) (e : x.key = y.key) : x = y := by
  obtain ⟨i, hi⟩ := List.mem_iff_getElem?.1 hx
  obtain ⟨j, hj⟩ := List.mem_iff_getElem?.1 hy
  have a1 : (l.map (·.key))[i]? = some x.key := by rw [List.getElem?_map, hi]; rfl
  have a2 : (l.map (·.key))[j]? = some x.key := by rw [List.getElem?_map, hj, e]; rfl
  have := (List.getElem?_inj (List.getElem?_eq_some_iff.1 a1).1 h).1 (a1.trans a2.symm)
  subst this
  rw [hi] at hj
  cases hj
  rfl
theorem setObj_upd (w : World) (bm : Nat) (o : Obj) : Upd [bm] w { w with heap := w.heap.setIfInBounds bm o } :=
  ⟨rfl, rfl, rfl, by simp, fun k _ hn => by simp at hn; simp [Ne.symm hn]⟩
theorem NmIs.put {w : World} {bm : Nat} {f : Fr} (h : NmIs w bm f) (s : ByteArray) (v : Int) (hv : 0 < v ∧ v ≤ 3) : ∃ w', (Instr.mapUpdate 55 (.map (some bm)) (.string s) (.int .i64 v)).run Tryd.prog w = .ok () w' ∧ Upd [bm] w w' ∧ w'.heap.size = w.heap.size ∧ NmIs w' bm (f.put s v) := by
  have hlt := h.lt
  obtain ⟨es, clock, hb, h1⟩ := h.find s
  obtain ⟨es', clock', hb', hst, k1, k2, k3⟩ := h
  rw [hb] at hb'
  cases hb'
  have r3 : ∀ t, 0 ≤ (f.put s v) t ∧ (f.put s v) t ≤ 3 := fun t => by
    unfold Fr.put
    split
    · omega
    · exact k3 t
  rcases h1 with ⟨h0, hr⟩ | ⟨j, e, h0, hr, hj, hek⟩
  · refine ⟨{ w with heap := w.heap.setIfInBounds bm (.map (es.push { key := .string s, val := .int .i64 v, born := clock }) (clock + 1)) }, ?_, setObj_upd _ _ _, by simp, ⟨es.push { key := .string s, val := .int .i64 v, born := clock }, clock + 1, by simp [hlt], ?_, ?_, ?_, r3⟩⟩
    · simp [Instr.mapUpdate, run_underlying und_names, MapKept.run_getObj_map hb, MapKept.run_setObj_map _ hb, nm_check, hr, Result.andThen]
    · obtain ⟨b1, b2, b3⟩ := hst
      refine ⟨fun x hx => ?_, ?_, ?_⟩
      · simp only [Array.toList_push, List.mem_append, List.mem_singleton] at hx
        rcases hx with hx | rfl
        · have := b1 x hx; omega
        · simp
      · simp only [Array.toList_push, List.map_append, List.map_cons, List.map_nil]
        refine List.nodup_append.2 ⟨b2, by simp, fun a ha b hb => ?_⟩
        simp at hb
        subst hb
        obtain ⟨x, hx, rfl⟩ := List.mem_map.1 ha
        have := b1 x hx
        omega
      · simp only [Array.toList_push, List.map_append, List.map_cons, List.map_nil]
        refine List.nodup_append.2 ⟨b3, by simp, fun a ha b hb => ?_⟩
        simp at hb
        subst hb
        obtain ⟨x, hx, rfl⟩ := List.mem_map.1 ha
        obtain ⟨t, e1, _, e3⟩ := k1 x hx
        rw [e1]
        intro e
        cases e
        exact e3 h0
    · intro x hx
      simp only [Array.toList_push, List.mem_append, List.mem_singleton] at hx
      rcases hx with hx | rfl
      · obtain ⟨t, e1, e2, e3⟩ := k1 x hx
        have hne : t ≠ s := fun e => e3 (e ▸ h0)
        exact ⟨t, e1, by rw [e2]; simp [Fr.put, hne], by simp [Fr.put, hne, e3]⟩
      · exact ⟨s, rfl, by simp [Fr.put], by simp [Fr.put]; omega⟩
    · intro t ht
      by_cases e : t = s
      · subst e
        exact ⟨{ key := .string t, val := .int .i64 v, born := clock }, by simp, rfl⟩
      · obtain ⟨x, hx, hk⟩ := k2 t (by simpa [Fr.put, e] using ht)
        exact ⟨x, by simp; exact Or.inl (by simpa using hx), hk⟩
  · have hjl : j < es.size := by have := (List.getElem?_eq_some_iff.1 hj).1; simpa using this
    have hje : es[j] = e := by have := (List.getElem?_eq_some_iff.1 hj).2; simpa using this
    refine ⟨{ w with heap := w.heap.setIfInBounds bm (.map (es.modify j fun x => { x with val := .int .i64 v }) clock) }, ?_, setObj_upd _ _ _, by simp, ⟨es.modify j fun x => { x with val := .int .i64 v }, clock, by simp [hlt], ?_, ?_, ?_, r3⟩⟩
    · have hks : (Instr.keyThatStays (.string s) (.string s)).run Tryd.prog w = .ok (.string s) w := MapKept.run_keyThatStays (keyS s)
      have hmod : (es.modify j fun e => { key := .string s, val := .int .i64 v, born := e.born }) = es.modify j fun x => { x with val := .int .i64 v } := by
        refine Array.ext (by simp) fun i h1 h2 => ?_
        simp only [Array.getElem_modify]
        split
        · rename_i e; subst e; rw [hje, hek]
        · rfl
      simp [Instr.mapUpdate, run_underlying und_names, MapKept.run_getObj_map hb, MapKept.run_setObj_map _ hb, nm_check, hr, Result.andThen, Array.getElem?_eq_getElem hjl, hje, hek, hks, hmod]
    · obtain ⟨b1, b2, b3⟩ := hst
      refine ⟨fun x hx => ?_, ?_, ?_⟩
      · rw [Array.toList_modify] at hx
        have : x.born ∈ (es.toList.modify j fun x => { x with val := .int .i64 v }).map (·.born) := List.mem_map.2 ⟨x, hx, rfl⟩
        rw [modify_born] at this
        obtain ⟨y, hy, e⟩ := List.mem_map.1 this
        rw [← e]
        exact b1 y hy
      · rw [Array.toList_modify, modify_born]; exact b2
      · rw [Array.toList_modify, modify_keys]; exact b3
    · intro x hx
      rw [Array.toList_modify] at hx
      obtain ⟨i, hi⟩ := List.mem_iff_getElem?.1 hx
      rw [List.getElem?_modify] at hi
      obtain ⟨y, hy, e⟩ := Option.map_eq_some_iff.1 hi
      obtain ⟨t, e1, e2, e3⟩ := k1 y (List.mem_of_getElem? hy)
      by_cases hij : j = i
      · subst hij
        rw [hj] at hy
        cases hy
        rw [if_pos rfl] at e
        rw [hek] at e1
        cases e1
        subst e
        exact ⟨s, hek, by simp [Fr.put], by simp [Fr.put]; omega⟩
      · rw [if_neg hij] at e
        have hyx : y = x := e
        subst hyx
        have hne : t ≠ s := fun e => by
          subst e
          refine hij ?_
          have hn := hst.2.2
          have a1 : (es.toList.map (·.key))[j]? = some (.string t) := by rw [List.getElem?_map, hj]; simp [hek]
          have a2 : (es.toList.map (·.key))[i]? = some (.string t) := by rw [List.getElem?_map, hy]; simp [e1]
          have l1 := (List.getElem?_eq_some_iff.1 a1).1
          exact (List.getElem?_inj l1 hn).1 (a1.trans a2.symm)
        exact ⟨t, e1, by rw [e2]; simp [Fr.put, hne], by simp [Fr.put, hne, e3]⟩
    · intro t ht
      have hk : Value.string t ∈ es.toList.map (·.key) := by
        by_cases e : t = s
        · subst e
          exact List.mem_map.2 ⟨_, List.mem_of_getElem? hj, hek⟩
        · obtain ⟨x, hx, hk⟩ := k2 t (by simpa [Fr.put, e] using ht)
          exact List.mem_map.2 ⟨x, hx, hk⟩
      rw [Array.toList_modify]
      rw [← modify_keys es.toList j (.int .i64 v)] at hk
      obtain ⟨x, hx, hxk⟩ := List.mem_map.1 hk
      exact ⟨x, hx, hxk⟩

/-- A loop over the names is under way: d says who has come up. -/
def RgIs (w : World) (bm it : Nat) (f : Fr) (d : ByteArray → Bool) : Prop := NmIs w bm f ∧ ∃ es clock since seen c0, w.heap[bm]? = some (.map es clock) ∧ w.heap[it]? = some (.mapIter (some bm) since seen c0) ∧ (∀ x ∈ es.toList, x.born < since) ∧ since ≤ c0 ∧ since ≤ clock ∧ ∀ x ∈ es.toList, ∀ s, x.key = .string s → d s = seen.contains x.born
def rgLeft (w : World) (b r : Nat) : Nat :=
  match w.heap[b]?, w.heap[r]? with
  | some (.map es _), some (.mapIter _ _ seen _) => (leftOf es seen).size
  | _, _ => 0
theorem NmIs.range {w : World} {bm : Nat} {f : Fr} (h : NmIs w bm f) : ∃ w', (Instr.range 55 (.map (some bm))).run Tryd.prog w = .ok (.pointer (some ⟨w.heap.size, 0, none⟩)) w' ∧ RgIs w' bm w.heap.size f (fun _ => false) ∧ Upd [] w w' ∧ w'.heap.size = w.heap.size + 1 := by
  have hlt := h.lt
  have hN := h
  obtain ⟨es, clock, hb, hst, r⟩ := h
  refine ⟨_, run_range_map w 55 9 3 bm es clock und_names hb, ⟨hN.mono ((Upd.refl [] w).alloc _) (by simp), es, clock, clock, #[], clock, (Below.heap_alloc w _ bm hlt).trans hb, heap_alloc_new w _, hst.1, Nat.le_refl _, Nat.le_refl _, fun x _ s _ => by simp⟩, (Upd.refl [] w).alloc _, by simp⟩
theorem RgIs.mono {S : List Nat} {w w' : World} {bm it : Nat} {f : Fr} {d : ByteArray → Bool} (h : RgIs w bm it f d) (hu : Upd S w w') (h1 : bm ∉ S) (h2 : it ∉ S) : RgIs w' bm it f d ∧ rgLeft w' bm it = rgLeft w bm it := by
  obtain ⟨hN, es, clock, since, seen, c0, hb, hi, r⟩ := h
  have e1 := (hu.block bm (lt_of_block hb) h1)
  have e2 := (hu.block it (lt_of_block hi) h2)
  exact ⟨⟨hN.mono hu h1, es, clock, since, seen, c0, e1.trans hb, e2.trans hi, r⟩, by unfold rgLeft; rw [e1, e2]⟩
theorem RgIs.next {w : World} {bm it : Nat} {f : Fr} {d : ByteArray → Bool} (h : RgIs w bm it f d) (ty : TypeId) :
    ((∀ s, f s ≠ 0 → d s = true) ∧ (Instr.next (.pointer (some ⟨it, 0, none⟩)) false ty).run Tryd.prog w = .ok (.tuple #[.bool false]) w) ∨
    ∃ s w', f s ≠ 0 ∧ (Instr.next (.pointer (some ⟨it, 0, none⟩)) false ty).run Tryd.prog w = .ok (.tuple #[.bool true, .string s, .int .i64 (f s)]) w' ∧ RgIs w' bm it f (fun x => decide (x = s) || d x) ∧ rgLeft w' bm it < rgLeft w bm it ∧ Upd [it] w w' ∧ w'.heap.size = w.heap.size ∧
      (Instr.entry (.pointer (some ⟨it, 0, none⟩))).run Tryd.prog w' = .ok (.tuple #[.string s, .int .i64 (f s)]) w' := by
  obtain ⟨hN, es, clock, since, seen, c0, hb, hi, hold, hsc, hsk, hd⟩ := h
  have hne : it ≠ bm := fun e => by rw [e, hb] at hi; cases hi
  have hN' := hN
  obtain ⟨es', clock', hb', hst, k1, k2, k3⟩ := hN
  rw [hb] at hb'
  cases hb'
  rcases run_next_at (P := Tryd.prog) w ty it bm since c0 seen es clock hi hb hold hsc with ⟨h0, hrun⟩ | ⟨e, he, w1, hal, hrun⟩
  · refine Or.inl ⟨fun s hs => ?_, hrun⟩
    obtain ⟨x, hx, hxk⟩ := k2 s hs
    rw [hd x hx s hxk]
    exact all_seen es seen h0 x hx
  · obtain ⟨hem, hes⟩ := mem_left he
    obtain ⟨s, e1, e2, e3⟩ := k1 e hem
    have hi1 : w1.heap[it]? = some (.mapIter (some bm) since seen c0) := by rcases hal with rfl | rfl <;> exact hi
    have hb1 : w1.heap[bm]? = some (.map es clock) := by rcases hal with rfl | rfl <;> exact hb
    have hset := MapKept.heap_set (o' := .mapIter (some bm) since (seen.push e.born) clock) hi1
    have hb2 : (setBlock w1 it (.mapIter (some bm) since (seen.push e.born) clock)).heap[bm]? = some (.map es clock) := (hset.2 bm (fun e1 => hne e1.symm)).trans hb1
    have hU : Upd [it] w (setBlock w1 it (.mapIter (some bm) since (seen.push e.born) clock)) := by
      rcases hal with rfl | rfl <;> exact ⟨rfl, rfl, rfl, by simp [setBlock], fun k _ hn => hset.2 k (by simpa using hn)⟩
    rw [e1, e2] at hrun
    have hen := run_entry_at (P := Tryd.prog) _ it bm since seen es clock e hset.1 hb2 hem hst.2.1
    rw [e1, e2] at hen
    refine Or.inr ⟨s, _, e3, hrun, ⟨hN'.mono hU (by simpa using Ne.symm hne), es, clock, since, seen.push e.born, clock, hb2, hset.1, hold, hsk, hsk, fun x hx t ht => ?_⟩, ?_, hU, by rcases hal with rfl | rfl <;> simp [setBlock], hen⟩
    · show (decide (t = s) || d t) = _
      rw [hd x hx t ht, contains_push]
      by_cases hts : t = s
      · subst hts
        have hxe : x = e := key_inj hst.2.2 hx hem (ht.trans e1.symm)
        subst hxe
        simp
      · have hb : (x.born == e.born) = false := by
          simp
          intro hbe
          have hxe := born_inj hst.2.1 hx hem hbe
          subst hxe
          rw [ht] at e1
          cases e1
          exact hts rfl
        rw [hb]
        simp [hts]
    · have hs1 : (setBlock w1 it (.mapIter (some bm) since (seen.push e.born) clock)).heap[it]? = some (.mapIter (some bm) since (seen.push e.born) clock) := hset.1
      unfold rgLeft
      rw [hb2, hs1, hb, hi]
      exact left_shrinks es seen e he

end Go.Proofs.YtpgjcedonimgnaaDoor

/- Scopes in a row: of and bind. -/
namespace Go.Proofs.YtpgjcedonimgnaaDoor
open Go.RowKit

theorem NmIs.cell {w w' : World} {bm : Nat} {f : Fr} (hN : NmIs w bm f) (hu : Upd [bm] w w') {p : Addr} {v : Value} (h : w.cell? p = some v) : w'.cell? p = some v := by
  obtain ⟨es, clock, hb, _⟩ := hN
  have hne : p.block ∉ [bm] := by
    simp
    intro e
    unfold World.cell? at h
    rw [e, hb] at h
    simp at h
  exact (hu.cell (cell_lt h) hne).trans h
theorem NmIs.keepBlock {w w' : World} {bm : Nat} {f : Fr} (hN : NmIs w bm f) (hu : Upd [bm] w w') {b : Nat} {cs : Array Value} {t : TypeId} {fr : Nat × Nat} (h : w.heap[b]? = some (.cells cs t fr)) : w'.heap[b]? = some (.cells cs t fr) := by
  obtain ⟨es, clock, hb, _⟩ := hN
  refine (hu.block b (lt_of_block h) ?_).trans h
  simp
  intro e
  rw [e, hb] at h
  cases h
theorem NIn.keep {w w' : World} {bm : Nat} {f : Fr} (hN : NmIs w bm f) (hu : Upd [bm] w w') : ∀ (d : Nat) (cs : List Value) (t : Nd), NIn w d cs t → NIn w' d cs t := by
  intro d
  induction d with
  | zero => intro cs t h; exact h.elim
  | succ d ih =>
    intro cs t h
    cases t with
    | mk k s num pos K =>
      obtain ⟨a, c, rfl, h1, hcp⟩ := h
      refine ⟨a, c, rfl, ?_, hcp⟩
      rcases h1 with h | ⟨b, o, e, hlt, hc⟩
      · exact Or.inl h
      · refine Or.inr ⟨b, o, e, Nat.lt_of_lt_of_le hlt hu.size, fun i hi => ?_⟩
        obtain ⟨cs, k1, k2, k3⟩ := hc i hi
        refine ⟨cs, k1, fun j hj => ?_, ih _ _ k3⟩
        have := k2 j hj
        rw [List.getElem?_eq_getElem (by omega)] at this ⊢
        exact hN.cell hu this
/-- What a row of scopes says of a name. -/
def ofF : List Fr → ByteArray → Int
  | [], _ => 0
  | f :: r, s => if f s ≠ 0 then f s else ofF r s
/-- Scopes in a row, the innermost first; the last one is empty. -/
def Chn (w : World) : List Nat → List Fr → Option Addr → Prop
  | [], [], a => ∃ b0, a = some ⟨b0, 0, none⟩ ∧ w.heap[b0]? = some (.cells #[.map none, .pointer none] 57 (0, 0))
  | bm :: bs, f :: r, a => ∃ b a', a = some ⟨b, 0, none⟩ ∧ w.heap[b]? = some (.cells #[.map (some bm), .pointer a'] 57 (0, 0)) ∧ NmIs w bm f ∧ bm ∉ bs ∧ Chn w bs r a'
  | _, _, _ => False
theorem Chn.mono {w w' : World} (hu : Upd [] w w') : ∀ (bs : List Nat) (r : List Fr) (a : Option Addr), Chn w bs r a → Chn w' bs r a
  | [], [], a, ⟨b0, e, h⟩ => ⟨b0, e, (hu.block b0 (lt_of_block h) (by simp)).trans h⟩
  | bm :: bs, f :: r, a, ⟨b, a', e, h, hN, hm, hr⟩ => ⟨b, a', e, (hu.block b (lt_of_block h) (by simp)).trans h, hN.mono hu (by simp), hm, Chn.mono hu bs r a' hr⟩
  | [], _ :: _, _, h => h.elim
  | _ :: _, [], _, h => h.elim
theorem Chn.keep {w w' : World} {bm : Nat} {f : Fr} (hN : NmIs w bm f) (hu : Upd [bm] w w') : ∀ (bs : List Nat) (r : List Fr) (a : Option Addr), bm ∉ bs → Chn w bs r a → Chn w' bs r a
  | [], [], a, _, ⟨b0, e, h⟩ => ⟨b0, e, hN.keepBlock hu h⟩
  | m :: bs, g :: r, a, hn, ⟨b, a', e, h, hM, hm, hr⟩ => ⟨b, a', e, hN.keepBlock hu h, hM.mono hu (by simp at hn ⊢; exact Ne.symm hn.1), hm, Chn.keep hN hu bs r a' (by simp at hn; exact hn.2) hr⟩
  | [], _ :: _, _, _, h => h.elim
  | _ :: _, [], _, _, h => h.elim
theorem ofF_range (w : World) : ∀ (bs : List Nat) (r : List Fr) (a : Option Addr), Chn w bs r a → ∀ s, 0 ≤ ofF r s ∧ ofF r s ≤ 3
  | [], [], _, _, _ => by simp [ofF]
  | _ :: bs, f :: r, _, ⟨_, a', _, _, hN, _, hr⟩, s => by
    obtain ⟨_, _, _, _, _, _, k3⟩ := hN
    rw [ofF]
    split
    · exact k3 s
    · exact ofF_range w bs r a' hr s
  | [], _ :: _, _, h, _ => h.elim
  | _ :: _, [], _, h, _ => h.elim

set_option maxHeartbeats 1000000 in
set_option maxRecDepth 100000 in
theorem of_in (bs : List Nat) (r : List Fr) (a : Option Addr) (s : ByteArray) (w : World) (h : Chn w bs r a) : Calls Tryd.prog 53 #[.pointer a, .string s] w fun e w' => e = .returned (.int .i64 (ofF r s)) ∧ w' = w := by
  have hnl := nm_lookN w s
  obtain ⟨R, hR⟩ : ∃ R, R = ofF r s := ⟨_, rfl⟩
  rw [← hR]
  have HR : Hid (R = ofF r s) := hR
  have HC : Hid (Chn w bs r a) := h
  clear hR h
  go_enter Tryd.func53, Tryd.ntmps53
  go_wp2_with fail
  go_loopg [5] (bs.length + 2) (fun g i wr => wr = w ∧ ((∃ bs' r' a', g = bs'.length + 2 ∧ i = .pointer a' ∧ Chn w bs' r' a' ∧ R = ofF r' s) ∨ (g = 1 ∧ i = .pointer none ∧ R = 0)))
  case atStart => exact ⟨rfl, Or.inl ⟨bs, r, a, rfl, rfl, HC.out, HR.out⟩⟩
  case round =>
    obtain ⟨rfl, hrel⟩ := hrel
    clear HC HR
    rcases hrel with ⟨bs', r', a', rfl, rfl, hc, hr⟩ | ⟨rfl, rfl, hr⟩
    · match bs', r', hc with
      | [], [], ⟨b0, e, hb⟩ =>
        subst e
        have d0 : World.cell? wr ⟨b0, 0, none⟩ = some (.map none) := cell_of_row _ b0 0 _ _ _ hb
        have d1 : World.cell? wr ⟨b0, 1, none⟩ = some (.pointer none) := cell_of_row _ b0 1 _ _ _ hb
        have hr0 : Hid (R = 0) := hr
        clear hr hb
        go_wp2_with fail
        go_roundg 1
        case measure => simp
        case rel => exact ⟨rfl, Or.inr ⟨rfl, rfl, hr0.out⟩⟩
      | bm :: bs', f :: r', ⟨b, a2, e, hb, hN, hm, hch⟩ =>
        subst e
        have c0 : World.cell? wr ⟨b, 0, none⟩ = some (.map (some bm)) := cell_of_row _ b 0 _ _ _ hb
        have c1 : World.cell? wr ⟨b, 1, none⟩ = some (.pointer a2) := cell_of_row _ b 1 _ _ _ hb
        have hl := hN.look s
        by_cases hz : f s = 0
        · have hr' : Hid (R = ofF r' s) := by rw [ofF, if_neg (by simp [hz])] at hr; exact hr
          rw [hz] at hl
          have hl' : (Instr.lookup 55 (.map (some bm)) (.string s) true).run Tryd.prog wr = .ok (.tuple #[.int .i64 0, .bool false]) wr := by simpa using hl
          have HC2 : Hid (Chn wr bs' r' a2) := hch
          clear hr hl hb hN hm hch hz
          go_wp2_with fail
          go_roundg (bs'.length + 2)
          case measure => simp
          case rel => exact ⟨rfl, Or.inl ⟨bs', r', a2, rfl, rfl, HC2.out, hr'.out⟩⟩
        · have hr' : R = f s := by rw [ofF, if_pos hz] at hr; exact hr
          rw [← hr'] at hl
          have hl' : (Instr.lookup 55 (.map (some bm)) (.string s) true).run Tryd.prog wr = .ok (.tuple #[.int .i64 R, .bool true]) wr := by
            have : R ≠ 0 := by rw [hr']; exact hz
            simpa [this] using hl
          clear hr hl hb hN hm hch hz hr'
          go_wp2_with fail
          go_ret
          exact ⟨rfl, rfl⟩
    · subst hr
      go_wp2_with fail
      go_ret
      exact ⟨rfl, rfl⟩

def inS (k : Int) : Bool := decide (k = 1 ∨ k = 3)
def gonS (k : Int) : Bool := decide (k = 2 ∨ k = 3)
/-- A name is bound. -/
def bindF (r : List Fr) (f : Fr) (s : ByteArray) : Fr := if inS (ofF (f :: r) s) then f else f.put s (if ofF (f :: r) s = 0 then 1 else 3)

set_option maxHeartbeats 1000000 in
set_option maxRecDepth 100000 in
theorem bind_in (bm b : Nat) (bs : List Nat) (f : Fr) (r : List Fr) (s : ByteArray) (w : World) (h : Chn w (bm :: bs) (f :: r) (some ⟨b, 0, none⟩)) : Calls Tryd.prog 45 #[.pointer (some ⟨b, 0, none⟩), .string s] w fun e w' => (∃ u, e = .returned u) ∧ Upd [bm] w w' ∧ NmIs w' bm (bindF r f s) := by
  have hk3 := ofF_range w _ _ _ h s
  have hO := of_in _ _ _ s w h
  obtain ⟨b', a', e, hb, hN, hm, hch⟩ := h
  cases e
  have c0 : w.cell? ⟨b, 0, none⟩ = some (.map (some bm)) := cell_of_row _ b 0 _ _ _ hb
  obtain ⟨G, hG⟩ : ∃ G, G = bindF r f s := ⟨_, rfl⟩
  rw [← hG]
  obtain ⟨k, hk⟩ : ∃ k, k = ofF (f :: r) s := ⟨_, rfl⟩
  rw [← hk] at hk3 hO
  have hG' : G = if inS k then f else f.put s (if k = 0 then 1 else 3) := by rw [hG, bindF, ← hk]
  obtain ⟨w1, p1, u1, _, n1⟩ := hN.put s 1 (by omega)
  obtain ⟨w3, p3, u3, _, n3⟩ := hN.put s 3 (by omega)
  have HO : Hid (Calls Tryd.prog 53 #[.pointer (some ⟨b, 0, none⟩), .string s] w fun e w' => e = .returned (.int .i64 k) ∧ w' = w) := hO
  clear hO hG hk hb hm hch
  have hc : k = 0 ∨ k = 1 ∨ k = 2 ∨ k = 3 := by omega
  have x0 : bits BinOp.and IntKind.i64 0 1 = 0 := by decide
  have x1 : bits BinOp.and IntKind.i64 1 1 = 1 := by decide
  have x2 : bits BinOp.and IntKind.i64 2 1 = 0 := by decide
  have x3 : bits BinOp.and IntKind.i64 3 1 = 1 := by decide
  have y0 : bits BinOp.or IntKind.i64 0 1 = 1 := by decide
  have y2 : bits BinOp.or IntKind.i64 2 1 = 3 := by decide
  rcases hc with rfl | rfl | rfl | rfl
  · have hg : Hid (NmIs w1 bm G) := by rw [hG']; exact n1
    have U1 : Hid (Upd [bm] w w1) := u1
    clear hG' n1 n3 u1 p3 u3 hN
    go_enter Tryd.func45, Tryd.ntmps45
    go_wp2_with fail
    refine Calls.mono HO.out ?_
    rintro e w' ⟨rfl, rfl⟩
    go_wp2_with fail
    exact bodyPost_end (results_none rfl _ _ _) rfl ⟨⟨_, rfl⟩, U1.out, hg.out⟩
  · have hg : Hid (NmIs w bm G) := by rw [hG']; exact hN
    clear hG' n1 n3 u1 p3 u3 hN p1
    go_enter Tryd.func45, Tryd.ntmps45
    go_wp2_with fail
    refine Calls.mono HO.out ?_
    rintro e w' ⟨rfl, rfl⟩
    go_wp2_with fail
    exact bodyPost_end (results_none rfl _ _ _) rfl ⟨⟨_, rfl⟩, Upd.refl _ _, hg.out⟩
  · have hg : Hid (NmIs w3 bm G) := by rw [hG']; exact n3
    have U3 : Hid (Upd [bm] w w3) := u3
    clear hG' n1 n3 u1 p1 u3 hN
    go_enter Tryd.func45, Tryd.ntmps45
    go_wp2_with fail
    refine Calls.mono HO.out ?_
    rintro e w' ⟨rfl, rfl⟩
    go_wp2_with fail
    exact bodyPost_end (results_none rfl _ _ _) rfl ⟨⟨_, rfl⟩, U3.out, hg.out⟩
  · have hg : Hid (NmIs w bm G) := by rw [hG']; exact hN
    clear hG' n1 n3 u1 p3 u3 hN p1
    go_enter Tryd.func45, Tryd.ntmps45
    go_wp2_with fail
    refine Calls.mono HO.out ?_
    rintro e w' ⟨rfl, rfl⟩
    go_wp2_with fail
    exact bodyPost_end (results_none rfl _ _ _) rfl ⟨⟨_, rfl⟩, Upd.refl _ _, hg.out⟩

end Go.Proofs.YtpgjcedonimgnaaDoor

/- What lint's Check tells, as mathematics over trees. -/
namespace Go.Proofs.YtpgjcedonimgnaaDoor
open Go.RowKit

/-- A fault: its number, its place. -/
abbrev Flt := Int × Int
def Nd.txt : Nd → ByteArray
  | .mk _ s _ _ _ => s
def Nd.pos : Nd → Int
  | .mk _ _ _ p _ => p
def Nd.nm : Nd → Int
  | .mk _ _ n _ _ => n
def isNeg (t : Nd) : Bool := decide (t.kd = 7 ∧ t.txt = ⟨#[45]⟩ ∧ t.kids.length = 1) && (match t.kids with | n :: _ => decide (n.kd = 1) | [] => false)
mutual
/-- A pattern: what is in scope behind it. -/
def patF (r : List Fr) : Nd → Fr → Except Flt Fr
  | .mk k s num pos K, f =>
    if k = 1 ∨ k = 2 ∨ k = 4 then .ok f
    else if k = 3 then .ok (if s = ⟨#[95]⟩ then f else bindF r f s)
    else if k = 5 ∨ k = 6 ∨ k = 8 then patsF r K f
    else if isNeg (.mk k s num pos K) then .ok f else .error (216, pos)
def patsF (r : List Fr) : List Nd → Fr → Except Flt Fr
  | [], f => .ok f
  | n :: K, f => match patF r n f with
    | .ok f' => patsF r K f'
    | .error e => .error e
end
/-- A variable that is used. -/
def varF (ch : List Fr) (s : ByteArray) (pos : Int) : Option Flt := if inS (ofF ch s) then none else if gonS (ofF ch s) then some (213, pos) else some (212, pos)
def lazyB (s : ByteArray) : Bool := decide (s = ⟨#[97, 110, 100, 97, 108, 115, 111]⟩ ∨ s = ⟨#[111, 114, 101, 108, 115, 101]⟩)
mutual
/-- A guard's expression. -/
def grdF (ch : List Fr) : Nd → Option Flt
  | .mk k s _ pos K =>
    if k = 1 ∨ k = 2 ∨ k = 4 ∨ k = 5 ∨ k = 6 then grdsF ch K
    else if k = 3 then (match varF ch s pos with | some e => some e | none => grdsF ch K)
    else if k = 7 then (if lazyB s ∨ kindS s K.length = 2 then grdsF ch K else some (214, pos))
    else if k = 9 then (if callG K then grdtF ch K else some (214, pos))
    else some (214, pos)
def grdsF (ch : List Fr) : List Nd → Option Flt
  | [] => none
  | n :: K => match grdF ch n with
    | some e => some e
    | none => grdsF ch K
def grdtF (ch : List Fr) : List Nd → Option Flt
  | [] => none
  | _ :: K => grdsF ch K
def callG : List Nd → Bool
  | [] => false
  | c :: K => decide (c.kd = 2) && decide (kindS c.txt (K.length : Nat) = 2)
end
/-- Of rows of guards. -/
def rowsF (ch : List Fr) : List Nd → Option Flt
  | [] => none
  | n :: K => match grdsF ch n.kids with
    | some e => some e
    | none => rowsF ch K
/-- How many patterns a clause has. -/
def patN : Nd → Nat
  | .mk _ _ _ _ (P :: _) => P.kids.length
  | _ => 0
def alikeF (n : Int) : List Nd → Option Flt
  | [] => none
  | c :: K => if 12 < patN c then some (217, c.pos) else if (patN c : Int) ≠ n then some (211, c.pos) else alikeF n K
/-- What a part leaves behind it in the scope around it: its names are gone. -/
def goneF (f g : Fr) : Fr := fun s => if g s = 0 then f s else if f s = 0 then 2 else if f s = 1 then 3 else f s
/-- Those of its names that are gone already. -/
def asideF (f g : Fr) : Fr := fun s => if gonS (g s) then (if f s = 0 then 2 else if f s = 1 then 3 else f s) else f s
def headAtom : List Nd → Bool
  | c :: _ => decide (c.kd = 2)
  | [] => false
def headTxt : List Nd → ByteArray
  | c :: _ => c.txt
  | [] => ⟨#[]⟩
def headPat : List Nd → Nat
  | c :: _ => patN c
  | [] => 0
/-- Does a call lead anywhere? -/
def clbB (hs : ByteArray → Int → Bool) (s : ByteArray) (n : Int) : Bool := hs s n || decide (kindS s n ≠ 0)

mutual
/-- An expression (0), an item of a body (1), a step of a comprehension (2): what is in scope behind it. -/
def exprF (hs : ByteArray → Int → Bool) : Nd → Nat → List Fr → Fr → Except Flt Fr
  | .mk k s num pos K, md, r, f =>
    if k = 18 ∧ md = 2 then genF hs K r f
    else if k = 8 then (if md = 1 then matchF hs K r f else .error (216, pos))
    else if k = 3 then (match varF (f :: r) s pos with | some e => .error e | none => .ok f)
    else if k = 9 then (if 13 < K.length then .error (217, pos) else if headAtom K && !clbB hs (headTxt K) ((K.length : Int) - 1) then .error (215, pos) else exprsF hs K r f)
    else if k = 11 then (if hs s num then .ok f else .error (215, pos))
    else if k = 10 then (match alikeF (headPat K : Nat) K with | some e => .error e | none => headsF hs K r f)
    else if k = 12 then caseF hs K r f
    else if k = 13 then choicesF hs K r f
    else if k = 14 then rcvF hs (K.length - num.toNat) K r f
    else if k = 16 then tryF hs K r f
    else if k = 17 then (match compF hs K (f :: r) Fr0 with | .error e => .error e | .ok _ => .ok f)
    else if k = 19 then (match itemsF hs K (f :: r) Fr0 with | .error e => .error e | .ok g => .ok (goneF f g))
    else exprsF hs K r f
def exprsF (hs : ByteArray → Int → Bool) : List Nd → List Fr → Fr → Except Flt Fr
  | [], _, f => .ok f
  | n :: K, r, f => match exprF hs n 0 r f with
    | .ok f' => exprsF hs K r f'
    | .error e => .error e
/-- Of a match first its right side, then its pattern. -/
def matchF (hs : ByteArray → Int → Bool) : List Nd → List Fr → Fr → Except Flt Fr
  | [p, e], r, f => (match exprF hs e 1 r f with
    | .ok f' => patF r p f'
    | .error x => .error x)
  | _, _, f => .ok f
def itemsF (hs : ByteArray → Int → Bool) : List Nd → List Fr → Fr → Except Flt Fr
  | [], _, f => .ok f
  | n :: K, r, f => match exprF hs n 1 r f with
    | .ok f' => itemsF hs K r f'
    | .error e => .error e
def bodyF (hs : ByteArray → Int → Bool) : Nd → List Fr → Fr → Except Flt Fr
  | .mk _ _ _ _ K, r, f => itemsF hs K r f
def clauseF (hs : ByteArray → Int → Bool) : Nd → List Fr → Fr → Except Flt Fr
  | .mk _ _ _ _ [P, G, B], r, f => (match patsF r P.kids f with
    | .error e => .error e
    | .ok f' => match rowsF (f' :: r) G.kids with
      | some e => .error e
      | none => bodyF hs B r f')
  | _, _, f => .ok f
def headsF (hs : ByteArray → Int → Bool) : List Nd → List Fr → Fr → Except Flt Fr
  | [], _, f => .ok f
  | n :: K, r, f => match clauseF hs n (f :: r) Fr0 with
    | .ok _ => headsF hs K r f
    | .error e => .error e
def choicesF (hs : ByteArray → Int → Bool) : List Nd → List Fr → Fr → Except Flt Fr
  | [], _, f => .ok f
  | n :: K, r, f => match clauseF hs n (f :: r) Fr0 with
    | .ok g => choicesF hs K r (goneF f g)
    | .error e => .error e
def caseF (hs : ByteArray → Int → Bool) : List Nd → List Fr → Fr → Except Flt Fr
  | [], _, f => .ok f
  | n :: K, r, f => match exprF hs n 0 r f with
    | .ok f' => choicesF hs K r f'
    | .error e => .error e
def tryF (hs : ByteArray → Int → Bool) : List Nd → List Fr → Fr → Except Flt Fr
  | [], _, f => .ok f
  | n :: K, r, f => match bodyF hs n (f :: r) Fr0 with
    | .ok g => choicesF hs K r (goneF f g)
    | .error e => .error e
/-- So many clauses, then what stands after them. -/
def rcvF (hs : ByteArray → Int → Bool) : Nat → List Nd → List Fr → Fr → Except Flt Fr
  | _, [], _, f => .ok f
  | 0, n :: K, r, f => (match afterF hs n r f with
    | .ok f' => rcvF hs 0 K r f'
    | .error e => .error e)
  | m + 1, n :: K, r, f => match clauseF hs n (f :: r) Fr0 with
    | .ok g => rcvF hs m K r (goneF f g)
    | .error e => .error e
def afterF (hs : ByteArray → Int → Bool) : Nd → List Fr → Fr → Except Flt Fr
  | .mk _ _ _ _ [e, B], r, f => (match exprF hs e 0 r f with
    | .error x => .error x
    | .ok f' => match bodyF hs B (f' :: r) Fr0 with
      | .error x => .error x
      | .ok g => .ok (asideF f' g))
  | _, _, f => .ok f
/-- A comprehension: its steps, then its first kid. -/
def compF (hs : ByteArray → Int → Bool) : List Nd → List Fr → Fr → Except Flt Fr
  | [], _, f => .ok f
  | n :: K, r, f => match stepsF hs K r f with
    | .ok f' => exprF hs n 0 r f'
    | .error e => .error e
def stepsF (hs : ByteArray → Int → Bool) : List Nd → List Fr → Fr → Except Flt Fr
  | [], _, f => .ok f
  | n :: K, r, f => match exprF hs n 2 r f with
    | .ok f' => stepsF hs K r f'
    | .error e => .error e
def genF (hs : ByteArray → Int → Bool) : List Nd → List Fr → Fr → Except Flt Fr
  | [p, e], r, f => (match exprF hs e 0 r f with
    | .ok f' => patF r p f'
    | .error x => .error x)
  | _, _, f => .ok f
end

end Go.Proofs.YtpgjcedonimgnaaDoor

/- A region that draws its order, whose last operation waits for all others, by one another; a call that returns or panics. -/
namespace Go.Proofs.YtpgjcedonimgnaaDoor
open Go.RowKit

/-- Does an operation wait for another one, by whatever way? -/
def reachB (ops : Array Oper) : Nat → Nat → Nat → Bool
  | 0, _, _ => false
  | fuel + 1, i, j => ((ops[i]?).map fun o => o.after.any fun e => Region.binds .any e && (e.on == j || reachB ops fuel e.on j)).getD false
def lastT (ops : Array Oper) (n : Nat) : Bool := (List.range n).all fun j => reachB ops (n + 1) n j
theorem reach_done {ops : Array Oper} {L : List Bool} (hcl : ∀ (j : Nat) (o' : Oper), L[j]? = some true → ops[j]? = some o' → ∀ e ∈ o'.after, Region.binds .any e = true → L[e.on]? = some true) :
    ∀ (fuel i j : Nat) (o : Oper), ops[i]? = some o → (∀ e ∈ o.after, Region.binds .any e = true → L[e.on]? = some true) → reachB ops fuel i j = true → L[j]? = some true := by
  intro fuel
  induction fuel with
  | zero => intro i j o ho hd h; cases h
  | succ fuel ih =>
    intro i j o ho hd h
    rw [reachB, ho] at h
    simp only [Option.map_some, Option.getD_some] at h
    obtain ⟨e, he, hb⟩ := Array.any_eq_true'.1 h
    simp only [Bool.and_eq_true, Bool.or_eq_true, beq_iff_eq] at hb
    have hon := hd e he hb.1
    rcases hb.2 with rfl | hr
    · exact hon
    · cases fuel with
      | zero => cases hr
      | succ m =>
        cases ho' : ops[e.on]? with
        | none => rw [reachB, ho'] at hr; simp at hr
        | some o' => exact ih e.on j o' ho' (fun e' he' hb' => hcl e.on o' hon ho' e' he' hb') hr

theorem region_lastT {rid : Nat} {ops : Array Oper} {Q : Exit → Act → World → Prop} {a0 : Act} {w0 : World} (hm : Tryd.prog.follows .mixedOrders = true) (n : Nat) (hn : ops.size = n + 1) (ds : List (Option Nat)) (hds : ops.toList.map (·.dst) = ds)
    (hd : ds.Pairwise fun a b => a = none ∨ a ≠ b) (hz : (ds.all fun o => o.all fun d => decide (d < a0.tmps.size)) = true) (hlow : lowOps ops = true) (hla : lastT ops n = true)
    (Res : Nat → Value → World → Prop) (hstab : ∀ j v w w', Res j v w → Upd [] w w' → Res j v w')
    (hstep : ∀ (D : Nat → Prop) (vs : List Value) a w i o, Agr (ds.filterMap id) a0 a → Upd [] w0 w → (∀ j, D j → Res j (vs.getD j undef) w) → (∀ j d, ds[j]? = some (some d) → D j → a.tmps.getD d undef = vs.getD j undef) → i < n → ops[i]? = some o → (∀ e ∈ o.after, Region.binds .any e = true → D e.on) →
      wpOp Tryd.prog ops Q i (fun a' w' => ∃ v, a' = a.put o.dst v ∧ Res i v w' ∧ Upd [] w w') a w)
    (hlast : ∀ (vs : List Value) a w o, vs.length = n + 1 → Agr (ds.filterMap id) a0 a → Upd [] w0 w → (∀ j, j < n → Res j (vs.getD j undef) w) → (∀ j d, ds[j]? = some (some d) → j < n → a.tmps.getD d undef = vs.getD j undef) → ops[n]? = some o →
      wpOp Tryd.prog ops Q n (fun a' w' => ∃ v, a' = a.put o.dst v ∧ Q .normal (putAll a0 ds (vs.set n v)) w') a w) :
    (Code.region rid ops true).wp Tryd.prog Q a0 w0 := by
  refine region_inv hm (n + 1) hn ds hds hd hz hlow (fun L vs w => ((L.length = n + 1 ∧ vs.length = n + 1) ∧ ∀ (j : Nat) (o' : Oper), L[j]? = some true → ops[j]? = some o' → ∀ e ∈ o'.after, Region.binds .any e = true → L[e.on]? = some true) ∧ ((L[n]? = some false ∧ Upd [] w0 w ∧ ∀ j, L[j]? = some true → Res j (vs.getD j undef) w) ∨ ((∀ j, j < n + 1 → L[j]? = some true) ∧ Q .normal (putAll a0 ds vs) w))) ⟨⟨⟨by simp, by simp⟩, fun j _ hj => ?_⟩, Or.inl ⟨List.getElem?_replicate_of_lt (by omega), (Upd.refl [] w0).drew, fun j hj => ?_⟩⟩ ?_ ?_
  · rw [List.getElem?_replicate] at hj
    split at hj <;> cases hj
  · rw [List.getElem?_replicate] at hj
    split at hj <;> cases hj
  · rintro L vs a w i o hL hv hS ⟨⟨_, hcl⟩, hI⟩ hun ho haf
    have hin : i < n + 1 := by rw [← hn]; exact (Array.getElem?_eq_some_iff.1 ho).1
    have hcl' : ∀ (j : Nat) (o' : Oper), (L.set i true)[j]? = some true → ops[j]? = some o' → ∀ e ∈ o'.after, Region.binds .any e = true → (L.set i true)[e.on]? = some true := fun j o' hj ho' e he hb => by
      rw [set_true (by omega)]
      right
      rcases (set_true (by omega)).1 hj with rfl | h
      · rw [ho] at ho'
        cases ho'
        exact haf e he hb
      · exact hcl j o' h ho' e he hb
    have hall : i = n → ∀ j, j < n → L[j]? = some true := fun e j hj => by
      subst e
      exact reach_done hcl (i + 1) i j o ho haf (List.all_eq_true.1 hla j (List.mem_range.2 hj))
    rcases hI with ⟨hf, hU, hR⟩ | ⟨ht, _⟩
    · by_cases e : i = n
      · have hA := hall e
        subst e
        refine wpOp_mono ?_ (hlast vs a w o hv hS.agr hU (fun j hj => hR j (hA j hj)) (fun j d hj hjn => hS.at' j d hj (hA j hjn)) ho)
        rintro a' w' ⟨v, ha, hq⟩
        refine ⟨v, ha, ⟨⟨by simpa using hL, by simpa using hv⟩, hcl'⟩, Or.inr ⟨fun j hj => ?_, hq⟩⟩
        by_cases e : j = i
        · exact (set_true (by omega)).2 (Or.inl e)
        · exact (set_true (by omega)).2 (Or.inr (hA j (by omega)))
      · refine wpOp_mono ?_ (hstep (fun j => L[j]? = some true) vs a w i o hS.agr hU hR hS.at' (by omega) ho haf)
        rintro a' w' ⟨v, ha, hr, hu⟩
        refine ⟨v, ha, ⟨⟨by simpa using hL, by simpa using hv⟩, hcl'⟩, Or.inl ⟨by rw [List.getElem?_set_ne e]; exact hf, hU.trans hu, fun j hj => ?_⟩⟩
        by_cases e2 : i = j
        · subst e2
          rw [List.getD_eq_getElem?_getD, List.getElem?_set_self (by omega)]
          exact hr
        · rw [List.getElem?_set_ne e2] at hj
          have := hstab j _ w w' (hR j hj) hu
          rw [List.getD_eq_getElem?_getD, List.getElem?_set_ne e2, ← List.getD_eq_getElem?_getD]
          exact this
    · exfalso
      rw [ht i hin] at hun
      cases hun
  · rintro vs w hv ⟨_, ⟨hf, _⟩ | ⟨_, hq⟩⟩
    · rw [List.getElem?_replicate_of_lt (by omega)] at hf; cases hf
    · exact hq
/-- A call that returns, or panics. -/
theorem wp_callB {o : Oper} {a : Act} {w : World} {K : Act → World → Prop} {Q : Exit → Act → World → Prop} {f : Nat} {xs : Array Operand} {ats : Array TypeId} (ho : o.op = .call { callee := .value (.func f), args := xs, argTypes := ats })
    (eg : ∀ args w, (callFunc f args).run Tryd.prog w = .ok (.enter f args) w) {vs : Array Value} (hv : xs.map a.eval = vs) (hc : Calls Tryd.prog f vs w fun e w' => (∃ u, e = .returned u ∧ K (a.put o.dst u) w') ∨ (∃ ch, e = .panicked ch ∧ Q (.panic ch) a w')) : o.wp Tryd.prog a w K Q := by
  unfold Oper.wp execOp
  simp [ho, resolve, Deferred.ofValue, invoke, Act.eval, eg, Oper.upon]
  rw [hv]
  refine hc.mono ?_
  rintro e w' (⟨u, rfl, hR⟩ | ⟨ch, rfl, hQ⟩)
  · exact hR
  · exact hQ
theorem ops_wpG {P : Program} {ops : Array Oper} {Q : Exit → Act → World → Prop} {i : Nat} {K : Act → World → Prop} {a : Act} {w : World} {o : Oper} (ho : ops[i]? = some o) (hg : Region.wanted o (yielded ops a.tmps) = true) (h : o.wp P a w K Q) : wpOp P ops Q i K a w := by
  unfold wpOp
  simp only [ho, hg, if_true]
  exact Or.inl h
theorem ops_skip {P : Program} {ops : Array Oper} {Q : Exit → Act → World → Prop} {i : Nat} {K : Act → World → Prop} {a : Act} {w : World} {o : Oper} (ho : ops[i]? = some o) (hg : Region.wanted o (yielded ops a.tmps) = false) (h : K (a.put o.dst undef) w) : wpOp P ops Q i K a w := by
  unfold wpOp
  simp only [ho, hg, Bool.false_eq_true, if_false]
  exact h

theorem wanted_of {ops : Array Oper} {o : Oper} {j d : Nat} {want b : Bool} {tmps : Array Value} (hg : o.guard = some (j, want)) (hd : (ops[j]?).bind (·.dst) = some d) (hv : tmps.getD d undef = .bool b) : Region.wanted o (yielded ops tmps) = (b == want) := by
  have h1 : tmps[d]? = some (.bool b) := by
    rw [Array.getD_eq_getD_getElem?] at hv
    cases ht : tmps[d]? with
    | none => rw [ht] at hv; cases hv
    | some v => rw [ht] at hv; simp at hv; rw [hv]
  unfold Region.wanted yielded
  rw [hg]
  simp only [hd, Option.bind_some, h1]
  cases b <;> cases want <;> rfl

end Go.Proofs.YtpgjcedonimgnaaDoor
