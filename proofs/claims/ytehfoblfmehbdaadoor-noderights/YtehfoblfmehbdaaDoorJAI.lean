/- The reference's Same, by its contract. -/
import Derived.Test.YtehfoblfmehbdaaDoorNsC
import Derived.LaidEql
import Derived.MapKept
import Derived.WideKeyRuns
import Derived.Laws.StructEq
import Derived.Deep.RegionHeld3
import Derived.LoopN

namespace Go.Proofs.YtehfoblfmehbdaaDoor
open Go.RowKit

theorem samR_no (K J : List Nd) (h : K.length ≠ J.length) : samR K J = false := by
  cases hs : samR K J with
  | false => rfl
  | true => exact absurd (samR_len K J hs) h
theorem samR_next (K J : List Nd) (k : Nat) (hk : k < K.length) (hj : k < J.length) : samR (K.drop k) (J.drop k) = (samN K[k] J[k] && samR (K.drop (k + 1)) (J.drop (k + 1))) := by
  rw [List.drop_eq_getElem_cons hk, List.drop_eq_getElem_cons hj, samR]
theorem ret_boolN {a b : Bool} (h : a = b) : Ending.returned (.bool a) = .returned (.bool b) := by rw [h]

end Go.Proofs.YtehfoblfmehbdaaDoor

/- Places of rows, maps keyed by them. -/
namespace Go.Proofs.YtehfoblfmehbdaaDoor
open Go.RowKit

/-- A place. -/
def pl (p : Option Addr) (n : Int) : Value := .agg #[.pointer p, .int .i64 n]
theorem und_place : Tryd.prog.underlying 42 = some (.struct (Tryd.prog.fieldsOf 42)) := by kernel_rfl
theorem flds_place : (Tryd.prog.fieldsOf 42).toList.map (fun f => (f.name, f.type, f.offset)) = [("first", 40, 0), ("count", 3, 1)] := by kernel_rfl
theorem held_place : Tryd.prog.stoodInHeld 42 = false := by kernel_rfl
theorem und_pnode : Tryd.prog.underlying 40 = some (.pointer 25) := by kernel_rfl
/-- An unmarked block of nodes. -/
def Unm (w : World) (g : Nat) : Prop := ∃ cur : Array Value, w.heap[g]? = some (.cells cur 25 (0, 0))
theorem Unm.lt {w : World} {g : Nat} (h : Unm w g) : g < w.heap.size := by
  obtain ⟨cur, h⟩ := h
  exact lt_of_block h
theorem Unm.upd {S : List Nat} {w w' : World} {g : Nat} (h : Unm w g) (hu : Upd S w w') (hn : g ∉ S) : Unm w' g := by
  have hl := h.lt
  obtain ⟨cur, h⟩ := h
  exact ⟨cur, (hu.block g hl hn).trans h⟩
/-- Two places that are not one. -/
def Far (w : World) (p q : Option Addr) : Prop := (p = none ∧ ∃ g, q = some ⟨g, 0, none⟩) ∨ (q = none ∧ ∃ g, p = some ⟨g, 0, none⟩) ∨ ∃ g g', p = some ⟨g, 0, none⟩ ∧ q = some ⟨g', 0, none⟩ ∧ g ≠ g' ∧ Unm w g ∧ Unm w g'
theorem size_node (w : World) : (sizeOf 25).run Tryd.prog w = .ok 5 w := by kernel_rfl
theorem ptr_far {w : World} {p q : Option Addr} (h : Far w p q) (d : Nat) : (Op.equalIn (d + 1) 40 (.pointer p) (.pointer q)).run Tryd.prog w = .ok false w := by
  rcases h with ⟨rfl, g, rfl⟩ | ⟨rfl, g, rfl⟩ | ⟨g, g', rfl, rfl, hne, ⟨c, h1⟩, ⟨c', h2⟩⟩
  · simp [Op.equalIn, run_underlying und_pnode]
  · simp [Op.equalIn, run_underlying und_pnode]
  · have hne' : (⟨g, 0, none⟩ : Addr) ≠ ⟨g', 0, none⟩ := fun e => hne (by cases e; rfl)
    have h3 : (sameAddr ⟨g, 0, none⟩ ⟨g', 0, none⟩).run Tryd.prog w = .ok false w := run_sameAddr_other w hne' (ca := c) (cb := c') h1 h2
    simp only [Op.equalIn, Sem.run_bind, run_underlying und_pnode, Result.andThen_ok, size_node]
    simpa using h3
theorem flds_eq : ∃ f0 f1 : Field, (Tryd.prog.fieldsOf 42).toList = [f0, f1] ∧ f0.name = "first" ∧ f0.type = 40 ∧ f0.offset = 0 ∧ f1.name = "count" ∧ f1.type = 3 ∧ f1.offset = 1 := by
  have h := flds_place
  match hl : (Tryd.prog.fieldsOf 42).toList with
  | [f0, f1] =>
    rw [hl] at h
    simp at h
    exact ⟨f0, f1, rfl, h.1.1, h.1.2.1, h.1.2.2, h.2.1, h.2.2.1, h.2.2.2⟩
  | [] => rw [hl] at h; simp at h
  | [_] => rw [hl] at h; simp at h
  | _ :: _ :: _ :: _ => rw [hl] at h; simp at h
theorem part_p (w : World) (p : Option Addr) (n : Int) : (part 40 #[.pointer p, .int .i64 n] 0).run Tryd.prog w = .ok (.pointer p) w := by kernel_rfl
theorem part_n (w : World) (p : Option Addr) (n : Int) : (part 3 #[.pointer p, .int .i64 n] 1).run Tryd.prog w = .ok (.int .i64 n) w := by kernel_rfl
theorem place_far {w : World} {p q : Option Addr} {n m : Int} (h : Far w p q) (d : Nat) : (Op.equalIn (d + 2) 42 (pl p n) (pl q m)).run Tryd.prog w = .ok false w := by
  obtain ⟨f0, f1, hl, a1, a2, a3, b1, b2, b3⟩ := flds_eq
  rw [pl, pl, run_equalIn_struct w (d + 1) 42 _ _ und_place held_place, hl]
  have e := ptr_far h d
  simp [Op.eqFields, a1, a2, a3, part_p, e]
theorem place_none {w : World} (d : Nat) : (Op.equalIn (d + 2) 42 (pl none 0) (pl none 0)).run Tryd.prog w = .ok true w := by
  obtain ⟨f0, f1, hl, a1, a2, a3, b1, b2, b3⟩ := flds_eq
  rw [pl, run_equalIn_struct w (d + 1) 42 _ _ und_place held_place, hl]
  have e1 : (Op.equalIn (d + 1) 40 (.pointer none) (.pointer none)).run Tryd.prog w = .ok true w := by simp [Op.equalIn, run_underlying und_pnode]
  have e2 : (Op.equalIn (d + 1) 3 (.int .i64 0) (.int .i64 0)).run Tryd.prog w = .ok true w := by simp [Op.equalIn, run_underlying Tryd.underlying3]
  simp [Op.eqFields, a1, a2, a3, b1, b2, b3, part_p, part_n, e1, e2]

/-- A map whose keys are places of rows of a kind. -/
def MapK (w : World) (bm : Nat) (G : Nat → Prop) : Prop := ∃ es clock, w.heap[bm]? = some (.map es clock) ∧ ∀ e ∈ es.toList, ∃ g n, e.key = pl (some ⟨g, 0, none⟩) n ∧ G g ∧ Unm w g
theorem MapK.lt {w : World} {bm : Nat} {G : Nat → Prop} (h : MapK w bm G) : bm < w.heap.size := by
  obtain ⟨es, clock, hb, _⟩ := h
  exact lt_of_block hb
theorem MapK.upd {S : List Nat} {w w' : World} {bm : Nat} {G : Nat → Prop} (h : MapK w bm G) (hu : Upd S w w') (hn : bm ∉ S) (hG : ∀ g, G g → g ∉ S) : MapK w' bm G := by
  have hl := h.lt
  obtain ⟨es, clock, hb, r⟩ := h
  refine ⟨es, clock, (hu.block bm hl hn).trans hb, fun e he => ?_⟩
  obtain ⟨g, n, h1, h2, h3⟩ := r e he
  exact ⟨g, n, h1, h2, h3.upd hu (hG g h2)⟩
theorem MapK.fresh {w : World} {bm : Nat} (h : w.heap[bm]? = some (.map #[] 0)) (G : Nat → Prop) : MapK w bm G := ⟨#[], 0, h, by simp⟩

/-- A place that is in no such map. -/
def Out (w : World) (G : Nat → Prop) (p : Option Addr) : Prop := p = none ∨ ∃ g, p = some ⟨g, 0, none⟩ ∧ ¬ G g ∧ Unm w g
theorem Out.far {w : World} {G : Nat → Prop} {p : Option Addr} (h : Out w G p) {g : Nat} (hg : G g) (hu : Unm w g) : Far w (some ⟨g, 0, none⟩) p ∧ Far w p (some ⟨g, 0, none⟩) := by
  rcases h with rfl | ⟨g', rfl, h1, h2⟩
  · exact ⟨Or.inr (Or.inl ⟨rfl, g, rfl⟩), Or.inl ⟨rfl, g, rfl⟩⟩
  · have hne : g ≠ g' := fun e => h1 (e ▸ hg)
    exact ⟨Or.inr (Or.inr ⟨g, g', rfl, rfl, hne, hu, h2⟩), Or.inr (Or.inr ⟨g', g, rfl, rfl, Ne.symm hne, h2, hu⟩)⟩
theorem Out.upd {S : List Nat} {w w' : World} {G : Nat → Prop} {p : Option Addr} (h : Out w G p) (hu : Upd S w w') (hn : ∀ g, p = some ⟨g, 0, none⟩ → g ∉ S) : Out w' G p := by
  rcases h with rfl | ⟨g', rfl, h1, h2⟩
  · exact Or.inl rfl
  · exact Or.inr ⟨g', rfl, h1, h2.upd hu (hn g' rfl)⟩

end Go.Proofs.YtehfoblfmehbdaaDoor

/- last and join of a map of places that each row has to itself. -/
namespace Go.Proofs.YtehfoblfmehbdaaDoor
open Go.RowKit

theorem find_none {w : World} {p : Option Addr} {n : Int} : ∀ (l : List MapEntry) (i : Nat), (∀ e ∈ l, ∃ g m, e.key = pl (some ⟨g, 0, none⟩) m ∧ Far w p (some ⟨g, 0, none⟩)) → (Instr.findAsking 42 (pl p n) l i).run Tryd.prog w = .ok none w
  | [], i, _ => rfl
  | e :: l, i, h => by
    obtain ⟨g, m, h1, h2⟩ := h e List.mem_cons_self
    have ih := find_none (w := w) (p := p) (n := n) l (i + 1) (fun e he => h e (List.mem_cons_of_mem _ he))
    have e1 := place_far (n := n) (m := m) h2 9998
    simp only [Instr.findAsking, h1, Op.equal, Op.maxDepth, Sem.run_bind, e1, Result.andThen_ok]
    simpa using ih
theorem MapK.find {w : World} {bm : Nat} {G : Nat → Prop} (h : MapK w bm G) {p : Option Addr} (ho : Out w G p) (n : Int) : ∃ es clock, w.heap[bm]? = some (.map es clock) ∧ (∀ e ∈ es.toList, ∃ g n, e.key = pl (some ⟨g, 0, none⟩) n ∧ G g ∧ Unm w g) ∧ (Instr.findKey 42 (pl p n) es.toList).run Tryd.prog w = .ok none w := by
  obtain ⟨es, clock, hb, h1⟩ := h
  refine ⟨es, clock, hb, h1, ?_⟩
  rw [run_findKey_eq w (by rw [und_place])]
  refine find_none es.toList 0 fun e he => ?_
  obtain ⟨g, m, k1, k2, k3⟩ := h1 e he
  exact ⟨g, m, k1, (ho.far k2 k3).2⟩
theorem pk_check (b : Bool) (p : Option Addr) (n : Int) (w : World) : (Instr.checkKey b 10000 42 (pl p n)).run Tryd.prog w = .ok () w := by
  unfold pl
  kernel_rfl
theorem zero_place (w : World) : (zeroValue 42).run Tryd.prog w = .ok (pl none 0) w := by kernel_rfl
theorem setObj_upd (w : World) (bm : Nat) (o : Obj) : Upd [bm] w { w with heap := w.heap.setIfInBounds bm o } :=
  ⟨rfl, rfl, rfl, by simp, fun k _ hn => by simp at hn; simp [Ne.symm hn]⟩
end Go.Proofs.YtehfoblfmehbdaaDoor

/- placeOf and join. -/
namespace Go.Proofs.YtehfoblfmehbdaaDoor
open Go.RowKit

set_option maxHeartbeats 1000000 in
set_option maxRecDepth 100000 in
theorem placeOf_none (w : World) (a : Option Addr) (c : Nat) : Calls Tryd.prog 34 #[.slice a 0 c] w fun e w' => e = .returned (pl none 0) ∧ Upd [] w w' := by
  unfold pl
  go_enter Tryd.func34, Tryd.ntmps34
  go_wp2
  refine bodyPost_ret (v := .agg #[.pointer none, .int .i64 0]) (by simp [results, Tryd.results34, go_sem]) rfl ⟨rfl, ?_⟩
  repeat (first | exact Upd.refl _ _ | refine Upd.setCell ?_ (Or.inl (by simp <;> omega)) _ | refine Upd.alloc ?_ _)
set_option maxHeartbeats 1000000 in
set_option maxRecDepth 100000 in
theorem placeOf_some (w : World) (g n c : Nat) (hn : 0 < n) (hn2 : n ≤ 20000) : Calls Tryd.prog 34 #[.slice (some ⟨g, 0, none⟩) n c] w fun e w' => e = .returned (pl (some ⟨g, 0, none⟩) n) ∧ Upd [] w w' := by
  unfold pl
  have h1 : ((n : Int) == 0) = false := by simp; omega
  have h2 : (0 : Int) < (n : Int) := by omega
  go_enter Tryd.func34, Tryd.ntmps34
  go_wp2
  refine bodyPost_ret (v := .agg #[.pointer (some ⟨g, 0, none⟩), .int .i64 n]) (by simp [results, Tryd.results34, go_sem]) rfl ⟨rfl, ?_⟩
  repeat (first | exact Upd.refl _ _ | refine Upd.setCell ?_ (Or.inl (by simp <;> omega)) _ | refine Upd.alloc ?_ _)

theorem ptr_none (w : World) (d : Nat) : (Op.equalIn (d + 1) 40 (.pointer none) (.pointer none)).run Tryd.prog w = .ok true w := by simp [Op.equalIn, run_underlying und_pnode]
theorem Far.upd {w w' : World} {p q : Option Addr} (h : Far w p q) (hu : Upd [] w w') : Far w' p q := by
  rcases h with h | h | ⟨g, g', h1, h2, h3, h4, h5⟩
  · exact Or.inl h
  · exact Or.inr (Or.inl h)
  · exact Or.inr (Or.inr ⟨g, g', h1, h2, h3, h4.upd hu (by simp), h5.upd hu (by simp)⟩)
/-- A box of a place. -/
def Pb (w : World) (g : Nat) (p : Option Addr) (n : Int) : Prop := w.heap[g]? = some (.cells #[.pointer p, .int .i64 n] 42 (0, 0))
theorem Pb.lt {w : World} {g : Nat} {p : Option Addr} {n : Int} (h : Pb w g p n) : g < w.heap.size := lt_of_block h
theorem Pb.upd {S : List Nat} {w w' : World} {g : Nat} {p : Option Addr} {n : Int} (h : Pb w g p n) (hu : Upd S w w') (hn : g ∉ S) : Pb w' g p n := (hu.block g h.lt hn).trans h
theorem Pb.c0 {w : World} {g : Nat} {p : Option Addr} {n : Int} (h : Pb w g p n) : w.cell? ⟨g, 0, none⟩ = some (.pointer p) := cell_of_row w g 0 _ _ _ h
theorem Pb.c1 {w : World} {g : Nat} {p : Option Addr} {n : Int} (h : Pb w g p n) : w.cell? ⟨g, 1, none⟩ = some (.int .i64 n) := cell_of_row w g 1 _ _ _ h
theorem Pb.f {w : World} {g : Nat} {p : Option Addr} {n : Int} (h : Pb w g p n) (i : Nat) : w.frozen? ⟨g, i, none⟩ = false := frozen_of_row w g i _ _ h
theorem Pb.set {w : World} {g : Nat} {p : Option Addr} {n : Int} (h : Pb w g p n) : Pb ((w.setCell ⟨g, 0, none⟩ (.pointer p)).setCell ⟨g, 1, none⟩ (.int .i64 n)) g p n := by
  have h1 : (w.setCell ⟨g, 0, none⟩ (.pointer p)).heap[g]? = some (.cells #[.pointer p, .int .i64 n] 42 (0, 0)) := by
    rw [heap_setCell_same w g 0 _ _ _ h]; rfl
  unfold Pb
  rw [heap_setCell_same _ g 1 _ _ _ h1]; rfl
theorem set2_upd (w : World) (g : Nat) (u v : Value) : Upd [g] w ((w.setCell ⟨g, 0, none⟩ u).setCell ⟨g, 1, none⟩ v) := ((Upd.refl [g] w).setCell (Or.inr (by simp)) _).setCell (Or.inr (by simp)) _
theorem Pb.new (w : World) (p : Option Addr) (n : Int) (g : Nat) (h : g = w.heap.size) : Pb (w.alloc (.cells #[.pointer p, .int .i64 n] 42)) g p n := by subst h; exact heap_alloc_new w _

end Go.Proofs.YtehfoblfmehbdaaDoor
