/- Places of rows, maps keyed by them. -/
import Derived.Test.YtejcppnleckmfaaDoorNsD
import Derived.LaidEql
import Derived.MapKept
import Derived.WideKeyRuns
import Derived.Laws.StructEq
import Derived.Deep.RegionHeld3
namespace Go.Proofs.YtejcppnleckmfaaDoor
open Go.RowKit

/-- A place. -/
def pl (p : Option Addr) (n : Int) : Value := .agg #[.pointer p, .int .i64 n]
theorem und_place : Tryd.prog.underlying 45 = some (.struct (Tryd.prog.fieldsOf 45)) := by kernel_rfl
theorem flds_place : (Tryd.prog.fieldsOf 45).toList.map (fun f => (f.name, f.type, f.offset)) = [("first", 43, 0), ("count", 3, 1)] := by kernel_rfl
theorem held_place : Tryd.prog.stoodInHeld 45 = false := by kernel_rfl
theorem und_pnode : Tryd.prog.underlying 43 = some (.pointer 25) := by kernel_rfl
theorem und_asone : Tryd.prog.underlying 41 = some (.map 45 45) := by kernel_rfl
/-- An unmarked block of nodes. -/
def Unm (w : World) (g : Nat) : Prop := ∃ cur : Array Value, w.heap[g]? = some (.cells cur 25 (0, 0))
theorem Unm.lt {w : World} {g : Nat} (h : Unm w g) : g < w.heap.size := by
  obtain ⟨cur, h⟩ := h
  exact lt_of_block h
theorem Unm.upd {S : List Nat} {w w' : World} {g : Nat} (h : Unm w g) (hu : Upd S w w') (hn : g ∉ S) : Unm w' g := by
  have hl := h.lt
  obtain ⟨cur, h⟩ := h
  exact ⟨cur, (hu.block g hl hn).trans h⟩
/-- Two places that are not one. -/
def Far (w : World) (p q : Option Addr) : Prop := (p = none ∧ ∃ g, q = some ⟨g, 0, none⟩) ∨ (q = none ∧ ∃ g, p = some ⟨g, 0, none⟩) ∨ ∃ g g', p = some ⟨g, 0, none⟩ ∧ q = some ⟨g', 0, none⟩ ∧ g ≠ g' ∧ Unm w g ∧ Unm w g'
theorem size_node (w : World) : (sizeOf 25).run Tryd.prog w = .ok 5 w := by kernel_rfl
theorem ptr_far {w : World} {p q : Option Addr} (h : Far w p q) (d : Nat) : (Op.equalIn (d + 1) 43 (.pointer p) (.pointer q)).run Tryd.prog w = .ok false w := by
  rcases h with ⟨rfl, g, rfl⟩ | ⟨rfl, g, rfl⟩ | ⟨g, g', rfl, rfl, hne, ⟨c, h1⟩, ⟨c', h2⟩⟩
  · simp [Op.equalIn, run_underlying und_pnode]
  · simp [Op.equalIn, run_underlying und_pnode]
  · have hne' : (⟨g, 0, none⟩ : Addr) ≠ ⟨g', 0, none⟩ := fun e => hne (by cases e; rfl)
    have h3 : (sameAddr ⟨g, 0, none⟩ ⟨g', 0, none⟩).run Tryd.prog w = .ok false w := run_sameAddr_other w hne' (ca := c) (cb := c') h1 h2
    simp only [Op.equalIn, Sem.run_bind, run_underlying und_pnode, Result.andThen_ok, size_node]
    simpa using h3
theorem flds_eq : ∃ f0 f1 : Field, (Tryd.prog.fieldsOf 45).toList = [f0, f1] ∧ f0.name = "first" ∧ f0.type = 43 ∧ f0.offset = 0 ∧ f1.name = "count" ∧ f1.type = 3 ∧ f1.offset = 1 := by
  have h := flds_place
  match hl : (Tryd.prog.fieldsOf 45).toList with
  | [f0, f1] =>
    rw [hl] at h
    simp at h
    exact ⟨f0, f1, rfl, h.1.1, h.1.2.1, h.1.2.2, h.2.1, h.2.2.1, h.2.2.2⟩
  | [] => rw [hl] at h; simp at h
  | [_] => rw [hl] at h; simp at h
  | _ :: _ :: _ :: _ => rw [hl] at h; simp at h
theorem part_p (w : World) (p : Option Addr) (n : Int) : (part 43 #[.pointer p, .int .i64 n] 0).run Tryd.prog w = .ok (.pointer p) w := by kernel_rfl
theorem part_n (w : World) (p : Option Addr) (n : Int) : (part 3 #[.pointer p, .int .i64 n] 1).run Tryd.prog w = .ok (.int .i64 n) w := by kernel_rfl
theorem place_far {w : World} {p q : Option Addr} {n m : Int} (h : Far w p q) (d : Nat) : (Op.equalIn (d + 2) 45 (pl p n) (pl q m)).run Tryd.prog w = .ok false w := by
  obtain ⟨f0, f1, hl, a1, a2, a3, b1, b2, b3⟩ := flds_eq
  rw [pl, pl, run_equalIn_struct w (d + 1) 45 _ _ und_place held_place, hl]
  have e := ptr_far h d
  simp [Op.eqFields, a1, a2, a3, part_p, e]
theorem place_none {w : World} (d : Nat) : (Op.equalIn (d + 2) 45 (pl none 0) (pl none 0)).run Tryd.prog w = .ok true w := by
  obtain ⟨f0, f1, hl, a1, a2, a3, b1, b2, b3⟩ := flds_eq
  rw [pl, run_equalIn_struct w (d + 1) 45 _ _ und_place held_place, hl]
  have e1 : (Op.equalIn (d + 1) 43 (.pointer none) (.pointer none)).run Tryd.prog w = .ok true w := by simp [Op.equalIn, run_underlying und_pnode]
  have e2 : (Op.equalIn (d + 1) 3 (.int .i64 0) (.int .i64 0)).run Tryd.prog w = .ok true w := by simp [Op.equalIn, run_underlying Tryd.underlying3]
  simp [Op.eqFields, a1, a2, a3, b1, b2, b3, part_p, part_n, e1, e2]

/-- A map whose keys are places of rows of a kind. -/
def MapK (w : World) (bm : Nat) (G : Nat → Prop) : Prop := ∃ es clock, w.heap[bm]? = some (.map es clock) ∧ ∀ e ∈ es.toList, ∃ g n, e.key = pl (some ⟨g, 0, none⟩) n ∧ G g ∧ Unm w g
theorem MapK.lt {w : World} {bm : Nat} {G : Nat → Prop} (h : MapK w bm G) : bm < w.heap.size := by
  obtain ⟨es, clock, hb, _⟩ := h
  exact lt_of_block hb
theorem MapK.upd {S : List Nat} {w w' : World} {bm : Nat} {G : Nat → Prop} (h : MapK w bm G) (hu : Upd S w w') (hn : bm ∉ S) (hG : ∀ g, G g → g ∉ S) : MapK w' bm G := by
  have hl := h.lt
  obtain ⟨es, clock, hb, r⟩ := h
  refine ⟨es, clock, (hu.block bm hl hn).trans hb, fun e he => ?_⟩
  obtain ⟨g, n, h1, h2, h3⟩ := r e he
  exact ⟨g, n, h1, h2, h3.upd hu (hG g h2)⟩
theorem MapK.fresh {w : World} {bm : Nat} (h : w.heap[bm]? = some (.map #[] 0)) (G : Nat → Prop) : MapK w bm G := ⟨#[], 0, h, by simp⟩

/-- A place that is in no such map. -/
def Out (w : World) (G : Nat → Prop) (p : Option Addr) : Prop := p = none ∨ ∃ g, p = some ⟨g, 0, none⟩ ∧ ¬ G g ∧ Unm w g
theorem Out.far {w : World} {G : Nat → Prop} {p : Option Addr} (h : Out w G p) {g : Nat} (hg : G g) (hu : Unm w g) : Far w (some ⟨g, 0, none⟩) p ∧ Far w p (some ⟨g, 0, none⟩) := by
  rcases h with rfl | ⟨g', rfl, h1, h2⟩
  · exact ⟨Or.inr (Or.inl ⟨rfl, g, rfl⟩), Or.inl ⟨rfl, g, rfl⟩⟩
  · have hne : g ≠ g' := fun e => h1 (e ▸ hg)
    exact ⟨Or.inr (Or.inr ⟨g, g', rfl, rfl, hne, hu, h2⟩), Or.inr (Or.inr ⟨g', g, rfl, rfl, Ne.symm hne, h2, hu⟩)⟩
theorem Out.upd {S : List Nat} {w w' : World} {G : Nat → Prop} {p : Option Addr} (h : Out w G p) (hu : Upd S w w') (hn : ∀ g, p = some ⟨g, 0, none⟩ → g ∉ S) : Out w' G p := by
  rcases h with rfl | ⟨g', rfl, h1, h2⟩
  · exact Or.inl rfl
  · exact Or.inr ⟨g', rfl, h1, h2.upd hu (hn g' rfl)⟩

end Go.Proofs.YtejcppnleckmfaaDoor
