/- lint's has and callable: nothing is declared yet. -/
import Derived.Test.YtbajgfoaakehbaaDoorLtP
import Derived.MapKept
import Derived.Carry
import Derived.Test.YtbajgfoaakehbaaDoorLtR
namespace Go.Proofs.YtbajgfoaakehbaaDoor
open Go.RowKit

theorem und_sigs : Tryd.prog.underlying 49 = some (.map 63 61) := by kernel_rfl
theorem und_names : Tryd.prog.underlying 55 = some (.map 9 3) := by kernel_rfl
theorem sig_check (b : Bool) (s : ByteArray) (n : Int) (w : World) : (Instr.checkKey b 10000 63 (.agg #[.string s, .int .i64 n])).run Tryd.prog w = .ok () w := by kernel_rfl
theorem sig_find (s : ByteArray) (n : Int) (w : World) : (Instr.findKey 63 (.agg #[.string s, .int .i64 n]) []).run Tryd.prog w = .ok none w := by kernel_rfl
theorem unit_zero (w : World) : (zeroValue 61).run Tryd.prog w = .ok (.agg #[]) w := by kernel_rfl
theorem sig_lookup {w : World} {bm : Nat} (s : ByteArray) (n : Int) (hm : w.heap[bm]? = some (.map #[] 0)) : (Instr.lookup 49 (.map (some bm)) (.agg #[.string s, .int .i64 n]) true).run Tryd.prog w = .ok (.tuple #[.agg #[], .bool false]) w := by
  simp [Instr.lookup, run_underlying und_sigs, MapKept.run_getObj_map hm, sig_check, sig_find, Result.andThen]
set_option maxHeartbeats 1000000 in
set_option maxRecDepth 100000 in
theorem inner_any (a : Option Addr) (w : World) : Calls Tryd.prog 38 #[.pointer a] w fun e w' => e = .returned (.pointer (some ⟨w.heap.size + 1, 0, none⟩)) ∧ Upd [] w w' ∧ w'.heap[w.heap.size]? = some (.map #[] 0) ∧ w'.heap[w.heap.size + 1]? = some (.cells #[.map (some w.heap.size), .pointer a] 57) ∧ w'.heap.size = w.heap.size + 2 := by
  have hmm := @run_makeMap Tryd.prog
  go_enter Tryd.func38, Tryd.ntmps38
  go_wp2_with fail
  go_ret
  exact ⟨rfl, ((Upd.refl [] w).alloc _).alloc _, by rw [Below.heap_alloc _ _ _ (by simp)]; exact heap_alloc_new w _, by have h := heap_alloc_new (w.alloc (.map #[] 0)) (.cells #[.map (some w.heap.size), .pointer a] 57); simpa using h, by simp⟩
set_option maxHeartbeats 1000000 in
set_option maxRecDepth 100000 in
theorem has_none (bc bm : Nat) (s : ByteArray) (n : Int) (w : World) (hc : w.cell? ⟨bc, 0, none⟩ = some (.map (some bm))) (hm : w.heap[bm]? = some (.map #[] 0)) : Calls Tryd.prog 37 #[.pointer (some ⟨bc, 0, none⟩), .string s, .int .i64 n] w fun e w' => e = .returned (.bool false) ∧ Upd [] w w' := by
  have hl := sig_lookup s n hm
  go_enter Tryd.func37, Tryd.ntmps37
  go_wp2_with fail
  go_ret
  exact ⟨rfl, (Upd.refl [] w).alloc _⟩

theorem cell_lt {w : World} {p : Addr} {v : Value} (h : w.cell? p = some v) : p.block < w.heap.size := by
  apply Classical.byContradiction
  intro hn
  have e : w.heap[p.block]? = none := by simp; omega
  unfold World.cell? at h
  rw [e] at h
  cases h
theorem StrAt.mono {w w' : World} (hu : Upd [] w w') {a : Option Addr} {L : List ByteArray} (h : StrAt w a L) : StrAt w' a L := by
  rcases h with h | ⟨b, o, e, h⟩
  · exact Or.inl h
  · exact Or.inr ⟨b, o, e, fun i hi => (hu.cell (cell_lt (h i hi)) (by simp)).trans (h i hi)⟩
theorem Blt.mono {w w' : World} (h : Blt w) (hu : Upd [] w w') : Blt w' := fun k a hk ha => by
  obtain ⟨ad, c, h1, h2⟩ := h k a hk ha
  exact ⟨ad, c, (hu.cell (cell_lt h1) (by simp)).trans h1, h2.mono hu⟩
set_option maxHeartbeats 1000000 in
set_option maxRecDepth 100000 in
theorem callable_none (bc bm : Nat) (w : World) (hB : Blt w) (hc : w.cell? ⟨bc, 0, none⟩ = some (.map (some bm))) (hm : w.heap[bm]? = some (.map #[] 0)) : Calls Tryd.prog 27 #[.pointer (some ⟨bc, 0, none⟩), .string ⟨#[102]⟩, .int .i64 1] w fun e w' => e = .returned (.bool false) ∧ Upd [] w w' := by
  go_enter Tryd.func27, Tryd.ntmps27
  go_wp2_with fail
  refine Calls.mono (has_none bc bm _ _ w hc hm) ?_
  rintro e w1 ⟨rfl, u1⟩
  have B1 : Blt w1 := hB.mono u1
  clear hc hm hB
  go_wp2_with fail
  refine Calls.mono (Kind_any _ _ w1 B1) ?_
  rintro e w2 ⟨rfl, rfl⟩
  clear B1
  rw [show kindS ⟨#[102]⟩ 1 = 0 from by kernel_rfl]
  go_wp2_with fail
  go_ret
  exact ⟨rfl, u1⟩

end Go.Proofs.YtbajgfoaakehbaaDoor
