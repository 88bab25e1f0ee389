/- last and join of a map of places that each row has to itself. -/
import Derived.Test.YtejcppnleckmfaaDoorNsE
import Derived.LoopN
namespace Go.Proofs.YtejcppnleckmfaaDoor
open Go.RowKit

theorem find_none {w : World} {p : Option Addr} {n : Int} : ∀ (l : List MapEntry) (i : Nat), (∀ e ∈ l, ∃ g m, e.key = pl (some ⟨g, 0, none⟩) m ∧ Far w p (some ⟨g, 0, none⟩)) → (Instr.findAsking 45 (pl p n) l i).run Tryd.prog w = .ok none w
  | [], i, _ => rfl
  | e :: l, i, h => by
    obtain ⟨g, m, h1, h2⟩ := h e List.mem_cons_self
    have ih := find_none (w := w) (p := p) (n := n) l (i + 1) (fun e he => h e (List.mem_cons_of_mem _ he))
    have e1 := place_far (n := n) (m := m) h2 9998
    simp only [Instr.findAsking, h1, Op.equal, Op.maxDepth, Sem.run_bind, e1, Result.andThen_ok]
    simpa using ih
theorem MapK.find {w : World} {bm : Nat} {G : Nat → Prop} (h : MapK w bm G) {p : Option Addr} (ho : Out w G p) (n : Int) : ∃ es clock, w.heap[bm]? = some (.map es clock) ∧ (∀ e ∈ es.toList, ∃ g n, e.key = pl (some ⟨g, 0, none⟩) n ∧ G g ∧ Unm w g) ∧ (Instr.findKey 45 (pl p n) es.toList).run Tryd.prog w = .ok none w := by
  obtain ⟨es, clock, hb, h1⟩ := h
  refine ⟨es, clock, hb, h1, ?_⟩
  rw [run_findKey_eq w (by rw [und_place])]
  refine find_none es.toList 0 fun e he => ?_
  obtain ⟨g, m, k1, k2, k3⟩ := h1 e he
  exact ⟨g, m, k1, (ho.far k2 k3).2⟩
theorem pk_check (b : Bool) (p : Option Addr) (n : Int) (w : World) : (Instr.checkKey b 10000 45 (pl p n)).run Tryd.prog w = .ok () w := by
  unfold pl
  kernel_rfl
theorem zero_place (w : World) : (zeroValue 45).run Tryd.prog w = .ok (pl none 0) w := by kernel_rfl
theorem MapK.look {w : World} {bm : Nat} {G : Nat → Prop} (h : MapK w bm G) {p : Option Addr} (ho : Out w G p) (n : Int) : (Instr.lookup 41 (.map (some bm)) (pl p n) true).run Tryd.prog w = .ok (.tuple #[pl none 0, .bool false]) w := by
  obtain ⟨es, clock, hb, _, hr⟩ := h.find ho n
  simp [Instr.lookup, run_underlying und_asone, MapKept.run_getObj_map hb, pk_check, hr, Result.andThen]
  try rfl
theorem setObj_upd (w : World) (bm : Nat) (o : Obj) : Upd [bm] w { w with heap := w.heap.setIfInBounds bm o } :=
  ⟨rfl, rfl, rfl, by simp, fun k _ hn => by simp at hn; simp [Ne.symm hn]⟩
theorem MapK.put {w : World} {bm : Nat} {G : Nat → Prop} (h : MapK w bm G) {p : Option Addr} (ho : Out w G p) (n : Int) (v : Value) : ∃ w', (Instr.mapUpdate 41 (.map (some bm)) (pl p n) v).run Tryd.prog w = .ok () w' ∧ Upd [bm] w w' ∧ (∀ g, p = some ⟨g, 0, none⟩ → g ≠ bm → (∀ x, G x → x ≠ bm) → MapK w' bm (fun x => G x ∨ x = g)) := by
  have hlt := h.lt
  obtain ⟨es, clock, hb, h1, hr⟩ := h.find ho n
  have hu := setObj_upd w bm (.map (es.push { key := pl p n, val := v, born := clock }) (clock + 1))
  refine ⟨{ w with heap := w.heap.setIfInBounds bm (.map (es.push { key := pl p n, val := v, born := clock }) (clock + 1)) }, ?_, hu, fun g hg hgm hG => ⟨es.push { key := pl p n, val := v, born := clock }, clock + 1, by simp [hlt], fun e he => ?_⟩⟩
  · simp [Instr.mapUpdate, run_underlying und_asone, MapKept.run_getObj_map hb, MapKept.run_setObj_map _ hb, pk_check, hr, Result.andThen]
  · simp only [Array.toList_push, List.mem_append, List.mem_singleton] at he
    rcases he with he | rfl
    · obtain ⟨g', m, k1, k2, k3⟩ := h1 e he
      exact ⟨g', m, k1, Or.inl k2, k3.upd hu (by simpa using hG g' k2)⟩
    · subst hg
      rcases ho with h0 | ⟨g', h0, h2, h3⟩
      · cases h0
      · cases h0
        exact ⟨g, n, rfl, Or.inr rfl, h3.upd hu (by simpa using hgm)⟩

set_option maxHeartbeats 1000000 in
set_option maxRecDepth 100000 in
theorem last_in (w : World) (bm : Nat) (G : Nat → Prop) (p : Option Addr) (n : Int) (h : MapK w bm G) (ho : Out w G p) :
    Calls Tryd.prog 36 #[.map (some bm), pl p n] w fun e w' => e = .returned (pl p n) ∧ Upd [] w w' := by
  have u0 : Upd [] w ((w.alloc (.cells #[.pointer p, .int .i64 n] 45)).alloc (.cells #[.pointer none, .int .i64 0] 45)) := ((Upd.refl [] w).alloc _).alloc _
  have hl := (h.upd u0 (by simp) (by simp)).look (ho.upd u0 (by simp)) n
  unfold pl at hl ⊢
  clear h ho
  go_enter Tryd.func36, Tryd.ntmps36
  go_wp2
  refine wp_loop_rounds 1 ?_
  rw [rounds_succ]
  go_wp2
  refine bodyPost_ret (v := .agg #[.pointer p, .int .i64 n]) (by simp [results, Tryd.results36, go_sem]) rfl ⟨rfl, ?_⟩
  repeat (first | exact Upd.refl _ _ | refine Upd.setCell ?_ (Or.inl (by simp <;> omega)) _ | refine Upd.alloc ?_ _)

end Go.Proofs.YtejcppnleckmfaaDoor
