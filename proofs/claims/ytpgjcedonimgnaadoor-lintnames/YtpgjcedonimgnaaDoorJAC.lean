/- lint's has and callable: nothing is declared yet. -/
import Derived.Test.YtpgjcedonimgnaaDoorJAB
import Derived.MapKept
import Derived.Carry
import Derived.Test.YtpgjcedonimgnaaDoorLtR

namespace Go.Proofs.YtpgjcedonimgnaaDoor
open Go.RowKit

theorem und_sigs : Tryd.prog.underlying 49 = some (.map 63 61) := by kernel_rfl
theorem und_names : Tryd.prog.underlying 55 = some (.map 9 3) := by kernel_rfl
theorem sig_check (b : Bool) (s : ByteArray) (n : Int) (w : World) : (Instr.checkKey b 10000 63 (.agg #[.string s, .int .i64 n])).run Tryd.prog w = .ok () w := by kernel_rfl
theorem sig_find (s : ByteArray) (n : Int) (w : World) : (Instr.findKey 63 (.agg #[.string s, .int .i64 n]) []).run Tryd.prog w = .ok none w := by kernel_rfl
theorem unit_zero (w : World) : (zeroValue 61).run Tryd.prog w = .ok (.agg #[]) w := by kernel_rfl
theorem sig_lookup {w : World} {bm : Nat} (s : ByteArray) (n : Int) (hm : w.heap[bm]? = some (.map #[] 0)) : (Instr.lookup 49 (.map (some bm)) (.agg #[.string s, .int .i64 n]) true).run Tryd.prog w = .ok (.tuple #[.agg #[], .bool false]) w := by
  simp [Instr.lookup, run_underlying und_sigs, MapKept.run_getObj_map hm, sig_check, sig_find, Result.andThen]
set_option maxHeartbeats 1000000 in
set_option maxRecDepth 100000 in
theorem inner_any (a : Option Addr) (w : World) : Calls Tryd.prog 38 #[.pointer a] w fun e w' => e = .returned (.pointer (some ⟨w.heap.size + 1, 0, none⟩)) ∧ Upd [] w w' ∧ w'.heap[w.heap.size]? = some (.map #[] 0) ∧ w'.heap[w.heap.size + 1]? = some (.cells #[.map (some w.heap.size), .pointer a] 57) ∧ w'.heap.size = w.heap.size + 2 := by
  have hmm := @run_makeMap Tryd.prog
  go_enter Tryd.func38, Tryd.ntmps38
  go_wp2_with fail
  go_ret
  exact ⟨rfl, ((Upd.refl [] w).alloc _).alloc _, by rw [Below.heap_alloc _ _ _ (by simp)]; exact heap_alloc_new w _, by have h := heap_alloc_new (w.alloc (.map #[] 0)) (.cells #[.map (some w.heap.size), .pointer a] 57); simpa using h, by simp⟩
set_option maxHeartbeats 1000000 in
set_option maxRecDepth 100000 in
theorem has_none (bc bm : Nat) (s : ByteArray) (n : Int) (w : World) (hc : w.cell? ⟨bc, 0, none⟩ = some (.map (some bm))) (hm : w.heap[bm]? = some (.map #[] 0)) : Calls Tryd.prog 37 #[.pointer (some ⟨bc, 0, none⟩), .string s, .int .i64 n] w fun e w' => e = .returned (.bool false) ∧ Upd [] w w' := by
  have hl := sig_lookup s n hm
  go_enter Tryd.func37, Tryd.ntmps37
  go_wp2_with fail
  go_ret
  exact ⟨rfl, (Upd.refl [] w).alloc _⟩

theorem cell_lt {w : World} {p : Addr} {v : Value} (h : w.cell? p = some v) : p.block < w.heap.size := by
  apply Classical.byContradiction
  intro hn
  have e : w.heap[p.block]? = none := by simp; omega
  unfold World.cell? at h
  rw [e] at h
  cases h
theorem StrAt.mono {w w' : World} (hu : Upd [] w w') {a : Option Addr} {L : List ByteArray} (h : StrAt w a L) : StrAt w' a L := by
  rcases h with h | ⟨b, o, e, h⟩
  · exact Or.inl h
  · exact Or.inr ⟨b, o, e, fun i hi => (hu.cell (cell_lt (h i hi)) (by simp)).trans (h i hi)⟩
theorem Blt.mono {w w' : World} (h : Blt w) (hu : Upd [] w w') : Blt w' := fun k a hk ha => by
  obtain ⟨ad, c, h1, h2⟩ := h k a hk ha
  exact ⟨ad, c, (hu.cell (cell_lt h1) (by simp)).trans h1, h2.mono hu⟩
set_option maxHeartbeats 1000000 in
set_option maxRecDepth 100000 in
theorem callable_none (bc bm : Nat) (w : World) (hB : Blt w) (hc : w.cell? ⟨bc, 0, none⟩ = some (.map (some bm))) (hm : w.heap[bm]? = some (.map #[] 0)) : Calls Tryd.prog 27 #[.pointer (some ⟨bc, 0, none⟩), .string ⟨#[102]⟩, .int .i64 1] w fun e w' => e = .returned (.bool false) ∧ Upd [] w w' := by
  go_enter Tryd.func27, Tryd.ntmps27
  go_wp2_with fail
  refine Calls.mono (has_none bc bm _ _ w hc hm) ?_
  rintro e w1 ⟨rfl, u1⟩
  have B1 : Blt w1 := hB.mono u1
  clear hc hm hB
  go_wp2_with fail
  refine Calls.mono (Kind_any _ _ w1 B1) ?_
  rintro e w2 ⟨rfl, rfl⟩
  clear B1
  rw [show kindS ⟨#[102]⟩ 1 = 0 from by kernel_rfl]
  go_wp2_with fail
  go_ret
  exact ⟨rfl, u1⟩

end Go.Proofs.YtpgjcedonimgnaaDoor

/- lint's declare: one function, nothing declared yet. -/
namespace Go.Proofs.YtpgjcedonimgnaaDoor
open Go.RowKit

theorem wp_nf1 {o : Oper} {a : Act} {w : World} {K : Act → World → Prop} {Q : Exit → Act → World → Prop} (x : Operand) (ho : o.op = .fieldAddr 29 x 1) (g : Nat) (hx : a.eval x = .pointer (some ⟨g, 0, none⟩)) (h : K (a.put o.dst (.pointer (some ⟨g, 1, none⟩))) w) : o.wp Tryd.prog a w K Q := by
  refine wp_pure ?_ h
  unfold execOp
  simp only [ho, hx]
  kernel_rfl
theorem wp_nf2 {o : Oper} {a : Act} {w : World} {K : Act → World → Prop} {Q : Exit → Act → World → Prop} (x : Operand) (ho : o.op = .fieldAddr 29 x 2) (g : Nat) (hx : a.eval x = .pointer (some ⟨g, 0, none⟩)) (h : K (a.put o.dst (.pointer (some ⟨g, 2, none⟩))) w) : o.wp Tryd.prog a w K Q := by
  refine wp_pure ?_ h
  unfold execOp
  simp only [ho, hx]
  kernel_rfl
theorem wp_cf0 {o : Oper} {a : Act} {w : World} {K : Act → World → Prop} {Q : Exit → Act → World → Prop} (x : Operand) (ho : o.op = .fieldAddr 51 x 0) (g : Nat) (hx : a.eval x = .pointer (some ⟨g, 0, none⟩)) (h : K (a.put o.dst (.pointer (some ⟨g, 0, none⟩))) w) : o.wp Tryd.prog a w K Q := by
  refine wp_pure ?_ h
  unfold execOp
  simp only [ho, hx]
  kernel_rfl
theorem wp_lstr {o : Oper} {a : Act} {w : World} {K : Act → World → Prop} {Q : Exit → Act → World → Prop} (x : Operand) (ho : o.op = .load 9 x) (p : Addr) (v : Value) (hx : a.eval x = .pointer (some p)) (hc : w.cell? p = some v) (h : K (a.put o.dst v) w) : o.wp Tryd.prog a w K Q := by
  refine wp_pure ?_ h
  unfold execOp
  simp only [ho, hx]
  simp [go_sem, hc]
theorem wp_lint {o : Oper} {a : Act} {w : World} {K : Act → World → Prop} {Q : Exit → Act → World → Prop} (x : Operand) (ho : o.op = .load 3 x) (p : Addr) (v : Value) (hx : a.eval x = .pointer (some p)) (hc : w.cell? p = some v) (h : K (a.put o.dst v) w) : o.wp Tryd.prog a w K Q := by
  refine wp_pure ?_ h
  unfold execOp
  simp only [ho, hx]
  simp [go_sem, hc]
theorem wp_lmap {o : Oper} {a : Act} {w : World} {K : Act → World → Prop} {Q : Exit → Act → World → Prop} (x : Operand) (ho : o.op = .load 49 x) (p : Addr) (v : Value) (hx : a.eval x = .pointer (some p)) (hc : w.cell? p = some v) (h : K (a.put o.dst v) w) : o.wp Tryd.prog a w K Q := by
  refine wp_pure ?_ h
  unfold execOp
  simp only [ho, hx]
  simp [go_sem, hc]
theorem wp_move {o : Oper} {a : Act} {w : World} {K : Act → World → Prop} {Q : Exit → Act → World → Prop} (x : Operand) (ho : o.op = .move x) (v : Value) (hx : a.eval x = v) (h : K (a.put o.dst v) w) : o.wp Tryd.prog a w K Q := by
  refine wp_pure ?_ h
  unfold execOp
  simp [ho, hx]
theorem wp_nilc {o : Oper} {a : Act} {w : World} {K : Act → World → Prop} {Q : Exit → Act → World → Prop} (x : Operand) (ho : o.op = .nilCheck x) (p : Addr) (hx : a.eval x = .pointer (some p)) (h : K (a.put o.dst (.pointer (some p))) w) : o.wp Tryd.prog a w K Q := by
  refine wp_pure ?_ h
  unfold execOp
  simp only [ho, hx]
  rfl
/-- What the operations of the question have put. -/
def DcR (bc g : Nat) (F : Array Value) : Nat → Value → Prop
  | 0, v => v = .pointer (some ⟨bc, 0, none⟩)
  | 1, v => v = .pointer (some ⟨g, 1, none⟩)
  | 2, v => v = .string ⟨#[102]⟩
  | 3, v => v = .pointer (some ⟨g, 2, none⟩)
  | 4, v => v = .int .i64 1
  | 5, v => v = .bool false
  | 6, v => v = .agg F
  | _, _ => True
theorem Upd.into {S : List Nat} {w w' : World} (h : Upd [] w w') : Upd S w w' := ⟨h.os, h.tape, h.output, h.size, fun k hk _ => h.block k hk (by simp)⟩
theorem wp_mapu {o : Oper} {a : Act} {w w' : World} {K : Act → World → Prop} {Q : Exit → Act → World → Prop} (x y z : Operand) (ho : o.op = .mapUpdate 49 x y z) (u v t : Value) (hx : a.eval x = u) (hy : a.eval y = v) (hz : a.eval z = t) (h : (Instr.mapUpdate 49 u v t).run Tryd.prog w = .ok () w') (hk : K (a.put o.dst undef) w') : o.wp Tryd.prog a w K Q := by
  have e : (execOp a.eval o).run Tryd.prog w = .ok .skip w' := by
    unfold execOp
    simp only [ho, hx, hy, hz, Sem.run_bind, h, Result.andThen_ok]
    rfl
  unfold Oper.wp
  rw [e]
  exact hk
/-- What the operations of the note have put. -/
def DdR (bc bm g : Nat) : Nat → Value → Prop
  | 0, v => v = .pointer (some ⟨bc, 0, none⟩)
  | 1, v => v = .pointer (some ⟨bc, 0, none⟩)
  | 2, v => v = .pointer (some ⟨bc, 0, none⟩)
  | 3, v => v = .map (some bm)
  | 4, v => v = .pointer (some ⟨g, 1, none⟩)
  | 5, v => v = .string ⟨#[102]⟩
  | 6, v => v = .pointer (some ⟨g, 2, none⟩)
  | 7, v => v = .int .i64 1
  | 8, v => v = .agg #[.string ⟨#[102]⟩, .int .i64 1]
  | 9, v => v = .agg #[]
  | _, _ => True
theorem sig_put {w : World} {bm : Nat} (s : ByteArray) (n : Int) (hm : w.heap[bm]? = some (.map #[] 0)) : ∃ w', (Instr.mapUpdate 49 (.map (some bm)) (.agg #[.string s, .int .i64 n]) (.agg #[])).run Tryd.prog w = .ok () w' ∧ Upd [bm] w w' := by
  refine ⟨{ w with heap := w.heap.setIfInBounds bm (.map (#[].push { key := .agg #[.string s, .int .i64 n], val := .agg #[], born := 0 }) 1) }, ?_, ⟨rfl, rfl, rfl, by simp, fun k _ hn => ?_⟩⟩
  · simp [Instr.mapUpdate, run_underlying und_sigs, MapKept.run_getObj_map hm, MapKept.run_setObj_map _ hm, sig_check, sig_find, Result.andThen]
  · simp at hn
    simp [Ne.symm hn]
theorem wp_bsig {o : Oper} {a : Act} {w : World} {K : Act → World → Prop} {Q : Exit → Act → World → Prop} (x y : Operand) (ho : o.op = .build 63 #[(0, x), (1, y)]) (s : ByteArray) (n : Int) (hx : a.eval x = .string s) (hy : a.eval y = .int .i64 n) (h : K (a.put o.dst (.agg #[.string s, .int .i64 n])) w) : o.wp Tryd.prog a w K Q := by
  refine wp_pure ?_ h
  have hb : (Instr.build 63 #[(0, .string s), (1, .int .i64 n)]).run Tryd.prog w = .ok (.agg #[.string s, .int .i64 n]) w := run_build w 63 _ _ (by kernel_rfl)
  unfold execOp
  simp only [ho, List.map_toArray, List.map_cons, List.map_nil, hx, hy, Sem.run_bind, Sem.run_pure, Result.andThen_ok, hb]
theorem wp_bunit {o : Oper} {a : Act} {w : World} {K : Act → World → Prop} {Q : Exit → Act → World → Prop} (ho : o.op = .build 61 #[]) (h : K (a.put o.dst (.agg #[])) w) : o.wp Tryd.prog a w K Q := by
  refine wp_pure ?_ h
  have hb : (Instr.build 61 #[]).run Tryd.prog w = .ok (.agg #[]) w := run_build w 61 _ _ (by kernel_rfl)
  unfold execOp
  simp only [ho, List.map_toArray, List.map_nil, Sem.run_bind, Sem.run_pure, Result.andThen_ok, hb]

set_option maxHeartbeats 2000000 in
set_option maxRecDepth 100000 in
theorem declare_one (bc bm b3 b4 : Nat) (a1 : Option Addr) (c1 : Nat) (R3 : Array Value) (w : World) (hB : Blt w) (hc : w.cell? ⟨bc, 0, none⟩ = some (.map (some bm))) (hm : w.heap[bm]? = some (.map #[] 0)) (t4 : Tb w b4 #[.int .u8 20, .string ⟨#[]⟩, .int .i64 0, .int .i64 0, .slice (some ⟨b3, 0, none⟩) 3 3]) (t3 : Tb w b3 R3) (h3 : R3[4]? = some (.slice a1 1 c1)) :
    Calls Tryd.prog 22 #[.pointer (some ⟨bc, 0, none⟩), .agg #[.int .u8 21, .string ⟨#[102]⟩, .int .i64 1, .int .i64 0, .slice (some ⟨b4, 0, none⟩) 1 1]] w fun e w' => (∃ u, e = .returned u) ∧ Upd [bm] w w' := by
  go_enter Tryd.func22, Tryd.ntmps22
  go_wp2_with fail
  obtain ⟨w1, hw1⟩ : ∃ w1, w1 = w.alloc (.cells #[.int .u8 21, .string ⟨#[102]⟩, .int .i64 1, .int .i64 0, .slice (some ⟨b4, 0, none⟩) 1 1] 29) := ⟨_, rfl⟩
  have U1 : Upd [] w w1 := by rw [hw1]; exact (Upd.refl [] w).alloc _
  have tF : Tb w1 w.heap.size #[.int .u8 21, .string ⟨#[102]⟩, .int .i64 1, .int .i64 0, .slice (some ⟨b4, 0, none⟩) 1 1] := by rw [hw1]; exact Tb.new _ _ _ rfl
  rw [← hw1]
  clear hw1
  have lc := cell_lt hc
  have lm := lt_of_block hm
  obtain ⟨fs, hdesc⟩ := term_desc
  refine region_res (by kernel_rfl) 8 rfl [some 4, some 5, some 6, some 7, some 8, some 9, some 10, some 11] rfl (by decide) rfl (by kernel_rfl) (fun _ => []) (fun w' => Upd [] w1 w') (fun j v _ => DcR bc w.heap.size #[.int .u8 21, .string ⟨#[102]⟩, .int .i64 1, .int .i64 0, .slice (some ⟨b4, 0, none⟩) 1 1] j v) ((Upd.refl [] w1).drew) (fun _ _ _ _ _ _ _ h _ => h) ?_ ?_
  · intro D vs a' w5 i o' hA hU hR hS hi ho haf
    have hc5 : i = 0 ∨ i = 1 ∨ i = 2 ∨ i = 3 ∨ i = 4 ∨ i = 5 ∨ i = 6 ∨ i = 7 := by omega
    have tF5 := tF.mono hU (by simp)
    have UW := U1.trans hU
    rcases hc5 with rfl | rfl | rfl | rfl | rfl | rfl | rfl | rfl <;> cases ho
    · exact ops_wp rfl rfl (wp_move (.tmp 0) rfl _ (hA.ev 0 (by decide)) ⟨_, rfl, hU, rfl, Upd.refl _ _⟩)
    · exact ops_wp rfl rfl (wp_nf1 (.tmp 3) rfl _ (hA.ev 3 (by decide)) ⟨_, rfl, hU, rfl, Upd.refl _ _⟩)
    · have D1 := haf ⟨1, .data⟩ (by simp) rfl
      exact ops_wp rfl rfl (wp_lstr (.tmp 5) rfl _ _ ((hS 1 5 rfl D1).trans (hR 1 D1)) (tF5.cell 1) ⟨_, rfl, hU, rfl, Upd.refl _ _⟩)
    · exact ops_wp rfl rfl (wp_nf2 (.tmp 3) rfl _ (hA.ev 3 (by decide)) ⟨_, rfl, hU, rfl, Upd.refl _ _⟩)
    · have D3 := haf ⟨3, .data⟩ (by simp) rfl
      exact ops_wp rfl rfl (wp_lint (.tmp 7) rfl _ _ ((hS 3 7 rfl D3).trans (hR 3 D3)) (tF5.cell 2) ⟨_, rfl, hU, rfl, Upd.refl _ _⟩)
    · have D0 := haf ⟨0, .data⟩ (by simp) rfl
      have D2 := haf ⟨2, .data⟩ (by simp) rfl
      have D4 := haf ⟨4, .data⟩ (by simp) rfl
      refine ops_wp rfl rfl (wp_callA rfl Tryd.call27 (vs := #[.pointer (some ⟨bc, 0, none⟩), .string ⟨#[102]⟩, .int .i64 1]) ?_ (R := fun u w' => u = .bool false ∧ Upd [] w5 w') ((callable_none bc bm w5 (hB.mono UW) ((UW.cell lc (by simp)).trans hc) ((UW.block bm lm (by simp)).trans hm)).mono fun e w' ⟨he, hu⟩ => ⟨_, he, rfl, hu⟩) ?_)
      · have e0 : a'.eval (.tmp 4) = _ := (hS 0 4 rfl D0).trans (hR 0 D0)
        have e2 : a'.eval (.tmp 6) = _ := (hS 2 6 rfl D2).trans (hR 2 D2)
        have e4 : a'.eval (.tmp 8) = _ := (hS 4 8 rfl D4).trans (hR 4 D4)
        simp only [List.map_toArray, List.map_cons, List.map_nil, e0, e2, e4]
      · rintro u w6 ⟨rfl, hu⟩
        exact ⟨_, rfl, hU.trans hu, rfl, hu⟩
    · exact ops_wp rfl rfl (wp_load_row 29 (.tmp 3) rfl w.heap.size (hA.ev 3 (by decide)) 29 _ (0, 0) _ tF5 hdesc rfl (by rw [info_term]; rfl) ⟨_, rfl, hU, rfl, Upd.refl _ _⟩)
    · have D5 := haf ⟨5, .data⟩ (by simp) rfl
      have D6 := haf ⟨6, .data⟩ (by simp) rfl
      refine ops_wp rfl rfl (wp_callA rfl Tryd.call26 (vs := #[.bool false, .int .i64 210, .agg #[.int .u8 21, .string ⟨#[102]⟩, .int .i64 1, .int .i64 0, .slice (some ⟨b4, 0, none⟩) 1 1]]) ?_ (R := fun u w' => Upd [] w5 w') ((refuse_no _ _ _ _ _ _ _ _ w5).mono fun e w' ⟨⟨u, he⟩, hu⟩ => ⟨u, he, hu⟩) ?_)
      · have e5 : a'.eval (.tmp 9) = _ := (hS 5 9 rfl D5).trans (hR 5 D5)
        have e6 : a'.eval (.tmp 10) = _ := (hS 6 10 rfl D6).trans (hR 6 D6)
        simp only [List.map_toArray, List.map_cons, List.map_nil, e5, e6]
        rfl
      · rintro u w6 hu
        exact ⟨_, rfl, hU.trans hu, trivial, hu⟩
  · intro vs w2 hv hU hR
    obtain ⟨v0, r0, rfl, hv0⟩ := list_cons hv
    obtain ⟨v1, r1, rfl, hv1⟩ := list_cons hv0
    obtain ⟨v2, r2, rfl, hv2⟩ := list_cons hv1
    obtain ⟨v3, r3, rfl, hv3⟩ := list_cons hv2
    obtain ⟨v4, r4, rfl, hv4⟩ := list_cons hv3
    obtain ⟨v5, r5, rfl, hv5⟩ := list_cons hv4
    obtain ⟨v6, r6, rfl, hv6⟩ := list_cons hv5
    obtain ⟨v7, r7, rfl, hv7⟩ := list_cons hv6
    have UW := U1.trans hU
    have tF2 := tF.mono hU (by simp)
    clear hR
    simp only [putAll, Act.put, List.setIfInBounds_toArray, List.set_cons_succ, List.set_cons_zero]
    go_wp2_with fail
    have hm2 : w2.heap[bm]? = some (.map #[] 0) := (UW.block bm lm (by simp)).trans hm
    refine region_last (by kernel_rfl) 10 rfl [some 12, some 13, some 14, some 15, some 16, some 17, some 18, some 19, some 20, some 21, none] rfl (by decide) rfl (by kernel_rfl) (by kernel_rfl) (fun j v _ => DdR bc bm w.heap.size j v) (fun _ _ _ _ h _ => h) ?_ ?_
    · intro D vs a' w5 i o' hA hU2 hR hS hi ho haf
      have hc5 : i = 0 ∨ i = 1 ∨ i = 2 ∨ i = 3 ∨ i = 4 ∨ i = 5 ∨ i = 6 ∨ i = 7 ∨ i = 8 ∨ i = 9 := by omega
      have tF5 := tF2.mono hU2 (by simp)
      have UW5 := UW.trans hU2
      rcases hc5 with rfl | rfl | rfl | rfl | rfl | rfl | rfl | rfl | rfl | rfl <;> cases ho
      · exact ops_wp rfl rfl (wp_move (.tmp 0) rfl _ (hA.ev 0 (by decide)) ⟨_, rfl, rfl, Upd.refl _ _⟩)
      · have D0 := haf ⟨0, .data⟩ (by simp) rfl
        exact ops_wp rfl rfl (wp_nilc (.tmp 12) rfl _ ((hS 0 12 rfl D0).trans (hR 0 D0)) ⟨_, rfl, rfl, Upd.refl _ _⟩)
      · have D1 := haf ⟨1, .data⟩ (by simp) rfl
        exact ops_wp rfl rfl (wp_cf0 (.tmp 13) rfl _ ((hS 1 13 rfl D1).trans (hR 1 D1)) ⟨_, rfl, rfl, Upd.refl _ _⟩)
      · have D2 := haf ⟨2, .data⟩ (by simp) rfl
        exact ops_wp rfl rfl (wp_lmap (.tmp 14) rfl _ _ ((hS 2 14 rfl D2).trans (hR 2 D2)) ((UW5.cell lc (by simp)).trans hc) ⟨_, rfl, rfl, Upd.refl _ _⟩)
      · exact ops_wp rfl rfl (wp_nf1 (.tmp 3) rfl _ (hA.ev 3 (by decide)) ⟨_, rfl, rfl, Upd.refl _ _⟩)
      · have D4 := haf ⟨4, .data⟩ (by simp) rfl
        exact ops_wp rfl rfl (wp_lstr (.tmp 16) rfl _ _ ((hS 4 16 rfl D4).trans (hR 4 D4)) (tF5.cell 1) ⟨_, rfl, rfl, Upd.refl _ _⟩)
      · exact ops_wp rfl rfl (wp_nf2 (.tmp 3) rfl _ (hA.ev 3 (by decide)) ⟨_, rfl, rfl, Upd.refl _ _⟩)
      · have D6 := haf ⟨6, .data⟩ (by simp) rfl
        exact ops_wp rfl rfl (wp_lint (.tmp 18) rfl _ _ ((hS 6 18 rfl D6).trans (hR 6 D6)) (tF5.cell 2) ⟨_, rfl, rfl, Upd.refl _ _⟩)
      · have D5 := haf ⟨5, .data⟩ (by simp) rfl
        have D7 := haf ⟨7, .data⟩ (by simp) rfl
        exact ops_wp rfl rfl (wp_bsig (.tmp 17) (.tmp 19) rfl _ _ ((hS 5 17 rfl D5).trans (hR 5 D5)) ((hS 7 19 rfl D7).trans (hR 7 D7)) ⟨_, rfl, rfl, Upd.refl _ _⟩)
      · exact ops_wp rfl rfl (wp_bunit rfl ⟨_, rfl, rfl, Upd.refl _ _⟩)
    · intro vs a' w5 o' hv' hA hU2 hR hS ho
      cases ho
      have hm5 : w5.heap[bm]? = some (.map #[] 0) := (hU2.block bm (lt_of_block hm2) (by simp)).trans hm2
      obtain ⟨w6, hr6, hu6⟩ := sig_put ⟨#[102]⟩ 1 hm5
      have e3 : a'.eval (.tmp 15) = _ := (hS 3 15 rfl (by omega)).trans (hR 3 (by omega))
      have e8 : a'.eval (.tmp 20) = _ := (hS 8 20 rfl (by omega)).trans (hR 8 (by omega))
      have e9 : a'.eval (.tmp 21) = _ := (hS 9 21 rfl (by omega)).trans (hR 9 (by omega))
      refine ops_wp rfl rfl (wp_mapu (.tmp 15) (.tmp 20) (.tmp 21) rfl _ _ _ e3 e8 e9 hr6 ⟨undef, rfl, ?_⟩)
      have n4 : b4 ∉ [bm] := by simp; exact fun e => by subst e; have := t4.symm.trans hm; cases this
      have n3 : b3 ∉ [bm] := by simp; exact fun e => by subst e; have := t3.symm.trans hm; cases this
      have nF : w.heap.size ∉ [bm] := by simp; omega
      have T4 := ((t4.mono UW (by simp)).mono hU2 (by simp)).mono hu6 n4
      have T3 := ((t3.mono UW (by simp)).mono hU2 (by simp)).mono hu6 n3
      have TF := (tF2.mono hU2 (by simp)).mono hu6 nF
      have U6 : Upd [bm] w w6 := (UW.trans hU2).into.trans hu6
      have x2 : w6.cell? ⟨w.heap.size, 2, none⟩ = some (.int .i64 1) := TF.cell 2
      have x4 : w6.cell? ⟨w.heap.size, 4, none⟩ = some (.slice (some ⟨b4, 0, none⟩) 1 1) := TF.cell 4
      obtain ⟨q0, s0, rfl, hq0⟩ := list_cons hv'
      obtain ⟨q1, s1, rfl, hq1⟩ := list_cons hq0
      obtain ⟨q2, s2, rfl, hq2⟩ := list_cons hq1
      obtain ⟨q3, s3, rfl, hq3⟩ := list_cons hq2
      obtain ⟨q4, s4, rfl, hq4⟩ := list_cons hq3
      obtain ⟨q5, s5, rfl, hq5⟩ := list_cons hq4
      obtain ⟨q6, s6, rfl, hq6⟩ := list_cons hq5
      obtain ⟨q7, s7, rfl, hq7⟩ := list_cons hq6
      obtain ⟨q8, s8, rfl, hq8⟩ := list_cons hq7
      obtain ⟨q9, s9, rfl, hq9⟩ := list_cons hq8
      obtain ⟨q10, s10, rfl, hq10⟩ := list_cons hq9
      clear hR hS hA hr6 hm5 hm2 t4 t3 tF tF2 TF e3 e8 e9
      simp only [List.set_cons_succ, List.set_cons_zero, putAll, Act.put, List.setIfInBounds_toArray]
      go_wp2_with fail
      refine Calls.mono (alike_one b3 b4 a1 c1 w6 T4 R3 T3 h3) ?_
      rintro e w7 ⟨⟨u7, rfl⟩, h7⟩
      have U7 : Upd [bm] w w7 := U6.trans h7.into
      clear h7 U6 x2 x4 T4 T3
      go_wp2_with fail
      exact bodyPost_end (results_none rfl _ _ _) rfl ⟨⟨_, rfl⟩, U7⟩

end Go.Proofs.YtpgjcedonimgnaaDoor
