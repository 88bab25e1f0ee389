/- CopyTerm, of a right integer. -/
import Derived.Test.YtpeganecbjefoaaDoorLawB
namespace Go.Proofs.YtpeganecbjefoaaDoor
open Go.RowKit

theorem append_nil_run (w : World) (ty : TypeId) (a : Option Addr) (L : List Nat) (c : Nat) (hL : L.length ≤ 1000) (HL : At w a L) :
    ∃ a' c' w', (Builtin.append_ #[23, 23] ty #[.slice none 0 0, .slice a L.length c]).run Tryd.prog w = .ok (.slice a' L.length c') w' ∧ At w' a' L ∧ Upd [] w w' := by
  obtain ⟨i0, hi, hz0, hz1, hz2⟩ := info_parts info_u32
  rcases a with _ | ad
  · have hM0 : L = [] := by
      rcases HL with h | ⟨b, o, e, _⟩
      · exact h
      · cases e
    subst hM0
    refine ⟨none, 0, w, ?_, At.nil _ _, Upd.refl _ _⟩
    have hs := Src.ofNil (size := i0.size) w Tryd.underlying23 c
    simp [Builtin.append_, run_underlying Tryd.underlying23, sizeOf, typeInfo, hi, hs.len, hs.cells]
  · have hnews : ∀ j u, (L.map (fun n => Value.int .u32 (n : Nat)))[j]? = some u → w.cell? (ad.add j) = some u := fun j u hj => by
      obtain ⟨h1, h2⟩ := map_u32_get L j u hj
      rcases HL with h | ⟨b, o, e, _, hc⟩
      · rw [h] at h1; simp at h1
      · cases e
        rw [h2, Addr.add_lit]; exact hc j h1
    obtain ⟨v', w', hr, hown, hgr, hnil⟩ := run_append_own (P := Tryd.prog) w w.heap.size 23 ty 53 i0 (.int .u32 0) 1 4 Tryd.underlying23 hi hz0 hz1 hz2 rfl (by decide) _ 0 [] (World.ownsRow_nil _ _ _ _) ad L.length c (L.map (fun n => Value.int .u32 (n : Nat))) (by simp) hnews
      (fun u hu => by obtain ⟨_, _, rfl⟩ := List.mem_map.1 hu; rfl) (by unfold maxLen; omega) (by omega) (Nat.le_refl _)
    rw [List.nil_append, Nat.zero_add] at hown
    have hU : Upd [] w w' := (Upd.refl _ _).grown hgr (fun k hk => by simp [Value.ownBlock] at hk)
    by_cases h0 : L.length = 0
    · have hv := hnil.2 ⟨rfl, h0⟩
      have hL0 : L = [] := List.eq_nil_of_length_eq_zero h0
      refine ⟨none, 0, w', by rw [hr, hv, h0], by rw [hL0]; exact At.nil _ _, hU⟩
    · obtain ⟨hn, g, cap, hv, _, _, _, hat⟩ := owns_at hown (fun e => by have := (hnil.1 e).2; omega)
      exact ⟨_, cap, w', by rw [hr, hv], hat, hU⟩

theorem append_nil (w : World) {ops : Array Oper} {rest : List Oper} {o : Oper} {a : Act} {Q : Exit → Act → World → Prop} (hgd : o.guard = none) (s x : Operand)
    (ho : o.op = .call { callee := .builtin .append, args := #[s, x], argTypes := #[23, 23] }) (L : List Nat) (al : Option Addr) (c : Nat) (hL : L.length ≤ 1000)
    (hs : a.eval s = .slice none 0 0) (hx : a.eval x = .slice al L.length c) (HL : At w al L)
    (h : ∀ a' c' w', At w' a' L → Upd [] w w' → wpList Tryd.prog ops Q rest (a.put o.dst (.slice a' L.length c')) w') : wpList Tryd.prog ops Q (o :: rest) a w := by
  obtain ⟨a', c', w', hr, h1, h2⟩ := append_nil_run w o.type al L c hL HL
  refine wpList_plain hgd fun K hK => ?_
  unfold Oper.wp execOp
  simp only [ho, resolve, invoke, builtin, Sem.run_bind, Sem.run_pure, Result.andThen_ok, List.map_toArray, List.map_cons, List.map_nil, hs, hx, hr]
  exact hK _ _ (h a' c' w' h1 h2)

set_option maxHeartbeats 400000 in
set_option maxRecDepth 100000 in
theorem CopyLimbs_any (al : Option Addr) (c : Nat) (L : List Nat) (w : World) (hL : L.length ≤ 1000) (HL : At w al L) :
    Calls Tryd.prog 62 #[.slice al L.length c] w fun e w' => Upd [] w w' ∧ ∃ a' c', e = .returned (.slice a' L.length c') ∧ At w' a' L := by
  go_enter Tryd.func62, Tryd.ntmps62
  go_wp2_with (at_builtin; refine append_nil _ rfl _ _ rfl L al c hL rfl rfl HL ?_; intro a' c' w1 hA1 hU1)
  go_ret
  exact ⟨hU1, a', c', rfl, hA1⟩

set_option maxHeartbeats 400000 in
set_option maxRecDepth 100000 in
theorem CopyTerms_nil (ai : Option Addr) (ci : Nat) (w : World) :
    Calls Tryd.prog 63 #[.slice ai 0 ci] w fun e w' => e = .returned (.slice none 0 0) ∧ w' = w := by
  go_enter Tryd.func63, Tryd.ntmps63
  go_wp2
  refine wp_loop_rounds 1 ?_
  rw [rounds_succ]
  go_wp2
  go_ret
  exact ⟨rfl, rfl⟩

theorem Tb.set3 {w : World} {n : Nat} {k num : Int} {neg : Bool} {v2 v5 v6 u2 u5 u6 : Value} {s : ByteArray} (h : Tb w n #[.int .u8 k, .bool neg, v2, .string s, .int .i64 num, v5, v6]) :
    Tb (((w.setCell ⟨n, 2, none⟩ u2).setCell ⟨n, 5, none⟩ u5).setCell ⟨n, 6, none⟩ u6) n #[.int .u8 k, .bool neg, u2, .string s, .int .i64 num, u5, u6] := by
  have h7 := ((h.set 2 u2).set 5 u5).set 6 u6
  simp only [List.setIfInBounds_toArray, List.set_cons_zero, List.set_cons_succ] at h7
  exact h7

set_option maxHeartbeats 1000000 in
set_option maxRecDepth 100000 in
/-- CopyTerm, of a right integer. -/
theorem CopyTerm_any (a ai at' : Option Addr) (c ci ct : Nat) (neg : Bool) (L : List Nat) (z : Int) (w : World) (HT : TI w neg a L z) :
    Calls Tryd.prog 34 #[.agg #[.int .u8 1, .bool neg, .slice a L.length c, .string ⟨#[]⟩, .int .i64 0, .slice ai 0 ci, .slice at' 0 ct]] w fun e w' => Upd [] w w' ∧ ∃ a' c', e = .returned (.agg #[.int .u8 1, .bool neg, .slice a' L.length c', .string ⟨#[]⟩, .int .i64 0, .slice none 0 0, .slice none 0 0]) ∧ TI w' neg a' L z := by
  have HTT : Hid _ := HT
  have hL := HT.len
  clear HT
  go_enter Tryd.func34, Tryd.ntmps34
  go_wp2_with fail
  have hUW := ((Upd.refl [] w).alloc (.cells #[.int .u8 1, .bool neg, .slice a L.length c, .string ⟨#[]⟩, .int .i64 0, .slice ai 0 ci, .slice at' 0 ct] 26)).alloc (.cells #[.int .u8 0, .bool false, .slice none 0 0, .string ⟨#[]⟩, .int .i64 0, .slice none 0 0, .slice none 0 0] 26)
  have tX := (Tb.new w #[.int .u8 1, .bool neg, .slice a L.length c, .string ⟨#[]⟩, .int .i64 0, .slice ai 0 ci, .slice at' 0 ct] _ rfl).old (.cells #[.int .u8 0, .bool false, .slice none 0 0, .string ⟨#[]⟩, .int .i64 0, .slice none 0 0, .slice none 0 0] 26)
  have tZ := Tb.new (w.alloc (.cells #[.int .u8 1, .bool neg, .slice a L.length c, .string ⟨#[]⟩, .int .i64 0, .slice ai 0 ci, .slice at' 0 ct] 26)) #[.int .u8 0, .bool false, .slice none 0 0, .string ⟨#[]⟩, .int .i64 0, .slice none 0 0, .slice none 0 0] (w.heap.size + 1) (by simp)
  refine (CopyLimbs_any a c L _ (by omega) (HTT.out.mem.mono hUW)).mono ?_
  rintro e w1 ⟨hU1, a1, c1, rfl, hA1⟩
  have tX1 := tX.mono hU1 (by simp)
  have tZ1 := tZ.mono hU1 (by simp)
  have hU01 := hUW.trans hU1
  have x2 : w1.cell? ⟨w.heap.size, 2, none⟩ = some (.slice a L.length c) := tX1.cell 2
  have x5 : w1.cell? ⟨w.heap.size, 5, none⟩ = some (.slice ai 0 ci) := tX1.cell 5
  have x6 : w1.cell? ⟨w.heap.size, 6, none⟩ = some (.slice at' 0 ct) := tX1.cell 6
  have xf : ∀ i, w1.frozen? ⟨w.heap.size, i, none⟩ = false := fun i => frozen_of_row w1 w.heap.size i _ _ tX1
  have HX1 : Hid _ := tX1
  clear tX tZ hUW hU1 tX1
  go_wp2_with fail
  refine (CopyTerms_nil ai ci _).mono ?_
  rintro e w2 ⟨rfl, rfl⟩
  go_wp2_with fail
  refine (CopyTerms_nil at' ct _).mono ?_
  rintro e w3 ⟨rfl, rfl⟩
  have t3 := Tb.set3 (u2 := .slice a1 L.length c1) (u5 := .slice none 0 0) (u6 := .slice none 0 0) HX1.out
  have hU3 : Upd [w.heap.size] w1 (((w1.setCell ⟨w.heap.size, 2, none⟩ (.slice a1 L.length c1)).setCell ⟨w.heap.size, 5, none⟩ (.slice none 0 0)).setCell ⟨w.heap.size, 6, none⟩ (.slice none 0 0)) :=
    (((Upd.refl _ _).setCell (Or.inr (by simp)) _).setCell (Or.inr (by simp)) _).setCell (Or.inr (by simp)) _
  have tZ3 := tZ1.mono hU3 (by simp)
  have hA3 := hA1.keep HX1.out hU3
  have hU03 := hU01.then hU3 (by simp)
  go_wp2_with (first | (refine load_G _ _ rfl _ _ rfl t3 rfl rfl ?_) | (refine store_V _ rfl _ _ rfl _ _ _ _ _ _ _ _ _ _ _ _ _ _ _ rfl rfl tZ3 rfl ?_; intro w4 hT4 hU4))
  exact ret_T Tryd.results34 rfl _ _ rfl hT4 rfl ⟨hU03.then hU4 (by simp), a1, c1, rfl, ⟨HTT.out.norm, hA3.keep tZ3 hU4, HTT.out.len, HTT.out.sgn⟩⟩

end Go.Proofs.YtpeganecbjefoaaDoor
