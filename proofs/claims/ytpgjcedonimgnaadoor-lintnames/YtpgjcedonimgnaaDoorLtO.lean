/- The statements' module of one function. -/
import Derived.Test.YtpgjcedonimgnaaDoorJAA
import Derived.Test.YtpgjcedonimgnaaDoorNdO
import Derived.Great.BuildSlice
namespace Go.Proofs.YtpgjcedonimgnaaDoor
open Go.RowKit

theorem wp_callA {o : Oper} {a : Act} {w : World} {K : Act → World → Prop} {Q : Exit → Act → World → Prop} {f : Nat} {xs : Array Operand} {ats : Array TypeId} (ho : o.op = .call { callee := .value (.func f), args := xs, argTypes := ats })
    (eg : ∀ args w, (callFunc f args).run Tryd.prog w = .ok (.enter f args) w) {vs : Array Value} (hv : xs.map a.eval = vs) {R : Value → World → Prop} (hc : Calls Tryd.prog f vs w fun e w' => ∃ u, e = .returned u ∧ R u w') (h : ∀ u w', R u w' → K (a.put o.dst u) w') : o.wp Tryd.prog a w K Q := by
  unfold Oper.wp execOp
  simp [ho, resolve, Deferred.ofValue, invoke, Act.eval, eg, Oper.upon]
  rw [hv]
  refine hc.mono ?_
  rintro e w' ⟨u, rfl, hR⟩
  exact h u w' hR
theorem wp_lnode {o : Oper} {a : Act} {w : World} {K : Act → World → Prop} {Q : Exit → Act → World → Prop} (k : Int) (s : ByteArray) (x : Operand) {ats : Array TypeId} (ho : o.op = .call { callee := .value (.func 18), args := #[.const (.int .u8 k), .const (.string s), x], argTypes := ats }) (a1 : Option Addr) (n c : Nat) (hx : a.eval x = .slice a1 n c)
    (h : ∀ w', Upd [] w w' → K (a.put o.dst (.agg #[.int .u8 k, .string s, .int .i64 0, .int .i64 0, .slice a1 n c])) w') : o.wp Tryd.prog a w K Q := by
  refine wp_callA ho Tryd.call18 (vs := #[.int .u8 k, .string s, .slice a1 n c]) ?_ (R := fun u w' => u = .agg #[.int .u8 k, .string s, .int .i64 0, .int .i64 0, .slice a1 n c] ∧ Upd [] w w') ((lnode_any k s a1 n c w).mono fun e w' ⟨he, hu⟩ => ⟨_, he, rfl, hu⟩) ?_
  · simp only [List.map_toArray, List.map_cons, List.map_nil, hx]
    rfl
  · rintro u w' ⟨rfl, hu⟩
    exact h w' hu
theorem info_nodeP : (Tryd.prog.info? 29).map (fun i => (i.zero, i.size, i.bytes)) = some (some (.agg #[.int .u8 0, .string ⟨#[]⟩, .int .i64 0, .int .i64 0, .slice none 0 0]), 5, 64) := by kernel_rfl
theorem info_partsN {P : Program} {t : TypeId} {z : Value} {sz bytes : Nat} (h : (P.info? t).map (fun i => (i.zero, i.size, i.bytes)) = some (some z, sz, bytes)) : ∃ i, P.info? t = some i ∧ i.zero = some z ∧ i.size = sz ∧ i.bytes = bytes := by
  cases hi : P.info? t with
  | none => rw [hi] at h; cases h
  | some i =>
    rw [hi] at h
    simp only [Option.map_some, Option.some.injEq, Prod.mk.injEq] at h
    exact ⟨i, rfl, h.1, h.2.1, h.2.2⟩
theorem wp_bs1 {o : Oper} {a : Act} {w : World} {K : Act → World → Prop} {Q : Exit → Act → World → Prop} (x : Operand) (ho : o.op = .buildSlice 27 1 #[(0, x)]) (k num p : Int) (s : ByteArray) (a1 : Option Addr) (n1 c1 : Nat) (hx : a.eval x = .agg #[.int .u8 k, .string s, .int .i64 num, .int .i64 p, .slice a1 n1 c1])
    (h : K (a.put o.dst (.slice (some ⟨w.heap.size, 0, none⟩) 1 1)) (w.alloc (.cells #[.int .u8 k, .string s, .int .i64 num, .int .i64 p, .slice a1 n1 c1] 29))) : o.wp Tryd.prog a w K Q := by
  obtain ⟨i0, hi, hz0, hz1, hz2⟩ := info_partsN info_nodeP
  have hr : (Instr.buildSlice 27 1 #[(0, .agg #[.int .u8 k, .string s, .int .i64 num, .int .i64 p, .slice a1 n1 c1])]).run Tryd.prog w = .ok (.slice (some ⟨w.heap.size, 0, none⟩) 1 1) (w.alloc (.cells #[.int .u8 k, .string s, .int .i64 num, .int .i64 p, .slice a1 n1 c1] 29)) := by
    refine run_buildSlice w 27 29 1 _ _ i0 _ Tryd.underlying27 hi hz0 (by rw [hz1]; decide) (by rw [hz1]; decide) ?_
    rw [hz1]
    kernel_rfl
  unfold Oper.wp execOp
  simp only [ho, Sem.run_bind, List.map_toArray, List.map_cons, List.map_nil, hx, hr, Result.andThen_ok]
  exact h
theorem wp_bs3 {o : Oper} {a : Act} {w : World} {K : Act → World → Prop} {Q : Exit → Act → World → Prop} (x y z : Operand) (ho : o.op = .buildSlice 27 3 #[(0, x), (1, y), (2, z)]) (b1 b2 : Nat) (hx : a.eval x = .agg #[.int .u8 19, .string ⟨#[]⟩, .int .i64 0, .int .i64 0, .slice (some ⟨b1, 0, none⟩) 1 1]) (hy : a.eval y = .agg #[.int .u8 19, .string ⟨#[]⟩, .int .i64 0, .int .i64 0, .slice none 0 0]) (hz : a.eval z = .agg #[.int .u8 19, .string ⟨#[]⟩, .int .i64 0, .int .i64 0, .slice (some ⟨b2, 0, none⟩) 1 1])
    (h : K (a.put o.dst (.slice (some ⟨w.heap.size, 0, none⟩) 3 3)) (w.alloc (.cells #[.int .u8 19, .string ⟨#[]⟩, .int .i64 0, .int .i64 0, .slice (some ⟨b1, 0, none⟩) 1 1, .int .u8 19, .string ⟨#[]⟩, .int .i64 0, .int .i64 0, .slice none 0 0, .int .u8 19, .string ⟨#[]⟩, .int .i64 0, .int .i64 0, .slice (some ⟨b2, 0, none⟩) 1 1] 29))) : o.wp Tryd.prog a w K Q := by
  obtain ⟨i0, hi, hz0, hz1, hz2⟩ := info_partsN info_nodeP
  have hr : (Instr.buildSlice 27 3 #[(0, .agg #[.int .u8 19, .string ⟨#[]⟩, .int .i64 0, .int .i64 0, .slice (some ⟨b1, 0, none⟩) 1 1]), (1, .agg #[.int .u8 19, .string ⟨#[]⟩, .int .i64 0, .int .i64 0, .slice none 0 0]), (2, .agg #[.int .u8 19, .string ⟨#[]⟩, .int .i64 0, .int .i64 0, .slice (some ⟨b2, 0, none⟩) 1 1])]).run Tryd.prog w = .ok (.slice (some ⟨w.heap.size, 0, none⟩) 3 3) (w.alloc (.cells #[.int .u8 19, .string ⟨#[]⟩, .int .i64 0, .int .i64 0, .slice (some ⟨b1, 0, none⟩) 1 1, .int .u8 19, .string ⟨#[]⟩, .int .i64 0, .int .i64 0, .slice none 0 0, .int .u8 19, .string ⟨#[]⟩, .int .i64 0, .int .i64 0, .slice (some ⟨b2, 0, none⟩) 1 1] 29)) := by
    refine run_buildSlice w 27 29 3 _ _ i0 _ Tryd.underlying27 hi hz0 (by rw [hz1]; decide) (by rw [hz1]; decide) ?_
    rw [hz1]
    kernel_rfl
  unfold Oper.wp execOp
  simp only [ho, Sem.run_bind, List.map_toArray, List.map_cons, List.map_nil, hx, hy, hz, hr, Result.andThen_ok]
  exact h
theorem wp_allocN {o : Oper} {a : Act} {w : World} {K : Act → World → Prop} {Q : Exit → Act → World → Prop} (ho : o.op = .alloc 29) (h : K (a.put o.dst (.pointer (some ⟨w.heap.size, 0, none⟩))) (w.alloc (.cells #[.int .u8 0, .string ⟨#[]⟩, .int .i64 0, .int .i64 0, .slice none 0 0] 29))) : o.wp Tryd.prog a w K Q := by
  have hz : (execOp a.eval o).run Tryd.prog w = .ok (.value (.pointer (some ⟨w.heap.size, 0, none⟩))) (w.alloc (.cells #[.int .u8 0, .string ⟨#[]⟩, .int .i64 0, .int .i64 0, .slice none 0 0] 29)) := by
    unfold execOp
    simp only [ho]
    kernel_rfl
  unfold Oper.wp
  rw [hz]
  exact h
/-- What the operations of the module's clause have put. -/
def OnR (lo : Nat) (Ev : Array Value) : Nat → Value → World → Prop
  | 0, v, _ => v = .agg #[.int .u8 3, .string ⟨#[88]⟩, .int .i64 0, .int .i64 0, .slice none 0 0]
  | 1, v, w' => ∃ b, v = .slice (some ⟨b, 0, none⟩) 1 1 ∧ lo ≤ b ∧ Tb w' b #[.int .u8 3, .string ⟨#[88]⟩, .int .i64 0, .int .i64 0, .slice none 0 0]
  | 2, v, w' => ∃ b, v = .agg #[.int .u8 19, .string ⟨#[]⟩, .int .i64 0, .int .i64 0, .slice (some ⟨b, 0, none⟩) 1 1] ∧ lo ≤ b ∧ Tb w' b #[.int .u8 3, .string ⟨#[88]⟩, .int .i64 0, .int .i64 0, .slice none 0 0]
  | 3, v, _ => v = .agg #[.int .u8 19, .string ⟨#[]⟩, .int .i64 0, .int .i64 0, .slice none 0 0]
  | 4, v, _ => v = .agg Ev
  | 5, v, w' => ∃ b, v = .slice (some ⟨b, 0, none⟩) 1 1 ∧ lo ≤ b ∧ Tb w' b Ev
  | 6, v, w' => ∃ b, v = .agg #[.int .u8 19, .string ⟨#[]⟩, .int .i64 0, .int .i64 0, .slice (some ⟨b, 0, none⟩) 1 1] ∧ lo ≤ b ∧ Tb w' b Ev
  | 7, v, w' => ∃ b b1 b2, v = .slice (some ⟨b, 0, none⟩) 3 3 ∧ lo ≤ b ∧ lo ≤ b1 ∧ lo ≤ b2 ∧ Tb w' b #[.int .u8 19, .string ⟨#[]⟩, .int .i64 0, .int .i64 0, .slice (some ⟨b1, 0, none⟩) 1 1, .int .u8 19, .string ⟨#[]⟩, .int .i64 0, .int .i64 0, .slice none 0 0, .int .u8 19, .string ⟨#[]⟩, .int .i64 0, .int .i64 0, .slice (some ⟨b2, 0, none⟩) 1 1] ∧ Tb w' b1 #[.int .u8 3, .string ⟨#[88]⟩, .int .i64 0, .int .i64 0, .slice none 0 0] ∧ Tb w' b2 Ev
  | 8, v, w' => ∃ b b1 b2, v = .agg #[.int .u8 20, .string ⟨#[]⟩, .int .i64 0, .int .i64 0, .slice (some ⟨b, 0, none⟩) 3 3] ∧ lo ≤ b ∧ lo ≤ b1 ∧ lo ≤ b2 ∧ Tb w' b #[.int .u8 19, .string ⟨#[]⟩, .int .i64 0, .int .i64 0, .slice (some ⟨b1, 0, none⟩) 1 1, .int .u8 19, .string ⟨#[]⟩, .int .i64 0, .int .i64 0, .slice none 0 0, .int .u8 19, .string ⟨#[]⟩, .int .i64 0, .int .i64 0, .slice (some ⟨b2, 0, none⟩) 1 1] ∧ Tb w' b1 #[.int .u8 3, .string ⟨#[88]⟩, .int .i64 0, .int .i64 0, .slice none 0 0] ∧ Tb w' b2 Ev
  | 9, v, w' => ∃ g, v = .pointer (some ⟨g, 0, none⟩) ∧ lo ≤ g ∧ Tb w' g #[.int .u8 0, .string ⟨#[]⟩, .int .i64 0, .int .i64 0, .slice none 0 0]
  | _, _, _ => True
theorem OnR.stab {lo : Nat} {Ev : Array Value} (j : Nat) (v : Value) (w w' : World) (h : OnR lo Ev j v w) (hu : Upd [] w w') : OnR lo Ev j v w' := by
  match j, h with
  | 0, h => exact h
  | 1, ⟨b, e, l, t⟩ => exact ⟨b, e, l, t.mono hu (by simp)⟩
  | 2, ⟨b, e, l, t⟩ => exact ⟨b, e, l, t.mono hu (by simp)⟩
  | 3, h => exact h
  | 4, h => exact h
  | 5, ⟨b, e, l, t⟩ => exact ⟨b, e, l, t.mono hu (by simp)⟩
  | 6, ⟨b, e, l, t⟩ => exact ⟨b, e, l, t.mono hu (by simp)⟩
  | 7, ⟨b, b1, b2, e, l, l1, l2, t, t1, t2⟩ => exact ⟨b, b1, b2, e, l, l1, l2, t.mono hu (by simp), t1.mono hu (by simp), t2.mono hu (by simp)⟩
  | 8, ⟨b, b1, b2, e, l, l1, l2, t, t1, t2⟩ => exact ⟨b, b1, b2, e, l, l1, l2, t.mono hu (by simp), t1.mono hu (by simp), t2.mono hu (by simp)⟩
  | 9, ⟨g, e, l, t⟩ => exact ⟨g, e, l, t.mono hu (by simp)⟩
  | _ + 10, _ => trivial
/-- The module of one function, as it stands in memory. -/
structure OneM (w : World) (lo b1 b2 b3 b4 b5 : Nat) (Ev : Array Value) : Prop where
  l : lo ≤ b1 ∧ lo ≤ b2 ∧ lo ≤ b3 ∧ lo ≤ b4 ∧ lo ≤ b5
  t1 : Tb w b1 #[.int .u8 3, .string ⟨#[88]⟩, .int .i64 0, .int .i64 0, .slice none 0 0]
  t2 : Tb w b2 Ev
  t3 : Tb w b3 #[.int .u8 19, .string ⟨#[]⟩, .int .i64 0, .int .i64 0, .slice (some ⟨b1, 0, none⟩) 1 1, .int .u8 19, .string ⟨#[]⟩, .int .i64 0, .int .i64 0, .slice none 0 0, .int .u8 19, .string ⟨#[]⟩, .int .i64 0, .int .i64 0, .slice (some ⟨b2, 0, none⟩) 1 1]
  t4 : Tb w b4 #[.int .u8 20, .string ⟨#[]⟩, .int .i64 0, .int .i64 0, .slice (some ⟨b3, 0, none⟩) 3 3]
  t5 : Tb w b5 #[.int .u8 21, .string ⟨#[102]⟩, .int .i64 1, .int .i64 0, .slice (some ⟨b4, 0, none⟩) 1 1]

set_option maxHeartbeats 4000000 in
set_option maxRecDepth 100000 in
theorem lone_any (ke ne pe : Int) (se : ByteArray) (ae : Option Addr) (le ce : Nat) (w : World) (hke : ke ≠ 0) : Calls Tryd.prog 17 #[.agg #[.int .u8 ke, .string se, .int .i64 ne, .int .i64 pe, .slice ae le ce]] w fun e w' => Upd [] w w' ∧ ∃ b1 b2 b3 b4 b5, e = .returned (.agg #[.int .u8 22, .string ⟨#[]⟩, .int .i64 0, .int .i64 0, .slice (some ⟨b5, 0, none⟩) 1 1]) ∧ OneM w' w.heap.size b1 b2 b3 b4 b5 #[.int .u8 ke, .string se, .int .i64 ne, .int .i64 pe, .slice ae le ce] := by
  go_enter Tryd.func17, Tryd.ntmps17
  go_wp2_with fail
  refine Calls.mono (lnode_any 3 ⟨#[88]⟩ none 0 0 _) ?_
  rintro e w1 ⟨rfl, h1⟩
  have hU1 : Upd [] w w1 := (((Upd.refl [] w).alloc _).alloc _).trans h1
  have tE1 : Tb w1 w.heap.size #[.int .u8 ke, .string se, .int .i64 ne, .int .i64 pe, .slice ae le ce] := ((Tb.new w #[.int .u8 ke, .string se, .int .i64 ne, .int .i64 pe, .slice ae le ce] _ rfl).old _).mono h1 (by simp)
  have tR1 : Tb w1 (w.heap.size + 1) #[.int .u8 0, .string ⟨#[]⟩, .int .i64 0, .int .i64 0, .slice none 0 0] := (Tb.new (w.alloc (.cells #[.int .u8 ke, .string se, .int .i64 ne, .int .i64 pe, .slice ae le ce] 29)) #[.int .u8 0, .string ⟨#[]⟩, .int .i64 0, .int .i64 0, .slice none 0 0] _ (by simp)).mono h1 (by simp)
  clear h1
  go_wp2_with fail
  obtain ⟨w2, hw2⟩ : ∃ w2, w2 = w1.alloc (.cells #[.int .u8 3, .string ⟨#[88]⟩, .int .i64 0, .int .i64 0, .slice none 0 0] 29) := ⟨_, rfl⟩
  have u12 : Upd [] w1 w2 := by rw [hw2]; exact (Upd.refl [] w1).alloc _
  have tX2 : Tb w2 w1.heap.size #[.int .u8 3, .string ⟨#[88]⟩, .int .i64 0, .int .i64 0, .slice none 0 0] := by rw [hw2]; exact Tb.new _ _ _ rfl
  have tE2 := tE1.mono u12 (by simp)
  have tR2 := tR1.mono u12 (by simp)
  have hU2 : Upd [] w w2 := hU1.trans u12
  have hs2 : w.heap.size + 1 < w2.heap.size := tR2.lt
  rw [← hw2]
  clear hw2 u12 tE1 tR1
  obtain ⟨fs, hdesc⟩ := term_desc
  refine region_last (by kernel_rfl) 10 rfl [some 6, some 7, some 8, some 9, some 10, some 11, some 12, some 13, some 14, some 4, none] rfl (by decide) rfl (by kernel_rfl) (by kernel_rfl) (OnR w2.heap.size #[.int .u8 ke, .string se, .int .i64 ne, .int .i64 pe, .slice ae le ce]) OnR.stab ?_ ?_
  · intro D vs a' w5 i o' hA hB hR hS hi ho haf
    have hs5 : w2.heap.size ≤ w5.heap.size := hB.size
    have hc : i = 0 ∨ i = 1 ∨ i = 2 ∨ i = 3 ∨ i = 4 ∨ i = 5 ∨ i = 6 ∨ i = 7 ∨ i = 8 ∨ i = 9 := by omega
    rcases hc with rfl | rfl | rfl | rfl | rfl | rfl | rfl | rfl | rfl | rfl <;> cases ho
    · exact ops_wp rfl rfl (wp_load_row 29 (.tmp 3) rfl w1.heap.size (hA.ev 3 (by decide)) 29 _ (0, 0) _ (tX2.mono hB (by simp)) hdesc rfl (by rw [info_term]; rfl) ⟨_, rfl, rfl, Upd.refl _ _⟩)
    · have D0 := haf ⟨0, .data⟩ (by simp) rfl
      exact ops_wp rfl rfl (wp_bs1 (.tmp 6) rfl _ _ _ _ _ _ _ ((hS 0 6 rfl D0).trans (hR 0 D0)) ⟨_, rfl, ⟨_, rfl, hs5, Tb.new _ _ _ rfl⟩, (Upd.refl [] w5).alloc _⟩)
    · have D1 := haf ⟨1, .data⟩ (by simp) rfl
      obtain ⟨b, e, hl, ht⟩ := hR 1 D1
      exact ops_wp rfl rfl (wp_lnode 19 ⟨#[]⟩ (.tmp 7) rfl _ _ _ ((hS 1 7 rfl D1).trans e) fun w6 hu => ⟨_, rfl, ⟨b, rfl, hl, ht.mono hu (by simp)⟩, hu⟩)
    · exact ops_wp rfl rfl (wp_lnode 19 ⟨#[]⟩ _ rfl none 0 0 rfl fun w6 hu => ⟨_, rfl, rfl, hu⟩)
    · exact ops_wp rfl rfl (wp_load_row 29 (.tmp 1) rfl w.heap.size (hA.ev 1 (by decide)) 29 _ (0, 0) _ (tE2.mono hB (by simp)) hdesc rfl (by rw [info_term]; rfl) ⟨_, rfl, rfl, Upd.refl _ _⟩)
    · have D4 := haf ⟨4, .data⟩ (by simp) rfl
      exact ops_wp rfl rfl (wp_bs1 (.tmp 10) rfl _ _ _ _ _ _ _ ((hS 4 10 rfl D4).trans (hR 4 D4)) ⟨_, rfl, ⟨_, rfl, hs5, Tb.new _ _ _ rfl⟩, (Upd.refl [] w5).alloc _⟩)
    · have D5 := haf ⟨5, .data⟩ (by simp) rfl
      obtain ⟨b, e, hl, ht⟩ := hR 5 D5
      exact ops_wp rfl rfl (wp_lnode 19 ⟨#[]⟩ (.tmp 11) rfl _ _ _ ((hS 5 11 rfl D5).trans e) fun w6 hu => ⟨_, rfl, ⟨b, rfl, hl, ht.mono hu (by simp)⟩, hu⟩)
    · have D2 := haf ⟨2, .data⟩ (by simp) rfl
      have D3 := haf ⟨3, .data⟩ (by simp) rfl
      have D6 := haf ⟨6, .data⟩ (by simp) rfl
      obtain ⟨b1, e1, hl1, ht1⟩ := hR 2 D2
      obtain ⟨b2, e2, hl2, ht2⟩ := hR 6 D6
      exact ops_wp rfl rfl (wp_bs3 (.tmp 8) (.tmp 9) (.tmp 12) rfl b1 b2 ((hS 2 8 rfl D2).trans e1) ((hS 3 9 rfl D3).trans (hR 3 D3)) ((hS 6 12 rfl D6).trans e2) ⟨_, rfl, ⟨_, b1, b2, rfl, hs5, hl1, hl2, Tb.new _ _ _ rfl, ht1.old _, ht2.old _⟩, (Upd.refl [] w5).alloc _⟩)
    · have D7 := haf ⟨7, .data⟩ (by simp) rfl
      obtain ⟨b, b1, b2, e, hl, hl1, hl2, ht, ht1, ht2⟩ := hR 7 D7
      exact ops_wp rfl rfl (wp_lnode 20 ⟨#[]⟩ (.tmp 13) rfl _ _ _ ((hS 7 13 rfl D7).trans e) fun w6 hu => ⟨_, rfl, ⟨b, b1, b2, rfl, hl, hl1, hl2, ht.mono hu (by simp), ht1.mono hu (by simp), ht2.mono hu (by simp)⟩, hu⟩)
    · exact ops_wp rfl rfl (wp_allocN rfl ⟨_, rfl, ⟨_, rfl, hs5, Tb.new _ _ _ rfl⟩, (Upd.refl [] w5).alloc _⟩)
  · intro vs a' w5 o' hv hA hB hR hS ho
    cases ho
    obtain ⟨b3, b1, b2, e8, hl3, hl1, hl2, ht3, ht1, ht2⟩ := hR 8 (by omega)
    obtain ⟨g, e9, hg, tg⟩ := hR 9 (by omega)
    refine ops_wp rfl rfl (wp_store_row 29 (.tmp 4) (.tmp 14) rfl g _ ((hS 9 4 rfl (by omega)).trans e9) ((hS 8 14 rfl (by omega)).trans e8) 29 #[.int .u8 0, .string ⟨#[]⟩, .int .i64 0, .int .i64 0, .slice none 0 0] tg (by rw [info_term]; rfl) rfl (by simp [Value.oneCell']) ⟨undef, rfl, ?_⟩)
    have hu5 := setRow_upd w5 g #[.int .u8 20, .string ⟨#[]⟩, .int .i64 0, .int .i64 0, .slice (some ⟨b3, 0, none⟩) 3 3]
    have t4 := setRow_tb tg #[.int .u8 20, .string ⟨#[]⟩, .int .i64 0, .int .i64 0, .slice (some ⟨b3, 0, none⟩) 3 3]
    have T3 : Tb (w5.setRow g #[.int .u8 20, .string ⟨#[]⟩, .int .i64 0, .int .i64 0, .slice (some ⟨b3, 0, none⟩) 3 3]) b3 #[.int .u8 19, .string ⟨#[]⟩, .int .i64 0, .int .i64 0, .slice (some ⟨b1, 0, none⟩) 1 1, .int .u8 19, .string ⟨#[]⟩, .int .i64 0, .int .i64 0, .slice none 0 0, .int .u8 19, .string ⟨#[]⟩, .int .i64 0, .int .i64 0, .slice (some ⟨b2, 0, none⟩) 1 1] := ht3.mono hu5 (by simp; exact fun e => by subst e; have := ht3.symm.trans tg; cases this)
    have T1 : Tb (w5.setRow g #[.int .u8 20, .string ⟨#[]⟩, .int .i64 0, .int .i64 0, .slice (some ⟨b3, 0, none⟩) 3 3]) b1 #[.int .u8 3, .string ⟨#[88]⟩, .int .i64 0, .int .i64 0, .slice none 0 0] := ht1.mono hu5 (by simp; exact fun e => by subst e; have := ht1.symm.trans tg; cases this)
    have T2 : Tb (w5.setRow g #[.int .u8 20, .string ⟨#[]⟩, .int .i64 0, .int .i64 0, .slice (some ⟨b3, 0, none⟩) 3 3]) b2 #[.int .u8 ke, .string se, .int .i64 ne, .int .i64 pe, .slice ae le ce] := ht2.mono hu5 (by simp; exact fun e => by subst e; have e := ht2.symm.trans tg; simp only [Option.some.injEq, Obj.cells.injEq] at e; have e2 := congrArg (fun (x : Array Value) => x[0]?) e.1; simp at e2; exact hke e2)
    have hU5 : Upd [] w (w5.setRow g #[.int .u8 20, .string ⟨#[]⟩, .int .i64 0, .int .i64 0, .slice (some ⟨b3, 0, none⟩) 3 3]) := (hU2.trans hB).then hu5 (by simp; omega)
    have h26 : w2.heap.size ≤ (w5.setRow g #[.int .u8 20, .string ⟨#[]⟩, .int .i64 0, .int .i64 0, .slice (some ⟨b3, 0, none⟩) 3 3]).heap.size := Nat.le_trans hB.size hu5.size
    have TR : Tb (w5.setRow g #[.int .u8 20, .string ⟨#[]⟩, .int .i64 0, .int .i64 0, .slice (some ⟨b3, 0, none⟩) 3 3]) (w.heap.size + 1) #[.int .u8 0, .string ⟨#[]⟩, .int .i64 0, .int .i64 0, .slice none 0 0] := (tR2.mono hB (by simp)).mono hu5 (by simp; omega)
    obtain ⟨w6, hw6⟩ : ∃ w6, w6 = w5.setRow g #[.int .u8 20, .string ⟨#[]⟩, .int .i64 0, .int .i64 0, .slice (some ⟨b3, 0, none⟩) 3 3] := ⟨_, rfl⟩
    rw [← hw6] at t4 T3 T1 T2 hU5 TR h26 ⊢
    obtain ⟨v0, r0, rfl, hv0⟩ := list_cons hv
    obtain ⟨v1, r1, rfl, hv1⟩ := list_cons hv0
    obtain ⟨v2, r2, rfl, hv2⟩ := list_cons hv1
    obtain ⟨v3, r3, rfl, hv3⟩ := list_cons hv2
    obtain ⟨v4, r4, rfl, hv4⟩ := list_cons hv3
    obtain ⟨v5, r5, rfl, hv5⟩ := list_cons hv4
    obtain ⟨v6, r6, rfl, hv6⟩ := list_cons hv5
    obtain ⟨v7, r7, rfl, hv7⟩ := list_cons hv6
    obtain ⟨v8, r8, rfl, hv8⟩ := list_cons hv7
    obtain ⟨v9, r9, rfl, hv9⟩ := list_cons hv8
    obtain ⟨v10, r10, rfl, hv10⟩ := list_cons hv9
    have e9' : v9 = .pointer (some ⟨g, 0, none⟩) := e9
    subst e9'
    clear hw6 hR hS hA hB tE2 tR2 tX2 ht1 ht2 ht3 tg hu5
    simp only [List.set_cons_succ, List.set_cons_zero, putAll, Act.put, List.setIfInBounds_toArray]
    go_wp2_with (first | (refine load_T _ rfl _ rfl _ _ rfl t4 rfl ?_) | fail)
    refine Calls.mono (lnode_any 22 ⟨#[]⟩ _ 1 1 _) ?_
    rintro e w7 ⟨rfl, h7⟩
    have u67 : Upd [] w6 w7 := (((Upd.refl [] w6).alloc _).alloc _).trans h7
    have s4 : Tb w7 w6.heap.size #[.int .u8 20, .string ⟨#[]⟩, .int .i64 0, .int .i64 0, .slice (some ⟨b3, 0, none⟩) 3 3] := ((Tb.new w6 #[.int .u8 20, .string ⟨#[]⟩, .int .i64 0, .int .i64 0, .slice (some ⟨b3, 0, none⟩) 3 3] _ rfl).old _).mono h7 (by simp)
    have s5 : Tb w7 (w6.heap.size + 1) #[.int .u8 21, .string ⟨#[102]⟩, .int .i64 1, .int .i64 0, .slice (some ⟨w6.heap.size, 0, none⟩) 1 1] := (Tb.new (w6.alloc (.cells #[.int .u8 20, .string ⟨#[]⟩, .int .i64 0, .int .i64 0, .slice (some ⟨b3, 0, none⟩) 3 3] 29)) _ _ (by simp)).mono h7 (by simp)
    have s1 := T1.mono u67 (by simp)
    have s2 := T2.mono u67 (by simp)
    have s3 := T3.mono u67 (by simp)
    have sR := TR.mono u67 (by simp)
    have hU7 := hU5.trans u67
    have hz6 := hU5.size
    clear h7 u67 t4 TR T1 T2 T3 hU5
    go_wp2_with (first | (refine store_T _ rfl _ _ rfl _ _ _ rfl rfl sR rfl rfl (by simp [Value.oneCell']) ?_; intro w8 tR8 u8) | fail)
    have hne : ∀ b, w2.heap.size ≤ b → b ∉ [w.heap.size + 1] := fun b hb => by simp; omega
    have h6 := h26
    refine ret_T Tryd.results17 rfl _ _ rfl tR8 rfl ⟨hU7.then u8 (by simp), b1, b2, b3, w6.heap.size, w6.heap.size + 1, rfl, ⟨by omega, s1.mono u8 (hne _ hl1), s2.mono u8 (hne _ hl2), s3.mono u8 (hne _ hl3), s4.mono u8 (hne _ h6), s5.mono u8 (hne _ (by omega))⟩⟩

end Go.Proofs.YtpgjcedonimgnaaDoor
