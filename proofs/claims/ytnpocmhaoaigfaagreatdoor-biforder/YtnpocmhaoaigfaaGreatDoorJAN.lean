/- Regions that draw their order: the last operation waits for all others. -/
import Derived.Test.YtnpocmhaoaigfaaGreatDoorJAM
import Derived.Test.YtnpocmhaoaigfaaGreatDoorJAK
import Derived.Great.BuildSlice

namespace Go.Proofs.YtnpocmhaoaigfaaGreatDoor
open Go.RowKit

theorem set_true {L : List Bool} {i k : Nat} (hi : i < L.length) : (L.set i true)[k]? = some true ↔ k = i ∨ L[k]? = some true := by
  by_cases e : i = k
  · subst e
    rw [List.getElem?_set_self hi]
    simp
  · rw [List.getElem?_set_ne e]
    constructor
    · exact fun h => Or.inr h
    · rintro (h | h)
      · exact absurd h.symm e
      · exact h

/-- The last operation waits for each other one. -/
def lastOps (ops : Array Oper) (n : Nat) : Bool := (List.range n).all fun j => ((ops[n]?).map fun o => o.after.any fun e => Region.binds .any e && e.on == j).getD false

theorem region_last {rid : Nat} {ops : Array Oper} {Q : Exit → Act → World → Prop} {a0 : Act} {w0 : World} (hm : Tryz.prog.follows .mixedOrders = true) (n : Nat) (hn : ops.size = n + 1) (ds : List (Option Nat)) (hds : ops.toList.map (·.dst) = ds)
    (hd : ds.Pairwise fun a b => a = none ∨ a ≠ b) (hz : (ds.all fun o => o.all fun d => decide (d < a0.tmps.size)) = true) (hlow : lowOps ops = true) (hla : lastOps ops n = true)
    (Res : Nat → Value → World → Prop) (hstab : ∀ j v w w', Res j v w → Upd [] w w' → Res j v w')
    (hstep : ∀ (D : Nat → Prop) (vs : List Value) a w i o, Agr (ds.filterMap id) a0 a → Upd [] w0 w → (∀ j, D j → Res j (vs.getD j undef) w) → (∀ j d, ds[j]? = some (some d) → D j → a.tmps.getD d undef = vs.getD j undef) → i < n → ops[i]? = some o → (∀ e ∈ o.after, Region.binds .any e = true → D e.on) →
      wpOp Tryz.prog ops Q i (fun a' w' => ∃ v, a' = a.put o.dst v ∧ Res i v w' ∧ Upd [] w w') a w)
    (hlast : ∀ (vs : List Value) a w o, vs.length = n + 1 → Agr (ds.filterMap id) a0 a → Upd [] w0 w → (∀ j, j < n → Res j (vs.getD j undef) w) → (∀ j d, ds[j]? = some (some d) → j < n → a.tmps.getD d undef = vs.getD j undef) → ops[n]? = some o →
      wpOp Tryz.prog ops Q n (fun a' w' => ∃ v, a' = a.put o.dst v ∧ Q .normal (putAll a0 ds (vs.set n v)) w') a w) :
    (Code.region rid ops true).wp Tryz.prog Q a0 w0 := by
  refine region_inv hm (n + 1) hn ds hds hd hz hlow (fun L vs w => (L.length = n + 1 ∧ vs.length = n + 1) ∧ ((L[n]? = some false ∧ Upd [] w0 w ∧ ∀ j, L[j]? = some true → Res j (vs.getD j undef) w) ∨ ((∀ j, j < n + 1 → L[j]? = some true) ∧ Q .normal (putAll a0 ds vs) w))) ⟨⟨by simp, by simp⟩, Or.inl ⟨List.getElem?_replicate_of_lt (by omega), (Upd.refl [] w0).drew, fun j hj => ?_⟩⟩ ?_ ?_
  · rw [List.getElem?_replicate] at hj
    split at hj <;> cases hj
  · rintro L vs a w i o hL hv hS ⟨_, hI⟩ hun ho haf
    have hin : i < n + 1 := by rw [← hn]; exact (Array.getElem?_eq_some_iff.1 ho).1
    have hall : i = n → ∀ j, j < n → L[j]? = some true := fun e j hj => by
      subst e
      have h1 := List.all_eq_true.1 hla j (List.mem_range.2 hj)
      rw [ho] at h1
      simp only [Option.map_some, Option.getD_some] at h1
      obtain ⟨x, hx, hb⟩ := Array.any_eq_true'.1 h1
      simp only [Bool.and_eq_true, beq_iff_eq] at hb
      have := haf x hx hb.1
      rwa [hb.2] at this
    rcases hI with ⟨hf, hU, hR⟩ | ⟨ht, _⟩
    · by_cases e : i = n
      · have hA := hall e
        subst e
        refine wpOp_mono ?_ (hlast vs a w o hv hS.agr hU (fun j hj => hR j (hA j hj)) (fun j d hj hjn => hS.at' j d hj (hA j hjn)) ho)
        rintro a' w' ⟨v, ha, hq⟩
        refine ⟨v, ha, ⟨by simpa using hL, by simpa using hv⟩, Or.inr ⟨fun j hj => ?_, hq⟩⟩
        by_cases e : j = i
        · exact (set_true (by omega)).2 (Or.inl e)
        · exact (set_true (by omega)).2 (Or.inr (hA j (by omega)))
      · refine wpOp_mono ?_ (hstep (fun j => L[j]? = some true) vs a w i o hS.agr hU hR hS.at' (by omega) ho haf)
        rintro a' w' ⟨v, ha, hr, hu⟩
        refine ⟨v, ha, ⟨by simpa using hL, by simpa using hv⟩, Or.inl ⟨by rw [List.getElem?_set_ne e]; exact hf, hU.trans hu, fun j hj => ?_⟩⟩
        by_cases e2 : i = j
        · subst e2
          rw [List.getD_eq_getElem?_getD, List.getElem?_set_self (by omega)]
          exact hr
        · rw [List.getElem?_set_ne e2] at hj
          have := hstab j _ w w' (hR j hj) hu
          rw [List.getD_eq_getElem?_getD, List.getElem?_set_ne e2, ← List.getD_eq_getElem?_getD]
          exact this
    · exfalso
      rw [ht i hin] at hun
      cases hun
  · rintro vs w hv ⟨_, ⟨hf, _⟩ | ⟨_, hq⟩⟩
    · rw [List.getElem?_replicate_of_lt (by omega)] at hf; cases hf
    · exact hq

/-- Does an operation wait for another one, by whatever way? -/
def reachB (ops : Array Oper) : Nat → Nat → Nat → Bool
  | 0, _, _ => false
  | fuel + 1, i, j => ((ops[i]?).map fun o => o.after.any fun e => Region.binds .any e && (e.on == j || reachB ops fuel e.on j)).getD false
def lastT (ops : Array Oper) (n : Nat) : Bool := (List.range n).all fun j => reachB ops (n + 1) n j
theorem reach_done {ops : Array Oper} {L : List Bool} (hcl : ∀ (j : Nat) (o' : Oper), L[j]? = some true → ops[j]? = some o' → ∀ e ∈ o'.after, Region.binds .any e = true → L[e.on]? = some true) :
    ∀ (fuel i j : Nat) (o : Oper), ops[i]? = some o → (∀ e ∈ o.after, Region.binds .any e = true → L[e.on]? = some true) → reachB ops fuel i j = true → L[j]? = some true := by
  intro fuel
  induction fuel with
  | zero => intro i j o ho hd h; cases h
  | succ fuel ih =>
    intro i j o ho hd h
    rw [reachB, ho] at h
    simp only [Option.map_some, Option.getD_some] at h
    obtain ⟨e, he, hb⟩ := Array.any_eq_true'.1 h
    simp only [Bool.and_eq_true, Bool.or_eq_true, beq_iff_eq] at hb
    have hon := hd e he hb.1
    rcases hb.2 with rfl | hr
    · exact hon
    · cases fuel with
      | zero => cases hr
      | succ m =>
        cases ho' : ops[e.on]? with
        | none => rw [reachB, ho'] at hr; simp at hr
        | some o' => exact ih e.on j o' ho' (fun e' he' hb' => hcl e.on o' hon ho' e' he' hb') hr

theorem region_lastT {rid : Nat} {ops : Array Oper} {Q : Exit → Act → World → Prop} {a0 : Act} {w0 : World} (hm : Tryz.prog.follows .mixedOrders = true) (n : Nat) (hn : ops.size = n + 1) (ds : List (Option Nat)) (hds : ops.toList.map (·.dst) = ds)
    (hd : ds.Pairwise fun a b => a = none ∨ a ≠ b) (hz : (ds.all fun o => o.all fun d => decide (d < a0.tmps.size)) = true) (hlow : lowOps ops = true) (hla : lastT ops n = true)
    (Res : Nat → Value → World → Prop) (hstab : ∀ j v w w', Res j v w → Upd [] w w' → Res j v w')
    (hstep : ∀ (D : Nat → Prop) (vs : List Value) a w i o, Agr (ds.filterMap id) a0 a → Upd [] w0 w → (∀ j, D j → Res j (vs.getD j undef) w) → (∀ j d, ds[j]? = some (some d) → D j → a.tmps.getD d undef = vs.getD j undef) → i < n → ops[i]? = some o → (∀ e ∈ o.after, Region.binds .any e = true → D e.on) →
      wpOp Tryz.prog ops Q i (fun a' w' => ∃ v, a' = a.put o.dst v ∧ Res i v w' ∧ Upd [] w w') a w)
    (hlast : ∀ (vs : List Value) a w o, vs.length = n + 1 → Agr (ds.filterMap id) a0 a → Upd [] w0 w → (∀ j, j < n → Res j (vs.getD j undef) w) → (∀ j d, ds[j]? = some (some d) → j < n → a.tmps.getD d undef = vs.getD j undef) → ops[n]? = some o →
      wpOp Tryz.prog ops Q n (fun a' w' => ∃ v, a' = a.put o.dst v ∧ Q .normal (putAll a0 ds (vs.set n v)) w') a w) :
    (Code.region rid ops true).wp Tryz.prog Q a0 w0 := by
  refine region_inv hm (n + 1) hn ds hds hd hz hlow (fun L vs w => ((L.length = n + 1 ∧ vs.length = n + 1) ∧ ∀ (j : Nat) (o' : Oper), L[j]? = some true → ops[j]? = some o' → ∀ e ∈ o'.after, Region.binds .any e = true → L[e.on]? = some true) ∧ ((L[n]? = some false ∧ Upd [] w0 w ∧ ∀ j, L[j]? = some true → Res j (vs.getD j undef) w) ∨ ((∀ j, j < n + 1 → L[j]? = some true) ∧ Q .normal (putAll a0 ds vs) w))) ⟨⟨⟨by simp, by simp⟩, fun j _ hj => ?_⟩, Or.inl ⟨List.getElem?_replicate_of_lt (by omega), (Upd.refl [] w0).drew, fun j hj => ?_⟩⟩ ?_ ?_
  · rw [List.getElem?_replicate] at hj
    split at hj <;> cases hj
  · rw [List.getElem?_replicate] at hj
    split at hj <;> cases hj
  · rintro L vs a w i o hL hv hS ⟨⟨_, hcl⟩, hI⟩ hun ho haf
    have hin : i < n + 1 := by rw [← hn]; exact (Array.getElem?_eq_some_iff.1 ho).1
    have hcl' : ∀ (j : Nat) (o' : Oper), (L.set i true)[j]? = some true → ops[j]? = some o' → ∀ e ∈ o'.after, Region.binds .any e = true → (L.set i true)[e.on]? = some true := fun j o' hj ho' e he hb => by
      rw [set_true (by omega)]
      right
      rcases (set_true (by omega)).1 hj with rfl | h
      · rw [ho] at ho'
        cases ho'
        exact haf e he hb
      · exact hcl j o' h ho' e he hb
    have hall : i = n → ∀ j, j < n → L[j]? = some true := fun e j hj => by
      subst e
      exact reach_done hcl (i + 1) i j o ho haf (List.all_eq_true.1 hla j (List.mem_range.2 hj))
    rcases hI with ⟨hf, hU, hR⟩ | ⟨ht, _⟩
    · by_cases e : i = n
      · have hA := hall e
        subst e
        refine wpOp_mono ?_ (hlast vs a w o hv hS.agr hU (fun j hj => hR j (hA j hj)) (fun j d hj hjn => hS.at' j d hj (hA j hjn)) ho)
        rintro a' w' ⟨v, ha, hq⟩
        refine ⟨v, ha, ⟨⟨by simpa using hL, by simpa using hv⟩, hcl'⟩, Or.inr ⟨fun j hj => ?_, hq⟩⟩
        by_cases e : j = i
        · exact (set_true (by omega)).2 (Or.inl e)
        · exact (set_true (by omega)).2 (Or.inr (hA j (by omega)))
      · refine wpOp_mono ?_ (hstep (fun j => L[j]? = some true) vs a w i o hS.agr hU hR hS.at' (by omega) ho haf)
        rintro a' w' ⟨v, ha, hr, hu⟩
        refine ⟨v, ha, ⟨⟨by simpa using hL, by simpa using hv⟩, hcl'⟩, Or.inl ⟨by rw [List.getElem?_set_ne e]; exact hf, hU.trans hu, fun j hj => ?_⟩⟩
        by_cases e2 : i = j
        · subst e2
          rw [List.getD_eq_getElem?_getD, List.getElem?_set_self (by omega)]
          exact hr
        · rw [List.getElem?_set_ne e2] at hj
          have := hstab j _ w w' (hR j hj) hu
          rw [List.getD_eq_getElem?_getD, List.getElem?_set_ne e2, ← List.getD_eq_getElem?_getD]
          exact this
    · exfalso
      rw [ht i hin] at hun
      cases hun
  · rintro vs w hv ⟨_, ⟨hf, _⟩ | ⟨_, hq⟩⟩
    · rw [List.getElem?_replicate_of_lt (by omega)] at hf; cases hf
    · exact hq
theorem ops_wpG {P : Program} {ops : Array Oper} {Q : Exit → Act → World → Prop} {i : Nat} {K : Act → World → Prop} {a : Act} {w : World} {o : Oper} (ho : ops[i]? = some o) (hg : Region.wanted o (yielded ops a.tmps) = true) (h : o.wp P a w K Q) : wpOp P ops Q i K a w := by
  unfold wpOp
  simp only [ho, hg, if_true]
  exact Or.inl h
theorem ops_skip {P : Program} {ops : Array Oper} {Q : Exit → Act → World → Prop} {i : Nat} {K : Act → World → Prop} {a : Act} {w : World} {o : Oper} (ho : ops[i]? = some o) (hg : Region.wanted o (yielded ops a.tmps) = false) (h : K (a.put o.dst undef) w) : wpOp P ops Q i K a w := by
  unfold wpOp
  simp only [ho, hg, Bool.false_eq_true, if_false]
  exact h

theorem wanted_of {ops : Array Oper} {o : Oper} {j d : Nat} {want b : Bool} {tmps : Array Value} (hg : o.guard = some (j, want)) (hd : (ops[j]?).bind (·.dst) = some d) (hv : tmps.getD d undef = .bool b) : Region.wanted o (yielded ops tmps) = (b == want) := by
  have h1 : tmps[d]? = some (.bool b) := by
    rw [Array.getD_eq_getD_getElem?] at hv
    cases ht : tmps[d]? with
    | none => rw [ht] at hv; cases hv
    | some v => rw [ht] at hv; simp at hv; rw [hv]
  unfold Region.wanted yielded
  rw [hg]
  simp only [hd, Option.bind_some, h1]
  cases b <;> cases want <;> rfl

theorem wp_callA {o : Oper} {a : Act} {w : World} {K : Act → World → Prop} {Q : Exit → Act → World → Prop} {f : Nat} {xs : Array Operand} {ats : Array TypeId} (ho : o.op = .call { callee := .value (.func f), args := xs, argTypes := ats })
    (eg : ∀ args w, (callFunc f args).run Tryz.prog w = .ok (.enter f args) w) {vs : Array Value} (hv : xs.map a.eval = vs) {R : Value → World → Prop} (hc : Calls Tryz.prog f vs w fun e w' => ∃ u, e = .returned u ∧ R u w') (h : ∀ u w', R u w' → K (a.put o.dst u) w') : o.wp Tryz.prog a w K Q := by
  unfold Oper.wp execOp
  simp [ho, resolve, Deferred.ofValue, invoke, Act.eval, eg, Oper.upon]
  rw [hv]
  refine hc.mono ?_
  rintro e w' ⟨u, rfl, hR⟩
  exact h u w' hR
theorem wp_move {o : Oper} {a : Act} {w : World} {K : Act → World → Prop} {Q : Exit → Act → World → Prop} (x : Operand) (ho : o.op = .move x) (v : Value) (hx : a.eval x = v) (h : K (a.put o.dst v) w) : o.wp Tryz.prog a w K Q := by
  refine wp_pure ?_ h
  unfold execOp
  simp only [ho, hx]
  rfl
theorem info_partsN {P : Program} {t : TypeId} {z : Value} {sz bytes : Nat} (h : (P.info? t).map (fun i => (i.zero, i.size, i.bytes)) = some (some z, sz, bytes)) : ∃ i, P.info? t = some i ∧ i.zero = some z ∧ i.size = sz ∧ i.bytes = bytes := by
  cases hi : P.info? t with
  | none => rw [hi] at h; cases h
  | some i =>
    rw [hi] at h
    simp only [Option.map_some, Option.some.injEq, Prod.mk.injEq] at h
    exact ⟨i, rfl, h.1, h.2.1, h.2.2⟩
theorem wp_bs2 {o : Oper} {a : Act} {w : World} {K : Act → World → Prop} {Q : Exit → Act → World → Prop} (x y : Operand) (ho : o.op = .buildSlice 24 2 #[(0, x), (1, y)]) (k1 num1 : Int) (neg1 : Bool) (s1 : ByteArray) (a11 a12 a13 : Option Addr) (n11 n12 n13 c11 c12 c13 : Nat) (k2 num2 : Int) (neg2 : Bool) (s2 : ByteArray) (a21 a22 a23 : Option Addr) (n21 n22 n23 c21 c22 c23 : Nat) (hx : a.eval x = .agg #[.int .u8 k1, .bool neg1, .slice a11 n11 c11, .string s1, .int .i64 num1, .slice a12 n12 c12, .slice a13 n13 c13]) (hy : a.eval y = .agg #[.int .u8 k2, .bool neg2, .slice a21 n21 c21, .string s2, .int .i64 num2, .slice a22 n22 c22, .slice a23 n23 c23])
    (h : K (a.put o.dst (.slice (some ⟨w.heap.size, 0, none⟩) 2 2)) (w.alloc (.cells #[.int .u8 k1, .bool neg1, .slice a11 n11 c11, .string s1, .int .i64 num1, .slice a12 n12 c12, .slice a13 n13 c13, .int .u8 k2, .bool neg2, .slice a21 n21 c21, .string s2, .int .i64 num2, .slice a22 n22 c22, .slice a23 n23 c23] 26))) : o.wp Tryz.prog a w K Q := by
  obtain ⟨i0, hi, hz0, hz1, hz2⟩ := info_partsN info_termP
  have hr : (Instr.buildSlice 24 2 #[(0, .agg #[.int .u8 k1, .bool neg1, .slice a11 n11 c11, .string s1, .int .i64 num1, .slice a12 n12 c12, .slice a13 n13 c13]), (1, .agg #[.int .u8 k2, .bool neg2, .slice a21 n21 c21, .string s2, .int .i64 num2, .slice a22 n22 c22, .slice a23 n23 c23])]).run Tryz.prog w = .ok (.slice (some ⟨w.heap.size, 0, none⟩) 2 2) (w.alloc (.cells #[.int .u8 k1, .bool neg1, .slice a11 n11 c11, .string s1, .int .i64 num1, .slice a12 n12 c12, .slice a13 n13 c13, .int .u8 k2, .bool neg2, .slice a21 n21 c21, .string s2, .int .i64 num2, .slice a22 n22 c22, .slice a23 n23 c23] 26)) := by
    refine run_buildSlice w 24 26 2 _ _ i0 _ Tryz.underlying24 hi hz0 (by rw [hz1]; decide) (by rw [hz1]; decide) ?_
    rw [hz1]
    kernel_rfl
  unfold Oper.wp execOp
  simp only [ho, Sem.run_bind, List.map_toArray, List.map_cons, List.map_nil, hx, hy, hr, Result.andThen_ok]
  exact h
end Go.Proofs.YtnpocmhaoaigfaaGreatDoor

/- failure of package bif. -/
namespace Go.Proofs.YtnpocmhaoaigfaaGreatDoor
open Go.RowKit

set_option maxHeartbeats 1000000 in
set_option maxRecDepth 100000 in
theorem row_any (kind : Int) (a : Option Addr) (n c : Nat) (w : World) (hn : 0 < n) : Calls Tryz.prog 46 #[.int .u8 kind, .slice a n c] w fun e w' => e = .returned (.agg #[.int .u8 kind, .bool false, .slice none 0 0, .string ⟨#[]⟩, .int .i64 0, .slice a n c, .slice none 0 0]) ∧ Upd [] w w' := by
  have tbz : Tb (w.alloc (.cells #[.int .u8 0, .bool false, .slice none 0 0, .string ⟨#[]⟩, .int .i64 0, .slice none 0 0, .slice none 0 0] 26)) w.heap.size #[.int .u8 0, .bool false, .slice none 0 0, .string ⟨#[]⟩, .int .i64 0, .slice none 0 0, .slice none 0 0] := Tb.new _ _ _ rfl
  have h0 : ((n : Int) == 0) = false := by simp; omega
  clear hn
  go_enter Tryz.func46, Tryz.ntmps46
  go_wp2_with (refine store_V _ rfl _ _ rfl _ _ _ _ _ _ _ _ _ _ _ _ _ _ _ rfl rfl tbz rfl ?_; intro w2 hT2 hU2)
  exact ret_T Tryz.results46 rfl _ _ rfl hT2 rfl ⟨rfl, ((Upd.refl [] w).alloc _).then hU2 (by simp)⟩

/-- What the operations of failure's tuple have put. -/
def FlR (lo : Nat) (s why : ByteArray) : Nat → Value → World → Prop
  | 0, v, _ => v = .string s
  | 1, v, _ => v = .agg #[.int .u8 2, .bool false, .slice none 0 0, .string s, .int .i64 0, .slice none 0 0, .slice none 0 0]
  | 2, v, _ => v = .agg #[.int .u8 2, .bool false, .slice none 0 0, .string why, .int .i64 0, .slice none 0 0, .slice none 0 0]
  | 3, v, w' => ∃ b, v = .slice (some ⟨b, 0, none⟩) 2 2 ∧ lo ≤ b ∧ Tb w' b #[.int .u8 2, .bool false, .slice none 0 0, .string s, .int .i64 0, .slice none 0 0, .slice none 0 0, .int .u8 2, .bool false, .slice none 0 0, .string why, .int .i64 0, .slice none 0 0, .slice none 0 0]
  | 4, v, w' => ∃ b, v = .agg #[.int .u8 6, .bool false, .slice none 0 0, .string ⟨#[]⟩, .int .i64 0, .slice (some ⟨b, 0, none⟩) 2 2, .slice none 0 0] ∧ lo ≤ b ∧ Tb w' b #[.int .u8 2, .bool false, .slice none 0 0, .string s, .int .i64 0, .slice none 0 0, .slice none 0 0, .int .u8 2, .bool false, .slice none 0 0, .string why, .int .i64 0, .slice none 0 0, .slice none 0 0]
  | 5, v, w' => ∃ g, v = .pointer (some ⟨g, 0, none⟩) ∧ lo ≤ g ∧ Tb w' g #[.int .u8 0, .bool false, .slice none 0 0, .string ⟨#[]⟩, .int .i64 0, .slice none 0 0, .slice none 0 0]
  | _, _, _ => True
theorem FlR.stab {lo : Nat} {s why : ByteArray} (j : Nat) (v : Value) (w w' : World) (h : FlR lo s why j v w) (hu : Upd [] w w') : FlR lo s why j v w' := by
  match j, h with
  | 0, h => exact h
  | 1, h => exact h
  | 2, h => exact h
  | 3, ⟨b, e, l, t⟩ => exact ⟨b, e, l, t.mono hu (by simp)⟩
  | 4, ⟨b, e, l, t⟩ => exact ⟨b, e, l, t.mono hu (by simp)⟩
  | 5, ⟨g, e, l, t⟩ => exact ⟨g, e, l, t.mono hu (by simp)⟩
  | _ + 6, _ => trivial

/-- The error of a class and a reason that is an atom. -/
def errT (s why : ByteArray) : Tm := tmU [tmA s, tmA why]

set_option maxHeartbeats 4000000 in
set_option maxRecDepth 100000 in
theorem failure_any (s why : ByteArray) (D : Nat) (w : World) (hok : okS (errT s why) = true) :
    Calls Tryz.prog 25 #[.string s, .agg #[.int .u8 2, .bool false, .slice none 0 0, .string why, .int .i64 0, .slice none 0 0, .slice none 0 0]] w (OneQ 0 (D + 2) (fun t => t = errT s why) w) := by
  have HOK : Hid (okS (errT s why) = true) := hok
  clear hok
  go_enter Tryz.func25, Tryz.ntmps25
  go_wp2_with fail
  obtain ⟨w2, hw2⟩ : ∃ w2, w2 = (w.alloc (.cells #[.int .u8 2, .bool false, .slice none 0 0, .string why, .int .i64 0, .slice none 0 0, .slice none 0 0] 26)).alloc (.cells #[.int .u8 0, .bool false, .slice none 0 0, .string ⟨#[]⟩, .int .i64 0, .slice none 0 0, .slice none 0 0] 26) := ⟨_, rfl⟩
  have hU2 : Upd [] w w2 := by rw [hw2]; exact ((Upd.refl [] w).alloc _).alloc _
  have tR : Tb w2 w.heap.size #[.int .u8 2, .bool false, .slice none 0 0, .string why, .int .i64 0, .slice none 0 0, .slice none 0 0] := by rw [hw2]; exact (Tb.new _ _ _ rfl).old _
  have tZ : Tb w2 (w.heap.size + 1) #[.int .u8 0, .bool false, .slice none 0 0, .string ⟨#[]⟩, .int .i64 0, .slice none 0 0, .slice none 0 0] := by rw [hw2]; exact Tb.new _ _ _ (by simp)
  have hs2 : w.heap.size + 1 < w2.heap.size := tZ.lt
  rw [← hw2]
  clear hw2
  obtain ⟨fs, hdesc⟩ := term_desc
  refine region_last (by kernel_rfl) 6 rfl [some 6, some 7, some 8, some 9, some 10, some 5, none] rfl (by decide) rfl (by kernel_rfl) (by kernel_rfl) (FlR w2.heap.size s why) FlR.stab ?_ ?_
  · intro D vs a' w5 i o' hA hB hR hS hi ho haf
    have hs5 : w2.heap.size ≤ w5.heap.size := hB.size
    have hc : i = 0 ∨ i = 1 ∨ i = 2 ∨ i = 3 ∨ i = 4 ∨ i = 5 := by omega
    rcases hc with rfl | rfl | rfl | rfl | rfl | rfl <;> cases ho
    · exact ops_wp rfl rfl (wp_move (.tmp 0) rfl _ (hA.ev 0 (by decide)) ⟨_, rfl, rfl, Upd.refl _ _⟩)
    · have D0 := haf ⟨0, .data⟩ (by simp) rfl
      refine ops_wp rfl rfl (wp_callA rfl Tryz.call27 (vs := #[.string s]) ?_ (R := fun u w' => u = .agg #[.int .u8 2, .bool false, .slice none 0 0, .string s, .int .i64 0, .slice none 0 0, .slice none 0 0] ∧ Upd [] w5 w') ?_ ?_)
      · have e0 : a'.eval (.tmp 6) = _ := (hS 0 6 rfl D0).trans (hR 0 D0)
        simp only [List.map_toArray, List.map_cons, List.map_nil, e0]
      · exact (batom_any s w5).mono fun e w' ⟨he, hu⟩ => ⟨_, he, rfl, hu⟩
      · rintro u w6 ⟨rfl, hu⟩
        exact ⟨_, rfl, rfl, hu⟩
    · exact ops_wp rfl rfl (wp_load_row 26 (.tmp 3) rfl w.heap.size (hA.ev 3 (by decide)) 26 _ (0, 0) _ (tR.mono hB (by simp)) hdesc rfl (by rw [info_term]; rfl) ⟨_, rfl, rfl, Upd.refl _ _⟩)
    · have D1 := haf ⟨1, .data⟩ (by simp) rfl
      have D2 := haf ⟨2, .data⟩ (by simp) rfl
      exact ops_wp rfl rfl (wp_bs2 (.tmp 7) (.tmp 8) rfl _ _ _ _ _ _ _ _ _ _ _ _ _ _ _ _ _ _ _ _ _ _ _ _ _ _ ((hS 1 7 rfl D1).trans (hR 1 D1)) ((hS 2 8 rfl D2).trans (hR 2 D2)) ⟨_, rfl, ⟨_, rfl, hs5, Tb.new _ _ _ rfl⟩, (Upd.refl [] w5).alloc _⟩)
    · have D3 := haf ⟨3, .data⟩ (by simp) rfl
      obtain ⟨b, e, hl, ht⟩ := hR 3 D3
      refine ops_wp rfl rfl (wp_callA rfl Tryz.call46 (vs := #[.int .u8 6, .slice (some ⟨b, 0, none⟩) 2 2]) ?_ (R := fun u w' => u = .agg #[.int .u8 6, .bool false, .slice none 0 0, .string ⟨#[]⟩, .int .i64 0, .slice (some ⟨b, 0, none⟩) 2 2, .slice none 0 0] ∧ Upd [] w5 w') ?_ ?_)
      · have e0 : a'.eval (.tmp 9) = _ := (hS 3 9 rfl D3).trans e
        simp only [List.map_toArray, List.map_cons, List.map_nil, e0]
        rfl
      · exact (row_any 6 _ 2 2 w5 (by omega)).mono fun e w' ⟨he, hu⟩ => ⟨_, he, rfl, hu⟩
      · rintro u w6 ⟨rfl, hu⟩
        exact ⟨_, rfl, ⟨b, rfl, hl, ht.mono hu (by simp)⟩, hu⟩
    · exact ops_wp rfl rfl (wp_alloc' rfl ⟨_, rfl, ⟨_, rfl, hs5, Tb.new _ _ _ rfl⟩, (Upd.refl [] w5).alloc _⟩)
  · intro vs a' w5 o' hv hA hB hR hS ho
    cases ho
    obtain ⟨b, e4, hb, tb⟩ := hR 4 (by omega)
    obtain ⟨g, e5, hg, tg⟩ := hR 5 (by omega)
    refine ops_wp rfl rfl (wp_store_row 26 (.tmp 5) (.tmp 10) rfl g _ ((hS 5 5 rfl (by omega)).trans e5) ((hS 4 10 rfl (by omega)).trans e4) 26 #[.int .u8 0, .bool false, .slice none 0 0, .string ⟨#[]⟩, .int .i64 0, .slice none 0 0, .slice none 0 0] tg (by rw [info_term]; rfl) rfl (by simp [Value.oneCell']) ⟨undef, rfl, ?_⟩)
    have hu5 := setRow_upd w5 g #[.int .u8 6, .bool false, .slice none 0 0, .string ⟨#[]⟩, .int .i64 0, .slice (some ⟨b, 0, none⟩) 2 2, .slice none 0 0]
    have t4 := setRow_tb tg #[.int .u8 6, .bool false, .slice none 0 0, .string ⟨#[]⟩, .int .i64 0, .slice (some ⟨b, 0, none⟩) 2 2, .slice none 0 0]
    have hbg : b ≠ g := fun e => by subst e; have := tb.symm.trans tg; simp at this
    have T3 := tb.mono hu5 (by simp; exact hbg)
    have TZ := (tZ.mono hB (by simp)).mono hu5 (by simp; omega)
    have hU5 : Upd [] w (w5.setRow g #[.int .u8 6, .bool false, .slice none 0 0, .string ⟨#[]⟩, .int .i64 0, .slice (some ⟨b, 0, none⟩) 2 2, .slice none 0 0]) := (hU2.trans hB).then hu5 (by simp; omega)
    obtain ⟨w6, hw6⟩ : ∃ w6, w6 = w5.setRow g #[.int .u8 6, .bool false, .slice none 0 0, .string ⟨#[]⟩, .int .i64 0, .slice (some ⟨b, 0, none⟩) 2 2, .slice none 0 0] := ⟨_, rfl⟩
    rw [← hw6] at t4 T3 hU5 TZ ⊢
    obtain ⟨v0, r0, rfl, hv0⟩ := list_cons hv
    obtain ⟨v1, r1, rfl, hv1⟩ := list_cons hv0
    obtain ⟨v2, r2, rfl, hv2⟩ := list_cons hv1
    obtain ⟨v3, r3, rfl, hv3⟩ := list_cons hv2
    obtain ⟨v4, r4, rfl, hv4⟩ := list_cons hv3
    obtain ⟨v5, r5, rfl, hv5⟩ := list_cons hv4
    obtain ⟨v6, r6, rfl, hv6⟩ := list_cons hv5
    have e5' : v5 = .pointer (some ⟨g, 0, none⟩) := e5
    subst e5'
    have hin : In w6 (D + 2) [.int .u8 6, .bool false, .slice none 0 0, .string ⟨#[]⟩, .int .i64 0, .slice (some ⟨b, 0, none⟩) 2 2, .slice none 0 0] (errT s why) :=
      in_tuple (row_two T3 (InU.atom 0 0 w6 s D).plain (InU.atom 0 0 w6 why D).plain) 2 rfl 2
    have HIN : Hid (In w6 (D + 2) [.int .u8 6, .bool false, .slice none 0 0, .string ⟨#[]⟩, .int .i64 0, .slice (some ⟨b, 0, none⟩) 2 2, .slice none 0 0] (errT s why)) := hin
    have HU6 : Hid (Upd [] w w6) := hU5
    have HR6 : Hid _ := TRight_in (D + 2) w6 _ (errT s why) hin (okS_tsz HOK.out)
    rw [HOK.out] at HR6
    clear hw6 hR hS hA hB tZ tR T3 tb tg hu5 hin hU5
    simp only [List.set_cons_succ, List.set_cons_zero, putAll, Act.put, List.setIfInBounds_toArray]
    go_wp2_with (first | (refine load_T _ rfl _ rfl _ _ rfl t4 rfl ?_) | fail)
    refine Calls.mono HR6.out ?_
    rintro e w7 ⟨rfl, h7⟩
    have t47 := t4.mono h7 (by simp)
    have TZ7 := TZ.mono h7 (by simp)
    have HU7 : Hid (Upd [] w w7) := HU6.out.trans h7
    have HC7 : Hid _ := Copy_new (In.mono h7 _ _ _ HIN.out) HOK.out
    clear h7 t4 TZ HR6 HIN HU6
    go_wp2_with (first | (refine load_T _ rfl _ rfl _ _ rfl t47 rfl ?_) | fail)
    refine Calls.mono HC7.out ?_
    rintro e w8 ⟨cs, q, h7', rfl, hin8, rfl, hu8⟩
    have hone := hin8.plain.one
    obtain ⟨p0, p1, p2, p3, p4, p5, p6, rfl⟩ := list7 h7'
    have TZ8 := TZ7.mono hu8 (by simp)
    have HTZ8 : Hid (Tb w8 (w.heap.size + 1) #[.int .u8 0, .bool false, .slice none 0 0, .string ⟨#[]⟩, .int .i64 0, .slice none 0 0, .slice none 0 0]) := TZ8
    have HIN8 : Hid (InU 0 w7.heap.size w8 (D + 2) [p0, p1, p2, p3, p4, p5, p6] (errT s why)) := hin8
    have HL7 : Hid (w.heap.size + 1 < w7.heap.size ∧ w7.heap.size ≤ w8.heap.size) := ⟨Tb.lt TZ7, hu8.size⟩
    have HU8 : Hid (Upd [] w w8) := HU7.out.trans hu8
    clear hu8 hin8 TZ7 t47 HU7 HC7
    go_wp2_with (refine store_T _ rfl _ _ rfl _ #[p0, p1, p2, p3, p4, p5, p6] _ rfl rfl TZ8 rfl rfl hone ?_; intro w9 hT9 hU9)
    exact ret_T Tryz.results25 rfl _ _ rfl hT9 rfl ⟨_, _, rfl, rfl, HIN8.out.step hU9 (bx_zero (Nat.zero_le _) HL7.out.1 HTZ8.out) (by omega) HL7.out.2, rfl, HU8.out.then hU9 (by simp)⟩

end Go.Proofs.YtnpocmhaoaigfaaGreatDoor

/- Call of package bif. -/
namespace Go.Proofs.YtnpocmhaoaigfaaGreatDoor
open Go.RowKit

/-- all of Right. -/
theorem allRight_in {d : Nat} {I : List Tm} {a : Option Addr} {c : Nat} {w : World} {r : Bool} (hz : I.length ≤ 20) (hI : RowAt (In w d) w a I) (hs : ∀ t ∈ I, tsz t ≤ 1353245080330) (hr : I.all okS = r) (n : Nat) (hn : I.length = n) :
    Calls Tryz.prog 23 #[.func (.func 7) #[] #[], .slice a n c] w fun e w' => e = .returned (.bool r) ∧ Upd [] w w' := by
  subst hn hr
  exact all_gen a c d I 7 #[] okS w (by omega) hI Tryz.call7 (fun k hk cs W _ hin => TRight_in d W cs I[k] hin (hs _ (List.getElem_mem hk)))

set_option maxHeartbeats 4000000 in
set_option maxRecDepth 100000 in
theorem Call_val {B d D n c : Nat} {I : List Tm} {P : Tm → Prop} {why : ByteArray} (s : ByteArray) (a : Option Addr) (w : World) (hBlt : ∀ W, Upd [] w W → Blt W) (hI : RowAt (In w d) w a I) (hn : I.length = n) (hz : I.length ≤ 20) (hs : ∀ t ∈ I, tsz t ≤ 1353245080330) (hall : I.all okS = true)
    (hk : (decide (kindS s (n : Nat) = 1) || decide (kindS s (n : Nat) = 2)) = true) (c1 : (s.toList == [116, 104, 114, 111, 119]) = false) (c2 : (s.toList == [101, 114, 114, 111, 114]) = false) (c3 : (s.toList == [101, 120, 105, 116]) = false) (hB : B ≤ w.heap.size)
    (hM : ∀ W, Upd [] w W → Calls Tryz.prog 26 #[.string s, .slice a n c] W (MadeQ B (D + 1) P why W)) (hw : why = ⟨#[]⟩) (hP : ∀ t, P t → okS t = true) :
    Calls Tryz.prog 12 #[.string s, .slice a n c] w (TwoQ (D + 1) P (fun t => t = tmZ) true w) := by
  subst hw
  have HOK : Hid (∀ t, P t → okS t = true) := hP
  clear hP
  have HM : Hid (∀ W, Upd [] w W → Calls Tryz.prog 26 #[.string s, .slice a n c] W (MadeQ B (D + 1) P ⟨#[]⟩ W)) := hM
  have HBL : Hid (B ≤ w.heap.size) := hB
  have HK : Hid (∀ W, Upd [] w W → Calls Tryz.prog 22 #[.string s, .int .i64 (n : Nat)] W fun e w' => e = .returned (.bool true) ∧ Upd [] W w') := fun W hu => makes_any s _ W (hBlt W hu) true hk
  have HR : Hid (∀ W, Upd [] w W → Calls Tryz.prog 23 #[.func (.func 7) #[] #[], .slice a n c] W fun e w' => e = .returned (.bool true) ∧ Upd [] W w') := fun W hu => allRight_in hz (hI.imp hu (fun cs t h => In.mono hu d cs t h)) hs hall n hn
  have HC : Hid (∀ W, Calls Tryz.prog 24 #[.string s] W fun e w' => e = .returned (.bool false) ∧ Upd [] W w') := fun W => isClass_no s W c1 c2 c3
  have HU0 : Hid (Upd [] w ((w.alloc (.cells #[.int .u8 0, .bool false, .slice none 0 0, .string ⟨#[]⟩, .int .i64 0, .slice none 0 0, .slice none 0 0] 26)).alloc (.cells #[.int .u8 0, .bool false, .slice none 0 0, .string ⟨#[]⟩, .int .i64 0, .slice none 0 0, .slice none 0 0] 26))) := ((Upd.refl [] w).alloc _).alloc _
  have t4 : Tb ((w.alloc (.cells #[.int .u8 0, .bool false, .slice none 0 0, .string ⟨#[]⟩, .int .i64 0, .slice none 0 0, .slice none 0 0] 26)).alloc (.cells #[.int .u8 0, .bool false, .slice none 0 0, .string ⟨#[]⟩, .int .i64 0, .slice none 0 0, .slice none 0 0] 26)) w.heap.size #[.int .u8 0, .bool false, .slice none 0 0, .string ⟨#[]⟩, .int .i64 0, .slice none 0 0, .slice none 0 0] := (Tb.new _ _ _ rfl).old _
  have t5 : Tb ((w.alloc (.cells #[.int .u8 0, .bool false, .slice none 0 0, .string ⟨#[]⟩, .int .i64 0, .slice none 0 0, .slice none 0 0] 26)).alloc (.cells #[.int .u8 0, .bool false, .slice none 0 0, .string ⟨#[]⟩, .int .i64 0, .slice none 0 0, .slice none 0 0] 26)) (w.heap.size + 1) #[.int .u8 0, .bool false, .slice none 0 0, .string ⟨#[]⟩, .int .i64 0, .slice none 0 0, .slice none 0 0] := Tb.new _ _ _ (by simp)
  have hn20 : n ≤ 20 := by omega
  clear hM hB hBlt hk hz hI hs hall hn c1 c2 c3
  go_enter Tryz.func12, Tryz.ntmps12
  go_wp2_with fail
  refine Calls.mono (HK.out _ HU0.out) ?_
  rintro e w1 ⟨rfl, h1⟩
  have U1 : Hid (Upd [] w w1) := HU0.out.trans h1
  have t41 := t4.mono h1 (by simp)
  have t51 := t5.mono h1 (by simp)
  clear h1 t4 t5 HU0 HK
  go_wp2_with fail
  refine Calls.mono (HR.out _ U1.out) ?_
  rintro e w2 ⟨rfl, h2⟩
  have U2 : Hid (Upd [] w w2) := U1.out.trans h2
  have t42 := t41.mono h2 (by simp)
  have t52 := t51.mono h2 (by simp)
  clear h2 t41 t51 HR U1
  go_wp2_with fail
  refine Calls.mono (HC.out _) ?_
  rintro e w3 ⟨rfl, h3⟩
  have U3 : Hid (Upd [] w w3) := U2.out.trans h3
  have t43 := t42.mono h3 (by simp)
  have t53 := t52.mono h3 (by simp)
  clear h3 t42 t52 HC U2
  go_wp2_with fail
  refine Calls.mono (HM.out _ U3.out) ?_
  rintro e w4 ⟨cs, v, h7, rfl, hin, hP, h4⟩
  have hone := hin.plain.one
  obtain ⟨q0, q1, q2, q3, q4, q5, q6, rfl⟩ := list7 h7
  have U4 : Hid (Upd [] w w4) := U3.out.trans h4
  have t44 := t43.mono h4 (by simp)
  have t54 := t53.mono h4 (by simp)
  have HT44 : Hid (Tb w4 w.heap.size #[.int .u8 0, .bool false, .slice none 0 0, .string ⟨#[]⟩, .int .i64 0, .slice none 0 0, .slice none 0 0]) := t44
  have HL3 : Hid (w.heap.size < w3.heap.size ∧ w3.heap.size ≤ w4.heap.size ∧ w.heap.size + 1 < w3.heap.size) := ⟨Tb.lt t43, h4.size, Tb.lt t53⟩
  have HIN : Hid (InU B w3.heap.size w4 (D + 1) [q0, q1, q2, q3, q4, q5, q6] v) := hin
  have HP4 : Hid (P v) := hP
  clear h4 t43 t53 HM hin hP U3
  go_wp2_with (first | (refine store_T _ rfl _ _ rfl _ #[q0, q1, q2, q3, q4, q5, q6] _ rfl rfl t44 rfl rfl hone ?_; intro w5 hT5 hU5) | (refine load_G _ _ rfl _ _ rfl hT5 rfl rfl ?_) | fail)
  have HIN5 : Hid (InU B w.heap.size w5 (D + 1) [q0, q1, q2, q3, q4, q5, q6] v) := HIN.out.step hU5 (bx_zero HBL.out HL3.out.1 HT44.out) (Nat.le_refl _) HL3.out.2.1
  have HU5 : Hid (Upd [] w w5) := U4.out.then hU5 (by simp)
  have HR5 : Hid _ := TRight_in (D + 1) w5 _ v HIN5.out.plain (okS_tsz (HOK.out v HP4.out))
  rw [HOK.out v HP4.out] at HR5
  have t55 := t54.mono hU5 (by simp)
  clear hU5 t44 t54 HT44 HIN U4 hone
  refine Calls.mono HR5.out ?_
  rintro e w6 ⟨rfl, h6⟩
  have HU6 : Hid (Upd [] w w6) := HU5.out.trans h6
  have t46 := hT5.mono h6 (by simp)
  have t56 := t55.mono h6 (by simp)
  have HI6 : Hid (In w6 (D + 1) [q0, q1, q2, q3, q4, q5, q6] v) := In.mono h6 _ _ _ HIN5.out.plain
  have HC6 : Hid _ := Copy_new HI6.out (HOK.out v HP4.out)
  clear h6 hT5 t55 HR5 HIN5 HU5
  go_wp2_with (first | (refine load_T _ rfl _ rfl _ _ rfl t46 rfl ?_) | fail)
  refine Calls.mono HC6.out ?_
  rintro e w7 ⟨cs7, v7, l7, rfl, hin7, rfl, h7u⟩
  have hone := hin7.plain.one
  obtain ⟨p0, p1, p2, p3, p4, p5, p6, rfl⟩ := list7 l7
  have HU7 : Hid (Upd [] w w7) := HU6.out.trans h7u
  have t47 := t46.mono h7u (by simp)
  have t57 := t56.mono h7u (by simp)
  have HT47 : Hid (Tb w7 w.heap.size #[q0, q1, q2, q3, q4, q5, q6]) := t47
  have HT57 : Hid (Tb w7 (w.heap.size + 1) #[.int .u8 0, .bool false, .slice none 0 0, .string ⟨#[]⟩, .int .i64 0, .slice none 0 0, .slice none 0 0]) := t57
  have HL6 : Hid (w.heap.size + 1 < w6.heap.size ∧ w6.heap.size ≤ w7.heap.size) := ⟨Tb.lt t56, h7u.size⟩
  have HIN7 : Hid (InU 0 w6.heap.size w7 (D + 1) [p0, p1, p2, p3, p4, p5, p6] v7) := hin7
  clear h7u t46 t56 hin7 HU6 HC6
  go_wp2_with (first | (refine store_T _ rfl _ _ rfl _ #[p0, p1, p2, p3, p4, p5, p6] _ rfl rfl t47 rfl rfl hone ?_; intro w8 hT8 hU8; have t58 := t57.mono hU8 (by simp)) | (refine store_V _ rfl _ _ rfl _ _ _ _ _ _ _ _ _ _ _ _ _ _ _ rfl rfl t58 rfl ?_; intro w9 hT9 hU9) | fail)
  have t49 := hT8.mono hU9 (by simp)
  have hb4 : Bx 0 w6.heap.size w7 w.heap.size := HI6.out.bx (Nat.zero_le _) (by have := HL6.out.1; omega) HT47.out
  have hb5 : Bx 0 w6.heap.size w7 (w.heap.size + 1) := bx_zero (Nat.zero_le _) HL6.out.1 HT57.out
  have hall : Upd [w.heap.size, w.heap.size + 1] w7 w9 := ⟨hU9.os.trans hU8.os, hU9.tape.trans hU8.tape, hU9.output.trans hU8.output, Nat.le_trans hU8.size hU9.size, fun k hk hkl => (hU9.block k (Nat.lt_of_lt_of_le hk hU8.size) (by simp at hkl ⊢; exact hkl.2)).trans (hU8.block k hk (by simp at hkl ⊢; exact hkl.1))⟩
  have hin9 : InU 0 w.heap.size w9 (D + 1) [p0, p1, p2, p3, p4, p5, p6] v7 := HIN7.out.steps hall (by simp; exact ⟨hb4, hb5⟩) (by simp) HL6.out.2 (by have := HL6.out.1; omega)
  exact ret_TTb Tryz.results12 rfl _ _ _ _ _ rfl t49 rfl rfl hT9 rfl rfl ⟨_, _, v7, tmZ, rfl, rfl, rfl, hin9, HP4.out, InU.zero _ _ _ _, rfl, HU7.out.then hall (by simp)⟩

set_option maxHeartbeats 4000000 in
set_option maxRecDepth 100000 in
theorem Call_err {B d D n c : Nat} {I : List Tm} {P : Tm → Prop} {why : ByteArray} (s : ByteArray) (a : Option Addr) (w : World) (hBlt : ∀ W, Upd [] w W → Blt W) (hI : RowAt (In w d) w a I) (hn : I.length = n) (hz : I.length ≤ 20) (hs : ∀ t ∈ I, tsz t ≤ 1353245080330) (hall : I.all okS = true)
    (hk : (decide (kindS s (n : Nat) = 1) || decide (kindS s (n : Nat) = 2)) = true) (c1 : (s.toList == [116, 104, 114, 111, 119]) = false) (c2 : (s.toList == [101, 114, 114, 111, 114]) = false) (c3 : (s.toList == [101, 120, 105, 116]) = false) (hB : B ≤ w.heap.size)
    (hM : ∀ W, Upd [] w W → Calls Tryz.prog 26 #[.string s, .slice a n c] W (MadeQ B (D + 1) P why W)) (hw : why.toList.isEmpty = false) (hok : okS (errT ⟨#[101, 114, 114, 111, 114]⟩ why) = true) :
    Calls Tryz.prog 12 #[.string s, .slice a n c] w (TwoQ (D + 2) (fun t => t = tmZ) (fun t => t = errT ⟨#[101, 114, 114, 111, 114]⟩ why) true w) := by
  have HOK : Hid (okS (errT ⟨#[101, 114, 114, 111, 114]⟩ why) = true) := hok
  clear hok
  have HM : Hid (∀ W, Upd [] w W → Calls Tryz.prog 26 #[.string s, .slice a n c] W (MadeQ B (D + 1) P why W)) := hM
  have HBL : Hid (B ≤ w.heap.size) := hB
  have HK : Hid (∀ W, Upd [] w W → Calls Tryz.prog 22 #[.string s, .int .i64 (n : Nat)] W fun e w' => e = .returned (.bool true) ∧ Upd [] W w') := fun W hu => makes_any s _ W (hBlt W hu) true hk
  have HR : Hid (∀ W, Upd [] w W → Calls Tryz.prog 23 #[.func (.func 7) #[] #[], .slice a n c] W fun e w' => e = .returned (.bool true) ∧ Upd [] W w') := fun W hu => allRight_in hz (hI.imp hu (fun cs t h => In.mono hu d cs t h)) hs hall n hn
  have HC : Hid (∀ W, Calls Tryz.prog 24 #[.string s] W fun e w' => e = .returned (.bool false) ∧ Upd [] W w') := fun W => isClass_no s W c1 c2 c3
  have HU0 : Hid (Upd [] w ((w.alloc (.cells #[.int .u8 0, .bool false, .slice none 0 0, .string ⟨#[]⟩, .int .i64 0, .slice none 0 0, .slice none 0 0] 26)).alloc (.cells #[.int .u8 0, .bool false, .slice none 0 0, .string ⟨#[]⟩, .int .i64 0, .slice none 0 0, .slice none 0 0] 26))) := ((Upd.refl [] w).alloc _).alloc _
  have t4 : Tb ((w.alloc (.cells #[.int .u8 0, .bool false, .slice none 0 0, .string ⟨#[]⟩, .int .i64 0, .slice none 0 0, .slice none 0 0] 26)).alloc (.cells #[.int .u8 0, .bool false, .slice none 0 0, .string ⟨#[]⟩, .int .i64 0, .slice none 0 0, .slice none 0 0] 26)) w.heap.size #[.int .u8 0, .bool false, .slice none 0 0, .string ⟨#[]⟩, .int .i64 0, .slice none 0 0, .slice none 0 0] := (Tb.new _ _ _ rfl).old _
  have t5 : Tb ((w.alloc (.cells #[.int .u8 0, .bool false, .slice none 0 0, .string ⟨#[]⟩, .int .i64 0, .slice none 0 0, .slice none 0 0] 26)).alloc (.cells #[.int .u8 0, .bool false, .slice none 0 0, .string ⟨#[]⟩, .int .i64 0, .slice none 0 0, .slice none 0 0] 26)) (w.heap.size + 1) #[.int .u8 0, .bool false, .slice none 0 0, .string ⟨#[]⟩, .int .i64 0, .slice none 0 0, .slice none 0 0] := Tb.new _ _ _ (by simp)
  have hn20 : n ≤ 20 := by omega
  clear hM hB hBlt hk hz hI hs hall hn c1 c2 c3
  go_enter Tryz.func12, Tryz.ntmps12
  go_wp2_with fail
  refine Calls.mono (HK.out _ HU0.out) ?_
  rintro e w1 ⟨rfl, h1⟩
  have U1 : Hid (Upd [] w w1) := HU0.out.trans h1
  have t41 := t4.mono h1 (by simp)
  have t51 := t5.mono h1 (by simp)
  clear h1 t4 t5 HU0 HK
  go_wp2_with fail
  refine Calls.mono (HR.out _ U1.out) ?_
  rintro e w2 ⟨rfl, h2⟩
  have U2 : Hid (Upd [] w w2) := U1.out.trans h2
  have t42 := t41.mono h2 (by simp)
  have t52 := t51.mono h2 (by simp)
  clear h2 t41 t51 HR U1
  go_wp2_with fail
  refine Calls.mono (HC.out _) ?_
  rintro e w3 ⟨rfl, h3⟩
  have U3 : Hid (Upd [] w w3) := U2.out.trans h3
  have t43 := t42.mono h3 (by simp)
  have t53 := t52.mono h3 (by simp)
  clear h3 t42 t52 HC U2
  go_wp2_with fail
  refine Calls.mono (HM.out _ U3.out) ?_
  rintro e w4 ⟨cs, v, h7, rfl, hin, hP, h4⟩
  have hone := hin.plain.one
  obtain ⟨q0, q1, q2, q3, q4, q5, q6, rfl⟩ := list7 h7
  have U4 : Hid (Upd [] w w4) := U3.out.trans h4
  have t44 := t43.mono h4 (by simp)
  have t54 := t53.mono h4 (by simp)
  have HT44 : Hid (Tb w4 w.heap.size #[.int .u8 0, .bool false, .slice none 0 0, .string ⟨#[]⟩, .int .i64 0, .slice none 0 0, .slice none 0 0]) := t44
  have HL3 : Hid (w.heap.size < w3.heap.size ∧ w3.heap.size ≤ w4.heap.size ∧ w.heap.size + 1 < w3.heap.size) := ⟨Tb.lt t43, h4.size, Tb.lt t53⟩
  have HIN : Hid (InU B w3.heap.size w4 (D + 1) [q0, q1, q2, q3, q4, q5, q6] v) := hin
  have HP4 : Hid (P v) := hP
  clear h4 t43 t53 HM hin hP U3
  go_wp2_with (first | (refine store_T _ rfl _ _ rfl _ #[q0, q1, q2, q3, q4, q5, q6] _ rfl rfl t44 rfl rfl hone ?_; intro w5 hT5 hU5) | fail)
  have HU5 : Hid (Upd [] w w5) := U4.out.then hU5 (by simp)
  have t55 := t54.mono hU5 (by simp)
  have HI4 : Hid (In w4 (D + 1) [q0, q1, q2, q3, q4, q5, q6] v) := HIN.out.plain
  clear hU5 t44 t54 HT44 HIN U4 hone
  refine Calls.mono (batom_any _ _) ?_
  rintro e w6 ⟨rfl, h6⟩
  have HU6 : Hid (Upd [] w w6) := HU5.out.trans h6
  have t46 := hT5.mono h6 (by simp)
  have t56 := t55.mono h6 (by simp)
  clear h6 hT5 t55 HU5
  go_wp2_with fail
  refine Calls.mono (failure_any _ why D w6 HOK.out) ?_
  rintro e w7 ⟨cs7, v7, l7, rfl, hin7, rfl, h7u⟩
  have hone := hin7.plain.one
  obtain ⟨p0, p1, p2, p3, p4, p5, p6, rfl⟩ := list7 l7
  have HU7 : Hid (Upd [] w w7) := HU6.out.trans h7u
  have t47 := t46.mono h7u (by simp)
  have t57 := t56.mono h7u (by simp)
  have HT47 : Hid (Tb w7 w.heap.size #[q0, q1, q2, q3, q4, q5, q6]) := t47
  have HT57 : Hid (Tb w7 (w.heap.size + 1) #[.int .u8 0, .bool false, .slice none 0 0, .string ⟨#[]⟩, .int .i64 0, .slice none 0 0, .slice none 0 0]) := t57
  have HL6 : Hid (w.heap.size + 1 < w6.heap.size ∧ w6.heap.size ≤ w7.heap.size) := ⟨Tb.lt t56, h7u.size⟩
  have HIN7 : Hid (InU 0 w6.heap.size w7 (D + 2) [p0, p1, p2, p3, p4, p5, p6] (errT ⟨#[101, 114, 114, 111, 114]⟩ why)) := hin7
  clear h7u t46 t56 hin7 HU6
  go_wp2_with (first | (refine store_V _ rfl _ _ rfl _ _ _ _ _ _ _ _ _ _ _ _ _ _ _ rfl rfl t47 rfl ?_; intro w8 hT8 hU8; have t58 := t57.mono hU8 (by simp)) | (refine store_T _ rfl _ _ rfl _ #[p0, p1, p2, p3, p4, p5, p6] _ rfl rfl t58 rfl rfl hone ?_; intro w9 hT9 hU9) | fail)
  have t49 := hT8.mono hU9 (by simp)
  have hb4 : Bx 0 w6.heap.size w7 w.heap.size := HI4.out.bx (Nat.zero_le _) (by have := HL6.out.1; omega) HT47.out
  have hb5 : Bx 0 w6.heap.size w7 (w.heap.size + 1) := bx_zero (Nat.zero_le _) HL6.out.1 HT57.out
  have hall : Upd [w.heap.size, w.heap.size + 1] w7 w9 := ⟨hU9.os.trans hU8.os, hU9.tape.trans hU8.tape, hU9.output.trans hU8.output, Nat.le_trans hU8.size hU9.size, fun k hk hkl => (hU9.block k (Nat.lt_of_lt_of_le hk hU8.size) (by simp at hkl ⊢; exact hkl.2)).trans (hU8.block k hk (by simp at hkl ⊢; exact hkl.1))⟩
  have hin9 : InU 0 w.heap.size w9 (D + 2) [p0, p1, p2, p3, p4, p5, p6] (errT ⟨#[101, 114, 114, 111, 114]⟩ why) := HIN7.out.steps hall (by simp; exact ⟨hb4, hb5⟩) (by simp) HL6.out.2 (by have := HL6.out.1; omega)
  exact ret_TTb Tryz.results12 rfl _ _ _ _ _ rfl t49 rfl rfl hT9 rfl rfl ⟨_, _, tmZ, _, rfl, rfl, rfl, InU.zero _ _ _ _, rfl, hin9, rfl, HU7.out.then hall (by simp)⟩

set_option maxHeartbeats 4000000 in
set_option maxRecDepth 100000 in
theorem Call_no {n c : Nat} (s : ByteArray) (a : Option Addr) (D : Nat) (w : World) (hBlt : ∀ W, Upd [] w W → Blt W) (_hn : n ≤ 20) (hk : (decide (kindS s (n : Nat) = 1) || decide (kindS s (n : Nat) = 2)) = false) :
    Calls Tryz.prog 12 #[.string s, .slice a n c] w (TwoQ (D + 1) (fun t => t = tmZ) (fun t => t = tmZ) false w) := by
  have HK : Hid (∀ W, Upd [] w W → Calls Tryz.prog 22 #[.string s, .int .i64 (n : Nat)] W fun e w' => e = .returned (.bool false) ∧ Upd [] W w') := fun W hu => makes_any s _ W (hBlt W hu) false hk
  have HU0 : Hid (Upd [] w ((w.alloc (.cells #[.int .u8 0, .bool false, .slice none 0 0, .string ⟨#[]⟩, .int .i64 0, .slice none 0 0, .slice none 0 0] 26)).alloc (.cells #[.int .u8 0, .bool false, .slice none 0 0, .string ⟨#[]⟩, .int .i64 0, .slice none 0 0, .slice none 0 0] 26))) := ((Upd.refl [] w).alloc _).alloc _
  have t4 : Tb ((w.alloc (.cells #[.int .u8 0, .bool false, .slice none 0 0, .string ⟨#[]⟩, .int .i64 0, .slice none 0 0, .slice none 0 0] 26)).alloc (.cells #[.int .u8 0, .bool false, .slice none 0 0, .string ⟨#[]⟩, .int .i64 0, .slice none 0 0, .slice none 0 0] 26)) w.heap.size #[.int .u8 0, .bool false, .slice none 0 0, .string ⟨#[]⟩, .int .i64 0, .slice none 0 0, .slice none 0 0] := (Tb.new _ _ _ rfl).old _
  have t5 : Tb ((w.alloc (.cells #[.int .u8 0, .bool false, .slice none 0 0, .string ⟨#[]⟩, .int .i64 0, .slice none 0 0, .slice none 0 0] 26)).alloc (.cells #[.int .u8 0, .bool false, .slice none 0 0, .string ⟨#[]⟩, .int .i64 0, .slice none 0 0, .slice none 0 0] 26)) (w.heap.size + 1) #[.int .u8 0, .bool false, .slice none 0 0, .string ⟨#[]⟩, .int .i64 0, .slice none 0 0, .slice none 0 0] := Tb.new _ _ _ (by simp)
  clear hBlt hk
  go_enter Tryz.func12, Tryz.ntmps12
  go_wp2_with fail
  refine Calls.mono (HK.out _ HU0.out) ?_
  rintro e w1 ⟨rfl, h1⟩
  have U1 : Hid (Upd [] w w1) := HU0.out.trans h1
  have t41 := t4.mono h1 (by simp)
  have t51 := t5.mono h1 (by simp)
  clear h1 t4 t5 HU0 HK
  go_wp2_with (first | (refine store_V _ rfl _ _ rfl _ _ _ _ _ _ _ _ _ _ _ _ _ _ _ rfl rfl t41 rfl ?_; intro w8 hT8 hU8; have t58 := t51.mono hU8 (by simp)) | (refine store_V _ rfl _ _ rfl _ _ _ _ _ _ _ _ _ _ _ _ _ _ _ rfl rfl t58 rfl ?_; intro w9 hT9 hU9) | fail)
  have t49 := hT8.mono hU9 (by simp)
  exact ret_TTb Tryz.results12 rfl _ _ _ _ _ rfl t49 rfl rfl hT9 rfl rfl ⟨_, _, tmZ, tmZ, rfl, rfl, rfl, InU.zero _ _ _ _, rfl, InU.zero _ _ _ _, rfl, (U1.out.then hU8 (by simp)).then hU9 (by simp)⟩

end Go.Proofs.YtnpocmhaoaigfaaGreatDoor
