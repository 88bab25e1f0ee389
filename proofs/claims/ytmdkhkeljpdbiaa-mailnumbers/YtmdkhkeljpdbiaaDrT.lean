/- A region that draws its order, whose last operation waits for all others, by one another; a call that returns or panics. -/
import Derived.Test.YtmdkhkeljpdbiaaDrL
namespace Go.Proofs.Ytmdkhkeljpdbiaa
open Go.RowKit

/-- Does an operation wait for another one, by whatever way? -/
def reachB (ops : Array Oper) : Nat → Nat → Nat → Bool
  | 0, _, _ => false
  | fuel + 1, i, j => ((ops[i]?).map fun o => o.after.any fun e => Region.binds .any e && (e.on == j || reachB ops fuel e.on j)).getD false
def lastT (ops : Array Oper) (n : Nat) : Bool := (List.range n).all fun j => reachB ops (n + 1) n j
theorem reach_done {ops : Array Oper} {L : List Bool} (hcl : ∀ (j : Nat) (o' : Oper), L[j]? = some true → ops[j]? = some o' → ∀ e ∈ o'.after, Region.binds .any e = true → L[e.on]? = some true) :
    ∀ (fuel i j : Nat) (o : Oper), ops[i]? = some o → (∀ e ∈ o.after, Region.binds .any e = true → L[e.on]? = some true) → reachB ops fuel i j = true → L[j]? = some true := by
  intro fuel
  induction fuel with
  | zero => intro i j o ho hd h; cases h
  | succ fuel ih =>
    intro i j o ho hd h
    rw [reachB, ho] at h
    simp only [Option.map_some, Option.getD_some] at h
    obtain ⟨e, he, hb⟩ := Array.any_eq_true'.1 h
    simp only [Bool.and_eq_true, Bool.or_eq_true, beq_iff_eq] at hb
    have hon := hd e he hb.1
    rcases hb.2 with rfl | hr
    · exact hon
    · cases fuel with
      | zero => cases hr
      | succ m =>
        cases ho' : ops[e.on]? with
        | none => rw [reachB, ho'] at hr; simp at hr
        | some o' => exact ih e.on j o' ho' (fun e' he' hb' => hcl e.on o' hon ho' e' he' hb') hr

theorem region_lastT {rid : Nat} {ops : Array Oper} {Q : Exit → Act → World → Prop} {a0 : Act} {w0 : World} (hm : Try.prog.follows .mixedOrders = true) (n : Nat) (hn : ops.size = n + 1) (ds : List (Option Nat)) (hds : ops.toList.map (·.dst) = ds)
    (hd : ds.Pairwise fun a b => a = none ∨ a ≠ b) (hz : (ds.all fun o => o.all fun d => decide (d < a0.tmps.size)) = true) (hlow : lowOps ops = true) (hla : lastT ops n = true)
    (Res : Nat → Value → World → Prop) (hstab : ∀ j v w w', Res j v w → Upd [] w w' → Res j v w')
    (hstep : ∀ (D : Nat → Prop) (vs : List Value) a w i o, Agr (ds.filterMap id) a0 a → Upd [] w0 w → (∀ j, D j → Res j (vs.getD j undef) w) → (∀ j d, ds[j]? = some (some d) → D j → a.tmps.getD d undef = vs.getD j undef) → i < n → ops[i]? = some o → (∀ e ∈ o.after, Region.binds .any e = true → D e.on) →
      wpOp Try.prog ops Q i (fun a' w' => ∃ v, a' = a.put o.dst v ∧ Res i v w' ∧ Upd [] w w') a w)
    (hlast : ∀ (vs : List Value) a w o, vs.length = n + 1 → Agr (ds.filterMap id) a0 a → Upd [] w0 w → (∀ j, j < n → Res j (vs.getD j undef) w) → (∀ j d, ds[j]? = some (some d) → j < n → a.tmps.getD d undef = vs.getD j undef) → ops[n]? = some o →
      wpOp Try.prog ops Q n (fun a' w' => ∃ v, a' = a.put o.dst v ∧ Q .normal (putAll a0 ds (vs.set n v)) w') a w) :
    (Code.region rid ops true).wp Try.prog Q a0 w0 := by
  refine region_inv hm (n + 1) hn ds hds hd hz hlow (fun L vs w => ((L.length = n + 1 ∧ vs.length = n + 1) ∧ ∀ (j : Nat) (o' : Oper), L[j]? = some true → ops[j]? = some o' → ∀ e ∈ o'.after, Region.binds .any e = true → L[e.on]? = some true) ∧ ((L[n]? = some false ∧ Upd [] w0 w ∧ ∀ j, L[j]? = some true → Res j (vs.getD j undef) w) ∨ ((∀ j, j < n + 1 → L[j]? = some true) ∧ Q .normal (putAll a0 ds vs) w))) ⟨⟨⟨by simp, by simp⟩, fun j _ hj => ?_⟩, Or.inl ⟨List.getElem?_replicate_of_lt (by omega), (Upd.refl [] w0).drew, fun j hj => ?_⟩⟩ ?_ ?_
  · rw [List.getElem?_replicate] at hj
    split at hj <;> cases hj
  · rw [List.getElem?_replicate] at hj
    split at hj <;> cases hj
  · rintro L vs a w i o hL hv hS ⟨⟨_, hcl⟩, hI⟩ hun ho haf
    have hin : i < n + 1 := by rw [← hn]; exact (Array.getElem?_eq_some_iff.1 ho).1
    have hcl' : ∀ (j : Nat) (o' : Oper), (L.set i true)[j]? = some true → ops[j]? = some o' → ∀ e ∈ o'.after, Region.binds .any e = true → (L.set i true)[e.on]? = some true := fun j o' hj ho' e he hb => by
      rw [set_true (by omega)]
      right
      rcases (set_true (by omega)).1 hj with rfl | h
      · rw [ho] at ho'
        cases ho'
        exact haf e he hb
      · exact hcl j o' h ho' e he hb
    have hall : i = n → ∀ j, j < n → L[j]? = some true := fun e j hj => by
      subst e
      exact reach_done hcl (i + 1) i j o ho haf (List.all_eq_true.1 hla j (List.mem_range.2 hj))
    rcases hI with ⟨hf, hU, hR⟩ | ⟨ht, _⟩
    · by_cases e : i = n
      · have hA := hall e
        subst e
        refine wpOp_mono ?_ (hlast vs a w o hv hS.agr hU (fun j hj => hR j (hA j hj)) (fun j d hj hjn => hS.at' j d hj (hA j hjn)) ho)
        rintro a' w' ⟨v, ha, hq⟩
        refine ⟨v, ha, ⟨⟨by simpa using hL, by simpa using hv⟩, hcl'⟩, Or.inr ⟨fun j hj => ?_, hq⟩⟩
        by_cases e : j = i
        · exact (set_true (by omega)).2 (Or.inl e)
        · exact (set_true (by omega)).2 (Or.inr (hA j (by omega)))
      · refine wpOp_mono ?_ (hstep (fun j => L[j]? = some true) vs a w i o hS.agr hU hR hS.at' (by omega) ho haf)
        rintro a' w' ⟨v, ha, hr, hu⟩
        refine ⟨v, ha, ⟨⟨by simpa using hL, by simpa using hv⟩, hcl'⟩, Or.inl ⟨by rw [List.getElem?_set_ne e]; exact hf, hU.trans hu, fun j hj => ?_⟩⟩
        by_cases e2 : i = j
        · subst e2
          rw [List.getD_eq_getElem?_getD, List.getElem?_set_self (by omega)]
          exact hr
        · rw [List.getElem?_set_ne e2] at hj
          have := hstab j _ w w' (hR j hj) hu
          rw [List.getD_eq_getElem?_getD, List.getElem?_set_ne e2, ← List.getD_eq_getElem?_getD]
          exact this
    · exfalso
      rw [ht i hin] at hun
      cases hun
  · rintro vs w hv ⟨_, ⟨hf, _⟩ | ⟨_, hq⟩⟩
    · rw [List.getElem?_replicate_of_lt (by omega)] at hf; cases hf
    · exact hq
/-- A call that returns, or panics. -/
theorem wp_callB {o : Oper} {a : Act} {w : World} {K : Act → World → Prop} {Q : Exit → Act → World → Prop} {f : Nat} {xs : Array Operand} {ats : Array TypeId} (ho : o.op = .call { callee := .value (.func f), args := xs, argTypes := ats })
    (eg : ∀ args w, (callFunc f args).run Try.prog w = .ok (.enter f args) w) {vs : Array Value} (hv : xs.map a.eval = vs) (hc : Calls Try.prog f vs w fun e w' => (∃ u, e = .returned u ∧ K (a.put o.dst u) w') ∨ (∃ ch, e = .panicked ch ∧ Q (.panic ch) a w')) : o.wp Try.prog a w K Q := by
  unfold Oper.wp execOp
  simp [ho, resolve, Deferred.ofValue, invoke, Act.eval, eg, Oper.upon]
  rw [hv]
  refine hc.mono ?_
  rintro e w' (⟨u, rfl, hR⟩ | ⟨ch, rfl, hQ⟩)
  · exact hR
  · exact hQ
theorem ops_wpG {P : Program} {ops : Array Oper} {Q : Exit → Act → World → Prop} {i : Nat} {K : Act → World → Prop} {a : Act} {w : World} {o : Oper} (ho : ops[i]? = some o) (hg : Region.wanted o (yielded ops a.tmps) = true) (h : o.wp P a w K Q) : wpOp P ops Q i K a w := by
  unfold wpOp
  simp only [ho, hg, if_true]
  exact Or.inl h
theorem ops_skip {P : Program} {ops : Array Oper} {Q : Exit → Act → World → Prop} {i : Nat} {K : Act → World → Prop} {a : Act} {w : World} {o : Oper} (ho : ops[i]? = some o) (hg : Region.wanted o (yielded ops a.tmps) = false) (h : K (a.put o.dst undef) w) : wpOp P ops Q i K a w := by
  unfold wpOp
  simp only [ho, hg, Bool.false_eq_true, if_false]
  exact h

theorem wanted_of {ops : Array Oper} {o : Oper} {j d : Nat} {want b : Bool} {tmps : Array Value} (hg : o.guard = some (j, want)) (hd : (ops[j]?).bind (·.dst) = some d) (hv : tmps.getD d undef = .bool b) : Region.wanted o (yielded ops tmps) = (b == want) := by
  have h1 : tmps[d]? = some (.bool b) := by
    rw [Array.getD_eq_getD_getElem?] at hv
    cases ht : tmps[d]? with
    | none => rw [ht] at hv; cases hv
    | some v => rw [ht] at hv; simp at hv; rw [hv]
  unfold Region.wanted yielded
  rw [hg]
  simp only [hd, Option.bind_some, h1]
  cases b <;> cases want <;> rfl

end Go.Proofs.Ytmdkhkeljpdbiaa
