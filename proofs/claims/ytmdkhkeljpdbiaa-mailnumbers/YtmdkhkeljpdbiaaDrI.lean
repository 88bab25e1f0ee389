/- Regions that draw their order, by an invariant over what has come up. -/
import Derived.Test.YtmdkhkeljpdbiaaMlA
import Derived.Orders
namespace Go.Proofs.Ytmdkhkeljpdbiaa
open Go.RowKit

/-- How many have not come up. -/
def falses : List Bool → Nat
  | [] => 0
  | b :: l => (if b then 0 else 1) + falses l

theorem falses_set : ∀ (l : List Bool) (i : Nat), l[i]? = some false → falses (l.set i true) + 1 = falses l
  | [], i, h => by simp at h
  | b :: l, 0, h => by simp at h; subst h; simp [falses]; omega
  | b :: l, i + 1, h => by
    have := falses_set l i (by simpa using h)
    simp only [List.set_cons_succ, falses]
    omega

section
variable {P : Program} {ops : Array Oper} {Q : Exit → Act → World → Prop} {md : Region.Mode}

/-- An invariant over what has come up. -/
theorem wpAny_inv (I : Array Bool → Act → World → Prop)
    (hstep : ∀ L a w, I L a w → ∀ i, i ∈ Region.ready md ops L → wpOp P ops Q i (I (L.setIfInBounds i true)) a w)
    (hend : ∀ L a w, I L a w → Region.ready md ops L = [] → Q .normal a w) :
    ∀ (fuel : Nat) (L : Array Bool) (a : Act) (w : World), I L a w → falses L.toList ≤ fuel → wpAny P md ops Q fuel L a w := by
  intro fuel
  induction fuel with
  | zero =>
    intro L a w h hf
    have hr : Region.ready md ops L = [] := by
      cases hr : Region.ready md ops L with
      | nil => rfl
      | cons i r =>
        exfalso
        have hi : i ∈ Region.ready md ops L := by rw [hr]; exact List.mem_cons_self
        have h1 := (mem_ready.1 hi).1
        have h2 : L.toList[i]? = some false := by
          rw [Array.getElem?_toList]
          by_cases hlt : i < L.size
          · rw [Array.getD_eq_getD_getElem?, Array.getElem?_eq_getElem hlt] at h1
            rw [Array.getElem?_eq_getElem hlt]
            simpa using h1
          · rw [Array.getD_eq_getD_getElem?, Array.getElem?_eq_none (by omega)] at h1
            simp at h1
        have := falses_set _ _ h2
        omega
    exact ⟨hr, hend L a w h hr⟩
  | succ fuel ih =>
    intro L a w h hf
    refine ⟨fun hr => hend L a w h hr, fun i hi => wpOp_mono (fun a' w' h' => ih _ a' w' h' ?_) (hstep L a w h i hi)⟩
    have h1 := (mem_ready.1 hi).1
    have h2 : L.toList[i]? = some false := by
      rw [Array.getElem?_toList]
      by_cases hlt : i < L.size
      · rw [Array.getD_eq_getD_getElem?, Array.getElem?_eq_getElem hlt] at h1
        rw [Array.getElem?_eq_getElem hlt]
        simpa using h1
      · rw [Array.getD_eq_getD_getElem?, Array.getElem?_eq_none (by omega)] at h1
        simp at h1
    have := falses_set _ _ h2
    rw [Array.toList_setIfInBounds]
    omega
end

/-- Two frames that agree but in these slots. -/
structure Agr (S : List Nat) (a b : Act) : Prop where
  def' : b.defers = a.defers
  size : b.tmps.size = a.tmps.size
  ev : ∀ t, t ∉ S → b.tmps.getD t undef = a.tmps.getD t undef

theorem ev_put (a : Act) (t t' : Nat) (v : Value) : (a.put (some t) v).tmps.getD t' undef = if t = t' ∧ t < a.tmps.size then v else a.tmps.getD t' undef := by
  unfold Act.put
  simp only [Array.getD_eq_getD_getElem?, Array.getElem?_setIfInBounds]
  by_cases h : t = t'
  · subst h
    by_cases h2 : t < a.tmps.size
    · simp [h2]
    · simp [h2]
  · simp [h]
theorem size_put (a : Act) (t : Nat) (v : Value) : (a.put (some t) v).tmps.size = a.tmps.size := by simp [Act.put]
theorem Agr.put {S : List Nat} {a b : Act} (h : Agr S a b) {t : Nat} (ht : t ∈ S) (v : Value) : Agr S a (b.put (some t) v) :=
  ⟨h.def', by rw [size_put]; exact h.size, fun u hu => by
    rw [ev_put, if_neg (fun (e : t = u ∧ t < b.tmps.size) => hu (e.1 ▸ ht))]; exact h.ev u hu⟩
theorem Act.same {a b : Act} (hd : b.defers = a.defers) (hs : b.tmps.size = a.tmps.size) (h : ∀ t, b.tmps.getD t undef = a.tmps.getD t undef) : b = a := by
  obtain ⟨x, y⟩ := a
  obtain ⟨x', y'⟩ := b
  simp only at hd hs h
  subst hd
  congr 1
  refine Array.ext hs fun i h1 h2 => ?_
  have := h i
  simp only [Array.getD_eq_getD_getElem?, Array.getElem?_eq_getElem h1, Array.getElem?_eq_getElem h2] at this
  simpa using this

theorem ops_wp {P : Program} {ops : Array Oper} {Q : Exit → Act → World → Prop} {i : Nat} {K : Act → World → Prop} {a : Act} {w : World} {o : Oper} (ho : ops[i]? = some o) (hg : o.guard = none) (h : o.wp P a w K Q) : wpOp P ops Q i K a w := by
  unfold wpOp
  simp only [ho, Region.wanted, hg, if_true]
  exact Or.inl h
theorem wp_call' {o : Oper} {a : Act} {w : World} {K : Act → World → Prop} {Q : Exit → Act → World → Prop} {f s : Nat} {ats : Array TypeId} (ho : o.op = .call { callee := .value (.func f), args := #[.tmp s], argTypes := ats })
    (eg : ∀ args w, (callFunc f args).run Try.prog w = .ok (.enter f args) w) {v : Value} (hv : a.tmps.getD s undef = v) {R : Value → World → Prop} (hc : Calls Try.prog f #[v] w fun e w' => ∃ u, e = .returned u ∧ R u w') (h : ∀ u w', R u w' → K (a.put o.dst u) w') : o.wp Try.prog a w K Q := by
  unfold Oper.wp execOp
  have e : a.eval (.tmp s) = v := hv
  simp [ho, resolve, Deferred.ofValue, invoke, Act.eval, hv, eg, Oper.upon]
  refine hc.mono ?_
  rintro e w' ⟨u, rfl, hR⟩
  exact h u w' hR

/-- What the slots of a region hold: those that have come up their values, all others what they had. -/
structure Sl (a0 : Act) (ds : List (Option Nat)) (L : List Bool) (vs : List Value) (a : Act) : Prop where
  agr : Agr (ds.filterMap id) a0 a
  at' : ∀ i d, ds[i]? = some (some d) → L[i]? = some true → a.tmps.getD d undef = vs.getD i undef

theorem far_ne {ds : List (Option Nat)} (hd : ds.Pairwise fun a b => a = none ∨ a ≠ b) {i j d d' : Nat} (hi : ds[i]? = some (some d)) (hj : ds[j]? = some (some d')) (h : i ≠ j) : d ≠ d' := by
  intro e
  subst e
  obtain ⟨h1, e1⟩ := List.getElem?_eq_some_iff.1 hi
  obtain ⟨h2, e2⟩ := List.getElem?_eq_some_iff.1 hj
  rcases Nat.lt_or_gt_of_ne h with hlt | hlt
  · have := List.pairwise_iff_getElem.1 hd i j h1 h2 hlt
    rw [e1, e2] at this
    simp at this
  · have := List.pairwise_iff_getElem.1 hd j i h2 h1 hlt
    rw [e1, e2] at this
    simp at this

theorem Sl.put {a0 a : Act} {ds : List (Option Nat)} {L : List Bool} {vs : List Value} (h : Sl a0 ds L vs a) (hd : ds.Pairwise fun a b => a = none ∨ a ≠ b) (hl : vs.length = ds.length) {i : Nat} {o : Option Nat} (hi : ds[i]? = some o) (hz : ∀ d, o = some d → d < a0.tmps.size) (v : Value) :
    Sl a0 ds (L.set i true) (vs.set i v) (a.put o v) := by
  have hlt : i < ds.length := (List.getElem?_eq_some_iff.1 hi).1
  have oth : ∀ j d, j ≠ i → ds[j]? = some (some d) → (L.set i true)[j]? = some true → a.tmps.getD d undef = (vs.set i v).getD j undef := fun j d hj hdj hL => by
    rw [List.getElem?_set_ne (Ne.symm hj)] at hL
    rw [h.at' j d hdj hL, List.getD_eq_getElem?_getD, List.getD_eq_getElem?_getD, List.getElem?_set_ne (Ne.symm hj)]
  cases o with
  | none =>
    refine ⟨h.agr, fun j d hj hL => ?_⟩
    have hne : j ≠ i := fun e => by subst e; rw [hi] at hj; cases hj
    exact oth j d hne hj hL
  | some d =>
    refine ⟨h.agr.put (List.mem_filterMap.2 ⟨some d, List.mem_of_getElem? hi, rfl⟩) v, fun j d' hj hL => ?_⟩
    rw [ev_put]
    by_cases e : j = i
    · subst e
      rw [hi] at hj
      cases hj
      rw [if_pos ⟨rfl, by rw [h.agr.size]; exact hz _ rfl⟩, List.getD_eq_getElem?_getD, List.getElem?_set_self (by omega)]
      rfl
    · rw [if_neg (fun x => far_ne hd hi hj (Ne.symm e) x.1)]
      exact oth j d' e hj hL

/-- All that has come up, put into the frame. -/
def putAll : Act → List (Option Nat) → List Value → Act
  | a, [], _ => a
  | a, _ :: _, [] => a
  | a, d :: ds, v :: vs => putAll (a.put d v) ds vs
theorem putAll_def : ∀ (ds : List (Option Nat)) (vs : List Value) (a : Act), (putAll a ds vs).defers = a.defers
  | [], _, _ => rfl
  | _ :: _, [], _ => rfl
  | d :: ds, v :: vs, a => by
    rw [putAll, putAll_def ds vs]
    cases d <;> rfl
theorem putAll_size : ∀ (ds : List (Option Nat)) (vs : List Value) (a : Act), (putAll a ds vs).tmps.size = a.tmps.size
  | [], _, _ => rfl
  | _ :: _, [], _ => rfl
  | d :: ds, v :: vs, a => by
    rw [putAll, putAll_size ds vs]
    cases d with
    | none => rfl
    | some d => exact size_put a d v
theorem putAll_off : ∀ (ds : List (Option Nat)) (vs : List Value) (a : Act) (t : Nat), t ∉ ds.filterMap id → (putAll a ds vs).tmps.getD t undef = a.tmps.getD t undef
  | [], _, _, _, _ => rfl
  | _ :: _, [], _, _, _ => rfl
  | d :: ds, v :: vs, a, t, ht => by
    have h2 : t ∉ ds.filterMap id := fun h => ht (by
      obtain ⟨x, h1, h2⟩ := List.mem_filterMap.1 h
      exact List.mem_filterMap.2 ⟨x, List.mem_cons_of_mem _ h1, h2⟩)
    rw [putAll, putAll_off ds vs _ t h2]
    cases d with
    | none => rfl
    | some d =>
      rw [ev_put, if_neg]
      rintro ⟨rfl, _⟩
      exact ht (List.mem_filterMap.2 ⟨some d, List.mem_cons_self, rfl⟩)
theorem putAll_on : ∀ (ds : List (Option Nat)) (vs : List Value) (a : Act) (i t : Nat), vs.length = ds.length → (ds.Pairwise fun a b => a = none ∨ a ≠ b) → ds[i]? = some (some t) → t < a.tmps.size → (putAll a ds vs).tmps.getD t undef = vs.getD i undef
  | [], _, _, _, _, _, _, h, _ => by simp at h
  | _ :: _, [], _, _, _, h, _, _, _ => by simp at h
  | d :: ds, v :: vs, a, 0, t, hl, hd, hi, hz => by
    simp at hi
    subst hi
    rw [putAll, putAll_off, ev_put, if_pos ⟨rfl, hz⟩]
    · rfl
    · intro h
      obtain ⟨x, h1, h2⟩ := List.mem_filterMap.1 h
      have := (List.pairwise_cons.1 hd).1 x h1
      simp at h2
      rw [h2] at this
      simp at this
  | d :: ds, v :: vs, a, i + 1, t, hl, hd, hi, hz => by
    rw [putAll, putAll_on ds vs _ i t (by simpa using hl) (List.pairwise_cons.1 hd).2 (by simpa using hi) (by
      cases d with
      | none => exact hz
      | some d => rw [size_put]; exact hz)]
    simp

theorem Sl.fin {a0 a : Act} {ds : List (Option Nat)} {L : List Bool} {vs : List Value} (h : Sl a0 ds L vs a) (hd : ds.Pairwise fun a b => a = none ∨ a ≠ b) (hl : vs.length = ds.length) (hL : ∀ i, i < ds.length → L[i]? = some true) (hz : ∀ d, some d ∈ ds → d < a0.tmps.size) : a = putAll a0 ds vs := by
  refine Act.same (h.agr.def'.trans (putAll_def ds vs a0).symm) (h.agr.size.trans (putAll_size ds vs a0).symm) fun t => ?_
  by_cases ht : t ∈ ds.filterMap id
  · obtain ⟨x, h1, h2⟩ := List.mem_filterMap.1 ht
    simp at h2
    subst h2
    obtain ⟨i, hi, e⟩ := List.mem_iff_getElem.1 h1
    have hi' : ds[i]? = some (some t) := List.getElem?_eq_some_iff.2 ⟨hi, e⟩
    rw [h.at' i t hi' (hL i hi), putAll_on ds vs a0 i t hl hd hi' (hz t h1)]
  · rw [h.agr.ev t ht, putAll_off ds vs a0 t ht]

/-- Each operation waits for earlier ones alone. -/
def lowOps (ops : Array Oper) : Bool := (List.range ops.size).all fun i => ((ops[i]?).map fun o => o.after.all fun e => !Region.binds .any e || decide (e.on < i)).getD true

/-- A region that draws its order: an invariant over what has come up, and the values that it has put. -/
theorem region_inv {id : Nat} {ops : Array Oper} {Q : Exit → Act → World → Prop} {a0 : Act} {w0 : World} (hm : Try.prog.follows .mixedOrders = true) (n : Nat) (hn : ops.size = n) (ds : List (Option Nat)) (hds : ops.toList.map (·.dst) = ds)
    (hd : ds.Pairwise fun a b => a = none ∨ a ≠ b) (hz : (ds.all fun o => o.all fun d => decide (d < a0.tmps.size)) = true) (hlow : lowOps ops = true)
    (Inv : List Bool → List Value → World → Prop) (h0 : Inv (List.replicate n false) (List.replicate n undef) { w0 with drawn := w0.drawn + 1 })
    (hstep : ∀ L vs a w i o, L.length = n → vs.length = n → Sl a0 ds L vs a → Inv L vs w → L[i]? = some false → ops[i]? = some o → (∀ e ∈ o.after, Region.binds .any e = true → L[e.on]? = some true) →
      wpOp Try.prog ops Q i (fun a' w' => ∃ v, a' = a.put o.dst v ∧ Inv (L.set i true) (vs.set i v) w') a w)
    (hend : ∀ vs w, vs.length = n → Inv (List.replicate n true) vs w → Q .normal (putAll a0 ds vs) w) :
    (Code.region id ops true).wp Try.prog Q a0 w0 := by
  have hdl : ds.length = n := by rw [← hds, List.length_map, Array.length_toList, hn]
  have hzz : ∀ d, some d ∈ ds → d < a0.tmps.size := fun d h => by
    have := List.all_eq_true.1 hz _ h
    simpa using this
  refine wp_region_any hm ?_
  refine wpAny_inv (fun L a w => ∃ vs, L.size = n ∧ vs.length = n ∧ Sl a0 ds L.toList vs a ∧ Inv L.toList vs w) ?_ ?_ _ _ _ _ ?_ ?_
  · rintro L a w ⟨vs, hL, hv, hS, hI⟩ i hi
    obtain ⟨hun, o, ho, haf⟩ := mem_ready.1 hi
    have hin : i < n := by rw [← hn]; exact (Array.getElem?_eq_some_iff.1 ho).1
    have hun' : L.toList[i]? = some false := by
      rw [Array.getElem?_toList, Array.getElem?_eq_getElem (by omega)]
      rw [Array.getD_eq_getD_getElem?, Array.getElem?_eq_getElem (by omega)] at hun
      simpa using hun
    have hdi : ds[i]? = some o.dst := by
      rw [← hds, List.getElem?_map, Array.getElem?_toList, ho]; rfl
    refine wpOp_mono ?_ (hstep L.toList vs a w i o (by simpa using hL) hv hS hI hun' ho (fun e he hb => ?_))
    · rintro a' w' ⟨v, rfl, hI'⟩
      refine ⟨vs.set i v, by simpa using hL, by simpa using hv, ?_, ?_⟩
      · rw [Array.toList_setIfInBounds]
        exact hS.put hd (by omega) hdi (fun d e => hzz d (by rw [← e]; exact List.mem_of_getElem? hdi)) v
      · rw [Array.toList_setIfInBounds]; exact hI'
    · have := haf e he hb
      rw [Array.getElem?_toList]
      rw [Array.getD_eq_getD_getElem?] at this
      cases hx : L[e.on]? with
      | none => rw [hx] at this; simp at this
      | some b => rw [hx] at this; simp at this; rw [this]
  · rintro L a w ⟨vs, hL, hv, hS, hI⟩ hr
    have hall : ∀ i, i < n → L.toList[i]? = some true := by
      intro i
      induction i using Nat.strongRecOn with
      | _ i ih =>
        intro hi
        have hlt : i < L.size := by omega
        cases hb : L[i] with
        | true => rw [Array.getElem?_toList, Array.getElem?_eq_getElem hlt, hb]
        | false =>
          exfalso
          have hio : i < ops.size := by omega
          have hmem : i ∈ Region.ready .any ops L := by
            refine mem_ready.2 ⟨by rw [Array.getD_eq_getD_getElem?, Array.getElem?_eq_getElem hlt, hb]; rfl, ops[i], Array.getElem?_eq_getElem hio, fun e he hbd => ?_⟩
            have hlo := List.all_eq_true.1 hlow i (List.mem_range.2 hio)
            rw [Array.getElem?_eq_getElem hio] at hlo
            simp only [Option.map_some, Option.getD_some, Array.all_eq_true_iff_forall_mem, Bool.or_eq_true, Bool.not_eq_true', decide_eq_true_eq] at hlo
            have hon := (hlo e he).resolve_left (by rw [hbd]; simp)
            have := ih e.on hon (by omega)
            rw [Array.getElem?_toList] at this
            rw [Array.getD_eq_getD_getElem?, this]; rfl
          rw [hr] at hmem
          cases hmem
    have hLe : L.toList = List.replicate n true := by
      refine List.ext_getElem? fun i => ?_
      by_cases hi : i < n
      · rw [hall i hi, List.getElem?_replicate_of_lt hi]
      · rw [List.getElem?_eq_none (by simpa using by omega), List.getElem?_eq_none (by simpa using by omega)]
    have ha := hS.fin hd (by omega) (fun i hi => hall i (by omega)) hzz
    rw [ha]
    refine hend vs w hv ?_
    rw [← hLe]; exact hI
  · refine ⟨List.replicate n undef, by simp [hn], by simp, ⟨⟨rfl, rfl, fun _ _ => rfl⟩, fun i d hi hL => ?_⟩, by rw [Array.toList_replicate, hn]; exact h0⟩
    rw [Array.toList_replicate, List.getElem?_replicate] at hL
    split at hL <;> cases hL
  · have : ∀ m, falses (List.replicate m false) = m := fun m => by
      induction m with
      | zero => rfl
      | succ m ih => rw [List.replicate_succ, falses, ih]; simp; omega
    rw [Array.toList_replicate, this]
    exact Nat.le_refl _

/-- The same, by what each operation has put: each says something of its own value, which the others leave. -/
theorem region_res {rid : Nat} {ops : Array Oper} {Q : Exit → Act → World → Prop} {a0 : Act} {w0 : World} (hm : Try.prog.follows .mixedOrders = true) (n : Nat) (hn : ops.size = n) (ds : List (Option Nat)) (hds : ops.toList.map (·.dst) = ds)
    (hd : ds.Pairwise fun a b => a = none ∨ a ≠ b) (hz : (ds.all fun o => o.all fun d => decide (d < a0.tmps.size)) = true) (hlow : lowOps ops = true)
    (S : Nat → List Nat) (Base : World → Prop) (Res : Nat → Value → World → Prop) (h0 : Base { w0 with drawn := w0.drawn + 1 })
    (hstab : ∀ i j v w w', i ≠ j → Base w → Res j v w → Upd (S i) w w' → Res j v w')
    (hstep : ∀ (D : Nat → Prop) (vs : List Value) a w i o, Agr (ds.filterMap id) a0 a → Base w → (∀ j, D j → Res j (vs.getD j undef) w) → (∀ j d, ds[j]? = some (some d) → D j → a.tmps.getD d undef = vs.getD j undef) → i < n → ops[i]? = some o → (∀ e ∈ o.after, Region.binds .any e = true → D e.on) →
      wpOp Try.prog ops Q i (fun a' w' => ∃ v, a' = a.put o.dst v ∧ Base w' ∧ Res i v w' ∧ Upd (S i) w w') a w)
    (hend : ∀ vs w, vs.length = n → Base w → (∀ j, j < n → Res j (vs.getD j undef) w) → Q .normal (putAll a0 ds vs) w) :
    (Code.region rid ops true).wp Try.prog Q a0 w0 := by
  refine region_inv hm n hn ds hds hd hz hlow (fun L vs w => vs.length = n ∧ Base w ∧ ∀ j, L[j]? = some true → Res j (vs.getD j undef) w) ⟨by simp, h0, fun j hj => ?_⟩ ?_ ?_
  · rw [List.getElem?_replicate] at hj
    split at hj <;> cases hj
  · rintro L vs a w i o hL hv hS ⟨_, hB, hR⟩ hun ho haf
    have hin : i < n := by rw [← hn]; exact (Array.getElem?_eq_some_iff.1 ho).1
    refine wpOp_mono ?_ (hstep (fun j => L[j]? = some true) vs a w i o hS.agr hB hR hS.at' hin ho haf)
    rintro a' w' ⟨v, ha, hB', hr, hu⟩
    refine ⟨v, ha, by simpa using hv, hB', fun j hj => ?_⟩
    by_cases e : i = j
    · subst e
      rw [List.getD_eq_getElem?_getD, List.getElem?_set_self (by omega)]
      exact hr
    · rw [List.getElem?_set_ne e] at hj
      have := hstab i j _ w w' e hB (hR j hj) hu
      rw [List.getD_eq_getElem?_getD, List.getElem?_set_ne e, ← List.getD_eq_getElem?_getD]
      exact this
  · rintro vs w hv ⟨_, hB, hR⟩
    exact hend vs w hv hB fun j hj => hR j (List.getElem?_replicate_of_lt hj)
/-- An operation that only reads. -/
theorem wp_pure {o : Oper} {a : Act} {w : World} {K : Act → World → Prop} {Q : Exit → Act → World → Prop} {v : Value} (h : (execOp a.eval o).run Try.prog w = .ok (.value v) w) (hk : K (a.put o.dst v) w) : o.wp Try.prog a w K Q := by
  unfold Oper.wp
  rw [h]
  exact hk

theorem list_cons {α : Type} {n : Nat} {l : List α} (h : l.length = n + 1) : ∃ x r, l = x :: r ∧ r.length = n := by
  cases l with
  | nil => simp at h
  | cons x r => exact ⟨x, r, rfl, by simpa using h⟩

theorem set_true {L : List Bool} {i k : Nat} (hi : i < L.length) : (L.set i true)[k]? = some true ↔ k = i ∨ L[k]? = some true := by
  by_cases e : i = k
  · subst e
    rw [List.getElem?_set_self hi]
    simp
  · rw [List.getElem?_set_ne e]
    constructor
    · exact fun h => Or.inr h
    · rintro (h | h)
      · exact absurd h.symm e
      · exact h

theorem region_resD {rid : Nat} {ops : Array Oper} {Q : Exit → Act → World → Prop} {a0 : Act} {w0 : World} (hm : Try.prog.follows .mixedOrders = true) (n : Nat) (hn : ops.size = n) (ds : List (Option Nat)) (hds : ops.toList.map (·.dst) = ds)
    (hd : ds.Pairwise fun a b => a = none ∨ a ≠ b) (hz : (ds.all fun o => o.all fun d => decide (d < a0.tmps.size)) = true) (hlow : lowOps ops = true)
    (S : Nat → List Nat) (Base : (Nat → Prop) → World → Prop) (Res : Nat → Value → World → Prop) (h0 : Base (fun _ => False) { w0 with drawn := w0.drawn + 1 }) (hext : ∀ D D' w, (∀ j, D j ↔ D' j) → Base D w → Base D' w)
    (hstab : ∀ (D : Nat → Prop) i j v w w', i ≠ j → ¬ D i → D j → (∀ j o', D j → ops[j]? = some o' → ∀ e ∈ o'.after, Region.binds .any e = true → D e.on) → Res j v w → Upd (S i) w w' → Res j v w')
    (hstep : ∀ (D : Nat → Prop) (vs : List Value) a w i o, Agr (ds.filterMap id) a0 a → Base D w → (∀ j, D j → Res j (vs.getD j undef) w) → (∀ j d, ds[j]? = some (some d) → D j → a.tmps.getD d undef = vs.getD j undef) → i < n → ¬ D i → ops[i]? = some o → (∀ e ∈ o.after, Region.binds .any e = true → D e.on) →
      (∀ j o', D j → ops[j]? = some o' → ∀ e ∈ o'.after, Region.binds .any e = true → D e.on) →
      wpOp Try.prog ops Q i (fun a' w' => ∃ v, a' = a.put o.dst v ∧ Base (fun j => j = i ∨ D j) w' ∧ Res i v w' ∧ Upd (S i) w w') a w)
    (hend : ∀ vs w, vs.length = n → Base (fun j => j < n) w → (∀ j, j < n → Res j (vs.getD j undef) w) → Q .normal (putAll a0 ds vs) w) :
    (Code.region rid ops true).wp Try.prog Q a0 w0 := by
  refine region_inv hm n hn ds hds hd hz hlow (fun L vs w => (L.length = n ∧ vs.length = n) ∧ Base (fun j => L[j]? = some true) w ∧ (∀ j, L[j]? = some true → Res j (vs.getD j undef) w) ∧ ∀ (j : Nat) (o' : Oper), L[j]? = some true → ops[j]? = some o' → ∀ e ∈ o'.after, Region.binds .any e = true → L[e.on]? = some true) ⟨⟨by simp, by simp⟩, ?_, fun j hj => ?_, fun j _ hj => ?_⟩ ?_ ?_
  · refine hext _ _ _ (fun j => ⟨fun h => h.elim, fun h => ?_⟩) h0
    rw [List.getElem?_replicate] at h
    split at h <;> cases h
  · rw [List.getElem?_replicate] at hj
    split at hj <;> cases hj
  · rw [List.getElem?_replicate] at hj
    split at hj <;> cases hj
  · rintro L vs a w i o hL hv hS ⟨_, hB, hR, hcl⟩ hun ho haf
    have hin : i < n := by rw [← hn]; exact (Array.getElem?_eq_some_iff.1 ho).1
    refine wpOp_mono ?_ (hstep (fun j => L[j]? = some true) vs a w i o hS.agr hB hR hS.at' hin (by rw [hun]; simp) ho haf hcl)
    rintro a' w' ⟨v, ha, hB', hr, hu⟩
    refine ⟨v, ha, ⟨by simpa using hL, by simpa using hv⟩, hext _ _ _ (fun j => (set_true (by omega)).symm) hB', fun j hj => ?_, fun j o' hj ho' e he hb => ?_⟩
    · by_cases e : i = j
      · subst e
        rw [List.getD_eq_getElem?_getD, List.getElem?_set_self (by omega)]
        exact hr
      · rw [List.getElem?_set_ne e] at hj
        have := hstab (fun j => L[j]? = some true) i j _ w w' e (by rw [hun]; simp) hj hcl (hR j hj) hu
        rw [List.getD_eq_getElem?_getD, List.getElem?_set_ne e, ← List.getD_eq_getElem?_getD]
        exact this
    · rw [set_true (by omega)]
      right
      rcases (set_true (by omega)).1 hj with rfl | h
      · rw [ho] at ho'
        cases ho'
        exact haf e he hb
      · exact hcl j o' h ho' e he hb
  · rintro vs w hv ⟨_, hB, hR, _⟩
    refine hend vs w hv (hext _ _ _ (fun j => ?_) hB) fun j hj => hR j (List.getElem?_replicate_of_lt hj)
    constructor
    · intro h
      rw [List.getElem?_replicate] at h
      split at h
      · assumption
      · cases h
    · exact fun h => List.getElem?_replicate_of_lt h

end Go.Proofs.Ytmdkhkeljpdbiaa
