/- A drawn assignment 'x, y := f(a), g(b)' of terms: whatever its order, by one invariant. -/
import Derived.Test.YtejcppnleckmfaaDoorNsB
import Derived.Orders
namespace Go.Proofs.YtejcppnleckmfaaDoor
open Go.RowKit

/-- How many have not come up. -/
def falses : List Bool → Nat
  | [] => 0
  | b :: l => (if b then 0 else 1) + falses l

theorem falses_set : ∀ (l : List Bool) (i : Nat), l[i]? = some false → falses (l.set i true) + 1 = falses l
  | [], i, h => by simp at h
  | b :: l, 0, h => by simp at h; subst h; simp [falses]; omega
  | b :: l, i + 1, h => by
    have := falses_set l i (by simpa using h)
    simp only [List.set_cons_succ, falses]
    omega

section
variable {P : Program} {ops : Array Oper} {Q : Exit → Act → World → Prop} {md : Region.Mode}

/-- An invariant over what has come up. -/
theorem wpAny_inv (I : Array Bool → Act → World → Prop)
    (hstep : ∀ L a w, I L a w → ∀ i, i ∈ Region.ready md ops L → wpOp P ops Q i (I (L.setIfInBounds i true)) a w)
    (hend : ∀ L a w, I L a w → Region.ready md ops L = [] → Q .normal a w) :
    ∀ (fuel : Nat) (L : Array Bool) (a : Act) (w : World), I L a w → falses L.toList ≤ fuel → wpAny P md ops Q fuel L a w := by
  intro fuel
  induction fuel with
  | zero =>
    intro L a w h hf
    have hr : Region.ready md ops L = [] := by
      cases hr : Region.ready md ops L with
      | nil => rfl
      | cons i r =>
        exfalso
        have hi : i ∈ Region.ready md ops L := by rw [hr]; exact List.mem_cons_self
        have h1 := (mem_ready.1 hi).1
        have h2 : L.toList[i]? = some false := by
          rw [Array.getElem?_toList]
          by_cases hlt : i < L.size
          · rw [Array.getD_eq_getD_getElem?, Array.getElem?_eq_getElem hlt] at h1
            rw [Array.getElem?_eq_getElem hlt]
            simpa using h1
          · rw [Array.getD_eq_getD_getElem?, Array.getElem?_eq_none (by omega)] at h1
            simp at h1
        have := falses_set _ _ h2
        omega
    exact ⟨hr, hend L a w h hr⟩
  | succ fuel ih =>
    intro L a w h hf
    refine ⟨fun hr => hend L a w h hr, fun i hi => wpOp_mono (fun a' w' h' => ih _ a' w' h' ?_) (hstep L a w h i hi)⟩
    have h1 := (mem_ready.1 hi).1
    have h2 : L.toList[i]? = some false := by
      rw [Array.getElem?_toList]
      by_cases hlt : i < L.size
      · rw [Array.getD_eq_getD_getElem?, Array.getElem?_eq_getElem hlt] at h1
        rw [Array.getElem?_eq_getElem hlt]
        simpa using h1
      · rw [Array.getD_eq_getD_getElem?, Array.getElem?_eq_none (by omega)] at h1
        simp at h1
    have := falses_set _ _ h2
    rw [Array.toList_setIfInBounds]
    omega
end

/-- Two frames that agree but in these slots. -/
structure Agr (S : List Nat) (a b : Act) : Prop where
  def' : b.defers = a.defers
  size : b.tmps.size = a.tmps.size
  ev : ∀ t, t ∉ S → b.tmps.getD t undef = a.tmps.getD t undef

theorem ev_put (a : Act) (t t' : Nat) (v : Value) : (a.put (some t) v).tmps.getD t' undef = if t = t' ∧ t < a.tmps.size then v else a.tmps.getD t' undef := by
  unfold Act.put
  simp only [Array.getD_eq_getD_getElem?, Array.getElem?_setIfInBounds]
  by_cases h : t = t'
  · subst h
    by_cases h2 : t < a.tmps.size
    · simp [h2]
    · simp [h2]
  · simp [h]
theorem size_put (a : Act) (t : Nat) (v : Value) : (a.put (some t) v).tmps.size = a.tmps.size := by simp [Act.put]
theorem Agr.put {S : List Nat} {a b : Act} (h : Agr S a b) {t : Nat} (ht : t ∈ S) (v : Value) : Agr S a (b.put (some t) v) :=
  ⟨h.def', by rw [size_put]; exact h.size, fun u hu => by
    rw [ev_put, if_neg (fun (e : t = u ∧ t < b.tmps.size) => hu (e.1 ▸ ht))]; exact h.ev u hu⟩
theorem Act.same {a b : Act} (hd : b.defers = a.defers) (hs : b.tmps.size = a.tmps.size) (h : ∀ t, b.tmps.getD t undef = a.tmps.getD t undef) : b = a := by
  obtain ⟨x, y⟩ := a
  obtain ⟨x', y'⟩ := b
  simp only at hd hs h
  subst hd
  congr 1
  refine Array.ext hs fun i h1 h2 => ?_
  have := h i
  simp only [Array.getD_eq_getD_getElem?, Array.getElem?_eq_getElem h1, Array.getElem?_eq_getElem h2] at this
  simpa using this

theorem ops_wp {P : Program} {ops : Array Oper} {Q : Exit → Act → World → Prop} {i : Nat} {K : Act → World → Prop} {a : Act} {w : World} {o : Oper} (ho : ops[i]? = some o) (hg : o.guard = none) (h : o.wp P a w K Q) : wpOp P ops Q i K a w := by
  unfold wpOp
  simp only [ho, Region.wanted, hg, if_true]
  exact Or.inl h
theorem wp_call' {o : Oper} {a : Act} {w : World} {K : Act → World → Prop} {Q : Exit → Act → World → Prop} {f s : Nat} {ats : Array TypeId} (ho : o.op = .call { callee := .value (.func f), args := #[.tmp s], argTypes := ats })
    (eg : ∀ args w, (callFunc f args).run Tryd.prog w = .ok (.enter f args) w) {v : Value} (hv : a.tmps.getD s undef = v) {R : Value → World → Prop} (hc : Calls Tryd.prog f #[v] w fun e w' => ∃ u, e = .returned u ∧ R u w') (h : ∀ u w', R u w' → K (a.put o.dst u) w') : o.wp Tryd.prog a w K Q := by
  unfold Oper.wp execOp
  have e : a.eval (.tmp s) = v := hv
  simp [ho, resolve, Deferred.ofValue, invoke, Act.eval, hv, eg, Oper.upon]
  refine hc.mono ?_
  rintro e w' ⟨u, rfl, hR⟩
  exact h u w' hR
theorem wp_alloc' {o : Oper} {a : Act} {w : World} {K : Act → World → Prop} {Q : Exit → Act → World → Prop} (ho : o.op = .alloc 25) (h : K (a.put o.dst (.pointer (some ⟨w.heap.size, 0, none⟩))) (w.alloc (.cells #[.int .u8 0, .string ⟨#[]⟩, .int .i64 0, .int .i64 0, .slice none 0 0] 25))) : o.wp Tryd.prog a w K Q := by
  have hz : (execOp a.eval o).run Tryd.prog w = .ok (.value (.pointer (some ⟨w.heap.size, 0, none⟩))) (w.alloc (.cells #[.int .u8 0, .string ⟨#[]⟩, .int .i64 0, .int .i64 0, .slice none 0 0] 25)) := by
    unfold execOp
    simp only [ho]
    kernel_rfl
  unfold Oper.wp
  rw [hz]
  exact h

/-- What the six slots hold. -/
structure Slots (a0 : Act) (sA rA sB rB x y : Nat) (v0 v1 v2 v3 v4 v5 : Value) (a : Act) : Prop where
  agr : Agr [sA, rA, sB, rB, x, y] a0 a
  s0 : a.tmps.getD sA undef = v0
  s1 : a.tmps.getD rA undef = v1
  s2 : a.tmps.getD sB undef = v2
  s3 : a.tmps.getD rB undef = v3
  s4 : a.tmps.getD x undef = v4
  s5 : a.tmps.getD y undef = v5

/-- What is known while the assignment runs: which of the first six have come up. -/
structure TwoV (w0 : World) (csA csB : Array Value) (RA RB : (Nat → Prop) → Array Value → World → Prop) (b0 b1 b2 b3 b4 b5 : Bool) (v0 v1 v2 v3 v4 v5 : Value) (w : World) : Prop where
  upd : Upd [] w0 w
  e0 : b0 = true → v0 = .agg csA
  e2 : b2 = true → v2 = .agg csB
  e1 : b1 = true → ∃ X PX, v1 = .agg X ∧ X.size = 5 ∧ X.all (·.oneCell') = true ∧ RA PX X w ∧ (∀ z, PX z → z < w.heap.size) ∧
    (b4 = true → ∀ g, v4 = .pointer (some ⟨g, 0, none⟩) → ¬ PX g) ∧ (b5 = true → ∀ g, v5 = .pointer (some ⟨g, 0, none⟩) → ¬ PX g)
  e3 : b3 = true → ∃ X PX, v3 = .agg X ∧ X.size = 5 ∧ X.all (·.oneCell') = true ∧ RB PX X w ∧ (∀ z, PX z → z < w.heap.size) ∧
    (b4 = true → ∀ g, v4 = .pointer (some ⟨g, 0, none⟩) → ¬ PX g) ∧ (b5 = true → ∀ g, v5 = .pointer (some ⟨g, 0, none⟩) → ¬ PX g)
  e4 : b4 = true → ∃ g, v4 = .pointer (some ⟨g, 0, none⟩) ∧ w0.heap.size ≤ g ∧ Tb w g #[.int .u8 0, .string ⟨#[]⟩, .int .i64 0, .int .i64 0, .slice none 0 0]
  e5 : b5 = true → ∃ g, v5 = .pointer (some ⟨g, 0, none⟩) ∧ w0.heap.size ≤ g ∧ Tb w g #[.int .u8 0, .string ⟨#[]⟩, .int .i64 0, .int .i64 0, .slice none 0 0]
  ne : b4 = true → b5 = true → v4 ≠ v5
  c3 : b3 = true → b2 = true

/-- .. once the first store has come up. -/
def TwoS (w0 : World) (csA csB : Array Value) (RA RB : (Nat → Prop) → Array Value → World → Prop) (v0 v1 v2 v3 v4 v5 : Value) (w : World) : Prop :=
  Upd [] w0 w ∧ v0 = .agg csA ∧ v2 = .agg csB ∧ ∃ X PX Y PY g h, v1 = .agg X ∧ X.size = 5 ∧ RA PX X w ∧ v3 = .agg Y ∧ Y.size = 5 ∧ Y.all (·.oneCell') = true ∧ RB PY Y w ∧
    v4 = .pointer (some ⟨g, 0, none⟩) ∧ v5 = .pointer (some ⟨h, 0, none⟩) ∧ w0.heap.size ≤ g ∧ w0.heap.size ≤ h ∧ g ≠ h ∧ Tb w g X ∧ Tb w h #[.int .u8 0, .string ⟨#[]⟩, .int .i64 0, .int .i64 0, .slice none 0 0] ∧ ¬ PX h ∧ ¬ PY h

section
variable {w0 w w' : World} {csA csB : Array Value} {RA RB : (Nat → Prop) → Array Value → World → Prop} {b0 b1 b2 b3 b4 b5 : Bool} {v0 v1 v2 v3 v4 v5 : Value}

theorem TwoV.load0 (h : TwoV w0 csA csB RA RB b0 b1 b2 b3 b4 b5 v0 v1 v2 v3 v4 v5 w) : TwoV w0 csA csB RA RB true b1 b2 b3 b4 b5 (.agg csA) v1 v2 v3 v4 v5 w :=
  ⟨h.upd, fun _ => rfl, h.e2, h.e1, h.e3, h.e4, h.e5, h.ne, h.c3⟩
theorem TwoV.load2 (h : TwoV w0 csA csB RA RB b0 b1 b2 b3 b4 b5 v0 v1 v2 v3 v4 v5 w) : TwoV w0 csA csB RA RB b0 b1 true b3 b4 b5 v0 v1 (.agg csB) v3 v4 v5 w :=
  ⟨h.upd, h.e0, fun _ => rfl, h.e1, h.e3, h.e4, h.e5, h.ne, fun _ => rfl⟩
theorem TwoV.call1 (stB : ∀ PX X w w' U, RB PX X w → Upd U w w' → (∀ z, PX z → z ∉ U) → RB PX X w') (h : TwoV w0 csA csB RA RB b0 b1 b2 b3 b4 b5 v0 v1 v2 v3 v4 v5 w) (hu : Upd [] w w') {X : Array Value} {PX : Nat → Prop} (h7 : X.size = 5) (h1 : X.all (·.oneCell') = true) (hR : RA PX X w') (hP : ∀ z, PX z → w.heap.size ≤ z ∧ z < w'.heap.size) :
    TwoV w0 csA csB RA RB b0 true b2 b3 b4 b5 v0 (.agg X) v2 v3 v4 v5 w' :=
  ⟨h.upd.trans hu, h.e0, h.e2, fun _ => ⟨X, PX, rfl, h7, h1, hR, fun z hz => (hP z hz).2, fun hb g hg hz => by
      obtain ⟨g', e, _, ht⟩ := h.e4 hb
      rw [hg] at e; cases e
      have := (hP g hz).1; have := ht.lt; omega, fun hb g hg hz => by
      obtain ⟨g', e, _, ht⟩ := h.e5 hb
      rw [hg] at e; cases e
      have := (hP g hz).1; have := ht.lt; omega⟩,
    fun hb => by
      obtain ⟨Y, PY, k1, k2, k3, k4, k5, k6, k7⟩ := h.e3 hb
      exact ⟨Y, PY, k1, k2, k3, stB _ _ _ _ _ k4 hu (fun z _ => by simp), fun z hz => Nat.lt_of_lt_of_le (k5 z hz) hu.size, k6, k7⟩,
    fun hb => by obtain ⟨g, k1, k2, k3⟩ := h.e4 hb; exact ⟨g, k1, k2, k3.mono hu (by simp)⟩,
    fun hb => by obtain ⟨g, k1, k2, k3⟩ := h.e5 hb; exact ⟨g, k1, k2, k3.mono hu (by simp)⟩, h.ne, h.c3⟩
theorem TwoV.call3 (stA : ∀ PX X w w' U, RA PX X w → Upd U w w' → (∀ z, PX z → z ∉ U) → RA PX X w') (h : TwoV w0 csA csB RA RB b0 b1 b2 b3 b4 b5 v0 v1 v2 v3 v4 v5 w) (hb2 : b2 = true) (hu : Upd [] w w') {X : Array Value} {PX : Nat → Prop} (h7 : X.size = 5) (h1 : X.all (·.oneCell') = true) (hR : RB PX X w') (hP : ∀ z, PX z → w.heap.size ≤ z ∧ z < w'.heap.size) :
    TwoV w0 csA csB RA RB b0 b1 b2 true b4 b5 v0 v1 v2 (.agg X) v4 v5 w' :=
  ⟨h.upd.trans hu, h.e0, h.e2, fun hb => by
      obtain ⟨Y, PY, k1, k2, k3, k4, k5, k6, k7⟩ := h.e1 hb
      exact ⟨Y, PY, k1, k2, k3, stA _ _ _ _ _ k4 hu (fun z _ => by simp), fun z hz => Nat.lt_of_lt_of_le (k5 z hz) hu.size, k6, k7⟩,
    fun _ => ⟨X, PX, rfl, h7, h1, hR, fun z hz => (hP z hz).2, fun hb g hg hz => by
      obtain ⟨g', e, _, ht⟩ := h.e4 hb
      rw [hg] at e; cases e
      have := (hP g hz).1; have := ht.lt; omega, fun hb g hg hz => by
      obtain ⟨g', e, _, ht⟩ := h.e5 hb
      rw [hg] at e; cases e
      have := (hP g hz).1; have := ht.lt; omega⟩,
    fun hb => by obtain ⟨g, k1, k2, k3⟩ := h.e4 hb; exact ⟨g, k1, k2, k3.mono hu (by simp)⟩,
    fun hb => by obtain ⟨g, k1, k2, k3⟩ := h.e5 hb; exact ⟨g, k1, k2, k3.mono hu (by simp)⟩, h.ne, fun _ => hb2⟩
theorem TwoV.grow (stA : ∀ PX X w w' U, RA PX X w → Upd U w w' → (∀ z, PX z → z ∉ U) → RA PX X w') (stB : ∀ PX X w w' U, RB PX X w → Upd U w w' → (∀ z, PX z → z ∉ U) → RB PX X w')
    (h : TwoV w0 csA csB RA RB b0 b1 b2 b3 b4 b5 v0 v1 v2 v3 v4 v5 w) (hu : Upd [] w w') : TwoV w0 csA csB RA RB b0 b1 b2 b3 b4 b5 v0 v1 v2 v3 v4 v5 w' :=
  ⟨h.upd.trans hu, h.e0, h.e2, fun hb => by
      obtain ⟨Y, PY, k1, k2, k3, k4, k5, k6, k7⟩ := h.e1 hb
      exact ⟨Y, PY, k1, k2, k3, stA _ _ _ _ _ k4 hu (fun z _ => by simp), fun z hz => Nat.lt_of_lt_of_le (k5 z hz) hu.size, k6, k7⟩,
    fun hb => by
      obtain ⟨Y, PY, k1, k2, k3, k4, k5, k6, k7⟩ := h.e3 hb
      exact ⟨Y, PY, k1, k2, k3, stB _ _ _ _ _ k4 hu (fun z _ => by simp), fun z hz => Nat.lt_of_lt_of_le (k5 z hz) hu.size, k6, k7⟩,
    fun hb => by obtain ⟨g, k1, k2, k3⟩ := h.e4 hb; exact ⟨g, k1, k2, k3.mono hu (by simp)⟩,
    fun hb => by obtain ⟨g, k1, k2, k3⟩ := h.e5 hb; exact ⟨g, k1, k2, k3.mono hu (by simp)⟩, h.ne, h.c3⟩
theorem TwoV.alloc4 (stA : ∀ PX X w w' U, RA PX X w → Upd U w w' → (∀ z, PX z → z ∉ U) → RA PX X w') (stB : ∀ PX X w w' U, RB PX X w → Upd U w w' → (∀ z, PX z → z ∉ U) → RB PX X w')
    (h : TwoV w0 csA csB RA RB b0 b1 b2 b3 b4 b5 v0 v1 v2 v3 v4 v5 w) : TwoV w0 csA csB RA RB b0 b1 b2 b3 true b5 v0 v1 v2 v3 (.pointer (some ⟨w.heap.size, 0, none⟩)) v5 (w.alloc (.cells #[.int .u8 0, .string ⟨#[]⟩, .int .i64 0, .int .i64 0, .slice none 0 0] 25)) := by
  have hh := h.grow stA stB ((Upd.refl [] w).alloc (.cells #[.int .u8 0, .string ⟨#[]⟩, .int .i64 0, .int .i64 0, .slice none 0 0] 25))
  refine ⟨hh.upd, hh.e0, hh.e2, fun hb => ?_, fun hb => ?_, fun _ => ⟨w.heap.size, rfl, h.upd.size, Tb.new _ _ _ rfl⟩, hh.e5, fun _ hb e => ?_, h.c3⟩
  · obtain ⟨_, PY0, _, _, _, _, k50, _⟩ := h.e1 hb
    obtain ⟨Y, PY, k1, k2, k3, k4, k5, k6, k7⟩ := h.e1 hb
    exact ⟨Y, PY, k1, k2, k3, stA _ _ _ _ _ k4 ((Upd.refl [] w).alloc _) (fun z _ => by simp), fun z hz => by have := k5 z hz; simp; omega, fun _ g hg hz => by cases hg; have := k5 _ hz; omega, k7⟩
  · obtain ⟨Y, PY, k1, k2, k3, k4, k5, k6, k7⟩ := h.e3 hb
    exact ⟨Y, PY, k1, k2, k3, stB _ _ _ _ _ k4 ((Upd.refl [] w).alloc _) (fun z _ => by simp), fun z hz => by have := k5 z hz; simp; omega, fun _ g hg hz => by cases hg; have := k5 _ hz; omega, k7⟩
  · obtain ⟨g, k1, _, k3⟩ := h.e5 hb
    rw [k1] at e; cases e
    have := k3.lt; omega
theorem TwoV.alloc5 (stA : ∀ PX X w w' U, RA PX X w → Upd U w w' → (∀ z, PX z → z ∉ U) → RA PX X w') (stB : ∀ PX X w w' U, RB PX X w → Upd U w w' → (∀ z, PX z → z ∉ U) → RB PX X w')
    (h : TwoV w0 csA csB RA RB b0 b1 b2 b3 b4 b5 v0 v1 v2 v3 v4 v5 w) : TwoV w0 csA csB RA RB b0 b1 b2 b3 b4 true v0 v1 v2 v3 v4 (.pointer (some ⟨w.heap.size, 0, none⟩)) (w.alloc (.cells #[.int .u8 0, .string ⟨#[]⟩, .int .i64 0, .int .i64 0, .slice none 0 0] 25)) := by
  have hh := h.grow stA stB ((Upd.refl [] w).alloc (.cells #[.int .u8 0, .string ⟨#[]⟩, .int .i64 0, .int .i64 0, .slice none 0 0] 25))
  refine ⟨hh.upd, hh.e0, hh.e2, fun hb => ?_, fun hb => ?_, hh.e4, fun _ => ⟨w.heap.size, rfl, h.upd.size, Tb.new _ _ _ rfl⟩, fun hb _ e => ?_, h.c3⟩
  · obtain ⟨Y, PY, k1, k2, k3, k4, k5, k6, k7⟩ := h.e1 hb
    exact ⟨Y, PY, k1, k2, k3, stA _ _ _ _ _ k4 ((Upd.refl [] w).alloc _) (fun z _ => by simp), fun z hz => by have := k5 z hz; simp; omega, k6, fun _ g hg hz => by cases hg; have := k5 _ hz; omega⟩
  · obtain ⟨Y, PY, k1, k2, k3, k4, k5, k6, k7⟩ := h.e3 hb
    exact ⟨Y, PY, k1, k2, k3, stB _ _ _ _ _ k4 ((Upd.refl [] w).alloc _) (fun z _ => by simp), fun z hz => by have := k5 z hz; simp; omega, k6, fun _ g hg hz => by cases hg; have := k5 _ hz; omega⟩
  · obtain ⟨g, k1, _, k3⟩ := h.e4 hb
    rw [k1] at e; cases e
    have := k3.lt; omega
end

set_option maxHeartbeats 4000000 in
theorem two_region {id F G tA tB sA rA sB rB x y : Nat} {ty0 ty1 ty2 ty3 ty4 ty5 ty6 ty7 : TypeId} {p0 p1 p2 p3 p4 p5 p6 p7 : String} {ats bts : Array TypeId} {Q : Exit → Act → World → Prop} {a0 : Act} {w0 : World} (hm : Tryd.prog.follows .mixedOrders = true)
    (hd : [sA, rA, sB, rB, x, y].Nodup ∧ tA ∉ [sA, rA, sB, rB, x, y] ∧ tB ∉ [sA, rA, sB, rB, x, y]) (hsz : [sA, rA, sB, rB, x, y].all (· < a0.tmps.size) = true)
    (bA bB : Nat) (csA csB : Array Value) (hA : a0.tmps.getD tA undef = .pointer (some ⟨bA, 0, none⟩)) (hB : a0.tmps.getD tB undef = .pointer (some ⟨bB, 0, none⟩)) (tAb : Tb w0 bA csA) (tBb : Tb w0 bB csB) (hcA : csA.size = 5) (hcB : csB.size = 5)
    (egF : ∀ args w, (callFunc F args).run Tryd.prog w = .ok (.enter F args) w) (egG : ∀ args w, (callFunc G args).run Tryd.prog w = .ok (.enter G args) w)
    (RA RB : (Nat → Prop) → Array Value → World → Prop)
    (stA : ∀ PX X w w' U, RA PX X w → Upd U w w' → (∀ z, PX z → z ∉ U) → RA PX X w') (stB : ∀ PX X w w' U, RB PX X w → Upd U w w' → (∀ z, PX z → z ∉ U) → RB PX X w')
    (hF : ∀ V, Upd [] w0 V → Calls Tryd.prog F #[.agg csA] V fun e w' => ∃ u, e = .returned u ∧ Upd [] V w' ∧ ∃ X PX, u = .agg X ∧ X.size = 5 ∧ X.all (·.oneCell') = true ∧ RA PX X w' ∧ ∀ z, PX z → V.heap.size ≤ z ∧ z < w'.heap.size)
    (hG : ∀ V, Upd [] w0 V → Calls Tryd.prog G #[.agg csB] V fun e w' => ∃ u, e = .returned u ∧ Upd [] V w' ∧ ∃ X PX, u = .agg X ∧ X.size = 5 ∧ X.all (·.oneCell') = true ∧ RB PX X w' ∧ ∀ z, PX z → V.heap.size ≤ z ∧ z < w'.heap.size)
    (hQ : ∀ g h X Y PX PY w', g ≠ h → w0.heap.size ≤ g → w0.heap.size ≤ h → X.size = 5 → Y.size = 5 → Tb w' g X → Tb w' h Y → RA PX X w' → RB PY Y w' → Upd [] w0 w' →
      Q .normal ((((((a0.put (some sA) (.agg csA)).put (some rA) (.agg X)).put (some sB) (.agg csB)).put (some rB) (.agg Y)).put (some x) (.pointer (some ⟨g, 0, none⟩))).put (some y) (.pointer (some ⟨h, 0, none⟩))) w') :
    (Code.region id #[{ dst := some sA, op := .load 25 (.tmp tA), type := ty0, pos := p0, after := #[], guard := none },
      { dst := some rA, op := .call { callee := .value (.func F), args := #[.tmp sA], argTypes := ats }, type := ty1, pos := p1, after := #[⟨0, .data⟩], guard := none },
      { dst := some sB, op := .load 25 (.tmp tB), type := ty2, pos := p2, after := #[], guard := none },
      { dst := some rB, op := .call { callee := .value (.func G), args := #[.tmp sB], argTypes := bts }, type := ty3, pos := p3, after := #[⟨2, .data⟩, ⟨1, .chain⟩], guard := none },
      { dst := some x, op := .alloc 25, type := ty4, pos := p4, after := #[], guard := none },
      { dst := some y, op := .alloc 25, type := ty5, pos := p5, after := #[], guard := none },
      { dst := none, op := .store 25 (.tmp x) (.tmp rA), type := ty6, pos := p6, after := #[⟨4, .data⟩, ⟨1, .data⟩, ⟨3, .chain⟩, ⟨0, .phase⟩, ⟨1, .phase⟩, ⟨2, .textOnly .lateStores⟩, ⟨3, .textOnly .lateStoresUnsure⟩, ⟨4, .phase⟩, ⟨5, .phase⟩], guard := none },
      { dst := none, op := .store 25 (.tmp y) (.tmp rB), type := ty7, pos := p7, after := #[⟨5, .data⟩, ⟨3, .data⟩, ⟨6, .chain⟩, ⟨0, .phase⟩, ⟨1, .phase⟩, ⟨2, .phase⟩, ⟨3, .phase⟩, ⟨4, .phase⟩, ⟨5, .phase⟩, ⟨6, .phase⟩], guard := none }] true).wp Tryd.prog Q a0 w0 := by
  obtain ⟨hnd, htA, htB⟩ := hd
  simp only [List.nodup_cons, List.mem_cons, List.not_mem_nil, or_false, not_or, List.nodup_nil, not_false_eq_true, and_true] at hnd htA htB
  obtain ⟨⟨d01, d02, d03, d04, d05⟩, ⟨d12, d13, d14, d15⟩, ⟨d23, d24, d25⟩, ⟨d34, d35⟩, d45⟩ := hnd
  simp only [List.all_cons, List.all_nil, Bool.and_true, Bool.and_eq_true, decide_eq_true_eq] at hsz
  obtain ⟨z0, z1, z2, z3, z4, z5⟩ := hsz
  have hnA : tA ∉ [sA, rA, sB, rB, x, y] := by simp only [List.mem_cons, List.not_mem_nil, or_false, not_or]; exact htA
  have hnB : tB ∉ [sA, rA, sB, rB, x, y] := by simp only [List.mem_cons, List.not_mem_nil, or_false, not_or]; exact htB
  obtain ⟨ops, hops⟩ : ∃ o : Array Oper, o = #[{ dst := some sA, op := .load 25 (.tmp tA), type := ty0, pos := p0, after := #[], guard := none }, { dst := some rA, op := .call { callee := .value (.func F), args := #[.tmp sA], argTypes := ats }, type := ty1, pos := p1, after := #[⟨0, .data⟩], guard := none }, { dst := some sB, op := .load 25 (.tmp tB), type := ty2, pos := p2, after := #[], guard := none }, { dst := some rB, op := .call { callee := .value (.func G), args := #[.tmp sB], argTypes := bts }, type := ty3, pos := p3, after := #[⟨2, .data⟩, ⟨1, .chain⟩], guard := none }, { dst := some x, op := .alloc 25, type := ty4, pos := p4, after := #[], guard := none }, { dst := some y, op := .alloc 25, type := ty5, pos := p5, after := #[], guard := none }, { dst := none, op := .store 25 (.tmp x) (.tmp rA), type := ty6, pos := p6, after := #[⟨4, .data⟩, ⟨1, .data⟩, ⟨3, .chain⟩, ⟨0, .phase⟩, ⟨1, .phase⟩, ⟨2, .textOnly .lateStores⟩, ⟨3, .textOnly .lateStoresUnsure⟩, ⟨4, .phase⟩, ⟨5, .phase⟩], guard := none }, { dst := none, op := .store 25 (.tmp y) (.tmp rB), type := ty7, pos := p7, after := #[⟨5, .data⟩, ⟨3, .data⟩, ⟨6, .chain⟩, ⟨0, .phase⟩, ⟨1, .phase⟩, ⟨2, .phase⟩, ⟨3, .phase⟩, ⟨4, .phase⟩, ⟨5, .phase⟩, ⟨6, .phase⟩], guard := none }] := ⟨_, rfl⟩
  refine wp_region_any hm ?_
  rw [← hops]
  have e10 : ¬ rA = sA := fun e => d01 e.symm
  have e20 : ¬ sB = sA := fun e => d02 e.symm
  have e30 : ¬ rB = sA := fun e => d03 e.symm
  have e40 : ¬ x = sA := fun e => d04 e.symm
  have e50 : ¬ y = sA := fun e => d05 e.symm
  have e21 : ¬ sB = rA := fun e => d12 e.symm
  have e31 : ¬ rB = rA := fun e => d13 e.symm
  have e41 : ¬ x = rA := fun e => d14 e.symm
  have e51 : ¬ y = rA := fun e => d15 e.symm
  have e32 : ¬ rB = sB := fun e => d23 e.symm
  have e42 : ¬ x = sB := fun e => d24 e.symm
  have e52 : ¬ y = sB := fun e => d25 e.symm
  have e43 : ¬ x = rB := fun e => d34 e.symm
  have e53 : ¬ y = rB := fun e => d35 e.symm
  have e54 : ¬ y = x := fun e => d45 e.symm
  have p0 : ∀ {v0 v1 v2 v3 v4 v5 : Value} {a : Act}, Slots a0 sA rA sB rB x y v0 v1 v2 v3 v4 v5 a → ∀ u, Slots a0 sA rA sB rB x y u v1 v2 v3 v4 v5 (a.put (some sA) u) := fun h u => by
    have hs := h.agr.size
    refine ⟨h.agr.put (by simp) u, ?_, ?_, ?_, ?_, ?_, ?_⟩ <;> simp only [ev_put] <;> simp [*, h.s1, h.s2, h.s3, h.s4, h.s5]
  have p1 : ∀ {v0 v1 v2 v3 v4 v5 : Value} {a : Act}, Slots a0 sA rA sB rB x y v0 v1 v2 v3 v4 v5 a → ∀ u, Slots a0 sA rA sB rB x y v0 u v2 v3 v4 v5 (a.put (some rA) u) := fun h u => by
    have hs := h.agr.size
    refine ⟨h.agr.put (by simp) u, ?_, ?_, ?_, ?_, ?_, ?_⟩ <;> simp only [ev_put] <;> simp [*, h.s0, h.s2, h.s3, h.s4, h.s5]
  have p2 : ∀ {v0 v1 v2 v3 v4 v5 : Value} {a : Act}, Slots a0 sA rA sB rB x y v0 v1 v2 v3 v4 v5 a → ∀ u, Slots a0 sA rA sB rB x y v0 v1 u v3 v4 v5 (a.put (some sB) u) := fun h u => by
    have hs := h.agr.size
    refine ⟨h.agr.put (by simp) u, ?_, ?_, ?_, ?_, ?_, ?_⟩ <;> simp only [ev_put] <;> simp [*, h.s0, h.s1, h.s3, h.s4, h.s5]
  have p3 : ∀ {v0 v1 v2 v3 v4 v5 : Value} {a : Act}, Slots a0 sA rA sB rB x y v0 v1 v2 v3 v4 v5 a → ∀ u, Slots a0 sA rA sB rB x y v0 v1 v2 u v4 v5 (a.put (some rB) u) := fun h u => by
    have hs := h.agr.size
    refine ⟨h.agr.put (by simp) u, ?_, ?_, ?_, ?_, ?_, ?_⟩ <;> simp only [ev_put] <;> simp [*, h.s0, h.s1, h.s2, h.s4, h.s5]
  have p4 : ∀ {v0 v1 v2 v3 v4 v5 : Value} {a : Act}, Slots a0 sA rA sB rB x y v0 v1 v2 v3 v4 v5 a → ∀ u, Slots a0 sA rA sB rB x y v0 v1 v2 v3 u v5 (a.put (some x) u) := fun h u => by
    have hs := h.agr.size
    refine ⟨h.agr.put (by simp) u, ?_, ?_, ?_, ?_, ?_, ?_⟩ <;> simp only [ev_put] <;> simp [*, h.s0, h.s1, h.s2, h.s3, h.s5]
  have p5 : ∀ {v0 v1 v2 v3 v4 v5 : Value} {a : Act}, Slots a0 sA rA sB rB x y v0 v1 v2 v3 v4 v5 a → ∀ u, Slots a0 sA rA sB rB x y v0 v1 v2 v3 v4 u (a.put (some y) u) := fun h u => by
    have hs := h.agr.size
    refine ⟨h.agr.put (by simp) u, ?_, ?_, ?_, ?_, ?_, ?_⟩ <;> simp only [ev_put] <;> simp [*, h.s0, h.s1, h.s2, h.s3, h.s4]
  have fin : ∀ {X Y : Array Value} {g h : Nat} {a : Act}, Slots a0 sA rA sB rB x y (.agg csA) (.agg X) (.agg csB) (.agg Y) (.pointer (some ⟨g, 0, none⟩)) (.pointer (some ⟨h, 0, none⟩)) a → a = ((((((a0.put (some sA) (.agg csA)).put (some rA) (.agg X)).put (some sB) (.agg csB)).put (some rB) (.agg Y)).put (some x) (.pointer (some ⟨g, 0, none⟩))).put (some y) (.pointer (some ⟨h, 0, none⟩))) := fun {X Y g h a} hS => by
    have k0 : Slots a0 sA rA sB rB x y (a0.tmps.getD sA undef) (a0.tmps.getD rA undef) (a0.tmps.getD sB undef) (a0.tmps.getD rB undef) (a0.tmps.getD x undef) (a0.tmps.getD y undef) a0 := ⟨⟨rfl, rfl, fun _ _ => rfl⟩, rfl, rfl, rfl, rfl, rfl, rfl⟩
    have k1 := p5 (p4 (p3 (p2 (p1 (p0 k0 (.agg csA)) (.agg X)) (.agg csB)) (.agg Y)) (.pointer (some ⟨g, 0, none⟩))) (.pointer (some ⟨h, 0, none⟩))
    refine Act.same (hS.agr.def'.trans k1.agr.def'.symm) (hS.agr.size.trans k1.agr.size.symm) fun t => ?_
    by_cases ht : t ∈ [sA, rA, sB, rB, x, y]
    · simp only [List.mem_cons, List.not_mem_nil, or_false] at ht
      rcases ht with rfl | rfl | rfl | rfl | rfl | rfl
      · exact hS.s0.trans k1.s0.symm
      · exact hS.s1.trans k1.s1.symm
      · exact hS.s2.trans k1.s2.symm
      · exact hS.s3.trans k1.s3.symm
      · exact hS.s4.trans k1.s4.symm
      · exact hS.s5.trans k1.s5.symm
    · exact (hS.agr.ev t ht).trans (k1.agr.ev t ht).symm
  obtain ⟨fs, hdesc⟩ := term_desc
  refine wpAny_inv (fun L a w => (∃ b0 b1 b2 b3 b4 b5 v0 v1 v2 v3 v4 v5, L = #[b0, b1, b2, b3, b4, b5, false, false] ∧ Slots a0 sA rA sB rB x y v0 v1 v2 v3 v4 v5 a ∧ TwoV w0 csA csB RA RB b0 b1 b2 b3 b4 b5 v0 v1 v2 v3 v4 v5 w) ∨
    (L = #[true, true, true, true, true, true, true, false] ∧ ∃ v0 v1 v2 v3 v4 v5, Slots a0 sA rA sB rB x y v0 v1 v2 v3 v4 v5 a ∧ TwoS w0 csA csB RA RB v0 v1 v2 v3 v4 v5 w) ∨ (L = #[true, true, true, true, true, true, true, true] ∧ Q .normal a w)) ?hstep ?hend _ _ _ _ ?h0 ?hf
  case h0 =>
    refine Or.inl ⟨false, false, false, false, false, false, _, _, _, _, _, _, by rw [hops]; rfl, ⟨⟨rfl, rfl, fun _ _ => rfl⟩, rfl, rfl, rfl, rfl, rfl, rfl⟩, ⟨(Upd.refl [] w0).drew, ?_, ?_, ?_, ?_, ?_, ?_, ?_, ?_⟩⟩ <;> intro h <;> cases h
  case hf => rw [hops]; exact (by decide : falses [false, false, false, false, false, false, false, false] ≤ 8)
  case hend =>
    intro L a w hI hr
    have hno : ∀ i, i ∉ Region.ready .any ops L := fun i hi => by rw [hr] at hi; cases hi
    rcases hI with ⟨b0, b1, b2, b3, b4, b5, v0, v1, v2, v3, v4, v5, rfl, _, _⟩ | ⟨rfl, _⟩ | ⟨rfl, h⟩
    · exfalso
      have n0 := hno 0
      have n1 := hno 1
      have n2 := hno 2
      have n3 := hno 3
      have n4 := hno 4
      have n5 := hno 5
      have n6 := hno 6
      rw [mem_ready] at n0 n1 n2 n3 n4 n5 n6
      rw [hops] at n0 n1 n2 n3 n4 n5 n6
      simp [Region.binds] at n0 n1 n2 n3 n4 n5 n6
      simp_all
    · exfalso
      have n7 := hno 7
      rw [mem_ready, hops] at n7
      simp [Region.binds] at n7
    · exact h
  case hstep =>
    intro L a w hI i hi
    obtain ⟨hun, o, ho, haf⟩ := mem_ready.1 hi
    rw [hops] at ho
    have hi8 : i < 8 := by
      have := Array.getElem?_eq_some_iff.1 ho
      obtain ⟨h, _⟩ := this
      simpa using h
    rcases hI with ⟨b0, b1, b2, b3, b4, b5, v0, v1, v2, v3, v4, v5, rfl, hS, hV⟩ | ⟨rfl, v0, v1, v2, v3, v4, v5, hS, hV⟩ | ⟨rfl, h⟩
    · have hc : i = 0 ∨ i = 1 ∨ i = 2 ∨ i = 3 ∨ i = 4 ∨ i = 5 ∨ i = 6 ∨ i = 7 := by omega
      rcases hc with rfl | rfl | rfl | rfl | rfl | rfl | rfl | rfl
      · refine ops_wp (by rw [hops]; rfl) rfl (wp_load_row 25 (.tmp tA) rfl bA ((hS.agr.ev tA hnA).trans hA) 25 csA (0, 0) _ (tAb.mono hV.upd (by simp)) hdesc rfl (by rw [info_term, hcA]) ?_)
        exact Or.inl ⟨true, b1, b2, b3, b4, b5, _, _, _, _, _, _, rfl, p0 hS _, hV.load0⟩
      · have hb0 : b0 = true := by cases ho; simpa [Region.binds] using haf
        refine ops_wp (by rw [hops]; rfl) rfl (wp_call' rfl egF (hS.s0.trans (hV.e0 hb0)) (hF w hV.upd) ?_)
        rintro u w' ⟨hu, X, PX, rfl, h7, h1, hR, hP⟩
        exact Or.inl ⟨b0, true, b2, b3, b4, b5, _, _, _, _, _, _, rfl, p1 hS _, hV.call1 stB hu h7 h1 hR hP⟩
      · refine ops_wp (by rw [hops]; rfl) rfl (wp_load_row 25 (.tmp tB) rfl bB ((hS.agr.ev tB hnB).trans hB) 25 csB (0, 0) _ (tBb.mono hV.upd (by simp)) hdesc rfl (by rw [info_term, hcB]) ?_)
        exact Or.inl ⟨b0, b1, true, b3, b4, b5, _, _, _, _, _, _, rfl, p2 hS _, hV.load2⟩
      · have hb2 : b2 = true ∧ b1 = true := by cases ho; simpa [Region.binds] using haf
        refine ops_wp (by rw [hops]; rfl) rfl (wp_call' rfl egG (hS.s2.trans (hV.e2 hb2.1)) (hG w hV.upd) ?_)
        rintro u w' ⟨hu, X, PX, rfl, h7, h1, hR, hP⟩
        exact Or.inl ⟨b0, b1, b2, true, b4, b5, _, _, _, _, _, _, rfl, p3 hS _, hV.call3 stA hb2.1 hu h7 h1 hR hP⟩
      · refine ops_wp (by rw [hops]; rfl) rfl (wp_alloc' rfl ?_)
        exact Or.inl ⟨b0, b1, b2, b3, true, b5, _, _, _, _, _, _, rfl, p4 hS _, hV.alloc4 stA stB⟩
      · refine ops_wp (by rw [hops]; rfl) rfl (wp_alloc' rfl ?_)
        exact Or.inl ⟨b0, b1, b2, b3, b4, true, _, _, _, _, _, _, rfl, p5 hS _, hV.alloc5 stA stB⟩
      · have hb : b4 = true ∧ b1 = true ∧ b3 = true ∧ b0 = true ∧ b5 = true := by cases ho; simp [Region.binds] at haf; simp_all
        obtain ⟨rfl, rfl, rfl, rfl, rfl⟩ := hb
        obtain ⟨X, PX, rfl, x7, x1, xR, xP, x4, x5⟩ := hV.e1 rfl
        obtain ⟨Y, PY, rfl, y7, y1, yR, yP, y4, y5⟩ := hV.e3 rfl
        obtain ⟨g, rfl, hg, tg⟩ := hV.e4 rfl
        obtain ⟨h, rfl, hh, th⟩ := hV.e5 rfl
        have hne : g ≠ h := fun e => hV.ne rfl rfl (by rw [e])
        refine ops_wp (by rw [hops]; rfl) rfl (wp_store_row 25 (.tmp x) (.tmp rA) rfl g X hS.s4 hS.s1 25 #[.int .u8 0, .string ⟨#[]⟩, .int .i64 0, .int .i64 0, .slice none 0 0] tg (by rw [info_term, x7]) (by rw [x7]; rfl) x1 ?_)
        have hb2 : b2 = true := hV.c3 rfl
        subst hb2
        refine Or.inr (Or.inl ⟨rfl, _, _, _, _, _, _, hS, hV.upd.then (setRow_upd w g X) (fun z hz => by simp at hz; subst hz; exact Or.inl hg), hV.e0 rfl, hV.e2 rfl, X, PX, Y, PY, g, h, rfl, x7, stA _ _ _ _ _ xR (setRow_upd w g X) (fun z hz hm => ?_), rfl, y7, y1, stB _ _ _ _ _ yR (setRow_upd w g X) (fun z hz hm => ?_), rfl, rfl, hg, hh, hne, setRow_tb tg X, th.mono (setRow_upd w g X) (by simp; exact fun e => hne e.symm), x5 rfl h rfl, y5 rfl h rfl⟩)
        · simp at hm; subst hm; exact x4 rfl _ rfl hz
        · simp at hm; subst hm; exact y4 rfl _ rfl hz
      · exfalso
        cases ho
        simp [Region.binds] at haf
    · have hc : i = 7 := by
        have hc : i = 0 ∨ i = 1 ∨ i = 2 ∨ i = 3 ∨ i = 4 ∨ i = 5 ∨ i = 6 ∨ i = 7 := by omega
        rcases hc with rfl | rfl | rfl | rfl | rfl | rfl | rfl | rfl <;> simp at hun ⊢
      subst hc
      obtain ⟨hu, rfl, rfl, X, PX, Y, PY, g, h, rfl, x7, xR, rfl, y7, y1, yR, rfl, rfl, hg, hh, hne, tg, th, xh, yh⟩ := hV
      refine ops_wp (by rw [hops]; rfl) rfl (wp_store_row 25 (.tmp y) (.tmp rB) rfl h Y hS.s5 hS.s3 25 #[.int .u8 0, .string ⟨#[]⟩, .int .i64 0, .int .i64 0, .slice none 0 0] th (by rw [info_term, y7]) (by rw [y7]; rfl) y1 ?_)
      refine Or.inr (Or.inr ⟨rfl, ?_⟩)
      have ha := fin hS
      show Q .normal a _
      rw [ha]
      exact hQ g h X Y PX PY _ hne hg hh x7 y7 (tg.mono (setRow_upd w h Y) (by simp; exact hne)) (setRow_tb th Y) (stA _ _ _ _ _ xR (setRow_upd w h Y) (fun z hz hm => by simp at hm; subst hm; exact xh hz)) (stB _ _ _ _ _ yR (setRow_upd w h Y) (fun z hz hm => by simp at hm; subst hm; exact yh hz)) (hu.then (setRow_upd w h Y) (fun z hz => by simp at hz; subst hz; exact Or.inl hh))
    · exfalso
      have hc : i = 0 ∨ i = 1 ∨ i = 2 ∨ i = 3 ∨ i = 4 ∨ i = 5 ∨ i = 6 ∨ i = 7 := by omega
      rcases hc with rfl | rfl | rfl | rfl | rfl | rfl | rfl | rfl <;> simp at hun

end Go.Proofs.YtejcppnleckmfaaDoor
