/- NameOne: whose name is whose, as mathematics; Names of one's own with two boxes beside them. -/
import Derived.Test.YticbafidaakpjaaNmF
namespace Go.Proofs.Yticbafidaakpjaa
open Go.RowKit Go.Maps

theorem nodup_le {α : Type} [DecidableEq α] : ∀ (A B : List α), A.Nodup → (∀ x, x ∈ A → x ∈ B) → A.length ≤ B.length
  | [], _, _, _ => Nat.zero_le _
  | a :: A, B, hA, h => by
    have ha := List.nodup_cons.1 hA
    have hm : a ∈ B := h a List.mem_cons_self
    have h2 := nodup_le A (B.erase a) ha.2 (fun x hx => (List.mem_erase_of_ne (fun e => ha.1 (by rw [← e]; exact hx))).2 (h x (List.mem_cons_of_mem _ hx)))
    rw [List.length_erase_of_mem hm] at h2
    have := List.length_pos_of_mem hm
    simp
    omega
theorem same_len {α : Type} [DecidableEq α] {A B : List α} (hA : A.Nodup) (hB : B.Nodup) (h : ∀ x, x ∈ A ↔ x ∈ B) : A.length = B.length :=
  Nat.le_antisymm (nodup_le A B hA fun x hx => (h x).1 hx) (nodup_le B A hB fun x hx => (h x).2 hx)

/-- Of six processes hv tells who has a name, mv which. -/
def Rel (F : NF) (G : PF) (hv : Nat → Bool) (mv : Nat → BS) : Prop := (∀ s p, F s = some p ↔ G p = some s) ∧ ∀ p s, G p = some s ↔ ∃ k : Nat, k < 6 ∧ p = (k : Int) ∧ hv k = true ∧ mv k = s
variable {F : NF} {G : PF} {hv : Nat → Bool} {mv : Nat → BS}
theorem Rel.start : Rel (fun _ => none) (fun _ => none) (fun _ => false) (fun _ => []) := ⟨fun s p => by simp, fun p s => by simp⟩
theorem Rel.has (h : Rel F G hv mv) {k : Nat} (hk : k < 6) : G (k : Int) = if hv k then some (mv k) else none := by
  cases hh : hv k with
  | true => exact (h.2 _ _).2 ⟨k, hk, rfl, hh, rfl⟩
  | false =>
    cases hG : G (k : Int) with
    | none => rfl
    | some s =>
      obtain ⟨j, _, e, h1, _⟩ := (h.2 _ _).1 hG
      have : k = j := by omega
      rw [← this, hh] at h1
      cases h1
theorem Rel.find (h : Rel F G hv mv) {k : Nat} (hk : k < 6) (hh : hv k = true) : F (mv k) = some (k : Int) := by
  rw [h.1, h.has hk, hh]
  rfl
theorem Rel.own (h : Rel F G hv mv) {s : BS} {p : Int} (hF : F s = some p) : ∃ k : Nat, k < 6 ∧ p = (k : Int) ∧ hv k = true ∧ mv k = s := (h.2 p s).1 ((h.1 s p).1 hF)
theorem Rel.test (h : Rel F G hv mv) {k : Nat} (hk : k < 6) (s : BS) : (hv k && (mv k == s)) = decide (F s = some (k : Int)) := by
  rw [Bool.eq_iff_iff]
  simp only [Bool.and_eq_true, beq_iff_eq, decide_eq_true_eq]
  rw [h.1, h.2]
  constructor
  · rintro ⟨h1, h2⟩; exact ⟨k, hk, rfl, h1, h2⟩
  · rintro ⟨j, _, e, h1, h2⟩
    have : k = j := by omega
    subst this
    exact ⟨h1, h2⟩
/-- One that has a name has none any more. -/
theorem Rel.less (h : Rel F G hv mv) {k : Nat} (hk : k < 6) {s : BS} (hF : F s = some (k : Int)) : Rel (at1 F s none) (at1 G (k : Int) none) (at1 hv k false) mv := by
  have hG := (h.1 _ _).1 hF
  refine ⟨fun s' p' => ?_, fun p' s' => ?_⟩
  · by_cases hs : s' = s
    · subst hs
      rw [at1_same]
      by_cases hp : p' = (k : Int)
      · subst hp; rw [at1_same]; simp
      · rw [at1_other _ _ hp, ← h.1, hF]
        simp
        exact fun e => hp e.symm
    · rw [at1_other _ _ hs]
      by_cases hp : p' = (k : Int)
      · subst hp
        rw [at1_same, h.1, hG]
        simp
        exact fun e => hs e.symm
      · rw [at1_other _ _ hp]; exact h.1 _ _
  · by_cases hp : p' = (k : Int)
    · subst hp
      rw [at1_same]
      constructor
      · intro e; cases e
      · rintro ⟨j, _, e, h1, _⟩
        have : j = k := by omega
        subst this
        rw [at1_same] at h1
        cases h1
    · rw [at1_other _ _ hp, h.2]
      constructor
      · rintro ⟨j, h1, e, h2, h3⟩
        exact ⟨j, h1, e, by rw [at1_other _ _ (fun e2 => hp (by rw [e, e2])), h2], h3⟩
      · rintro ⟨j, h1, e, h2, h3⟩
        rw [at1_other _ _ (fun e2 => hp (by rw [e, e2]))] at h2
        exact ⟨j, h1, e, h2, h3⟩
theorem Rel.none (_h : Rel F G hv mv) {k : Nat} (hh : hv k = false) : at1 hv k false = hv := by
  funext j
  by_cases hj : j = k
  · subst hj; rw [at1_same, hh]
  · rw [at1_other _ _ hj]
/-- One that has none has one. -/
theorem Rel.more (h : Rel F G hv mv) {k : Nat} (hk : k < 6) {s : BS} (hF : F s = Option.none) (hG : G (k : Int) = Option.none) : Rel (at1 F s (some (k : Int))) (at1 G (k : Int) (some s)) (at1 hv k true) (at1 mv k s) := by
  refine ⟨fun s' p' => ?_, fun p' s' => ?_⟩
  · by_cases hs : s' = s
    · subst hs
      rw [at1_same]
      by_cases hp : p' = (k : Int)
      · subst hp; rw [at1_same]; simp
      · rw [at1_other _ _ hp, ← h.1, hF]
        simp
        exact fun e => hp e.symm
    · rw [at1_other _ _ hs]
      by_cases hp : p' = (k : Int)
      · subst hp
        rw [at1_same, h.1, hG]
        simp
        exact fun e => hs e.symm
      · rw [at1_other _ _ hp]; exact h.1 _ _
  · by_cases hp : p' = (k : Int)
    · subst hp
      rw [at1_same]
      constructor
      · intro e
        cases e
        exact ⟨k, hk, rfl, by rw [at1_same], by rw [at1_same]⟩
      · rintro ⟨j, _, e, _, h2⟩
        have : j = k := by omega
        subst this
        rw [at1_same] at h2
        rw [h2]
    · rw [at1_other _ _ hp, h.2]
      constructor
      · rintro ⟨j, h1, e, h2, h3⟩
        have hj : j ≠ k := fun e2 => hp (by rw [e, e2])
        exact ⟨j, h1, e, by rw [at1_other _ _ hj, h2], by rw [at1_other _ _ hj, h3]⟩
      · rintro ⟨j, h1, e, h2, h3⟩
        have hj : j ≠ k := fun e2 => hp (by rw [e, e2])
        rw [at1_other _ _ hj] at h2
        rw [at1_other _ _ hj] at h3
        exact ⟨j, h1, e, h2, h3⟩
/-- How many of the first k have a name. -/
def cnt (hv : Nat → Bool) (k : Nat) : Nat := ((List.range k).filter hv).length
theorem cnt_succ (hv : Nat → Bool) (k : Nat) : cnt hv (k + 1) = cnt hv k + if hv k then 1 else 0 := by
  unfold cnt
  rw [List.range_succ, List.filter_append, List.length_append]
  cases h : hv k <;> simp [h]
theorem cnt_le (hv : Nat → Bool) (k : Nat) : cnt hv k ≤ k := by
  unfold cnt
  exact Nat.le_trans (List.length_filter_le _ _) (by simp)
theorem Rel.count (h : Rel F G hv mv) {ms : List Nd} (hp : ms.Pairwise (fun a b => a.1 < b.1)) (hm : ∀ m : Nd, m ∈ ms ↔ F m.1 = some m.2) : ms.length = cnt hv 6 := by
  have hn : ms.Nodup := hp.imp (fun h e => by rw [e] at h; exact List.lt_irrefl _ h)
  have e1 : cnt hv 6 = (((List.range 6).filter hv).map (fun k => (mv k, (k : Int)))).length := by unfold cnt; simp
  rw [e1]
  refine same_len hn ?_ (fun m => ?_)
  · rw [List.nodup_iff_pairwise_ne, List.pairwise_map]
    have : ((List.range 6).filter hv).Nodup := List.nodup_range.filter _
    exact this.imp (fun hne e => hne (by simp at e; omega))
  · obtain ⟨s, p⟩ := m
    rw [hm, List.mem_map]
    show F s = some p ↔ _
    rw [h.1, h.2]
    constructor
    · rintro ⟨k, h1, h2, h3, h4⟩
      exact ⟨k, by rw [List.mem_filter, List.mem_range]; exact ⟨h1, h3⟩, by rw [h2, h4]⟩
    · rintro ⟨k, h1, h2⟩
      rw [List.mem_filter, List.mem_range] at h1
      cases h2
      exact ⟨k, h1.1, rfl, h1.2, rfl⟩
/-- The owner that the loop has found so far. -/
def owAt (F : NF) (s : BS) (k : Int) : Int := match F s with | some p => if p < k then p else -1 | Option.none => -1
theorem owAt_zero (h : Rel F G hv mv) (s : BS) : owAt F s 0 = -1 := by
  unfold owAt
  cases hF : F s with
  | none => rfl
  | some p =>
    obtain ⟨k, _, e, _⟩ := h.own hF
    have : ¬ p < 0 := by omega
    simp [this]
theorem owAt_hit {s : BS} {k : Nat} (hF : F s = some (k : Int)) : owAt F s ((k : Int) + 1) = (k : Int) := by
  unfold owAt
  rw [hF]
  exact if_pos (by omega)
theorem owAt_miss {s : BS} {k : Nat} (hF : F s ≠ some (k : Int)) : owAt F s ((k : Int) + 1) = owAt F s (k : Int) := by
  unfold owAt
  cases h : F s with
  | none => rfl
  | some p =>
    have : p ≠ (k : Int) := fun e => hF (by rw [h, e])
    simp only
    by_cases h1 : p < (k : Int)
    · rw [if_pos h1, if_pos (by omega)]
    · rw [if_neg h1, if_neg (by omega)]
theorem owAt_end (h : Rel F G hv mv) (s : BS) : owAt F s 6 = (F s).getD (-1) := by
  unfold owAt
  cases hF : F s with
  | none => rfl
  | some p =>
    obtain ⟨k, h1, e, _⟩ := h.own hF
    have : p < 6 := by omega
    simp [this]

/-! ### Names with two boxes beside them -/
def BoxB (w : World) (b : Nat) (hv : Nat → Bool) : Prop := ∃ cs : Array Value, Cl w b cs 42 ∧ cs.size = 6 ∧ ∀ k, k < 6 → cs[k]? = some (.bool (hv k))
def BoxS (w : World) (b : Nat) (mv : Nat → BS) : Prop := ∃ cs : Array Value, Cl w b cs 43 ∧ cs.size = 6 ∧ ∀ k, k < 6 → cs[k]? = some (encStr (mv k))
theorem BoxB.upd {w w' : World} {b : Nat} {S : List Nat} (h : BoxB w b hv) (hu : Upd S w w') (hb : b ∉ S) : BoxB w' b hv := by
  obtain ⟨cs, h1, h2⟩ := h
  exact ⟨cs, h1.upd hu hb, h2⟩
theorem BoxS.upd {w w' : World} {b : Nat} {S : List Nat} (h : BoxS w b mv) (hu : Upd S w w') (hb : b ∉ S) : BoxS w' b mv := by
  obtain ⟨cs, h1, h2⟩ := h
  exact ⟨cs, h1.upd hu hb, h2⟩
theorem BoxB.get {w : World} {b : Nat} (h : BoxB w b hv) {k : Nat} (hk : k < 6) : w.cell? ⟨b, k, none⟩ = some (.bool (hv k)) ∧ w.frozen? ⟨b, k, none⟩ = false := by
  obtain ⟨cs, h1, _, h2⟩ := h
  exact ⟨by rw [h1.cell]; exact h2 k hk, h1.free k⟩
theorem BoxS.get {w : World} {b : Nat} (h : BoxS w b mv) {k : Nat} (hk : k < 6) : w.cell? ⟨b, k, none⟩ = some (encStr (mv k)) ∧ w.frozen? ⟨b, k, none⟩ = false := by
  obtain ⟨cs, h1, _, h2⟩ := h
  exact ⟨by rw [h1.cell]; exact h2 k hk, h1.free k⟩
theorem upd_set (w : World) (b k : Nat) (v : Value) : Upd [b] w (w.setCell ⟨b, k, none⟩ v) := (Upd.refl [b] w).setCell (Or.inr (by simp)) v
theorem BoxB.set {w : World} {b : Nat} (h : BoxB w b hv) {k : Nat} (hk : k < 6) (v : Bool) : BoxB (w.setCell ⟨b, k, none⟩ (.bool v)) b (at1 hv k v) := by
  obtain ⟨cs, h1, h0, h2⟩ := h
  refine ⟨_, h1.set k _, by simp [h0], fun j hj => ?_⟩
  rw [Array.getElem?_setIfInBounds]
  by_cases hjk : k = j
  · subst hjk
    rw [if_pos rfl, if_pos (by omega), at1_same]
  · rw [if_neg hjk, h2 j hj, at1_other _ _ (fun e => hjk e.symm)]
theorem BoxS.set {w : World} {b : Nat} (h : BoxS w b mv) {k : Nat} (hk : k < 6) (v : BS) : BoxS (w.setCell ⟨b, k, none⟩ (encStr v)) b (at1 mv k v) := by
  obtain ⟨cs, h1, h0, h2⟩ := h
  refine ⟨_, h1.set k _, by simp [h0], fun j hj => ?_⟩
  rw [Array.getElem?_setIfInBounds]
  by_cases hjk : k = j
  · subst hjk
    rw [if_pos rfl, if_pos (by omega), at1_same]
  · rw [if_neg hjk, h2 j hj, at1_other _ _ (fun e => hjk e.symm)]

theorem NmO.updS {w w' : World} {l n b1 b2 : Nat} {S : List Nat} (o : NmO w l n b1 b2 F G) (hu : Upd S w w') (hl : l ∉ S) (h1 : b1 ∉ S) (h2 : b2 ∉ S) : NmO w' l n b1 b2 F G :=
  ⟨o.row.upd hu hl, MapB.upP o.byN hu.toP h1, MapB.upP o.byP hu.toP h2, o.ne, o.two⟩

structure On (w wr : World) (l n bh bm : Nat) (F : NF) (G : PF) (hv : Nat → Bool) (mv : Nat → BS) : Prop where
  obj : ∃ b1 b2, NmO wr l n b1 b2 F G ∧ w.heap.size ≤ b1 ∧ w.heap.size ≤ b2
  hasB : BoxB wr bh hv
  minB : BoxS wr bm mv
  hb : w.heap.size ≤ bh
  mb : w.heap.size ≤ bm
  hm : bh ≠ bm
  hl : bh ≠ l
  ml : bm ≠ l
  up : Upd [] w wr
theorem On.upd {w wr w2 : World} {l n bh bm : Nat} (h : On w wr l n bh bm F G hv mv) (hu : Upd [] wr w2) : On w w2 l n bh bm F G hv mv := by
  obtain ⟨b1, b2, o, h1, h2⟩ := h.obj
  exact ⟨⟨b1, b2, o.upd hu, h1, h2⟩, h.hasB.upd hu (by simp), h.minB.upd hu (by simp), h.hb, h.mb, h.hm, h.hl, h.ml, h.up.trans hu⟩
theorem On.le {w wr : World} {l n m bh bm : Nat} (h : On w wr l n bh bm F G hv mv) (hn : n ≤ m) : On w wr l m bh bm F G hv mv := by
  obtain ⟨b1, b2, o, h1, h2⟩ := h.obj
  exact ⟨⟨b1, b2, o.le hn, h1, h2⟩, h.hasB, h.minB, h.hb, h.mb, h.hm, h.hl, h.ml, h.up⟩
theorem On.step {w wr w2 : World} {l n n' bh bm b1 b2 : Nat} {F' : NF} {G' : PF} (h : On w wr l n bh bm F G hv mv) (o : NmO wr l n b1 b2 F G) (h1 : w.heap.size ≤ b1) (h2 : w.heap.size ≤ b2) (o2 : NmO w2 l n' b1 b2 F' G') (hu : Upd [b1, b2] wr w2) : On w w2 l n' bh bm F' G' hv mv := by
  have hbh : bh ∉ [b1, b2] := by
    obtain ⟨cs, hc, _⟩ := h.hasB
    have e1 := MapB.ne o.byN hc
    have e2 := MapB.ne o.byP hc
    simp
    exact ⟨fun e => e1 e.symm, fun e => e2 e.symm⟩
  have hbm : bm ∉ [b1, b2] := by
    obtain ⟨cs, hc, _⟩ := h.minB
    have e1 := MapB.ne o.byN hc
    have e2 := MapB.ne o.byP hc
    simp
    exact ⟨fun e => e1 e.symm, fun e => e2 e.symm⟩
  refine ⟨⟨b1, b2, o2, h1, h2⟩, h.hasB.upd hu hbh, h.minB.upd hu hbm, h.hb, h.mb, h.hm, h.hl, h.ml, h.up.then hu (fun x hx => Or.inl ?_)⟩
  simp at hx
  rcases hx with rfl | rfl <;> assumption
theorem On.setB {w wr : World} {l n bh bm : Nat} (h : On w wr l n bh bm F G hv mv) {k : Nat} (hk : k < 6) (v : Bool) : On w (wr.setCell ⟨bh, k, none⟩ (.bool v)) l n bh bm F G (at1 hv k v) mv := by
  obtain ⟨b1, b2, o, h1, h2⟩ := h.obj
  have hu := upd_set wr bh k (.bool v)
  obtain ⟨cs, hc, _⟩ := h.hasB
  have e1 := MapB.ne o.byN hc
  have e2 := MapB.ne o.byP hc
  refine ⟨⟨b1, b2, o.updS hu (by simp; exact fun e => h.hl e.symm) (by simpa using e1) (by simpa using e2), h1, h2⟩, h.hasB.set hk v, h.minB.upd hu (by simp; exact fun e => h.hm e.symm), h.hb, h.mb, h.hm, h.hl, h.ml, h.up.then hu (fun x hx => Or.inl ?_)⟩
  simp at hx
  subst hx
  exact h.hb
theorem On.setS {w wr : World} {l n bh bm : Nat} (h : On w wr l n bh bm F G hv mv) {k : Nat} (hk : k < 6) (v : BS) : On w (wr.setCell ⟨bm, k, none⟩ (encStr v)) l n bh bm F G hv (at1 mv k v) := by
  obtain ⟨b1, b2, o, h1, h2⟩ := h.obj
  have hu := upd_set wr bm k (encStr v)
  obtain ⟨cs, hc, _⟩ := h.minB
  have e1 := MapB.ne o.byN hc
  have e2 := MapB.ne o.byP hc
  refine ⟨⟨b1, b2, o.updS hu (by simp; exact fun e => h.ml e.symm) (by simpa using e1) (by simpa using e2), h1, h2⟩, h.hasB.upd hu (by simp; exact fun e => h.hm e), h.minB.set hk v, h.hb, h.mb, h.hm, h.hl, h.ml, h.up.then hu (fun x hx => Or.inl ?_)⟩
  simp at hx
  subst hx
  exact h.mb

theorem on_end {w wr : World} {l n bh bm : Nat} (h : On w wr l n bh bm F G hv mv) {p : Int} (hp : I64 p) :
    Calls Try.prog 9 #[.pointer (some ⟨l, 0, none⟩), .int .i64 p] wr fun e w' => ∃ v, e = .returned v ∧ TR w' v (G p).toList ∧ On w w' l n bh bm (match G p with | some s => at1 F s none | none => F) (at1 G p none) hv mv := by
  obtain ⟨b1, b2, o, h1, h2⟩ := h.obj
  refine (end_any o hp).mono ?_
  rintro e w' ⟨he, o2, hu⟩
  have ho := h.step o h1 h2 o2 hu
  cases hG : G p with
  | none =>
    rw [hG] at he ho
    exact ⟨_, he, TR.nil w', ho⟩
  | some s =>
    rw [hG] at he ho
    obtain ⟨g, hg, he, hc⟩ := he
    exact ⟨_, he, TR.one hc, ho⟩
theorem on_take {w wr : World} {l n bh bm : Nat} (h : On w wr l n bh bm F G hv mv) {s : BS} (hs : okB s) :
    Calls Try.prog 8 #[.pointer (some ⟨l, 0, none⟩), encStr s] wr fun e w' => e = .returned (.bool (F s).isSome) ∧ On w w' l n bh bm (at1 F s none) (match F s with | some p => at1 G p none | none => G) hv mv := by
  obtain ⟨b1, b2, o, h1, h2⟩ := h.obj
  refine (take_any o hs).mono ?_
  rintro e w' ⟨rfl, o2, hu⟩
  exact ⟨rfl, h.step o h1 h2 o2 hu⟩
theorem on_put {w wr : World} {l n bh bm : Nat} (h : On w wr l n bh bm F G hv mv) (hn : n < 1000000000) {s : BS} (hs : s.length ≤ 1000000000) {p : Int} (hp : I64 p) (hF : F s = none) (hG : G p = none) :
    Calls Try.prog 7 #[.pointer (some ⟨l, 0, none⟩), encStr s, .int .i64 p] wr fun e w' => e = .returned (.bool true) ∧ On w w' l (n + 1) bh bm (at1 F s (some p)) (at1 G p (some s)) hv mv := by
  obtain ⟨b1, b2, o, h1, h2⟩ := h.obj
  refine (put_new o hn hs hp hF hG).mono ?_
  rintro e w' ⟨rfl, o2, hu⟩
  exact ⟨rfl, h.step o h1 h2 o2 hu⟩
theorem on_put_no {w wr : World} {l n bh bm : Nat} (h : On w wr l n bh bm F G hv mv) {s : BS} (hs : okB s) {p : Int} (hp : I64 p) (hb : ((F s).isNone && (G p).isNone) = false) :
    Calls Try.prog 7 #[.pointer (some ⟨l, 0, none⟩), encStr s, .int .i64 p] wr fun e w' => e = .returned (.bool false) ∧ On w w' l n bh bm F G hv mv := by
  obtain ⟨b1, b2, o, h1, h2⟩ := h.obj
  refine (put_old o hs hp hb).mono ?_
  rintro e w' ⟨rfl, hu⟩
  exact ⟨rfl, h.upd hu⟩
theorem on_find {w wr : World} {l n bh bm : Nat} (h : On w wr l n bh bm F G hv mv) {s : BS} (hs : okB s) :
    Calls Try.prog 6 #[.pointer (some ⟨l, 0, none⟩), encStr s] wr fun e w' => e = .returned (.tuple #[.int .i64 ((F s).getD 0), .bool (F s).isSome]) ∧ Upd [] wr w' := by
  obtain ⟨b1, b2, o, h1, h2⟩ := h.obj
  exact find_any o hs
theorem on_all {w wr : World} {l n bh bm : Nat} (h : On w wr l n bh bm F G hv mv) (hn : n ≤ 1000000000) :
    Calls Try.prog 10 #[.pointer (some ⟨l, 0, none⟩)] wr fun e w' => ∃ v ms, e = .returned v ∧ MR w' wr.heap.size v ms ∧ ms.Pairwise (fun a b => a.1 < b.1) ∧ (∀ m : Nd, m ∈ ms ↔ F m.1 = some m.2) ∧ Upd [] wr w' := by
  obtain ⟨b1, b2, o, h1, h2⟩ := h.obj
  exact all_any wr l n b1 b2 F G o hn
theorem On.key {w wr : World} {l n bh bm : Nat} (h : On w wr l n bh bm F G hv mv) {s : BS} {p : Int} (hF : F s = some p) : okB s := by
  obtain ⟨b1, b2, o, h1, h2⟩ := h.obj
  exact (o.keyN hF).1

end Go.Proofs.Yticbafidaakpjaa
