/- Two appends and a node of their row, in whatever order the rest comes up. -/
import Derived.Test.YtpgjcedonimgnaaDoorJAV

namespace Go.Proofs.YtpgjcedonimgnaaDoor
open Go.RowKit

/-- What has come up: the empty row, the first append, the second, the node's block. -/
structure ApS (d : Nat) (W : World) (A B : List Nd) (b0 b3 b6 b8 : Bool) (v0 v3 v6 v8 : Value) (w : World) : Prop where
  u : Upd [] W w
  r0 : b0 = true → b3 = false → OwnK d W w v0 []
  r3 : b3 = true → b6 = false → OwnK d W w v3 A
  r6 : b6 = true → OwnK d W w v6 (A ++ B)
  s6 : b6 = true → ∃ a n c, v6 = .slice a n c
  r8 : b8 = true → ∃ g, v8 = .pointer (some ⟨g, 0, none⟩) ∧ W.heap.size ≤ g ∧ Tb w g #[.int .u8 0, .string ⟨#[]⟩, .int .i64 0, .int .i64 0, .slice none 0 0] ∧ (b0 = true → b3 = false → v0.ownBlock ≠ some g) ∧ (b3 = true → b6 = false → v3.ownBlock ≠ some g) ∧ (b6 = true → v6.ownBlock ≠ some g)
variable {d : Nat} {W : World} {A B : List Nd} {b0 b3 b6 b8 : Bool} {v0 v3 v6 v8 : Value} {w : World}
theorem OwnK.lt {K : List Nd} {v : Value} (h : OwnK d W w v K) : ∀ g, v.ownBlock = some g → g < w.heap.size := h.row.lt
/-- What makes new memory alone. -/
theorem ApS.mono (h : ApS d W A B b0 b3 b6 b8 v0 v3 v6 v8 w) {w' : World} (hu : Upd [] w w') : ApS d W A B b0 b3 b6 b8 v0 v3 v6 v8 w' :=
  ⟨h.u.trans hu, fun x y => (h.r0 x y).upd hu (by simp), fun x y => (h.r3 x y).upd hu (by simp), fun x => (h.r6 x).upd hu (by simp), h.s6, fun x => by
    obtain ⟨g, e, hg, ht, k⟩ := h.r8 x
    exact ⟨g, e, hg, ht.mono hu (by simp), k⟩⟩
theorem there_zero (w : World) (g : Nat) : w.there g 0 (0 * 5) := fun j hj => by omega
/-- The empty row. -/
theorem ApS.first (h : ApS d W A B false false false b8 v0 v3 v6 v8 w) : ApS d W A B true false false b8 (.slice (some ⟨w.heap.size, 0, none⟩) 0 0) v3 v6 v8 (w.alloc (.cells #[] 29)) := by
  have hu : Upd [] w (w.alloc (.cells #[] 29)) := (Upd.refl [] w).alloc _
  have h' := h.mono hu
  refine ⟨h'.u, fun _ _ => ⟨Or.inr ⟨w.heap.size, 0, rfl, by simp, Nat.le_refl _, Nat.zero_le _, there_zero _ _⟩, fun g e => (by cases e; exact h.u.size), fun _ => [], Hs.zero _ _ _ _, fun i hi => by simp at hi⟩, fun x => absurd x (by simp), fun x => absurd x (by simp), fun x => absurd x (by simp), fun x => ?_⟩
  obtain ⟨g, e, hg, ht, k⟩ := h.r8 x
  refine ⟨g, e, hg, ht.mono hu (by simp), fun _ _ e => ?_, fun x => absurd x (by simp), fun x => absurd x (by simp)⟩
  have h1 := ht.lt
  have : w.heap.size = g := by injection e
  omega
/-- The node's block. -/
theorem ApS.block (h : ApS d W A B b0 b3 b6 false v0 v3 v6 v8 w) : ApS d W A B b0 b3 b6 true v0 v3 v6 (.pointer (some ⟨w.heap.size, 0, none⟩)) (w.alloc (.cells #[.int .u8 0, .string ⟨#[]⟩, .int .i64 0, .int .i64 0, .slice none 0 0] 29)) := by
  have hu : Upd [] w (w.alloc (.cells #[.int .u8 0, .string ⟨#[]⟩, .int .i64 0, .int .i64 0, .slice none 0 0] 29)) := (Upd.refl [] w).alloc _
  have h' := h.mono hu
  exact ⟨h'.u, h'.r0, h'.r3, h'.r6, h'.s6, fun _ => ⟨w.heap.size, rfl, h.u.size, Tb.new _ _ _ rfl, fun x y e => by have := (h.r0 x y).lt _ e; omega, fun x y e => by have := (h.r3 x y).lt _ e; omega, fun x e => by have := (h.r6 x).lt _ e; omega⟩⟩
set_option maxHeartbeats 1000000 in
theorem app_own2 (d : Nat) (w0 w : World) (v : Value) (K1 K2 : List Nd) (a2 : Option Addr) (c2 : Nat) (ty : TypeId) (h : OwnK d w0 w v K1) (hu : Upd [] w0 w) (hR : RowN (NIn w0 d) w a2 K2) (h0 : 0 < K2.length) (hb : K1.length + K2.length ≤ 2000000000) :
    ∃ a' n' c' w', (Builtin.append_ #[27, 27] ty #[v, .slice a2 K2.length c2]).run Tryd.prog w = .ok (.slice a' n' c') w' ∧ OwnK d w0 w' (.slice a' n' c') (K1 ++ K2) ∧ Upd [] w0 w' ∧ ∃ S : List Nat, Upd S w w' ∧ (∀ g, g ∈ S → v.ownBlock = some g ∨ w.heap.size ≤ g) ∧ (∀ g, (Value.slice a' n' c').ownBlock = some g → v.ownBlock = some g ∨ w.heap.size ≤ g) := by
  obtain ⟨i, z, p1, p2, p3, p4, p5, p6⟩ := nodes_parts
  rcases hR with e | ⟨b, o, rfl, hlt, hrow⟩
  · rw [e] at h0; simp at h0
  have hat : ∀ q j, q < K2.length → j < 5 → ∃ u, w.cell? ⟨b, o + (q * 5 + j), none⟩ = some u ∧ u.oneCell' = true := fun q j hq hj => by
    obtain ⟨cs, hl, hc, hin⟩ := hrow q hq
    have := hc j hj
    rw [List.getElem?_eq_getElem (by omega)] at this
    refine ⟨_, this, ?_⟩
    have ho := Array.all_eq_true'.1 hin.one cs[j] (by simp)
    exact ho
  have hat' : ∀ j, j < K2.length * 5 → ∃ u, w.cell? ⟨b, o + j, none⟩ = some u ∧ u.oneCell' = true := fun j hj => by
    have := hat (j / 5) (j % 5) (by omega) (by omega)
    rw [show j / 5 * 5 + j % 5 = j by omega] at this
    exact this
  obtain ⟨g', cap', w', hrun, hrg, hgr, hnew⟩ := run_appendG (ty := ty) p1 p2 p3 p4 p5 p6 h.row ⟨b, o, none⟩ K2.length c2 (cellsOf w b o K2.length) (by simp [cellsOf]) (fun j u hj => by
      have hlt2 : j < K2.length * 5 := by
        have := (List.getElem?_eq_some_iff.1 hj).1
        simpa [cellsOf] using this
      rw [cellsOf_get hlt2] at hj
      obtain ⟨u', e1, _⟩ := hat' j hlt2
      rw [e1] at hj
      cases hj
      rw [add_at]
      exact e1) (fun u hm => by
      obtain ⟨j, hj, rfl⟩ := List.mem_map.1 hm
      obtain ⟨u', e1, e2⟩ := hat' j (List.mem_range.1 hj)
      rw [e1]
      exact e2) h0 (by omega) (by omega)
  obtain ⟨C, hC, hK⟩ := h.has
  have hown : w0.heap.size ≤ g' := by
    rcases hgr.at' with e | e
    · exact h.own g' e
    · rw [e]; exact hu.size
  refine ⟨some ⟨g', 0, none⟩, K1.length + K2.length, cap', w', hrun, ⟨by rw [List.length_append]; exact hrg, fun g e => by cases e; exact hown, ?_⟩, hu.then hgr.upd (by simp; omega), [g'], hgr.upd, fun g hg => by
      have e : g = g' := by simpa using hg
      rw [e]
      rcases hgr.at' with e | e
      · exact Or.inl e
      · exact Or.inr (by omega), fun g e => by
      have e : g' = g := by injection e
      rw [← e]
      rcases hgr.at' with e | e
      · exact Or.inl e
      · exact Or.inr (by omega)⟩
  refine ⟨fun q => if q < K1.length then C q else (List.range 5).map fun j => (w.cell? ⟨b, o + ((q - K1.length) * 5 + j), none⟩).getD undef, ?_, ?_⟩
  · intro g l c e q j hq hj
    cases e
    rw [List.length_append] at hq
    by_cases hl : q < K1.length
    · simp only [hl, if_true]
      exact (hgr.has hC (Nat.le_refl _) h.row) g' (K1.length + K2.length) cap' rfl q j hl hj
    · simp only [hl, if_false]
      have hx := hnew ((q - K1.length) * 5 + j) (by omega)
      rw [show K1.length * 5 + ((q - K1.length) * 5 + j) = q * 5 + j by omega] at hx
      rw [hx, cellsOf_get (by omega), List.getElem?_map, List.getElem?_range hj]
      rfl
  · intro q hq
    by_cases hl : q < K1.length
    · simp only [hl, if_true]
      rw [List.getElem_append_left hl]
      exact hK q hl
    · simp only [hl, if_false]
      rw [List.length_append] at hq
      rw [List.getElem_append_right (by omega)]
      obtain ⟨cs, hl5, hc, hin⟩ := hrow (q - K1.length) (by omega)
      have e : ((List.range 5).map fun j => (w.cell? ⟨b, o + ((q - K1.length) * 5 + j), none⟩).getD undef) = cs := by
        apply List.ext_getElem (by simp [hl5])
        intro j h1 h2
        simp only [List.getElem_map, List.getElem_range]
        rw [hc j (by omega), List.getElem?_eq_getElem h2]
        rfl
      rw [e]
      exact ⟨hl5, hin⟩

/-- An append, be the row that is appended empty or not. -/
theorem app_any (d : Nat) (W w : World) (v : Value) (K1 K2 : List Nd) (a2 : Option Addr) (c2 : Nat) (ty : TypeId) (h : OwnK d W w v K1) (hu : Upd [] W w) (hR : RowN (NIn W d) w a2 K2) (hb : K1.length + K2.length ≤ 2000000000) :
    ∃ v' w' S, (Builtin.append_ #[27, 27] ty #[v, .slice a2 K2.length c2]).run Tryd.prog w = .ok v' w' ∧ OwnK d W w' v' (K1 ++ K2) ∧ Upd [] W w' ∧ Upd S w w' ∧ (∀ g, g ∈ S → v.ownBlock = some g ∨ w.heap.size ≤ g) ∧ (∀ g, v'.ownBlock = some g → v.ownBlock = some g ∨ w.heap.size ≤ g) := by
  by_cases h0 : 0 < K2.length
  · obtain ⟨a', n', c', w', hrun, hown, hu', S, hS, hS2, hS3⟩ := app_own2 d W w v K1 K2 a2 c2 ty h hu hR h0 hb
    exact ⟨_, w', S, hrun, hown, hu', hS, hS2, hS3⟩
  · have e : K2 = [] := List.eq_nil_of_length_eq_zero (by omega)
    subst e
    exact ⟨v, w, [], app_none v w _ a2 c2 ty h.row, by rw [List.append_nil]; exact h, hu, Upd.refl _ _, by simp, fun g e => Or.inl e⟩

/-- The first append. -/
theorem ApS.one (h : ApS d W A B true false false b8 v0 v3 v6 v8 w) (a : Option Addr) (c : Nat) (ty : TypeId) (hR : RowN (NIn W d) w a A) (hb : A.length + B.length ≤ 2000000000) : ∃ v w', (Builtin.append_ #[27, 27] ty #[v0, .slice a A.length c]).run Tryd.prog w = .ok v w' ∧ ApS d W A B true true false b8 v0 v v6 v8 w' := by
  have h0 := h.r0 rfl rfl
  obtain ⟨v, w', S, hrun, hown, hu, hS, hS2, hS3⟩ := app_any d W w v0 [] A a c ty h0 h.u hR (by simp; omega)
  refine ⟨v, w', hrun, hu, fun _ x => absurd x (by simp), fun _ _ => hown, fun x => absurd x (by simp), fun x => absurd x (by simp), fun x => ?_⟩
  obtain ⟨g, e, hg, ht, k1, k2, k3⟩ := h.r8 x
  have hn := k1 rfl rfl
  refine ⟨g, e, hg, ht.mono hS (fun hm => ?_), fun _ x => absurd x (by simp), fun _ _ e => ?_, fun x => absurd x (by simp)⟩
  · rcases hS2 g hm with e | e
    · exact hn e
    · have := ht.lt; omega
  · rcases hS3 g e with e | e
    · exact hn e
    · have := ht.lt; omega
/-- The second append. -/
theorem ApS.two (h : ApS d W A B b0 true false b8 v0 v3 v6 v8 w) (a : Option Addr) (c : Nat) (ty : TypeId) (hR : RowN (NIn W d) w a B) (hb : A.length + B.length ≤ 2000000000) : ∃ v w', (Builtin.append_ #[27, 27] ty #[v3, .slice a B.length c]).run Tryd.prog w = .ok v w' ∧ ApS d W A B b0 true true b8 v0 v3 v v8 w' := by
  have h0 := h.r3 rfl rfl
  obtain ⟨v, w', S, hrun, hown, hu, hS, hS2, hS3⟩ := app_any d W w v3 A B a c ty h0 h.u hR hb
  have hv : ∃ a n c, v = .slice a n c := by
    rcases hown.row with ⟨e, _⟩ | ⟨g, cap, e, _⟩
    · exact ⟨_, _, _, e⟩
    · exact ⟨_, _, _, e⟩
  refine ⟨v, w', hrun, hu, fun _ x => absurd x (by simp), fun _ x => absurd x (by simp), fun _ => hown, fun _ => hv, fun x => ?_⟩
  obtain ⟨g, e, hg, ht, k1, k2, k3⟩ := h.r8 x
  have hn := k2 rfl rfl
  refine ⟨g, e, hg, ht.mono hS (fun hm => ?_), fun _ x => absurd x (by simp), fun _ x => absurd x (by simp), fun _ e => ?_⟩
  · rcases hS2 g hm with e | e
    · exact hn e
    · have := ht.lt; omega
  · rcases hS3 g e with e | e
    · exact hn e
    · have := ht.lt; omega
theorem ApS.new (d : Nat) (W : World) (A B : List Nd) (w : World) (hu : Upd [] W w) : ApS d W A B false false false false v0 v3 v6 v8 w := ⟨hu, fun x => absurd x (by simp), fun x => absurd x (by simp), fun x => absurd x (by simp), fun x => absurd x (by simp), fun x => absurd x (by simp)⟩
/-- What is written into the node's block, at last. -/
theorem ApS.last (h : ApS d W A B b0 true true true v0 v3 v6 v8 w) : ∃ g a n c, v8 = .pointer (some ⟨g, 0, none⟩) ∧ v6 = .slice a n c ∧ W.heap.size ≤ g ∧ Tb w g #[.int .u8 0, .string ⟨#[]⟩, .int .i64 0, .int .i64 0, .slice none 0 0] ∧ ∀ w', Upd [g] w w' → Upd [] W w' ∧ OwnK d W w' (.slice a n c) (A ++ B) := by
  obtain ⟨g, e, hg, ht, k1, k2, k3⟩ := h.r8 rfl
  obtain ⟨a, n, c, e6⟩ := h.s6 rfl
  subst e6
  exact ⟨g, a, n, c, e, rfl, hg, ht, fun w' hu => ⟨h.u.then hu (by simp; omega), (h.r6 rfl).upd hu (fun g' e' hm => k3 rfl (by rw [e']; simpa using hm))⟩⟩

end Go.Proofs.YtpgjcedonimgnaaDoor

/- A region that draws its order, by an invariant of one's own; its last operation waits for all others. -/
namespace Go.Proofs.YtpgjcedonimgnaaDoor
open Go.RowKit

theorem region_lastJ {rid : Nat} {ops : Array Oper} {Q : Exit → Act → World → Prop} {a0 : Act} {w0 : World} (hm : Tryd.prog.follows .mixedOrders = true) (n : Nat) (hn : ops.size = n + 1) (ds : List (Option Nat)) (hds : ops.toList.map (·.dst) = ds)
    (hd : ds.Pairwise fun a b => a = none ∨ a ≠ b) (hz : (ds.all fun o => o.all fun d => decide (d < a0.tmps.size)) = true) (hlow : lowOps ops = true) (hla : lastT ops n = true)
    (J : List Bool → List Value → World → Prop) (hJ0 : J (List.replicate (n + 1) false) (List.replicate (n + 1) undef) w0.drew)
    (hstep : ∀ (L : List Bool) (vs : List Value) a w i o, L.length = n + 1 → vs.length = n + 1 → Agr (ds.filterMap id) a0 a → J L vs w → (∀ j d, ds[j]? = some (some d) → L[j]? = some true → a.tmps.getD d undef = vs.getD j undef) → i < n → L[i]? = some false → ops[i]? = some o → (∀ e ∈ o.after, Region.binds .any e = true → L[e.on]? = some true) →
      wpOp Tryd.prog ops Q i (fun a' w' => ∃ v, a' = a.put o.dst v ∧ J (L.set i true) (vs.set i v) w') a w)
    (hlast : ∀ (L : List Bool) (vs : List Value) a w o, vs.length = n + 1 → Agr (ds.filterMap id) a0 a → J L vs w → (∀ j, j < n → L[j]? = some true) → L[n]? = some false → (∀ j d, ds[j]? = some (some d) → j < n → a.tmps.getD d undef = vs.getD j undef) → ops[n]? = some o →
      wpOp Tryd.prog ops Q n (fun a' w' => ∃ v, a' = a.put o.dst v ∧ Q .normal (putAll a0 ds (vs.set n v)) w') a w) :
    (Code.region rid ops true).wp Tryd.prog Q a0 w0 := by
  refine region_inv hm (n + 1) hn ds hds hd hz hlow (fun L vs w => ((L.length = n + 1 ∧ vs.length = n + 1) ∧ ∀ (j : Nat) (o' : Oper), L[j]? = some true → ops[j]? = some o' → ∀ e ∈ o'.after, Region.binds .any e = true → L[e.on]? = some true) ∧ ((L[n]? = some false ∧ J L vs w) ∨ ((∀ j, j < n + 1 → L[j]? = some true) ∧ Q .normal (putAll a0 ds vs) w))) ⟨⟨⟨by simp, by simp⟩, fun j _ hj => ?_⟩, Or.inl ⟨List.getElem?_replicate_of_lt (by omega), hJ0⟩⟩ ?_ ?_
  · rw [List.getElem?_replicate] at hj
    split at hj <;> cases hj
  · rintro L vs a w i o hL hv hS ⟨⟨_, hcl⟩, hI⟩ hun ho haf
    have hin : i < n + 1 := by rw [← hn]; exact (Array.getElem?_eq_some_iff.1 ho).1
    have hcl' : ∀ (j : Nat) (o' : Oper), (L.set i true)[j]? = some true → ops[j]? = some o' → ∀ e ∈ o'.after, Region.binds .any e = true → (L.set i true)[e.on]? = some true := fun j o' hj ho' e he hb => by
      rw [set_true (by omega)]
      right
      rcases (set_true (by omega)).1 hj with rfl | h
      · rw [ho] at ho'
        cases ho'
        exact haf e he hb
      · exact hcl j o' h ho' e he hb
    have hall : i = n → ∀ j, j < n → L[j]? = some true := fun e j hj => by
      subst e
      exact reach_done hcl (i + 1) i j o ho haf (List.all_eq_true.1 hla j (List.mem_range.2 hj))
    rcases hI with ⟨hf, hJ⟩ | ⟨ht, _⟩
    · by_cases e : i = n
      · have hA := hall e
        subst e
        refine wpOp_mono ?_ (hlast L vs a w o hv hS.agr hJ hA hf (fun j d hj hjn => hS.at' j d hj (hA j hjn)) ho)
        rintro a' w' ⟨v, ha, hq⟩
        refine ⟨v, ha, ⟨⟨by simpa using hL, by simpa using hv⟩, hcl'⟩, Or.inr ⟨fun j hj => ?_, hq⟩⟩
        by_cases e : j = i
        · exact (set_true (by omega)).2 (Or.inl e)
        · exact (set_true (by omega)).2 (Or.inr (hA j (by omega)))
      · refine wpOp_mono ?_ (hstep L vs a w i o hL hv hS.agr hJ hS.at' (by omega) hun ho haf)
        rintro a' w' ⟨v, ha, hr⟩
        exact ⟨v, ha, ⟨⟨by simpa using hL, by simpa using hv⟩, hcl'⟩, Or.inl ⟨by rw [List.getElem?_set_ne e]; exact hf, hr⟩⟩
    · exfalso
      rw [ht i hin] at hun
      cases hun
  · rintro vs w hv ⟨_, ⟨hf, _⟩ | ⟨_, hq⟩⟩
    · rw [List.getElem?_replicate_of_lt (by omega)] at hf; cases hf
    · exact hq

end Go.Proofs.YtpgjcedonimgnaaDoor

/- Operations of the laws' regions: rows and modules made. -/
namespace Go.Proofs.YtpgjcedonimgnaaDoor
open Go.RowKit

theorem wp_bs0 {o : Oper} {a : Act} {w : World} {K : Act → World → Prop} {Q : Exit → Act → World → Prop} (ho : o.op = .buildSlice 27 0 #[]) (h : K (a.put o.dst (.slice (some ⟨w.heap.size, 0, none⟩) 0 0)) (w.alloc (.cells #[] 29))) : o.wp Tryd.prog a w K Q := by
  have hr : (Instr.buildSlice 27 0 #[]).run Tryd.prog w = .ok (.slice (some ⟨w.heap.size, 0, none⟩) 0 0) (w.alloc (.cells #[] 29)) := by kernel_rfl
  unfold Oper.wp execOp
  simp only [ho, Sem.run_bind, List.map_toArray, List.map_nil, hr, Result.andThen_ok]
  exact h
theorem wp_app {o : Oper} {a : Act} {w : World} {K : Act → World → Prop} {Q : Exit → Act → World → Prop} (x y : Operand) (ho : o.op = .call { callee := .builtin .append, args := #[x, y], argTypes := #[27, 27] }) (u v r : Value) (w' : World) (hx : a.eval x = u) (hy : a.eval y = v) (hr : (Builtin.append_ #[27, 27] o.type #[u, v]).run Tryd.prog w = .ok r w') (h : K (a.put o.dst r) w') : o.wp Tryd.prog a w K Q := by
  unfold Oper.wp execOp
  simp only [ho, resolve, invoke, builtin, Sem.run_bind, Sem.run_pure, Result.andThen_ok, List.map_toArray, List.map_cons, List.map_nil, hx, hy, hr]
  exact h
theorem wp_bmod {o : Oper} {a : Act} {w : World} {K : Act → World → Prop} {Q : Exit → Act → World → Prop} (x : Operand) (ho : o.op = .build 29 #[(0, .const (.int .u8 22)), (4, x)]) (ad : Option Addr) (n c : Nat) (hx : a.eval x = .slice ad n c) (h : K (a.put o.dst (.agg #[.int .u8 22, .string ⟨#[]⟩, .int .i64 0, .int .i64 0, .slice ad n c])) w) : o.wp Tryd.prog a w K Q := by
  refine wp_pure ?_ h
  have hk : a.eval (.const (.int .u8 22)) = .int .u8 22 := rfl
  have hb : (Instr.build 29 #[(0, .int .u8 22), (4, .slice ad n c)]).run Tryd.prog w = .ok (.agg #[.int .u8 22, .string ⟨#[]⟩, .int .i64 0, .int .i64 0, .slice ad n c]) w := run_build w 29 _ _ (by kernel_rfl)
  unfold execOp
  simp only [ho, List.map_toArray, List.map_cons, List.map_nil, hx, hk, Sem.run_bind, Sem.run_pure, Result.andThen_ok, hb]
theorem wp_bmodP {o : Oper} {a : Act} {w : World} {K : Act → World → Prop} {Q : Exit → Act → World → Prop} (x y : Operand) (ho : o.op = .build 29 #[(0, .const (.int .u8 22)), (3, y), (4, x)]) (p : Int) (ad : Option Addr) (n c : Nat) (hy : a.eval y = .int .i64 p) (hx : a.eval x = .slice ad n c) (h : K (a.put o.dst (.agg #[.int .u8 22, .string ⟨#[]⟩, .int .i64 0, .int .i64 p, .slice ad n c])) w) : o.wp Tryd.prog a w K Q := by
  refine wp_pure ?_ h
  have hk : a.eval (.const (.int .u8 22)) = .int .u8 22 := rfl
  have hb : (Instr.build 29 #[(0, .int .u8 22), (3, .int .i64 p), (4, .slice ad n c)]).run Tryd.prog w = .ok (.agg #[.int .u8 22, .string ⟨#[]⟩, .int .i64 0, .int .i64 p, .slice ad n c]) w := run_build w 29 _ _ (by kernel_rfl)
  unfold execOp
  simp only [ho, List.map_toArray, List.map_cons, List.map_nil, hx, hy, hk, Sem.run_bind, Sem.run_pure, Result.andThen_ok, hb]

end Go.Proofs.YtpgjcedonimgnaaDoor
