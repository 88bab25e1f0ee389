/- Same of package node: what holds while pairs of rows are gone through. -/
import Derived.Test.YtejcppnleckmfaaDoorNsI
import Derived.Deep.LoopGhost
namespace Go.Proofs.YtejcppnleckmfaaDoor
open Go.RowKit

/-- Where a row stands, if it has something. -/
def plA (g n : Nat) : Option Addr := if n = 0 then none else some ⟨g, 0, none⟩
theorem placeOf_in (w : World) (g n c : Nat) (hn : n ≤ 20000) : Calls Tryd.prog 22 #[.slice (some ⟨g, 0, none⟩) n c] w fun e w' => e = .returned (pl (plA g n) n) ∧ Upd [] w w' := by
  by_cases h : n = 0
  · subst h
    exact placeOf_none w _ c
  · rw [plA, if_neg h]
    exact placeOf_some w g n c (by omega) hn
/-- Does join take them to be the same anew? -/
def jb (n m : Nat) : Bool := !(n == 0 && m == 0)
theorem MapK.wide {w : World} {bm : Nat} {G G' : Nat → Prop} (h : MapK w bm G) (hG : ∀ x, G x → G' x) : MapK w bm G' := by
  obtain ⟨es, clock, hb, r⟩ := h
  exact ⟨es, clock, hb, fun e he => by
    obtain ⟨g, n, h1, h2, h3⟩ := r e he
    exact ⟨g, n, h1, hG g h2, h3⟩⟩
theorem join_any (w : World) (bm : Nat) (G : Nat → Prop) (ga gb n m : Nat) (h : MapK w bm G) (hga : ¬ G ga) (ua : Unm w ga) (hgb : ¬ G gb) (ub : Unm w gb) (hne : ga ≠ gb) :
    Calls Tryd.prog 21 #[.map (some bm), pl (plA ga n) n, pl (plA gb m) m] w fun e w' => e = .returned (.bool (jb n m)) ∧ Upd [bm] w w' ∧ (ga ≠ bm → (∀ x, G x → x ≠ bm) → (n ≠ 0 ∨ m = 0) → MapK w' bm (fun x => G x ∨ x = ga)) := by
  have oa : Out w G (plA ga n) := by
    unfold plA
    split
    · exact Or.inl rfl
    · exact Or.inr ⟨ga, rfl, hga, ua⟩
  have ob : Out w G (plA gb m) := by
    unfold plA
    split
    · exact Or.inl rfl
    · exact Or.inr ⟨gb, rfl, hgb, ub⟩
  by_cases h0 : n = 0 ∧ m = 0
  · obtain ⟨rfl, rfl⟩ := h0
    refine Calls.mono (join_none w bm G h) ?_
    rintro e w' ⟨rfl, hu⟩
    exact ⟨rfl, (Upd.refl [bm] w).then hu (by simp), fun _ _ _ => (h.upd hu (by simp) (by simp)).wide (fun x hx => Or.inl hx)⟩
  · have hf : Far w (plA ga n) (plA gb m) := by
      unfold plA
      by_cases hn : n = 0
      · have hm : m ≠ 0 := fun e => h0 ⟨hn, e⟩
        rw [if_pos hn, if_neg hm]
        exact Or.inl ⟨rfl, gb, rfl⟩
      · by_cases hm : m = 0
        · rw [if_neg hn, if_pos hm]
          exact Or.inr (Or.inl ⟨rfl, ga, rfl⟩)
        · rw [if_neg hn, if_neg hm]
          exact Or.inr (Or.inr ⟨ga, gb, rfl, rfl, hne, ua, ub⟩)
    have hj : jb n m = true := by
      unfold jb
      by_cases hn : n = 0
      · have hm : m ≠ 0 := fun e => h0 ⟨hn, e⟩
        simp [hm]
      · simp [hn]
    rw [hj]
    refine Calls.mono (join_far w bm G _ _ n m h oa ob hf) ?_
    rintro e w' ⟨rfl, hu, hk⟩
    refine ⟨rfl, hu, fun h1 h2 h3 => ?_⟩
    by_cases hn : n = 0
    · exact absurd ⟨hn, h3.resolve_left (fun h => h hn)⟩ h0
    · exact hk ga (by rw [plA, if_neg hn]) h1 h2

/-- What holds while pairs of rows are gone through. -/
structure SmI (W0 : World) (d bm : Nat) (A B G : Nat → Prop) (E : List Ent) (v : Value) (wr : World) : Prop where
  u : Upd [] W0 wr
  map : MapK wr bm G
  far : W0.heap.size ≤ bm
  row : RowG wr 2 v E.length
  hs : Hs wr 2 v E.length (fun i => ((E[i]?).map Ent.cells).getD [])
  own : ∀ g, v.ownBlock = some g → W0.heap.size ≤ g ∧ g ≠ bm
  ok : ∀ e ∈ E, e.Ok W0 d A B
  dis : E.Pairwise fun e e' => ∀ x, e.PA x → ¬ e'.PA x
  out : ∀ e ∈ E, ∀ x, e.PA x → ¬ G x
  gA : ∀ x, G x → A x
theorem RowG.pop {w : World} {sz n : Nat} {g cap : Nat} (h : RowG w sz (.slice (some ⟨g, 0, none⟩) (n + 1) cap) (n + 1)) : RowG w sz (.slice (some ⟨g, 0, none⟩) n cap) n := by
  rcases h with ⟨h, _⟩ | ⟨g2, cap2, e, h1, h2, h3, h4⟩
  · cases h
  · simp only [Value.slice.injEq, Option.some.injEq, Addr.mk.injEq, and_true, true_and] at e
    obtain ⟨rfl, rfl⟩ := e
    exact Or.inr ⟨g, cap, rfl, h1, by omega, h3, h4⟩
theorem RowG.slice {w : World} {sz n : Nat} {v : Value} (h : RowG w sz v (n + 1)) : ∃ g cap, v = .slice (some ⟨g, 0, none⟩) (n + 1) cap ∧ n + 1 ≤ cap ∧ cap ≤ 9223372036854775807 ∧ g < w.heap.size := by
  rcases h with ⟨_, h⟩ | ⟨g, cap, e, h1, h2, h3, _⟩
  · omega
  · exact ⟨g, cap, e, h2, by unfold maxLen at h3; omega, h1⟩

theorem Hs.weak {w : World} {sz p : Nat} {v : Value} {C D : Nat → List Value} (h : Hs w sz v p C) (hCD : ∀ i, i < p → C i = D i) : Hs w sz v p D := fun g l c e i j hi hj => by rw [← hCD i hi]; exact h g l c e i j hi hj
/-- The last pair is taken. -/
theorem SmI.pop {W0 : World} {d bm : Nat} {A B G : Nat → Prop} {E0 : List Ent} {e : Ent} {g n cap : Nat} {wr w' : World} (h : SmI W0 d bm A B G (E0 ++ [e]) (.slice (some ⟨g, 0, none⟩) (n + 1) cap) wr) (hn : n = E0.length) (hu : Upd [bm] wr w') (hm : MapK w' bm (fun x => G x ∨ x = e.ga)) :
    SmI W0 d bm A B (fun x => G x ∨ x = e.ga) E0 (.slice (some ⟨g, 0, none⟩) n cap) w' := by
  subst hn
  have hrow := h.row
  rw [List.length_append] at hrow
  have hown := h.own g rfl
  have hbm : ∀ x, (Value.slice (some ⟨g, 0, none⟩) (E0.length + 1) cap).ownBlock = some x → x ∉ [bm] := fun x hx => by
    simp only [Value.ownBlock, Option.some.injEq] at hx
    subst hx
    simpa using hown.2
  have hpo := List.pairwise_append.1 h.dis
  refine ⟨h.u.then hu (fun x hx => Or.inl (by simp at hx; subst hx; exact h.far)), hm, h.far, (RowG.pop hrow).upd hu hbm, ?_, h.own, fun f hf => h.ok f (by simp [hf]), hpo.1, fun f hf x hx => ?_, fun x hx => ?_⟩
  · have h1 := (h.hs.upd h.row hu hbm).less (show E0.length ≤ (E0 ++ [e]).length by simp)
    refine Hs.weak (Hs.other h1) fun i hi => ?_
    rw [List.getElem?_append_left hi]
  · rintro (h1 | h1)
    · exact h.out f (by simp [hf]) x hx h1
    · subst h1
      exact hpo.2.2 f hf e (by simp) _ hx (h.ok e (by simp)).a.1
  · rcases hx with hx | hx
    · exact h.gA x hx
    · subst hx
      exact (h.ok e (by simp)).sa _ (h.ok e (by simp)).a.1
theorem SmI.later {W0 : World} {d bm : Nat} {A B G : Nat → Prop} {E : List Ent} {v : Value} {wr w' : World} (h : SmI W0 d bm A B G E v wr) (hu : Upd [] wr w') : SmI W0 d bm A B G E v w' :=
  ⟨h.u.trans hu, h.map.upd hu (by simp) (by simp), h.far, h.row.upd hu (by simp), h.hs.upd h.row hu (by simp), h.own, h.ok, h.dis, h.out, h.gA⟩
theorem SmI.push {W0 : World} {d bm : Nat} {A B G : Nat → Prop} {E : List Ent} {v : Value} {f : Ent} {w1 w' : World} {N g' cap' : Nat} (h : SmI W0 d bm A B G E v w1) (hN : N = E.length) (la : ∀ x, A x → x < W0.heap.size) (hr : RowG w' 2 (.slice (some ⟨g', 0, none⟩) (N + 1) cap') (N + 1)) (hg : Grew 2 w1 w' v N g') (hc : ∀ j, j < 1 * 2 → w'.cell? ⟨g', N * 2 + j, none⟩ = f.cells[j]?)
    (hok : f.Ok W0 d A B) (hd : ∀ e ∈ E, ∀ x, e.PA x → ¬ f.PA x) (ho : ∀ x, f.PA x → ¬ G x) : SmI W0 d bm A B G (E ++ [f]) (.slice (some ⟨g', 0, none⟩) (N + 1) cap') w' := by
  subst hN
  have hg1 : W0.heap.size ≤ g' ∧ g' ≠ bm := by
    rcases hg.at' with h1 | h1
    · exact h.own g' h1
    · have := h.u.size
      have := h.map.lt
      omega
  refine ⟨h.u.then hg.upd (fun x hx => Or.inl (by simp at hx; omega)), h.map.upd hg.upd (by simp; omega) (fun x hx => by have := la x (h.gA x hx); simp; omega), h.far, by simpa using hr, ?_, fun x hx => ?_, fun e he => ?_, ?_, fun e he x hx => ?_, h.gA⟩
  · have h1 : Hs w1 2 v E.length (fun i => (((E ++ [f])[i]?).map Ent.cells).getD []) := h.hs.weak (fun i hi => by rw [List.getElem?_append_left hi])
    have h2 := hg.has1 (l' := E.length + 1) (c' := cap') h1 h.row (fun j hj => by rw [hc j (by omega)]; simp)
    simpa using h2
  · simp only [Value.ownBlock, Option.some.injEq] at hx
    omega
  · rcases List.mem_append.1 he with he | he
    · exact h.ok e he
    · simp at he
      rw [he]; exact hok
  · refine List.pairwise_append.2 ⟨h.dis, by simp, fun a ha b hb x hx => ?_⟩
    simp at hb
    rw [hb]
    exact hd a ha x hx
  · rcases List.mem_append.1 he with he | he
    · exact h.out e he x hx
    · simp at he
      subst he
      exact ho x hx
theorem len_mass : ∀ E : List Ent, E.length ≤ mass E
  | [] => by simp
  | e :: r => by have := len_mass r; simp only [mass, List.length_cons]; omega
theorem info_pairP : (Tryd.prog.info? 38).map (fun i => (i.zero, i.size, i.bytes)) = some (some (.agg #[.slice none 0 0, .slice none 0 0]), 2, 48) := by kernel_rfl
/-- An append at a step of a region that draws its order. -/
theorem step_append {ops : Array Oper} {o : Oper} {a : Act} {w : World} {K : Act → World → Prop} {Q : Exit → Act → World → Prop} {E : Prop} {t : TypeId} (hgd : o.guard = none) (s x : Operand) (ho : o.op = .call { callee := .builtin .append, args := #[s, x], argTypes := #[t, t] })
    (v u v' : Value) (w' : World) (hs : a.eval s = v) (hx : a.eval x = u) (hr : (Builtin.append_ #[t, t] o.type #[v, u]).run Tryd.prog w = .ok v' w') (h : K (a.put o.dst v') w') :
    if Region.wanted o (yielded ops a.tmps) = true then Oper.wp Tryd.prog o a w K Q else E := by
  have hw : Region.wanted o (yielded ops a.tmps) = true := by simp [Region.wanted, hgd]
  rw [if_pos hw]
  unfold Oper.wp execOp
  simp only [ho, resolve, invoke, builtin, Sem.run_bind, Sem.run_pure, Result.andThen_ok, List.map_toArray, List.map_cons, List.map_nil, hs, hx, hr]
  exact h
theorem RowS.unm {R : List Value → Nd → (Nat → Prop) → Prop} {w : World} {g cap : Nat} {K : List Nd} {P : Nat → Prop} (h : RowS R w g cap K P) : Unm w g := by
  obtain ⟨_, ⟨cur, h1, _⟩, _⟩ := h
  exact ⟨cur, h1⟩
theorem RowS.nin {w w' : World} {d g cap : Nat} {K : List Nd} {P : Nat → Prop} (h : RowS (NL w d) w g cap K P) (hu : Upd [] w w') : RowN (NIn w' d) w' (some ⟨g, 0, none⟩) K :=
  (h.plain (Z := NIn w d) (fun _cs _t _Q h => NL.plain _ _ _ _ h)).imp hu (NIn.mono hu d)

set_option maxHeartbeats 4000000 in
set_option maxRecDepth 100000 in
theorem Same_in (d : Nat) (w : World) (cs cs' : List Value) (t u : Nd) (PA PB : Nat → Prop) (h : NL w d cs t PA) (h' : NL w d cs' u PB) (la : ∀ x, PA x → x < w.heap.size) (lb : ∀ x, PB x → x < w.heap.size) (hab : ∀ x, PA x → ¬ PB x) (hs : nsz t ≤ 20000) (hs' : nsz u ≤ 20000) (hmt : manN t ≤ 20000) :
    Calls Tryd.prog 7 #[.agg cs.toArray, .agg cs'.toArray] w fun e w' => e = .returned (.bool (samN t u)) ∧ Upd [] w w' := by
  obtain ⟨q0, q1, q2, q3, q4, rfl⟩ := list5 (NL.plain _ _ _ _ h).len
  obtain ⟨p0, p1, p2, p3, p4, rfl⟩ := list5 (NL.plain _ _ _ _ h').len
  obtain ⟨W0, hW0⟩ : ∃ W0, W0 = (((w.alloc (.cells #[q0, q1, q2, q3, q4] 25)).alloc (.cells #[p0, p1, p2, p3, p4] 25)).alloc (.cells #[q0, q1, q2, q3, q4] 25)).alloc (.cells #[p0, p1, p2, p3, p4] 25) := ⟨_, rfl⟩
  have hz0 : W0.heap.size = w.heap.size + 4 := by rw [hW0]; simp
  have u0 : Upd [] w W0 := by rw [hW0]; exact ((((Upd.refl [] w).alloc _).alloc _).alloc _).alloc _
  have ra : W0.heap[w.heap.size + 2]? = some (.cells #[q0, q1, q2, q3, q4] 25 (0, 0)) := by rw [hW0]; exact (Tb.new _ _ _ (by simp)).old _
  have rb : W0.heap[w.heap.size + 3]? = some (.cells #[p0, p1, p2, p3, p4] 25 (0, 0)) := by rw [hW0]; exact Tb.new _ _ _ (by simp)
  have hE : Ent.Ok W0 d (fun x => PA x ∨ x = w.heap.size + 2) (fun x => PB x ∨ x = w.heap.size + 3) ⟨w.heap.size + 2, 1, w.heap.size + 3, 1, [t], [u], fun x => PA x ∨ x = w.heap.size + 2, fun x => PB x ∨ x = w.heap.size + 3⟩ := by
    refine ⟨⟨Or.inr rfl, ⟨_, ra, by simp⟩, by simp, by simp, fun _ => PA, fun i x _ hx => ⟨Or.inl hx, fun (e : x = w.heap.size + 2) => by have := la x hx; omega⟩, fun i j x hi hj hij => by simp at hi hj; omega, fun i hi => ?_⟩, ⟨Or.inr rfl, ⟨_, rb, by simp⟩, by simp, by simp, fun _ => PB, fun i x _ hx => ⟨Or.inl hx, fun (e : x = w.heap.size + 3) => by have := lb x hx; omega⟩, fun i j x hi hj hij => by simp at hi hj; omega, fun i hi => ?_⟩, by simp [nszs]; omega, by simp [nszs]; omega, fun x hx => hx, fun x hx => hx⟩
    · have : i = 0 := by simpa using hi
      subst this
      exact ⟨[q0, q1, q2, q3, q4], rfl, fun j hj => by rw [Nat.zero_mul, Nat.zero_add, cell_of_row _ _ _ _ _ _ ra]; simp, NL.upd u0 _ _ _ _ (fun x _ => by simp) h⟩
    · have : i = 0 := by simpa using hi
      subst this
      exact ⟨[p0, p1, p2, p3, p4], rfl, fun j hj => by rw [Nat.zero_mul, Nat.zero_add, cell_of_row _ _ _ _ _ _ rb]; simp, NL.upd u0 _ _ _ _ (fun x _ => by simp) h'⟩
  have hAB : ∀ x, (PA x ∨ x = w.heap.size + 2) → ¬ (PB x ∨ x = w.heap.size + 3) := by
    rintro x (hx | hx) (hy | hy)
    · exact hab x hx hy
    · have := la x hx; omega
    · have := lb x hy; omega
    · omega
  have hmm := @run_makeMap Tryd.prog
  have H1 : Hid (Ent.Ok W0 d _ _ _) := hE
  have HAB : Hid (∀ x, (PA x ∨ x = w.heap.size + 2) → ¬ (PB x ∨ x = w.heap.size + 3)) := hAB
  have HW : Hid (W0.heap.size = w.heap.size + 4 ∧ Upd [] w W0) := ⟨hz0, u0⟩
  have HW0 : Hid (W0 = _) := hW0
  have HLA : Hid (∀ x, (PA x ∨ x = w.heap.size + 2) ∨ (PB x ∨ x = w.heap.size + 3) → x < W0.heap.size) := by
    rintro x ((hx | hx) | (hx | hx))
    · have := la x hx; omega
    · omega
    · have := lb x hx; omega
    · omega
  clear hE ra rb u0 hz0 la lb hab h h' hs hs' hAB hW0
  go_enter Tryd.func7, Tryd.ntmps7
  go_wp2
  go_loopg [5] (mass [⟨w.heap.size + 2, 1, w.heap.size + 3, 1, [t], [u], fun x => PA x ∨ x = w.heap.size + 2, fun x => PB x ∨ x = w.heap.size + 3⟩]) (fun gk v wr => ∃ E G, mass E ≤ gk ∧ mass E ≤ 100000 ∧ samN t u = E.all Ent.sam ∧ SmI W0 d (w.heap.size + 1 + 1 + 1 + 1 + 1) (fun x => PA x ∨ x = w.heap.size + 2) (fun x => PB x ∨ x = w.heap.size + 3) G E v wr)
  case atStart =>
    obtain ⟨hz, hu⟩ := HW.out
    rw [← HW0.out]
    have b1 : ((W0.alloc (.cells #[.slice (some ⟨w.heap.size + 1 + 1, 0, none⟩) 1 1, .slice (some ⟨w.heap.size + 1 + 1 + 1, 0, none⟩) 1 1] 38)).alloc (.map #[] 0)).heap[w.heap.size + 1 + 1 + 1 + 1]? = some (.cells #[.slice (some ⟨w.heap.size + 1 + 1, 0, none⟩) 1 1, .slice (some ⟨w.heap.size + 1 + 1 + 1, 0, none⟩) 1 1] 38 (0, 0)) := by
      rw [Below.heap_alloc _ _ _ (by simp; omega), show w.heap.size + 1 + 1 + 1 + 1 = W0.heap.size by omega]
      exact heap_alloc_new W0 _
    refine ⟨_, fun _ => False, Nat.le_refl _, by simp [mass, manR]; omega, by simp [Ent.sam, samR], ⟨((Upd.refl [] W0).alloc _).alloc _, MapK.fresh (by rw [show w.heap.size + 1 + 1 + 1 + 1 + 1 = (W0.alloc (.cells #[.slice (some ⟨w.heap.size + 1 + 1, 0, none⟩) 1 1, .slice (some ⟨w.heap.size + 1 + 1 + 1, 0, none⟩) 1 1] 38)).heap.size by simp; omega]; exact heap_alloc_new _ _) _, by omega, Or.inr ⟨_, 1, rfl, by simp; omega, by simp, by unfold maxLen; omega, fun j hj => ?_⟩, ?_, ?_, ?_, by simp, fun _ _ _ _ h => h, fun _ h => h.elim⟩⟩
    · refine ⟨?_, frozen_of_row _ _ _ _ _ b1⟩
      rw [cell_of_row _ _ _ _ _ _ b1, Nat.zero_add, Array.getElem?_eq_getElem (by simpa using hj)]; rfl
    · intro g l c e i j hi hj
      simp only [Value.slice.injEq, Option.some.injEq, Addr.mk.injEq, and_true] at e
      obtain ⟨rfl, _, _⟩ := e
      have : i = 0 := by simpa using hi
      subst this
      rw [cell_of_row _ _ _ _ _ _ b1]
      simp [Ent.cells]
    · intro g hg
      simp only [Value.ownBlock, Option.some.injEq] at hg
      omega
    · intro e he
      simp at he
      subst he
      exact H1.out
  case round =>
    obtain ⟨E, G, hmas, hmas2, hres, hI⟩ := hrel
    have HMB : Hid (mass E ≤ 100000) := hmas2
    have HRS : Hid (samN t u = E.all Ent.sam) := hres
    have HMS : Hid (mass E ≤ gk) := hmas
    clear hres hmas hmas2
    by_cases hE : E = []
    · subst hE
      obtain ⟨va, vc, rfl, _⟩ := hI.row.form
      have HU : Hid (Upd [] w wr) := HW.out.2.trans hI.u
      have HR : Hid (samN t u = true) := HRS.out
      clear hI
      go_wp2
      go_ret
      exact ⟨ret_boolN HR.out.symm, HU.out⟩
    · obtain ⟨E0, e, rfl⟩ : ∃ E0 e, E = E0 ++ [e] := ⟨E.dropLast, E.getLast hE, (List.dropLast_concat_getLast hE).symm⟩
      clear hE
      obtain ⟨n, hn⟩ : ∃ n, n = E0.length := ⟨_, rfl⟩
      have hlen : (E0 ++ [e]).length = n + 1 := by simp [hn]
      have hrow := hI.row
      rw [hlen] at hrow
      obtain ⟨g, cap, rfl, hc1, hc2, hg⟩ := hrow.slice
      have x0 : wr.cell? ⟨g, n * 2, none⟩ = some (.slice (some ⟨e.ga, 0, none⟩) e.K.length e.ca) := by
        have := hI.hs g _ _ rfl n 0 (by omega) (by omega)
        rw [hn] at this ⊢
        simpa [Ent.cells] using this
      have x1 : wr.cell? ⟨g, n * 2 + 1, none⟩ = some (.slice (some ⟨e.gb, 0, none⟩) e.J.length e.cb) := by
        have := hI.hs g _ _ rfl n 1 (by omega) (by omega)
        rw [hn] at this ⊢
        simpa [Ent.cells] using this
      have HI : Hid (SmI W0 d (w.heap.size + 1 + 1 + 1 + 1 + 1) (fun x => PA x ∨ x = w.heap.size + 2) (fun x => PB x ∨ x = w.heap.size + 3) G (E0 ++ [e]) (.slice (some ⟨g, 0, none⟩) (n + 1) cap) wr) := hI
      have HN : Hid (n = E0.length) := hn
      clear hI hrow hlen hn
      go_wp2
      have hbx : (wr.alloc (.cells #[.slice (some ⟨e.ga, 0, none⟩) e.K.length e.ca, .slice (some ⟨e.gb, 0, none⟩) e.J.length e.cb] 38)).heap[wr.heap.size]? = some (.cells #[.slice (some ⟨e.ga, 0, none⟩) e.K.length e.ca, .slice (some ⟨e.gb, 0, none⟩) e.J.length e.cb] 38 (0, 0)) := heap_alloc_new wr _
      have HU1 : Hid (Upd [] wr (wr.alloc (.cells #[.slice (some ⟨e.ga, 0, none⟩) e.K.length e.ca, .slice (some ⟨e.gb, 0, none⟩) e.J.length e.cb] 38))) := (Upd.refl [] wr).alloc _
      have hlK : e.K.length ≤ 20000 := Nat.le_trans (nszs_len e.K) (HI.out.ok e (by simp)).za
      have hlJ : e.J.length ≤ 20000 := Nat.le_trans (nszs_len e.J) (HI.out.ok e (by simp)).zb
      refine wp_region_held_drew (S := fun W => W.heap[wr.heap.size]? = some (.cells #[.slice (some ⟨e.ga, 0, none⟩) e.K.length e.ca, .slice (some ⟨e.gb, 0, none⟩) e.J.length e.cb] 38 (0, 0))) (by kernel_rfl) hbx (fun hS => ?_)
      refine wpAnyH_take (i := 0) (v := .map (some (w.heap.size + 1 + 1 + 1 + 1 + 1))) rfl (by kernel_rfl) (by kernel_rfl) (by kernel_rfl) (fun _ _ _ h => h) (Or.inl ⟨by rfl, ?_⟩) hS ?_
      · intro W hW; have e0 := cell_of_row W wr.heap.size 0 _ _ _ hW; have e1 := cell_of_row W wr.heap.size 1 _ _ _ hW; simp only [List.getElem?_toArray, List.getElem?_cons_zero, List.getElem?_cons_succ] at e0 e1; go_simp
      refine wpAnyH_take (i := 1) (v := .pointer (some ⟨wr.heap.size, 0, none⟩)) rfl (by kernel_rfl) (by kernel_rfl) (by kernel_rfl) (fun _ _ _ h => h) (Or.inl ⟨by rfl, ?_⟩) hS ?_
      · intro W hW; have e0 := cell_of_row W wr.heap.size 0 _ _ _ hW; have e1 := cell_of_row W wr.heap.size 1 _ _ _ hW; simp only [List.getElem?_toArray, List.getElem?_cons_zero, List.getElem?_cons_succ] at e0 e1; go_simp
      refine wpAnyH_take (i := 2) (v := .slice (some ⟨e.ga, 0, none⟩) e.K.length e.ca) rfl (by kernel_rfl) (by kernel_rfl) (by kernel_rfl) (fun _ _ _ h => h) (Or.inl ⟨by rfl, ?_⟩) hS ?_
      · intro W hW; have e0 := cell_of_row W wr.heap.size 0 _ _ _ hW; have e1 := cell_of_row W wr.heap.size 1 _ _ _ hW; simp only [List.getElem?_toArray, List.getElem?_cons_zero, List.getElem?_cons_succ] at e0 e1; go_simp
      refine wpAnyH_take (i := 4) (v := .pointer (some ⟨wr.heap.size, 1, none⟩)) rfl (by kernel_rfl) (by kernel_rfl) (by kernel_rfl) (fun _ _ _ h => h) (Or.inl ⟨by rfl, ?_⟩) hS ?_
      · intro W hW; have e0 := cell_of_row W wr.heap.size 0 _ _ _ hW; have e1 := cell_of_row W wr.heap.size 1 _ _ _ hW; simp only [List.getElem?_toArray, List.getElem?_cons_zero, List.getElem?_cons_succ] at e0 e1; go_simp
      refine wpAnyH_take (i := 5) (v := .slice (some ⟨e.gb, 0, none⟩) e.J.length e.cb) rfl (by kernel_rfl) (by kernel_rfl) (by kernel_rfl) (fun _ _ _ h => h) (Or.inl ⟨by rfl, ?_⟩) hS ?_
      · intro W hW; have e0 := cell_of_row W wr.heap.size 0 _ _ _ hW; have e1 := cell_of_row W wr.heap.size 1 _ _ _ hW; simp only [List.getElem?_toArray, List.getElem?_cons_zero, List.getElem?_cons_succ] at e0 e1; go_simp
      simp only [Act.put, List.setIfInBounds_toArray]
      refine wpAnyH_ready (rs := [3]) (by kernel_rfl) (by simp) (AllReadyH.cons rfl (fun K hK => ?_) AllReadyH.nil)
      go_simp
      refine (placeOf_in _ e.ga e.K.length e.ca hlK).mono ?_
      rintro en w2 ⟨rfl, hU2⟩
      have U2 : Hid (Upd [] wr w2) := HU1.out.drew.trans hU2
      have hS2 : w2.heap[wr.heap.size]? = some (.cells #[.slice (some ⟨e.ga, 0, none⟩) e.K.length e.ca, .slice (some ⟨e.gb, 0, none⟩) e.J.length e.cb] 38 (0, 0)) := (hU2.block _ (by simp) (by simp)).trans hS
      refine hK.out _ _ hS2 (fun _ => ?_)
      clear hK K hU2 hS hbx
      refine wpAnyH_ready (rs := [6]) (by kernel_rfl) (by simp) (AllReadyH.cons rfl (fun K hK => ?_) AllReadyH.nil)
      go_simp
      refine (placeOf_in _ e.gb e.J.length e.cb hlJ).mono ?_
      rintro en w3 ⟨rfl, hU3⟩
      have U3 : Hid (Upd [] wr w3) := U2.out.trans hU3
      have hS3 : w3.heap[wr.heap.size]? = some (.cells #[.slice (some ⟨e.ga, 0, none⟩) e.K.length e.ca, .slice (some ⟨e.gb, 0, none⟩) e.J.length e.cb] 38 (0, 0)) := (hU3.block _ (lt_of_block hS2) (by simp)).trans hS2
      refine hK.out _ _ hS3 (fun _ => ?_)
      clear hK K hU3 hS2
      have hok := HI.out.ok e (by simp)
      have hga := hok.a.1
      have hgb := hok.b.1
      have hGa : ¬ G e.ga := HI.out.out e (by simp) _ hga
      have hGb : ¬ G e.gb := fun hx => HAB.out _ (HI.out.gA _ hx) (hok.sb _ hgb)
      have hgg : e.ga ≠ e.gb := fun hx => HAB.out _ (hok.sa _ hga) (hx ▸ hok.sb _ hgb)
      have hW3 : Upd [] W0 w3 := HI.out.u.trans U3.out
      have HJ : Hid (Unit → _) := fun _ => join_any w3 (w.heap.size + 1 + 1 + 1 + 1 + 1) G e.ga e.gb e.K.length e.J.length (HI.out.map.upd U3.out (by simp) (by simp)) hGa (hok.a.unm.upd hW3 (by simp)) hGb (hok.b.unm.upd hW3 (by simp)) hgg
      have hlga : e.ga < W0.heap.size := hok.a.lt
      have hfar := HI.out.far
      have hNE : e.ga ≠ (w.heap.size + 1 + 1 + 1 + 1 + 1) ∧ ∀ x, G x → x ≠ (w.heap.size + 1 + 1 + 1 + 1 + 1) := ⟨by omega, fun x hx => by have := HLA.out x (Or.inl (HI.out.gA x hx)); omega⟩
      have HOK : Hid (e.Ok W0 d (fun x => PA x ∨ x = w.heap.size + 2) (fun x => PB x ∨ x = w.heap.size + 3)) := hok
      have HNE : Hid (e.ga ≠ (w.heap.size + 1 + 1 + 1 + 1 + 1) ∧ ∀ x, G x → x ≠ (w.heap.size + 1 + 1 + 1 + 1 + 1)) := hNE
      have HF : Hid (W0.heap.size ≤ (w.heap.size + 1 + 1 + 1 + 1 + 1)) := hfar
      clear hga hgb hGa hGb hgg hW3 hlga hNE hok hfar
      refine wpAnyH_ready (rs := [7]) (by kernel_rfl) (by simp) (AllReadyH.cons rfl (fun K hK => ?_) AllReadyH.nil)
      go_simp
      refine Calls.mono (HJ.out ()) ?_
      rintro en w4 ⟨rfl, hU4, hM4⟩
      have hbn : wr.heap.size ≠ (w.heap.size + 1 + 1 + 1 + 1 + 1) := by have := HI.out.map.lt; omega
      have hS4 : w4.heap[wr.heap.size]? = some (.cells #[.slice (some ⟨e.ga, 0, none⟩) e.K.length e.ca, .slice (some ⟨e.gb, 0, none⟩) e.J.length e.cb] 38 (0, 0)) := (hU4.block _ (lt_of_block hS3) (by simpa using hbn)).trans hS3
      have U4 : Hid (Upd [(w.heap.size + 1 + 1 + 1 + 1 + 1)] wr w4) := ((Upd.refl [(w.heap.size + 1 + 1 + 1 + 1 + 1)] wr).then U3.out (by simp)).trans hU4
      have HM4 : Hid (e.K.length ≠ 0 ∨ e.J.length = 0 → MapK w4 (w.heap.size + 1 + 1 + 1 + 1 + 1) (fun x => G x ∨ x = e.ga)) := hM4 HNE.out.1 HNE.out.2
      refine hK.out _ _ hS4 (fun _ => ?_)
      clear hK K hU4 hM4 hS3 HJ hbn
      cases hj : jb e.K.length e.J.length with
      | false =>
        have hz : e.K.length = 0 ∧ e.J.length = 0 := by
          unfold jb at hj
          simpa using hj
        have HZ : Hid (e.K.length = 0 ∧ e.J.length = 0) := hz
        clear hz hj
        refine wpAnyH_take (i := 8) (v := .bool true) rfl (by kernel_rfl) (by kernel_rfl) (by kernel_rfl) (fun _ _ _ h => h) (Or.inl ⟨by rfl, ?_⟩) hS4 ?_
        · intro W hW; go_simp
        simp only [Act.put, List.getElem_toArray, List.getElem_cons_succ, List.getElem_cons_zero, List.setIfInBounds_toArray, List.set_cons_succ, List.set_cons_zero]
        refine wpAnyH_done (by kernel_rfl) ?_ _
        go_wp2
        go_roundg (mass E0)
        case measure =>
          have := HMS.out
          rw [mass_append, mass, mass] at this
          omega
        case rel =>
          refine ⟨E0, _, Nat.le_refl _, by have := HMB.out; rw [mass_append] at this; omega, ?_, HI.out.pop HN.out U4.out (HM4.out (Or.inr HZ.out.2))⟩
          have h1 : e.K = [] := List.eq_nil_of_length_eq_zero HZ.out.1
          have h2 : e.J = [] := List.eq_nil_of_length_eq_zero HZ.out.2
          rw [HRS.out, List.all_append]
          simp [Ent.sam, h1, h2, samR]
      | true =>
        have hU4 : Upd [] W0 w4 := HI.out.u.then U4.out (fun x hx => Or.inl (by simp at hx; subst hx; exact HF.out))
        have HAL : Hid (Unit → _) := fun _ => alike_in d w4 _ _ e.ca e.cb e.K e.J (HOK.out.a.nin hU4) (HOK.out.b.nin hU4) hlK hlJ
        have HU4 : Hid (Upd [] W0 w4) := hU4
        have y0 : w4.cell? ⟨wr.heap.size, 0, none⟩ = some (.slice (some ⟨e.ga, 0, none⟩) e.K.length e.ca) := cell_of_row w4 _ 0 _ _ _ hS4
        have y1 : w4.cell? ⟨wr.heap.size, 1, none⟩ = some (.slice (some ⟨e.gb, 0, none⟩) e.J.length e.cb) := cell_of_row w4 _ 1 _ _ _ hS4
        have HJB : Hid (jb e.K.length e.J.length = true) := hj
        clear hU4 hj
        refine wpAnyH_take (i := 8) (v := .bool false) rfl (by kernel_rfl) (by kernel_rfl) (by kernel_rfl) (fun _ _ _ h => h) (Or.inl ⟨by rfl, ?_⟩) hS4 ?_
        · intro W hW; go_simp
        simp only [Act.put, List.getElem_toArray, List.getElem_cons_succ, List.getElem_cons_zero, List.setIfInBounds_toArray, List.set_cons_succ, List.set_cons_zero]
        refine wpAnyH_done (by kernel_rfl) ?_ _
        go_wp2_with fail
        refine Calls.mono (HAL.out ()) ?_
        rintro en w5 ⟨rfl, hU5⟩
        have U5 : Hid (Upd [] w4 w5) := hU5
        have hS5 : w5.heap[wr.heap.size]? = some (.cells #[.slice (some ⟨e.ga, 0, none⟩) e.K.length e.ca, .slice (some ⟨e.gb, 0, none⟩) e.J.length e.cb] 38 (0, 0)) := (hU5.block _ (lt_of_block hS4) (by simp)).trans hS4
        clear hU5 hS4 y0 y1 HAL
        cases hal : alR e.K e.J with
        | false =>
          have HR : Hid (samN t u = false) := by
            show _ = _
            rw [HRS.out, List.all_append]
            simp [Ent.sam, samR_alR _ _ hal]
          have HU : Hid (Upd [] w w5) := HW.out.2.trans (HU4.out.trans U5.out)
          clear hal
          go_wp2
          go_ret
          exact ⟨ret_boolN HR.out.symm, HU.out⟩
        | true =>
          have hll : e.K.length = e.J.length := ((alR_iff _ _).1 hal).1
          have hK0 : e.K.length ≠ 0 := fun h0 => by
            have := HJB.out
            unfold jb at this
            rw [← hll, h0] at this
            simp at this
          obtain ⟨F, hF⟩ := kids_of HOK.out hll
          have HDE : Hid (∀ e' ∈ E0, ∀ x, e'.PA x → ¬ e.PA x) := fun e' he' x hx => (List.pairwise_append.1 HI.out.dis).2.2 e' he' e (by simp) x hx
          have HGE : Hid (∀ x, e.PA x → ¬ G x) := HI.out.out e (by simp)
          have HMB2 : Hid (mass (E0 ++ F) ≤ 100000) := by
            show _ ≤ _
            have h1 := HMB.out
            have h2 := hF.mass
            rw [mass_append, mass, mass] at h1
            rw [mass_append]
            omega
          have HF2 : Hid (Kids W0 d _ _ e F) := hF
          have hFl : F.length = e.K.length := hF.len
          have HI5 : Hid (SmI W0 d (w.heap.size + 1 + 1 + 1 + 1 + 1) (fun x => PA x ∨ x = w.heap.size + 2) (fun x => PB x ∨ x = w.heap.size + 3) (fun x => G x ∨ x = e.ga) E0 (.slice (some ⟨g, 0, none⟩) n cap) w5) := (HI.out.pop HN.out U4.out (HM4.out (Or.inl hK0))).later U5.out
          have HRS2 : Hid (samN t u = (E0 ++ F).all Ent.sam) := by
            show _ = _
            rw [HRS.out, List.all_append, List.all_append]
            congr 1
            simp only [List.all_cons, List.all_nil, Bool.and_true]
            rw [Ent.sam]
            exact hF.sam hal
          have HMS2 : Hid (mass (E0 ++ F) < gk) := by
            show _ < _
            have h1 := HMS.out
            have h2 := hF.mass
            rw [mass_append, mass, mass] at h1
            rw [mass_append]
            omega
          have z0 : w5.cell? ⟨wr.heap.size, 0, none⟩ = some (.slice (some ⟨e.ga, 0, none⟩) e.K.length e.ca) := cell_of_row w5 _ 0 _ _ _ hS5
          have HLL : Hid (e.K.length = e.J.length) := hll
          have HFL : Hid (F.length = e.K.length) := hFl
          have hgb : g ≠ wr.heap.size := by omega
          clear hal hll hK0 hF hFl HI HM4 HJB HRS HMS U2 U3 HU1 HMB U4 HN HU4 U5
          go_wp2
          generalize hbx : wr.heap.size = bx at hS5 z0 hgb ⊢
          clear hbx x0 x1 hg
          go_loopw [48, 5] (fun i v wr => ∃ k : Nat, k ≤ e.K.length ∧ i = .int .i64 k ∧ SmI W0 d (w.heap.size + 1 + 1 + 1 + 1 + 1) (fun x => PA x ∨ x = w.heap.size + 2) (fun x => PB x ∨ x = w.heap.size + 3) (fun x => G x ∨ x = e.ga) (E0 ++ F.take k) v wr ∧ wr.heap[bx]? = some (.cells #[.slice (some ⟨e.ga, 0, none⟩) e.K.length e.ca, .slice (some ⟨e.gb, 0, none⟩) e.J.length e.cb] 38 (0, 0)) ∧ v.ownBlock ≠ some bx) (fun i _ _ => e.K.length - (intOf i).toNat)
          case atStart => exact ⟨0, Nat.zero_le _, rfl, by simpa using HI5.out, hS5, by simpa [Value.ownBlock] using hgb⟩
          case round =>
            obtain ⟨k, hk, rfl, hIk, hbk, hvb⟩ := hrel
            obtain ⟨va, vc, rfl, _⟩ := hIk.row.form
            have HIK : Hid (SmI W0 d (w.heap.size + 1 + 1 + 1 + 1 + 1) _ _ (fun x => G x ∨ x = e.ga) (E0 ++ F.take k) (.slice va (E0 ++ F.take k).length vc) wr) := hIk
            clear hIk hS5 z0 HI5
            by_cases hk2 : k < e.K.length
            · have hkF : k < F.length := by have := HFL.out; omega
              have hkJ : k < e.J.length := by have := HLL.out; omega
              have i1 : (k : Int) < (e.K.length : Int) := by omega
              have i2 : (k : Int) < (e.J.length : Int) := by omega
              obtain ⟨N, hN⟩ : ∃ N, N = (E0 ++ F.take k).length := ⟨_, rfl⟩
              have HNN : Hid (N = (E0 ++ F.take k).length) := hN
              rw [← hN] at HIK hvb ⊢
              have hNb : N ≤ 100000 := by
                have h1 := HMB2.out
                have h2 := len_mass (E0 ++ F)
                rw [List.length_append] at h2
                rw [hN, List.length_append, List.length_take]
                omega
              clear hN
              have ca : wr.drew.cell? ⟨e.ga, k * 5 + 4, none⟩ = some (.slice (some ⟨F[k].ga, 0, none⟩) F[k].K.length F[k].ca) := ((HIK.out.u.drew).cell (p := ⟨e.ga, k * 5 + 4, none⟩) HOK.out.a.lt (by simp)).trans (HF2.out.ca k hkF)
              have cb : wr.drew.cell? ⟨e.gb, k * 5 + 4, none⟩ = some (.slice (some ⟨F[k].gb, 0, none⟩) F[k].J.length F[k].cb) := ((HIK.out.u.drew).cell (p := ⟨e.gb, k * 5 + 4, none⟩) HOK.out.b.lt (by simp)).trans (HF2.out.cb k hkF)
              go_wp2
              refine wp_region_held_drew (S := fun W => W.heap[bx]? = some (.cells #[.slice (some ⟨e.ga, 0, none⟩) e.K.length e.ca, .slice (some ⟨e.gb, 0, none⟩) e.J.length e.cb] 38 (0, 0)) ∧ W.cell? ⟨e.ga, k * 5 + 4, none⟩ = some (.slice (some ⟨F[k].ga, 0, none⟩) F[k].K.length F[k].ca) ∧ W.cell? ⟨e.gb, k * 5 + 4, none⟩ = some (.slice (some ⟨F[k].gb, 0, none⟩) F[k].J.length F[k].cb)) (by kernel_rfl) ⟨hbk, ca, cb⟩ (fun hS => ?_)
              refine wpAnyH_take (i := 0) (v := .slice va N vc) rfl (by kernel_rfl) (by kernel_rfl) (by kernel_rfl) (fun _ _ _ h => h) (Or.inl ⟨by rfl, ?_⟩) hS ?_
              · intro W hW; obtain ⟨hb0, c0, c1⟩ := hW; have e0 := cell_of_row W bx 0 _ _ _ hb0; have e1 := cell_of_row W bx 1 _ _ _ hb0; simp only [List.getElem?_toArray, List.getElem?_cons_zero, List.getElem?_cons_succ] at e0 e1; go_simp
              refine wpAnyH_take (i := 1) (v := .pointer (some ⟨bx, 0, none⟩)) rfl (by kernel_rfl) (by kernel_rfl) (by kernel_rfl) (fun _ _ _ h => h) (Or.inl ⟨by rfl, ?_⟩) hS ?_
              · intro W hW; obtain ⟨hb0, c0, c1⟩ := hW; have e0 := cell_of_row W bx 0 _ _ _ hb0; have e1 := cell_of_row W bx 1 _ _ _ hb0; simp only [List.getElem?_toArray, List.getElem?_cons_zero, List.getElem?_cons_succ] at e0 e1; go_simp
              refine wpAnyH_take (i := 2) (v := .slice (some ⟨e.ga, 0, none⟩) e.K.length e.ca) rfl (by kernel_rfl) (by kernel_rfl) (by kernel_rfl) (fun _ _ _ h => h) (Or.inl ⟨by rfl, ?_⟩) hS ?_
              · intro W hW; obtain ⟨hb0, c0, c1⟩ := hW; have e0 := cell_of_row W bx 0 _ _ _ hb0; have e1 := cell_of_row W bx 1 _ _ _ hb0; simp only [List.getElem?_toArray, List.getElem?_cons_zero, List.getElem?_cons_succ] at e0 e1; go_simp
              refine wpAnyH_take (i := 3) (v := .int .i64 k) rfl (by kernel_rfl) (by kernel_rfl) (by kernel_rfl) (fun _ _ _ h => h) (Or.inl ⟨by rfl, ?_⟩) hS ?_
              · intro W hW; obtain ⟨hb0, c0, c1⟩ := hW; have e0 := cell_of_row W bx 0 _ _ _ hb0; have e1 := cell_of_row W bx 1 _ _ _ hb0; simp only [List.getElem?_toArray, List.getElem?_cons_zero, List.getElem?_cons_succ] at e0 e1; go_simp
              refine wpAnyH_take (i := 4) (v := .pointer (some ⟨e.ga, k * 5, none⟩)) rfl (by kernel_rfl) (by kernel_rfl) (by kernel_rfl) (fun _ _ _ h => h) (Or.inl ⟨by rfl, ?_⟩) hS ?_
              · intro W hW; obtain ⟨hb0, c0, c1⟩ := hW; have e0 := cell_of_row W bx 0 _ _ _ hb0; have e1 := cell_of_row W bx 1 _ _ _ hb0; simp only [List.getElem?_toArray, List.getElem?_cons_zero, List.getElem?_cons_succ] at e0 e1; go_simp
              refine wpAnyH_take (i := 5) (v := .pointer (some ⟨e.ga, k * 5 + 4, none⟩)) rfl (by kernel_rfl) (by kernel_rfl) (by kernel_rfl) (fun _ _ _ h => h) (Or.inl ⟨by rfl, ?_⟩) hS ?_
              · intro W hW; obtain ⟨hb0, c0, c1⟩ := hW; have e0 := cell_of_row W bx 0 _ _ _ hb0; have e1 := cell_of_row W bx 1 _ _ _ hb0; simp only [List.getElem?_toArray, List.getElem?_cons_zero, List.getElem?_cons_succ] at e0 e1; go_simp
              refine wpAnyH_take (i := 6) (v := .slice (some ⟨F[k].ga, 0, none⟩) F[k].K.length F[k].ca) rfl (by kernel_rfl) (by kernel_rfl) (by kernel_rfl) (fun _ _ _ h => h) (Or.inl ⟨by rfl, ?_⟩) hS ?_
              · intro W hW; obtain ⟨hb0, c0, c1⟩ := hW; have e0 := cell_of_row W bx 0 _ _ _ hb0; have e1 := cell_of_row W bx 1 _ _ _ hb0; simp only [List.getElem?_toArray, List.getElem?_cons_zero, List.getElem?_cons_succ] at e0 e1; go_simp
              refine wpAnyH_take (i := 7) (v := .pointer (some ⟨bx, 1, none⟩)) rfl (by kernel_rfl) (by kernel_rfl) (by kernel_rfl) (fun _ _ _ h => h) (Or.inl ⟨by rfl, ?_⟩) hS ?_
              · intro W hW; obtain ⟨hb0, c0, c1⟩ := hW; have e0 := cell_of_row W bx 0 _ _ _ hb0; have e1 := cell_of_row W bx 1 _ _ _ hb0; simp only [List.getElem?_toArray, List.getElem?_cons_zero, List.getElem?_cons_succ] at e0 e1; go_simp
              refine wpAnyH_take (i := 8) (v := .slice (some ⟨e.gb, 0, none⟩) e.J.length e.cb) rfl (by kernel_rfl) (by kernel_rfl) (by kernel_rfl) (fun _ _ _ h => h) (Or.inl ⟨by rfl, ?_⟩) hS ?_
              · intro W hW; obtain ⟨hb0, c0, c1⟩ := hW; have e0 := cell_of_row W bx 0 _ _ _ hb0; have e1 := cell_of_row W bx 1 _ _ _ hb0; simp only [List.getElem?_toArray, List.getElem?_cons_zero, List.getElem?_cons_succ] at e0 e1; go_simp
              refine wpAnyH_take (i := 9) (v := .int .i64 k) rfl (by kernel_rfl) (by kernel_rfl) (by kernel_rfl) (fun _ _ _ h => h) (Or.inl ⟨by rfl, ?_⟩) hS ?_
              · intro W hW; obtain ⟨hb0, c0, c1⟩ := hW; have e0 := cell_of_row W bx 0 _ _ _ hb0; have e1 := cell_of_row W bx 1 _ _ _ hb0; simp only [List.getElem?_toArray, List.getElem?_cons_zero, List.getElem?_cons_succ] at e0 e1; go_simp
              refine wpAnyH_take (i := 10) (v := .pointer (some ⟨e.gb, k * 5, none⟩)) rfl (by kernel_rfl) (by kernel_rfl) (by kernel_rfl) (fun _ _ _ h => h) (Or.inl ⟨by rfl, ?_⟩) hS ?_
              · intro W hW; obtain ⟨hb0, c0, c1⟩ := hW; have e0 := cell_of_row W bx 0 _ _ _ hb0; have e1 := cell_of_row W bx 1 _ _ _ hb0; simp only [List.getElem?_toArray, List.getElem?_cons_zero, List.getElem?_cons_succ] at e0 e1; go_simp
              refine wpAnyH_take (i := 11) (v := .pointer (some ⟨e.gb, k * 5 + 4, none⟩)) rfl (by kernel_rfl) (by kernel_rfl) (by kernel_rfl) (fun _ _ _ h => h) (Or.inl ⟨by rfl, ?_⟩) hS ?_
              · intro W hW; obtain ⟨hb0, c0, c1⟩ := hW; have e0 := cell_of_row W bx 0 _ _ _ hb0; have e1 := cell_of_row W bx 1 _ _ _ hb0; simp only [List.getElem?_toArray, List.getElem?_cons_zero, List.getElem?_cons_succ] at e0 e1; go_simp
              refine wpAnyH_take (i := 12) (v := .slice (some ⟨F[k].gb, 0, none⟩) F[k].J.length F[k].cb) rfl (by kernel_rfl) (by kernel_rfl) (by kernel_rfl) (fun _ _ _ h => h) (Or.inl ⟨by rfl, ?_⟩) hS ?_
              · intro W hW; obtain ⟨hb0, c0, c1⟩ := hW; have e0 := cell_of_row W bx 0 _ _ _ hb0; have e1 := cell_of_row W bx 1 _ _ _ hb0; simp only [List.getElem?_toArray, List.getElem?_cons_zero, List.getElem?_cons_succ] at e0 e1; go_simp
              refine wpAnyH_take (i := 13) (v := .agg #[.slice (some ⟨F[k].ga, 0, none⟩) F[k].K.length F[k].ca, .slice (some ⟨F[k].gb, 0, none⟩) F[k].J.length F[k].cb]) rfl (by kernel_rfl) (by kernel_rfl) (by kernel_rfl) (fun _ _ _ h => h) (Or.inl ⟨by rfl, ?_⟩) hS ?_
              · intro W hW; obtain ⟨hb0, c0, c1⟩ := hW; have e0 := cell_of_row W bx 0 _ _ _ hb0; have e1 := cell_of_row W bx 1 _ _ _ hb0; simp only [List.getElem?_toArray, List.getElem?_cons_zero, List.getElem?_cons_succ] at e0 e1; go_simp
              simp only [Act.put, List.getElem_toArray, List.getElem_cons_succ, List.getElem_cons_zero, List.setIfInBounds_toArray, List.set_cons_succ, List.set_cons_zero]
              refine wpAnyH_ready (rs := [14]) (by kernel_rfl) (by simp) (AllReadyH.cons rfl (fun K hK => ?_) AllReadyH.nil)
              go_simp
              have hu1 : Upd [] wr ((wr.alloc (.cells #[.slice (some ⟨F[k].ga, 0, none⟩) F[k].K.length F[k].ca, .slice (some ⟨F[k].gb, 0, none⟩) F[k].J.length F[k].cb] 38)).drew) := ((Upd.refl [] wr).alloc _).drew
              have hbw : bx < wr.heap.size := lt_of_block hbk
              have hnb : ((wr.alloc (.cells #[.slice (some ⟨F[k].ga, 0, none⟩) F[k].K.length F[k].ca, .slice (some ⟨F[k].gb, 0, none⟩) F[k].J.length F[k].cb] 38)).drew).heap[wr.heap.size]? = some (.cells #[.slice (some ⟨F[k].ga, 0, none⟩) F[k].K.length F[k].ca, .slice (some ⟨F[k].gb, 0, none⟩) F[k].J.length F[k].cb] 38 (0, 0)) := heap_alloc_new wr _
              have hS1 : ((wr.alloc (.cells #[.slice (some ⟨F[k].ga, 0, none⟩) F[k].K.length F[k].ca, .slice (some ⟨F[k].gb, 0, none⟩) F[k].J.length F[k].cb] 38)).drew).heap[bx]? = some (.cells #[.slice (some ⟨e.ga, 0, none⟩) e.K.length e.ca, .slice (some ⟨e.gb, 0, none⟩) e.J.length e.cb] 38 (0, 0)) ∧ ((wr.alloc (.cells #[.slice (some ⟨F[k].ga, 0, none⟩) F[k].K.length F[k].ca, .slice (some ⟨F[k].gb, 0, none⟩) F[k].J.length F[k].cb] 38)).drew).cell? ⟨e.ga, k * 5 + 4, none⟩ = some (.slice (some ⟨F[k].ga, 0, none⟩) F[k].K.length F[k].ca) ∧ ((wr.alloc (.cells #[.slice (some ⟨F[k].ga, 0, none⟩) F[k].K.length F[k].ca, .slice (some ⟨F[k].gb, 0, none⟩) F[k].J.length F[k].cb] 38)).drew).cell? ⟨e.gb, k * 5 + 4, none⟩ = some (.slice (some ⟨F[k].gb, 0, none⟩) F[k].J.length F[k].cb) := by
                have hz := HIK.out.u.size
                have l1 : e.ga < wr.heap.size := Nat.lt_of_lt_of_le HOK.out.a.lt hz
                have l2 : e.gb < wr.heap.size := Nat.lt_of_lt_of_le HOK.out.b.lt hz
                exact ⟨(hu1.block bx hbw (by simp)).trans hbk, (hu1.cell (p := ⟨e.ga, k * 5 + 4, none⟩) l1 (by simp)).trans ca, (hu1.cell (p := ⟨e.gb, k * 5 + 4, none⟩) l2 (by simp)).trans cb⟩
              obtain ⟨w1, hw1⟩ : ∃ w1, w1 = (wr.alloc (.cells #[.slice (some ⟨F[k].ga, 0, none⟩) F[k].K.length F[k].ca, .slice (some ⟨F[k].gb, 0, none⟩) F[k].J.length F[k].cb] 38)).drew := ⟨_, rfl⟩
              rw [← hw1] at hu1 hS1 hnb ⊢
              have HI1 : Hid (SmI W0 d (w.heap.size + 1 + 1 + 1 + 1 + 1) _ _ (fun x => G x ∨ x = e.ga) (E0 ++ F.take k) (.slice va N vc) w1) := HIK.out.later hu1
              have hz1 : wr.heap.size < w1.heap.size := lt_of_block hnb
              refine hK.out _ _ hS1 (fun _ => ?_)
              clear hK K hw1 hu1 hS hbk ca cb HIK
              obtain ⟨i0, hi, hz0, hzs, hzb⟩ := info_partsN info_pairP
              have hr1 := HI1.out.row
              rw [← HNN.out] at hr1
              obtain ⟨g', cap', w2, hrun, hR2, hG2, hC2⟩ := run_appendG (t := 39) (ty := 39) Tryd.underlying39 hi hz0 hzs hzb rfl hr1 ⟨wr.heap.size, 0, none⟩ 1 1 [.slice (some ⟨F[k].ga, 0, none⟩) F[k].K.length F[k].ca, .slice (some ⟨F[k].gb, 0, none⟩) F[k].J.length F[k].cb] rfl (fun j u hj => by
                rw [Addr.add_lit, Nat.zero_add, cell_of_row _ _ _ _ _ _ hnb]
                simpa using hj) (by intro u hu; simp only [List.mem_cons, List.not_mem_nil, or_false] at hu; rcases hu with h | h <;> subst h <;> rfl) (by omega) (by omega) (by omega)
              have hvg : bx ≠ g' := by
                rcases hG2.at' with h1 | h1
                · exact fun h2 => hvb (by rw [h2]; exact h1)
                · omega
              have hS2 : w2.heap[bx]? = some (.cells #[.slice (some ⟨e.ga, 0, none⟩) e.K.length e.ca, .slice (some ⟨e.gb, 0, none⟩) e.J.length e.cb] 38 (0, 0)) ∧ w2.cell? ⟨e.ga, k * 5 + 4, none⟩ = some (.slice (some ⟨F[k].ga, 0, none⟩) F[k].K.length F[k].ca) ∧ w2.cell? ⟨e.gb, k * 5 + 4, none⟩ = some (.slice (some ⟨F[k].gb, 0, none⟩) F[k].J.length F[k].cb) := by
                have hg0 : W0.heap.size ≤ g' := by
                  rcases hG2.at' with h1 | h1
                  · exact (HI1.out.own g' h1).1
                  · have := HI1.out.u.size; omega
                have l1 := HOK.out.a.lt
                have l2 := HOK.out.b.lt
                have hz := HI1.out.u.size
                exact ⟨(hG2.upd.block bx (by omega) (by simpa using hvg)).trans hS1.1, (hG2.upd.cell (p := ⟨e.ga, k * 5 + 4, none⟩) (by show e.ga < _; omega) (by simp; omega)).trans hS1.2.1, (hG2.upd.cell (p := ⟨e.gb, k * 5 + 4, none⟩) (by show e.gb < _; omega) (by simp; omega)).trans hS1.2.2⟩
              have HI2 : Hid (SmI W0 d (w.heap.size + 1 + 1 + 1 + 1 + 1) (fun x => PA x ∨ x = w.heap.size + 2) (fun x => PB x ∨ x = w.heap.size + 3) (fun x => G x ∨ x = e.ga) (E0 ++ F.take (k + 1)) (.slice (some ⟨g', 0, none⟩) (N + 1) cap') w2) := by
                have hsub := HF2.out.sub F[k] (List.getElem_mem hkF)
                have hp := HI1.out.push (f := F[k]) HNN.out (fun x hx => HLA.out x (Or.inl hx)) hR2 hG2 hC2 (HF2.out.ok F[k] (List.getElem_mem hkF)) (fun e' he' x hx hx2 => ?_) (fun x hx => ?_)
                · rw [List.take_succ_eq_append_getElem hkF, ← List.append_assoc]
                  exact hp
                · rcases List.mem_append.1 he' with h1 | h1
                  · exact HDE.out e' h1 x hx (hsub x hx2).1
                  · obtain ⟨i, hi, rfl⟩ := List.mem_iff_getElem.1 h1
                    rw [List.getElem_take] at hx
                    have hik : i < k := by rw [List.length_take] at hi; omega
                    exact List.pairwise_iff_getElem.1 HF2.out.dis i k (by omega) hkF hik x hx hx2
                · rintro (h1 | h1)
                  · exact HGE.out x (hsub x hx).1 h1
                  · exact (hsub x hx).2 h1
              clear hR2 hG2 hC2 hr1
              refine wpAnyH_ready (rs := [15]) (by kernel_rfl) (by simp) (AllReadyH.cons rfl (fun K hK => ?_) AllReadyH.nil)
              refine step_append rfl _ _ rfl _ _ _ _ rfl rfl hrun ?_
              refine hK.out _ _ hS2 (fun _ => ?_)
              clear hK K hrun hS1 hnb
              simp only [Act.put, List.getElem_toArray, List.getElem_cons_succ, List.getElem_cons_zero, List.setIfInBounds_toArray, List.set_cons_succ, List.set_cons_zero]
              refine wpAnyH_take (i := 16) (v := .slice (some ⟨g', 0, none⟩) (N + 1) cap') rfl (by kernel_rfl) (by kernel_rfl) (by kernel_rfl) (fun _ _ _ h => h) (Or.inl ⟨by rfl, ?_⟩) hS2 ?_
              · intro W hW; go_simp
              simp only [Act.put, List.getElem_toArray, List.getElem_cons_succ, List.getElem_cons_zero, List.setIfInBounds_toArray, List.set_cons_succ, List.set_cons_zero]
              refine wpAnyH_done (by kernel_rfl) ?_ _
              go_wp2
              go_roundw
              case rel => exact ⟨k + 1, by omega, by go_num, HI2.out, hS2.1, by simp [Value.ownBlock]; omega⟩
              case measure => simp [intOf]; omega
            · have hkk : k = e.K.length := by omega
              have hd : decide ((k : Int) < (e.K.length : Int)) = false := by simp; omega
              have HIE : Hid (SmI W0 d (w.heap.size + 1 + 1 + 1 + 1 + 1) (fun x => PA x ∨ x = w.heap.size + 2) (fun x => PB x ∨ x = w.heap.size + 3) (fun x => G x ∨ x = e.ga) (E0 ++ F) (.slice va (E0 ++ F.take k).length vc) wr) := by
                have h2 : F.take k = F := List.take_of_length_le (by have := HFL.out; omega)
                have := HIK.out
                rw [h2] at this ⊢
                exact this
              clear HIK hkk
              go_wp2
              go_roundg (mass (E0 ++ F))
              case measure => exact HMS2.out
              case rel => exact ⟨E0 ++ F, _, Nat.le_refl _, HMB2.out, HRS2.out, HIE.out⟩

end Go.Proofs.YtejcppnleckmfaaDoor
