/- Deep of package node, of whatever tree that is lent. -/
import Derived.Test.YtehfoblfmehbdaaDoorJAO
import Derived.Deep.LoopGhost
namespace Go.Proofs.YtehfoblfmehbdaaDoor
open Go.RowKit

/-- The map of depths, and its box. -/
structure DT (W0 W : World) (bd bm : Nat) (l : Ents) : Prop where
  f : FunB W bd (.map (some bm)) 44
  m : DM W bm l
  u : Upd [bm] W0 W
theorem DT.later {W0 W V : World} {bd bm : Nat} {l : Ents} (h : DT W0 W bd bm l) (hu : Upd [] W V) : DT W0 V bd bm l := ⟨h.f.mono hu (by simp), h.m.upd hu (by simp), h.u.then hu (by simp)⟩
theorem DT.put {W0 W V : World} {bd bm : Nat} {l l' : Ents} (h : DT W0 W bd bm l) (hu : Upd [bm] W V) (hd : DM V bm l') (hb : bd ≠ bm) : DT W0 V bd bm l' := ⟨h.f.mono hu (by simpa using hb), hd, h.u.trans hu⟩
theorem DT.grow {W0 W V : World} {bd bm b : Nat} {l : Ents} (h : DT W0 W bd bm l) (hu : Upd [b] W V) (hb : W0.heap.size ≤ b) (h1 : bd < W0.heap.size) (h2 : bm < W0.heap.size) : DT W0 V bd bm l := ⟨h.f.mono hu (by simp; omega), h.m.upd hu (by simp; omega), h.u.then hu (by simp; omega)⟩
/-- The stack. -/
def Stk (W0 W : World) (v : Value) (S : List Value) : Prop := RowG W 1 v S.length ∧ Hs W 1 v S.length (fun i => (S[i]?).toList) ∧ ∀ x, v.ownBlock = some x → W0.heap.size ≤ x
theorem Stk.upd {X : List Nat} {W0 W V : World} {v : Value} {S : List Value} (h : Stk W0 W v S) (hu : Upd X W V) (hX : ∀ x ∈ X, x < W0.heap.size) : Stk W0 V v S := by
  have hn : ∀ x, v.ownBlock = some x → x ∉ X := fun x hx hX2 => by
    have := h.2.2 x hx
    have := hX x hX2
    omega
  exact ⟨h.1.upd hu hn, h.2.1.upd h.1 hu hn, h.2.2⟩
theorem Stk.pop {W0 W : World} {g n cap : Nat} {S : List Value} {a : Value} (h : Stk W0 W (.slice (some ⟨g, 0, none⟩) (n + 1) cap) (S ++ [a])) (hn : n = S.length) : Stk W0 W (.slice (some ⟨g, 0, none⟩) n cap) S := by
  subst hn
  obtain ⟨h1, h2, h3⟩ := h
  rw [List.length_append] at h1
  refine ⟨RowG.pop h1, ?_, h3⟩
  refine Hs.weak (Hs.other (h2.less (show S.length ≤ (S ++ [a]).length by simp))) fun i hi => ?_
  rw [List.getElem?_append_left hi]
theorem Stk.top {W0 W : World} {g n cap : Nat} {S : List Value} {a : Value} (h : Stk W0 W (.slice (some ⟨g, 0, none⟩) (n + 1) cap) (S ++ [a])) (hn : n = S.length) : W.cell? ⟨g, n, none⟩ = some a := by
  have := h.2.1 g _ _ rfl n 0 (by simp [hn]) (by omega)
  rw [Nat.mul_one, Nat.add_zero] at this
  rw [this, hn]
  simp
theorem Stk.app {W0 w w' : World} {v : Value} {S news : List Value} {n m g' cap' : Nat} (h : Stk W0 w v S) (hu : W0.heap.size ≤ w.heap.size) (hn : n = S.length) (hm : m = news.length) (hr : RowG w' 1 (.slice (some ⟨g', 0, none⟩) (n + m) cap') (n + m)) (hg : Grew 1 w w' v n g') (hc : ∀ j, j < m * 1 → w'.cell? ⟨g', n * 1 + j, none⟩ = news[j]?) :
    Stk W0 w' (.slice (some ⟨g', 0, none⟩) (n + m) cap') (S ++ news) ∧ W0.heap.size ≤ g' := by
  subst hn
  subst hm
  have hg1 : W0.heap.size ≤ g' := by
    rcases hg.at' with h1 | h1
    · exact h.2.2 g' h1
    · omega
  refine ⟨⟨by simpa using hr, ?_, fun x hx => ?_⟩, hg1⟩
  · intro g2 l2 c2 e i j hi hj
    simp only [Value.slice.injEq, Option.some.injEq, Addr.mk.injEq, and_true] at e
    obtain ⟨rfl, _, _⟩ := e
    have hj0 : j = 0 := by omega
    subst hj0
    by_cases hi2 : i < S.length
    · have h2 := hg.has (l' := S.length + news.length) (c' := cap') h.2.1 (Nat.le_refl _) h.1 g' _ _ rfl i 0 hi2 (by omega)
      rw [h2]
      show (S[i]?).toList[0]? = ((S ++ news)[i]?).toList[0]?
      rw [List.getElem?_append_left hi2]
    · have h3 := hc (i - S.length) (by rw [List.length_append] at hi; omega)
      rw [show i * 1 + 0 = S.length * 1 + (i - S.length) by omega, h3]
      show news[i - S.length]? = ((S ++ news)[i]?).toList[0]?
      rw [List.getElem?_append_right (by omega)]
      rw [List.length_append] at hi
      rw [List.getElem?_eq_getElem (by omega)]
      simp
  · simp only [Value.ownBlock, Option.some.injEq] at hx
    omega
theorem GI.start {W0 : World} {bm : Nat} {root : Kid} (h : root.Ok W0 bm) (hK : root.K ≠ []) : GI W0 bm root [(root, none)] [(none, 0, 0)] := by
  refine ⟨⟨[], rfl⟩, fun t ht => ?_, by simp, fun e he => ?_, fun e he hn x hx t ht => ?_, by simp, fun e he L hL => ?_, ⟨fun L hL => (by cases hL), trivial⟩, Or.inr ⟨(root, none), by simp, rfl⟩⟩
  · simp only [List.mem_singleton] at ht
    subst ht
    exact Or.inl rfl
  · simp only [List.mem_singleton] at he
    subst he
    exact ⟨h, hK⟩
  · simp only [List.mem_singleton] at ht
    subst ht
    simp
  · simp only [List.mem_singleton] at he
    subst he
    cases hL
theorem Done.at {W0 : World} {bm : Nat} {root : Kid} {E : List Frm'} {l : Ents} {f : Kid} (h : GI W0 bm root E l) (hf : f.Ok W0 bm) (hd : Done l f) (h0 : f.K.length ≠ 0) : ∃ l1 l2, l = l1 ++ (some ⟨f.g, 0, none⟩, (f.K.length : Int), (depR f.K : Int)) :: l2 ∧ ∀ t ∈ l1, ∀ W, Upd [bm] W0 W → Far W (some ⟨f.g, 0, none⟩) t.1 := by
  have hm := hd.resolve_left (fun h => h0 (by rw [h]; rfl))
  obtain ⟨l1, l2, rfl⟩ := List.append_of_mem hm
  refine ⟨l1, l2, rfl, fun t ht W hW => h.far hf.unm hf.ne hW (List.mem_append.2 (Or.inl ht)) ?_⟩
  exact (List.pairwise_append.1 h.nod).2.2 t ht _ (List.mem_cons.2 (Or.inl rfl))

set_option maxHeartbeats 4000000 in
set_option maxRecDepth 100000 in
theorem Deep_in (d : Nat) (w : World) (cs : List Value) (t : Nd) (P : Nat → Prop) (h : NL w d cs t P) (la : ∀ x, P x → x < w.heap.size) (hs : nsz t ≤ 20000) (hmt : manN t ≤ 20000) :
    Calls Tryd.prog 13 #[.agg cs.toArray] w fun e w' => e = .returned (.int .i64 (depN t)) ∧ Upd [] w w' := by
  obtain ⟨q0, q1, q2, q3, q4, rfl⟩ := list5 (NL.plain _ _ _ _ h).len
  have hmm := @run_makeMap Tryd.prog
  have tb0 := (Tb.new w #[q0, q1, q2, q3, q4] _ rfl).old (.map #[] 0)
  have u0 : Upd [] w ((w.alloc (.cells #[q0, q1, q2, q3, q4] 25)).alloc (.map #[] 0)) := ((Upd.refl [] w).alloc _).alloc _
  have hd0 : DM ((w.alloc (.cells #[q0, q1, q2, q3, q4] 25)).alloc (.map #[] 0)) (w.heap.size + 1) [] := ⟨#[], 0, by rw [show w.heap.size + 1 = (w.alloc (.cells #[q0, q1, q2, q3, q4] 25)).heap.size by simp]; exact heap_alloc_new _ _, rfl⟩
  have HN : Hid (NL w d [q0, q1, q2, q3, q4] t P) := h
  have HLA : Hid ((∀ x, P x → x < w.heap.size) ∧ nsz t ≤ 20000 ∧ manN t ≤ 20000) := ⟨la, hs, hmt⟩
  clear h la hs hmt
  go_enter Tryd.func13, Tryd.ntmps13
  go_wp2_with fail
  refine Calls.mono (placeOf_none _ none 0) ?_
  rintro e w1 ⟨rfl, hU1⟩
  obtain ⟨w2, hM2, hU2, hz2, hD2⟩ := (hd0.upd hU1 (by simp)).put_new (p := none) 0 0 (by simp)
  have tb2 : Tb w2 w.heap.size #[q0, q1, q2, q3, q4] := (tb0.mono hU1 (by simp)).mono hU2 (by simp)
  have U2 : Hid (Upd [] w w2) := (u0.trans hU1).then hU2 (by simp)
  have HD2 : Hid (DM w2 (w.heap.size + 1) [(none, 0, 0)]) := hD2
  have hs2 : w.heap.size + 2 ≤ w2.heap.size := by have := hU1.size; simp at this; omega
  have tb3 : Tb (w2.alloc (.cells #[.map (some (w.heap.size + 1))] 44)) w.heap.size #[q0, q1, q2, q3, q4] := tb2.old _
  clear u0 hd0 tb0 hU1 hU2 hz2 hD2
  go_wp2_with (first | (refine load_T _ rfl _ rfl _ _ rfl tb3 rfl ?_) | fail)
  have hbm : w2.heap.size ≠ w.heap.size + 1 := by omega
  obtain ⟨W0, hW0⟩ : ∃ W0, W0 = (w2.alloc (.cells #[.map (some (w.heap.size + 1))] 44)).alloc (.cells #[q0, q1, q2, q3, q4] 25) := ⟨_, rfl⟩
  have u2 : Upd [] w2 W0 := by rw [hW0]; exact ((Upd.refl [] w2).alloc _).alloc _
  have hz0 : W0.heap.size = w2.heap.size + 2 := by rw [hW0]; simp
  have hS0 : DT W0 W0 w2.heap.size (w.heap.size + 1) [(none, 0, 0)] := ⟨by rw [hW0]; exact (FunB.new w2 _ _ _ rfl).mono ((Upd.refl [] _).alloc _) (by simp), HD2.out.upd u2 (by simp), Upd.refl _ _⟩
  have ra : W0.heap[w2.heap.size + 1]? = some (.cells #[q0, q1, q2, q3, q4] 25 (0, 0)) := by rw [hW0]; exact Tb.new _ _ _ (by simp)
  have hUW : Upd [] w W0 := U2.out.trans u2
  obtain ⟨root, hroot⟩ : ∃ r : Kid, r = ⟨0, ⟨#[]⟩, 0, 0, w2.heap.size + 1, 1, [t], fun x => P x ∨ x = w2.heap.size + 1⟩ := ⟨_, rfl⟩
  have hrg : root.g = w2.heap.size + 1 := by rw [hroot]
  have hrK : root.K = [t] := by rw [hroot]
  have hrc : root.c = 1 := by rw [hroot]
  have hrok : root.Ok W0 (w.heap.size + 1) := by
    obtain ⟨la, hs, hmt⟩ := HLA.out
    rw [hroot]
    refine ⟨⟨d, Or.inr rfl, ⟨_, ra, by simp⟩, by simp, by simp, fun _ => P, fun i x _ hx => ⟨Or.inl hx, fun (e : x = w2.heap.size + 1) => by have := la x hx; omega⟩, fun i j x hi hj hij => by simp at hi hj; omega, fun i hi => ?_⟩, ?_, ?_, ?_⟩
    · have : i = 0 := by simpa using hi
      subst this
      exact ⟨[q0, q1, q2, q3, q4], rfl, fun j hj => by rw [Nat.zero_mul, Nat.zero_add, cell_of_row _ _ _ _ _ _ ra]; simp, NL.upd hUW _ _ _ _ (fun x _ => by simp) HN.out⟩
    · show nszs [t] ≤ 20000
      simp [nszs]; omega
    · show manR [t] ≤ 30000
      simp [manR]; omega
    · rintro x (hx | hx)
      · have := la x hx; omega
      · omega
  have HRO : Hid (root.Ok W0 (w.heap.size + 1) ∧ root.K = [t] ∧ root.g = w2.heap.size + 1 ∧ root.c = 1) := ⟨hrok, hrK, hrg, hrc⟩
  have HS0 : Hid (DT W0 W0 w2.heap.size (w.heap.size + 1) [(none, 0, 0)]) := hS0
  have HUW : Hid (Upd [] w W0) := hUW
  have HMT : Hid (manN t ≤ 20000) := HLA.out.2.2
  have HW0 : Hid (W0 = _) := hW0
  have hzb : w2.heap.size < W0.heap.size ∧ w.heap.size + 1 < W0.heap.size := by omega
  clear hroot hrg hrK hrc hrok hS0 hUW ra u2 hW0 HN HLA tb2 tb3 HD2 U2 hM2
  go_loopg [5] (2 * manR [t]) (fun gk v wr => ∃ E l, mas E ≤ gk ∧ mas E ≤ 100000 ∧ DT W0 wr w2.heap.size (w.heap.size + 1) l ∧ Stk W0 wr v (E.map (fun e => e.1.val)) ∧ GI W0 (w.heap.size + 1) root E l)
  case atStart =>
    rw [← HW0.out]
    obtain ⟨h1, h2, h3, h4⟩ := HRO.out
    have hmt := HMT.out
    have b1 : (W0.alloc (.cells #[.slice (some ⟨w2.heap.size + 1, 0, none⟩) 1 1] 23)).heap[w2.heap.size + 1 + 1]? = some (.cells #[.slice (some ⟨w2.heap.size + 1, 0, none⟩) 1 1] 23 (0, 0)) := by
      rw [show w2.heap.size + 1 + 1 = W0.heap.size by omega]
      exact heap_alloc_new W0 _
    refine ⟨[(root, none)], [(none, 0, 0)], by simp [mas, h2], by simp [mas, h2, manR]; omega, HS0.out.later ((Upd.refl [] W0).alloc _), ⟨Or.inr ⟨_, 1, rfl, by simp; omega, by simp, by unfold maxLen; omega, fun j hj => ?_⟩, ?_, fun x hx => ?_⟩, GI.start h1 (by rw [h2]; simp)⟩
    · refine ⟨?_, frozen_of_row _ _ _ _ _ b1⟩
      rw [cell_of_row _ _ _ _ _ _ b1, Nat.zero_add, Array.getElem?_eq_getElem (by simpa using hj)]; rfl
    · intro g l c e i j hi hj
      simp only [Value.slice.injEq, Option.some.injEq, Addr.mk.injEq, and_true] at e
      obtain ⟨rfl, _, _⟩ := e
      have hi0 : i = 0 := by simpa using hi
      have hj0 : j = 0 := by omega
      subst hi0
      subst hj0
      rw [cell_of_row _ _ _ _ _ _ b1]
      simp [Kid.val, h2, h3, h4]
    · simp only [Value.ownBlock, Option.some.injEq] at hx
      omega
  case round =>
    obtain ⟨E, l, hmas, hmas2, hS_wr, hStk, hG⟩ := hrel
    by_cases hE : E = []
    · subst hE
      have HLK : Hid (∀ W, DM W (w.heap.size + 1) l → Upd [w.heap.size + 1] W0 W → (Instr.lookup 44 (.map (some (w.heap.size + 1))) (pl (some ⟨w2.heap.size + 1, 0, none⟩) 1) false).run Tryd.prog W = .ok (.int .i64 (depN t)) W) := fun W hm hu => by
        obtain ⟨h1, h2, h3, h4⟩ := HRO.out
        have hd : Done l root := hG.rt.resolve_right (fun h => by obtain ⟨_, h, _⟩ := h; simp at h)
        obtain ⟨l1, l2, hl, hf⟩ := hd.at hG h1 (by rw [h2]; simp)
        rw [h2, h3] at hl
        rw [h3] at hf
        have hdp : depR [t] = depN t := by simp [depR]
        rw [hdp] at hl
        rw [hl] at hm
        exact (hm.look_at (fun t ht => hf t ht W hu)).2
      obtain ⟨va, vc, rfl, _⟩ := hStk.1.form
      clear hG hStk hmas hmas2
      go_wp2
      refine wp_region_held_drew (S := (fun W => DT W0 W w2.heap.size (w.heap.size + 1) (l))) (by kernel_rfl) (hS_wr.later (Upd.refl [] _).drew) (fun hS => ?_)
      refine wpAnyH_take (i := 0) (v := .map (some (w.heap.size + 1))) rfl (by kernel_rfl) (by kernel_rfl) (by kernel_rfl) (fun _ _ _ h => h) (Or.inl ⟨by rfl, ?_⟩) hS ?_
      · intro W hW; have e0 := hW.f.cell; go_simp
      refine wpAnyH_take (i := 1) (v := .slice (some ⟨w2.heap.size + 1, 0, none⟩) 1 1) rfl (by kernel_rfl) (by kernel_rfl) (by kernel_rfl) (fun _ _ _ h => h) (Or.inl ⟨by rfl, ?_⟩) hS ?_
      · intro W hW; go_simp
      simp only [Act.put, List.getElem_toArray, List.getElem_cons_succ, List.getElem_cons_zero, List.setIfInBounds_toArray, List.set_cons_succ, List.set_cons_zero]
      refine wpAnyH_ready (rs := [2]) (by kernel_rfl) (by simp) (AllReadyH.cons rfl (fun K hK => ?_) AllReadyH.nil)
      go_simp
      refine Calls.mono (placeOf_some _ (w2.heap.size + 1) 1 1 (by omega) (by omega)) ?_
      rintro en w3 ⟨rfl, hU⟩
      have U_w3 : Upd [] wr w3 := Upd.trans (Upd.refl [] _).drew hU
      have hS_w3 : DT W0 w3 w2.heap.size (w.heap.size + 1) (l) := hS.later hU
      refine hK.out _ _ hS_w3 (fun _ => ?_)
      clear hK K hU hS hS_wr
      refine wpAnyH_take (i := 3) (v := .int .i64 (depN t)) rfl (by kernel_rfl) (by kernel_rfl) (by kernel_rfl) (fun _ _ _ h => h) (Or.inl ⟨by rfl, ?_⟩) hS_w3 ?_
      · intro W hW; have e2 := HLK.out W hW.m hW.u; go_simp
      refine wpAnyH_take (i := 4) (v := .int .i64 (depN t)) rfl (by kernel_rfl) (by kernel_rfl) (by kernel_rfl) (fun _ _ _ h => h) (Or.inl ⟨by rfl, ?_⟩) hS_w3 ?_
      · intro W hW; go_simp
      simp only [Act.put, List.getElem_toArray, List.getElem_cons_succ, List.getElem_cons_zero, List.setIfInBounds_toArray, List.set_cons_succ, List.set_cons_zero]
      refine wpAnyH_done (by kernel_rfl) ?_ _
      go_wp2
      go_ret
      exact ⟨rfl, HUW.out.then hS_w3.u (by simp)⟩
    · obtain ⟨E0, x, rfl⟩ : ∃ E0 e, E = E0 ++ [e] := ⟨E.dropLast, E.getLast hE, (List.dropLast_concat_getLast hE).symm⟩
      obtain ⟨e, ob⟩ := x
      clear hE
      obtain ⟨n, hn⟩ : ∃ n, n = E0.length := ⟨_, rfl⟩
      have hn2 : n = (E0.map (fun e => e.1.val)).length := by simp [hn]
      rw [List.map_append, List.map_singleton] at hStk
      have hrow := hStk.1
      rw [List.length_append, ← hn2] at hrow
      obtain ⟨g, cap, rfl, hc1, hc2, hg⟩ := hrow.slice
      have x0 : wr.cell? ⟨g, n, none⟩ = some (.slice (some ⟨e.g, 0, none⟩) e.K.length e.c) := hStk.top hn2
      have hok := hG.ok (e, ob) (by simp)
      have hlK : e.K.length ≤ 20000 := hok.1.len
      have hK0 : 0 < e.K.length := List.length_pos_iff.2 hok.2
      have HOK : Hid (e.Ok W0 (w.heap.size + 1)) := hok.1
      have HE0 : Hid (E0.length ≤ 100000) := by
        have h1 := mas_len _ (fun x hx => (hG.ok x hx).2)
        rw [List.length_append] at h1
        exact (by omega : E0.length ≤ 100000)
      have HST : Hid (Stk W0 wr (.slice (some ⟨g, 0, none⟩) (n + 1) cap) ((E0.map (fun e => e.1.val)) ++ [e.val])) := hStk
      have HMS : Hid (mas (E0 ++ [(e, ob)]) ≤ gk ∧ mas (E0 ++ [(e, ob)]) ≤ 100000) := ⟨hmas, hmas2⟩
      have HN2 : Hid (n = (E0.map (fun e => e.1.val)).length) := hn2
      clear hStk hrow hok hmas hmas2 hn hn2
      cases ob with
      | none =>
        obtain ⟨L, hL⟩ := kids_ex HOK.out
        have hG2 := hG.open hL
        have HNW : Hid (∀ W, Upd [w.heap.size + 1] W0 W → ∀ t ∈ l, Far W (some ⟨e.g, 0, none⟩) t.1) := fun W hu t ht => hG.far HOK.out.unm HOK.out.ne hu ht (hG.new (e, none) (by simp) rfl _ HOK.out.at t ht)
        have HUN : Hid (∀ W, Upd [w.heap.size + 1] W0 W → DM W (w.heap.size + 1) (l ++ [(some ⟨e.g, 0, none⟩, (e.K.length : Int), -1)]) → Calls Tryd.prog 35 #[.slice (some ⟨e.g, 0, none⟩) e.K.length e.c, .map (some (w.heap.size + 1))] W fun e w' => ∃ v, e = .returned (.tuple #[v, .bool true]) ∧ Upd [] W w' ∧ RowG w' 1 v (kv L).length ∧ Hs w' 1 v (kv L).length (fun i => ((kv L)[i]?).toList) ∧ (∀ x, v.ownBlock = some x → W.heap.size ≤ x) ∧ ((kv L).length = 0 → v = .slice none 0 0)) := fun W hu hd => by
          have hc := unmet_kd W (w.heap.size + 1) e.g e.c L (l ++ [(some ⟨e.g, 0, none⟩, (e.K.length : Int), -1)]) (hL.row.upd hu (by simpa using HOK.out.ne)) hG2.hd (by rw [hL.len]; exact hlK) (fun f hf => (hL.ok f hf).len) (fun f hf h0 t ht V hV => hG2.far (hL.ok f hf).unm (hL.ok f hf).ne (hu.then hV (by simp)) ht (hG2.new (f, none) (List.mem_append.2 (Or.inr (List.mem_cons.2 (Or.inr (fs_mem hf (fun h => h0 (by rw [h]; rfl))))))) rfl _ (hL.ok f hf).at t ht)) hd
          rw [hL.len] at hc
          exact hc
        have hkl : (kv L).length ≤ 20000 := by
          have h1 := kv_len L
          rw [hL.len] at h1
          omega
        have HG2 : Hid (GI W0 (w.heap.size + 1) root (E0 ++ (e, some L) :: fs L) (l ++ [(some ⟨e.g, 0, none⟩, (e.K.length : Int), -1)])) := hG2
        have HM2 : Hid (mas (E0 ++ (e, some L) :: fs L) < gk ∧ mas (E0 ++ (e, some L) :: fs L) ≤ 100000) := by
          have h1 := HMS.out
          have h2 := mas_fs L
          rw [hL.nd, hL.len] at h2
          rw [mas_append, mas, mas] at h1
          show _ ∧ _
          rw [mas_append, mas]
          omega
        clear hG hG2 hL HMS
        go_wp2
        refine wp_region_held_drew (S := (fun W => DT W0 W w2.heap.size (w.heap.size + 1) (l))) (by kernel_rfl) (hS_wr.later (Upd.refl [] _).drew) (fun hS => ?_)
        refine wpAnyH_take (i := 0) (v := .map (some (w.heap.size + 1))) rfl (by kernel_rfl) (by kernel_rfl) (by kernel_rfl) (fun _ _ _ h => h) (Or.inl ⟨by rfl, ?_⟩) hS ?_
        · intro W hW; have e0 := hW.f.cell; go_simp
        refine wpAnyH_take (i := 1) (v := .slice (some ⟨e.g, 0, none⟩) e.K.length e.c) rfl (by kernel_rfl) (by kernel_rfl) (by kernel_rfl) (fun _ _ _ h => h) (Or.inl ⟨by rfl, ?_⟩) hS ?_
        · intro W hW; go_simp
        simp only [Act.put, List.getElem_toArray, List.getElem_cons_succ, List.getElem_cons_zero, List.setIfInBounds_toArray, List.set_cons_succ, List.set_cons_zero]
        refine wpAnyH_ready (rs := [2]) (by kernel_rfl) (by simp) (AllReadyH.cons rfl (fun K hK => ?_) AllReadyH.nil)
        go_simp
        refine Calls.mono (placeOf_some _ e.g e.K.length e.c hK0 hlK) ?_
        rintro en w3 ⟨rfl, hU⟩
        have U_w3 : Upd [] wr w3 := Upd.trans (Upd.refl [] _).drew hU
        have hS_w3 : DT W0 w3 w2.heap.size (w.heap.size + 1) (l) := hS.later hU
        refine hK.out _ _ hS_w3 (fun _ => ?_)
        clear hK K hU hS hS_wr
        refine wpAnyH_take (i := 3) (v := .tuple #[.int .i64 0, .bool false]) rfl (by kernel_rfl) (by kernel_rfl) (by kernel_rfl) (fun _ _ _ h => h) (Or.inl ⟨by rfl, ?_⟩) hS_w3 ?_
        · intro W hW; have e2 := (DM.look_no (p := some ⟨e.g, 0, none⟩) hW.m (e.K.length : Int) (HNW.out W hW.u)); go_simp
        refine wpAnyH_take (i := 4) (v := .tuple #[.int .i64 0, .bool false]) rfl (by kernel_rfl) (by kernel_rfl) (by kernel_rfl) (fun _ _ _ h => h) (Or.inl ⟨by rfl, ?_⟩) hS_w3 ?_
        · intro W hW; go_simp
        refine wpAnyH_take (i := 5) (v := .int .i64 0) rfl (by kernel_rfl) (by kernel_rfl) (by kernel_rfl) (fun _ _ _ h => h) (Or.inl ⟨by rfl, ?_⟩) hS_w3 ?_
        · intro W hW; go_simp
        refine wpAnyH_take (i := 6) (v := .bool false) rfl (by kernel_rfl) (by kernel_rfl) (by kernel_rfl) (fun _ _ _ h => h) (Or.inl ⟨by rfl, ?_⟩) hS_w3 ?_
        · intro W hW; go_simp
        refine wpAnyH_take (i := 7) (v := .int .i64 0) rfl (by kernel_rfl) (by kernel_rfl) (by kernel_rfl) (fun _ _ _ h => h) (Or.inl ⟨by rfl, ?_⟩) hS_w3 ?_
        · intro W hW; go_simp
        refine wpAnyH_take (i := 8) (v := .bool false) rfl (by kernel_rfl) (by kernel_rfl) (by kernel_rfl) (fun _ _ _ h => h) (Or.inl ⟨by rfl, ?_⟩) hS_w3 ?_
        · intro W hW; go_simp
        simp only [Act.put, List.getElem_toArray, List.getElem_cons_succ, List.getElem_cons_zero, List.setIfInBounds_toArray, List.set_cons_succ, List.set_cons_zero]
        refine wpAnyH_done (by kernel_rfl) ?_ _
        go_wp2_with fail
        refine wp_region_held_drew (S := (fun W => FunB W w2.heap.size (.map (some (w.heap.size + 1))) 44)) (by kernel_rfl) (hS_w3.f.mono (Upd.refl [] _).drew (by simp)) (fun hS => ?_)
        refine wpAnyH_take (i := 0) (v := .map (some (w.heap.size + 1))) rfl (by kernel_rfl) (by kernel_rfl) (by kernel_rfl) (fun _ _ _ h => h) (Or.inl ⟨by rfl, ?_⟩) hS ?_
        · intro W hW; have e0 := FunB.cell hW; go_simp
        refine wpAnyH_take (i := 1) (v := .slice (some ⟨e.g, 0, none⟩) e.K.length e.c) rfl (by kernel_rfl) (by kernel_rfl) (by kernel_rfl) (fun _ _ _ h => h) (Or.inl ⟨by rfl, ?_⟩) hS ?_
        · intro W hW; go_simp
        simp only [Act.put, List.getElem_toArray, List.getElem_cons_succ, List.getElem_cons_zero, List.setIfInBounds_toArray, List.set_cons_succ, List.set_cons_zero]
        clear hS
        refine wpAnyH_ready (rs := [2]) (by kernel_rfl) (by simp) (AllReadyH.cons rfl (fun K hK => ?_) AllReadyH.nil)
        go_simp
        refine Calls.mono (placeOf_some _ e.g e.K.length e.c hK0 hlK) ?_
        rintro en w4 ⟨rfl, hU⟩
        have U_w4 : Upd [] w3 w4 := Upd.trans (Upd.refl [] _).drew hU
        have hS_w4 : DT W0 w4 w2.heap.size (w.heap.size + 1) (l) := hS_w3.later U_w4
        refine hK.out _ _ hS_w4.f (fun hS => ?_)
        clear hK K hU hS_w3
        obtain ⟨w5, hM, hV, _, hDn⟩ := hS_w4.m.put_new (p := some ⟨e.g, 0, none⟩) (e.K.length : Int) (-1) (HNW.out w4 hS_w4.u)
        have hS_w5 : DT W0 w5 w2.heap.size (w.heap.size + 1) (l ++ [(some ⟨e.g, 0, none⟩, (e.K.length : Int), -1)]) := hS_w4.put hV hDn hbm
        refine wpAnyH_ready (rs := [3]) (by kernel_rfl) (by simp) (AllReadyH.cons rfl (fun K hK => ?_) AllReadyH.nil)
        go_simp
        refine hK.out _ _ hS_w5.f (fun _ => ?_)
        have V_w5 : Upd [(w.heap.size + 1)] w4 w5 := hV
        clear hK K hM hDn hV hS_w4
        refine wpAnyH_done (by kernel_rfl) ?_ _
        have e0 := hS_w5.f.cell
        go_wp2_with fail
        refine Calls.mono (HUN.out w5 hS_w5.u hS_w5.m) ?_
        rintro en w6 ⟨u, rfl, U_w6, hru, hhu, hou, hnu⟩
        have X6 : Upd [w.heap.size + 1] wr w6 := ((((Upd.refl [w.heap.size + 1] wr).then U_w3 (by simp)).then U_w4 (by simp)).trans V_w5).then U_w6 (by simp)
        have hS_w6 : DT W0 w6 w2.heap.size (w.heap.size + 1) (l ++ [(some ⟨e.g, 0, none⟩, (e.K.length : Int), -1)]) := hS_w5.later U_w6
        have hst6 : Stk W0 w6 (.slice (some ⟨g, 0, none⟩) (n + 1) cap) ((E0.map (fun e => e.1.val)) ++ [e.val]) := HST.out.upd X6 (by simp; omega)
        have HS6 : Hid (DT W0 w6 w2.heap.size (w.heap.size + 1) (l ++ [(some ⟨e.g, 0, none⟩, (e.K.length : Int), -1)])) := hS_w6
        have HT6 : Hid (Stk W0 w6 (.slice (some ⟨g, 0, none⟩) (n + 1) cap) ((E0.map (fun e => e.1.val)) ++ [e.val])) := hst6
        have hr6 : RowG w6 1 (.slice (some ⟨g, 0, none⟩) (n + 1) cap) (n + 1) := by
          have h1 := hst6.1
          rw [List.length_append, ← HN2.out] at h1
          exact h1
        clear e0 hS_w5 hS_w6 hst6 U_w3 U_w4 V_w5 U_w6 HUN HNW x0 hg HST
        by_cases hkv : (kv L).length = 0
        · have hu0 := hnu hkv
          subst hu0
          clear hru hhu hou hnu
          go_wp2_with (first | (at_builtin; refine wpList_appNone rfl _ _ rfl rfl hr6 rfl ?_) | fail)
          go_roundg (mas (E0 ++ (e, some L) :: fs L))
          case measure => exact HM2.out.1
          case rel =>
            refine ⟨_, _, Nat.le_refl _, HM2.out.2, HS6.out, ?_, HG2.out⟩
            have h1 : kv L = [] := List.eq_nil_of_length_eq_zero hkv
            rw [List.map_append, List.map_cons, fs_val, h1]
            exact HT6.out
        · obtain ⟨m, hm⟩ : ∃ m, (kv L).length = m + 1 := ⟨(kv L).length - 1, by omega⟩
          have hru2 := hru
          rw [hm] at hru2
          obtain ⟨g2, c2, rfl, hd1, hd2, hd3⟩ := hru2.slice
          have hnews : ∀ j v, (kv L)[j]? = some v → w6.cell? ((⟨g2, 0, none⟩ : Addr).add j) = some v := fun j v hj => by
            have hj2 : j < (kv L).length := by
              obtain ⟨h1, _⟩ := List.getElem?_eq_some_iff.1 hj
              exact h1
            have := hhu g2 _ _ rfl j 0 hj2 (by omega)
            rw [Addr.add_lit, Nat.zero_add]
            rw [Nat.mul_one, Nat.add_zero] at this
            rw [this]
            show ((kv L)[j]?).toList[0]? = some v
            rw [hj]
            rfl
          have hone : ∀ v ∈ kv L, v.oneCell' = true := fun v hv => by
            obtain ⟨f, _, rfl⟩ := List.mem_map.1 hv
            rfl
          obtain ⟨i0, hi, hz1, hzs, hzb1⟩ := info_partsN info_nodesP
          have hn3 : n ≤ 100000 := by have h1 := HE0.out; have h2 := HN2.out; simp at h2; omega
          clear hru hhu hou hnu hru2
          go_wp2_with (first
            | (at_builtin; refine wpList_appendG rfl _ _ 45 rfl Tryd.underlying45 hi hz1 hzs hzb1 rfl (v := .slice (some ⟨g, 0, none⟩) (n + 1) cap) (n := n + 1) rfl hr6 ⟨g2, 0, none⟩ (m + 1) c2 (kv L) rfl (by rw [hm, Nat.mul_one]) hnews hone (by omega) (by omega) (by omega) ?_; intro b2 cc w8 hR8 hG8 hC8
               have H8 := HT6.out.app (n := n + 1) (m := m + 1) (news := kv L) HS6.out.u.size (by have h2 := HN2.out; simp at h2; simp [h2]) hm.symm hR8 hG8 hC8
               have HH8 : Hid (Stk W0 w8 (.slice (some ⟨b2, 0, none⟩) (n + 1 + (m + 1)) cc) ((E0.map (fun e => e.1.val)) ++ [e.val] ++ kv L) ∧ DT W0 w8 w2.heap.size (w.heap.size + 1) (l ++ [(some ⟨e.g, 0, none⟩, (e.K.length : Int), -1)])) := ⟨H8.1, HS6.out.grow hG8.upd H8.2 hzb.1 hzb.2⟩
               clear H8 hR8 hG8 hC8)
            | fail)
          go_roundg (mas (E0 ++ (e, some L) :: fs L))
          case measure => exact HM2.out.1
          case rel =>
            refine ⟨_, _, Nat.le_refl _, HM2.out.2, HH8.out.2, ?_, HG2.out⟩
            rw [List.map_append, List.map_cons, fs_val]
            have := HH8.out.1
            rw [List.append_assoc] at this
            exact this
      | some L =>
        obtain ⟨hL, hDn, l1, l2, rfl, hne, hG2⟩ := hG.shut
        have HAT : Hid (∀ W, Upd [w.heap.size + 1] W0 W → ∀ t ∈ l1, Far W (some ⟨e.g, 0, none⟩) t.1) := fun W hu t ht => hG.far HOK.out.unm HOK.out.ne hu (List.mem_append.2 (Or.inl ht)) (hne t ht)
        have hLn : L ≠ [] := fun h0 => by
          have := hL.len
          rw [h0] at this
          simp at this
          omega
        have hdep : 1 + mxK L = depR e.K := by rw [mxK_dep L hLn, hL.nd]
        have hdle : depR e.K ≤ 30000 := Nat.le_trans (depR_man _) HOK.out.2.2.1
        have hwr : IntKind.i64.wrap (1 + (mxK L : Int)) = (depR e.K : Int) := by rw [IntKind.wrap_i64]; omega
        have HDE : Hid (∀ W, Upd [w.heap.size + 1] W0 W → FunB W w2.heap.size (.map (some (w.heap.size + 1))) 44 → DM W (w.heap.size + 1) (l1 ++ (some ⟨e.g, 0, none⟩, (e.K.length : Int), -1) :: l2) → Calls Tryd.prog 36 #[.slice (some ⟨e.g, 0, none⟩) e.K.length e.c, .func (.func 37) #[] #[.pointer (some ⟨w2.heap.size, 0, none⟩)]] W fun e w' => e = .returned (.int .i64 (mxK L)) ∧ Upd [] W w') := fun W hu hb hd => by
          have hc := deepest_kd W w2.heap.size (w.heap.size + 1) e.g e.c L (l1 ++ (some ⟨e.g, 0, none⟩, (e.K.length : Int), -1) :: l2) (hL.row.upd hu (by simpa using HOK.out.ne)) hG.hd (by rw [hL.len]; exact hlK) (fun f hf => (hL.ok f hf).len) (fun f hf h0 => by
            obtain ⟨m1, m2, h1, h2⟩ := (hDn f hf).at hG (hL.ok f hf) h0
            exact ⟨m1, m2, h1, fun t ht V hV => h2 t ht V (hu.then hV (by simp))⟩) hb hd
          rw [hL.len] at hc
          exact hc
        have HG2 : Hid (GI W0 (w.heap.size + 1) root E0 (l1 ++ (some ⟨e.g, 0, none⟩, (e.K.length : Int), (depR e.K : Int)) :: l2)) := hG2
        have HM2 : Hid (mas E0 < gk ∧ mas E0 ≤ 100000) := by
          have h1 := HMS.out
          rw [mas_append, mas, mas] at h1
          exact (by omega : mas E0 < gk ∧ mas E0 ≤ 100000)
        clear hG hG2 hL HMS hDn hne hLn hdep hdle
        go_wp2
        refine wp_region_held_drew (S := (fun W => DT W0 W w2.heap.size (w.heap.size + 1) (l1 ++ (some ⟨e.g, 0, none⟩, (e.K.length : Int), -1) :: l2))) (by kernel_rfl) (hS_wr.later (Upd.refl [] _).drew) (fun hS => ?_)
        refine wpAnyH_take (i := 0) (v := .map (some (w.heap.size + 1))) rfl (by kernel_rfl) (by kernel_rfl) (by kernel_rfl) (fun _ _ _ h => h) (Or.inl ⟨by rfl, ?_⟩) hS ?_
        · intro W hW; have e0 := hW.f.cell; go_simp
        refine wpAnyH_take (i := 1) (v := .slice (some ⟨e.g, 0, none⟩) e.K.length e.c) rfl (by kernel_rfl) (by kernel_rfl) (by kernel_rfl) (fun _ _ _ h => h) (Or.inl ⟨by rfl, ?_⟩) hS ?_
        · intro W hW; go_simp
        simp only [Act.put, List.getElem_toArray, List.getElem_cons_succ, List.getElem_cons_zero, List.setIfInBounds_toArray, List.set_cons_succ, List.set_cons_zero]
        refine wpAnyH_ready (rs := [2]) (by kernel_rfl) (by simp) (AllReadyH.cons rfl (fun K hK => ?_) AllReadyH.nil)
        go_simp
        refine Calls.mono (placeOf_some _ e.g e.K.length e.c hK0 hlK) ?_
        rintro en w3 ⟨rfl, hU⟩
        have U_w3 : Upd [] wr w3 := Upd.trans (Upd.refl [] _).drew hU
        have hS_w3 : DT W0 w3 w2.heap.size (w.heap.size + 1) (l1 ++ (some ⟨e.g, 0, none⟩, (e.K.length : Int), -1) :: l2) := hS.later hU
        refine hK.out _ _ hS_w3 (fun _ => ?_)
        clear hK K hU hS hS_wr
        refine wpAnyH_take (i := 3) (v := .tuple #[.int .i64 (-1), .bool true]) rfl (by kernel_rfl) (by kernel_rfl) (by kernel_rfl) (fun _ _ _ h => h) (Or.inl ⟨by rfl, ?_⟩) hS_w3 ?_
        · intro W hW; have e2 := (DM.look_at (l1 := l1) (l2 := l2) hW.m (HAT.out W hW.u)).1; go_simp
        refine wpAnyH_take (i := 4) (v := .tuple #[.int .i64 (-1), .bool true]) rfl (by kernel_rfl) (by kernel_rfl) (by kernel_rfl) (fun _ _ _ h => h) (Or.inl ⟨by rfl, ?_⟩) hS_w3 ?_
        · intro W hW; go_simp
        refine wpAnyH_take (i := 5) (v := .int .i64 (-1)) rfl (by kernel_rfl) (by kernel_rfl) (by kernel_rfl) (fun _ _ _ h => h) (Or.inl ⟨by rfl, ?_⟩) hS_w3 ?_
        · intro W hW; go_simp
        refine wpAnyH_take (i := 6) (v := .bool true) rfl (by kernel_rfl) (by kernel_rfl) (by kernel_rfl) (fun _ _ _ h => h) (Or.inl ⟨by rfl, ?_⟩) hS_w3 ?_
        · intro W hW; go_simp
        refine wpAnyH_take (i := 7) (v := .int .i64 (-1)) rfl (by kernel_rfl) (by kernel_rfl) (by kernel_rfl) (fun _ _ _ h => h) (Or.inl ⟨by rfl, ?_⟩) hS_w3 ?_
        · intro W hW; go_simp
        refine wpAnyH_take (i := 8) (v := .bool true) rfl (by kernel_rfl) (by kernel_rfl) (by kernel_rfl) (fun _ _ _ h => h) (Or.inl ⟨by rfl, ?_⟩) hS_w3 ?_
        · intro W hW; go_simp
        simp only [Act.put, List.getElem_toArray, List.getElem_cons_succ, List.getElem_cons_zero, List.setIfInBounds_toArray, List.set_cons_succ, List.set_cons_zero]
        refine wpAnyH_done (by kernel_rfl) ?_ _
        go_wp2
        refine wp_region_held_drew (S := (fun W => FunB W w2.heap.size (.map (some (w.heap.size + 1))) 44)) (by kernel_rfl) (hS_w3.f.mono (Upd.refl [] _).drew (by simp)) (fun hS => ?_)
        refine wpAnyH_take (i := 0) (v := .map (some (w.heap.size + 1))) rfl (by kernel_rfl) (by kernel_rfl) (by kernel_rfl) (fun _ _ _ h => h) (Or.inl ⟨by rfl, ?_⟩) hS ?_
        · intro W hW; have e0 := FunB.cell hW; go_simp
        refine wpAnyH_take (i := 1) (v := .slice (some ⟨e.g, 0, none⟩) e.K.length e.c) rfl (by kernel_rfl) (by kernel_rfl) (by kernel_rfl) (fun _ _ _ h => h) (Or.inl ⟨by rfl, ?_⟩) hS ?_
        · intro W hW; go_simp
        refine wpAnyH_take (i := 3) (v := .slice (some ⟨e.g, 0, none⟩) e.K.length e.c) rfl (by kernel_rfl) (by kernel_rfl) (by kernel_rfl) (fun _ _ _ h => h) (Or.inl ⟨by rfl, ?_⟩) hS ?_
        · intro W hW; go_simp
        refine wpAnyH_take (i := 4) (v := .func (.func 37) #[] #[.pointer (some ⟨w2.heap.size, 0, none⟩)]) rfl (by kernel_rfl) (by kernel_rfl) (by kernel_rfl) (fun _ _ _ h => h) (Or.inl ⟨by rfl, ?_⟩) hS ?_
        · intro W hW; go_simp
        simp only [Act.put, List.getElem_toArray, List.getElem_cons_succ, List.getElem_cons_zero, List.setIfInBounds_toArray, List.set_cons_succ, List.set_cons_zero]
        refine wpAnyH_ready (rs := [2]) (by kernel_rfl) (by simp) (AllReadyH.cons rfl (fun K hK => ?_) AllReadyH.nil)
        go_simp
        refine Calls.mono (placeOf_some _ e.g e.K.length e.c hK0 hlK) ?_
        rintro en w4 ⟨rfl, hU⟩
        have U_w4 : Upd [] w3 w4 := Upd.trans (Upd.refl [] _).drew hU
        have hS_w4 : DT W0 w4 w2.heap.size (w.heap.size + 1) (l1 ++ (some ⟨e.g, 0, none⟩, (e.K.length : Int), -1) :: l2) := hS_w3.later U_w4
        refine hK.out _ _ hS_w4.f (fun hS => ?_)
        clear hK K hU hS_w3
        refine wpAnyH_ready (rs := [5]) (by kernel_rfl) (by simp) (AllReadyH.cons rfl (fun K hK => ?_) AllReadyH.nil)
        go_simp
        refine Calls.mono (HDE.out w4 hS_w4.u hS_w4.f hS_w4.m) ?_
        rintro en w5 ⟨rfl, hU⟩
        have U_w5 : Upd [] w4 w5 := hU
        have hS_w5 : DT W0 w5 w2.heap.size (w.heap.size + 1) (l1 ++ (some ⟨e.g, 0, none⟩, (e.K.length : Int), -1) :: l2) := hS_w4.later U_w5
        refine hK.out _ _ hS_w5.f (fun hS => ?_)
        clear hK K hU hS_w4
        refine wpAnyH_take (i := 6) (v := .int .i64 (depR e.K : Int)) rfl (by kernel_rfl) (by kernel_rfl) (by kernel_rfl) (fun _ _ _ h => h) (Or.inl ⟨by rfl, ?_⟩) hS ?_
        · intro W hW; go_simp
        simp only [Act.put, List.getElem_toArray, List.getElem_cons_succ, List.getElem_cons_zero, List.setIfInBounds_toArray, List.set_cons_succ, List.set_cons_zero]
        clear hS
        obtain ⟨w6, hM, hV, _, hDn⟩ := DM.put_at (l1 := l1) (l2 := l2) hS_w5.m (HAT.out w5 hS_w5.u) (depR e.K : Int)
        have hS_w6 : DT W0 w6 w2.heap.size (w.heap.size + 1) (l1 ++ (some ⟨e.g, 0, none⟩, (e.K.length : Int), (depR e.K : Int)) :: l2) := hS_w5.put hV hDn hbm
        refine wpAnyH_ready (rs := [7]) (by kernel_rfl) (by simp) (AllReadyH.cons rfl (fun K hK => ?_) AllReadyH.nil)
        go_simp
        refine hK.out _ _ hS_w6.f (fun _ => ?_)
        have V_w6 : Upd [(w.heap.size + 1)] w5 w6 := hV
        clear hK K hM hDn hV hS_w5
        refine wpAnyH_done (by kernel_rfl) ?_ _
        have X6 : Upd [w.heap.size + 1] wr w6 := ((((Upd.refl [w.heap.size + 1] wr).then U_w3 (by simp)).then U_w4 (by simp)).then U_w5 (by simp)).trans V_w6
        have HT6 : Hid (Stk W0 w6 (.slice (some ⟨g, 0, none⟩) n cap) (E0.map (fun e => e.1.val))) := (HST.out.upd X6 (by simp; omega)).pop HN2.out
        have HS6 : Hid (DT W0 w6 w2.heap.size (w.heap.size + 1) (l1 ++ (some ⟨e.g, 0, none⟩, (e.K.length : Int), (depR e.K : Int)) :: l2)) := hS_w6
        clear hS_w6 U_w3 U_w4 U_w5 V_w6 X6 HAT HDE x0 HST hwr
        go_wp2
        go_roundg (mas E0)
        case measure => exact HM2.out.1
        case rel => exact ⟨E0, _, Nat.le_refl _, HM2.out.2, HS6.out, HT6.out, HG2.out⟩

end Go.Proofs.YtehfoblfmehbdaaDoor
