/- The reference's End: mathematics, monitors put behind. -/
import Derived.Test.YtofcniodobjopaaGreatLkRx
namespace Go.Proofs.YtofcniodobjopaaGreat
open Go.RowKit Go.Maps

/-- Monitors of one row, put behind whatever row; where the new one lies. -/
theorem wp_pushN {ops : Array Oper} {rest : List Oper} {o : Oper} {a : Act} {w : World} {Q : Exit → Act → World → Prop} (hgd : o.guard = none) (s x : Operand) (ho : o.op = .call { callee := .builtin .append, args := #[s, x], argTypes := #[39, 39] })
    (B : Nat) (v u : Value) (xs : List Mon) (q : Mon) (hsv : a.eval s = v) (hxu : a.eval x = u) (hown : NR w B v xs) (hs : SrcN w u [q]) (hlen : xs.length ≤ 10000) (hB : B ≤ w.heap.size)
    (h : ∀ g c w', NR w' B (.slice (some ⟨g, 0, none⟩) (xs.length + 1) c) (xs ++ [q]) → w.grownBy w' v.ownBlock → (some g = v.ownBlock ∨ g = w.heap.size) → wpList Tryz.prog ops Q rest (a.put o.dst (.slice (some ⟨g, 0, none⟩) (xs.length + 1) c)) w') : wpList Tryz.prog ops Q (o :: rest) a w := by
  obtain ⟨i0, hi, hz0, hz1, hz2⟩ := info_parts info_rmon
  rcases hs with ⟨_, _, he⟩ | ⟨ad, c2, hu, hc⟩
  · cases he
  · obtain ⟨v', w', hr, h2, h3, h4, h5⟩ := run_append_own_at (P := Tryz.prog) w B 39 o.type 122 i0 (.agg #[.int .i64 0, .int .i64 0, .int .i64 0]) 3 24 und_rmons hi hz0 hz1 hz2 rfl (by decide) _ xs.length (xs.flatMap cellsM) hown ad [q].length c2 ([q].flatMap cellsM) (len_cellsM [q]) hc (one_cellsM [q]) (by unfold maxLen; simp; omega) (by simp; omega) hB
    have hI : NR w' B v' (xs ++ [q]) := by
      unfold NR
      rw [List.length_append, List.flatMap_append]
      exact h2
    rcases h2.2 with ⟨e, e0⟩ | ⟨g2, cap, cur, e, _⟩
    · simp at e0
    · subst e
      refine wpList_plain hgd fun K hK => ?_
      unfold Oper.wp execOp
      rw [hu] at hxu
      simp only [ho, resolve, invoke, builtin, Sem.run_bind, Sem.run_pure, Result.andThen_ok, List.map_toArray, List.map_cons, List.map_nil, hsv, hxu, hr]
      exact hK _ _ (h g2 cap w' hI h3 (h5.imp (fun e => e) (fun e => by cases e; rfl)))

theorem NR.upP {P : Nat → Prop} {w w' : World} {B : Nat} {v : Value} {xs : List Mon} (h : NR w B v xs) (hu : UpP P w w') (hn : ∀ g, v.ownBlock = some g → ¬ P g) : NR w' B v xs := by
  obtain ⟨h1, h2⟩ := h
  refine ⟨h1, ?_⟩
  rcases h2 with h2 | ⟨g, cap, cur, rfl, hB, hg, r⟩
  · exact Or.inl h2
  · exact Or.inr ⟨g, cap, cur, rfl, hB, (hu.block g (Array.getElem?_eq_some_iff.1 hg).1 (hn g rfl)).trans hg, r⟩

/-- What is left of the pairs when those of a with ys are taken out. -/
def without (ps : List (Int × Int)) (a : Int) (ys : List Int) : List (Int × Int) := ps.filter fun q => !(ys.any fun y => q == (min a y, max a y))
theorem without_nil (ps : List (Int × Int)) (a : Int) : without ps a [] = ps := by
  unfold without
  simp
theorem without_snoc (ps : List (Int × Int)) (a : Int) (ys : List Int) (y : Int) : without ps a (ys ++ [y]) = (without ps a ys).filter (fun q => q != (min a y, max a y)) := by
  unfold without
  rw [List.filter_filter]
  congr 1
  funext q
  rw [List.any_append]
  simp only [List.any_cons, List.any_nil, Bool.or_false, bne, Bool.not_or]
  rw [Bool.and_comm]
theorem without_nodup {ps : List (Int × Int)} (h : ps.Nodup) (a : Int) (ys : List Int) : (without ps a ys).Nodup := h.filter _
theorem without_le (ps : List (Int × Int)) (a : Int) (ys : List Int) : (without ps a ys).length ≤ ps.length := List.length_filter_le _ _
theorem filter_out {L : List (Int × Int)} (h : L.Nodup) {k : Nat} (hk : k < L.length) : L.filter (fun q => q != L[k]) = L.take k ++ L.drop (k + 1) := by
  have e : L = L.take k ++ L[k] :: L.drop (k + 1) := by rw [← List.drop_eq_getElem_cons hk, List.take_append_drop]
  have hn := h
  rw [e, List.nodup_append] at hn
  obtain ⟨_, h2, h3⟩ := hn
  rw [List.nodup_cons] at h2
  have f1 : (L.take k).filter (fun q => q != L[k]) = L.take k := List.filter_eq_self.2 fun q hq => by
    have := h3 q hq _ List.mem_cons_self
    simpa using this
  have f2 : (L.drop (k + 1)).filter (fun q => q != L[k]) = L.drop (k + 1) := List.filter_eq_self.2 fun q hq => by
    have : q ≠ L[k] := fun e => h2.1 (e ▸ hq)
    simpa using this
  have f3 : L.filter (fun q => q != L[k]) = (L.take k ++ L[k] :: L.drop (k + 1)).filter (fun q => q != L[k]) := by rw [← e]
  rw [f3, List.filter_append, List.filter_cons, f1, f2]
  simp
theorem filter_not {L : List (Int × Int)} {p : Int × Int} (h : L.contains p = false) : L.filter (fun q => q != p) = L := List.filter_eq_self.2 fun q hq => by
  have : q ≠ p := fun e => by
    rw [e] at hq
    have := List.contains_iff_mem.2 hq
    rw [h] at this
    cases this
  simpa using this

end Go.Proofs.YtofcniodobjopaaGreat
