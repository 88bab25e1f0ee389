/- ScanCut, by its contract: whatever two texts. -/
import Derived.Test.YtfejdflbilakoaaDoorAwk
import Derived.Lib.SmallJoins
namespace Go.Proofs.YtfejdflbilakoaaDoor
open Go.RowKit

theorem byt_app (a b : ByteArray) : byt (a ++ b) = byt a ++ byt b := Joins.data_append a b

/-- The first so many of a row. -/
theorem Own.take {w : World} {base : Nat} {T : TypeId} {sz : Nat} {g n cap : Nat} {xs : List Value} (h : Own w base T sz (.slice (some ⟨g, 0, none⟩) n cap) n xs) (m : Nat) (hm : m ≤ n) : Own w base T sz (.slice (some ⟨g, 0, none⟩) m cap) m (xs.take (m * sz)) := by
  obtain ⟨h0, ⟨h1, _⟩ | ⟨g', cap', cur, hv, hb, hh, hc, hm2, hcs, hcu⟩⟩ := h
  · cases h1
  · simp only [Value.slice.injEq, Option.some.injEq, Addr.mk.injEq, and_true, true_and] at hv
    obtain ⟨rfl, rfl⟩ := hv
    have hle : m * sz ≤ n * sz := Nat.mul_le_mul_right _ hm
    refine ⟨by rw [List.length_take, h0]; omega, Or.inr ⟨g, cap, cur, rfl, hb, hh, by omega, hm2, hcs, ?_⟩⟩
    rw [← hcu, List.take_take, Nat.min_eq_left hle]

theorem toksC_len (l : List Sc.Tok) : (toksC l).length = l.length * 3 := by
  induction l with
  | nil => rfl
  | cons t l ih => have e : toksC (t :: l) = tokC t ++ toksC l := by simp [toksC]
                   rw [e, List.length_append, ih]; simp [tokC]; omega
theorem toksC_take (l : List Sc.Tok) (m : Nat) : (toksC l).take (m * 3) = toksC (l.take m) := by
  induction l generalizing m with
  | nil => simp [toksC]
  | cons t l ih =>
    have e : toksC (t :: l) = tokC t ++ toksC l := by simp [toksC]
    cases m with
    | zero => simp [toksC]
    | succ m =>
      rw [e, List.take_succ_cons]
      have e2 : toksC (t :: l.take m) = tokC t ++ toksC (l.take m) := by simp [toksC]
      rw [e2, ← ih m, List.take_append]
      have h1 : (tokC t).length = 3 := rfl
      rw [h1, List.take_of_length_le (by rw [h1]; omega)]
      congr 2
      omega
theorem toksC_one (l : List Sc.Tok) : ∀ u ∈ toksC l, u.oneCell' = true := by
  intro u hu
  simp only [toksC, List.mem_flatMap, tokC, List.mem_cons, List.not_mem_nil, or_false] at hu
  obtain ⟨t, _, rfl | rfl | rfl⟩ := hu <;> rfl
theorem toksC_set (l : List Sc.Tok) (k : Nat) (hk : k < l.length) (p : Nat) : (toksC l).set (k * 3 + 2) (.int .i64 p) = toksC (l.set k ⟨l[k].kind, l[k].text, p⟩) := by
  induction l generalizing k with
  | nil => simp at hk
  | cons t l ih =>
    have e : toksC (t :: l) = tokC t ++ toksC l := by simp [toksC]
    cases k with
    | zero =>
      have e2 : toksC (Sc.Tok.mk t.kind t.text p :: l) = tokC ⟨t.kind, t.text, p⟩ ++ toksC l := by simp [toksC]
      simp only [List.set_cons_zero, List.getElem_cons_zero]
      rw [e, e2]; rfl
    | succ k =>
      simp only [List.set_cons_succ, List.getElem_cons_succ]
      have e2 : ∀ l', toksC (t :: l') = tokC t ++ toksC l' := fun l' => by simp [toksC]
      rw [e, e2, ← ih k (by simpa using hk), List.set_append_right _ _ (by simp [tokC]; omega)]
      congr 2
      simp [tokC]; omega
/-- One token's place is turned. -/
theorem OT.place {w : World} {base g n c : Nat} {l : List Sc.Tok} (h : OT w base (.slice (some ⟨g, 0, none⟩) n c) l) (hn : n = l.length) (k : Nat) (hk : k < l.length) (p : Nat) : OT (w.setCell ⟨g, k * 3 + 2, none⟩ (.int .i64 p)) base (.slice (some ⟨g, 0, none⟩) n c) (l.set k ⟨l[k].kind, l[k].text, p⟩) := by
  subst hn
  unfold OT Own
  rw [List.length_set, ← toksC_set l k hk p]
  exact (World.ownsRow.stored h _ _).1

/-- 'append(xs, ys...)', guarded or not. -/
theorem append_G (w : World) {ops : Array Oper} {rest : List Oper} {o : Oper} {a : Act} {Q : Exit → Act → World → Prop} (s x : Operand)
    (ho : o.op = .call { callee := .builtin .append, args := #[s, x], argTypes := #[23, 23] }) (base : Nat) (v : Value) (l m : List Sc.Tok) (hs : a.eval s = v) (hown : OT w base v l)
    (ad : Addr) (n c : Nat) (hx : a.eval x = .slice (some ad) n c) (hn : n = m.length) (hm : TokAt w (some ad) m) (hl : l.length + m.length ≤ 1000000) (hbase : base ≤ w.heap.size) (hw : Region.wanted o (yielded ops a.tmps) = true)
    (h : ∀ v' w', OT w' base v' (l ++ m) → w.grownBy w' v.ownBlock → wpList Tryd.prog ops Q rest (a.put o.dst v') w') : wpList Tryd.prog ops Q (o :: rest) a w := by
  subst hn
  obtain ⟨i0, hi, hz0, hz1, hz2⟩ := info_parts info_tok
  refine wpList_step fun K hK => ?_
  rw [if_pos hw]
  refine wp_append_own w s x 23 ho base 31 i0 _ 3 32 Tryd.underlying23 hi hz0 hz1 hz2 rfl (by decide) v _ _ hs hown ad m.length c (toksC m) hx (toksC_len m) ?_ (toksC_one m) (by unfold maxLen; omega) (by omega) hbase (fun v' w' h2 h3 _ => hK _ _ (h v' w' ?_ h3))
  · intro j u hu
    rcases hm with h | ⟨b, o, e, hlt, hc⟩
    · rw [h] at hu; simp [toksC] at hu
    · cases e
      have hj : j < m.length * 3 := by
        have := (List.getElem?_eq_some_iff.1 hu).1
        rwa [toksC_len] at this
      have e2 : j = j / 3 * 3 + j % 3 := by omega
      have hk : j / 3 < m.length := by omega
      obtain ⟨h1, h2, h3⟩ := hc (j / 3) hk
      rw [Addr.add_lit]
      rw [e2, toksC_get m (j / 3) (j % 3) hk (by omega)] at hu
      have h3' : j % 3 = 0 ∨ j % 3 = 1 ∨ j % 3 = 2 := by omega
      rcases h3' with h' | h' | h'
      · rw [h'] at hu e2
        rw [e2, show o + (j / 3 * 3 + 0) = o + j / 3 * 3 by omega, h1]; exact hu
      · rw [h'] at hu e2
        rw [e2, show o + (j / 3 * 3 + 1) = o + j / 3 * 3 + 1 by omega, h2]; exact hu
      · rw [h'] at hu e2
        rw [e2, show o + (j / 3 * 3 + 2) = o + j / 3 * 3 + 2 by omega, h3]; exact hu
  · unfold OT Own
    have e : toksC (l ++ m) = toksC l ++ toksC m := by simp [toksC]
    rw [List.length_append, e]; exact h2

end Go.Proofs.YtfejdflbilakoaaDoor
