/- Ticks one by one, and one of their sum. -/
import Derived.Test.YtpemnficdhjkhaaCkOm
namespace Go.Proofs.Ytpemnficdhjkhaa
open Go.RowKit Go.Maps

theorem tick_tick {T : TF} {m m' : Int} (h : m ≤ m') : tickT (tickT T m) m' = tickT T m' := by
  funext x
  unfold tickT
  cases hT : T x with
  | none => rfl
  | some t =>
    by_cases h1 : t ≤ m
    · have h2 : t ≤ m' := by omega
      simp [h1, h2]
    · simp [h1]
/-- Who is told by one Tick, and by the next, is who is told by their sum, in the same order. -/
theorem due_app {T : TF} {m m' : Int} {xs ys zs : List Int} (h : m ≤ m') (hx : Due T m xs) (hy : Due (tickT T m) m' ys) (hz : Due T m' zs) : xs ++ ys = zs := by
  refine srt_one (T := T) ?_ hz.1 (fun x => ?_)
  · rw [List.pairwise_append]
    have e : ∀ x, x ∈ ys → tickT T m x = T x := fun x hx => by
      obtain ⟨t, ht, _⟩ := (hy.2 x).1 hx
      rw [ht, (tickT_some.1 ht).1]
    refine ⟨hx.1, hy.1.imp_of_mem (fun {a b} ha hb hab => bef_some (e a ha).symm (e b hb).symm hab), fun a ha b hb => ?_⟩
    obtain ⟨s, hs, hsm⟩ := (hx.2 a).1 ha
    obtain ⟨t, ht, _⟩ := (hy.2 b).1 hb
    obtain ⟨ht', hmt⟩ := tickT_some.1 ht
    exact ⟨s, t, hs, ht', Or.inl (by omega)⟩
  · rw [List.mem_append, hx.2, hy.2, hz.2]
    constructor
    · rintro (⟨t, ht, hle⟩ | ⟨t, ht, hle⟩)
      · exact ⟨t, ht, by omega⟩
      · exact ⟨t, (tickT_some.1 ht).1, hle⟩
    · rintro ⟨t, ht, hle⟩
      by_cases h1 : t ≤ m
      · exact Or.inl ⟨t, ht, h1⟩
      · exact Or.inr ⟨t, tickT_some.2 ⟨ht, by omega⟩, hle⟩

/-- A row that was handed out, its block below E. -/
def AR2 (w : World) (B E : Nat) (v : Value) (xs : List Int) : Prop := (xs = [] ∧ ∃ p, v = .slice p 0 0) ∨ ∃ b, RowB w v xs (some b) ∧ B ≤ b ∧ b < E
theorem AR.two {w : World} {B : Nat} {v : Value} {xs : List Int} (h : AR w B v xs) : AR2 w B w.heap.size v xs := by
  rcases h with h | ⟨b, h, hB⟩
  · exact Or.inl h
  · exact Or.inr ⟨b, h, hB, h.lt rfl⟩
theorem AR2.ar {w : World} {B E : Nat} {v : Value} {xs : List Int} (h : AR2 w B E v xs) : AR w B v xs := by
  rcases h with h | ⟨b, h, hB, _⟩
  · exact Or.inl h
  · exact Or.inr ⟨b, h, hB⟩
theorem AR2.mono {P : Nat → Prop} {w w' : World} {B E : Nat} {v : Value} {xs : List Int} (h : AR2 w B E v xs) (hu : UpP P w w') (hn : ∀ x, P x → x < B ∨ E ≤ x) : AR2 w' B E v xs := by
  rcases h with h | ⟨b, h, hB, hE⟩
  · exact Or.inl h
  · refine Or.inr ⟨b, h.mono hu (fun b' hb hP => ?_), hB, hE⟩
    cases hb
    have := hn b hP
    omega
/-- A row put behind one that was handed out: nothing else turns but that one's own block. -/
theorem append_ar {W : World} {B E : Nat} {v u : Value} {xs ys : List Int} (ty : TypeId) (hx : AR2 W B E v xs) (hs : ∀ s, s = 1 → Src Try.prog s 34 u ys.length (ys.map (Value.int .i64)) W) (hn : xs.length + ys.length ≤ 1073741824) (hB : B ≤ W.heap.size) :
    ∃ v' W', (Builtin.append_ #[34, 34] ty #[v, u]).run Try.prog W = .ok v' W' ∧ AR W' B v' (xs ++ ys) ∧ UpP (fun x => B ≤ x ∧ x < E) W W' := by
  rcases hx with ⟨rfl, p, rfl⟩ | ⟨b, hx, hb, hbE⟩
  · obtain ⟨v', W', h1, h2, h3⟩ := append_fresh p ty hs (by simpa using hn)
    exact ⟨v', W', h1, by rw [List.nil_append]; exact h2.base hB, h3.toN⟩
  · rcases hx with ⟨_, _, h⟩ | ⟨b', off, cap, cur, e, rfl, h3, h4, h5, h6, h7⟩
    · cases h
    · cases e
      obtain ⟨i0, hi, h1, h2, h8⟩ := info_int1
      rcases Nat.lt_or_ge cap (xs.length + ys.length) with hc | hc
      · have hold : (Builtin.firstCells i0.size xs.length (.slice (some ⟨b, off, none⟩) xs.length cap)).run Try.prog W.drew = .ok (xs.map (Value.int .i64)).toArray W.drew :=
          run_firstCells_some W.drew i0.size xs.length ⟨b, off, none⟩ xs.length cap _ (by rw [h1]; simp) (fun j u hu => by
            obtain ⟨hj, rfl⟩ := vals_get xs hu
            rw [Addr.add_lit, World.cell?_drew, h3.cell]
            exact h7 j hj)
        have := run_append_grow_src (P := Try.prog) W 34 34 ty 3 i0 (.int .i64 0) und_ints hi h2 (some ⟨b, off, none⟩) xs.length cap (xs.map (Value.int .i64)) hold u ys.length _ (hs _ h1) hc (by omega) (by rw [h8]; exact growslice_fits hc (by omega))
        have hge := grownCap_ge W (xs.length + ys.length) cap 3
        have hle := grownCap_le_maxLen W (xs.length + ys.length) cap 3 (by unfold maxLen; omega)
        refine ⟨_, _, this, Or.inr ⟨W.heap.size, Or.inr ⟨W.heap.size, 0, grownCap W (xs.length + ys.length) cap 3, _, rfl, by rw [List.length_append], Cl.new W.drew _ _ _ rfl, ?_, by rw [List.length_append]; omega, by unfold maxLen at hle; omega, ?_⟩, hB⟩, (((Upd.refl [] W).drew).alloc _).toN⟩
        · rw [Array.size_append, zeros_size]
          simp
          omega
        · intro j hj
          rw [Array.getElem?_append_left (by simpa using hj), List.getElem?_toArray, Nat.zero_add j, ← List.map_append]
          exact vals_at (xs ++ ys) hj
      · have := run_append_room_src (P := Try.prog) W 34 34 ty 3 i0 und_ints hi b off xs.length cap u ys.length _ (hs _ h1) hc
          (fun j hj => by rw [h1, Nat.mul_one, h3.cell, Array.getElem?_eq_getElem (by rw [List.length_map] at hj; omega)]; rfl) (fun j hj => h3.free _)
        rw [h1, Nat.mul_one] at this
        obtain ⟨c2, k2, s2, in2, out2⟩ := Cl.sets (ys.map (Value.int .i64)) (off + xs.length) h3
        refine ⟨_, _, this, Or.inr ⟨b, Or.inr ⟨b, off, cap, c2, rfl, by rw [List.length_append], k2, by omega, by rw [List.length_append]; omega, h6, ?_⟩, hb⟩, ?_⟩
        · intro j hj
          rw [List.length_append] at hj
          rcases Nat.lt_or_ge j xs.length with h | h
          · rw [out2 _ (by omega), h7 j h, List.getD_eq_getElem?_getD, List.getD_eq_getElem?_getD, List.getElem?_append_left h]
          · have := in2 (j - xs.length) (by rw [List.length_map]; omega) (by omega)
            rw [show off + xs.length + (j - xs.length) = off + j by omega] at this
            rw [this, vals_at ys (by omega), List.getD_eq_getElem?_getD, List.getD_eq_getElem?_getD, List.getElem?_append_right h]
        · exact (upd_sets (S := [b]) (blk := b) (Upd.refl [b] W) (Or.inr (by simp)) (ys.map (Value.int .i64)) (off + xs.length)).toP.mono (fun x hx => by
            have : x = b := by simpa using hx
            exact ⟨this ▸ hb, this ▸ hbE⟩)

/-- Two clocks of one's own that have nothing in common. -/
structure Two (w wr : World) (c d n : Nat) (P Q : Nat → Prop) (now : Int) (T : TF) : Prop where
  one : Own w wr c n P now T
  two : Own w wr d n Q now T
  dis : ∀ x, P x → ¬ Q x
theorem Two.upd {w wr w2 : World} {c d n : Nat} {P Q : Nat → Prop} {now : Int} {T : TF} (h : Two w wr c d n P Q now T) (hu : Upd [] wr w2) : Two w w2 c d n P Q now T := ⟨h.one.upd hu, h.two.upd hu, h.dis⟩
theorem Own.past {w wr w2 : World} {c n : Nat} {P Q : Nat → Prop} {now : Int} {T : TF} (h : Own w wr c n P now T) (hu : UpP Q wr w2) (hd : ∀ x, P x → ¬ Q x) (ho : ∀ x, Q x → w.heap.size ≤ x) : Own w w2 c n P now T :=
  ⟨h.ck.mono hu hd, h.own, (h.up.toN.trans hu).upd ho⟩
/-- Both are set: first the one, then, behind what only draws, the other. -/
theorem two_set1 {w wr : World} {c d n : Nat} {P Q : Nat → Prop} {now : Int} {T : TF} (h : Two w wr c d n P Q now T) (hn : n + 1 ≤ 1073741824) {pid : Int} (hp : I64 pid) (after : Int) :
    Calls Try.prog 13 #[.pointer (some ⟨c, 0, none⟩), .int .i64 pid, .int .i64 after] wr fun e w' => e = .returned (.bool (setB T pid after)) ∧ ∃ P', Own w w' c (n + 1) P' now (setT T now pid after) ∧ Own w w' d n Q now T ∧ ∀ x, P' x → ¬ Q x := by
  refine (own_set h.one hn hp after).mono ?_
  rintro e w' ⟨rfl, P', h1, h2, h3⟩
  refine ⟨rfl, P', h1, h.two.past h2 (fun x hq hp => h.dis x hp hq) h.one.own, fun x hx hq => ?_⟩
  rcases h3 x hx with h4 | h4
  · exact h.dis x h4 hq
  · have := h.two.ck.bnd x hq; omega
theorem two_set2 {w wr : World} {c d n : Nat} {P Q : Nat → Prop} {now : Int} {T T' : TF} (h1 : Own w wr c (n + 1) P now T') (h2 : Own w wr d n Q now T) (hd : ∀ x, P x → ¬ Q x) (hn : n + 1 ≤ 1073741824) {pid : Int} (hp : I64 pid) (after : Int) (hT : T' = setT T now pid after) :
    Calls Try.prog 13 #[.pointer (some ⟨d, 0, none⟩), .int .i64 pid, .int .i64 after] wr fun e w' => e = .returned (.bool (setB T pid after)) ∧ ∃ Q', Two w w' c d (n + 1) P Q' now T' := by
  subst hT
  refine (own_set h2 hn hp after).mono ?_
  rintro e w' ⟨rfl, Q', h3, h4, h5⟩
  refine ⟨rfl, Q', h1.past h4 hd h2.own, h3, fun x hp hq => ?_⟩
  rcases h5 x hq with h6 | h6
  · exact hd x hp h6
  · have := h1.ck.bnd x hp; omega

end Go.Proofs.Ytpemnficdhjkhaa
