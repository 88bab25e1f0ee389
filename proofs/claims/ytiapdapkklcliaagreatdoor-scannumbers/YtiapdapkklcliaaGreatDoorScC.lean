/- Scanning: two sources with a line end between. -/
import Derived.Test.YtiapdapkklcliaaGreatDoorScM
namespace Go.Proofs.YtiapdapkklcliaaGreatDoor.Sc

theorem all8 {p : UInt8 → Bool} (h : ∀ i : Fin 256, p (UInt8.ofFin i) = true) (x : UInt8) : p x = true := by
  have := h x.toFin
  simpa using this

theorem span_le (p : UInt8 → Bool) (s : List UInt8) : span p s ≤ s.length := by
  induction s with
  | nil => simp [span]
  | cons c r ih => simp only [span, List.length_cons]; split <;> omega
theorem span_app (p : UInt8 → Bool) (x : UInt8) (hx : p x = false) (s b : List UInt8) : span p (s ++ x :: b) = span p s := by
  induction s with
  | nil => simp [span, hx]
  | cons c r ih => simp only [List.cons_append, span, ih]
theorem gapL_le (q : Bool) (s : List UInt8) : gapL q s ≤ s.length := by
  induction s generalizing q with
  | nil => simp [gapL]
  | cons c r ih => simp only [gapL, List.length_cons]; have := ih (inC q c); split <;> omega
theorem gap_le (s : List UInt8) : gap s ≤ s.length := gapL_le false s
theorem gapL_lt (q : Bool) (s b : List UInt8) (h : gapL q s < s.length) : gapL q (s ++ b) = gapL q s := by
  induction s generalizing q with
  | nil => simp at h
  | cons c r ih =>
    simp only [List.cons_append, gapL] at h ⊢
    split
    · rename_i hc
      simp only [hc, if_true, List.length_cons] at h
      rw [ih _ (by omega)]
    · rfl
/-- A line end behind what is all gap. -/
theorem gapL_end (q : Bool) (s b : List UInt8) (h : gapL q s = s.length) : gapL q (s ++ 10 :: b) = s.length + 1 + gap b := by
  induction s generalizing q with
  | nil =>
    have e : inC q 10 = false := by simp [inC]
    simp only [List.nil_append, gapL, e, List.length_nil, gap]
    rw [if_pos (by decide)]; omega
  | cons c r ih =>
    simp only [gapL, List.length_cons] at h
    split at h
    · rename_i hc
      simp only [List.cons_append, gapL, hc, if_true, List.length_cons]
      rw [ih _ (by omega)]; omega
    · omega

/-- A byte that ends each token that it stands behind, and makes one that is open none. -/
structure Ends (x : UInt8) : Prop where
  name : isName x = false
  ctl : x < 32
  blank : isBlank x = true
  quote : x ≠ 39 ∧ x ≠ 34
  sign : ∀ g, g ∈ signs → x ∉ g

theorem ends10 : Ends 10 := ⟨by decide, by decide, by decide, by decide, by decide⟩
theorem ends13 : Ends 13 := ⟨by decide, by decide, by decide, by decide, by decide⟩

theorem Ends.digit {x : UInt8} (h : Ends x) : isDigit x = false := by have := h.name; simp [isName] at this; simp [this]
theorem Ends.letter {x : UInt8} (h : Ends x) : (isLetter x || isJoint x) = false := by have := h.name; simp [isName] at this; simp [this]

theorem hexV_ctl (x : UInt8) (h : x < 32) : 15 < hexV x := by
  have := all8 (p := fun x => !(decide (x < 32)) || decide (15 < hexV x)) (by decide +kernel) x
  simpa [h] using this
theorem escape_ctl (x : UInt8) (h : x < 32) (b : List UInt8) : escape (x :: b) = (0, 0) := by
  have h1 : x ≠ 110 ∧ x ≠ 116 ∧ x ≠ 92 ∧ x ≠ 39 ∧ x ≠ 34 ∧ x ≠ 120 := by
    refine ⟨?_, ?_, ?_, ?_, ?_, ?_⟩ <;> (intro e; subst e; revert h; decide)
  simp [escape, h1]
theorem escape_app {x : UInt8} (hx : x < 32) (s b : List UInt8) : escape (s ++ x :: b) = escape s := by
  cases s with
  | nil => simp only [List.nil_append]; rw [escape_ctl x hx]; rfl
  | cons e r =>
    have hh : decide (15 < hexV x) = true := by simpa using hexV_ctl x hx
    simp only [List.cons_append, escape]
    repeat (split; · rfl)
    split
    · cases r with
      | nil =>
        simp only [List.nil_append]
        cases b with
        | nil => rfl
        | cons y b => simp only [hh, Bool.true_or, if_true]
      | cons h r =>
        cases r with
        | nil => simp only [List.cons_append, List.nil_append, hh, Bool.or_true, if_true]
        | cons l r => simp only [List.cons_append]
    · rfl
theorem inside_app {x : UInt8} (hx : x < 32) (s b : List UInt8) (hs : s ≠ []) : inside (s ++ x :: b) = inside s := by
  cases s with
  | nil => exact absurd rfl hs
  | cons c r => simp only [List.cons_append, inside, escape_app hx]

theorem quoted_le (q : UInt8) (s : List UInt8) (t : List UInt8) (k : Nat) (h : quoted q s = some (t, k)) : 0 < k ∧ k ≤ s.length := by
  induction hn : s.length using Nat.strongRecOn generalizing s t k with
  | _ n ih =>
    cases s with
    | nil => rw [quoted] at h; cases h
    | cons c r =>
      rw [quoted] at h
      split at h
      · simp only [Option.some.injEq, Prod.mk.injEq] at h
        simp only [List.length_cons] at hn; omega
      · split at h
        · rename_i h0
          have hle := inside_le (c :: r)
          split at h
          · cases h
          · rename_i t' k' he
            simp only [Option.some.injEq, Prod.mk.injEq] at h
            have := ih _ (by rw [List.length_drop]; omega) _ _ _ he rfl
            rw [List.length_drop] at this
            omega
        · cases h

theorem quoted_app {x : UInt8} (hx : x < 32) (q : UInt8) (hq : x ≠ q) (s b : List UInt8) : quoted q (s ++ x :: b) = quoted q s := by
  induction hn : s.length using Nat.strongRecOn generalizing s with
  | _ n ih =>
    cases s with
    | nil =>
      simp only [List.nil_append]
      have h0 : inside (x :: b) = (0, 0) := by simp [inside, hx]
      rw [quoted.eq_def q (x :: b), quoted.eq_def q []]
      simp only [hq, if_false, h0]
      rfl
    | cons c r =>
      rw [quoted.eq_def q (c :: r), List.cons_append, quoted.eq_def]
      simp only
      rw [← List.cons_append, inside_app hx _ _ (by simp)]
      split
      · rfl
      · split
        · rename_i h0
          have hle := inside_le (c :: r)
          rw [List.drop_append_of_le_length hle, ih _ (by rw [List.length_drop]; omega) _ rfl]
        · rfl

theorem prefix_app {x : UInt8} (s b g : List UInt8) (h : x ∉ g) : g.isPrefixOf (s ++ x :: b) = g.isPrefixOf s := by
  induction g generalizing s with
  | nil => simp
  | cons y g ih =>
    simp only [List.mem_cons, not_or] at h
    cases s with
    | nil =>
      simp only [List.nil_append, List.isPrefixOf_cons_cons, List.isPrefixOf_cons_nil]
      have : (y == x) = false := by simp [Ne.symm h.1]
      rw [this]; rfl
    | cons z s => simp only [List.cons_append, List.isPrefixOf_cons_cons, ih s h.2]
theorem longest_app {x : UInt8} (s b : List UInt8) (l : List (List UInt8)) (best : List UInt8) (h : ∀ g, g ∈ l → x ∉ g) : longest (s ++ x :: b) l best = longest s l best := by
  induction l generalizing best with
  | nil => rfl
  | cons g l ih =>
    unfold longest at ih ⊢
    simp only [List.foldl_cons]
    rw [prefix_app s b g (h g (by simp))]
    exact ih _ (fun g hg => h g (by simp [hg]))

/-- What is read of a token is read of it alone, where such a byte stands behind. -/
theorem read_app {x : UInt8} (hx : Ends x) (s b : List UInt8) (hs : s ≠ []) : read (s ++ x :: b) = read s := by
  cases s with
  | nil => exact absurd rfl hs
  | cons c r =>
    have en : span isName ((c :: r) ++ x :: b) = span isName (c :: r) := span_app _ _ hx.name _ _
    have ed : span isDigit ((c :: r) ++ x :: b) = span isDigit (c :: r) := span_app _ _ hx.digit _ _
    simp only [read, List.cons_append]
    rw [← List.cons_append]
    have e1 : readName ((c :: r) ++ x :: b) = readName (c :: r) := by
      unfold readName
      rw [en, List.take_append_of_le_length (span_le _ _)]
    have e2 : readDigits ((c :: r) ++ x :: b) = readDigits (c :: r) := by
      unfold readDigits
      rw [ed, List.take_append_of_le_length (span_le _ _), List.drop_append_of_le_length (span_le _ _)]
      have : runsOn (List.drop (span isDigit (c :: r)) (c :: r) ++ x :: b) = runsOn (List.drop (span isDigit (c :: r)) (c :: r)) := by
        cases List.drop (span isDigit (c :: r)) (c :: r) with
        | nil => simp only [List.nil_append, runsOn]; exact hx.letter
        | cons y z => rfl
      rw [this]
    have e4 : readSign ((c :: r) ++ x :: b) = readSign (c :: r) := by
      unfold readSign
      rw [longest_app _ _ _ _ hx.sign]
    rw [e1, e2, e4]
    have e5 : (c == 46 && ((r ++ x :: b).isEmpty || decide (0 < gap ((r ++ x :: b).take 1)))) = (c == 46 && (r.isEmpty || decide (0 < gap (r.take 1)))) := by
      cases r with
      | nil =>
        have := hx.blank
        simp [gap, gapL, this]
      | cons y z => rfl
    rw [e5]
    have e3 : ∀ kind most, c = 39 ∨ c = 34 → readQuoted ((c :: r) ++ x :: b) kind most = readQuoted (c :: r) kind most := by
      intro kind most hc
      unfold readQuoted
      simp only [List.cons_append, List.headD_cons, List.tail_cons]
      rw [quoted_app hx.ctl c (by
        rcases hc with h | h
        · rw [h]; exact hx.quote.1
        · rw [h]; exact hx.quote.2)]
    split
    · rfl
    · split
      · rfl
      · split
        · rename_i h; exact e3 _ _ (Or.inl h)
        · split
          · rename_i h; exact e3 _ _ (Or.inr h)
          · rfl

theorem longest_mem (s : List UInt8) (l : List (List UInt8)) (best : List UInt8) : (longest s l best = best ∨ longest s l best ∈ l ∧ (longest s l best).isPrefixOf s = true) := by
  induction l generalizing best with
  | nil => exact Or.inl rfl
  | cons g l ih =>
    unfold longest at ih ⊢
    simp only [List.foldl_cons]
    rcases ih (if best.length < g.length && g.isPrefixOf s then g else best) with h | ⟨h1, h2⟩
    · rw [h]
      split
      · rename_i hc
        simp only [Bool.and_eq_true] at hc
        exact Or.inr ⟨by simp, hc.2⟩
      · exact Or.inl rfl
    · exact Or.inr ⟨List.mem_cons_of_mem _ h1, h2⟩

theorem read_size (s : List UInt8) (k n : Nat) (t : List UInt8) (h : read s = .tok k t n) : 0 < n ∧ n ≤ s.length := by
  cases s with
  | nil => cases h
  | cons c r =>
    simp only [read] at h
    split at h
    · rename_i hc
      unfold readName at h
      split at h
      · cases h
      · simp only [Fd.tok.injEq] at h
        have := span_le isName (c :: r)
        have hn : isName c = true := by
          simp only [Bool.or_eq_true, beq_iff_eq] at hc
          rcases hc with hc | hc
          · simp [isName, hc]
          · subst hc; decide
        simp only [span, hn, if_true] at h this
        omega
    · split at h
      · rename_i hc
        unfold readDigits at h
        split at h
        · cases h
        · simp only [Fd.tok.injEq] at h
          have := span_le isDigit (c :: r)
          simp only [span, hc, if_true] at h this
          omega
      · have hq : ∀ kind most, readQuoted (c :: r) kind most = .tok k t n → 0 < n ∧ n ≤ (c :: r).length := by
          intro kind most h
          unfold readQuoted at h
          split at h
          · cases h
          · rename_i t' k' he
            split at h
            · cases h
            · simp only [Fd.tok.injEq] at h
              have := quoted_le _ _ _ _ he
              simp only [List.tail_cons] at this
              simp only [List.length_cons]; omega
        split at h
        · exact hq _ _ h
        · split at h
          · exact hq _ _ h
          · split at h
            · simp only [Fd.tok.injEq] at h
              simp only [List.length_cons]; omega
            · unfold readSign at h
              split at h
              · cases h
              · rename_i hne
                simp only [Fd.tok.injEq] at h
                obtain ⟨_, _, rfl⟩ := h
                rcases longest_mem (c :: r) signs [] with he | ⟨_, he⟩
                · rw [he] at hne; simp at hne
                · have := (List.isPrefixOf_iff_prefix.1 he).length_le
                  refine ⟨?_, this⟩
                  rw [List.length_pos_iff]
                  intro e; rw [e] at hne; simp at hne

/-- Tokens, their places so much later. -/
def Told.later (n : Nat) : Told → Told
  | .ok l => .ok (l.map fun t => ⟨t.kind, t.text, t.place + n⟩)
  | .fault e k => .fault e (k + n)
theorem later_cons (n : Nat) (t : Tok) (r : Told) : (r.cons t).later n = (r.later n).cons ⟨t.kind, t.text, t.place + n⟩ := by
  cases r <;> rfl
theorem toks_later (n : Nat) (s : List UInt8) (place : Nat) : toks (place + n) s = (toks place s).later n := by
  induction hn : s.length using Nat.strongRecOn generalizing s place with
  | _ m ih =>
    rw [toks.eq_def (place + n), toks.eq_def place]
    cases s with
    | nil => rfl
    | cons c r =>
      simp only
      cases he : read (c :: r) with
      | bad e => rfl
      | tok k t z =>
        have hz := read_size _ _ _ _ he
        simp only [hz.1, dif_pos]
        rw [later_cons, ← ih _ (by simp only [List.length_drop]; omega) _ _ rfl]
        congr 2
        omega
theorem toksG_later (n : Nat) (s : List UInt8) (place : Nat) : toksG (place + n) s = (toksG place s).later n := by
  unfold toksG
  rw [← toks_later]
  congr 1
  omega

/-- What is told of two, one behind the other. -/
def Told.join : Told → Told → Told
  | .fault e k, _ => .fault e k
  | .ok l, .ok m => .ok (l.dropLast ++ m)
  | .ok _, .fault e k => .fault e k
theorem toks_ne (place : Nat) (s : List UInt8) (l : List Tok) (h : toks place s = .ok l) : l ≠ [] := by
  rw [toks.eq_def] at h
  cases s with
  | nil => simp only [Told.ok.injEq] at h; rw [← h]; simp
  | cons c r =>
    simp only at h
    cases he : read (c :: r) with
    | bad e => rw [he] at h; cases h
    | tok k t z =>
      rw [he] at h
      simp only at h
      split at h
      · cases hr : toks (place + z + gap ((c :: r).drop z)) (((c :: r).drop z).drop (gap ((c :: r).drop z))) with
        | ok m => rw [hr] at h; simp only [Told.cons, Told.ok.injEq] at h; rw [← h]; simp
        | fault e k => rw [hr] at h; cases h
      · cases h
theorem join_cons (t : Tok) (r m : Told) (h : ∀ l, r = .ok l → l ≠ []) : (r.join m).cons t = (r.cons t).join m := by
  cases r with
  | fault e k => rfl
  | ok l =>
    cases m with
    | fault e k => rfl
    | ok m =>
      simp only [Told.join, Told.cons]
      rw [List.dropLast_cons_of_ne_nil (h l rfl)]; rfl

theorem toksG_cut (s b : List UInt8) (place : Nat) : toksG place (s ++ 10 :: b) = (toksG place s).join (toksG (place + s.length + 1) b) := by
  induction hn : s.length using Nat.strongRecOn generalizing s place with
  | _ m ih =>
    have hg := gap_le s
    by_cases h : gap s = s.length
    · have e : gap (s ++ 10 :: b) = s.length + 1 + gap b := gapL_end false s b h
      have e2 : toksG place s = .ok [⟨8, [], place + s.length⟩] := by
        unfold toksG
        rw [h, List.drop_length, toks]
      rw [e2]
      unfold toksG
      rw [e]
      have e3 : (s ++ 10 :: b).drop (s.length + 1 + gap b) = b.drop (gap b) := by
        rw [show s ++ 10 :: b = (s ++ [10]) ++ b by simp, List.drop_append]
        simp
      rw [e3, ← hn]
      have e4 : place + (s.length + 1 + gap b) = place + s.length + 1 + gap b := by omega
      rw [e4]
      cases toks (place + s.length + 1 + gap b) (b.drop (gap b)) <;> rfl
    · have hlt : gap s < s.length := by omega
      have e : gap (s ++ 10 :: b) = gap s := gapL_lt false s (10 :: b) hlt
      unfold toksG
      rw [e, List.drop_append_of_le_length hg]
      cases hd : s.drop (gap s) with
      | nil => have := congrArg List.length hd; simp at this; omega
      | cons c r =>
        have hl : (c :: r).length = s.length - gap s := by rw [← hd, List.length_drop]
        rw [toks.eq_def _ (c :: r), List.cons_append, toks.eq_def]
        simp only
        rw [← List.cons_append, read_app ends10 _ _ (by simp)]
        cases he : read (c :: r) with
        | bad e => rfl
        | tok k t z =>
          have hz := read_size _ _ _ _ he
          simp only [hz.1, dif_pos]
          rw [List.drop_append_of_le_length hz.2]
          have i := ih ((c :: r).drop z).length (by rw [List.length_drop]; omega) ((c :: r).drop z) (place + gap s + z) rfl
          unfold toksG at i
          rw [i]
          have e5 : place + gap s + z + ((c :: r).drop z).length + 1 = place + m + 1 := by
            rw [List.length_drop]; omega
          rw [e5]
          exact join_cons _ _ _ (fun l h => toks_ne _ _ _ h)

/-- The tokens of two sources with a line end between. -/
theorem tokens_cut (a b : List UInt8) (h : a.length + b.length ≤ 20000) : tokens (a ++ 10 :: b) = (tokens a).join ((tokens b).later (a.length + 1)) := by
  unfold tokens
  rw [if_neg (by simp; omega), if_neg (by omega), if_neg (by omega), toksG_cut, ← toksG_later]
  congr 2

end Go.Proofs.YtiapdapkklcliaaGreatDoor.Sc
