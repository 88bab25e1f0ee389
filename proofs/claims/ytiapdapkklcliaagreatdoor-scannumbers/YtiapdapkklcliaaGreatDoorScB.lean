/- Scanning: what is written with blanks between is told again. -/
import Derived.Test.YtiapdapkklcliaaGreatDoorScC
namespace Go.Proofs.YtiapdapkklcliaaGreatDoor.Sc

def digs : List UInt8 := [48,49,50,51,52,53,54,55,56,57,97,66,99,68,101,70]
def esc1 (c : UInt8) : List UInt8 := [92, 120, digs.getD (c.toNat / 16) 0, digs.getD (c.toNat % 16) 0]
def esc (t : List UInt8) : List UInt8 := t.flatMap esc1
def spelt (k : Nat) (t : List UInt8) : List UInt8 := if k = 2 then 39 :: (esc t ++ [39]) else if k = 4 then 34 :: (esc t ++ [34]) else t
def filler : List UInt8 := [13, 9, 37, 32, 97, 32, 39, 99, 111, 109, 109, 101, 110, 116, 10, 32]
def spell (l : List Tok) : List UInt8 := l.flatMap fun t => spelt t.kind t.text ++ filler

theorem esc_cons (c : UInt8) (t : List UInt8) : esc (c :: t) = 92 :: 120 :: digs.getD (c.toNat / 16) 0 :: digs.getD (c.toNat % 16) 0 :: esc t := by simp [esc, esc1]
theorem esc_len (t : List UInt8) : (esc t).length = 4 * t.length := by
  induction t with
  | nil => rfl
  | cons c t ih => rw [esc_cons]; simp only [List.length_cons, ih]; omega
theorem inside_esc (c : UInt8) (r : List UInt8) : inside (92 :: 120 :: digs.getD (c.toNat / 16) 0 :: digs.getD (c.toNat % 16) 0 :: r) = (c, 4) := by
  have h := all8 (p := fun c => decide (hexV (digs.getD (c.toNat / 16) 0) ≤ 15) && decide (hexV (digs.getD (c.toNat % 16) 0) ≤ 15) && (hexV (digs.getD (c.toNat / 16) 0) <<< 4 ||| hexV (digs.getD (c.toNat % 16) 0) == c)) (by decide +kernel) c
  simp only [Bool.and_eq_true, decide_eq_true_eq, beq_iff_eq] at h
  have h1 : (decide (15 < hexV (digs.getD (c.toNat / 16) 0)) || decide (15 < hexV (digs.getD (c.toNat % 16) 0))) = false := by
    simp only [Bool.or_eq_false_iff, decide_eq_false_iff_not, UInt8.not_lt]
    exact h.1
  simp only [inside, escape]
  rw [if_neg (by decide), if_pos trivial, if_neg (by decide), if_neg (by decide), if_neg (by decide), if_neg (by decide), if_neg (by decide), if_pos trivial, h1, h.2]
  rfl
theorem quoted_esc (q : UInt8) (hq : q = 39 ∨ q = 34) (t r : List UInt8) : quoted q (esc t ++ q :: r) = some (t, 4 * t.length + 1) := by
  induction t with
  | nil => rw [quoted.eq_def]; simp [esc]
  | cons c t ih =>
    rw [esc_cons]
    simp only [List.cons_append]
    rw [quoted.eq_def]
    simp only
    rw [if_neg (by rcases hq with h | h <;> rw [h] <;> decide), inside_esc]
    simp only [Nat.zero_lt_succ, dif_pos, List.drop_succ_cons, List.drop_zero, ih, List.length_cons]
    simp only [Option.some.injEq, Prod.mk.injEq, true_and]
    omega

/-- Written, it is read as it was. -/
def Good (k : Nat) (t : List UInt8) : Prop := read (spelt k t) = .tok k t (spelt k t).length

theorem good_quoted (k : Nat) (hk : k = 2 ∨ k = 4) (t : List UInt8) (ht : t.length ≤ if k = 2 then 40 else 400) : Good k t := by
  rcases hk with rfl | rfl
  · have e : spelt 2 t = 39 :: (esc t ++ [39]) := rfl
    unfold Good
    rw [e]
    simp only [read]
    rw [if_neg (by decide), if_neg (by decide), if_pos trivial]
    simp only [readQuoted, List.headD_cons, List.tail_cons]
    rw [quoted_esc 39 (Or.inl rfl)]
    simp only [if_true] at ht
    simp only [List.length_cons, List.length_append, esc_len, List.length_nil]
    rw [if_neg (by omega)]
  · have e : spelt 4 t = 34 :: (esc t ++ [34]) := rfl
    unfold Good
    rw [e]
    simp only [read]
    rw [if_neg (by decide), if_neg (by decide), if_neg (by decide), if_pos trivial]
    simp only [readQuoted, List.headD_cons, List.tail_cons]
    rw [quoted_esc 34 (Or.inr rfl)]
    have ht : t.length ≤ 400 := ht
    simp only [List.length_cons, List.length_append, esc_len, List.length_nil]
    rw [if_neg (by omega)]

theorem span_take (p : UInt8 → Bool) (s : List UInt8) : span p (s.take (span p s)) = span p s := by
  induction s with
  | nil => rfl
  | cons c r ih =>
    simp only [span]
    split
    · rename_i h; simp only [List.take_succ_cons, span, h, if_true, ih]
    · rfl
theorem signs_good : ∀ t, t ∈ signs → read t = .tok 5 t t.length := by decide +kernel

/-- What a token that is read is like. -/
structure Fine (s : List UInt8) (k : Nat) (t : List UInt8) : Prop where
  good : Good k t
  kind : 1 ≤ k ∧ k ≤ 7
  text : k ≠ 2 → k ≠ 4 → t ≠ [] ∧ t <+: s

theorem read_fine (s : List UInt8) (k n : Nat) (t : List UInt8) (h : read s = .tok k t n) : Fine s k t := by
  have hsz := read_size s k n t h
  cases s with
  | nil => cases h
  | cons c r =>
    simp only [read] at h
    split at h
    · rename_i hc
      unfold readName at h
      split at h
      · cases h
      · rename_i h40
        simp only [Fd.tok.injEq] at h
        obtain ⟨hk, ht, hn⟩ := h
        have hl : t.length = n := by rw [← ht, List.length_take, ← hn]; have := span_le isName (c :: r); omega
        have hne : t ≠ [] := by intro e; rw [e] at hl; simp at hl; omega
        have hpre : t <+: c :: r := by rw [← ht]; exact List.take_prefix _ _
        rw [ht] at hk
        have hk3 : k = 3 ∨ k = 6 ∨ k = 2 := by
          unfold nameKind at hk
          split at hk
          · exact Or.inl hk.symm
          · split at hk
            · exact Or.inr (Or.inl hk.symm)
            · exact Or.inr (Or.inr hk.symm)
        refine ⟨?_, by omega, fun _ _ => ⟨hne, hpre⟩⟩
        by_cases hk2 : k = 2
        · exact good_quoted k (Or.inl hk2) t (by rw [if_pos hk2]; omega)
        · have e : spelt k t = t := by unfold spelt; rw [if_neg hk2, if_neg (by omega)]
          unfold Good
          rw [e]
          obtain ⟨r', hr'⟩ : ∃ r', t = c :: r' := by
            cases t with
            | nil => exact absurd rfl hne
            | cons x y => obtain ⟨z, hz⟩ := hpre; simp only [List.cons_append, List.cons.injEq] at hz; exact ⟨y, by rw [hz.1]⟩
          have hsp : span isName t = n := by rw [← ht, span_take, hn]
          rw [hr']
          simp only [read]
          rw [if_pos hc, ← hr']
          unfold readName
          rw [hsp, if_neg (by omega), List.take_of_length_le (by omega), hk, hl]
    · split at h
      · rename_i hnl hc
        unfold readDigits at h
        split at h
        · cases h
        · rename_i h40
          simp only [Fd.tok.injEq] at h
          obtain ⟨rfl, ht, hn⟩ := h
          have hl : t.length = n := by rw [← ht, List.length_take, ← hn]; have := span_le isDigit (c :: r); omega
          have hne : t ≠ [] := by intro e; rw [e] at hl; simp at hl; omega
          have hpre : t <+: c :: r := by rw [← ht]; exact List.take_prefix _ _
          simp only [Bool.or_eq_true, decide_eq_true_eq, not_or] at h40
          refine ⟨?_, by omega, fun _ _ => ⟨hne, hpre⟩⟩
          unfold Good
          rw [show spelt 1 t = t from rfl]
          obtain ⟨r', hr'⟩ : ∃ r', t = c :: r' := by
            cases t with
            | nil => exact absurd rfl hne
            | cons x y => obtain ⟨z, hz⟩ := hpre; simp only [List.cons_append, List.cons.injEq] at hz; exact ⟨y, by rw [hz.1]⟩
          have hsp : span isDigit t = n := by rw [← ht, span_take, hn]
          rw [hr']
          simp only [read]
          rw [if_neg hnl, if_pos hc, ← hr']
          unfold readDigits
          rw [hsp, ← hl, List.drop_length, List.take_length, if_neg (by simp [runsOn]; omega)]
      · have hq : ∀ kind most, (kind = 2 ∧ most = 40 ∨ kind = 4 ∧ most = 400) → readQuoted (c :: r) kind most = .tok k t n → Fine (c :: r) k t := by
          intro kind most hkm h
          unfold readQuoted at h
          split at h
          · cases h
          · rename_i t' k' he
            split at h
            · cases h
            · rename_i hm
              simp only [Fd.tok.injEq] at h
              obtain ⟨rfl, rfl, _⟩ := h
              rcases hkm with ⟨rfl, rfl⟩ | ⟨rfl, rfl⟩
              · exact ⟨good_quoted 2 (Or.inl rfl) _ (by simp only [if_true]; omega), by omega, fun h _ => absurd rfl h⟩
              · exact ⟨good_quoted 4 (Or.inr rfl) _ (by rw [if_neg (by decide)]; omega), by omega, fun _ h => absurd rfl h⟩
        split at h
        · exact hq _ _ (Or.inl ⟨rfl, rfl⟩) h
        · split at h
          · exact hq _ _ (Or.inr ⟨rfl, rfl⟩) h
          · split at h
            · rename_i hdot
              simp only [Fd.tok.injEq] at h
              obtain ⟨rfl, rfl, _⟩ := h
              simp only [Bool.and_eq_true, beq_iff_eq] at hdot
              refine ⟨by unfold Good; decide +kernel, by omega, fun _ _ => ⟨by simp, ?_⟩⟩
              rw [hdot.1]
              exact ⟨r, rfl⟩
            · unfold readSign at h
              split at h
              · cases h
              · rename_i hne
                simp only [Fd.tok.injEq] at h
                obtain ⟨rfl, rfl, _⟩ := h
                rcases longest_mem (c :: r) signs [] with he | ⟨hm, he⟩
                · rw [he] at hne; simp at hne
                · refine ⟨signs_good _ hm, by omega, fun _ _ => ⟨?_, List.isPrefixOf_iff_prefix.1 he⟩⟩
                  intro e; rw [e] at hne; simp at hne

theorem read_blank (c : UInt8) (hc : c = 9 ∨ c = 10 ∨ c = 13 ∨ c = 32 ∨ c = 37) (r : List UInt8) : read (c :: r) = .bad 200 := by
  have h : longest (c :: r) signs [] = [] := by
    rcases hc with rfl | rfl | rfl | rfl | rfl <;> simp [longest, signs]
  simp only [read]
  have h2 : readSign (c :: r) = .bad 200 := by unfold readSign; rw [h]; rfl
  rw [h2]
  rcases hc with rfl | rfl | rfl | rfl | rfl <;> simp [isLetter, isLower, isDigit]
theorem read_err (s : List UInt8) (hs : s ≠ []) (e : Nat) (h : read s = .bad e) : e = 200 ∨ e = 201 := by
  cases s with
  | nil => exact absurd rfl hs
  | cons c r =>
    simp only [read, readName, readDigits, readQuoted, readSign] at h
    repeat' (split at h)
    all_goals (first | (cases h; done) | (simp only [Fd.bad.injEq] at h; omega))

theorem gap_zero {s : List UInt8} {k n : Nat} {t : List UInt8} (h : read s = .tok k t n) (b : List UInt8) : gap (s ++ b) = 0 := by
  cases s with
  | nil => cases h
  | cons c r =>
    have hc : ¬ (c = 9 ∨ c = 10 ∨ c = 13 ∨ c = 32 ∨ c = 37) := fun hc => by rw [read_blank c hc r] at h; cases h
    simp only [not_or] at hc
    simp [gap, gapL, inC, isBlank, hc]

theorem gap_filler (r : List UInt8) : gap (filler ++ r) = 16 + gap r := by
  simp [gap, filler, gapL, inC, isBlank]
  omega
theorem toksG_filler (place : Nat) (r : List UInt8) : toksG place (filler ++ r) = toksG (place + 16) r := by
  unfold toksG
  rw [gap_filler]
  have : (filler ++ r).drop (16 + gap r) = r.drop (gap r) := by
    rw [List.drop_append]
    simp [filler]
  rw [this, Nat.add_assoc]
theorem toksG_spelt (k : Nat) (t : List UInt8) (h : Good k t) (place : Nat) (r : List UInt8) : toksG place (spelt k t ++ filler ++ r) = (toksG (place + (spelt k t).length + 16) r).cons ⟨k, t, place⟩ := by
  unfold Good at h
  have hsz := read_size _ _ _ _ h
  have hg : gap (spelt k t ++ filler ++ r) = 0 := by rw [List.append_assoc]; exact gap_zero h _
  have hr : read (spelt k t ++ filler ++ r) = .tok k t (spelt k t).length := by
    rw [List.append_assoc, show filler ++ r = 13 :: (filler.tail ++ r) from rfl, read_app ends13 _ _ (by intro e; rw [e] at hsz; simp at hsz), h]
  rw [toksG, hg, Nat.add_zero, List.drop_zero, toks.eq_def]
  cases hs : spelt k t ++ filler ++ r with
  | nil => rw [hs] at hr; cases hr
  | cons c d =>
    simp only
    rw [← hs, hr]
    simp only [hsz.1, dif_pos]
    rw [List.append_assoc, List.drop_left]
    have := toksG_filler (place + (spelt k t).length) r
    rw [toksG] at this
    rw [this]

/-- Tokens of which each is fine, and an end. -/
theorem toksG_spell (l : List Tok) (hl : ∀ t, t ∈ l → Good t.kind t.text) (e : Tok) (he : e.kind = 8 ∧ e.text = []) (place : Nat) :
    ∃ m, toksG place (spell (l ++ [e])) = .ok m ∧ m.map (fun t => (t.kind, t.text)) = (l ++ [e]).map (fun t => (t.kind, t.text)) := by
  induction l generalizing place with
  | nil =>
    have e1 : spell ([] ++ [e]) = filler ++ [] := by simp [spell, spelt, he]
    rw [e1, toksG_filler]
    refine ⟨[⟨8, [], place + 16⟩], ?_, by simp [he]⟩
    rw [toksG]
    simp only [gap, gapL, Nat.add_zero, List.drop_zero]
    rw [toks]
  | cons t l ih =>
    have e1 : spell (t :: l ++ [e]) = spelt t.kind t.text ++ filler ++ spell (l ++ [e]) := by simp [spell]
    rw [e1, toksG_spelt _ _ (hl t (by simp))]
    obtain ⟨m, h1, h2⟩ := ih (fun x hx => hl x (by simp [hx])) (place + (spelt t.kind t.text).length + 16)
    rw [h1]
    exact ⟨_, rfl, by simp only [List.map_cons, List.cons_append, h2]⟩

/-- What is told of a source. -/
structure Row (S : List UInt8) (place : Nat) (l : List Tok) : Prop where
  fine : ∀ i (h : i < l.length), i + 1 < l.length → Fine (S.drop l[i].place) l[i].kind l[i].text ∧ l[i].place < S.length
  last : ∀ (h : l.length - 1 < l.length), l[l.length - 1] = ⟨8, [], S.length⟩
  ne : 0 < l.length
  first : ∀ (h : 0 < l.length), place ≤ l[0].place
  rise : ∀ i (h : i + 1 < l.length), l[i].place < l[i + 1].place

theorem toks_row (S : List UInt8) (place : Nat) (hp : place ≤ S.length) (l : List Tok) (h : toks place (S.drop place) = .ok l) : Row S place l := by
  induction hn : S.length - place using Nat.strongRecOn generalizing place l with
  | _ m ih =>
    rw [toks.eq_def] at h
    cases hs : S.drop place with
    | nil =>
      rw [hs] at h
      simp only [Told.ok.injEq] at h
      subst h
      have : place = S.length := by have := congrArg List.length hs; simp at this; omega
      refine ⟨fun i h1 h2 => by simp at h2, fun _ => by simp [this], by simp, fun _ => by simp, fun i h1 => by simp at h1⟩
    | cons c r =>
      rw [hs] at h
      simp only at h
      cases he : read (c :: r) with
      | bad e => rw [he] at h; cases h
      | tok k t z =>
        rw [he] at h
        have hz := read_size _ _ _ _ he
        have hf := read_fine _ _ _ _ he
        simp only [hz.1, dif_pos] at h
        have hlen : (c :: r).length = S.length - place := by rw [← hs, List.length_drop]
        have hg := gap_le ((c :: r).drop z)
        rw [List.length_drop] at hg
        have hd : ((c :: r).drop z).drop (gap ((c :: r).drop z)) = S.drop (place + z + gap ((c :: r).drop z)) := by
          rw [← hs, List.drop_drop, List.drop_drop]; congr 1; omega
        rw [hd] at h
        cases hr : toks (place + z + gap ((c :: r).drop z)) (S.drop (place + z + gap ((c :: r).drop z))) with
        | fault e k => rw [hr] at h; cases h
        | ok l' =>
          rw [hr] at h
          simp only [Told.cons, Told.ok.injEq] at h
          subst h
          have i := ih (S.length - (place + z + gap ((c :: r).drop z))) (by omega) _ (by omega) _ hr rfl
          have hne := i.ne
          refine ⟨fun j h1 h2 => ?_, fun _ => ?_, by simp, fun _ => by simp, fun j h1 => ?_⟩
          · cases j with
            | zero =>
              simp only [List.getElem_cons_zero]
              rw [hs]
              exact ⟨hf, by omega⟩
            | succ j =>
              simp only [List.getElem_cons_succ]
              exact i.fine j (by simpa using h1) (by simpa using h2)
          · have h9 := i.last (by omega)
            simp only [List.length_cons, Nat.add_sub_cancel]
            rw [List.getElem_cons]
            rw [dif_neg (by omega)]
            exact h9
          · cases j with
            | zero =>
              simp only [List.getElem_cons_zero, List.getElem_cons_succ]
              have := i.first (by omega)
              omega
            | succ j =>
              simp only [List.getElem_cons_succ]
              exact i.rise j (by simpa using h1)

theorem toks_fault (S : List UInt8) (place : Nat) (hp : place ≤ S.length) (e k : Nat) (h : toks place (S.drop place) = .fault e k) : (e = 200 ∨ e = 201) ∧ k < S.length := by
  induction hn : S.length - place using Nat.strongRecOn generalizing place with
  | _ m ih =>
    rw [toks.eq_def] at h
    cases hs : S.drop place with
    | nil => rw [hs] at h; cases h
    | cons c r =>
      rw [hs] at h
      simp only at h
      have hlen : (c :: r).length = S.length - place := by rw [← hs, List.length_drop]
      simp only [List.length_cons] at hlen
      cases he : read (c :: r) with
      | bad e' =>
        rw [he] at h
        simp only [Told.fault.injEq] at h
        obtain ⟨rfl, rfl⟩ := h
        exact ⟨read_err _ (by simp) _ he, by omega⟩
      | tok k' t z =>
        rw [he] at h
        have hz := read_size _ _ _ _ he
        simp only [List.length_cons] at hz
        simp only [hz.1, dif_pos] at h
        have hg := gap_le ((c :: r).drop z)
        rw [List.length_drop, List.length_cons] at hg
        have hd : ((c :: r).drop z).drop (gap ((c :: r).drop z)) = S.drop (place + z + gap ((c :: r).drop z)) := by
          rw [← hs, List.drop_drop, List.drop_drop]; congr 1; omega
        rw [hd] at h
        cases hr : toks (place + z + gap ((c :: r).drop z)) (S.drop (place + z + gap ((c :: r).drop z))) with
        | ok l => rw [hr] at h; cases h
        | fault e' k' =>
          rw [hr] at h
          simp only [Told.cons, Told.fault.injEq] at h
          obtain ⟨rfl, rfl⟩ := h
          exact ih (S.length - (place + z + gap ((c :: r).drop z))) (by omega) _ (by omega) hr rfl

theorem tokens_row (s : List UInt8) (l : List Tok) (h : tokens s = .ok l) : Row s 0 l := by
  unfold tokens at h
  split at h
  · cases h
  · unfold toksG at h
    rw [Nat.zero_add] at h
    have := toks_row s (gap s) (gap_le s) l h
    exact ⟨this.fine, this.last, this.ne, fun _ => Nat.zero_le _, this.rise⟩
theorem tokens_fault (s : List UInt8) (e k : Nat) (hs : s.length ≤ 65536) (h : tokens s = .fault e k) : (e = 200 ∨ e = 201) ∧ k < s.length := by
  unfold tokens at h
  rw [if_neg (by omega)] at h
  unfold toksG at h
  rw [Nat.zero_add] at h
  exact toks_fault s (gap s) (gap_le s) e k h

/-- Written and told again. -/
theorem tokens_back (s : List UInt8) (l : List Tok) (h : tokens s = .ok l) (hlen : (spell l).length ≤ 65536) :
    ∃ m, tokens (spell l) = .ok m ∧ m.map (fun t => (t.kind, t.text)) = l.map (fun t => (t.kind, t.text)) := by
  have r := tokens_row s l h
  obtain ⟨l0, e, rfl⟩ : ∃ l0 e, l = l0 ++ [e] := by
    refine ⟨l.dropLast, l.getLast (fun h => by have := r.ne; rw [h] at this; simp at this), (List.dropLast_concat_getLast _).symm⟩
  have he : e = ⟨8, [], s.length⟩ := by
    have := r.last (by simp)
    simpa using this
  unfold tokens
  rw [if_neg (by omega)]
  refine toksG_spell l0 (fun t ht => ?_) e (by rw [he]; exact ⟨rfl, rfl⟩) 0
  obtain ⟨i, hi, rfl⟩ := List.mem_iff_getElem.1 ht
  have := (r.fine i (by simp; omega) (by simp; omega)).1.good
  simpa [List.getElem_append_left hi] using this

theorem quoted_text (q : UInt8) (s : List UInt8) (t : List UInt8) (k : Nat) (h : quoted q s = some (t, k)) : t.length ≤ s.length := by
  induction hn : s.length using Nat.strongRecOn generalizing s t k with
  | _ n ih =>
    cases s with
    | nil => rw [quoted] at h; cases h
    | cons c r =>
      rw [quoted] at h
      split at h
      · simp only [Option.some.injEq, Prod.mk.injEq] at h
        rw [← h.1]; simp
      · split at h
        · rename_i h0
          split at h
          · cases h
          · rename_i t' k' he
            simp only [Option.some.injEq, Prod.mk.injEq] at h
            have := ih _ (by rw [List.length_drop]; simp only [List.length_cons] at hn ⊢; omega) _ _ _ he rfl
            rw [List.length_drop] at this
            rw [← h.1]
            simp only [List.length_cons] at *
            omega
        · cases h
theorem read_text (s : List UInt8) (k n : Nat) (t : List UInt8) (h : read s = .tok k t n) : t.length ≤ s.length := by
  have hf := read_fine s k n t h
  by_cases h2 : k = 2 ∨ k = 4
  · cases s with
    | nil => cases h
    | cons c r =>
      have hq : ∀ kind most, readQuoted (c :: r) kind most = .tok k t n → t.length ≤ (c :: r).length := by
        intro kind most h
        unfold readQuoted at h
        split at h
        · cases h
        · rename_i t' k' he
          split at h
          · cases h
          · simp only [Fd.tok.injEq] at h
            have := quoted_text _ _ _ _ he
            simp only [List.tail_cons] at this
            rw [← h.2.1]
            simp only [List.length_cons]; omega
      simp only [read] at h
      split at h
      · unfold readName at h
        split at h
        · cases h
        · simp only [Fd.tok.injEq] at h
          rw [← h.2.1, List.length_take]; omega
      · split at h
        · unfold readDigits at h
          split at h
          · cases h
          · simp only [Fd.tok.injEq] at h; omega
        · split at h
          · exact hq _ _ h
          · split at h
            · exact hq _ _ h
            · split at h
              · simp only [Fd.tok.injEq] at h; omega
              · unfold readSign at h
                split at h
                · cases h
                · simp only [Fd.tok.injEq] at h; omega
  · exact ((hf.text (by omega) (by omega)).2).length_le

theorem span_char (p : UInt8 → Bool) (l : List UInt8) (n : Nat) (h1 : n ≤ l.length) (h2 : ∀ j (hj : j < l.length), j < n → p l[j] = true) (h3 : ∀ h : n < l.length, p l[n] = false) : span p l = n := by
  induction l generalizing n with
  | nil => simp at h1; simp [span, h1]
  | cons c r ih =>
    cases n with
    | zero => have := h3 (by simp); simp only [List.getElem_cons_zero] at this; simp [span, this]
    | succ n =>
      have h0 := h2 0 (by simp) (by omega)
      simp only [List.getElem_cons_zero] at h0
      simp only [span, h0, if_true]
      rw [ih n (by simpa using h1) (fun j hj hn => by have := h2 (j + 1) (by simpa using hj) (by omega); simpa using this) (fun h => by have := h3 (by simpa using h); simpa using this)]
/-- Whether we are in a comment behind so many bytes. -/
def stC (q : Bool) (l : List UInt8) (k : Nat) : Bool := (l.take k).foldl inC q
theorem stC_succ (q : Bool) (l : List UInt8) (k : Nat) (h : k < l.length) : stC q l (k + 1) = inC (stC q l k) l[k] := by
  unfold stC
  rw [List.take_succ_eq_append_getElem h, List.foldl_append]
  rfl
theorem gapL_char (q : Bool) (l : List UInt8) (n : Nat) (h1 : n ≤ l.length) (h2 : ∀ j (hj : j < l.length), j < n → (inC (stC q l j) l[j] || isBlank l[j]) = true) (h3 : ∀ h : n < l.length, (inC (stC q l n) l[n] || isBlank l[n]) = false) : gapL q l = n := by
  induction l generalizing n q with
  | nil => simp at h1; simp [gapL, h1]
  | cons c r ih =>
    cases n with
    | zero =>
      have := h3 (by simp)
      simp only [List.getElem_cons_zero, stC, List.take_zero, List.foldl_nil] at this
      simp [gapL, this]
    | succ n =>
      have h0 := h2 0 (by simp) (by omega)
      simp only [List.getElem_cons_zero, stC, List.take_zero, List.foldl_nil] at h0
      simp only [gapL, h0, if_true]
      rw [ih (inC q c) n (by simpa using h1) (fun j hj hn => by have := h2 (j + 1) (by simpa using hj) (by omega); simpa [stC] using this) (fun h => by have := h3 (by simpa using h); simpa [stC] using this)]

end Go.Proofs.YtiapdapkklcliaaGreatDoor.Sc
