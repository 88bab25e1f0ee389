/- The document's scanning, place by place: plain mathematics. -/
import Derived.Test.YtiapdapkklcliaaGreatDoorScB
namespace Go.Proofs.YtiapdapkklcliaaGreatDoor.Sc

def high (c : UInt8) : Bool := (65 ≤ c && c ≤ 90) || c == 95
def named (c : UInt8) : Bool := isLower c || high c || isDigit c || c == 64
theorem named_eq (c : UInt8) : named c = isName c := by
  have := all8 (p := fun c => named c == isName c) (by decide +kernel) c
  simpa using this
theorem letter_eq (c : UInt8) : (isLower c || high c) = (isLetter c || c == 95) := by
  have := all8 (p := fun c => (isLower c || high c) == (isLetter c || c == 95)) (by decide +kernel) c
  simpa using this
theorem high_low (c : UInt8) (h : (isLower c || high c) = true) : high c = !isLower c := by
  have := all8 (p := fun c => !(isLower c || high c) || (high c == !isLower c)) (by decide +kernel) c
  simp only [h, Bool.not_true, Bool.false_or, beq_iff_eq] at this
  exact this
theorem runs_eq (c : UInt8) (h : isDigit c = false) : named c = (isLetter c || isJoint c) := by
  have := all8 (p := fun c => isDigit c || (named c == (isLetter c || isJoint c))) (by decide +kernel) c
  simp only [h, Bool.false_or, beq_iff_eq] at this
  exact this

/-- What is told from here on, in a comment. -/
def toksQ (place : Nat) (s : List UInt8) : Told := toks (place + gapL true s) (s.drop (gapL true s))
theorem toksG_nil (place : Nat) : toksG place [] = .ok [⟨8, [], place⟩] := by
  unfold toksG gap gapL; simp [toks]
theorem toksQ_nil (place : Nat) : toksQ place [] = toksG place [] := by
  unfold toksQ toksG gap gapL; rfl
theorem toksG_blank (place : Nat) (c : UInt8) (r : List UInt8) (h : isBlank c = true) : toksG place (c :: r) = toksG (place + 1) r := by
  have hc : c ≠ 37 := by rintro rfl; exact absurd h (by decide)
  have hi : inC false c = false := by unfold inC; rw [if_neg hc]; split <;> rfl
  have e : gapL false (c :: r) = gapL false r + 1 := by rw [gapL, hi, h]; rfl
  unfold toksG gap
  rw [e, List.drop_succ_cons]
  congr 1
  omega
theorem toksG_comment (place : Nat) (r : List UInt8) : toksG place (37 :: r) = toksQ place (37 :: r) := by
  have e : gapL false (37 :: r) = gapL true (37 :: r) := by rw [gapL, gapL]; rfl
  unfold toksG toksQ gap
  rw [e]
theorem toksQ_more (place : Nat) (c : UInt8) (r : List UInt8) (h : c ≠ 10) : toksQ place (c :: r) = toksQ (place + 1) r := by
  have hi : inC true c = true := by unfold inC; rw [if_neg h]; split <;> rfl
  have e : gapL true (c :: r) = gapL true r + 1 := by rw [gapL, hi]; rfl
  unfold toksQ
  rw [e, List.drop_succ_cons]
  congr 1
  omega
theorem toksQ_end (place : Nat) (r : List UInt8) : toksQ place (10 :: r) = toksG place (10 :: r) := by
  have e : gapL false (10 :: r) = gapL true (10 :: r) := by rw [gapL, gapL]; rfl
  unfold toksG toksQ gap
  rw [e]
theorem toksG_here (place : Nat) (c : UInt8) (r : List UInt8) (hb : isBlank c = false) (hc : c ≠ 37) : toksG place (c :: r) = toks place (c :: r) := by
  have hi : inC false c = false := by unfold inC; rw [if_neg hc]; split <;> rfl
  have e : gapL false (c :: r) = 0 := by rw [gapL, hi, hb]; rfl
  unfold toksG gap
  rw [e]
  rfl
theorem toksG_bad (place : Nat) (c : UInt8) (r : List UInt8) (hb : isBlank c = false) (hc : c ≠ 37) (e : Nat) (h : read (c :: r) = .bad e) : toksG place (c :: r) = .fault e place := by
  rw [toksG_here place c r hb hc, toks.eq_def]
  simp only [h]
theorem toksG_tok (place : Nat) (c : UInt8) (r : List UInt8) (hb : isBlank c = false) (hc : c ≠ 37) (k n : Nat) (t : List UInt8) (h : read (c :: r) = .tok k t n) : toksG place (c :: r) = (toksG (place + n) ((c :: r).drop n)).cons ⟨k, t, place⟩ := by
  rw [toksG_here place c r hb hc, toks.eq_def]
  have hs := read_size _ _ _ _ h
  simp only [h, hs.1, dif_pos]
  rfl

/-- The document's signs, longer ones ahead. -/
def signsR : List (List UInt8) :=
  [[61,58,61], [61,47,61], [45,62], [60,45], [124,124], [61,61], [47,61], [61,60], [62,61], [43,43], [45,45], [40], [41], [123], [125], [91], [93], [44], [59], [58], [124], [61], [60], [62], [43], [45], [42], [47], [33]]
theorem signsR_mem : ∀ g, g ∈ signs ↔ g ∈ signsR := by
  intro g
  constructor
  · intro h
    have : ∀ g ∈ signs, g ∈ signsR := by decide +kernel
    exact this g h
  · intro h
    have : ∀ g ∈ signsR, g ∈ signs := by decide +kernel
    exact this g h
theorem signsR_len : ∀ i j : Fin 29, i ≤ j → (signsR.getD j []).length ≤ (signsR.getD i []).length := by decide +kernel
theorem signsR_pos : ∀ i : Fin 29, 0 < (signsR.getD i []).length := by decide +kernel
theorem longest_ge (s : List UInt8) (l : List (List UInt8)) (best : List UInt8) : best.length ≤ (longest s l best).length ∧ ∀ g, g ∈ l → g.isPrefixOf s = true → g.length ≤ (longest s l best).length := by
  induction l generalizing best with
  | nil => exact ⟨Nat.le_refl _, fun g hg => by simp at hg⟩
  | cons x l ih =>
    have e : longest s (x :: l) best = longest s l (if best.length < x.length && x.isPrefixOf s then x else best) := rfl
    rw [e]
    by_cases hc : (decide (best.length < x.length) && x.isPrefixOf s) = true
    · rw [if_pos hc]
      obtain ⟨h1, h2⟩ := ih x
      simp only [Bool.and_eq_true, decide_eq_true_eq] at hc
      refine ⟨by omega, fun g hg hp => ?_⟩
      rcases List.mem_cons.1 hg with rfl | hg
      · exact h1
      · exact h2 g hg hp
    · rw [if_neg hc]
      obtain ⟨h1, h2⟩ := ih best
      refine ⟨h1, fun g hg hp => ?_⟩
      rcases List.mem_cons.1 hg with rfl | hg
      · simp only [Bool.and_eq_true, decide_eq_true_eq, hp, and_true] at hc
        omega
      · exact h2 g hg hp
theorem longest_pre (s : List UInt8) (l : List (List UInt8)) (best : List UInt8) : longest s l best = best ∨ (longest s l best ∈ l ∧ (longest s l best).isPrefixOf s = true) := by
  induction l generalizing best with
  | nil => exact Or.inl rfl
  | cons x l ih =>
    have e : longest s (x :: l) best = longest s l (if best.length < x.length && x.isPrefixOf s then x else best) := rfl
    rw [e]
    rcases ih (if best.length < x.length && x.isPrefixOf s then x else best) with h | h
    · rw [h]
      split
      · rename_i hc
        simp only [Bool.and_eq_true, decide_eq_true_eq] at hc
        exact Or.inr ⟨by simp, hc.2⟩
      · exact Or.inl rfl
    · exact Or.inr ⟨List.mem_cons_of_mem _ h.1, h.2⟩
/-- The first sign that stands there is the longest one. -/
theorem sign_hit (s : List UInt8) (k : Nat) (hk : k < 29) (hp : (signsR.getD k []).isPrefixOf s = true) (hn : ∀ j, j < k → (signsR.getD j []).isPrefixOf s = false) : readSign s = .tok 5 (signsR.getD k []) (signsR.getD k []).length := by
  have hm : signsR.getD k [] ∈ signs := by
    rw [signsR_mem]
    have hk' : k < signsR.length := hk
    simp only [List.getD, List.getElem?_eq_getElem hk', Option.getD_some]
    exact List.getElem_mem hk'
  have hge := (longest_ge s signs []).2 _ hm hp
  have hpos := signsR_pos ⟨k, hk⟩
  have hle : (longest s signs []).length ≤ (signsR.getD k []).length := by
    rcases longest_pre s signs [] with h | ⟨h1, h2⟩
    · rw [h]; simp
    · rw [signsR_mem] at h1
      obtain ⟨i, hi, e⟩ := List.mem_iff_getElem.1 h1
      have hi' : i < 29 := hi
      have e2 : signsR.getD i [] = longest s signs [] := by simp only [List.getD, List.getElem?_eq_getElem hi, Option.getD_some]; exact e
      by_cases hik : i < k
      · have := hn i hik
        rw [e2, h2] at this
        cases this
      · have := signsR_len ⟨k, hk⟩ ⟨i, hi'⟩ (by show k ≤ i; omega)
        simp only at this
        rw [e2] at this
        exact this
  have heq : longest s signs [] = signsR.getD k [] := by
    rcases longest_pre s signs [] with h | ⟨_, h2⟩
    · rw [h] at hge
      simp only at hpos
      simp only [List.length_nil] at hge
      omega
    · have p1 := List.isPrefixOf_iff_prefix.1 h2
      have p2 := List.isPrefixOf_iff_prefix.1 hp
      exact (List.prefix_of_prefix_length_le p1 p2 hle).eq_of_length (by omega)
  unfold readSign
  rw [heq]
  have : (signsR.getD k []).isEmpty = false := by
    cases hq : signsR.getD k [] with
    | nil => rw [hq] at hpos; simp at hpos
    | cons a b => rfl
  rw [this]
  rfl
theorem sign_none (s : List UInt8) (hn : ∀ j, j < 29 → (signsR.getD j []).isPrefixOf s = false) : readSign s = .bad 200 := by
  have : longest s signs [] = [] := by
    rcases longest_pre s signs [] with h | ⟨h1, h2⟩
    · exact h
    · rw [signsR_mem] at h1
      obtain ⟨i, hi, e⟩ := List.mem_iff_getElem.1 h1
      have hi' : i < 29 := hi
      have e2 : signsR.getD i [] = longest s signs [] := by simp only [List.getD, List.getElem?_eq_getElem hi, Option.getD_some]; exact e
      have := hn i hi'
      rw [e2, h2] at this
      cases this
  unfold readSign
  rw [this]
  rfl
theorem sign_dot (r : List UInt8) : readSign (46 :: r) = .bad 200 := by
  apply sign_none
  intro j hj
  have h : ∀ j : Fin 29, (signsR.getD j []).headD 0 ≠ 46 ∧ signsR.getD j [] ≠ [] := by decide +kernel
  obtain ⟨h1, h2⟩ := h ⟨j, hj⟩
  simp only at h1 h2
  cases hq : signsR.getD j [] with
  | nil => exact absurd hq h2
  | cons a b =>
    rw [hq] at h1
    simp only [List.headD_cons] at h1
    simp [List.isPrefixOf, h1]
theorem gap_one (c : UInt8) : decide (0 < gap [c]) = (isBlank c || c == 37) := by
  have := all8 (p := fun c => decide (0 < gap [c]) == (isBlank c || c == 37)) (by decide +kernel) c
  simpa using this
theorem hex_byte (a b : UInt8) (ha : ¬ 15 < hexV a) (hb : ¬ 15 < hexV b) : ((hexV a <<< 4 ||| hexV b : UInt8).toNat) = 16 * (hexV a).toNat + (hexV b).toNat := by
  have h : ∀ i j : Fin 16, ((UInt8.ofNat i.val <<< 4 ||| UInt8.ofNat j.val : UInt8).toNat) = 16 * i.val + j.val := by decide +kernel
  have ha' : (hexV a).toNat < 16 := by
    rw [UInt8.lt_iff_toNat_lt] at ha
    have : (15 : UInt8).toNat = 15 := rfl
    omega
  have hb' : (hexV b).toNat < 16 := by
    rw [UInt8.lt_iff_toNat_lt] at hb
    have : (15 : UInt8).toNat = 15 := rfl
    omega
  have := h ⟨(hexV a).toNat, ha'⟩ ⟨(hexV b).toNat, hb'⟩
  simpa using this

end Go.Proofs.YtiapdapkklcliaaGreatDoor.Sc
