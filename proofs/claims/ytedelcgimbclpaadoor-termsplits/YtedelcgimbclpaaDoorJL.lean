/- Texts are told apart: plain mathematics. -/
import Derived.Test.YtedelcgimbclpaaDoorTxtA
import Derived.Test.YtedelcgimbclpaaDoorJF
import Derived.Lib.ItoaLen

namespace Go.Proofs.YtedelcgimbclpaaDoor

/-- What may stand behind a term's text. -/
def dl (r : List UInt8) : Prop := ∀ c, r.head? = some c → c = 44 ∨ c = 124 ∨ c = 93 ∨ c = 125
theorem dl.nil : dl [] := fun c h => by simp at h
theorem dl.of (c : UInt8) (r : List UInt8) (h : c = 44 ∨ c = 124 ∨ c = 93 ∨ c = 125) : dl (c :: r) := fun d hd => by simp at hd; subst hd; exact h

/-- Two that go as far as a property does. -/
theorem span_inj {p : UInt8 → Bool} {T T' r r' : List UInt8} (h : ∀ c ∈ T, p c = true) (h' : ∀ c ∈ T', p c = true) (hr : ∀ c, r.head? = some c → p c = false) (hr' : ∀ c, r'.head? = some c → p c = false) (e : T ++ r = T' ++ r') : T = T' ∧ r = r' := by
  induction T generalizing T' with
  | nil =>
    cases T' with
    | nil => exact ⟨rfl, by simpa using e⟩
    | cons c t =>
      simp only [List.nil_append, List.cons_append] at e
      have := hr c (by rw [e]; rfl)
      rw [h' c List.mem_cons_self] at this
      cases this
  | cons c t ih =>
    cases T' with
    | nil =>
      simp only [List.nil_append, List.cons_append] at e
      have := hr' c (by rw [← e]; rfl)
      rw [h c List.mem_cons_self] at this
      cases this
    | cons c' t' =>
      simp only [List.cons_append, List.cons.injEq] at e
      obtain ⟨rfl, e⟩ := e
      obtain ⟨h1, h2⟩ := ih (fun x hx => h x (List.mem_cons_of_mem _ hx)) (fun x hx => h' x (List.mem_cons_of_mem _ hx)) e
      exact ⟨by rw [h1], h2⟩

/-! Integers -/
theorem IsDec.dig {H : List Nat} {n : Nat} (h : IsDec H n) : ∀ c ∈ H, 48 ≤ c ∧ c ≤ 57 := by
  intro c hc
  rcases h with ⟨_, rfl⟩ | ⟨_, h⟩
  · simp at hc; omega
  · exact h.dig c (by simpa using hc)
theorem IsDec.inj {H : List Nat} {n m : Nat} (h : IsDec H n) (k : IsDec H m) : n = m := by
  rcases h with ⟨h1, h2⟩ | ⟨h1, h2⟩ <;> rcases k with ⟨k1, k2⟩ | ⟨k1, k2⟩
  · omega
  · have := k2.eq; rw [h2] at this; simp [dval] at this; omega
  · have := h2.eq; rw [k2] at this; simp [dval] at this; omega
  · rw [← h2.eq, k2.eq]
theorem IsDec.ne {H : List Nat} {n : Nat} (h : IsDec H n) : H ≠ [] := by
  rcases h with ⟨_, rfl⟩ | ⟨h1, h2⟩
  · simp
  · rintro rfl
    have := h2.eq
    simp [dval] at this
    omega
theorem IsText.chars {T : List Nat} {z : Int} (h : IsText T z) : ∀ c ∈ T, c = 45 ∨ (48 ≤ c ∧ c ≤ 57) := by
  obtain ⟨H, rfl, hH⟩ := h
  intro c hc
  split at hc
  · rcases List.mem_cons.1 hc with rfl | hc
    · exact Or.inl rfl
    · exact Or.inr (hH.dig c hc)
  · exact Or.inr (hH.dig c hc)
theorem IsText.inj {T : List Nat} {z y : Int} (h : IsText T z) (k : IsText T y) : z = y := by
  obtain ⟨H, e, hH⟩ := h
  obtain ⟨K, e', hK⟩ := k
  subst e
  have hm : ∀ (K : List Nat) (n : Nat), IsDec K n → K.head? ≠ some 45 := fun K n hK h => by
    have := hK.dig 45 (List.mem_of_mem_head? (by rw [h]; rfl))
    omega
  by_cases hz : z < 0
  · rw [if_pos hz] at e'
    by_cases hy : y < 0
    · rw [if_pos hy, List.cons.injEq] at e'
      rw [← e'.2] at hK
      have := hH.inj hK
      omega
    · rw [if_neg hy] at e'
      exact absurd (by rw [← e']; rfl) (hm K _ hK)
  · rw [if_neg hz] at e'
    by_cases hy : y < 0
    · rw [if_pos hy] at e'
      exact absurd (by rw [e']; rfl) (hm H _ hH)
    · rw [if_neg hy] at e'
      rw [← e'] at hK
      have := hH.inj hK
      omega
theorem NormD.ex (n : Nat) (hn : n ≠ 0) : ∃ D, NormD D n := by
  induction n using Nat.strongRecOn with
  | ind n ih =>
    by_cases h : n < 10
    · exact ⟨[48 + n], ⟨fun c hc => by simp at hc; omega, by simp [dval], fun x hx => by simp at hx; omega⟩⟩
    · obtain ⟨D, hD⟩ := ih (n / 10) (Nat.div_lt_self (by omega) (by decide)) (by omega)
      have hne : D ≠ [] := fun e => by
        have := hD.eq
        rw [e] at this
        simp [dval] at this
        omega
      refine ⟨(48 + n % 10) :: D, ⟨fun c hc => ?_, by simp only [dval]; rw [hD.eq]; omega, fun x hx => ?_⟩⟩
      · rcases List.mem_cons.1 hc with h1 | h1
        · omega
        · exact hD.dig c h1
      · rw [List.getLast?_cons, List.getLast?_eq_some_getLast hne] at hx
        simp at hx
        exact hD.top x (by rw [List.getLast?_eq_some_getLast hne, hx])
theorem IsText.ex (z : Int) : ∃ T, IsText T z := by
  by_cases h : z.natAbs = 0
  · exact ⟨[48], [48], by rw [if_neg (by omega)], Or.inl ⟨h, rfl⟩⟩
  · obtain ⟨D, hD⟩ := NormD.ex z.natAbs h
    exact ⟨_, D.reverse, rfl, Or.inr ⟨h, by rw [List.reverse_reverse]; exact hD⟩⟩
/-- A sign of a number. -/
def numB (c : UInt8) : Bool := decide (c.toNat = 45 ∨ (48 ≤ c.toNat ∧ c.toNat ≤ 57))
theorem map_inj {T U : List Nat} (h : ∀ c ∈ T, c < 256) (k : ∀ c ∈ U, c < 256) (e : T.map (fun n => UInt8.ofNat n) = U.map (fun n => UInt8.ofNat n)) : T = U := by
  induction T generalizing U with
  | nil => cases U with
    | nil => rfl
    | cons => simp at e
  | cons c r ih =>
    cases U with
    | nil => simp at e
    | cons d s =>
      simp only [List.map_cons, List.cons.injEq] at e
      have h1 := congrArg UInt8.toNat e.1
      have a := h c List.mem_cons_self
      have b := k d List.mem_cons_self
      rw [UInt8.toNat_ofNat_of_lt' (by simpa using a), UInt8.toNat_ofNat_of_lt' (by simpa using b)] at h1
      rw [h1, ih (fun x hx => h x (List.mem_cons_of_mem _ hx)) (fun x hx => k x (List.mem_cons_of_mem _ hx)) e.2]
theorem wtx_num (z : Int) : (∀ c ∈ wtx z, numB c = true) ∧ wtx z ≠ [] := by
  obtain ⟨T, hT⟩ := IsText.ex z
  rw [wtx_eq hT]
  constructor
  · intro c hc
    obtain ⟨n, hn, rfl⟩ := List.mem_map.1 hc
    have h := hT.chars n hn
    unfold numB
    rw [UInt8.toNat_ofNat_of_lt' (show n < 256 by omega)]
    simpa using h
  · obtain ⟨H, rfl, hH⟩ := hT
    have := hH.ne
    split <;> simp [this]
theorem wtx_inj {z y : Int} {r r' : List UInt8} (hr : dl r) (hr' : dl r') (e : wtx z ++ r = wtx y ++ r') : z = y ∧ r = r' := by
  have key : ∀ (r : List UInt8), dl r → ∀ c, r.head? = some c → numB c = false := fun r hr c hc => by
    rcases hr c hc with rfl | rfl | rfl | rfl <;> decide
  obtain ⟨h1, h2⟩ := span_inj (wtx_num z).1 (wtx_num y).1 (key r hr) (key r' hr') e
  refine ⟨?_, h2⟩
  obtain ⟨T, hT⟩ := IsText.ex z
  obtain ⟨U, hU⟩ := IsText.ex y
  rw [wtx_eq hT, wtx_eq hU] at h1
  have a := map_inj (fun c hc => by have := hT.chars c hc; omega) (fun c hc => by have := hU.chars c hc; omega) h1
  subst a
  exact hT.inj hU

/-! Atoms -/
theorem hexD_inj {a b : Nat} (ha : a < 16) (hb : b < 16) (h : hexD a = hexD b) : a = b := by
  have key : ∀ a : Fin 16, ∀ b : Fin 16, hexD a = hexD b → a = b := by decide
  have := key ⟨a, ha⟩ ⟨b, hb⟩ h
  simpa using this
/-- A byte's text is one of four kinds. -/
theorem byteTx_kinds (c : UInt8) : (byteTx c = [92, c] ∧ (c = 92 ∨ c = 39)) ∨ (byteTx c = [92, 110] ∧ c = 10) ∨ (byteTx c = [92, 120, hexD (c.toNat / 16), hexD (c.toNat % 16)]) ∨ (byteTx c = [c] ∧ c ≠ 92 ∧ c ≠ 39) := by
  by_cases h1 : c.toNat = 92 ∨ c.toNat = 39
  · exact Or.inl ⟨byteTx_1 c h1, h1.imp (fun h => UInt8.toNat_inj.1 h) (fun h => UInt8.toNat_inj.1 h)⟩
  · by_cases h2 : c.toNat = 10
    · exact Or.inr (Or.inl ⟨byteTx_2 c h2, UInt8.toNat_inj.1 h2⟩)
    · by_cases h3 : c.toNat < 32 ∨ 126 < c.toNat
      · exact Or.inr (Or.inr (Or.inl (byteTx_3 c h1 h2 h3)))
      · exact Or.inr (Or.inr (Or.inr ⟨byteTx_4 c h1 h2 h3, fun h => h1 (Or.inl (by rw [h]; rfl)), fun h => h1 (Or.inr (by rw [h]; rfl))⟩))
theorem byteTx_inj {c d : UInt8} {X Y : List UInt8} (e : byteTx c ++ X = byteTx d ++ Y) : c = d ∧ X = Y := by
  rcases byteTx_kinds c with ⟨h, hc⟩ | ⟨h, hc⟩ | h | ⟨h, hc1, hc2⟩ <;> rcases byteTx_kinds d with ⟨k, kd⟩ | ⟨k, kd⟩ | k | ⟨k, kd1, kd2⟩ <;> rw [h, k] at e <;> simp only [List.cons_append, List.nil_append, List.cons.injEq] at e
  · exact ⟨e.2.1, e.2.2⟩
  · rcases hc with rfl | rfl <;> exact absurd e.2.1 (by decide)
  · rcases hc with rfl | rfl <;> exact absurd e.2.1 (by decide)
  · exact absurd e.1.symm kd1
  · rcases kd with rfl | rfl <;> exact absurd e.2.1 (by decide)
  · exact ⟨by rw [hc, kd], e.2.2⟩
  · exact absurd e.2.1 (by decide)
  · exact absurd e.1.symm kd1
  · rcases kd with rfl | rfl <;> exact absurd e.2.1 (by decide)
  · exact absurd e.2.1 (by decide)
  · have a := c.toNat_lt
    have b := d.toNat_lt
    have e1 := hexD_inj (by omega) (by omega) e.2.2.1
    have e2 := hexD_inj (by omega) (by omega) e.2.2.2.1
    exact ⟨UInt8.toNat_inj.1 (by omega), e.2.2.2.2⟩
  · exact absurd e.1.symm kd1
  · exact absurd e.1 hc1
  · exact absurd e.1 hc1
  · exact absurd e.1 hc1
  · exact ⟨e.1, e.2⟩
theorem byteTx_head (c : UInt8) (X Y : List UInt8) : byteTx c ++ X ≠ 39 :: Y := by
  intro e
  rcases byteTx_kinds c with ⟨h, _⟩ | ⟨h, _⟩ | h | ⟨h, _, hc2⟩ <;> rw [h] at e <;> simp only [List.cons_append, List.nil_append, List.cons.injEq] at e
  · exact absurd e.1 (by decide)
  · exact absurd e.1 (by decide)
  · exact absurd e.1 (by decide)
  · exact hc2 e.1
theorem flat_inj {l m : List UInt8} {X Y : List UInt8} (e : l.flatMap byteTx ++ 39 :: X = m.flatMap byteTx ++ 39 :: Y) : l = m ∧ X = Y := by
  induction l generalizing m with
  | nil =>
    cases m with
    | nil => simpa using e
    | cons c r =>
      simp only [List.flatMap_nil, List.nil_append, List.flatMap_cons, List.append_assoc] at e
      exact absurd e.symm (byteTx_head c _ _)
  | cons c r ih =>
    cases m with
    | nil =>
      simp only [List.flatMap_nil, List.nil_append, List.flatMap_cons, List.append_assoc] at e
      exact absurd e (byteTx_head c _ _)
    | cons d s =>
      simp only [List.flatMap_cons, List.append_assoc] at e
      obtain ⟨rfl, e2⟩ := byteTx_inj e
      obtain ⟨rfl, e3⟩ := ih e2
      exact ⟨rfl, e3⟩
theorem plainB_parts {l : List UInt8} (h : plainB l = true) : l ≠ [] ∧ lowB (l.headD 0) = true ∧ ∀ c ∈ l, nameB c = true := by
  unfold plainB at h
  simp only [Bool.and_eq_true, Bool.not_eq_true'] at h
  refine ⟨?_, h.1.1.2, fun c hc => List.all_eq_true.1 h.1.2 c hc⟩
  rintro rfl
  simp at h
theorem atomTx_inj {l m : List UInt8} {r r' : List UInt8} (hr : dl r) (hr' : dl r') (e : atomTx l ++ r = atomTx m ++ r') : l = m ∧ r = r' := by
  have key : ∀ (r : List UInt8), dl r → ∀ c, r.head? = some c → nameB c = false := fun r hr c hc => by
    rcases hr c hc with rfl | rfl | rfl | rfl <;> decide
  have low : ∀ l : List UInt8, plainB l = true → ∀ X Y, l ++ X ≠ 39 :: Y := fun l hl X Y h => by
    obtain ⟨a, b, _⟩ := plainB_parts hl
    cases l with
    | nil => exact a rfl
    | cons c s =>
      simp only [List.cons_append, List.cons.injEq] at h
      simp only [List.headD_cons, h.1] at b
      exact absurd b (by decide)
  unfold atomTx at e
  cases hl : plainB l with
  | true =>
    cases hm : plainB m with
    | true =>
      rw [hl, hm, if_pos rfl, if_pos rfl] at e
      exact span_inj (plainB_parts hl).2.2 (plainB_parts hm).2.2 (key r hr) (key r' hr') e
    | false =>
      rw [hl, hm, if_pos rfl, if_neg (by decide)] at e
      exact absurd e (low l hl _ _)
  | false =>
    cases hm : plainB m with
    | true =>
      rw [hl, hm, if_pos rfl, if_neg (by decide)] at e
      exact absurd e.symm (low m hm _ _)
    | false =>
      rw [hl, hm, if_neg (by decide), if_neg (by decide)] at e
      simp only [List.cons_append, List.cons.injEq, List.append_assoc, List.nil_append, true_and] at e
      exact flat_inj e

/-! Trees -/
theorem okF_2 {num : Int} {neg : Bool} {L : List Nat} {s : ByteArray} {ni : Nat} {T : List Tm} (h : okF 2 num neg L s ni T = true) : num = 0 ∧ neg = false ∧ L = [] ∧ ni = 0 ∧ T = [] := by
  unfold okF at h
  rw [if_neg (by decide), if_pos rfl] at h
  simp only [Bool.and_eq_true, decide_eq_true_eq] at h
  exact ⟨h.2.2.1, h.1.1, List.eq_nil_of_length_eq_zero h.1.2, h.2.2.2.1, List.eq_nil_of_length_eq_zero h.2.2.2.2⟩
theorem okF_6 {num : Int} {neg : Bool} {L : List Nat} {s : ByteArray} {ni : Nat} {T : List Tm} (h : okF 6 num neg L s ni T = true) : num = 0 ∧ neg = false ∧ L = [] ∧ s = ⟨#[]⟩ ∧ T = [] := by
  unfold okF at h
  rw [if_neg (by decide), if_neg (by decide), if_neg (by decide), if_neg (by decide), if_pos rfl] at h
  simp only [Bool.and_eq_true, decide_eq_true_eq] at h
  exact ⟨h.2.2.1, h.1.1, List.eq_nil_of_length_eq_zero h.1.2, bz_empty h.2.1, List.eq_nil_of_length_eq_zero h.2.2.2⟩
theorem okF_7 {num : Int} {neg : Bool} {L : List Nat} {s : ByteArray} {ni : Nat} {T : List Tm} (h : okF 7 num neg L s ni T = true) : num = 0 ∧ neg = false ∧ L = [] ∧ s = ⟨#[]⟩ ∧ (T = [] ∨ ∃ u, T = [u] ∧ 0 < ni) := by
  have ht := okF_tail h
  unfold okF at h
  rw [if_neg (by decide), if_neg (by decide), if_neg (by decide), if_neg (by decide), if_neg (by decide), if_pos rfl] at h
  simp only [Bool.and_eq_true, decide_eq_true_eq] at h
  exact ⟨h.2.1.2, h.1.1, List.eq_nil_of_length_eq_zero h.1.2, bz_empty h.2.1.1, ht.imp id (fun ⟨u, a, _, _, b⟩ => ⟨u, a, b⟩)⟩
/-- What a text begins with. -/
def hdB (c : UInt8) : Bool := numB c || lowB c || c == 39 || c == 123 || c == 91
theorem atomTx_head (l : List UInt8) : ∃ c r, atomTx l = c :: r ∧ (lowB c = true ∨ c = 39) := by
  unfold atomTx
  cases h : plainB l with
  | true =>
    obtain ⟨a, b, _⟩ := plainB_parts h
    cases l with
    | nil => exact absurd rfl a
    | cons c s => exact ⟨c, s, rfl, Or.inl b⟩
  | false => exact ⟨39, _, rfl, Or.inr rfl⟩
theorem wtx_head (z : Int) : ∃ c r, wtx z = c :: r ∧ numB c = true := by
  obtain ⟨h1, h2⟩ := wtx_num z
  cases e : wtx z with
  | nil => exact absurd e h2
  | cons c r => exact ⟨c, r, rfl, h1 c (by rw [e]; exact List.mem_cons_self)⟩
/-- The four kinds of plain right terms. -/
theorem kinds4 {k num : Int} {neg : Bool} {L : List Nat} {s : ByteArray} {I T : List Tm} (h : plT (.mk k num neg L s I T) = true) : k = 1 ∨ k = 2 ∨ k = 6 ∨ k = 7 := by
  rw [plT, Bool.and_eq_true, Bool.and_eq_true] at h
  simpa [or_assoc] using h.1.1
theorem txT_1 (num : Int) (neg : Bool) (L : List Nat) (s : ByteArray) (I T : List Tm) : txT (.mk 1 num neg L s I T) = wtx (zv neg L) := by rw [txT, if_pos rfl]
theorem txT_2 (num : Int) (neg : Bool) (L : List Nat) (s : ByteArray) (I T : List Tm) : txT (.mk 2 num neg L s I T) = atomTx (byt s) := by rw [txT, if_neg (by decide), if_pos rfl]
theorem txT_6 (num : Int) (neg : Bool) (L : List Nat) (s : ByteArray) (I T : List Tm) : txT (.mk 6 num neg L s I T) = 123 :: ((txC I).drop 1 ++ [125]) := by rw [txT, if_neg (by decide), if_neg (by decide), if_neg (by decide), if_neg (by decide), if_neg (by decide), if_pos rfl]
theorem txT_7 (num : Int) (neg : Bool) (L : List Nat) (s : ByteArray) (I T : List Tm) : txT (.mk 7 num neg L s I T) = 91 :: ((txC I).drop 1 ++ txB T ++ [93]) := by rw [txT, if_neg (by decide), if_neg (by decide), if_neg (by decide), if_neg (by decide), if_neg (by decide), if_neg (by decide), if_pos rfl]
theorem txT_head (t : Tm) (h : plT t = true) : ∃ c r, txT t = c :: r ∧ hdB c = true := by
  obtain ⟨k, num, neg, L, s, I, T⟩ := t
  rcases kinds4 h with rfl | rfl | rfl | rfl
  · obtain ⟨c, r, e, hc⟩ := wtx_head (zv neg L)
    exact ⟨c, r, by rw [txT_1, e], by simp [hdB, hc]⟩
  · obtain ⟨c, r, e, hc⟩ := atomTx_head (byt s)
    refine ⟨c, r, by rw [txT_2, e], ?_⟩
    rcases hc with hc | rfl
    · simp [hdB, hc]
    · decide
  · exact ⟨123, _, txT_6 _ _ _ _ _ _, by decide⟩
  · exact ⟨91, _, txT_7 _ _ _ _ _ _, by decide⟩
theorem txT_not (t : Tm) (h : plT t = true) (X Y : List UInt8) (c : UInt8) (hc : hdB c = false) : txT t ++ X ≠ c :: Y := by
  obtain ⟨d, r, e, hd⟩ := txT_head t h
  rw [e]
  intro e2
  simp only [List.cons_append, List.cons.injEq] at e2
  rw [e2.1, hc] at hd
  cases hd
/-- What stands behind a row's text. -/
def en (r : List UInt8) : Prop := ∃ c s, r = c :: s ∧ (c = 124 ∨ c = 93 ∨ c = 125)
theorem en.dl {r : List UInt8} (h : en r) : dl r := by
  obtain ⟨c, s, rfl, h⟩ := h
  exact dl.of c s (Or.inr h)
theorem en.not {r : List UInt8} (h : en r) (X : List UInt8) : r ≠ 44 :: X := by
  obtain ⟨c, s, rfl, h⟩ := h
  intro e
  simp only [List.cons.injEq] at e
  rw [e.1] at h
  revert h
  decide
theorem en.hd {r : List UInt8} (h : en r) (t : Tm) (ht : plT t = true) (X : List UInt8) : txT t ++ X ≠ r := by
  obtain ⟨c, s, rfl, h⟩ := h
  exact txT_not t ht X s c (by rcases h with rfl | rfl | rfl <;> decide)
theorem dl_row (I : List Tm) (r : List UInt8) (h : en r) : dl (txC I ++ r) := by
  cases I with
  | nil => rw [txC, List.nil_append]; exact h.dl
  | cons t s => rw [txC]; exact dl.of 44 _ (Or.inl rfl)
/-- A row's text without its first comma. -/
theorem drop_inj {I J : List Tm} {X Y : List UInt8} (hI : plR I = true) (hJ : plR J = true) (hX : en X) (hY : en Y) (ih : txC I ++ X = txC J ++ Y → I = J ∧ X = Y) (e : (txC I).drop 1 ++ X = (txC J).drop 1 ++ Y) : I = J ∧ X = Y := by
  cases I with
  | nil =>
    cases J with
    | nil => exact ih (by simpa [txC] using e)
    | cons u s =>
      rw [plR, Bool.and_eq_true] at hJ
      simp only [txC, List.drop_nil, List.nil_append, List.drop_one, List.tail_cons, List.append_assoc] at e
      exact absurd e.symm (hX.hd u hJ.1 _)
  | cons t s =>
    rw [plR, Bool.and_eq_true] at hI
    cases J with
    | nil =>
      simp only [txC, List.drop_nil, List.nil_append, List.drop_one, List.tail_cons, List.append_assoc] at e
      exact absurd e (hY.hd t hI.1 _)
    | cons u s' =>
      refine ih ?_
      simp only [txC, List.drop_one, List.tail_cons, List.cons_append, List.cons.injEq, true_and] at e ⊢
      exact e
theorem en_tail (T : List Tm) (r : List UInt8) : en (txB T ++ 93 :: r) := by
  cases T with
  | nil => rw [txB]; exact ⟨93, r, rfl, Or.inr (Or.inl rfl)⟩
  | cons t s => rw [txB]; exact ⟨124, _, rfl, Or.inl rfl⟩

mutual
/-- Right plain terms of one text are one. -/
theorem tx_inj : ∀ (t u : Tm) (r r' : List UInt8), okT' t = true → okT' u = true → digT t → digT u → plT t = true → plT u = true → dl r → dl r' → txT t ++ r = txT u ++ r' → t = u ∧ r = r'
  | .mk k num neg L s I T, .mk k' num' neg' L' s' I' T', r, r', h, h', d, d', p, p', hr, hr', e => by
    have q := p
    have q' := p'
    rw [okT', Bool.and_eq_true, Bool.and_eq_true] at h h'
    rw [digT] at d d'
    rw [plT, Bool.and_eq_true, Bool.and_eq_true] at p p'
    have b1 : ∀ (z : Int) (X Y : List UInt8) (c : UInt8), numB c = false → wtx z ++ X ≠ c :: Y := fun z X Y c hc he => by
      obtain ⟨c', r', e', hc'⟩ := wtx_head z
      rw [e'] at he
      simp only [List.cons_append, List.cons.injEq] at he
      rw [he.1, hc] at hc'
      cases hc'
    have b2 : ∀ (l : List UInt8) (X Y : List UInt8) (c : UInt8), lowB c = false → c ≠ 39 → atomTx l ++ X ≠ c :: Y := fun l X Y c hc h39 he => by
      obtain ⟨c', r', e', hc'⟩ := atomTx_head l
      rw [e'] at he
      simp only [List.cons_append, List.cons.injEq] at he
      rcases hc' with hc' | hc'
      · rw [he.1, hc] at hc'; cases hc'
      · exact h39 (he.1 ▸ hc')
    have b3 : ∀ (z : Int) (l : List UInt8) (X Y : List UInt8), wtx z ++ X ≠ atomTx l ++ Y := fun z l X Y he => by
      obtain ⟨c, r1, e1, h1⟩ := wtx_head z
      obtain ⟨c', r2, e2, h2⟩ := atomTx_head l
      rw [e1, e2] at he
      simp only [List.cons_append, List.cons.injEq] at he
      have h3 := he.1
      subst h3
      unfold numB at h1
      rw [decide_eq_true_eq] at h1
      rcases h2 with h2 | h2
      · unfold lowB at h2
        simp only [Bool.and_eq_true, decide_eq_true_eq] at h2
        omega
      · rw [h2] at h1
        revert h1
        decide
    rcases kinds4 q with rfl | rfl | rfl | rfl <;> rcases kinds4 q' with rfl | rfl | rfl | rfl
    · rw [txT_1, txT_1] at e
      obtain ⟨hz, hrr⟩ := wtx_inj hr hr' e
      obtain ⟨f1, rfl, rfl, f4, rfl⟩ := okF_int h.1.1
      obtain ⟨g1, rfl, rfl, g4, rfl⟩ := okF_int h'.1.1
      obtain ⟨a1, a2, _⟩ := okL_top f1
      obtain ⟨c1, c2, _⟩ := okL_top g1
      obtain ⟨e1, e2⟩ := zv_inj d.1 d'.1 a1 c1 a2 c2 hz
      exact ⟨by rw [e1, e2, List.eq_nil_of_length_eq_zero f4, List.eq_nil_of_length_eq_zero g4], hrr⟩
    · rw [txT_1, txT_2] at e; exact absurd e (b3 _ _ _ _)
    · rw [txT_1, txT_6] at e; exact absurd e (b1 _ _ _ _ (by decide))
    · rw [txT_1, txT_7] at e; exact absurd e (b1 _ _ _ _ (by decide))
    · rw [txT_2, txT_1] at e; exact absurd e.symm (b3 _ _ _ _)
    · rw [txT_2, txT_2] at e
      obtain ⟨hl, hrr⟩ := atomTx_inj hr hr' e
      obtain ⟨rfl, rfl, rfl, f4, rfl⟩ := okF_2 h.1.1
      obtain ⟨rfl, rfl, rfl, g4, rfl⟩ := okF_2 h'.1.1
      have hs : s = s' := by rw [← str_byt s, ← str_byt s', hl]
      exact ⟨by rw [hs, List.eq_nil_of_length_eq_zero f4, List.eq_nil_of_length_eq_zero g4], hrr⟩
    · rw [txT_2, txT_6] at e; exact absurd e (b2 _ _ _ _ (by decide) (by decide))
    · rw [txT_2, txT_7] at e; exact absurd e (b2 _ _ _ _ (by decide) (by decide))
    · rw [txT_6, txT_1] at e; exact absurd e.symm (b1 _ _ _ _ (by decide))
    · rw [txT_6, txT_2] at e; exact absurd e.symm (b2 _ _ _ _ (by decide) (by decide))
    · rw [txT_6, txT_6] at e
      simp only [List.cons_append, List.append_assoc, List.nil_append, List.cons.injEq, true_and] at e
      have E : ∀ r : List UInt8, en (125 :: r) := fun r => ⟨125, r, rfl, Or.inr (Or.inr rfl)⟩
      obtain ⟨e1, e2⟩ := drop_inj p.1.2 p'.1.2 (E r) (E r') (txC_inj I I' _ _ h.1.2 h'.1.2 d.2.1 d'.2.1 p.1.2 p'.1.2 (E r) (E r')) e
      obtain ⟨rfl, rfl, rfl, rfl, rfl⟩ := okF_6 h.1.1
      obtain ⟨rfl, rfl, rfl, rfl, rfl⟩ := okF_6 h'.1.1
      exact ⟨by rw [e1], by simpa using e2⟩
    · rw [txT_6, txT_7] at e
      simp only [List.cons_append, List.cons.injEq] at e
      exact absurd e.1 (by decide)
    · rw [txT_7, txT_1] at e; exact absurd e.symm (b1 _ _ _ _ (by decide))
    · rw [txT_7, txT_2] at e; exact absurd e.symm (b2 _ _ _ _ (by decide) (by decide))
    · rw [txT_7, txT_6] at e
      simp only [List.cons_append, List.cons.injEq] at e
      exact absurd e.1 (by decide)
    · rw [txT_7, txT_7] at e
      simp only [List.cons_append, List.append_assoc, List.nil_append, List.cons.injEq, true_and] at e
      obtain ⟨e1, e2⟩ := drop_inj p.1.2 p'.1.2 (en_tail T r) (en_tail T' r') (txC_inj I I' _ _ h.1.2 h'.1.2 d.2.1 d'.2.1 p.1.2 p'.1.2 (en_tail T r) (en_tail T' r')) e
      have t1 := okF_tail2 h.1.1
      have t2 := okF_tail2 h'.1.1
      obtain ⟨e3, e4⟩ := txB_inj T T' r r' h.2 h'.2 d.2.2 d'.2.2 p.2 p'.2 t1 t2 e2
      obtain ⟨rfl, rfl, rfl, rfl, _⟩ := okF_7 h.1.1
      obtain ⟨rfl, rfl, rfl, rfl, _⟩ := okF_7 h'.1.1
      exact ⟨by rw [e1, e3], e4⟩
theorem txC_inj : ∀ (I J : List Tm) (r r' : List UInt8), okR I = true → okR J = true → digR I → digR J → plR I = true → plR J = true → en r → en r' → txC I ++ r = txC J ++ r' → I = J ∧ r = r'
  | [], [], _, _, _, _, _, _, _, _, _, _, e => ⟨rfl, by simpa [txC] using e⟩
  | [], u :: s, r, r', _, _, _, _, _, _, hr, _, e => by
    simp only [txC, List.nil_append, List.cons_append] at e
    exact absurd e (hr.not _)
  | t :: s, [], r, r', _, _, _, _, _, _, _, hr', e => by
    simp only [txC, List.nil_append, List.cons_append] at e
    exact absurd e.symm (hr'.not _)
  | t :: s, u :: s', r, r', h, h', d, d', p, p', hr, hr', e => by
    rw [okR, Bool.and_eq_true] at h h'
    rw [digR] at d d'
    rw [plR, Bool.and_eq_true] at p p'
    simp only [txC, List.cons_append, List.append_assoc, List.cons.injEq, true_and] at e
    obtain ⟨e1, e2⟩ := tx_inj t u _ _ h.1 h'.1 d.1 d'.1 p.1 p'.1 (dl_row s r hr) (dl_row s' r' hr') e
    obtain ⟨e3, e4⟩ := txC_inj s s' r r' h.2 h'.2 d.2 d'.2 p.2 p'.2 hr hr' e2
    exact ⟨by rw [e1, e3], e4⟩
theorem txB_inj : ∀ (T T' : List Tm) (r r' : List UInt8), okR T = true → okR T' = true → digR T → digR T' → plR T = true → plR T' = true → (T = [] ∨ ∃ u, T = [u] ∧ u.kd ≠ 7) → (T' = [] ∨ ∃ u, T' = [u] ∧ u.kd ≠ 7) → txB T ++ 93 :: r = txB T' ++ 93 :: r' → T = T' ∧ r = r'
  | [], [], _, _, _, _, _, _, _, _, _, _, e => ⟨rfl, by simpa [txB] using e⟩
  | [], u :: s, r, r', _, _, _, _, _, _, _, _, e => by
    simp only [txB, List.nil_append, List.cons_append, List.cons.injEq] at e
    exact absurd e.1 (by decide)
  | t :: s, [], r, r', _, _, _, _, _, _, _, _, e => by
    simp only [txB, List.nil_append, List.cons_append, List.cons.injEq] at e
    exact absurd e.1 (by decide)
  | t :: s, u :: s', r, r', h, h', d, d', p, p', hT, hT', e => by
    rw [okR, Bool.and_eq_true] at h h'
    rw [digR] at d d'
    rw [plR, Bool.and_eq_true] at p p'
    simp only [txB, List.cons_append, List.cons.injEq, true_and] at e
    obtain ⟨e1, e2⟩ := tx_inj t u _ _ h.1 h'.1 d.1 d'.1 p.1 p'.1 (dl.of 93 r (by decide)) (dl.of 93 r' (by decide)) e
    have s1 : s = [] := by rcases hT with hT | ⟨v, hT, _⟩ <;> simp at hT; exact hT.2
    have s2 : s' = [] := by rcases hT' with hT' | ⟨v, hT', _⟩ <;> simp at hT'; exact hT'.2
    exact ⟨by rw [e1, s1, s2], by simpa using e2⟩
end
/-- Right plain terms have one text just if they are one. -/
theorem txT_one (t u : Tm) (h : okT' t = true) (h' : okT' u = true) (d : digT t) (d' : digT u) (p : plT t = true) (p' : plT u = true) : txT t = txT u ↔ t = u := by
  constructor
  · intro e
    exact (tx_inj t u [] [] h h' d d' p p' dl.nil dl.nil (by rw [e])).1
  · intro e; rw [e]
end Go.Proofs.YtedelcgimbclpaaDoor

/- How long texts are, and of which bytes: plain mathematics. -/
namespace Go.Proofs.YtedelcgimbclpaaDoor

theorem normD_low {D : List Nat} {n : Nat} (h : NormD D n) (hne : D ≠ []) : 10 ^ (D.length - 1) ≤ n := by
  have h0 := h.top _ (List.getLast?_eq_some_getLast hne)
  have h9 := h.dig _ (List.getLast_mem hne)
  have h1 : D = D.dropLast ++ [D.getLast hne] := (List.dropLast_concat_getLast hne).symm
  have h2 : dval [D.getLast hne] = D.getLast hne - 48 := by simp [dval]
  have h3 := h.eq
  rw [h1, dval_append, h2, List.length_dropLast] at h3
  have h4 : 10 ^ (D.length - 1) * 1 ≤ 10 ^ (D.length - 1) * (D.getLast hne - 48) := Nat.mul_le_mul_left _ (by omega)
  omega
theorem dec_len {H : List Nat} {n : Nat} (h : IsDec H n) (hn : n < 4294967296 ^ 32) : H.length ≤ 310 := by
  rcases h with ⟨_, rfl⟩ | ⟨h1, h2⟩
  · simp
  · have hne : H.reverse ≠ [] := by
      intro e
      have := h2.eq
      rw [e] at this
      simp [dval] at this
      omega
    have h3 := normD_low h2 hne
    rw [List.length_reverse] at h3
    have h4 : (4294967296 : Nat) ^ 32 < 10 ^ 309 := by decide +kernel
    have h5 : 10 ^ (H.length - 1) < 10 ^ 309 := by omega
    have := (Nat.pow_lt_pow_iff_right (a := 10) (by decide)).1 h5
    omega
theorem wtx_len (z : Int) (hz : z.natAbs < 4294967296 ^ 32) : (wtx z).length ≤ 311 := by
  obtain ⟨T, hT⟩ := IsText.ex z
  rw [wtx_eq hT, List.length_map]
  obtain ⟨H, rfl, hH⟩ := hT
  have := dec_len hH hz
  split
  · rw [List.length_cons]; omega
  · omega
theorem zv_abs {neg : Bool} {L : List Nat} (h : okL neg L = true) (hd : Dig L) : (zv neg L).natAbs < 4294967296 ^ 32 := by
  obtain ⟨_, _, h3⟩ := okL_top h
  have h1 := val_lt hd
  have h2 : 4294967296 ^ L.length ≤ 4294967296 ^ 32 := Nat.pow_le_pow_right (by decide) h3
  have h4 : (zv neg L).natAbs = val L := by unfold zv; split <;> omega
  omega
mutual
/-- A right term's text is not long. -/
theorem tx_len : ∀ t : Tm, okT' t = true → digT t → (txT t).length + 1 ≤ 401 * szT t
  | .mk k num neg L s I T, h, d => by
    rw [okT', Bool.and_eq_true, Bool.and_eq_true] at h
    rw [digT] at d
    have hI := txC_bound I h.1.2 d.2.1
    have hT := txB_bound T h.2 d.2.2
    have hf := h.1.1
    have one : 1 ≤ ownZ k L.length I.length := by unfold ownZ; repeat' split
                                                  all_goals omega
    have hz : szT (.mk k num neg L s I T) = ownZ k L.length I.length + szR I + szR T := by rw [szT]
    have hit : 0 ≤ num → num ≤ 1099511627776 → (Lib.itoa num).length ≤ 21 := fun a b => Lib.itoa_length_le num (by omega) (by omega)
    rcases okF_kind hf with rfl | rfl | rfl | rfl | rfl | rfl | rfl
    · rw [txT_1, hz]
      have := wtx_len _ (zv_abs (okF_int hf).1 d.1)
      omega
    · rw [txT_2, hz]
      have h1 := atomTx_len (byt s)
      have h2 := okF_atom hf
      rw [byt_len] at h1
      omega
    · have hn := okF_num (by decide) hf
      have := hit hn.1 hn.2
      rw [hz, txT, if_neg (by decide), if_neg (by decide), if_pos rfl]
      simp only [List.length_append, List.length_cons, List.length_nil]
      omega
    · have hn := okF_num (by decide) hf
      have := hit hn.1 hn.2
      rw [hz, txT, if_neg (by decide), if_neg (by decide), if_neg (by decide), if_pos rfl]
      simp only [List.length_append, List.length_cons, List.length_nil]
      omega
    · have hn := okF_num (by decide) hf
      have := hit hn.1 hn.2
      rw [hz, txT, if_neg (by decide), if_neg (by decide), if_neg (by decide), if_neg (by decide), if_pos rfl]
      simp only [List.length_append, List.length_cons, List.length_nil]
      omega
    · rw [txT_6, hz]
      simp only [List.length_append, List.length_cons, List.length_nil, List.length_drop]
      omega
    · rw [txT_7, hz]
      simp only [List.length_append, List.length_cons, List.length_nil, List.length_drop]
      omega
theorem txC_bound : ∀ I : List Tm, okR I = true → digR I → (txC I).length ≤ 401 * szR I
  | [], _, _ => by simp [txC]
  | t :: r, h, d => by
    rw [okR, Bool.and_eq_true] at h
    rw [digR] at d
    have h1 := tx_len t h.1 d.1
    have h2 := txC_bound r h.2 d.2
    rw [txC, szR]
    simp only [List.length_cons, List.length_append]
    omega
theorem txB_bound : ∀ T : List Tm, okR T = true → digR T → (txB T).length ≤ 401 * szR T
  | [], _, _ => by simp [txB]
  | t :: r, h, d => by
    rw [okR, Bool.and_eq_true] at h
    rw [digR] at d
    have h1 := tx_len t h.1 d.1
    rw [txB, szR]
    simp only [List.length_cons]
    omega
end
theorem tx_short (t : Tm) (h : okS t = true) (d : digT t) : (txT t).length ≤ 140737488355328 := by
  have h1 := tx_len t (okS_ok h) d
  unfold okS at h
  rw [Bool.and_eq_true, decide_eq_true_eq] at h
  omega

/-- A byte that can be shown. -/
def visB (c : UInt8) : Bool := decide (32 ≤ c.toNat ∧ c.toNat ≤ 126)
theorem numB_vis {c : UInt8} (h : numB c = true) : visB c = true := by
  unfold numB at h; unfold visB
  rw [decide_eq_true_eq] at h ⊢
  omega
theorem nameB_vis {c : UInt8} (h : nameB c = true) : visB c = true := by
  unfold nameB lowB at h; unfold visB
  simp only [Bool.or_eq_true, Bool.and_eq_true, decide_eq_true_eq, beq_iff_eq] at h
  rw [decide_eq_true_eq]
  omega
theorem hexD_vis (n : Nat) (h : n < 16) : visB (hexD n) = true := by
  have key : ∀ a : Fin 16, visB (hexD a) = true := by decide
  exact key ⟨n, h⟩
theorem byteTx_vis (c : UInt8) : ∀ d ∈ byteTx c, visB d = true := by
  have hl := c.toNat_lt
  by_cases h1 : c.toNat = 92 ∨ c.toNat = 39
  · rw [byteTx_1 c h1]
    intro d hd
    simp only [List.mem_cons, List.not_mem_nil, or_false] at hd
    rcases hd with rfl | rfl
    · decide
    · unfold visB; rw [decide_eq_true_eq]; omega
  · by_cases h2 : c.toNat = 10
    · rw [byteTx_2 c h2]
      intro d hd
      simp only [List.mem_cons, List.not_mem_nil, or_false] at hd
      rcases hd with rfl | rfl <;> decide
    · by_cases h3 : c.toNat < 32 ∨ 126 < c.toNat
      · rw [byteTx_3 c h1 h2 h3]
        intro d hd
        simp only [List.mem_cons, List.not_mem_nil, or_false] at hd
        rcases hd with rfl | rfl | rfl | rfl
        · decide
        · decide
        · exact hexD_vis _ (by omega)
        · exact hexD_vis _ (by omega)
      · rw [byteTx_4 c h1 h2 h3]
        intro d hd
        simp only [List.mem_cons, List.not_mem_nil, or_false] at hd
        subst hd
        unfold visB; rw [decide_eq_true_eq]; omega
theorem atomTx_vis (l : List UInt8) : ∀ d ∈ atomTx l, visB d = true := by
  unfold atomTx
  cases h : plainB l with
  | true =>
    intro d hd
    rw [if_pos rfl] at hd
    exact nameB_vis ((plainB_parts h).2.2 d hd)
  | false =>
    intro d hd
    rw [if_neg (by decide)] at hd
    simp only [List.mem_cons, List.mem_append, List.mem_flatMap, List.not_mem_nil, or_false] at hd
    rcases hd with rfl | ⟨c, _, hc⟩ | rfl
    · decide
    · exact byteTx_vis c d hc
    · decide
theorem decDigits_vis (u : Nat) : ∀ d ∈ Lib.decDigits u, visB d = true := by
  induction u using Nat.strongRecOn with
  | ind u ih =>
    have one : ∀ n, n < 10 → visB (UInt8.ofNat (48 + n)) = true := fun n hn => by
      have key : ∀ a : Fin 10, visB (UInt8.ofNat (48 + a)) = true := by decide
      exact key ⟨n, hn⟩
    intro d hd
    rw [Lib.decDigits] at hd
    split at hd
    · rename_i h
      simp only [List.mem_cons, List.not_mem_nil, or_false] at hd
      subst hd
      exact one u h
    · rcases List.mem_append.1 hd with hd | hd
      · exact ih (u / 10) (by omega) d hd
      · simp only [List.mem_cons, List.not_mem_nil, or_false] at hd
        subst hd
        exact one _ (by omega)
theorem itoa_vis (n : Int) : ∀ d ∈ Lib.itoa n, visB d = true := by
  intro d hd
  unfold Lib.itoa at hd
  split at hd
  · rcases List.mem_cons.1 hd with rfl | hd
    · decide
    · exact decDigits_vis _ d hd
  · exact decDigits_vis _ d hd
mutual
/-- A right term's text can be shown. -/
theorem tx_vis : ∀ t : Tm, okT' t = true → ∀ c ∈ txT t, visB c = true
  | .mk k num neg L s I T, h, c, hc => by
    rw [okT', Bool.and_eq_true, Bool.and_eq_true] at h
    have hI := txC_vis I h.1.2
    have hT := txB_vis T h.2
    rcases okF_kind h.1.1 with rfl | rfl | rfl | rfl | rfl | rfl | rfl
    · rw [txT_1] at hc; exact numB_vis ((wtx_num _).1 c hc)
    · rw [txT_2] at hc; exact atomTx_vis _ c hc
    · rw [txT, if_neg (by decide), if_neg (by decide), if_pos rfl] at hc
      simp only [List.mem_append, List.mem_cons, List.not_mem_nil, or_false] at hc
      rcases hc with (rfl | rfl | rfl | rfl | rfl) | hc | rfl
      · decide
      · decide
      · decide
      · decide
      · decide
      · exact itoa_vis _ c hc
      · decide
    · rw [txT, if_neg (by decide), if_neg (by decide), if_neg (by decide), if_pos rfl] at hc
      simp only [List.mem_append, List.mem_cons, List.not_mem_nil, or_false] at hc
      rcases hc with (rfl | rfl | rfl | rfl | rfl) | hc | rfl
      · decide
      · decide
      · decide
      · decide
      · decide
      · exact itoa_vis _ c hc
      · decide
    · rw [txT, if_neg (by decide), if_neg (by decide), if_neg (by decide), if_neg (by decide), if_pos rfl] at hc
      simp only [List.mem_append, List.mem_cons, List.not_mem_nil, or_false] at hc
      rcases hc with rfl | hc | rfl
      · decide
      · exact itoa_vis _ c hc
      · decide
    · rw [txT_6] at hc
      rcases List.mem_cons.1 hc with rfl | hc
      · decide
      · rcases List.mem_append.1 hc with hc | hc
        · exact hI c (List.mem_of_mem_drop hc)
        · simp only [List.mem_cons, List.not_mem_nil, or_false] at hc
          subst hc
          decide
    · rw [txT_7] at hc
      rcases List.mem_cons.1 hc with rfl | hc
      · decide
      · rcases List.mem_append.1 hc with hc | hc
        · rcases List.mem_append.1 hc with hc | hc
          · exact hI c (List.mem_of_mem_drop hc)
          · exact hT c hc
        · simp only [List.mem_cons, List.not_mem_nil, or_false] at hc
          subst hc
          decide
theorem txC_vis : ∀ I : List Tm, okR I = true → ∀ c ∈ txC I, visB c = true
  | [], _, c, hc => by simp [txC] at hc
  | t :: r, h, c, hc => by
    rw [okR, Bool.and_eq_true] at h
    rw [txC] at hc
    rcases List.mem_cons.1 hc with rfl | hc
    · decide
    · rcases List.mem_append.1 hc with hc | hc
      · exact tx_vis t h.1 c hc
      · exact txC_vis r h.2 c hc
theorem txB_vis : ∀ T : List Tm, okR T = true → ∀ c ∈ txB T, visB c = true
  | [], _, c, hc => by simp [txB] at hc
  | t :: r, h, c, hc => by
    rw [okR, Bool.and_eq_true] at h
    rw [txB] at hc
    rcases List.mem_cons.1 hc with rfl | hc
    · decide
    · exact tx_vis t h.1 c hc
end
theorem tx_some (t : Tm) (h : okT' t = true) : txT t ≠ [] := by
  obtain ⟨k, num, neg, L, s, I, T⟩ := t
  rw [okT', Bool.and_eq_true, Bool.and_eq_true] at h
  rcases okF_kind h.1.1 with rfl | rfl | rfl | rfl | rfl | rfl | rfl
  · rw [txT_1]; exact (wtx_num _).2
  · rw [txT_2]
    obtain ⟨c, r, e, _⟩ := atomTx_head (byt s)
    rw [e]; simp
  · rw [txT, if_neg (by decide), if_neg (by decide), if_pos rfl]; simp
  · rw [txT, if_neg (by decide), if_neg (by decide), if_neg (by decide), if_pos rfl]; simp
  · rw [txT, if_neg (by decide), if_neg (by decide), if_neg (by decide), if_neg (by decide), if_pos rfl]; simp
  · rw [txT_6]; simp
  · rw [txT_7]; simp
end Go.Proofs.YtedelcgimbclpaaDoor
