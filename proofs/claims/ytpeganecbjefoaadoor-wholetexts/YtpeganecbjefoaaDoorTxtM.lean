/- Texts: digits, the highest one first. -/
import Derived.Test.YtpeganecbjefoaaDoorRev
namespace Go.Proofs.YtpeganecbjefoaaDoor
open Go.RowKit

theorem dval_lt_ten {L : List Nat} (hd : IsDig L) : dval L < 10 ^ L.length := by
  induction L with
  | nil => simp [dval]
  | cons x r ih =>
    have h1 := ih (fun y hy => hd y (List.mem_cons_of_mem _ hy))
    have h2 := hd x List.mem_cons_self
    rw [dval, List.length_cons, Nat.pow_succ]
    have : dval r + 1 ≤ 10 ^ r.length := h1
    omega

/-- Digits, the lowest one first, without noughts at the end. -/
structure NormD (L : List Nat) (n : Nat) : Prop where
  dig : IsDig L
  eq : dval L = n
  top : ∀ x, L.getLast? = some x → x ≠ 48

theorem dval_pos_of_top {L : List Nat} (hd : IsDig L) (hne : L ≠ []) (ht : ∀ x, L.getLast? = some x → x ≠ 48) : 0 < dval L := by
  have h := List.getLast?_eq_some_getLast hne
  have h0 := ht _ h
  have h1 : L = L.dropLast ++ [L.getLast hne] := (List.dropLast_concat_getLast hne).symm
  have h9 := hd _ (List.getLast_mem hne)
  rw [h1, dval_append]
  have h2 : dval [L.getLast hne] = L.getLast hne - 48 := by simp [dval]
  rw [h2]
  have h3 : 0 < 10 ^ L.dropLast.length * (L.getLast hne - 48) := Nat.mul_pos (Nat.pow_pos (by decide)) (by omega)
  omega

theorem NormD.uniq {L M : List Nat} {n : Nat} (h : NormD L n) (k : NormD M n) : L = M := by
  induction L generalizing M n with
  | nil =>
    cases M with
    | nil => rfl
    | cons y s =>
      have h1 := dval_pos_of_top k.dig (L := y :: s) (by simp) k.top
      have h2 := k.eq
      have h3 := h.eq
      simp only [dval] at h3; omega
  | cons x r ih =>
    cases M with
    | nil =>
      have h1 := dval_pos_of_top h.dig (L := x :: r) (by simp) h.top
      have h2 := k.eq
      have h3 := h.eq
      simp only [dval] at h2; omega
    | cons y s =>
      have e1 := h.eq
      have e2 := k.eq
      rw [dval] at e1 e2
      have hx := h.dig x List.mem_cons_self
      have hy := k.dig y List.mem_cons_self
      have hxy : x = y := by omega
      have hv : dval r = dval s := by omega
      have hr : NormD r (dval r) := ⟨fun z hz => h.dig z (List.mem_cons_of_mem _ hz), rfl, fun z hz => h.top z (by cases r with | nil => simp at hz | cons a t => simpa using hz)⟩
      have hs : NormD s (dval r) := ⟨fun z hz => k.dig z (List.mem_cons_of_mem _ hz), hv.symm, fun z hz => k.top z (by cases s with | nil => simp at hz | cons a t => simpa using hz)⟩
      rw [hxy, ih hr hs]

/-- The decimal digits of n, the highest one first. -/
def IsDec (H : List Nat) (n : Nat) : Prop := (n = 0 ∧ H = [48]) ∨ (n ≠ 0 ∧ NormD H.reverse n)
theorem IsDec.uniq {H K : List Nat} {n : Nat} (h : IsDec H n) (k : IsDec K n) : H = K := by
  rcases h with ⟨h1, h2⟩ | ⟨h1, h2⟩ <;> rcases k with ⟨k1, k2⟩ | ⟨k1, k2⟩
  · rw [h2, k2]
  · exact absurd h1 k1
  · exact absurd k1 h1
  · have := h2.uniq k2
    rw [← List.reverse_reverse H, this, List.reverse_reverse]

/-- The text of z. -/
def IsText (T : List Nat) (z : Int) : Prop := ∃ H, T = (if z < 0 then 45 :: H else H) ∧ IsDec H z.natAbs
theorem IsText.uniq {T U : List Nat} {z : Int} (h : IsText T z) (k : IsText U z) : T = U := by
  obtain ⟨H, h1, h2⟩ := h
  obtain ⟨K, k1, k2⟩ := k
  rw [h1, k1, h2.uniq k2]

/-- What is left of the digits without the noughts at the end. -/
theorem normD_take {D : List Nat} {n m : Nat} (hd : IsDig D) (hv : dval D = n) (hm : 0 < m) (hml : m ≤ D.length) (hz : ∀ i, m ≤ i → i < D.length → D.getD i 0 = 48) (ht : D.getD (m - 1) 0 ≠ 48) : NormD (D.take m) n := by
  refine ⟨fun c hc => hd c (List.mem_of_mem_take hc), ?_, ?_⟩
  · rw [← hv]
    have h : ∀ E : List Nat, (∀ c, c ∈ E → c = 48) → dval E = 0 := by
      intro E hE
      induction E with
      | nil => rfl
      | cons x r ih =>
        rw [dval, ih (fun c hc => hE c (List.mem_cons_of_mem _ hc)), hE x List.mem_cons_self]
    have h2 := dval_append (D.take m) (D.drop m)
    rw [List.take_append_drop] at h2
    rw [h2, h (D.drop m) (fun c hc => by
      obtain ⟨i, hi, e⟩ := List.getElem_of_mem hc
      rw [List.getElem_drop] at e
      have := hz (m + i) (by omega) (by simp at hi; omega)
      rw [List.getD_eq_getElem?_getD, List.getElem?_eq_getElem (by simp at hi; omega)] at this
      rw [← e]; exact this)]
    omega
  · intro x hx
    have hl : (D.take m).length = m := by simp; omega
    rw [List.getLast?_eq_getElem?, hl, List.getElem?_take_of_lt (by omega)] at hx
    rw [List.getD_eq_getElem?_getD, hx] at ht
    exact ht

theorem exists_nz {D : List Nat} (h : 0 < dval D) : ∃ i, i < D.length ∧ D.getD i 0 ≠ 48 := by
  induction D with
  | nil => simp [dval] at h
  | cons x r ih =>
    by_cases e : x = 48
    · rw [dval, e] at h
      obtain ⟨i, h1, h2⟩ := ih (by omega)
      exact ⟨i + 1, by simpa using h1, by simpa using h2⟩
    · exact ⟨0, by simp, by simpa using e⟩

/-- Bytes as a string. -/
def bs (T : List Nat) : ByteArray := ⟨(T.map (fun n => UInt8.ofNat n)).toArray⟩

theorem OB.row {w : World} {base : Nat} {v : Value} {D : List Nat} (h : OB w base v D) (hne : D ≠ []) :
    ∃ g cap R, v = .slice (some ⟨g, 0, none⟩) D.length cap ∧ base ≤ g ∧ D.length ≤ cap ∧ cap ≤ 9223372036854775807 ∧ D.length + R.length = cap ∧ BRow w g D R := by
  obtain ⟨_, ⟨_, h1⟩ | ⟨g, cap, cur, hv, hb, hh, hc1, hc2, hcs, hcu⟩⟩ := h
  · exact absurd (List.eq_nil_of_length_eq_zero h1) hne
  · refine ⟨g, cap, cur.toList.drop D.length, hv, hb, hc1, by unfold maxLen at hc2; omega, ?_, ?_⟩
    · have e : cur.toList.length = cap := by rw [Array.length_toList, hcs, Nat.mul_one]
      rw [List.length_drop, e]; omega
    · unfold BRow
      rw [hh, ← hcu, Nat.mul_one, List.take_append_drop]

theorem BRow.take {w : World} {g : Nat} {D : List Nat} {R : List Value} (h : BRow w g D R) (m : Nat) : BRow w g (D.take m) ((D.drop m).map (fun n => Value.int .u8 (n : Nat)) ++ R) := by
  unfold BRow at *
  rw [h, ← List.append_assoc, ← List.map_append, List.take_append_drop]

theorem BRow.owns {w : World} {g base cap : Nat} {D : List Nat} {R : List Value} (h : BRow w g D R) (hb : base ≤ g) (hc : D.length + R.length = cap) (hm : cap ≤ 9223372036854775807) : OB w base (.slice (some ⟨g, 0, none⟩) D.length cap) D :=
  ⟨by simp, Or.inr ⟨g, cap, _, rfl, hb, h, by omega, by unfold maxLen; omega, by simp; omega, by rw [Nat.mul_one, List.take_left' (by simp)]⟩⟩

theorem BRow.conv {w : World} {g cap : Nat} {D : List Nat} {R : List Value} (h : BRow w g D R) (hd : ∀ c, c ∈ D → c < 256) :
    (convert 71 9 (.slice (some ⟨g, 0, none⟩) D.length cap)).run Tryd.prog w = .ok (.string (bs D)) w := by
  have e : (D.map (fun n => UInt8.ofNat n)).length = D.length := by simp
  have := run_convert_bytes_back (P := Tryd.prog) w 71 9 5 ⟨g, 0, none⟩ cap (D.map (fun n => UInt8.ofNat n)) Tryd.underlying71 Tryd.underlying5 Tryd.underlying9 ?_
  · rw [e] at this; exact this
  · intro i hi
    rw [e] at hi
    rw [Addr.add_lit, Nat.zero_add, h.cell i hi]
    have h1 := hd D[i] (List.getElem_mem hi)
    simp [List.getD, hi]
    omega

end Go.Proofs.YtpeganecbjefoaaDoor
