/- Parse, of the text of z. -/
import Derived.Test.YtpjlhpopoacjdaaDoorPars
namespace Go.Proofs.YtpjlhpopoacjdaaDoor
open Go.RowKit

theorem bs_data (T : List Nat) : (bs T).data.toList = T.map (fun n => UInt8.ofNat n) := by simp [bs]

theorem bs_get (T : List Nat) (h256 : ∀ c, c ∈ T → c < 256) (k : Nat) (h : k < (bs T).size) : ((bs T)[k]'h).toNat = T.getD k 0 := by
  have hk : k < T.length := by rw [bs_size] at h; exact h
  have h1 := h256 T[k] (List.getElem_mem hk)
  have e : (bs T)[k]'h = UInt8.ofNat T[k] := by
    show (bs T).data[k]'_ = _
    simp [bs]
  rw [e, List.getD_eq_getElem?_getD, List.getElem?_eq_getElem hk]
  simp
  omega

theorem bytes_ext {s t : ByteArray} (h : s.data.toList = t.data.toList) : s = t := by
  cases s; cases t
  congr 1
  exact Array.toList_inj.1 h

theorem bs_cut (H : List Nat) : (bs (45 :: H)).extract 1 (bs (45 :: H)).size = bs H := by
  apply bytes_ext
  rw [Lib.extract_data, bs_data, bs_data, bs_size]
  simp only [List.map_cons, List.drop_succ_cons, List.drop_zero, List.length_cons, Nat.add_sub_cancel]
  rw [List.take_of_length_le (by simp)]

theorem bs_head (c : Nat) (H : List Nat) (hc : c < 256) : (((bs (c :: H)).extract 0 1).toList == [45]) = decide (c = 45) := by
  rw [Lib.extract_toList, bs_data]
  simp only [List.map_cons, List.drop_zero, List.take_succ_cons, Nat.sub_zero, List.take_zero]
  rw [Bool.eq_iff_iff]
  simp only [beq_iff_eq, List.cons.injEq, and_true, decide_eq_true_eq]
  constructor
  · intro h
    have := congrArg UInt8.toNat h
    simp at this
    omega
  · intro h; subst h; rfl

theorem IsDec.parts {H : List Nat} {n : Nat} (h : IsDec H n) (hn : n < 4294967296 ^ 32) : IsDig H ∧ dval H.reverse = n ∧ 0 < H.length ∧ H.length ≤ 400 ∧ (H.getD 0 0 ≠ 48 ∨ H = [48]) := by
  rcases h with ⟨rfl, rfl⟩ | ⟨h0, h1⟩
  · exact ⟨fun c hc => by simp at hc; omega, by simp [dval], by simp, by simp, Or.inr rfl⟩
  · have hne : H ≠ [] := fun e => by
      subst e
      have := h1.eq
      simp [dval] at this; omega
    have hd : IsDig H := fun c hc => h1.dig c (List.mem_reverse.2 hc)
    have hpos : 0 < H.length := by cases H with | nil => exact absurd rfl hne | cons x t => simp
    refine ⟨hd, h1.eq, hpos, ?_, Or.inl ?_⟩
    · -- the top digit counts
      cases H with
      | nil => exact absurd rfl hne
      | cons c t =>
        have hc := hd c List.mem_cons_self
        have htop := h1.top c (by simp)
        have he := h1.eq
        rw [List.reverse_cons, dval_append] at he
        have h2 : dval [c] = c - 48 := by simp [dval]
        rw [h2] at he
        have h3 : 10 ^ t.reverse.length * 1 ≤ 10 ^ t.reverse.length * (c - 48) := Nat.mul_le_mul_left _ (by omega)
        have h4 : (4294967296 : Nat) ^ 32 < 10 ^ 309 := by decide +kernel
        have h5 : 10 ^ t.reverse.length < 10 ^ 309 := by
          rw [Nat.mul_one] at h3
          exact Nat.lt_of_le_of_lt (Nat.le_trans h3 (by rw [← he]; exact Nat.le_add_left _ _)) (Nat.lt_trans hn h4)
        have h6 := (Nat.pow_lt_pow_iff_right (a := 10) (by decide)).1 h5
        rw [List.length_reverse] at h6
        rw [List.length_cons]; omega
    · cases H with
      | nil => exact absurd rfl hne
      | cons c t =>
        have htop := h1.top c (by simp)
        simpa using htop

/-- Parse, of the text of z. -/
theorem Parse_any (T : List Nat) (z : Int) (w : World) (hT : IsText T z) (hz : z.natAbs < 4294967296 ^ 32) :
    Calls Tryd.prog 28 #[.string (bs T)] w fun e w' => Res w' e z ∧ Upd [] w w' := by
  obtain ⟨H, rfl, hH⟩ := hT
  obtain ⟨hd, hv, hl, hl2, hf⟩ := hH.parts hz
  have h256 : ∀ c, c ∈ H → c < 256 := fun c hc => by have := hd c hc; omega
  by_cases hn : z < 0
  · rw [if_pos hn]
    have hsg : sg true z.natAbs = z := by simp [sg]; omega
    have := Parse_core (bs (45 :: H)) (bs H) H z.natAbs true w (by rw [bs_size, List.length_cons]; omega) (by rw [bs_size]; simp) (bs_size H) (bs_get H h256) hd hl (by omega) hv hz ?_ (Or.inl ?_)
    · rw [hsg] at this; exact this
    · intro W
      refine (Cut_any (bs (45 :: H)) W (by rw [bs_size, List.length_cons]; omega) (by rw [bs_size]; simp)).mono ?_
      rintro e w' ⟨h1, h2⟩
      rw [bs_head 45 H (by decide), bs_cut] at h2
      rcases h2 with ⟨_, h2⟩ | ⟨h2, _⟩
      · exact ⟨h1, h2⟩
      · simp at h2
    · rcases hf with hf | hf
      · exact hf
      · subst hf
        simp [dval] at hv; omega
  · rw [if_neg hn]
    have hsg : sg false z.natAbs = z := by simp [sg]; omega
    have hb : (((bs H).extract 0 1).toList == [45]) = false := by
      cases H with
      | nil => simp at hl
      | cons c t =>
        have hc := hd c List.mem_cons_self
        rw [bs_head c t (by omega)]
        simp; omega
    have := Parse_core (bs H) (bs H) H z.natAbs false w (by rw [bs_size]; omega) (by rw [bs_size]; exact hl) (bs_size H) (bs_get H h256) hd hl (by omega) hv hz ?_ ?_
    · rw [hsg] at this; exact this
    · intro W
      refine (Cut_any (bs H) W (by rw [bs_size]; omega) (by rw [bs_size]; exact hl)).mono ?_
      rintro e w' ⟨h1, h2⟩
      rw [hb] at h2
      rcases h2 with ⟨h2, _⟩ | ⟨_, h2⟩
      · cases h2
      · exact ⟨h1, h2⟩
    · rcases hf with hf | hf
      · exact Or.inl hf
      · subst hf
        refine Or.inr ?_
        rw [Lib.toList_data, bs_data]
        rfl

end Go.Proofs.YtpjlhpopoacjdaaDoor
