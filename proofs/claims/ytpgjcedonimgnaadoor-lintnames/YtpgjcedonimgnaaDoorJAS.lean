/- A right tree has what the check looks for. -/
import Derived.Test.YtpgjcedonimgnaaDoorGnB

namespace Go.Proofs.YtpgjcedonimgnaaDoor
open Go.RowKit

theorem list3 {α : Type} {l : List α} (h : l.length = 3) : ∃ a b c, l = [a, b, c] := by
  match l, h with
  | [a, b, c], _ => exact ⟨a, b, c, rfl⟩
theorem list2 {α : Type} {l : List α} (h : l.length = 2) : ∃ a b, l = [a, b] := by
  match l, h with
  | [a, b], _ => exact ⟨a, b, rfl⟩
theorem shIs_all : ∀ (K : List Nd), (∀ i (hi : i < K.length), shI K[i] = true) → shIs K = true
  | [], _ => by rw [shIs]
  | n :: K, h => by rw [shIs, Bool.and_eq_true]; exact ⟨h 0 (by simp), shIs_all K fun i hi => h (i + 1) (by simpa using hi)⟩
theorem shCs_all : ∀ (K : List Nd), (∀ i (hi : i < K.length), shC K[i] = true) → shCs K = true
  | [], _ => by rw [shCs]
  | n :: K, h => by rw [shCs, Bool.and_eq_true]; exact ⟨h 0 (by simp), shCs_all K fun i hi => h (i + 1) (by simpa using hi)⟩
theorem shBs_all : ∀ (K : List Nd), (∀ i (hi : i < K.length), shB K[i] = true) → shBs K = true
  | [], _ => by rw [shBs]
  | n :: K, h => by rw [shBs, Bool.and_eq_true]; exact ⟨h 0 (by simp), shBs_all K fun i hi => h (i + 1) (by simpa using hi)⟩
theorem shRs_all : ∀ (m : Nat) (K : List Nd), (∀ i (hi : i < K.length), if i < m then shC K[i] = true else shA K[i] = true) → shRs m K = true
  | _, [], _ => by simp [shRs]
  | 0, n :: K, h => by
    rw [shRs, Bool.and_eq_true]
    exact ⟨by have := h 0 (by simp); rw [if_neg (by omega)] at this; exact this, shRs_all 0 K fun i hi => by
      have := h (i + 1) (by simpa using hi)
      rw [if_neg (by omega)] at this ⊢
      exact this⟩
  | m + 1, n :: K, h => by
    rw [shRs, Bool.and_eq_true]
    exact ⟨by have := h 0 (by simp); rw [if_pos (by omega)] at this; exact this, shRs_all m K fun i hi => by
      have := h (i + 1) (by simpa using hi)
      by_cases e : i < m
      · rw [if_pos (by omega)] at this; rw [if_pos e]; exact this
      · rw [if_neg (by omega)] at this; rw [if_neg e]; exact this⟩
theorem rol_two (a b : Int) (i : Nat) : rol [a, b] i = a ∨ rol [a, b] i = b := by
  cases i with
  | zero => left; simp [rol]
  | succ i => right; simp [rol]
/-- What a role says of a tree. -/
def ShOf (r : Int) (t : Nd) : Bool :=
  if r = 0 ∨ r = 17 ∨ r = 15 ∨ r = 14 then shI t
  else if r = 3 ∨ r = 4 ∨ r = 5 ∨ r = 6 ∨ r = 13 then shB t
  else if r = 7 ∨ r = 8 then shG t
  else if r = 9 ∨ r = 10 ∨ r = 11 ∨ r = 12 then shC t
  else if r = 16 then (if t.kd = 15 then shA t else shC t)
  else true
theorem kdAll_get {k0 : Int} {K : List Nd} (h : kdAll k0 K = true) (i : Nat) (hi : i < K.length) : K[i].kd = k0 := by
  have := List.all_eq_true.1 h K[i] (List.getElem_mem hi)
  simpa using this
theorem sh16_of {t : Nd} (h : ShOf 16 t = true) : (t.kd = 15 → shA t = true) ∧ (t.kd ≠ 15 → shC t = true) := by
  simp [ShOf] at h
  constructor
  · intro e; simpa [e] using h
  · intro e; simpa [e] using h
theorem sh14_ok (num : Int) (s : ByteArray) (pos : Int) (K : List Nd) (h0 : 1 ≤ K.length) (hf : fldB (.mk 14 s num pos K) = true) (h : ∀ i (hi : i < K.length), ShOf 16 K[i] = true) : shI (.mk 14 s num pos K) = true := by
  rw [fldB, Bool.and_eq_true, Bool.and_eq_true] at hf
  have hm := hf.2.2
  rw [nmB, if_neg (by omega), if_neg (by omega), if_pos rfl] at hm
  rw [shI, if_neg (by omega), if_neg (by omega), if_neg (by omega), if_neg (by omega), if_neg (by omega), if_pos rfl, Bool.and_eq_true]
  by_cases e0 : num = 0
  · subst e0
    rw [if_pos rfl, brB, Bool.and_eq_true] at hm
    refine ⟨by simp, shRs_all _ _ fun i hi => ?_⟩
    have hk := kdAll_get hm.1 i (by simpa using hi)
    simp at hk
    rw [if_pos (by simpa using hi)]
    exact (sh16_of (h i hi)).2 (by rw [hk]; decide)
  · rw [if_neg e0] at hm
    by_cases e1 : num = 1
    · subst e1
      rw [if_pos rfl, brB, Bool.and_eq_true] at hm
      refine ⟨by simp; omega, shRs_all _ _ fun i hi => ?_⟩
      by_cases hl : i < K.length - 1
      · have hk := kdAll_get hm.1 i (by simp; omega)
        simp at hk
        rw [if_pos (by simpa using hl)]
        exact (sh16_of (h i hi)).2 (by rw [hk]; decide)
      · have hk := kdAll_get hm.2 0 (by simp; omega)
        have ei : i = K.length - 1 := by omega
        subst ei
        simp at hk
        rw [if_neg (by simp)]
        exact (sh16_of (h _ hi)).1 hk
    · rw [if_neg e1] at hm
      cases hm
theorem form_of {k r : Int} {f : Fm} (h : formAt k r = some f) : f ∈ formsL ∧ f.ro = (if r = 17 ∧ k ≠ 18 then 0 else r) ∧ f.kd = k := by
  refine ⟨List.mem_of_find?_eq_some h, ?_⟩
  have := List.find?_some h
  rw [Bool.and_eq_true, beq_iff_eq, beq_iff_eq] at this
  exact this
theorem ShOf_up {k r : Int} {t : Nd} (h : ShOf (if r = 17 ∧ k ≠ 18 then 0 else r) t = true) : ShOf r t = true := by
  by_cases e : r = 17 ∧ k ≠ 18
  · rw [if_pos e] at h
    rw [e.1]
    simpa [ShOf] using h
  · rw [if_neg e] at h
    exact h
set_option maxHeartbeats 4000000 in
theorem sh_step {s : ByteArray} {num pos : Int} {K : List Nd} {f : Fm} (hm : f ∈ formsL) (hn : kidsN f K.length = true) (hfl : fldB (.mk f.kd s num pos K) = true) (ih : ∀ i (hi : i < K.length), ShOf (rol f.ks i) K[i] = true) : ShOf f.ro (.mk f.kd s num pos K) = true ∧ callOk (.mk f.kd s num pos K) = true := by
  simp only [formsL, List.mem_cons, List.not_mem_nil, or_false] at hm
  rcases hm with rfl | rfl | rfl | rfl | rfl | rfl | rfl | rfl | rfl | rfl | rfl | rfl | rfl | rfl | rfl | rfl | rfl | rfl | rfl | rfl | rfl | rfl | rfl | rfl | rfl | rfl | rfl | rfl | rfl | rfl | rfl | rfl | rfl | rfl | rfl | rfl
  · simp only [kidsN, List.length_nil, Bool.or_false, Bool.and_eq_true, decide_eq_true_eq] at hn
    refine ⟨?_, by simp [callOk, Nd.kd, Nd.kids]⟩
    simp [ShOf, shI]
    exact shIs_all K (fun i hi => by have h := ih i hi; rw [show rol [] i = 0 from by simp [rol]] at h; simpa [ShOf] using h)
  · simp only [kidsN, List.length_nil, Bool.or_false, Bool.and_eq_true, decide_eq_true_eq] at hn
    refine ⟨?_, by simp [callOk, Nd.kd, Nd.kids]⟩
    simp [ShOf, shI]
    exact shIs_all K (fun i hi => by have h := ih i hi; rw [show rol [] i = 0 from by simp [rol]] at h; simpa [ShOf] using h)
  · simp only [kidsN, List.length_nil, Bool.or_false, Bool.and_eq_true, decide_eq_true_eq] at hn
    refine ⟨?_, by simp [callOk, Nd.kd, Nd.kids]⟩
    simp [ShOf, shI]
    exact shIs_all K (fun i hi => by have h := ih i hi; rw [show rol [] i = 0 from by simp [rol]] at h; simpa [ShOf] using h)
  · simp only [kidsN, List.length_nil, Bool.or_false, Bool.and_eq_true, decide_eq_true_eq] at hn
    refine ⟨?_, by simp [callOk, Nd.kd, Nd.kids]⟩
    simp [ShOf, shI]
    exact shIs_all K (fun i hi => by have h := ih i hi; rw [show rol [] i = 0 from by simp [rol]] at h; simpa [ShOf] using h)
  · simp only [kidsN, List.length_cons, List.length_nil, Bool.or_true, Bool.and_true, decide_eq_true_eq] at hn
    refine ⟨?_, by simp [callOk, Nd.kd, Nd.kids]⟩
    simp [ShOf, shI]
    exact shIs_all K (fun i hi => by have h := ih i hi; rw [show rol [0] i = 0 from by simp [rol]] at h; simpa [ShOf] using h)
  · simp only [kidsN, List.length_cons, List.length_nil, Bool.or_true, Bool.and_true, decide_eq_true_eq] at hn
    refine ⟨?_, by simp [callOk, Nd.kd, Nd.kids]⟩
    simp [ShOf, shI]
    exact shIs_all K (fun i hi => by have h := ih i hi; rw [show rol [0] i = 0 from by simp [rol]] at h; simpa [ShOf] using h)
  · simp only [kidsN, List.length_cons, List.length_nil, Bool.or_false, Bool.and_eq_true, decide_eq_true_eq] at hn
    refine ⟨?_, by simp [callOk, Nd.kd, Nd.kids]⟩
    simp [ShOf, shI]
    exact shIs_all K (fun i hi => by have h := ih i hi; rcases (rol_two 0 0 i) with e | e <;> (rw [e] at h; simpa [ShOf] using h))
  · simp only [kidsN, List.length_cons, List.length_nil, Bool.or_false, Bool.and_eq_true, decide_eq_true_eq] at hn
    refine ⟨?_, by simp [callOk, Nd.kd, Nd.kids]⟩
    simp [ShOf, shI]
    exact ⟨by first | omega | exact List.ne_nil_of_length_pos (by omega), shIs_all K (fun i hi => by have h := ih i hi; rcases (rol_two 0 0 i) with e | e <;> (rw [e] at h; simpa [ShOf] using h))⟩
  · simp only [kidsN, List.length_cons, List.length_nil, Bool.or_true, Bool.and_true, decide_eq_true_eq] at hn
    refine ⟨?_, by simp only [callOk, Nd.kd, Nd.kids, Bool.or_eq_true]; exact Or.inr (decide_eq_true (Nat.lt_of_lt_of_le Nat.zero_lt_one hn))⟩
    simp [ShOf, shI]
    exact ⟨by first | omega | exact List.ne_nil_of_length_pos (by omega), shIs_all K (fun i hi => by have h := ih i hi; rw [show rol [0] i = 0 from by simp [rol]] at h; simpa [ShOf] using h)⟩
  · simp only [kidsN, List.length_cons, List.length_nil, Bool.or_true, Bool.and_true, decide_eq_true_eq] at hn
    refine ⟨?_, by simp [callOk, Nd.kd, Nd.kids]⟩
    simp [ShOf, shI]
    exact ⟨by first | omega | exact List.ne_nil_of_length_pos (by omega), shCs_all K (fun i hi => by have h := ih i hi; rw [show rol [9] i = 9 from by simp [rol]] at h; simpa [ShOf] using h)⟩
  · simp only [kidsN, List.length_nil, Bool.or_false, Bool.and_eq_true, decide_eq_true_eq] at hn
    refine ⟨?_, by simp [callOk, Nd.kd, Nd.kids]⟩
    simp [ShOf, shI]
    exact shIs_all K (fun i hi => by have h := ih i hi; rw [show rol [] i = 0 from by simp [rol]] at h; simpa [ShOf] using h)
  · simp only [kidsN, List.length_cons, List.length_nil, Bool.or_true, Bool.and_true, decide_eq_true_eq] at hn
    refine ⟨?_, by simp [callOk, Nd.kd, Nd.kids]⟩
    match K, hn, ih with
    | [], hn, _ => simp at hn
    | n :: L, _, ih =>
      have h0 := ih 0 (by simp)
      have hL : shCs L = true := shCs_all L (fun i hi => by have h := ih (i + 1) (by simpa using hi); rw [show rol [0, 10] (i + 1) = 10 from by simp [rol]] at h; simpa [ShOf] using h)
      rw [show rol [0, 10] 0 = 0 from by simp [rol]] at h0
      simp [ShOf] at h0
      simp [ShOf, shI, sh12]
      exact ⟨h0, hL⟩
  · simp only [kidsN, List.length_cons, List.length_nil, Bool.or_true, Bool.and_true, decide_eq_true_eq] at hn
    refine ⟨?_, by simp [callOk, Nd.kd, Nd.kids]⟩
    simp [ShOf, shI]
    exact shCs_all K (fun i hi => by have h := ih i hi; rw [show rol [11] i = 11 from by simp [rol]] at h; simpa [ShOf] using h)
  · simp only [kidsN, List.length_cons, List.length_nil, Bool.or_true, Bool.and_true, decide_eq_true_eq] at hn
    refine ⟨?_, by simp [callOk, Nd.kd, Nd.kids]⟩
    simp only [ShOf, shI]
    exact sh14_ok num s pos K (by omega) hfl (fun i hi => by have h := ih i hi; rw [show rol [16] i = 16 from by simp [rol]] at h; exact h)
  · simp only [kidsN, List.length_cons, List.length_nil, Bool.or_true, Bool.and_true, decide_eq_true_eq] at hn
    refine ⟨?_, by simp [callOk, Nd.kd, Nd.kids]⟩
    match K, hn, ih with
    | [], hn, _ => simp at hn
    | n :: L, _, ih =>
      have h0 := ih 0 (by simp)
      have hL : shCs L = true := shCs_all L (fun i hi => by have h := ih (i + 1) (by simpa using hi); rw [show rol [3, 12] (i + 1) = 12 from by simp [rol]] at h; simpa [ShOf] using h)
      rw [show rol [3, 12] 0 = 3 from by simp [rol]] at h0
      simp [ShOf] at h0
      simp [ShOf, shI, sh16]
      exact ⟨h0, hL⟩
  · simp only [kidsN, List.length_cons, List.length_nil, Bool.or_true, Bool.and_true, decide_eq_true_eq] at hn
    refine ⟨?_, by simp [callOk, Nd.kd, Nd.kids]⟩
    match K, hn, ih with
    | [], hn, _ => simp at hn
    | n :: L, _, ih =>
      have h0 := ih 0 (by simp)
      have hL : shIs L = true := shIs_all L (fun i hi => by have h := ih (i + 1) (by simpa using hi); rw [show rol [0, 17] (i + 1) = 17 from by simp [rol]] at h; simpa [ShOf] using h)
      rw [show rol [0, 17] 0 = 0 from by simp [rol]] at h0
      simp [ShOf] at h0
      simp [ShOf, shI, sh17]
      exact ⟨h0, hL⟩
  · simp only [kidsN, List.length_cons, List.length_nil, Bool.or_true, Bool.and_true, decide_eq_true_eq] at hn
    refine ⟨?_, by simp [callOk, Nd.kd, Nd.kids]⟩
    simp [ShOf, shI]
    exact shIs_all K (fun i hi => by have h := ih i hi; rw [show rol [0] i = 0 from by simp [rol]] at h; simpa [ShOf] using h)
  · simp only [kidsN, List.length_cons, List.length_nil, Bool.or_true, Bool.and_true, decide_eq_true_eq] at hn
    refine ⟨?_, by simp [callOk, Nd.kd, Nd.kids]⟩
    simp [ShOf]
  · simp only [kidsN, List.length_cons, List.length_nil, Bool.or_true, Bool.and_true, decide_eq_true_eq] at hn
    refine ⟨?_, by simp [callOk, Nd.kd, Nd.kids]⟩
    simp [ShOf]
  · simp only [kidsN, List.length_cons, List.length_nil, Bool.or_true, Bool.and_true, decide_eq_true_eq] at hn
    refine ⟨?_, by simp [callOk, Nd.kd, Nd.kids]⟩
    simp [ShOf, shB]
    exact shIs_all K (fun i hi => by have h := ih i hi; rw [show rol [0] i = 0 from by simp [rol]] at h; simpa [ShOf] using h)
  · simp only [kidsN, List.length_cons, List.length_nil, Bool.or_true, Bool.and_true, decide_eq_true_eq] at hn
    refine ⟨?_, by simp [callOk, Nd.kd, Nd.kids]⟩
    simp [ShOf, shB]
    exact shIs_all K (fun i hi => by have h := ih i hi; rw [show rol [0] i = 0 from by simp [rol]] at h; simpa [ShOf] using h)
  · simp only [kidsN, List.length_cons, List.length_nil, Bool.or_false, Bool.and_eq_true, decide_eq_true_eq] at hn
    refine ⟨?_, by simp [callOk, Nd.kd, Nd.kids]⟩
    simp [ShOf, shB]
    exact shIs_all K (fun i hi => by have h := ih i hi; rw [show rol [0] i = 0 from by simp [rol]] at h; simpa [ShOf] using h)
  · simp only [kidsN, List.length_nil, Bool.or_false, Bool.and_eq_true, decide_eq_true_eq] at hn
    refine ⟨?_, by simp [callOk, Nd.kd, Nd.kids]⟩
    simp [ShOf, shB]
    exact shIs_all K (fun i hi => by have h := ih i hi; rw [show rol [] i = 0 from by simp [rol]] at h; simpa [ShOf] using h)
  · simp only [kidsN, List.length_cons, List.length_nil, Bool.or_true, Bool.and_true, decide_eq_true_eq] at hn
    refine ⟨?_, by simp [callOk, Nd.kd, Nd.kids]⟩
    simp [ShOf, shG]
    exact shBs_all K (fun i hi => by have h := ih i hi; rw [show rol [3] i = 3 from by simp [rol]] at h; simpa [ShOf] using h)
  · simp only [kidsN, List.length_cons, List.length_nil, Bool.or_true, Bool.and_true, decide_eq_true_eq] at hn
    refine ⟨?_, by simp [callOk, Nd.kd, Nd.kids]⟩
    simp [ShOf, shG]
    exact shBs_all K (fun i hi => by have h := ih i hi; rw [show rol [3] i = 3 from by simp [rol]] at h; simpa [ShOf] using h)
  · simp only [kidsN, List.length_cons, List.length_nil, Bool.or_false, Bool.and_eq_true, decide_eq_true_eq] at hn
    refine ⟨?_, by simp [callOk, Nd.kd, Nd.kids]⟩
    obtain ⟨P, G, B, rfl⟩ := list3 (l := K) (by omega)
    have h0 := ih 0 (by simp)
    have h1 := ih 1 (by simp)
    have h2 := ih 2 (by simp)
    rw [show rol [4, 7, 3] 0 = 4 from by simp [rol]] at h0
    rw [show rol [4, 7, 3] 1 = 7 from by simp [rol]] at h1
    rw [show rol [4, 7, 3] 2 = 3 from by simp [rol]] at h2
    simp [ShOf] at h0 h1 h2
    simp [ShOf, shC, h0, h1, h2]
  · simp only [kidsN, List.length_cons, List.length_nil, Bool.or_false, Bool.and_eq_true, decide_eq_true_eq] at hn
    refine ⟨?_, by simp [callOk, Nd.kd, Nd.kids]⟩
    obtain ⟨P, G, B, rfl⟩ := list3 (l := K) (by omega)
    have h0 := ih 0 (by simp)
    have h1 := ih 1 (by simp)
    have h2 := ih 2 (by simp)
    rw [show rol [5, 7, 3] 0 = 5 from by simp [rol]] at h0
    rw [show rol [5, 7, 3] 1 = 7 from by simp [rol]] at h1
    rw [show rol [5, 7, 3] 2 = 3 from by simp [rol]] at h2
    simp [ShOf] at h0 h1 h2
    simp [ShOf, shC, h0, h1, h2]
  · simp only [kidsN, List.length_cons, List.length_nil, Bool.or_false, Bool.and_eq_true, decide_eq_true_eq] at hn
    refine ⟨?_, by simp [callOk, Nd.kd, Nd.kids]⟩
    obtain ⟨P, G, B, rfl⟩ := list3 (l := K) (by omega)
    have h0 := ih 0 (by simp)
    have h1 := ih 1 (by simp)
    have h2 := ih 2 (by simp)
    rw [show rol [6, 8, 3] 0 = 6 from by simp [rol]] at h0
    rw [show rol [6, 8, 3] 1 = 8 from by simp [rol]] at h1
    rw [show rol [6, 8, 3] 2 = 3 from by simp [rol]] at h2
    simp [ShOf] at h0 h1 h2
    simp [ShOf, shC, h0, h1, h2]
  · simp only [kidsN, List.length_cons, List.length_nil, Bool.or_false, Bool.and_eq_true, decide_eq_true_eq] at hn
    refine ⟨?_, by simp [callOk, Nd.kd, Nd.kids]⟩
    obtain ⟨P, G, B, rfl⟩ := list3 (l := K) (by omega)
    have h0 := ih 0 (by simp)
    have h1 := ih 1 (by simp)
    have h2 := ih 2 (by simp)
    rw [show rol [13, 7, 3] 0 = 13 from by simp [rol]] at h0
    rw [show rol [13, 7, 3] 1 = 7 from by simp [rol]] at h1
    rw [show rol [13, 7, 3] 2 = 3 from by simp [rol]] at h2
    simp [ShOf] at h0 h1 h2
    simp [ShOf, shC, h0, h1, h2]
  · simp only [kidsN, List.length_cons, List.length_nil, Bool.or_false, Bool.and_eq_true, decide_eq_true_eq] at hn
    refine ⟨?_, by simp [callOk, Nd.kd, Nd.kids]⟩
    simp [ShOf, shB]
    exact shIs_all K (fun i hi => by have h := ih i hi; rw [show rol [14] i = 14 from by simp [rol]] at h; simpa [ShOf] using h)
  · simp only [kidsN, List.length_cons, List.length_nil, Bool.or_false, Bool.and_eq_true, decide_eq_true_eq] at hn
    refine ⟨?_, by simp [callOk, Nd.kd, Nd.kids]⟩
    simp [ShOf, shI]
    exact shIs_all K (fun i hi => by have h := ih i hi; rcases (rol_two 15 0 i) with e | e <;> (rw [e] at h; simpa [ShOf] using h))
  · simp only [kidsN, List.length_nil, Bool.or_false, Bool.and_eq_true, decide_eq_true_eq] at hn
    refine ⟨?_, by simp [callOk, Nd.kd, Nd.kids]⟩
    simp [ShOf, shI]
    exact shIs_all K (fun i hi => by have h := ih i hi; rw [show rol [] i = 0 from by simp [rol]] at h; simpa [ShOf] using h)
  · simp only [kidsN, List.length_nil, Bool.or_false, Bool.and_eq_true, decide_eq_true_eq] at hn
    refine ⟨?_, by simp [callOk, Nd.kd, Nd.kids]⟩
    simp [ShOf, shI]
    exact shIs_all K (fun i hi => by have h := ih i hi; rw [show rol [] i = 0 from by simp [rol]] at h; simpa [ShOf] using h)
  · simp only [kidsN, List.length_cons, List.length_nil, Bool.or_false, Bool.and_eq_true, decide_eq_true_eq] at hn
    refine ⟨?_, by simp [callOk, Nd.kd, Nd.kids]⟩
    obtain ⟨P, G, B, rfl⟩ := list3 (l := K) (by omega)
    have h0 := ih 0 (by simp)
    have h1 := ih 1 (by simp)
    have h2 := ih 2 (by simp)
    rw [show rol [5, 7, 3] 0 = 5 from by simp [rol]] at h0
    rw [show rol [5, 7, 3] 1 = 7 from by simp [rol]] at h1
    rw [show rol [5, 7, 3] 2 = 3 from by simp [rol]] at h2
    simp [ShOf] at h0 h1 h2
    simp [ShOf, shC, Nd.kd, h0, h1, h2]
  · simp only [kidsN, List.length_cons, List.length_nil, Bool.or_false, Bool.and_eq_true, decide_eq_true_eq] at hn
    refine ⟨?_, by simp [callOk, Nd.kd, Nd.kids]⟩
    obtain ⟨e, B, rfl⟩ := list2 (l := K) (by omega)
    have h0 := ih 0 (by simp)
    have h1 := ih 1 (by simp)
    rw [show rol [0, 3] 0 = 0 from by simp [rol]] at h0
    rw [show rol [0, 3] 1 = 3 from by simp [rol]] at h1
    simp [ShOf] at h0 h1
    simp [ShOf, shA, Nd.kd, h0, h1]
  · simp only [kidsN, List.length_cons, List.length_nil, Bool.or_false, Bool.and_eq_true, decide_eq_true_eq] at hn
    refine ⟨?_, by simp [callOk, Nd.kd, Nd.kids]⟩
    simp [ShOf, shI]
    exact ⟨by first | omega | exact List.ne_nil_of_length_pos (by omega), shIs_all K (fun i hi => by have h := ih i hi; rcases (rol_two 0 0 i) with e | e <;> (rw [e] at h; simpa [ShOf] using h))⟩

theorem sh_all : ∀ (n : Nat) (t : Nd), SizeOf.sizeOf t ≤ n → ∀ r, isB r t = true → ShOf r t = true ∧ thru callOk t = true := by
  intro n
  induction n with
  | zero => intro t h; cases t; simp at h
  | succ n ihn =>
    intro t hz r hb
    obtain ⟨k, s, num, pos, K⟩ := t
    rw [isB] at hb
    cases hf : formAt k r with
    | none => rw [hf] at hb; cases hb
    | some f =>
      rw [hf] at hb
      simp only [Bool.and_eq_true] at hb
      obtain ⟨hn, hr, hfl⟩ := hb
      obtain ⟨hm, hro, hkd⟩ := form_of hf
      have hk := (isR_iff f.ks K).1 hr
      have hi : ∀ i (hi : i < K.length), ShOf (rol f.ks i) K[i] = true ∧ thru callOk K[i] = true := fun i hi => ihn K[i] (by
        have := List.sizeOf_lt_of_mem (List.getElem_mem hi)
        simp at hz
        omega) _ (hk i hi)
      subst hkd
      obtain ⟨h1, h2⟩ := sh_step hm hn hfl (fun i h => (hi i h).1)
      rw [hro] at h1
      refine ⟨ShOf_up h1, ?_⟩
      rw [thru, Bool.and_eq_true]
      exact ⟨h2, thrus_all callOk K fun i h => (hi i h).2⟩
/-- What a right module's functions are. -/
theorem mod_ok {s : ByteArray} {num pos : Int} {K : List Nd} (hr : rgtB (.mk 22 s num pos K) = true) (hz : nsz (.mk 22 s num pos K) ≤ 2199023255488) : ∀ i (hi : i < K.length), K[i].kids.length ≤ 2199023255488 ∧ ∀ j (hj : j < K[i].kids.length), Okk shC K[i].kids[j] := by
  rw [rgtB, Bool.and_eq_true, Bool.or_eq_true] at hr
  have h1 : isB 1 (.mk 22 s num pos K) = true := by
    rcases hr.2 with h | h
    · rw [isB, show formAt 22 0 = none from by decide] at h
      cases h
    · exact h
  rw [isB, show formAt 22 1 = some ⟨1, 22, 0, [2], true⟩ from by rfl] at h1
  simp only [Bool.and_eq_true] at h1
  have hk := (isR_iff [2] K).1 h1.2.1
  intro i hi
  have hz1 : nszs K ≤ 2199023255488 := by simpa [nsz] using hz
  have hz2 := Nat.le_trans (nszs_get K i hi) hz1
  have h2 := hk i hi
  rw [show rol [2] i = 2 from by simp [rol]] at h2
  cases hq : K[i] with
  | mk k1 s1 n1 p1 K1 =>
    rw [hq] at h2 hz2
    rw [isB] at h2
    cases hf : formAt k1 2 with
    | none => rw [hf] at h2; cases h2
    | some f =>
      rw [hf] at h2
      obtain ⟨hm, hro, hkd⟩ := form_of hf
      simp at hro
      have hks : f.ks = [9] := by
        simp only [formsL, List.mem_cons, List.not_mem_nil, or_false] at hm
        rcases hm with rfl | rfl | rfl | rfl | rfl | rfl | rfl | rfl | rfl | rfl | rfl | rfl | rfl | rfl | rfl | rfl | rfl | rfl | rfl | rfl | rfl | rfl | rfl | rfl | rfl | rfl | rfl | rfl | rfl | rfl | rfl | rfl | rfl | rfl | rfl | rfl <;> first | rfl | (simp at hro)
      simp only [Bool.and_eq_true] at h2
      have hk1 := (isR_iff f.ks K1).1 h2.2.1
      have hz3 : nszs K1 ≤ 2199023255488 := by simpa [nsz] using hz2
      refine ⟨Nat.le_trans (nszs_len K1) hz3, fun j hj => ?_⟩
      have h3 := hk1 j hj
      rw [hks, show rol [9] j = 9 from by simp [rol]] at h3
      obtain ⟨g1, g2⟩ := sh_all _ _ (Nat.le_refl _) 9 h3
      exact ⟨Nat.le_trans (nszs_get K1 j hj) hz3, (show shC K1[j] = true from by simpa [ShOf] using g1), g2⟩

end Go.Proofs.YtpgjcedonimgnaaDoor

/- More functions: what is no fault stays none. -/
namespace Go.Proofs.YtpgjcedonimgnaaDoor
open Go.RowKit

mutual
/-- Does a tree name a function? -/
def calB (s : ByteArray) (n : Int) : Nd → Bool
  | .mk k tx num _ K => (decide (k = 11 ∧ tx = s ∧ num = n) || (decide (k = 9 ∧ (K.length : Int) = n + 1) && (headAtom K && decide (headTxt K = s)))) || calBs s n K
def calBs (s : ByteArray) (n : Int) : List Nd → Bool
  | [] => false
  | t :: K => calB s n t || calBs s n K
end
theorem calBs_mem {s : ByteArray} {n : Int} {t : Nd} : ∀ {K : List Nd}, t ∈ K → calB s n t = true → calBs s n K = true
  | x :: K, hm, h => by
    rw [calBs, Bool.or_eq_true]
    rcases List.mem_cons.1 hm with e | hm
    · left; rw [← e]; exact h
    · right; exact calBs_mem hm h
/-- A tree within another one. -/
def Bel (t t' : Nd) : Prop := SizeOf.sizeOf t < SizeOf.sizeOf t' ∧ ∀ s n, calB s n t = true → calB s n t' = true
theorem Bel.kid {k num pos : Int} {s : ByteArray} {K : List Nd} {t : Nd} (h : t ∈ K) : Bel t (.mk k s num pos K) :=
  ⟨by have := List.sizeOf_lt_of_mem h; simp; omega, fun a b hc => by rw [calB, Bool.or_eq_true]; right; exact calBs_mem h hc⟩
theorem Bel.kids {t t' : Nd} (h : t ∈ t'.kids) : Bel t t' := by
  obtain ⟨k, s, num, pos, K⟩ := t'
  exact Bel.kid h
theorem Bel.trans {a b c : Nd} (h : Bel a b) (h' : Bel b c) : Bel a c := ⟨Nat.lt_trans h.1 h'.1, fun s n hc => h'.2 s n (h.2 s n hc)⟩

section
variable (hs hs' : ByteArray → Int → Bool)
def MonE (t : Nd) : Prop := ∀ md r f g, exprF hs t md r f = .ok g → exprF hs' t md r f = .ok g
def MonB (t : Nd) : Prop := ∀ r f g, bodyF hs t r f = .ok g → bodyF hs' t r f = .ok g
def MonC (t : Nd) : Prop := ∀ r f g, clauseF hs t r f = .ok g → clauseF hs' t r f = .ok g
def MonA (t : Nd) : Prop := ∀ r f g, afterF hs t r f = .ok g → afterF hs' t r f = .ok g

theorem mon_exprs : ∀ (K : List Nd), (∀ t ∈ K, MonE hs hs' t) → ∀ r f g, exprsF hs K r f = .ok g → exprsF hs' K r f = .ok g
  | [], _, r, f, g, h => by rw [exprsF] at h ⊢; exact h
  | n :: K, hK, r, f, g, h => by
    rw [exprsF] at h ⊢
    cases hx : exprF hs n 0 r f with
    | error e => rw [hx] at h; cases h
    | ok f' => rw [hx] at h; rw [hK n (by simp) _ _ _ _ hx]; exact mon_exprs K (fun t ht => hK t (by simp [ht])) _ _ _ h
theorem mon_items : ∀ (K : List Nd), (∀ t ∈ K, MonE hs hs' t) → ∀ r f g, itemsF hs K r f = .ok g → itemsF hs' K r f = .ok g
  | [], _, r, f, g, h => by rw [itemsF] at h ⊢; exact h
  | n :: K, hK, r, f, g, h => by
    rw [itemsF] at h ⊢
    cases hx : exprF hs n 1 r f with
    | error e => rw [hx] at h; cases h
    | ok f' => rw [hx] at h; rw [hK n (by simp) _ _ _ _ hx]; exact mon_items K (fun t ht => hK t (by simp [ht])) _ _ _ h
theorem mon_steps : ∀ (K : List Nd), (∀ t ∈ K, MonE hs hs' t) → ∀ r f g, stepsF hs K r f = .ok g → stepsF hs' K r f = .ok g
  | [], _, r, f, g, h => by rw [stepsF] at h ⊢; exact h
  | n :: K, hK, r, f, g, h => by
    rw [stepsF] at h ⊢
    cases hx : exprF hs n 2 r f with
    | error e => rw [hx] at h; cases h
    | ok f' => rw [hx] at h; rw [hK n (by simp) _ _ _ _ hx]; exact mon_steps K (fun t ht => hK t (by simp [ht])) _ _ _ h
theorem mon_body {t : Nd} (h : ∀ x ∈ t.kids, MonE hs hs' x) : MonB hs hs' t := by
  obtain ⟨k, s, num, pos, K⟩ := t
  intro r f g hb
  rw [bodyF] at hb ⊢
  exact mon_items hs hs' K h r f g hb
theorem mon_clause {t : Nd} (h : ∀ x ∈ t.kids, MonB hs hs' x) : MonC hs hs' t := by
  obtain ⟨k, s, num, pos, K⟩ := t
  intro r f g hb
  match K, h, hb with
  | [P, G, B], h, hb =>
    rw [clauseF] at hb ⊢
    cases hp : patsF r P.kids f with
    | error e => rw [hp] at hb; cases hb
    | ok f' =>
      rw [hp] at hb
      simp only at hb ⊢
      cases hq : rowsF (f' :: r) G.kids with
      | some e => rw [hq] at hb; cases hb
      | none => rw [hq] at hb; exact h B (by simp [Nd.kids]) _ _ _ hb
  | [], _, hb => simpa [clauseF] using hb
  | [_], _, hb => simpa [clauseF] using hb
  | [_, _], _, hb => simpa [clauseF] using hb
  | _ :: _ :: _ :: _ :: _, _, hb => simpa [clauseF] using hb
theorem mon_heads : ∀ (K : List Nd), (∀ t ∈ K, MonC hs hs' t) → ∀ r f g, headsF hs K r f = .ok g → headsF hs' K r f = .ok g
  | [], _, r, f, g, h => by rw [headsF] at h ⊢; exact h
  | n :: K, hK, r, f, g, h => by
    rw [headsF] at h ⊢
    cases hx : clauseF hs n (f :: r) Fr0 with
    | error e => rw [hx] at h; cases h
    | ok f' => rw [hx] at h; rw [hK n (by simp) _ _ _ hx]; exact mon_heads K (fun t ht => hK t (by simp [ht])) _ _ _ h
theorem mon_choices : ∀ (K : List Nd), (∀ t ∈ K, MonC hs hs' t) → ∀ r f g, choicesF hs K r f = .ok g → choicesF hs' K r f = .ok g
  | [], _, r, f, g, h => by rw [choicesF] at h ⊢; exact h
  | n :: K, hK, r, f, g, h => by
    rw [choicesF] at h ⊢
    cases hx : clauseF hs n (f :: r) Fr0 with
    | error e => rw [hx] at h; cases h
    | ok f' => rw [hx] at h; rw [hK n (by simp) _ _ _ hx]; exact mon_choices K (fun t ht => hK t (by simp [ht])) _ _ _ h
theorem mon_after {t : Nd} (h : ∀ x ∈ t.kids, MonE hs hs' x ∧ MonB hs hs' x) : MonA hs hs' t := by
  obtain ⟨k, s, num, pos, K⟩ := t
  intro r f g hb
  match K, h, hb with
  | [e, B], h, hb =>
    rw [afterF_eq] at hb ⊢
    cases hx : exprF hs e 0 r f with
    | error e => rw [hx] at hb; cases hb
    | ok f' =>
      rw [hx] at hb
      rw [(h e (by simp [Nd.kids])).1 _ _ _ _ hx]
      simp only at hb ⊢
      cases hy : bodyF hs B (f' :: r) Fr0 with
      | error e => rw [hy] at hb; cases hb
      | ok g' => rw [hy] at hb; rw [(h B (by simp [Nd.kids])).2 _ _ _ hy]; exact hb
  | [], _, hb => simpa [afterF] using hb
  | [_], _, hb => simpa [afterF] using hb
  | _ :: _ :: _ :: _, _, hb => simpa [afterF] using hb
theorem mon_rcv : ∀ (m : Nat) (K : List Nd), (∀ t ∈ K, MonC hs hs' t ∧ MonA hs hs' t) → ∀ r f g, rcvF hs m K r f = .ok g → rcvF hs' m K r f = .ok g
  | _, [], _, r, f, g, h => by simpa [rcvF] using h
  | 0, n :: K, hK, r, f, g, h => by
    rw [rcvF] at h ⊢
    cases hx : afterF hs n r f with
    | error e => rw [hx] at h; cases h
    | ok f' => rw [hx] at h; rw [(hK n (by simp)).2 _ _ _ hx]; exact mon_rcv 0 K (fun t ht => hK t (by simp [ht])) _ _ _ h
  | m + 1, n :: K, hK, r, f, g, h => by
    rw [rcvF] at h ⊢
    cases hx : clauseF hs n (f :: r) Fr0 with
    | error e => rw [hx] at h; cases h
    | ok f' => rw [hx] at h; rw [(hK n (by simp)).1 _ _ _ hx]; exact mon_rcv m K (fun t ht => hK t (by simp [ht])) _ _ _ h
/-- One tree, out of all trees within it. -/
theorem mon_step {t : Nd} (hsub : ∀ s n, calB s n t = true → hs s n = true → hs' s n = true) (ih : ∀ x, Bel x t → MonE hs hs' x) : MonE hs hs' t := by
  have hE : ∀ x ∈ t.kids, MonE hs hs' x := fun x hx => ih x (Bel.kids hx)
  have hB : ∀ x ∈ t.kids, MonB hs hs' x := fun x hx => mon_body hs hs' fun y hy => ih y ((Bel.kids hy).trans (Bel.kids hx))
  have hC : ∀ x ∈ t.kids, MonC hs hs' x := fun x hx => mon_clause hs hs' fun y hy => mon_body hs hs' fun z hz => ih z ((Bel.kids hz).trans ((Bel.kids hy).trans (Bel.kids hx)))
  have hA : ∀ x ∈ t.kids, MonA hs hs' x := fun x hx => mon_after hs hs' fun y hy => ⟨ih y ((Bel.kids hy).trans (Bel.kids hx)), mon_body hs hs' fun z hz => ih z ((Bel.kids hz).trans ((Bel.kids hy).trans (Bel.kids hx)))⟩
  obtain ⟨k, s, num, pos, K⟩ := t
  have hE : ∀ x ∈ K, MonE hs hs' x := hE
  have hB : ∀ x ∈ K, MonB hs hs' x := hB
  have hC : ∀ x ∈ K, MonC hs hs' x := hC
  have hA : ∀ x ∈ K, MonA hs hs' x := hA
  intro md r f g h
  rw [exprF] at h ⊢
  by_cases h18 : k = 18 ∧ md = 2
  · rw [if_pos h18] at h ⊢
    match K, hE, h with
    | [p, e], hE, h =>
      rw [genF] at h ⊢
      cases hx : exprF hs e 0 r f with
      | error e => rw [hx] at h; cases h
      | ok f' => rw [hx] at h; rw [hE e (by simp) _ _ _ _ hx]; exact h
    | [], _, h => simpa [genF] using h
    | [_], _, h => simpa [genF] using h
    | _ :: _ :: _ :: _, _, h => simpa [genF] using h
  rw [if_neg h18] at h ⊢
  by_cases h8 : k = 8
  · rw [if_pos h8] at h ⊢
    by_cases hm : md = 1
    · rw [if_pos hm] at h ⊢
      match K, hE, h with
      | [p, e], hE, h =>
        rw [matchF] at h ⊢
        cases hx : exprF hs e 1 r f with
        | error e => rw [hx] at h; cases h
        | ok f' => rw [hx] at h; rw [hE e (by simp) _ _ _ _ hx]; exact h
      | [], _, h => simpa [matchF] using h
      | [_], _, h => simpa [matchF] using h
      | _ :: _ :: _ :: _, _, h => simpa [matchF] using h
    · rw [if_neg hm] at h; cases h
  rw [if_neg h8] at h ⊢
  by_cases h3 : k = 3
  · rw [if_pos h3] at h ⊢; exact h
  rw [if_neg h3] at h ⊢
  by_cases h9 : k = 9
  · rw [if_pos h9] at h ⊢
    by_cases hl : 13 < K.length
    · rw [if_pos hl] at h; cases h
    rw [if_neg hl] at h ⊢
    cases hc : headAtom K && !clbB hs (headTxt K) ((K.length : Int) - 1) with
    | true => rw [hc, if_pos rfl] at h; cases h
    | false =>
      rw [hc, if_neg (by simp)] at h
      have hc' : (headAtom K && !clbB hs' (headTxt K) ((K.length : Int) - 1)) = false := by
        cases ha : headAtom K with
        | false => rfl
        | true =>
          rw [ha] at hc
          simp only [Bool.true_and, Bool.not_eq_false'] at hc ⊢
          unfold clbB at hc ⊢
          rw [Bool.or_eq_true] at hc ⊢
          rcases hc with hc | hc
          · left
            refine hsub _ _ ?_ hc
            rw [calB]
            simp [h9, ha]
          · exact Or.inr hc
      rw [hc', if_neg (by simp)]
      exact mon_exprs hs hs' K hE _ _ _ h
  rw [if_neg h9] at h ⊢
  by_cases h11 : k = 11
  · rw [if_pos h11] at h ⊢
    cases hh : hs s num with
    | false => rw [hh, if_neg (by simp)] at h; cases h
    | true =>
      rw [hh, if_pos rfl] at h
      rw [hsub s num (by rw [calB]; simp [h11]) hh, if_pos rfl]
      exact h
  rw [if_neg h11] at h ⊢
  by_cases h10 : k = 10
  · rw [if_pos h10] at h ⊢
    cases ha : alikeF (headPat K : Nat) K with
    | some e => rw [ha] at h; cases h
    | none => rw [ha] at h; exact mon_heads hs hs' K hC _ _ _ h
  rw [if_neg h10] at h ⊢
  by_cases h12 : k = 12
  · rw [if_pos h12] at h ⊢
    match K, hE, hC, h with
    | [], _, _, h => rw [caseF] at h ⊢; exact h
    | n :: L, hE, hC, h =>
      rw [caseF] at h ⊢
      cases hx : exprF hs n 0 r f with
      | error e => rw [hx] at h; cases h
      | ok f' => rw [hx] at h; rw [hE n (by simp) _ _ _ _ hx]; exact mon_choices hs hs' L (fun t ht => hC t (by simp [ht])) _ _ _ h
  rw [if_neg h12] at h ⊢
  by_cases h13 : k = 13
  · rw [if_pos h13] at h ⊢; exact mon_choices hs hs' K hC _ _ _ h
  rw [if_neg h13] at h ⊢
  by_cases h14 : k = 14
  · rw [if_pos h14] at h ⊢; exact mon_rcv hs hs' _ K (fun t ht => ⟨hC t ht, hA t ht⟩) _ _ _ h
  rw [if_neg h14] at h ⊢
  by_cases h16 : k = 16
  · rw [if_pos h16] at h ⊢
    match K, hB, hC, h with
    | [], _, _, h => rw [tryF] at h ⊢; exact h
    | n :: L, hB, hC, h =>
      rw [tryF] at h ⊢
      cases hx : bodyF hs n (f :: r) Fr0 with
      | error e => rw [hx] at h; cases h
      | ok f' => rw [hx] at h; rw [hB n (by simp) _ _ _ hx]; exact mon_choices hs hs' L (fun t ht => hC t (by simp [ht])) _ _ _ h
  rw [if_neg h16] at h ⊢
  by_cases h17 : k = 17
  · rw [if_pos h17] at h ⊢
    cases hx : compF hs K (f :: r) Fr0 with
    | error e => rw [hx] at h; cases h
    | ok f' =>
      rw [hx] at h
      have hx' : compF hs' K (f :: r) Fr0 = .ok f' := by
        match K, hE, hx with
        | [], _, hx => rw [compF] at hx ⊢; exact hx
        | n :: L, hE, hx =>
          rw [compF] at hx ⊢
          cases hy : stepsF hs L (f :: r) Fr0 with
          | error e => rw [hy] at hx; cases hx
          | ok f'' => rw [hy] at hx; rw [mon_steps hs hs' L (fun t ht => hE t (by simp [ht])) _ _ _ hy]; exact hE n (by simp) _ _ _ _ hx
      rw [hx']
      exact h
  rw [if_neg h17] at h ⊢
  by_cases h19 : k = 19
  · rw [if_pos h19] at h ⊢
    cases hx : itemsF hs K (f :: r) Fr0 with
    | error e => rw [hx] at h; cases h
    | ok f' => rw [hx] at h; rw [mon_items hs hs' K hE _ _ _ hx]; exact h
  rw [if_neg h19] at h ⊢
  exact mon_exprs hs hs' K hE _ _ _ h
/-- What is no fault stays none, if all functions that are named are there again. -/
theorem mon_all : ∀ (n : Nat) (t : Nd), SizeOf.sizeOf t ≤ n → (∀ s n, calB s n t = true → hs s n = true → hs' s n = true) → MonE hs hs' t := by
  intro n
  induction n with
  | zero => intro t h; cases t; simp at h
  | succ n ihn => exact fun t hz hsub => mon_step hs hs' hsub fun x hx => ihn x (by have := hx.1; omega) fun s m hc => hsub s m (hx.2 s m hc)
theorem mon_cl {t : Nd} (hsub : ∀ s n, calB s n t = true → hs s n = true → hs' s n = true) : MonC hs hs' t :=
  mon_clause hs hs' fun _y hy => mon_body hs hs' fun z hz => mon_all hs hs' _ z (Nat.le_refl _) fun s m hc => hsub s m ((Bel.kids hy).2 s m ((Bel.kids hz).2 s m hc))
theorem mon_top : ∀ (K : List Nd), (∀ s n, calBs s n K = true → hs s n = true → hs' s n = true) → headsT hs K = none → headsT hs' K = none
  | [], _, _ => by rw [headsT]
  | n :: K, hsub, h => by
    rw [headsT] at h ⊢
    cases hx : clauseF hs n [] Fr0 with
    | error e => rw [hx] at h; cases h
    | ok f' =>
      rw [hx] at h
      rw [mon_cl hs hs' (fun s m hc => hsub s m (calBs_mem (K := n :: K) (by simp) hc)) _ _ _ hx]
      exact mon_top K (fun s m hc => hsub s m (by rw [calBs, hc]; simp)) h
theorem mon_bods : ∀ (K : List Nd), (∀ s n, calBs s n K = true → hs s n = true → hs' s n = true) → bodsF hs K = none → bodsF hs' K = none
  | [], _, _ => by rw [bodsF]
  | n :: K, hsub, h => by
    rw [bodsF] at h ⊢
    cases hx : headsT hs n.kids with
    | some e => rw [hx] at h; cases h
    | none =>
      rw [hx] at h
      rw [mon_top hs hs' n.kids (fun s m hc => hsub s m (by
        obtain ⟨k1, s1, n1, p1, K1⟩ := n
        rw [calBs, calB, show calBs s m K1 = true from hc]
        simp)) hx]
      exact mon_bods K (fun s m hc => hsub s m (by rw [calBs, hc]; simp)) h
end

end Go.Proofs.YtpgjcedonimgnaaDoor

/- Programs taken apart and put together: their first faults. -/
namespace Go.Proofs.YtpgjcedonimgnaaDoor
open Go.RowKit

/-- The functions of a row. -/
def sigB (K : List Nd) (s : ByteArray) (n : Int) : Bool := K.any fun t => decide (s = t.txt ∧ n = t.num)
theorem sigB_cons (t : Nd) (K : List Nd) (s : ByteArray) (n : Int) : sigB (t :: K) s n = (decide (s = t.txt ∧ n = t.num) || sigB K s n) := rfl
theorem decls_cons {t : Nd} {K : List Nd} {h0 h : ByteArray → Int → Bool} : declsF (t :: K) h0 = .ok h ↔ declF h0 t.txt t.num t.pos t.kids = none ∧ declsF K (fun s n => decide (s = t.txt ∧ n = t.num) || h0 s n) = .ok h := by
  obtain ⟨k, s, num, pos, L⟩ := t
  rw [declsF]
  constructor
  · intro e
    cases hd : declF h0 s num pos L with
    | some x => rw [hd] at e; cases e
    | none => rw [hd] at e; exact ⟨hd, e⟩
  · rintro ⟨hd, e⟩
    have hd' : declF h0 s num pos L = none := hd
    rw [hd']
    exact e
theorem decl_none {h0 : ByteArray → Int → Bool} {s : ByteArray} {n p : Int} {K : List Nd} : declF h0 s n p K = none ↔ clbB h0 s n = false ∧ alikeF n K = none := by
  unfold declF
  cases clbB h0 s n <;> simp
theorem decls_eq : ∀ (K : List Nd) (h0 h : ByteArray → Int → Bool), declsF K h0 = .ok h → ∀ s n, h s n = (sigB K s n || h0 s n)
  | [], h0, h, e, s, n => by rw [declsF] at e; cases e; rfl
  | t :: K, h0, h, e, s, n => by
    have e2 := (decls_cons.1 e).2
    rw [decls_eq K _ h e2 s n, sigB_cons]
    cases decide (s = t.txt ∧ n = t.num) <;> cases sigB K s n <;> cases h0 s n <;> rfl
theorem clb_le {h0 h1 : ByteArray → Int → Bool} (hle : ∀ s n, h1 s n = true → h0 s n = true) {s : ByteArray} {n : Int} (h : clbB h0 s n = false) : clbB h1 s n = false := by
  unfold clbB at h ⊢
  rw [Bool.or_eq_false_iff] at h ⊢
  refine ⟨?_, h.2⟩
  cases hh : h1 s n with
  | false => rfl
  | true => rw [hle s n hh] at h; exact absurd h.1 (by simp)
/-- Fewer functions are taken down as well. -/
theorem decls_sub : ∀ {K' K : List Nd}, List.Sublist K' K → ∀ (h0 h1 h : ByteArray → Int → Bool), (∀ s n, h1 s n = true → h0 s n = true) → declsF K h0 = .ok h → ∃ h', declsF K' h1 = .ok h'
  | _, _, .slnil, h0, h1, h, hle, e => ⟨h1, by rw [declsF]⟩
  | _, _, .cons t hs, h0, h1, h, hle, e => decls_sub hs _ h1 h (fun s n hh => by rw [hle s n hh]; simp) (decls_cons.1 e).2
  | _, _, .cons_cons t hs, h0, h1, h, hle, e => by
    obtain ⟨e1, e2⟩ := decls_cons.1 e
    obtain ⟨c1, c2⟩ := decl_none.1 e1
    obtain ⟨h', e'⟩ := decls_sub hs _ (fun s n => decide (s = t.txt ∧ n = t.num) || h1 s n) h (fun s n hh => by
      rw [Bool.or_eq_true] at hh ⊢
      rcases hh with hh | hh
      · exact Or.inl hh
      · exact Or.inr (hle s n hh)) e2
    exact ⟨h', decls_cons.2 ⟨decl_none.2 ⟨clb_le hle c1, c2⟩, e'⟩⟩
theorem bods_all {hs : ByteArray → Int → Bool} : ∀ (K : List Nd), bodsF hs K = none ↔ ∀ t ∈ K, headsT hs t.kids = none
  | [] => by simp [bodsF]
  | t :: K => by
    rw [bodsF]
    cases hx : headsT hs t.kids with
    | some e => simp [hx]
    | none => simp [hx, bods_all K]
theorem check_none {K : List Nd} : checkF K = none ↔ ∃ h, declsF K (fun _ _ => false) = .ok h ∧ bodsF h K = none := by
  unfold checkF
  cases hd : declsF K (fun _ _ => false) with
  | error x => simp
  | ok h => simp
theorem sigB_mem {K : List Nd} {s : ByteArray} {n : Int} : sigB K s n = true ↔ ∃ t ∈ K, s = t.txt ∧ n = t.num := by
  unfold sigB
  simp [List.any_eq_true]
/-- Without a function that no other one names: no fault either. -/
theorem check_rest {A : List Nd} {f : Nd} {B : List Nd} (h : checkF (A ++ f :: B) = none) (hc : calBs f.txt f.num (A ++ B) = false) : checkF (A ++ B) = none := by
  obtain ⟨h0, e0, b0⟩ := check_none.1 h
  have hsub : List.Sublist (A ++ B) (A ++ f :: B) := List.Sublist.append (List.Sublist.refl A) (List.sublist_cons_self f B)
  obtain ⟨h1, e1⟩ := decls_sub hsub _ (fun _ _ => false) h0 (fun _ _ hh => hh) e0
  refine check_none.2 ⟨h1, e1, ?_⟩
  have b1 : bodsF h0 (A ++ B) = none := (bods_all _).2 fun t ht => (bods_all _).1 b0 t (hsub.subset ht)
  refine mon_bods h0 h1 (A ++ B) (fun s n hcal hh => ?_) b1
  rw [decls_eq _ _ _ e0, Bool.or_false, sigB_mem] at hh
  rw [decls_eq _ _ _ e1, Bool.or_false, sigB_mem]
  obtain ⟨t, ht, rfl, rfl⟩ := hh
  rw [List.mem_append, List.mem_cons] at ht
  rcases ht with ht | rfl | ht
  · exact ⟨t, List.mem_append_left B ht, rfl, rfl⟩
  · rw [hc] at hcal; cases hcal
  · exact ⟨t, List.mem_append_right A ht, rfl, rfl⟩
theorem decls_app : ∀ (A B : List Nd) (h0 h : ByteArray → Int → Bool), declsF A h0 = .ok h → declsF (A ++ B) h0 = declsF B h
  | [], B, h0, h, e => by rw [declsF] at e; cases e; rfl
  | .mk k s num pos L :: A, B, h0, h, e => by
    obtain ⟨e1, e2⟩ := decls_cons.1 e
    have e1' : declF h0 s num pos L = none := e1
    rw [List.cons_append, declsF, e1']
    exact decls_app A B _ h e2
/-- A function once more: a fault at its place. -/
theorem check_twice {K : List Nd} {f : Nd} (h : checkF K = none) (hf : f ∈ K) : checkF (K ++ [f]) = some (210, f.pos) := by
  obtain ⟨h0, e0, b0⟩ := check_none.1 h
  refine checkF_decl ?_
  rw [decls_app _ _ _ _ e0]
  have hh : h0 f.txt f.num = true := by
    rw [decls_eq _ _ _ e0, Bool.or_false, sigB_mem]
    exact ⟨f, hf, rfl, rfl⟩
  obtain ⟨k, s, num, pos, L⟩ := f
  have hh' : h0 s num = true := hh
  rw [declsF, declF]
  unfold clbB
  rw [hh']
  rfl
/-- Functions of other names ahead of them make no difference. -/
theorem decls_more : ∀ (K : List Nd) (h0 h1 h X : ByteArray → Int → Bool), (∀ s n, h1 s n = (h0 s n || X s n)) → (∀ t ∈ K, X t.txt t.num = false) → declsF K h0 = .ok h → ∃ h', declsF K h1 = .ok h'
  | [], h0, h1, h, X, _, _, _ => ⟨h1, by rw [declsF]⟩
  | t :: K, h0, h1, h, X, hX, hno, e => by
    obtain ⟨e1, e2⟩ := decls_cons.1 e
    obtain ⟨c1, c2⟩ := decl_none.1 e1
    have c1' : clbB h1 t.txt t.num = false := by
      unfold clbB at c1 ⊢
      rw [hX, hno t (by simp), Bool.or_false]
      exact c1
    obtain ⟨h', e'⟩ := decls_more K _ (fun s n => decide (s = t.txt ∧ n = t.num) || h1 s n) h X (fun s n => by
      rw [hX]
      cases decide (s = t.txt ∧ n = t.num) <;> cases h0 s n <;> cases X s n <;> rfl) (fun x hx => hno x (by simp [hx])) e2
    exact ⟨h', decls_cons.2 ⟨decl_none.2 ⟨c1', c2⟩, e'⟩⟩
/-- Two programs without a function in common are one. -/
theorem check_both {A B : List Nd} (hA : checkF A = none) (hB : checkF B = none) (hd : ∀ x ∈ A, ∀ y ∈ B, ¬ (x.txt = y.txt ∧ x.num = y.num)) : checkF (A ++ B) = none := by
  obtain ⟨ha, ea, ba⟩ := check_none.1 hA
  obtain ⟨hb, eb, bb⟩ := check_none.1 hB
  obtain ⟨h', e'⟩ := decls_more B (fun _ _ => false) ha hb ha (fun s n => by simp) (fun t ht => by
    cases hh : ha t.txt t.num with
    | false => rfl
    | true =>
      rw [decls_eq _ _ _ ea, Bool.or_false, sigB_mem] at hh
      obtain ⟨x, hx, e1, e2⟩ := hh
      exact absurd ⟨e1.symm, e2.symm⟩ (hd x hx t ht)) eb
  have eAB : declsF (A ++ B) (fun _ _ => false) = .ok h' := (decls_app _ _ _ _ ea).trans e'
  refine check_none.2 ⟨h', eAB, (bods_all _).2 fun t ht => ?_⟩
  have hle : ∀ s n, sigB A s n = true ∨ sigB B s n = true → h' s n = true := fun s n hh => by
    rw [decls_eq _ _ _ eAB, Bool.or_false, sigB_mem]
    rcases hh with hh | hh
    · obtain ⟨x, hx, e⟩ := sigB_mem.1 hh; exact ⟨x, List.mem_append_left B hx, e⟩
    · obtain ⟨x, hx, e⟩ := sigB_mem.1 hh; exact ⟨x, List.mem_append_right A hx, e⟩
  rcases List.mem_append.1 ht with ht | ht
  · exact (bods_all _).1 (mon_bods ha h' A (fun s n _ hh => hle s n (Or.inl (by rw [decls_eq _ _ _ ea, Bool.or_false] at hh; exact hh))) ba) t ht
  · exact (bods_all _).1 (mon_bods hb h' B (fun s n _ hh => hle s n (Or.inr (by rw [decls_eq _ _ _ eb, Bool.or_false] at hh; exact hh))) bb) t ht

end Go.Proofs.YtpgjcedonimgnaaDoor

/- lint's Check of whatever tree. -/
namespace Go.Proofs.YtpgjcedonimgnaaDoor
open Go.RowKit

set_option maxHeartbeats 4000000 in
set_option maxRecDepth 100000 in
theorem Check_no (w : World) (k num pos : Int) (s : ByteArray) (K : List Nd) (a : Option Addr) (c : Nat) (hk : k ≠ 22) :
    Calls Tryd.prog 11 #[.agg #[.int .u8 k, .string s, .int .i64 num, .int .i64 pos, .slice a K.length c]] w fun e w' => e = .returned (.agg #[.int .i64 4, .int .i64 0]) ∧ Upd [] w w' := by
  have e22 : (k == 22) = false := by simp [hk]
  have e22' : (k != 22) = true := by simp [hk]
  have tb0 : Tb ((w.alloc (.cells #[.int .u8 k, .string s, .int .i64 num, .int .i64 pos, .slice a K.length c] 29)).alloc (.cells #[.int .i64 0, .int .i64 0] 33)) w.heap.size #[.int .u8 k, .string s, .int .i64 num, .int .i64 pos, .slice a K.length c] := (Tb.new _ _ _ rfl).old _
  have f0 : (Fb ((w.alloc (.cells #[.int .u8 k, .string s, .int .i64 num, .int .i64 pos, .slice a K.length c] 29)).alloc (.cells #[.int .i64 0, .int .i64 0] 33)) (w.heap.size + 1) 0 0) := by
    have := heap_alloc_new (w.alloc (.cells #[.int .u8 k, .string s, .int .i64 num, .int .i64 pos, .slice a K.length c] 29)) (.cells #[.int .i64 0, .int .i64 0] 33)
    simpa [Fb] using this
  have U0 : Hid (Upd [] w ((w.alloc (.cells #[.int .u8 k, .string s, .int .i64 num, .int .i64 pos, .slice a K.length c] 29)).alloc (.cells #[.int .i64 0, .int .i64 0] 33))) := ((Upd.refl [] w).alloc _).alloc _
  go_enter_defers Tryd.func11, Tryd.ntmps11
  go_wp2_with (first | (refine store_F _ rfl _ _ rfl _ _ _ _ _ rfl rfl f0 ?_; intro w8 f8 u8) | fail)
  have U8 : Upd [] w w8 := U0.out.then u8 (by simp)
  have k0 : w8.cell? ⟨w.heap.size + 1, 0, none⟩ = some (.int .i64 4) := cell_of_row _ _ 0 _ _ _ f8
  have k1 : w8.cell? ⟨w.heap.size + 1, 1, none⟩ = some (.int .i64 0) := cell_of_row _ _ 1 _ _ _ f8
  simp [bodyPostD, Leaves, results, Tryd.results11, go_sem, k0, k1]
  exact U8

set_option maxHeartbeats 4000000 in
set_option maxRecDepth 100000 in
theorem Check_wrong (A : Nat → Option Addr) (C : Nat → Nat) (d : Nat) (w : World) (num pos : Int) (s : ByteArray) (K : List Nd) (a : Option Addr) (c : Nat) (hin : NIn w (d + 1) [.int .u8 22, .string s, .int .i64 num, .int .i64 pos, .slice a K.length c] (.mk 22 s num pos K)) (hr : rgtB (.mk 22 s num pos K) = false) (hz1 : nsz (.mk 22 s num pos K) ≤ 2199023255488) (hz2 : nxz (.mk 22 s num pos K) ≤ 140737488355328) (hFr : Frm A C w) (hO : Ops w) :
    Calls Tryd.prog 11 #[.agg #[.int .u8 22, .string s, .int .i64 num, .int .i64 pos, .slice a K.length c]] w fun e w' => e = .returned (.agg #[.int .i64 4, .int .i64 0]) ∧ Upd [] w w' := by
  have HT : Hid (Frm A C w ∧ Ops w) := ⟨hFr, hO⟩
  have HIN : Hid (NIn w (d + 1) [.int .u8 22, .string s, .int .i64 num, .int .i64 pos, .slice a K.length c] (.mk 22 s num pos K)) := hin
  have HRT : Hid (rgtB (.mk 22 s num pos K) = false ∧ nsz (.mk 22 s num pos K) ≤ 2199023255488 ∧ nxz (.mk 22 s num pos K) ≤ 140737488355328) := ⟨hr, hz1, hz2⟩
  have tb0 : Tb ((w.alloc (.cells #[.int .u8 22, .string s, .int .i64 num, .int .i64 pos, .slice a K.length c] 29)).alloc (.cells #[.int .i64 0, .int .i64 0] 33)) w.heap.size #[.int .u8 22, .string s, .int .i64 num, .int .i64 pos, .slice a K.length c] := (Tb.new _ _ _ rfl).old _
  have f0 : (Fb ((w.alloc (.cells #[.int .u8 22, .string s, .int .i64 num, .int .i64 pos, .slice a K.length c] 29)).alloc (.cells #[.int .i64 0, .int .i64 0] 33)) (w.heap.size + 1) 0 0) := by
    have := heap_alloc_new (w.alloc (.cells #[.int .u8 22, .string s, .int .i64 num, .int .i64 pos, .slice a K.length c] 29)) (.cells #[.int .i64 0, .int .i64 0] 33)
    simpa [Fb] using this
  have U0 : Hid (Upd [] w ((w.alloc (.cells #[.int .u8 22, .string s, .int .i64 num, .int .i64 pos, .slice a K.length c] 29)).alloc (.cells #[.int .i64 0, .int .i64 0] 33))) := ((Upd.refl [] w).alloc _).alloc _
  clear hin hr hz1 hz2 hFr hO
  go_enter_defers Tryd.func11, Tryd.ntmps11
  go_wp2_with (first | (refine load_G _ _ rfl _ _ rfl tb0 rfl rfl ?_) | fail)
  refine Calls.mono (Right_in A C (d + 1) _ _ (.mk 22 s num pos K) (NIn.mono U0.out _ _ _ HIN.out) HRT.out.2.1 HRT.out.2.2 (HT.out.1.mono U0.out) (HT.out.2.mono U0.out)) ?_
  rintro e v1 ⟨he, hu⟩
  rw [HRT.out.1] at he
  subst he
  have V1 : Hid (Upd [] w v1) := U0.out.trans hu
  have f1 : Fb v1 (w.heap.size + 1) 0 0 := (hu.block _ (lt_of_block f0) (by simp)).trans f0
  clear hu tb0 f0 U0 HIN HRT
  go_wp2_with (first | (refine store_F _ rfl _ _ rfl _ _ _ _ _ rfl rfl f1 ?_; intro w8 f8 u8) | fail)
  have U8 : Upd [] w w8 := V1.out.then u8 (by simp)
  have k0 : w8.cell? ⟨w.heap.size + 1, 0, none⟩ = some (.int .i64 4) := cell_of_row _ _ 0 _ _ _ f8
  have k1 : w8.cell? ⟨w.heap.size + 1, 1, none⟩ = some (.int .i64 0) := cell_of_row _ _ 1 _ _ _ f8
  simp [bodyPostD, Leaves, results, Tryd.results11, go_sem, k0, k1]
  exact U8

/-- What Check answers. -/
def chkF (m : Nd) : Flt := if m.kd = 22 ∧ rgtB m = true then ansF (checkF m.kids) else (4, 0)
theorem Check_any (A : Nat → Option Addr) (C : Nat → Nat) (d : Nat) (w : World) (cs : List Value) (m : Nd) (hin : NIn w d cs m) (hz1 : nsz m ≤ 2199023255488) (hz2 : nxz m ≤ 140737488355328) (hFr : Frm A C w) (hO : Ops w) (hB : Blt w) :
    Calls Tryd.prog 11 #[.agg cs.toArray] w fun e w' => e = .returned (.agg #[.int .i64 (chkF m).1, .int .i64 (chkF m).2]) ∧ Upd [] w w' := by
  have hin0 := NIn.up _ _ _ hin
  have hin1 := hin0
  obtain ⟨k, s, num, pos, K⟩ := m
  obtain ⟨a, c, rfl, hR, hcp⟩ := hin0
  by_cases hk : k = 22
  · subst hk
    cases hr : rgtB (.mk 22 s num pos K) with
    | true =>
      have e : chkF (.mk 22 s num pos K) = ansF (checkF K) := by rw [chkF, if_pos ⟨rfl, hr⟩]; rfl
      rw [e]
      exact Check_in A C d w num pos s K a c hin1 hr hz1 hz2 (mod_ok hr hz1) hFr hO hB
    | false =>
      have e : chkF (.mk 22 s num pos K) = (4, 0) := by rw [chkF, if_neg (by rw [hr]; simp)]
      rw [e]
      exact Check_wrong A C d w num pos s K a c hin1 hr hz1 hz2 hFr hO
  · have e : chkF (.mk k s num pos K) = (4, 0) := by rw [chkF, if_neg (by simp [Nd.kd, hk])]
    rw [e]
    exact Check_no w k num pos s K a c hk

end Go.Proofs.YtpgjcedonimgnaaDoor
