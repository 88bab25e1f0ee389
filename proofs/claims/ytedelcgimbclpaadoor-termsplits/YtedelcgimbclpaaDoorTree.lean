/- Terms as trees, and how they stand in memory. -/
import Derived.Test.YtedelcgimbclpaaDoorFr
import Derived.Test.YtedelcgimbclpaaDoorOrdM
namespace Go.Proofs.YtedelcgimbclpaaDoor
open Go.ChangeShapes Go.WideShapes Go.ChangeAt Go.RowKit Go.Joins

/-- A row of terms in memory. -/
def RowAt (R : List Value → Tm → Prop) (w : World) (a : Option Addr) (I : List Tm) : Prop :=
  I = [] ∨ ∃ b o, a = some ⟨b, o, none⟩ ∧ b < w.heap.size ∧ ∀ i (hi : i < I.length), ∃ cs : List Value, cs.length = 7 ∧ (∀ j, j < 7 → w.cell? ⟨b, o + (i * 7 + j), none⟩ = cs[j]?) ∧ R cs I[i]

/-- The seven cells of a term stand for a tree. -/
def In (w : World) : Nat → List Value → Tm → Prop
  | 0, _, _ => False
  | d + 1, cs, .mk k num neg L s I T => ∃ (a ai at' : Option Addr) (c ci ct : Nat), cs = [.int .u8 k, .bool neg, .slice a L.length c, .string s, .int .i64 num, .slice ai I.length ci, .slice at' T.length ct] ∧ At w a L ∧ Dig L ∧ RowAt (In w d) w ai I ∧ RowAt (In w d) w at' T

theorem RowAt.imp {R S : List Value → Tm → Prop} {w w' : World} {a : Option Addr} {I : List Tm} (h : RowAt R w a I) (hu : Upd [] w w') (himp : ∀ cs t, R cs t → S cs t) : RowAt S w' a I := by
  rcases h with h | ⟨b, o, e, hlt, hc⟩
  · exact Or.inl h
  · refine Or.inr ⟨b, o, e, Nat.lt_of_lt_of_le hlt hu.size, fun i hi => ?_⟩
    obtain ⟨cs, h1, h2, h3⟩ := hc i hi
    exact ⟨cs, h1, fun j hj => (hu.cell (p := ⟨b, o + (i * 7 + j), none⟩) hlt (by simp)).trans (h2 j hj), himp _ _ h3⟩
theorem In.mono {w w' : World} (hu : Upd [] w w') : ∀ (d : Nat) (cs : List Value) (t : Tm), In w d cs t → In w' d cs t := by
  intro d
  induction d with
  | zero => intro cs t h; exact h.elim
  | succ d ih =>
    intro cs t h
    cases t with
    | mk k num neg L s I T =>
      obtain ⟨a, ai, at', c, ci, ct, rfl, h1, h2, h3, h4⟩ := h
      exact ⟨a, ai, at', c, ci, ct, rfl, h1.mono hu, h2, h3.imp hu ih, h4.imp hu ih⟩
theorem In.more {w : World} : ∀ (d : Nat) (cs : List Value) (t : Tm), In w d cs t → In w (d + 1) cs t := by
  intro d
  induction d with
  | zero => intro cs t h; exact h.elim
  | succ d ih =>
    intro cs t h
    cases t with
    | mk k num neg L s I T =>
      obtain ⟨a, ai, at', c, ci, ct, rfl, h1, h2, h3, h4⟩ := h
      exact ⟨a, ai, at', c, ci, ct, rfl, h1, h2, h3.imp (Upd.refl [] w) ih, h4.imp (Upd.refl [] w) ih⟩

mutual
/-- How long the longest row in a tree is (a row of limbs counts for a row of terms of the same weight). -/
def tsz : Tm → Nat
  | .mk _ _ _ L _ I T => max (L.length / 26) (max (tszs I) (tszs T))
def tszs : List Tm → Nat
  | [] => 0
  | t :: r => max (r.length + 1) (max (tsz t) (tszs r))
end

theorem tszs_len (I : List Tm) : I.length ≤ tszs I := by
  cases I with
  | nil => simp
  | cons t r => simp only [tszs, List.length_cons]; omega
theorem tszs_get (I : List Tm) (i : Nat) (hi : i < I.length) : tsz I[i] ≤ tszs I := by
  induction I generalizing i with
  | nil => simp at hi
  | cons t r ih =>
    cases i with
    | zero => simp only [tszs, List.getElem_cons_zero]; omega
    | succ i =>
      simp only [tszs, List.getElem_cons_succ]
      have := ih i (by simpa using hi)
      omega
theorem tszs_le (N : Nat) (I : List Tm) (hl : I.length ≤ N) (h : ∀ i (hi : i < I.length), tsz I[i] ≤ N) : tszs I ≤ N := by
  induction I with
  | nil => simp [tszs]
  | cons t r ih =>
    have h0 := h 0 (by simp)
    have h1 := ih (by simp at hl; omega) (fun i hi => by have := h (i + 1) (by simpa using hi); simpa using this)
    simp only [tszs]
    simp at h0 hl
    omega

end Go.Proofs.YtedelcgimbclpaaDoor
