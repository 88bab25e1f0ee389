/- SameTokens of the kit, by its contract. -/
import Derived.Test.YtiapdapkklcliaaGreatDoorTok
namespace Go.Proofs.YtiapdapkklcliaaGreatDoor
open Go.RowKit

/-- Tokens in memory. -/
def TokAt (w : World) (a : Option Addr) (l : List Sc.Tok) : Prop :=
  l = [] ∨ ∃ b o, a = some ⟨b, o, none⟩ ∧ b < w.heap.size ∧ ∀ i (hi : i < l.length), w.cell? ⟨b, o + i * 3, none⟩ = some (.int .u8 l[i].kind) ∧ w.cell? ⟨b, o + i * 3 + 1, none⟩ = some (.string (str l[i].text)) ∧ w.cell? ⟨b, o + i * 3 + 2, none⟩ = some (.int .i64 l[i].place)
theorem TokAt.mono {w w' : World} {a : Option Addr} {l : List Sc.Tok} (h : TokAt w a l) (hu : Upd [] w w') : TokAt w' a l := by
  rcases h with h | ⟨b, o, e, hlt, hc⟩
  · exact Or.inl h
  · refine Or.inr ⟨b, o, e, Nat.lt_of_lt_of_le hlt hu.size, fun i hi => ?_⟩
    obtain ⟨h1, h2, h3⟩ := hc i hi
    exact ⟨(hu.cell (p := ⟨b, o + i * 3, none⟩) hlt (by simp)).trans h1, (hu.cell (p := ⟨b, o + i * 3 + 1, none⟩) hlt (by simp)).trans h2, (hu.cell (p := ⟨b, o + i * 3 + 2, none⟩) hlt (by simp)).trans h3⟩
theorem toksC_get (l : List Sc.Tok) (i j : Nat) (hi : i < l.length) (hj : j < 3) : (toksC l)[i * 3 + j]? = (tokC l[i])[j]? := by
  induction l generalizing i with
  | nil => simp at hi
  | cons t l ih =>
    have e : toksC (t :: l) = tokC t ++ toksC l := by simp [toksC]
    rw [e]
    cases i with
    | zero =>
      rw [Nat.zero_mul, Nat.zero_add, List.getElem?_append_left (by simp [tokC]; omega)]
      rfl
    | succ i =>
      rw [List.getElem?_append_right (by simp [tokC]; omega)]
      have : (i + 1) * 3 + j - (tokC t).length = i * 3 + j := by simp [tokC]; omega
      rw [this]
      exact ih i (by simpa using hi)
theorem OT.at {w : World} {base : Nat} {a : Option Addr} {l : List Sc.Tok} {n c : Nat} (h : OT w base (.slice a n c) l) : TokAt w a l := by
  by_cases hl : l = []
  · exact Or.inl hl
  · have hpos : 0 < l.length := by cases l with | nil => exact absurd rfl hl | cons x t => simp
    obtain ⟨g, cap, hv, hb, hlt⟩ := World.ownsRow.form h hpos
    cases hv
    refine Or.inr ⟨g, 0, rfl, hlt, fun i hi => ?_⟩
    have hc : ∀ j, j < 3 → w.cell? ⟨g, i * 3 + j, none⟩ = (tokC l[i])[j]? := fun j hj => by
      rw [Own.cell h g c rfl (i * 3 + j) (by omega)]
      exact toksC_get l i j hi hj
    refine ⟨?_, ?_, ?_⟩
    · have := hc 0 (by omega); rw [Nat.zero_add]; exact this
    · have := hc 1 (by omega); rw [Nat.zero_add]; exact this
    · have := hc 2 (by omega); rw [Nat.zero_add]; exact this

set_option maxHeartbeats 1000000 in
set_option maxRecDepth 100000 in
theorem SameTokens_eq (a b : Option Addr) (ca cb : Nat) (l : List Sc.Tok) (w : World) (hl : l.length ≤ 1000000000) (HA : TokAt w a l) (HB : TokAt w b l) :
    Calls Tryz.prog 8 #[.slice a l.length ca, .slice b l.length cb] w fun e w' => e = .returned (.bool true) ∧ Upd [] w w' := by
  go_enter Tryz.func8, Tryz.ntmps8
  go_wp2
  go_loopw [5] (fun i wr => ∃ k : Nat, k ≤ l.length ∧ i = .int .i64 k ∧ Upd [] w wr) (fun i _ => l.length - (intOf i).toNat)
  case atStart => exact ⟨0, Nat.zero_le _, rfl, Upd.refl _ _⟩
  case round =>
    obtain ⟨k, hk, rfl, hU⟩ := hrel
    by_cases hlt : k < l.length
    · have i1 : (k : Int) < (l.length : Int) := by omega
      rcases HA.mono hU with h | ⟨b1, o1, rfl, hb1, hc1⟩
      · rw [h] at hlt; simp at hlt
      rcases HB.mono hU with h | ⟨b2, o2, rfl, hb2, hc2⟩
      · rw [h] at hlt; simp at hlt
      obtain ⟨x1, x2, x3⟩ := hc1 k hlt
      obtain ⟨y1, y2, y3⟩ := hc2 k hlt
      clear hc1 hc2
      obtain ⟨⟨tk, tx, tp⟩, ht⟩ : ∃ t, t = l[k] := ⟨_, rfl⟩
      rw [← ht] at x1 x2 x3 y1 y2 y3
      clear ht
      go_wp2
      go_quiet (fail)
      go_wp2
      go_roundw
      case rel => exact ⟨k + 1, by omega, by go_num, hU.drewN _⟩
      case measure => simp [intOf]; omega
    · have hd : decide ((k : Int) < (l.length : Int)) = false := by simp; omega
      go_wp2
      go_ret
      exact ⟨rfl, hU⟩

end Go.Proofs.YtiapdapkklcliaaGreatDoor
