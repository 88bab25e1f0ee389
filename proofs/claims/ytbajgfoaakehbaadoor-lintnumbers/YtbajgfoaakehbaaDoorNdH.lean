/- throughout of package node, of whatever closure that asks one node. -/
import Derived.Test.YtbajgfoaakehbaaDoorNdG
namespace Go.Proofs.YtbajgfoaakehbaaDoor
open Go.RowKit

mutual
/-- It holds for a node and all that is in it. -/
def thru (p : Nd → Bool) : Nd → Bool
  | .mk k s num pos K => p (.mk k s num pos K) && thrus p K
def thrus (p : Nd → Bool) : List Nd → Bool
  | [] => true
  | n :: r => thru p n && thrus p r
end
theorem thrus_get (p : Nd → Bool) (K : List Nd) (h : thrus p K = true) (k : Nat) (hk : k < K.length) : thru p K[k] = true := by
  induction K generalizing k with
  | nil => simp at hk
  | cons t r ih =>
    rw [thrus, Bool.and_eq_true] at h
    cases k with
    | zero => exact h.1
    | succ k => simp only [List.getElem_cons_succ]; exact ih h.2 k (by simpa using hk)
theorem thrus_all (p : Nd → Bool) (K : List Nd) (h : ∀ k (hk : k < K.length), thru p K[k] = true) : thrus p K = true := by
  induction K with
  | nil => rw [thrus]
  | cons t r ih =>
    have h0 := h 0 (by simp)
    rw [thrus, Bool.and_eq_true]
    exact ⟨h0, ih (fun k hk => by have := h (k + 1) (by simpa using hk); simpa using this)⟩
/-- What a call has: something that is called. -/
def callOk (t : Nd) : Bool := decide (t.kd ≠ 9) || decide (0 < t.kids.length)

/-- A closure that asks one node, and keeps nothing. -/
def Asks (fid : Nat) (p : Nd → Bool) : Prop := ∀ (d : Nat) (w : World) (cs : List Value) (t : Nd), NIn w d cs t → nsz t ≤ 2199023255488 → callOk t = true → Calls Tryd.prog fid #[.agg cs.toArray] w fun e w' => e = .returned (.bool (p t)) ∧ Upd [] w w'
structure ThrI (w : World) (p : Nd → Bool) (K : List Nd) (k : Nat) (W : World) : Prop where
  upd : Upd [] w W
  yes : ∀ j (hj : j < K.length), j < k → thru p K[j] = true
def ThrF (w : World) (p : Nd → Bool) (K : List Nd) (W : World) : Prop := thrus p K = false ∧ Upd [] w W

end Go.Proofs.YtbajgfoaakehbaaDoor
