/- What Pattern and Guard ask of one node. -/
import Derived.Test.YtbajgfoaakehbaaDoorNdH
namespace Go.Proofs.YtbajgfoaakehbaaDoor
open Go.RowKit

def headK (K : List Nd) : Int := match K with
  | [] => 0
  | n :: _ => n.kd
def patB : Nd → Bool
  | .mk k s _ _ K => if k = 1 ∨ k = 2 ∨ k = 3 ∨ k = 4 ∨ k = 5 ∨ k = 6 ∨ k = 8 then true else if k = 7 then (s.toList == [45]) && (decide (K.length = 1) && (headK K == 1)) else false
def grdB : Nd → Bool
  | .mk k s _ _ K => if k = 1 ∨ k = 2 ∨ k = 3 ∨ k = 4 ∨ k = 5 ∨ k = 6 then true else if k = 7 then !(s.toList == [33]) && (!(s.toList == [43, 43]) && !(s.toList == [45, 45])) else if k = 9 then headK K == 2 else false
theorem head_cell {w : World} {d : Nat} {a : Option Addr} {K : List Nd} (h : RowN (NIn w d) w a K) (h0 : 0 < K.length) : ∃ b o, a = some ⟨b, o, none⟩ ∧ b < w.heap.size ∧ w.cell? ⟨b, o, none⟩ = some (.int .u8 (headK K)) := by
  rcases h with h | ⟨b, o, rfl, hb, hc⟩
  · rw [h] at h0; simp at h0
  · obtain ⟨cs, k1, k2, k3⟩ := hc 0 h0
    have := k2 0 (by omega)
    rw [k3.kd] at this
    refine ⟨b, o, rfl, hb, ?_⟩
    cases K with
    | nil => simp at h0
    | cons n r => simpa [headK] using this
end Go.Proofs.YtbajgfoaakehbaaDoor
