/- bytes.TrimRight at the cutset 0, and slices.Reverse, by their contracts. -/
import Derived.Test.YtpjlhpopoacjdaaDoorJB
import Derived.RegionTactic
namespace Go.Proofs.YtpjlhpopoacjdaaDoor
open Go.RowKit

set_option maxHeartbeats 1000000 in
set_option maxRecDepth 100000 in
theorem trimRightByte_any (g cap : Nat) (D : List Nat) (w : World) (_hn : D.length ≤ 400) (hcap : D.length ≤ cap) (hcm : cap ≤ 9223372036854775807) (hc : ∀ i, i < D.length → w.cell? ⟨g, i, none⟩ = some (.int .u8 (D.getD i 0 : Nat))) (hnz : ∃ i, i < D.length ∧ D.getD i 0 ≠ 48) :
    Calls Tryd.prog 76 #[.slice (some ⟨g, 0, none⟩) D.length cap, .int .u8 48] w fun e w' =>
      w' = w ∧ ∃ m : Nat, 0 < m ∧ m ≤ D.length ∧ (∀ i, m ≤ i → i < D.length → D.getD i 0 = 48) ∧ D.getD (m - 1) 0 ≠ 48 ∧ e = .returned (.slice (some ⟨g, 0, none⟩) m cap) := by
  go_enter Tryd.func76, Tryd.ntmps76
  go_wp2_with fail
  go_loopg [0] D.length (fun k s wr => wr = w ∧ k ≤ D.length ∧ s = .slice (some ⟨g, 0, none⟩) k cap ∧ (∀ i, k ≤ i → i < D.length → D.getD i 0 = 48))
  case atStart => exact ⟨rfl, Nat.le_refl _, rfl, fun i h1 h2 => by omega⟩
  case round =>
    obtain ⟨rfl, hk, rfl, hz⟩ := hrel
    have hpos : 0 < gk := by
      rcases Nat.eq_zero_or_pos gk with h | h
      · obtain ⟨i, h1, h2⟩ := hnz
        exact absurd (hz i (by omega) h1) h2
      · exact h
    have hcell := hc (gk - 1) (by omega)
    obtain ⟨x, hx⟩ : ∃ x, x = D.getD (gk - 1) 0 := ⟨_, rfl⟩
    rw [← hx] at hcell
    have HX : Hid _ := hx
    have HZ : Hid _ := hz
    clear hx hz hc hnz
    by_cases h48 : x = 48
    · subst h48
      go_wp2
      go_roundg (gk - 1)
      case measure => omega
      case rel =>
        refine ⟨rfl, by omega, by go_num, fun i h1 h2 => ?_⟩
        by_cases e : i = gk - 1
        · rw [e]; exact HX.out.symm
        · exact HZ.out i (by omega) h2
    · have h48' : ((x : Int) == 48) = false := by simp; omega
      go_wp2
      go_ret
      refine ⟨rfl, gk, hpos, hk, HZ.out, ?_, rfl⟩
      intro hh; apply h48; rw [HX.out]; exact hh

set_option maxHeartbeats 400000 in
set_option maxRecDepth 100000 in
theorem TrimRight_any (g cap : Nat) (D : List Nat) (w : World) (hn : D.length ≤ 400) (hcap : D.length ≤ cap) (hcm : cap ≤ 9223372036854775807) (hc : ∀ i, i < D.length → w.cell? ⟨g, i, none⟩ = some (.int .u8 (D.getD i 0 : Nat))) (hnz : ∃ i, i < D.length ∧ D.getD i 0 ≠ 48) :
    Calls Tryd.prog 58 #[.slice (some ⟨g, 0, none⟩) D.length cap, .string ⟨#[48]⟩] w fun e w' =>
      w' = w ∧ ∃ m : Nat, 0 < m ∧ m ≤ D.length ∧ (∀ i, m ≤ i → i < D.length → D.getD i 0 = 48) ∧ D.getD (m - 1) 0 ≠ 48 ∧ e = .returned (.slice (some ⟨g, 0, none⟩) m cap) := by
  have hl : ((D.length : Int) == 0) = false := by
    obtain ⟨i, h1, _⟩ := hnz
    simp; intro e; rw [e] at h1; simp at h1
  have HC : Hid (Calls _ _ _ _ _) := trimRightByte_any g cap D w hn hcap hcm hc hnz
  clear hc hnz
  go_enter Tryd.func58, Tryd.ntmps58
  go_wp2_with fail
  refine (Hid.out HC).mono ?_
  rintro e w1 ⟨rfl, m, h1, h2, h3, h4, rfl⟩
  have H3 : Hid _ := h3
  have H4 : Hid _ := h4
  clear h3 h4
  go_wp2
  go_ret
  exact ⟨rfl, m, h1, h2, H3.out, H4.out, rfl⟩

end Go.Proofs.YtpjlhpopoacjdaaDoor
