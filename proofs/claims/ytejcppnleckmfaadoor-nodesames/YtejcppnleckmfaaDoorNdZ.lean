/- rightNum of package node, of trees. -/
import Derived.Test.YtejcppnleckmfaaDoorNdY
namespace Go.Proofs.YtejcppnleckmfaaDoor
open Go.RowKit

def brB (K : List Nd) (m : Nat) : Bool := kdAll 20 (K.take m) && kdAll 15 (K.drop m)
/-- How many patterns the first clause has. -/
def parB (K : List Nd) : Nat := match K with
  | .mk _ _ _ _ (p :: _) :: _ => p.kids.length
  | _ => 0
/-- The document's number of a node. -/
def nmB : Nd → Bool
  | .mk k _ num _ K => if k = 6 then (if num = 0 then true else if num = 1 then decide (2 ≤ K.length) else false) else if k = 11 then (if 0 ≤ num then decide (num ≤ 255) else false)
    else if k = 14 then (if num = 0 then brB K K.length else if num = 1 then brB K (K.length - 1) else false) else if k = 21 then num == parB K else num == 0
/-- What its kids must be ahead of it. -/
def nmOk : Nd → Prop
  | .mk k _ _ _ K => (k = 14 → 0 < K.length) ∧ (k = 21 → ∃ k1 s1 n1 p1 q r K', K = .mk k1 s1 n1 p1 (q :: r) :: K')

theorem RowN.at0 {w : World} {d : Nat} {a : Option Addr} {K : List Nd} (h : RowN (NIn w d) w a K) (h0 : 0 < K.length) : ∃ b o, a = some ⟨b, o, none⟩ ∧ b < w.heap.size ∧ ∃ cs : List Value, cs.length = 5 ∧ (∀ j, j < 5 → w.cell? ⟨b, o + j, none⟩ = cs[j]?) ∧ NIn w d cs K[0] := by
  rcases h with h | ⟨b, o, rfl, hb, hc⟩
  · rw [h] at h0; simp at h0
  · obtain ⟨cs, k1, k2, k3⟩ := hc 0 h0
    exact ⟨b, o, rfl, hb, cs, k1, fun j hj => by have := k2 j hj; simpa using this, k3⟩

theorem rightNum_in (d : Nat) (w : World) (cs : List Value) (t : Nd) (h : NIn w d cs t) (hs : nsz t ≤ 2199023255488) (hok : nmOk t) :
    Calls Tryd.prog 50 #[.agg cs.toArray] w fun e w' => e = .returned (.bool (nmB t)) ∧ Upd [] w w' := by
  obtain ⟨k, s, num, pos, K⟩ := t
  cases d with
  | zero => exact h.elim
  | succ d =>
    obtain ⟨a, c, rfl, hK, hc1, hc2⟩ := h
    simp only [nsz] at hs
    have hl : K.length ≤ 2199023255488 := Nat.le_trans (nszs_len K) hs
    simp only [nmB]
    by_cases h6 : k = 6
    · subst h6
      simp only [if_true]
      by_cases n0 : num = 0
      · rw [if_pos n0]; exact nm_6a a K.length c s num pos w n0
      · rw [if_neg n0]
        by_cases n1 : num = 1
        · rw [if_pos n1]; exact nm_6b a K.length c s num pos w n1 hl
        · rw [if_neg n1]; exact nm_6c a K.length c s num pos w n0 n1
    rw [if_neg h6]
    by_cases h11 : k = 11
    · subst h11
      simp only [if_true]
      by_cases n0 : 0 ≤ num
      · rw [if_pos n0]; exact nm_11a a K.length c s num pos w n0
      · rw [if_neg n0]; exact nm_11b a K.length c s num pos w n0
    rw [if_neg h11]
    by_cases h14 : k = 14
    · subst h14
      simp only [if_true]
      have hpos : 0 < K.length := hok.1 rfl
      obtain ⟨b, o, rfl, hb, -⟩ := hK.at0 hpos
      by_cases n0 : num = 0
      · rw [if_pos n0]
        exact nm_14a b o K.length K.length c s num pos w n0 rfl hl _ (fun W hu => rb_any b o c d K.length K W hl (hK.imp hu (NIn.mono hu d)) (Nat.le_refl _) hc1 hc2)
      · rw [if_neg n0]
        by_cases n1 : num = 1
        · rw [if_pos n1]
          exact nm_14b b o K.length (K.length - 1) c s num pos w n1 (by omega) hl _ (fun W hu => rb_any b o c d (K.length - 1) K W hl (hK.imp hu (NIn.mono hu d)) (by omega) hc1 hc2)
        · rw [if_neg n1]; exact nm_14c (some ⟨b, o, none⟩) K.length c s num pos w n0 n1
    rw [if_neg h14]
    by_cases h21 : k = 21
    · subst h21
      simp only [if_true]
      obtain ⟨k1, s1, m1, p1, q, r, K', rfl⟩ := hok.2 rfl
      obtain ⟨b, o, rfl, hb, cs1, l1, hc, hin⟩ := hK.at0 (by simp)
      cases d with
      | zero => exact hin.elim
      | succ d =>
        obtain ⟨a1, c1, rfl, hK1, -⟩ := hin
        obtain ⟨b1, o1, rfl, hb1, cs2, l2, hcc, hin2⟩ := hK1.at0 (by simp)
        cases d with
        | zero => exact hin2.elim
        | succ d =>
          obtain ⟨k2, s2, m2, p2, K2⟩ := q
          obtain ⟨a2, c2, rfl, -, -⟩ := hin2
          simp only [nszs, nsz] at hs
          have g1 := nszs_len K2
          have g2 := nszs_len r
          exact nm_21 b o _ b1 o1 _ c1 K2.length c2 a2 _ _ _ _ c s num pos w hl (by simp) (by simp only [List.length_cons]; omega) (by simp) (by omega) hb hb1 (by simp [Value.oneCell']) (hc 0 (by omega)) (hc 1 (by omega)) (hc 2 (by omega)) (hc 3 (by omega)) (hc 4 (by omega)) (hcc 4 (by omega))
    rw [if_neg h21]
    exact nm_0 a K.length k c s num pos w h6 h11 h14 h21

end Go.Proofs.YtejcppnleckmfaaDoor
