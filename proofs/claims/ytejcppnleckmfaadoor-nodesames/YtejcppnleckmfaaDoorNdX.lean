/- rightBranches and rightNum of package node, by their contracts. -/
import Derived.Test.YtejcppnleckmfaaDoorNdW
namespace Go.Proofs.YtejcppnleckmfaaDoor
open Go.RowKit

theorem rb_any (b o c d m : Nat) (K : List Nd) (w : World) (hs : K.length ≤ 2199023255488) (hK : RowN (NIn w d) w (some ⟨b, o, none⟩) K) (hm : m ≤ K.length) (hc1 : K.length ≤ c) (hc2 : c ≤ 9223372036854775807) :
    Calls Tryd.prog 54 #[.slice (some ⟨b, o, none⟩) K.length c, .int .i64 m] w fun e w' => e = .returned (.bool (kdAll 20 (K.take m) && kdAll 15 (K.drop m))) ∧ Upd [] w w' := by
  have hA1 : ∀ W g, Upd [] w W → KindB W g 20 → Calls Tryd.prog 41 #[.slice (some ⟨b, o, none⟩) m c, kf g] W fun e w' => e = .returned (.bool (kdAll 20 (K.take m))) ∧ Upd [] W w' := fun W g hu hg => by
    have hl : (K.take m).length = m := by simp; omega
    have := all_kind (some ⟨b, o, none⟩) c d (K.take m) 20 g W (by omega) ((hK.imp hu (NIn.mono hu d)).take m) hg
    rw [hl] at this
    exact this
  cases hb : kdAll 20 (K.take m) with
  | false =>
    rw [hb] at hA1
    exact rb_no b o K.length m c w hm hc1 hc2 hA1
  | true =>
    rw [hb] at hA1
    by_cases he : m = K.length
    · subst he
      have hd : K.drop K.length = [] := by simp
      rw [hd]
      have hA2 : ∀ W g a' c', Upd [] w W → KindB W g 15 → Calls Tryd.prog 41 #[.slice a' 0 c', kf g] W fun e w' => e = .returned (.bool (kdAll 15 [])) ∧ Upd [] W w' := fun W g a' c' _ hg =>
        all_kind a' c' d [] 15 g W (by simp) (Or.inl rfl) hg
      by_cases hc : K.length = c
      · subst hc; exact rb_eqc b o K.length _ w hs hA1 hA2
      · exact rb_eq b o K.length c _ w hs (by omega) hc2 hA1 hA2
    · refine rb_lt b o K.length m c _ w hs (by omega) hc1 hc2 hA1 (fun W g c' hu hg => ?_)
      have := all_kind (some ⟨b, o + m * 5, none⟩) c' d (K.drop m) 15 g W (by simp; omega) ((hK.imp hu (NIn.mono hu d)).drop m) hg
      rw [List.length_drop] at this
      exact this

end Go.Proofs.YtejcppnleckmfaaDoor
