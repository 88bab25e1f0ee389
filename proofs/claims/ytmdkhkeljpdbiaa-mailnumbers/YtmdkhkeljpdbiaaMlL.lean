/- The row behind closeUp. -/
import Derived.Test.YtmdkhkeljpdbiaaMlK
namespace Go.Proofs.Ytmdkhkeljpdbiaa
open Go.RowKit

theorem getD_erase {L : List (List Value)} {k i : Nat} : (L.eraseIdx k).getD i [] = if i < k then L.getD i [] else L.getD (i + 1) [] := by
  simp only [List.getD_eq_getElem?_getD, List.getElem?_eraseIdx]
  split <;> rfl

theorem close_row {w : World} {g cap k : Nat} {L : List (List Value)} (hk : k < L.length) (hs : Sev L) (hR : RowG w 7 (.slice (some ⟨g, 0, none⟩) L.length cap) L.length) (hH : Hs w 7 (.slice (some ⟨g, 0, none⟩) L.length cap) L.length (fun i => L.getD i [])) (zs : List Value) (_hz : zs.length = 7) :
    RowG ((w.setCells g (k * 7) (L.drop (k + 1)).flatten).setCells g ((L.length - 1) * 7) zs) 7 (.slice (some ⟨g, 0, none⟩) (L.length - 1) cap) (L.length - 1) ∧
    Hs ((w.setCells g (k * 7) (L.drop (k + 1)).flatten).setCells g ((L.length - 1) * 7) zs) 7 (.slice (some ⟨g, 0, none⟩) (L.length - 1) cap) (L.length - 1) (fun i => (L.eraseIdx k).getD i []) := by
  have hfl := flat_len _ (hs.drop (k + 1))
  rw [List.length_drop] at hfl
  have hR2 := (hR.set (k * 7) (L.drop (k + 1)).flatten).set ((L.length - 1) * 7) zs
  constructor
  · rcases hR2 with ⟨h, _⟩ | ⟨g2, cap2, e, h1, h2, h3, h4⟩
    · cases h
    · simp only [Value.slice.injEq, Option.some.injEq, Addr.mk.injEq, and_true, true_and] at e
      obtain ⟨rfl, rfl⟩ := e
      exact Or.inr ⟨g, cap, rfl, h1, by omega, h3, h4⟩
  · intro g2 l2 c2 e i j hi hj
    simp only [Value.slice.injEq, Option.some.injEq, Addr.mk.injEq, and_true] at e
    obtain ⟨rfl, _, _⟩ := e
    show _ = ((L.eraseIdx k).getD i [])[j]?
    have hij : i * 7 + j < (L.length - 1) * 7 := by have := mul_room (sz := 7) hi; omega
    rw [World.cell?_setCells_out g _ _ _ _ (fun a _ => Or.inl hij), getD_erase]
    by_cases hik : i < k
    · rw [if_pos hik]
      have : i * 7 + j < k * 7 := by have := mul_room (sz := 7) hik; omega
      rw [World.cell?_setCells_out g _ _ _ _ (fun a _ => Or.inl this)]
      exact hH g L.length cap rfl i j (by omega) hj
    · rw [if_neg hik]
      have hidx : (i - k) * 7 + j < (L.drop (k + 1)).flatten.length := by
        rw [hfl]
        have := mul_room (sz := 7) (show i - k < L.length - (k + 1) by omega)
        omega
      have hth : ∀ a, a < (L.drop (k + 1)).flatten.length → (w.cell? ⟨g, k * 7 + a, none⟩).isSome = true := fun a ha => by
        rcases hR with ⟨h, _⟩ | ⟨g2, cap2, e, h1, h2, h3, h4⟩
        · cases h
        · simp only [Value.slice.injEq, Option.some.injEq, Addr.mk.injEq, and_true, true_and] at e
          obtain ⟨rfl, rfl⟩ := e
          have h5 : k * 7 + (L.length - (k + 1)) * 7 ≤ cap * 7 := by rw [← Nat.add_mul]; exact Nat.mul_le_mul_right 7 (by omega)
          have := (h4 (k * 7 + a) (by rw [hfl] at ha; omega)).1
          rwa [Nat.zero_add] at this
      have hin := World.cell?_setCells_in g (L.drop (k + 1)).flatten (k * 7) w hth ((i - k) * 7 + j) hidx
      rw [show k * 7 + ((i - k) * 7 + j) = i * 7 + j by have : k * 7 + (i - k) * 7 = i * 7 := by rw [← Nat.add_mul]; congr 1; omega
                                                        omega] at hin
      rw [hin, ← List.getElem?_eq_getElem hidx, flat_get _ (hs.drop (k + 1)) (i - k) j (by rw [List.length_drop]; omega) hj]
      congr 1
      rw [List.getD_eq_getElem?_getD, List.getD_eq_getElem?_getD, List.getElem?_drop, show k + 1 + (i - k) = i + 1 by omega]

theorem close_src {w : World} {g cap k : Nat} {L : List (List Value)} (hs : Sev L) (hH : Hs w 7 (.slice (some ⟨g, 0, none⟩) L.length cap) L.length (fun i => L.getD i [])) :
    ∀ j v, (L.drop (k + 1)).flatten[j]? = some v → w.cell? ((⟨g, (k + 1) * 7, none⟩ : Addr).add j) = some v := by
  intro j v hj
  have hfl := flat_len _ (hs.drop (k + 1))
  have hlt := (List.getElem?_eq_some_iff.1 hj).1
  rw [hfl, List.length_drop] at hlt
  rw [Addr.add_mid]
  have h1 := flat_get _ (hs.drop (k + 1)) (j / 7) (j % 7) (by rw [List.length_drop]; omega) (by omega)
  rw [show j / 7 * 7 + j % 7 = j by omega, hj] at h1
  have h2 := hH g L.length cap rfl (k + 1 + j / 7) (j % 7) (by omega) (by omega)
  rw [show (k + 1) * 7 + j = (k + 1 + j / 7) * 7 + j % 7 by omega, h2, h1]
  congr 1
  show L.getD (k + 1 + j / 7) [] = _
  rw [List.getD_eq_getElem?_getD, List.getD_eq_getElem?_getD, List.getElem?_drop]

end Go.Proofs.Ytmdkhkeljpdbiaa
