/- Scanning: each token of a row, as the walk wants it. -/
import Derived.Test.YtfejdflbilakoaaDoorScD
namespace Go.Proofs.YtfejdflbilakoaaDoor.Sc

theorem read_short (s : List UInt8) (k n : Nat) (t : List UInt8) (h : read s = .tok k t n) : t.length ≤ 400 := by
  cases s with
  | nil => cases h
  | cons c r =>
    have hq : ∀ kind most, most ≤ 400 → readQuoted (c :: r) kind most = .tok k t n → t.length ≤ 400 := by
      intro kind most hm h
      unfold readQuoted at h
      split at h
      · cases h
      · split at h
        · cases h
        · simp only [Fd.tok.injEq] at h
          rw [← h.2.1]; omega
    simp only [read] at h
    split at h
    · unfold readName at h
      split at h
      · cases h
      · simp only [Fd.tok.injEq] at h
        rw [← h.2.1, List.length_take]; omega
    · split at h
      · unfold readDigits at h
        split at h
        · cases h
        · rename_i h4
          simp only [Bool.or_eq_true, decide_eq_true_eq, not_or] at h4
          simp only [Fd.tok.injEq] at h
          rw [← h.2.1, List.length_take]; omega
      · split at h
        · exact hq _ _ (by omega) h
        · split at h
          · exact hq _ _ (by omega) h
          · split at h
            · simp only [Fd.tok.injEq] at h
              rw [← h.2.1]; simp
            · unfold readSign at h
              split at h
              · cases h
              · simp only [Fd.tok.injEq] at h
                rw [← h.2.1]
                rcases longest_mem (c :: r) signs [] with e | ⟨hm, _⟩
                · rw [e]; simp
                · have : ∀ g, g ∈ signs → g.length ≤ 3 := by decide
                  have := this _ hm
                  omega

/-- What stands at a place of the row. -/
structure Here (s : List UInt8) (l : List Tok) (k : Nat) (t : Tok) : Prop where
  rise : ∀ (_ : 0 < k) (h2 : k - 1 < l.length), l[k - 1].place < t.place
  le : t.place ≤ s.length
  last : t.kind = 8 ↔ k = l.length - 1
  short : t.text.length ≤ 400
  small : t.kind ≤ 8
  text : t.kind ≠ 8 → t.kind ≠ 2 → t.kind ≠ 4 → 0 < t.text.length ∧ t.place + t.text.length ≤ s.length ∧ (s.take (t.place + t.text.length)).drop t.place = t.text
theorem Row.here {s : List UInt8} {place : Nat} {l : List Tok} (h : Row s place l) (k : Nat) (hk : k < l.length) : Here s l k l[k] := by
  by_cases hl : k + 1 < l.length
  · obtain ⟨hf, hp⟩ := h.fine k hk hl
    refine ⟨fun h1 h2 => ?_, by omega, ⟨fun e => ?_, fun e => by omega⟩, ?_, by have := hf.kind; omega, fun _ h2 h4 => ?_⟩
    · have := h.rise (k - 1) (by omega)
      simp only [show k - 1 + 1 = k by omega] at this
      exact this
    · have := hf.kind; omega
    · have hg := hf.good
      unfold Good at hg
      exact read_short _ _ _ _ hg
    · obtain ⟨hne, hpre⟩ := hf.text h2 h4
      have hlen := hpre.length_le
      rw [List.length_drop] at hlen
      have hpos : 0 < l[k].text.length := by rw [List.length_pos_iff]; exact hne
      refine ⟨hpos, by omega, ?_⟩
      have := List.prefix_iff_eq_take.1 hpre
      rw [List.drop_take, show l[k].place + l[k].text.length - l[k].place = l[k].text.length by omega]
      exact this.symm
  · have e : k = l.length - 1 := by omega
    have hl' := h.last (by omega)
    have ek : l[k] = ⟨8, [], s.length⟩ := by subst e; exact hl'
    rw [ek]
    refine ⟨fun h1 h2 => ?_, Nat.le_refl _, ⟨fun _ => e, fun _ => rfl⟩, by simp, Nat.le_refl _, fun h => absurd rfl h⟩
    have := h.rise (k - 1) (by omega)
    simp only [show k - 1 + 1 = k by omega] at this
    rw [ek] at this
    exact this
theorem spell_succ (l : List Tok) (k : Nat) (hk : k < l.length) : spell (l.take (k + 1)) = spell (l.take k) ++ spelt l[k].kind l[k].text ++ filler := by
  unfold spell
  rw [List.take_succ_eq_append_getElem hk, List.flatMap_append, List.append_assoc, List.flatMap_singleton]
theorem spelt_len (k : Nat) (t : List UInt8) (h : t.length ≤ 400) : (spelt k t).length ≤ 1602 := by
  unfold spelt
  split
  · simp [esc_len]; omega
  · split
    · simp [esc_len]; omega
    · omega

end Go.Proofs.YtfejdflbilakoaaDoor.Sc
