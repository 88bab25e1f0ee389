/- The kit's SameTexts, SameNameds, Pick. -/
import Derived.Test.YtpojkmpimnnjiaaGreatNmD
import Derived.Laws.StructEq
import Derived.BigQuiet
namespace Go.Proofs.YtpojkmpimnnjiaaGreat
open Go.RowKit Go.Maps

/-- A row of texts. -/
def TR (w : World) (v : Value) (xs : List BS) : Prop := (v = .slice none 0 0 ∧ xs = []) ∨ ∃ g c cs, v = .slice (some ⟨g, 0, none⟩) xs.length c ∧ Cl w g cs 9 ∧ xs.length ≤ maxLen ∧ ∀ i (h : i < xs.length), cs[i]? = some (encStr xs[i])
theorem TR.upd {w w' : World} {v : Value} {xs : List BS} (h : TR w v xs) (hu : Upd [] w w') : TR w' v xs := by
  rcases h with h | ⟨g, c, cs, h1, h2, h3⟩
  · exact Or.inl h
  · exact Or.inr ⟨g, c, cs, h1, h2.upd hu (by simp), h3⟩
theorem TR.nil (w : World) : TR w (.slice none 0 0) [] := Or.inl ⟨rfl, rfl⟩
theorem TR.one {w : World} {g : Nat} {s : BS} (h : Cl w g #[encStr s] 9) : TR w (.slice (some ⟨g, 0, none⟩) 1 1) [s] :=
  Or.inr ⟨g, 1, _, rfl, h, by simp [maxLen], fun i hi => by
    have : i = 0 := by simp at hi; omega
    subst this; rfl⟩
theorem TR.form {w : World} {v : Value} {xs : List BS} (h : TR w v xs) : ∃ p c, v = .slice p xs.length c := by
  rcases h with ⟨h, rfl⟩ | ⟨g, c, cs, h, _⟩
  · exact ⟨none, 0, h⟩
  · exact ⟨_, _, h⟩
theorem TR.le {w : World} {v : Value} {xs : List BS} (h : TR w v xs) : xs.length ≤ maxLen := by
  rcases h with ⟨_, rfl⟩ | ⟨_, _, _, _, _, h, _⟩
  · simp
  · exact h
theorem TR.cell {w : World} {v : Value} {xs : List BS} (h : TR w v xs) {k : Nat} (hk : k < xs.length) : ∃ g c, v = .slice (some ⟨g, 0, none⟩) xs.length c ∧ w.cell? ⟨g, k, none⟩ = some (encStr xs[k]) := by
  rcases h with ⟨_, rfl⟩ | ⟨g, c, cs, h1, h2, _, h3⟩
  · simp at hk
  · exact ⟨g, c, h1, by rw [h2.cell]; exact h3 k hk⟩

def intOf : Value → Int
  | .int _ k => k
  | _ => 0

set_option maxHeartbeats 1000000 in
set_option maxRecDepth 10000 in
theorem sameTexts_any (w : World) (v u : Value) (xs ys : List BS) (h1 : TR w v xs) (h2 : TR w u ys) :
    Calls Tryz.prog 15 #[v, u] w fun e w' => e = .returned (.bool (xs == ys)) ∧ Upd [] w w' := by
  obtain ⟨p, c, hv⟩ := h1.form
  obtain ⟨p', c', hu⟩ := h2.form
  subst hv
  subst hu
  have HL : Hid (xs.length ≤ maxLen) := h1.le
  have H1 : Hid (TR w (.slice p xs.length c) xs) := h1
  have H2 : Hid (TR w (.slice p' ys.length c') ys) := h2
  clear h1 h2
  by_cases hl : xs.length = ys.length
  · have hne : ((xs.length : Int) != (ys.length : Int)) = false := by simp [hl]
    have HE : Hid (xs.length = ys.length) := hl
    clear hl
    go_enter Tryz.func15, Tryz.ntmps15
    go_wp2
    go_loopw [5] (fun i wr => ∃ k : Nat, k ≤ xs.length ∧ i = .int .i64 k ∧ xs.take k = ys.take k ∧ Upd [] w wr) (fun i _ => xs.length - (intOf i).toNat)
    case atStart => exact ⟨0, Nat.zero_le _, rfl, by simp, Upd.refl _ _⟩
    case round =>
      obtain ⟨k, hk, rfl, ht, hU⟩ := hrel
      by_cases hlt : k < xs.length
      · have i1 : (k : Int) < (xs.length : Int) := by omega
        have hlt2 : k < ys.length := by have := HE.out; omega
        have i2 : (k : Int) < (ys.length : Int) := by omega
        obtain ⟨g, c2, e1, d1⟩ := (H1.out.upd hU).cell hlt
        obtain ⟨g', c3, e2, d2⟩ := (H2.out.upd hU).cell hlt2
        simp only [Value.slice.injEq] at e1 e2
        obtain ⟨rfl, _, rfl⟩ := e1
        obtain ⟨rfl, _, rfl⟩ := e2
        have HT : Hid (xs.take k = ys.take k ∧ Upd [] w wr) := ⟨ht, hU⟩
        have HX : Hid (xs.take (k + 1) = xs.take k ++ [xs[k]] ∧ ys.take (k + 1) = ys.take k ++ [ys[k]]) := ⟨List.take_succ_eq_append_getElem hlt, List.take_succ_eq_append_getElem hlt2⟩
        have hkm : (k : Int) + 1 ≤ 9223372036854775807 := by have h3 := HL.out; unfold maxLen at h3; omega
        cases hxy : xs[k] == ys[k] with
        | true =>
          have HY' : xs[k] = ys[k] := by simpa using hxy
          have HY : Hid (xs[k] = ys[k]) := HY'
          clear HY' ht hU
          go_wp2
          go_region
          all_goals
            go_wp2
            go_roundw
            case rel => exact ⟨k + 1, by omega, by go_num, by rw [HX.out.1, HX.out.2, HT.out.1, HY.out], HT.out.2.drew⟩
            case measure => simp [intOf]; omega
        | false =>
          have HR' : (xs == ys) = false := by
            have : xs ≠ ys := fun e => by
              subst e
              simp at hxy
            simpa using this
          have HR : Hid ((xs == ys) = false) := HR'
          clear HR' ht hU
          go_wp2
          go_region
          all_goals
            go_wp2
            go_ret
            exact ⟨by rw [HR.out]; rfl, HT.out.2.drew⟩
      · have hd : decide ((k : Int) < (xs.length : Int)) = false := by simp; omega
        have hR : xs = ys := by
          have hkk : k = xs.length := by omega
          have hl2 : k = ys.length := by have := HE.out; omega
          rw [hkk, List.take_length] at ht
          rw [← hkk, hl2, List.take_length] at ht
          exact ht
        have HR' : (xs == ys) = true := by simpa using hR
        have HR : Hid ((xs == ys) = true) := HR'
        clear ht hR HR'
        go_wp2
        go_ret
        exact ⟨by rw [HR.out]; rfl, hU⟩
  · have hne : ((xs.length : Int) != (ys.length : Int)) = true := by simp; omega
    have HR' : (xs == ys) = false := by
      have : xs ≠ ys := fun e => hl (by rw [e])
      simpa using this
    have HR : Hid ((xs == ys) = false) := HR'
    clear hl HR'
    go_enter Tryz.func15, Tryz.ntmps15
    go_wp2
    go_ret
    exact ⟨by rw [HR.out]; rfl, Upd.refl _ _⟩

/-! ### rows of names -/
theorem guard_nam : Tryz.prog.eqGuardType Tryz.prog.depth 42 = false := by kernel_rfl
theorem eqIn_nam (w : World) (s t : BS) (p q : Int) : (Op.equalIn 10000 42 (namV (s, p)) (namV (t, q))).run Tryz.prog w = .ok ((s == t) && (p == q)) w := by
  have u3 := Tryz.underlying3
  have a3 := Tryz.isAgg3
  have z3 := Tryz.sizeOf3
  have u9 := Tryz.underlying9
  have a9 := Tryz.isAgg9
  have z9 := Tryz.sizeOf9
  have hS : Tryz.prog.underlying 42 = some (.struct (Tryz.prog.fieldsOf 42)) := by kernel_rfl
  have hp : Tryz.prog.stoodInHeld 42 = false := by kernel_rfl
  rw [show (10000 : Nat) = 9999 + 1 from rfl, run_equalIn_agg w 9999 42 _ _ hS hp]
  simp only [Program.fieldsOf, Tryz.underlying42]
  go_simp
  by_cases h1 : s = t <;> by_cases h2 : p = q <;> simp [h1, h2]
theorem eq_nam (w : World) (s t : BS) (p q : Int) : (binOp .eql 42 (namV (s, p)) (namV (t, q))).run Tryz.prog w = .ok (.bool ((s == t) && (p == q))) w := by
  rw [run_eql_struct, eqIn_nam]
  rfl

end Go.Proofs.YtpojkmpimnnjiaaGreat
