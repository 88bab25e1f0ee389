/- The kit's SameInts; sorted rows. -/
import Derived.Test.YtofcniodobjopaaGreatLkQ
import Derived.BigQuiet
namespace Go.Proofs.YtofcniodobjopaaGreat
open Go.RowKit Go.Maps

set_option maxHeartbeats 1000000 in
set_option maxRecDepth 10000 in
theorem sameInts_any (w : World) (B B' : Nat) (v u : Value) (xs ys : List Int) (h1 : IR w B v xs) (h2 : IR w B' u ys) :
    Calls Tryz.prog 7 #[v, u] w fun e w' => e = .returned (.bool (xs == ys)) ∧ Upd [] w w' := by
  obtain ⟨p, c, hv⟩ := h1.form
  obtain ⟨p', c', hu⟩ := h2.form
  subst hv
  subst hu
  have hx := h1.le
  have H1 : Hid (IR w B (.slice p xs.length c) xs) := h1
  have H2 : Hid (IR w B' (.slice p' ys.length c') ys) := h2
  have HL : Hid (xs.length ≤ maxLen) := hx
  clear h1 h2 hx
  by_cases hl : xs.length = ys.length
  · have hne : ((xs.length : Int) != (ys.length : Int)) = false := by simp [hl]
    have HE : Hid (xs.length = ys.length) := hl
    clear hl
    go_enter Tryz.func7, Tryz.ntmps7
    go_wp2
    go_loopw [5] (fun i wr => ∃ k : Nat, k ≤ xs.length ∧ i = .int .i64 k ∧ xs.take k = ys.take k ∧ Upd [] w wr) (fun i _ => xs.length - (intOf i).toNat)
    case atStart => exact ⟨0, Nat.zero_le _, rfl, by simp, Upd.refl _ _⟩
    case round =>
      obtain ⟨k, hk, rfl, ht, hU⟩ := hrel
      by_cases hlt : k < xs.length
      · have i1 : (k : Int) < (xs.length : Int) := by omega
        have hlt2 : k < ys.length := by have := HE.out; omega
        have i2 : (k : Int) < (ys.length : Int) := by omega
        obtain ⟨g, c2, e1, d1⟩ := (H1.out.upd hU).cell hlt
        obtain ⟨g', c3, e2, d2⟩ := (H2.out.upd hU).cell hlt2
        simp only [Value.slice.injEq] at e1 e2
        obtain ⟨rfl, _, rfl⟩ := e1
        obtain ⟨rfl, _, rfl⟩ := e2
        have HT : Hid (xs.take k = ys.take k ∧ Upd [] w wr) := ⟨ht, hU⟩
        have HX : Hid (xs.take (k + 1) = xs.take k ++ [xs[k]] ∧ ys.take (k + 1) = ys.take k ++ [ys[k]]) := ⟨List.take_succ_eq_append_getElem hlt, List.take_succ_eq_append_getElem hlt2⟩
        have hkm : (k : Int) + 1 ≤ 9223372036854775807 := by have h3 := HL.out; unfold maxLen at h3; omega
        cases hxy : xs[k] == ys[k] with
        | true =>
          have hn : (xs[k] != ys[k]) = false := by unfold bne; rw [hxy]; rfl
          have HY' : xs[k] = ys[k] := by simpa using hxy
          have HY : Hid (xs[k] = ys[k]) := HY'
          clear HY'
          clear ht hU hxy
          go_wp2
          go_region
          all_goals
            go_wp2
            go_roundw
            case rel => exact ⟨k + 1, by omega, by go_num, by rw [HX.out.1, HX.out.2, HT.out.1, HY.out], HT.out.2.drew⟩
            case measure => simp [intOf]; omega
        | false =>
          have hn : (xs[k] != ys[k]) = true := by unfold bne; rw [hxy]; rfl
          have HR' : (xs == ys) = false := by
            have : xs ≠ ys := fun e => by
              subst e
              simp at hxy
            simpa using this
          have HR : Hid ((xs == ys) = false) := HR'
          clear HR'
          clear ht hU hxy
          go_wp2
          go_region
          all_goals
            go_wp2
            go_ret
            exact ⟨by rw [HR.out]; rfl, HT.out.2.drew⟩
      · have hd : decide ((k : Int) < (xs.length : Int)) = false := by simp; omega
        have hR : xs = ys := by
          have hkk : k = xs.length := by omega
          have hl2 : k = ys.length := by have := HE.out; omega
          rw [hkk, List.take_length] at ht
          rw [← hkk, hl2, List.take_length] at ht
          exact ht
        have HR' : (xs == ys) = true := by simpa using hR
        have HR : Hid ((xs == ys) = true) := HR'
        clear ht hR HR'
        go_wp2
        go_ret
        exact ⟨by rw [HR.out]; rfl, hU⟩
  · have hne : ((xs.length : Int) != (ys.length : Int)) = true := by simp; omega
    have HR' : (xs == ys) = false := by
      have : xs ≠ ys := fun e => hl (by rw [e])
      simpa using this
    have HR : Hid ((xs == ys) = false) := HR'
    clear hl HR'
    go_enter Tryz.func7, Tryz.ntmps7
    go_wp2
    go_ret
    exact ⟨by rw [HR.out]; rfl, Upd.refl _ _⟩

/-- Two rising lists of the same ints are one. -/
theorem sorted_one {xs ys : List Int} (h1 : xs.Pairwise (· < ·)) (h2 : ys.Pairwise (· < ·)) (h : ∀ x, x ∈ xs ↔ x ∈ ys) : xs = ys := by
  have n1 : xs.Nodup := h1.imp (fun h => by omega)
  have n2 : ys.Nodup := h2.imp (fun h => by omega)
  have hp : xs.Perm ys := (List.perm_ext_iff_of_nodup n1 n2).2 h
  exact hp.eq_of_pairwise (le := fun a b => a < b) (fun a b _ _ h3 h4 => by omega) h1 h2
theorem mons_one {xs ys : List Mon} (h1 : xs.Pairwise (fun a b => a.1 < b.1)) (h2 : ys.Pairwise (fun a b => a.1 < b.1)) (h : ∀ x, x ∈ xs ↔ x ∈ ys) : xs = ys := by
  have n1 : xs.Nodup := h1.imp (fun h e => by rw [e] at h; omega)
  have n2 : ys.Nodup := h2.imp (fun h e => by rw [e] at h; omega)
  have hp : xs.Perm ys := (List.perm_ext_iff_of_nodup n1 n2).2 h
  exact hp.eq_of_pairwise (le := fun a b => a.1 < b.1) (fun a b _ _ h3 h4 => by omega) h1 h2

end Go.Proofs.YtofcniodobjopaaGreat
