/- The document's least. -/
import Derived.Test.YtpemnficdhjkhaaCrA
import Derived.Deep.Cut
namespace Go.Proofs.Ytpemnficdhjkhaa
open Go.RowKit Go.Maps

/-- What least tells, as a function. -/
def foldI (L : List (Int × Int)) : Nat → Int
  | 0 => -1
  | k + 1 => if foldI L k < 0 then (k : Int) else if lx (L.getD k (0, 0)) (L.getD (foldI L k).toNat (0, 0)) = true then (k : Int) else foldI L k
theorem fold_first (L : List (Int × Int)) : foldI L 1 = 0 := by simp [foldI]
theorem getD_at (L : List (Int × Int)) {k : Nat} (hk : k < L.length) : L.getD k (0, 0) = L[k] := by rw [List.getD_eq_getElem?_getD, List.getElem?_eq_getElem hk]; rfl
theorem fold_turn {L : List (Int × Int)} {k j : Nat} (h : foldI L k = j) (hk : k < L.length) (hj : j < L.length) (hx : lx L[k] L[j] = true) : foldI L (k + 1) = k := by
  unfold foldI
  rw [h, if_neg (by omega), Int.toNat_natCast, getD_at L hk, getD_at L hj, if_pos hx]
theorem fold_keep {L : List (Int × Int)} {k j : Nat} (h : foldI L k = j) (hk : k < L.length) (hj : j < L.length) (hx : lx L[k] L[j] = false) : foldI L (k + 1) = j := by
  unfold foldI
  rw [h, if_neg (by omega), Int.toNat_natCast, getD_at L hk, getD_at L hj, if_neg (by rw [hx]; decide)]
theorem fold_spec (L : List (Int × Int)) : ∀ k, k ≤ L.length → (k = 0 ∧ foldI L k = -1) ∨ ∃ j : Nat, Lst L k j ∧ foldI L k = j
  | 0, _ => Or.inl ⟨rfl, rfl⟩
  | k + 1, hk => by
    rcases fold_spec L k (by omega) with ⟨rfl, h⟩ | ⟨j, hl, h⟩
    · exact Or.inr ⟨0, lst_first hk, fold_first L⟩
    · have hj : j < L.length := by have := hl.1; omega
      cases hx : lx L[k] L[j] with
      | true => exact Or.inr ⟨k, lst_turn hl hk (fun _ => hx), fold_turn h hk hj hx⟩
      | false => exact Or.inr ⟨j, lst_keep hl hk (fun _ => hx), fold_keep h hk hj hx⟩
/-- What least tells. -/
def LstR (L : List (Int × Int)) (r : Int) : Prop := (L = [] ∧ r = -1) ∨ ∃ k : Nat, Lst L L.length k ∧ r = k
theorem fold_all (L : List (Int × Int)) : LstR L (foldI L L.length) := by
  rcases fold_spec L L.length (Nat.le_refl _) with ⟨h1, h2⟩ | ⟨j, h1, h2⟩
  · exact Or.inl ⟨List.eq_nil_of_length_eq_zero h1, h2⟩
  · exact Or.inr ⟨j, h1, h2⟩
set_option maxHeartbeats 8000000 in
set_option maxRecDepth 100000 in
theorem least_any (w : World) (B : Nat) (v : Value) (ps : List (Int × Int)) (hr : PR w B v ps) (hn : ps.length ≤ 1000) :
    Calls Try.prog 22 #[v] w fun e w' => e = .returned (.int .i64 (foldI ps ps.length)) ∧ ∃ m, w' = w.drewN m := by
  obtain ⟨p, c, hv⟩ := hr.form
  subst hv
  have HR : Hid (PR w B (.slice p ps.length c) ps) := hr
  clear hr
  go_enter Try.func22, Try.ntmps22
  go_wp2_with fail
  go_loopw [3, 4] (fun s3 s4 wr => ∃ (k m : Nat) (r : Int), k ≤ ps.length ∧ s4 = .int .i64 (k : Nat) ∧ s3 = .int .i64 r ∧ r = foldI ps k ∧ wr = w.drewN m) (fun _ s4 _ => ps.length - (intOf s4).toNat)
  case atStart => exact ⟨0, 0, -1, Nat.zero_le _, rfl, rfl, rfl, rfl⟩
  case round =>
    obtain ⟨k, m, r, hk', rfl, rfl, hrf, hw⟩ := hrel
    have hl : (k = 0 ∧ r = -1) ∨ ∃ j : Nat, Lst ps k j ∧ r = j := by rw [hrf]; exact fold_spec ps k hk'
    have HRF : Hid (r = foldI ps k) := hrf
    clear hrf
    rw [hw]
    clear hw
    by_cases hk : k < ps.length
    · have hkl : (k : Int) < (ps.length : Int) := by omega
      have hkm : (k : Int) + 1 ≤ 9223372036854775807 := by omega
      obtain ⟨g, c', hv, q0, q1⟩ := HR.out.cells hk
      simp only [Value.slice.injEq] at hv
      obtain ⟨rfl, _, rfl⟩ := hv
      obtain ⟨t, y, hty⟩ : ∃ t y, ps[k] = (t, y) := ⟨_, _, rfl⟩
      have HT : Hid (ps[k] = (t, y)) := hty
      rw [hty] at q0 q1
      simp only at q0 q1
      clear hty
      rcases hl with ⟨rfl, rfl⟩ | ⟨j, hl, rfl⟩
      · have b0 : decide ((-1 : Int) < 0) = true := by decide
        clear q0 q1
        go_upto_region 5 with fail
        go_quiet (fail)
        go_wp2_with fail
        go_roundw
        case rel => exact ⟨1, m + nq, 0, hk, by go_num, rfl, (fold_first ps).symm, rfl⟩
        case measure => simp [intOf]; omega
      · have hj : j < ps.length := by have := hl.1; omega
        have hjl : (j : Int) < (ps.length : Int) := by omega
        have hjn : ¬ (j : Int) < 0 := by omega
        have b0 : decide ((j : Int) < 0) = false := decide_eq_false hjn
        obtain ⟨g', c'', hv, q2, q3⟩ := HR.out.cells hj
        simp only [Value.slice.injEq, Option.some.injEq, Addr.mk.injEq, and_true] at hv
        obtain ⟨rfl, _, rfl⟩ := hv
        obtain ⟨s, z, hsz⟩ : ∃ s z, ps[j] = (s, z) := ⟨_, _, rfl⟩
        have HS : Hid (ps[j] = (s, z)) := hsz
        rw [hsz] at q2 q3
        simp only at q2 q3
        clear hsz
        have HL : Hid (Lst ps k j) := hl
        clear hl
        by_cases c1 : t < s
        · have b1 : decide (t < s) = true := decide_eq_true c1
          have HX : Hid (foldI ps (k + 1) = k) := fold_turn HRF.out.symm hk hj ( by rw [HT.out, HS.out, lx_iff]; exact Or.inl c1)
          clear c1
          go_upto_region 5 with fail
          go_quiet (fail)
          go_wp2_with fail
          go_roundw
          case rel => exact ⟨k + 1, m + nq, k, hk, by go_num, rfl, HX.out.symm, rfl⟩
          case measure => simp [intOf]; omega
        · have b1 : decide (t < s) = false := decide_eq_false c1
          by_cases c2 : t = s
          · have b2 : (t == s) = true := by simpa using c2
            by_cases c3 : y < z
            · have b3 : decide (y < z) = true := decide_eq_true c3
              have HX : Hid (foldI ps (k + 1) = k) := fold_turn HRF.out.symm hk hj ( by rw [HT.out, HS.out, lx_iff]; exact Or.inr ⟨c2, c3⟩)
              clear c1 c2 c3
              go_upto_region 5 with fail
              go_quiet (fail)
              go_wp2_with fail
              go_roundw
              case rel => exact ⟨k + 1, m + nq, k, hk, by go_num, rfl, HX.out.symm, rfl⟩
              case measure => simp [intOf]; omega
            · have b3 : decide (y < z) = false := decide_eq_false c3
              have HX : Hid (foldI ps (k + 1) = j) := fold_keep HRF.out.symm hk hj (by
                cases hv : lx ps[k] ps[j]
                · rfl
                · rw [HT.out, HS.out, lx_iff] at hv; simp at hv; omega)
              clear c1 c2 c3
              go_upto_region 5 with fail
              go_quiet (fail)
              go_wp2_with fail
              go_roundw
              case rel => exact ⟨k + 1, m + nq, j, hk, by go_num, rfl, HX.out.symm, rfl⟩
              case measure => simp [intOf]; omega
          · have b2 : (t == s) = false := by simpa using c2
            have HX : Hid (foldI ps (k + 1) = j) := fold_keep HRF.out.symm hk hj (by
              cases hv : lx ps[k] ps[j]
              · rfl
              · rw [HT.out, HS.out, lx_iff] at hv; simp at hv; omega)
            clear c1 c2
            go_upto_region 5 with fail
            go_quiet (fail)
            go_wp2_with fail
            go_roundw
            case rel => exact ⟨k + 1, m + nq, j, hk, by go_num, rfl, HX.out.symm, rfl⟩
            case measure => simp [intOf]; omega
    · obtain rfl : k = ps.length := by omega
      clear hl
      go_wp2_with fail
      go_ret
      exact ⟨by rw [← HRF.out]; rfl, m, rfl⟩

end Go.Proofs.Ytpemnficdhjkhaa
