/- The kit's SameNameds; rows of names. -/
import Derived.Test.YtpojkmpimnnjiaaGreatNmT
namespace Go.Proofs.YtpojkmpimnnjiaaGreat
open Go.RowKit Go.Maps

theorem flat_list : ∀ ms : List Nd, (List.range (ms.length * 2)).map (fun t => (cellsN ms[t / 2]!)[t % 2]!) = ms.flatMap cellsN
  | [] => rfl
  | m :: r => by
    have e : (m :: r).length * 2 = 2 + r.length * 2 := by simp; omega
    rw [e, List.range_add, List.map_append, List.flatMap_cons, ← flat_list r, List.map_map]
    have e1 : (List.range 2).map (fun t => (cellsN (m :: r)[t / 2]!)[t % 2]!) = cellsN m := rfl
    rw [e1]
    refine congrArg (cellsN m ++ ·) (List.map_congr_left fun t _ => ?_)
    have h1 : (2 + t) / 2 = t / 2 + 1 := by omega
    have h2 : (2 + t) % 2 = t % 2 := by omega
    simp only [Function.comp]
    rw [h1, h2]
    rfl
theorem MR.form {w : World} {B : Nat} {v : Value} {ms : List Nd} (h : MR w B v ms) : ∃ p c, v = .slice p ms.length c := by
  rcases h.2 with ⟨h1, h2⟩ | ⟨g, cap, cur, h1, _⟩
  · exact ⟨none, 0, by rw [h1, h2]⟩
  · exact ⟨_, _, h1⟩
theorem MR.le {w : World} {B : Nat} {v : Value} {ms : List Nd} (h : MR w B v ms) : ms.length ≤ maxLen := by
  rcases h.2 with ⟨_, h2⟩ | ⟨g, cap, cur, _, _, _, h1, h2, _⟩
  · omega
  · omega
theorem MR.cells {w : World} {B : Nat} {v : Value} {ms : List Nd} (h : MR w B v ms) {k : Nat} (hk : k < ms.length) : ∃ g c, v = .slice (some ⟨g, 0, none⟩) ms.length c ∧ w.cell? ⟨g, k * 2, none⟩ = some (encStr ms[k].1) ∧ w.cell? ⟨g, k * 2 + 1, none⟩ = some (.int .i64 ms[k].2) := by
  rcases h.2 with ⟨_, h2⟩ | ⟨g, cap, cur, h1, _, hg, _, _, _, ht⟩
  · omega
  · have hat : ∀ j, j < 2 → w.cell? ⟨g, k * 2 + j, none⟩ = (cellsN ms[k])[j]? := by
      intro j hj
      rw [cell_of_row w g _ _ _ _ hg]
      have h3 : (cur.toList.take (ms.length * 2))[k * 2 + j]? = (ms.flatMap cellsN)[k * 2 + j]? := by rw [ht]
      rw [List.getElem?_take_of_lt (by omega), Array.getElem?_toList] at h3
      rw [h3, ← flat_list, List.getElem?_map, List.getElem?_range (by omega)]
      have e1 : (k * 2 + j) / 2 = k := by omega
      have e2 : (k * 2 + j) % 2 = j := by omega
      simp only [Option.map_some]
      rw [e1, e2, getElem!_pos ms k hk]
      match j, hj with
      | 0, _ => rfl
      | 1, _ => rfl
    exact ⟨g, cap, h1, hat 0 (by omega), hat 1 (by omega)⟩

set_option maxHeartbeats 1000000 in
set_option maxRecDepth 10000 in
theorem sameNameds_any (w : World) (B B' : Nat) (v u : Value) (xs ys : List Nd) (h1 : MR w B v xs) (h2 : MR w B' u ys) :
    Calls Tryz.prog 9 #[v, u] w fun e w' => e = .returned (.bool (xs == ys)) ∧ Upd [] w w' := by
  obtain ⟨p, c, hv⟩ := h1.form
  obtain ⟨p', c', hu⟩ := h2.form
  subst hv
  subst hu
  have HL : Hid (xs.length ≤ maxLen) := h1.le
  have H1 : Hid (MR w B (.slice p xs.length c) xs) := h1
  have H2 : Hid (MR w B' (.slice p' ys.length c') ys) := h2
  have hgm := guard_nam
  clear h1 h2
  by_cases hl : xs.length = ys.length
  · have hne : ((xs.length : Int) != (ys.length : Int)) = false := by simp [hl]
    have HE : Hid (xs.length = ys.length) := hl
    clear hl
    go_enter Tryz.func9, Tryz.ntmps9
    go_wp2
    go_loopw [5] (fun i wr => ∃ k : Nat, k ≤ xs.length ∧ i = .int .i64 k ∧ xs.take k = ys.take k ∧ Upd [] w wr) (fun i _ => xs.length - (intOf i).toNat)
    case atStart => exact ⟨0, Nat.zero_le _, rfl, by simp, Upd.refl _ _⟩
    case round =>
      obtain ⟨k, hk, rfl, ht, hU⟩ := hrel
      by_cases hlt : k < xs.length
      · have i1 : (k : Int) < (xs.length : Int) := by omega
        have hlt2 : k < ys.length := by have := HE.out; omega
        have i2 : (k : Int) < (ys.length : Int) := by omega
        obtain ⟨g, c2, e1, d1, d2⟩ := (H1.out.upd hU).cells hlt
        obtain ⟨g', c3, e2, f1, f2⟩ := (H2.out.upd hU).cells hlt2
        simp only [Value.slice.injEq] at e1 e2
        obtain ⟨rfl, _, rfl⟩ := e1
        obtain ⟨rfl, _, rfl⟩ := e2
        have HT : Hid (xs.take k = ys.take k ∧ Upd [] w wr) := ⟨ht, hU⟩
        have HX : Hid (xs.take (k + 1) = xs.take k ++ [xs[k]] ∧ ys.take (k + 1) = ys.take k ++ [ys[k]]) := ⟨List.take_succ_eq_append_getElem hlt, List.take_succ_eq_append_getElem hlt2⟩
        have hkm : (k : Int) + 1 ≤ 9223372036854775807 := by have h3 := HL.out; unfold maxLen at h3; omega
        obtain ⟨s, q, hs⟩ : ∃ s q, xs[k] = (s, q) := ⟨_, _, rfl⟩
        obtain ⟨s', q', hs'⟩ : ∃ s q, ys[k] = (s, q) := ⟨_, _, rfl⟩
        rw [hs] at d1 d2
        rw [hs'] at f1 f2
        simp only at d1 d2 f1 f2
        have HS : Hid (xs[k] = (s, q) ∧ ys[k] = (s', q')) := ⟨hs, hs'⟩
        obtain ⟨dd, hdd⟩ : ∃ dd, dd = ((s == s') && (q == q')) := ⟨_, rfl⟩
        have heq : ∀ W, (binOp .eql 42 (.agg #[encStr s, .int .i64 q]) (.agg #[encStr s', .int .i64 q'])).run Tryz.prog W = .ok (.bool dd) W := fun W => by rw [hdd]; exact eq_nam W _ _ _ _
        have heq2 : ∀ W, (Op.equalIn 10000 42 (.agg #[encStr s, .int .i64 q]) (.agg #[encStr s', .int .i64 q'])).run Tryz.prog W = .ok dd W := fun W => by rw [hdd]; exact eqIn_nam W _ _ _ _
        have HD : Hid (dd = (xs[k] == ys[k])) := by rw [hs, hs']; exact hdd
        clear hs hs' hdd ht hU
        cases dd with
        | true =>
          go_wp2
          go_region
          all_goals
            go_wp2
            go_roundw
            case rel => exact ⟨k + 1, by omega, by go_num, by rw [HX.out.1, HX.out.2, HT.out.1, show xs[k] = ys[k] by simpa using HD.out.symm], HT.out.2.drew⟩
            case measure => simp [intOf]; omega
        | false =>
          have HR' : (xs == ys) = false := by
            have : xs ≠ ys := fun e => by
              subst e
              have := HD.out
              simp at this
            simpa using this
          have HR : Hid ((xs == ys) = false) := HR'
          clear HR'
          go_wp2
          go_region
          all_goals
            go_wp2
            go_ret
            exact ⟨by rw [HR.out]; rfl, HT.out.2.drew⟩
      · have hd : decide ((k : Int) < (xs.length : Int)) = false := by simp; omega
        have hR : xs = ys := by
          have hkk : k = xs.length := by omega
          have hl2 : k = ys.length := by have := HE.out; omega
          rw [hkk, List.take_length] at ht
          rw [← hkk, hl2, List.take_length] at ht
          exact ht
        have HR' : (xs == ys) = true := by simpa using hR
        have HR : Hid ((xs == ys) = true) := HR'
        clear ht hR HR'
        go_wp2
        go_ret
        exact ⟨by rw [HR.out]; rfl, hU⟩
  · have hne : ((xs.length : Int) != (ys.length : Int)) = true := by simp; omega
    have HR' : (xs == ys) = false := by
      have : xs ≠ ys := fun e => hl (by rw [e])
      simpa using this
    have HR : Hid ((xs == ys) = false) := HR'
    clear hl HR'
    go_enter Tryz.func9, Tryz.ntmps9
    go_wp2
    go_ret
    exact ⟨by rw [HR.out]; rfl, Upd.refl _ _⟩

end Go.Proofs.YtpojkmpimnnjiaaGreat
