/- The reference's plain, items, block. -/
import Derived.Test.YtehfoblfmehbdaaDoorNtA
import Derived.Test.YtehfoblfmehbdaaDoorNtB
namespace Go.Proofs.YtehfoblfmehbdaaDoor
open Go.RowKit

set_option maxHeartbeats 1000000 in
set_option maxRecDepth 100000 in
theorem rplain (v : Value) (k : Int) (s : ByteArray) (num pos : Int) (w : World) : Calls Tryd.prog 57 #[.agg #[.int .u8 k, .string s, .int .i64 num, .int .i64 pos, v]] w fun e w' => e = .returned (.bool (plB s num pos)) ∧ Upd [] w w' := by
  have HU0 : Hid (Upd [] w (w.alloc (.cells #[.int .u8 k, .string s, .int .i64 num, .int .i64 pos, v] 25))) := (Upd.refl [] w).alloc _
  unfold plB
  by_cases h1 : s.size = 0
  · rw [decide_eq_true h1]
    have hb := empty_is h1
    clear h1
    subst hb
    cases h2 : (num == 0) with
    | false =>
      go_enter Tryd.func57, Tryd.ntmps57
      go_wp2
      go_ret
      exact ⟨rfl, HU0.out⟩
    | true =>
      by_cases h3 : 0 ≤ pos
      · rw [decide_eq_true h3]
        go_enter Tryd.func57, Tryd.ntmps57
        go_wp2
        go_ret
        exact ⟨rfl, HU0.out⟩
      · have h3' : decide (0 ≤ pos) = false := decide_eq_false h3
        rw [h3']
        go_enter Tryd.func57, Tryd.ntmps57
        go_wp2
        go_ret
        exact ⟨rfl, HU0.out⟩
  · rw [decide_eq_false h1]
    have hb := empty_isn h1
    go_enter Tryd.func57, Tryd.ntmps57
    go_wp2
    go_ret
    exact ⟨rfl, HU0.out⟩
/-- What Item answers of trees of a depth. -/
def ItS (d : Nat) : Prop := ∀ (w : World) (cs : List Value) (t : Nd), NIn w d cs t → nsz t ≤ 20000 → nxz t ≤ 1000000 → Calls Tryd.prog 25 #[.agg cs.toArray] w fun e w' => e = .returned (.bool (isB 0 t)) ∧ Upd [] w w'

set_option maxHeartbeats 1000000 in
set_option maxRecDepth 100000 in
theorem ritems (d : Nat) (ih : ItS d) (w : World) (a : Option Addr) (c : Nat) (K : List Nd) (hK : RowN (NIn w d) w a K) (hz : nszs K ≤ 20000) (hx : nxzs K ≤ 1000000) :
    Calls Tryd.prog 48 #[.slice a K.length c, .int .i64 0] w fun e w' => e = .returned (.bool (K.all (isB 0))) ∧ Upd [] w w' := by
  have hl : K.length ≤ 20000 := Nat.le_trans (nszs_len K) hz
  have HI : Hid (∀ k (hk : k < K.length) W cs, NIn W d cs K[k] → Calls Tryd.prog 25 #[.agg cs.toArray] W fun e w' => e = .returned (.bool (isB 0 K[k])) ∧ Upd [] W w') := fun k hk W cs h => ih W cs K[k] h (Nat.le_trans (nszs_get K k hk) hz) (Nat.le_trans (nxzs_get K k hk) hx)
  have HK : Hid (RowN (NIn w d) w a K) := hK
  clear hK hz hx ih
  go_enter Tryd.func48, Tryd.ntmps48
  go_wp2
  go_loopw [5] (fun i wr => ∃ k : Nat, k ≤ K.length ∧ i = .int .i64 k ∧ (∀ j (h : j < K.length), j < k → isB 0 K[j] = true) ∧ Upd [] w wr) (fun i _ => K.length - (intOf i).toNat)
  case atStart => exact ⟨0, Nat.zero_le _, rfl, fun j _ hj => by omega, Upd.refl _ _⟩
  case round =>
    obtain ⟨k, hk, rfl, hy, hU⟩ := hrel
    have HY : Hid (∀ j (h : j < K.length), j < k → isB 0 K[j] = true) := hy
    clear hy
    by_cases hlt : k < K.length
    · have i1 : (k : Int) < (K.length : Int) := by omega
      rcases HK.out.imp hU (NIn.mono hU d) with h1 | ⟨b, o, rfl, hb, hc⟩
      · rw [h1] at hlt; simp at hlt
      obtain ⟨cs, hl5, hcell, hin⟩ := hc k hlt
      obtain ⟨q0, q1, q2, q3, q4, rfl⟩ := list5 hl5
      have x0 : wr.cell? ⟨b, o + k * 5, none⟩ = some q0 := hcell 0 (by omega)
      have x1 : wr.cell? ⟨b, o + k * 5 + 1, none⟩ = some q1 := hcell 1 (by omega)
      have x2 : wr.cell? ⟨b, o + k * 5 + 2, none⟩ = some q2 := hcell 2 (by omega)
      have x3 : wr.cell? ⟨b, o + k * 5 + 3, none⟩ = some q3 := hcell 3 (by omega)
      have x4 : wr.cell? ⟨b, o + k * 5 + 4, none⟩ = some q4 := hcell 4 (by omega)
      obtain ⟨z, hz⟩ : ∃ z, z = isB 0 K[k] := ⟨_, rfl⟩
      have HC : Hid (Calls Tryd.prog 25 #[.agg #[q0, q1, q2, q3, q4]] wr fun e w' => e = .returned (.bool z) ∧ Upd [] wr w') := by rw [hz]; exact HI.out k hlt wr _ hin
      have HZ : Hid (z = isB 0 K[k]) := hz
      have HU : Hid (Upd [] w wr) := hU
      clear hc hcell hin hz hU hb
      go_wp2_with fail
      refine Calls.mono HC.out ?_
      rintro e w2 ⟨rfl, hU2⟩
      have HU2 : Hid (Upd [] w w2) := HU.out.trans hU2
      clear hU2 x0 x1 x2 x3 x4
      cases z with
      | true =>
        go_wp2
        go_roundw
        case rel => exact ⟨k + 1, by omega, by go_num, fun j h hj => by
          by_cases e : j = k
          · subst e; exact HZ.out.symm
          · exact HY.out j h (by omega), HU2.out⟩
        case measure => simp [intOf]; omega
      | false =>
        go_wp2
        go_ret
        refine ⟨ret_boolN ?_, HU2.out⟩
        symm
        rw [List.all_eq_false]
        exact ⟨K[k], List.getElem_mem hlt, by rw [← HZ.out]; simp⟩
    · have hd : decide ((k : Int) < (K.length : Int)) = false := by simp; omega
      have HA : Hid (K.all (isB 0) = true) := by
        show K.all (isB 0) = true
        rw [List.all_eq_true]
        intro x hx
        obtain ⟨j, hj, rfl⟩ := List.getElem_of_mem hx
        exact HY.out j hj (by omega)
      clear HY HI HK
      go_wp2
      go_ret
      exact ⟨ret_boolN HA.out.symm, hU⟩
/-- The reference's block. -/
def blkB (m : Nat) : Nd → Bool
  | .mk k s num pos K => k == 19 && (plB s num pos && (decide (m ≤ K.length) && K.all (isB 0)))

set_option maxHeartbeats 1000000 in
set_option maxRecDepth 100000 in
theorem rblock (d : Nat) (ih : ItS d) (w : World) (cs : List Value) (t : Nd) (m : Nat) (h : NIn w (d + 1) cs t) (hz : nsz t ≤ 20000) (hx : nxz t ≤ 1000000) :
    Calls Tryd.prog 56 #[.agg cs.toArray, .int .i64 m] w fun e w' => e = .returned (.bool (blkB m t)) ∧ Upd [] w w' := by
  obtain ⟨k, s, num, pos, K⟩ := t
  obtain ⟨a, c, rfl, hK, -⟩ := h
  simp only [nsz] at hz
  simp only [nxz] at hx
  have hl : K.length ≤ 20000 := Nat.le_trans (nszs_len K) hz
  have HU0 : Hid (Upd [] w (w.alloc (.cells #[.int .u8 k, .string s, .int .i64 num, .int .i64 pos, .slice a K.length c] 25))) := (Upd.refl [] w).alloc _
  have tb0 : Tb (w.alloc (.cells #[.int .u8 k, .string s, .int .i64 num, .int .i64 pos, .slice a K.length c] 25)) w.heap.size #[.int .u8 k, .string s, .int .i64 num, .int .i64 pos, .slice a K.length c] := Tb.new _ _ _ rfl
  have HI : Hid (∀ W, Upd [] w W → Calls Tryd.prog 48 #[.slice a K.length c, .int .i64 0] W fun e w' => e = .returned (.bool (K.all (isB 0))) ∧ Upd [] W w') := fun W hu => ritems d ih W a c K (hK.imp hu (NIn.mono hu d)) hz (by omega)
  have HP : Hid (∀ W, Calls Tryd.prog 57 #[.agg #[.int .u8 k, .string s, .int .i64 num, .int .i64 pos, .slice a K.length c]] W fun e w' => e = .returned (.bool (plB s num pos)) ∧ Upd [] W w') := fun W => rplain _ k s num pos W
  rw [blkB]
  generalize K.all (isB 0) = z2 at HI ⊢
  generalize plB s num pos = z1 at HP ⊢
  generalize hmz : decide (m ≤ K.length) = z3
  have HMZ : Hid (decide (m ≤ K.length) = z3) := hmz
  clear hK ih hz hx hmz
  cases h1 : (k == 19) with
  | false =>
    clear tb0
    go_enter Tryd.func56, Tryd.ntmps56
    go_wp2
    go_ret
    exact ⟨rfl, HU0.out⟩
  | true =>
    go_enter Tryd.func56, Tryd.ntmps56
    go_wp2_with (first | (refine load_G _ _ rfl _ _ rfl tb0 rfl rfl ?_) | fail)
    refine (HP.out _).mono ?_
    rintro e w1 ⟨rfl, hu⟩
    have HU1 : Hid (Upd [] w w1) := HU0.out.trans hu
    have tb1 := tb0.mono hu (by simp)
    have e4 : w1.cell? ⟨w.heap.size, 4, none⟩ = some (.slice a K.length c) := tb1.cell 4
    clear hu tb0 tb1
    cases z1 with
    | false =>
      go_wp2
      go_ret
      exact ⟨rfl, HU1.out⟩
    | true =>
      by_cases h2 : (m : Int) ≤ (K.length : Int)
      · have hz3 : z3 = true := by rw [← HMZ.out]; exact decide_eq_true (by omega)
        subst hz3
        go_wp2_with fail
        refine (HI.out _ HU1.out).mono ?_
        rintro e w2 ⟨rfl, hu⟩
        have HU2 : Hid (Upd [] w w2) := HU1.out.trans hu
        clear hu e4
        cases z2 <;> (go_wp2; go_ret; exact ⟨rfl, HU2.out⟩)
      · have h2' : decide ((m : Int) ≤ (K.length : Int)) = false := by simp; omega
        have hz3 : z3 = false := by rw [← HMZ.out]; exact decide_eq_false (by omega)
        subst hz3
        go_wp2
        go_ret
        exact ⟨rfl, HU1.out⟩
theorem blk3 (t : Nd) : blkB 1 t = isB 3 t := by
  obtain ⟨k, s, num, pos, K⟩ := t
  rw [blkB]
  by_cases h : k = 19
  · subst h
    rw [isB_eq 3 19 s num pos K ⟨3, 19, 1, [0], true⟩ (by rfl), isR_one, fld19]
    simp only [kidsN, Bool.or_true, Bool.and_true]
    cases plB s num pos <;> cases decide (1 ≤ K.length) <;> simp
  · have h1 : (k == 19) = false := by simpa using h
    rw [h1, Bool.false_and, isB_none]
    refine formAt_no k 3 fun f hf => ?_
    have hr : rr k 3 = 3 := by unfold rr; simp
    rw [hr]
    simp only [formsL, List.mem_cons, List.not_mem_nil, or_false] at hf
    rcases hf with rfl | rfl | rfl | rfl | rfl | rfl | rfl | rfl | rfl | rfl | rfl | rfl | rfl | rfl | rfl | rfl | rfl | rfl | rfl | rfl | rfl | rfl | rfl | rfl | rfl | rfl | rfl | rfl | rfl | rfl | rfl | rfl | rfl | rfl | rfl | rfl <;> first | rfl | (simp; omega)

end Go.Proofs.YtehfoblfmehbdaaDoor
