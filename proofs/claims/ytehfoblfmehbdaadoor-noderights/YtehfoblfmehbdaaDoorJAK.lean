/- The reference's clauses, after. -/
import Derived.Test.YtehfoblfmehbdaaDoorNtD

namespace Go.Proofs.YtehfoblfmehbdaaDoor
open Go.RowKit

theorem rclauseD (d : Nat) (ih : ItS d) (w : World) (cs : List Value) (t : Nd) (p : Int) (h : NIn w d cs t) (hz : nsz t ≤ 20000) (hx : nxz t ≤ 1000000) :
    Calls Tryd.prog 66 #[.agg cs.toArray, .int .i64 p] w fun e w' => e = .returned (.bool (clB p t)) ∧ Upd [] w w' := by
  cases d with
  | zero => exact h.elim
  | succ d => exact rclause d ih w cs t p h hz hx
theorem rblockD (d : Nat) (ih : ItS d) (w : World) (cs : List Value) (t : Nd) (m : Nat) (h : NIn w d cs t) (hz : nsz t ≤ 20000) (hx : nxz t ≤ 1000000) :
    Calls Tryd.prog 56 #[.agg cs.toArray, .int .i64 m] w fun e w' => e = .returned (.bool (blkB m t)) ∧ Upd [] w w' := rblock d ih w cs t m (NIn.more _ _ _ h) hz hx
/-- From one on, all of them. -/
def allF (q : Nd → Bool) (f : Nat) (K : List Nd) : Bool := (K.drop f).all q
theorem allF_true {q : Nd → Bool} {f : Nat} {K : List Nd} (h : ∀ j (hj : j < K.length), f ≤ j → q K[j] = true) : allF q f K = true := by
  unfold allF
  rw [List.all_eq_true]
  intro x hx
  obtain ⟨j, hj, rfl⟩ := List.getElem_of_mem hx
  rw [List.getElem_drop]
  exact h _ _ (by omega)
theorem allF_false {q : Nd → Bool} {f k : Nat} {K : List Nd} (hk : k < K.length) (hf : f ≤ k) (h : q K[k] = false) : allF q f K = false := by
  unfold allF
  rw [List.all_eq_false]
  refine ⟨K[k], ?_, by rw [h]; simp⟩
  rw [List.mem_drop_iff_getElem]
  exact ⟨k - f, by omega, by simp [show f + (k - f) = k by omega]⟩

set_option maxHeartbeats 1000000 in
set_option maxRecDepth 100000 in
theorem rclauses (d : Nat) (ih : ItS d) (w : World) (a : Option Addr) (c f : Nat) (p : Int) (K : List Nd) (_hf : f ≤ 1) (hK : RowN (NIn w d) w a K) (hz : nszs K ≤ 20000) (hx : nxzs K ≤ 1000000) :
    Calls Tryd.prog 51 #[.slice a K.length c, .int .i64 f, .int .i64 p] w fun e w' => e = .returned (.bool (allF (clB p) f K && decide (f < K.length))) ∧ Upd [] w w' := by
  have hl : K.length ≤ 20000 := Nat.le_trans (nszs_len K) hz
  have HI : Hid (∀ k (hk : k < K.length) W cs, NIn W d cs K[k] → Calls Tryd.prog 66 #[.agg cs.toArray, .int .i64 p] W fun e w' => e = .returned (.bool (clB p K[k])) ∧ Upd [] W w') := fun k hk W cs h => rclauseD d ih W cs K[k] p h (Nat.le_trans (nszs_get K k hk) hz) (Nat.le_trans (nxzs_get K k hk) hx)
  have HK : Hid (RowN (NIn w d) w a K) := hK
  obtain ⟨R, hR⟩ : ∃ R, R = (allF (clB p) f K && decide (f < K.length)) := ⟨_, rfl⟩
  rw [← hR]
  have HR : Hid (R = (allF (clB p) f K && decide (f < K.length))) := hR
  clear hK hz hx ih hR
  go_enter Tryd.func51, Tryd.ntmps51
  go_wp2
  go_loopw [7] (fun i wr => ∃ k : Nat, f ≤ k ∧ (k ≤ K.length ∨ k = f) ∧ i = .int .i64 k ∧ (∀ j (h : j < K.length), f ≤ j → j < k → clB p K[j] = true) ∧ Upd [] w wr) (fun i _ => K.length - (intOf i).toNat)
  case atStart => exact ⟨f, Nat.le_refl _, Or.inr rfl, rfl, fun j _ h1 h2 => by omega, Upd.refl _ _⟩
  case round =>
    obtain ⟨k, hfk, hk, rfl, hy, hU⟩ := hrel
    have HY : Hid (∀ j (h : j < K.length), f ≤ j → j < k → clB p K[j] = true) := hy
    clear hy
    by_cases hlt : k < K.length
    · have i1 : (k : Int) < (K.length : Int) := by omega
      rcases HK.out.imp hU (NIn.mono hU d) with h1 | ⟨b, o, rfl, hb, hc⟩
      · rw [h1] at hlt; simp at hlt
      obtain ⟨cs, hl5, hcell, hin⟩ := hc k hlt
      obtain ⟨q0, q1, q2, q3, q4, rfl⟩ := list5 hl5
      have x0 : wr.cell? ⟨b, o + k * 5, none⟩ = some q0 := hcell 0 (by omega)
      have x1 : wr.cell? ⟨b, o + k * 5 + 1, none⟩ = some q1 := hcell 1 (by omega)
      have x2 : wr.cell? ⟨b, o + k * 5 + 2, none⟩ = some q2 := hcell 2 (by omega)
      have x3 : wr.cell? ⟨b, o + k * 5 + 3, none⟩ = some q3 := hcell 3 (by omega)
      have x4 : wr.cell? ⟨b, o + k * 5 + 4, none⟩ = some q4 := hcell 4 (by omega)
      obtain ⟨z, hz⟩ : ∃ z, z = clB p K[k] := ⟨_, rfl⟩
      have HC : Hid (Calls Tryd.prog 66 #[.agg #[q0, q1, q2, q3, q4], .int .i64 p] wr fun e w' => e = .returned (.bool z) ∧ Upd [] wr w') := by rw [hz]; exact HI.out k hlt wr _ hin
      have HZ : Hid (z = clB p K[k]) := hz
      have HU : Hid (Upd [] w wr) := hU
      clear hc hcell hin hz hU hb
      go_wp2_with fail
      refine Calls.mono HC.out ?_
      rintro e w2 ⟨rfl, hU2⟩
      have HU2 : Hid (Upd [] w w2) := HU.out.trans hU2
      clear hU2 x0 x1 x2 x3 x4
      cases z with
      | true =>
        go_wp2
        go_roundw
        case rel => exact ⟨k + 1, by omega, Or.inl (by omega), by go_num, fun j h h1 hj => by
          by_cases e : j = k
          · subst e; exact HZ.out.symm
          · exact HY.out j h h1 (by omega), HU2.out⟩
        case measure => simp [intOf]; omega
      | false =>
        have HF : Hid (R = false) := by show R = false; rw [HR.out, allF_false hlt hfk HZ.out.symm, Bool.false_and]
        clear HR HY HI HK
        go_wp2
        go_ret
        exact ⟨ret_boolN HF.out.symm, HU2.out⟩
    · have hd : decide ((k : Int) < (K.length : Int)) = false := by simp; omega
      have HA : Hid (R = decide (f < K.length)) := by
        show R = _
        rw [HR.out, allF_true (fun j hj h1 => HY.out j hj h1 (by omega)), Bool.true_and]
      clear HY HI HK HR
      by_cases hfl : (f : Int) < (K.length : Int)
      · have HB : Hid (R = true) := by show R = true; rw [HA.out]; exact decide_eq_true (by omega)
        clear HA
        go_wp2
        go_ret
        exact ⟨ret_boolN HB.out.symm, hU⟩
      · have hfl' : decide ((f : Int) < (K.length : Int)) = false := by simp; omega
        have HB : Hid (R = false) := by show R = false; rw [HA.out]; exact decide_eq_false (by omega)
        clear HA
        go_wp2
        go_ret
        exact ⟨ret_boolN HB.out.symm, hU⟩

/-- The reference's after. -/
def afK : List Nd → Bool
  | [x, y] => isB 0 x && blkB 1 y
  | _ => false
def afB : Nd → Bool
  | .mk k s num pos K => k == 15 && (plB s num pos && afK K)
theorem afK_no (K : List Nd) (h : K.length ≠ 2) : afK K = false := by
  match K, h with
  | [], _ => rfl
  | [_], _ => rfl
  | [_, _], h => exact absurd rfl h
  | _ :: _ :: _ :: _, _ => rfl
theorem row_two {w : World} {d : Nat} {a : Option Addr} {x y : Nd} (h : RowN (NIn w d) w a [x, y]) : ∃ b o, a = some ⟨b, o, none⟩ ∧ b < w.heap.size ∧ ∃ q0 q1 q2 q3 q4 p0 p1 p2 p3 p4, NIn w d [q0, q1, q2, q3, q4] x ∧ NIn w d [p0, p1, p2, p3, p4] y ∧
    ∀ j, j < 10 → w.cell? ⟨b, o + j, none⟩ = [q0, q1, q2, q3, q4, p0, p1, p2, p3, p4][j]? := by
  rcases h with h | ⟨b, o, rfl, hb, hc⟩
  · cases h
  obtain ⟨c0, l0, g0, n0⟩ := hc 0 (by simp)
  obtain ⟨c1, l1, g1, n1⟩ := hc 1 (by simp)
  obtain ⟨q0, q1, q2, q3, q4, rfl⟩ := list5 l0
  obtain ⟨p0, p1, p2, p3, p4, rfl⟩ := list5 l1
  refine ⟨b, o, rfl, hb, q0, q1, q2, q3, q4, p0, p1, p2, p3, p4, n0, n1, fun j hj => ?_⟩
  by_cases h1 : j < 5
  · have := g0 j h1
    rw [Nat.zero_mul, Nat.zero_add] at this
    rw [this]
    match j, h1 with
    | 0, _ => rfl
    | 1, _ => rfl
    | 2, _ => rfl
    | 3, _ => rfl
    | 4, _ => rfl
  · obtain ⟨i, rfl⟩ : ∃ i, j = 5 + i := ⟨j - 5, by omega⟩
    have := g1 i (by omega)
    rw [Nat.one_mul] at this
    rw [this]
    match i, (show i < 5 by omega) with
    | 0, _ => rfl
    | 1, _ => rfl
    | 2, _ => rfl
    | 3, _ => rfl
    | 4, _ => rfl

set_option maxHeartbeats 2000000 in
set_option maxRecDepth 100000 in
theorem rafter (d : Nat) (ih : ItS d) (w : World) (cs : List Value) (t : Nd) (h : NIn w d cs t) (hz : nsz t ≤ 20000) (hx : nxz t ≤ 1000000) :
    Calls Tryd.prog 67 #[.agg cs.toArray] w fun e w' => e = .returned (.bool (afB t)) ∧ Upd [] w w' := by
  obtain ⟨k, s, num, pos, K⟩ := t
  obtain ⟨a, c, rfl, hK, -⟩ := NIn.more _ _ _ h
  simp only [nsz] at hz
  simp only [nxz] at hx
  have hl : K.length ≤ 20000 := Nat.le_trans (nszs_len K) hz
  have HU0 : Hid (Upd [] w (w.alloc (.cells #[.int .u8 k, .string s, .int .i64 num, .int .i64 pos, .slice a K.length c] 25))) := (Upd.refl [] w).alloc _
  have tb0 : Tb (w.alloc (.cells #[.int .u8 k, .string s, .int .i64 num, .int .i64 pos, .slice a K.length c] 25)) w.heap.size #[.int .u8 k, .string s, .int .i64 num, .int .i64 pos, .slice a K.length c] := Tb.new _ _ _ rfl
  have HP : Hid (∀ W, Calls Tryd.prog 57 #[.agg #[.int .u8 k, .string s, .int .i64 num, .int .i64 pos, .slice a K.length c]] W fun e w' => e = .returned (.bool (plB s num pos)) ∧ Upd [] W w') := fun W => rplain _ k s num pos W
  obtain ⟨R, hR⟩ : ∃ R, R = afB (.mk k s num pos K) := ⟨_, rfl⟩
  rw [← hR]
  rw [afB] at hR
  generalize plB s num pos = z1 at HP hR
  have HR : Hid (R = _) := hR
  clear hR h
  cases h1 : (k == 15) with
  | false =>
    have HF : Hid (R = false) := by show R = false; rw [HR.out, h1, Bool.false_and]
    clear tb0 HR HP hK
    go_enter Tryd.func67, Tryd.ntmps67
    go_wp2
    go_ret
    exact ⟨ret_boolN HF.out.symm, HU0.out⟩
  | true =>
    rw [h1, Bool.true_and] at HR
    have HKK : Hid (RowN (NIn w d) w a K) := hK
    clear hK
    go_enter Tryd.func67, Tryd.ntmps67
    go_wp2_with (first | (refine load_G _ _ rfl _ _ rfl tb0 rfl rfl ?_) | fail)
    refine (HP.out _).mono ?_
    rintro e w1 ⟨rfl, hu⟩
    have HU1 : Hid (Upd [] w w1) := HU0.out.trans hu
    have tb1 := tb0.mono hu (by simp)
    have e4 : w1.cell? ⟨w.heap.size, 4, none⟩ = some (.slice a K.length c) := tb1.cell 4
    have HT1 : Hid (Tb w1 w.heap.size #[.int .u8 k, .string s, .int .i64 num, .int .i64 pos, .slice a K.length c]) := tb1
    clear hu tb0 tb1 HP
    cases z1 with
    | false =>
      have HF : Hid (R = false) := by show R = false; rw [HR.out, Bool.false_and]
      clear HR
      go_wp2
      go_ret
      exact ⟨ret_boolN HF.out.symm, HU1.out⟩
    | true =>
      rw [Bool.true_and] at HR
      by_cases h3 : K.length = 2
      · obtain ⟨x, y, rfl⟩ : ∃ x y, K = [x, y] := by
          match K, h3 with
          | [x, y], _ => exact ⟨x, y, rfl⟩
        obtain ⟨b, o, rfl, hb, q0, q1, q2, q3, q4, p0, p1, p2, p3, p4, nx, ny, hcell⟩ := row_two HKK.out
        have hzx : nsz x ≤ 20000 := Nat.le_trans (nszs_get [x, y] 0 (by simp)) hz
        have hzy : nsz y ≤ 20000 := Nat.le_trans (nszs_get [x, y] 1 (by simp)) hz
        have hxs : nxzs [x, y] ≤ 1000000 := by omega
        have hxx : nxz x ≤ 1000000 := Nat.le_trans (nxzs_get [x, y] 0 (by simp)) hxs
        have hxy : nxz y ≤ 1000000 := Nat.le_trans (nxzs_get [x, y] 1 (by simp)) hxs
        have HBX : Hid (∀ W, Upd [] w W → Calls Tryd.prog 25 #[.agg #[q0, q1, q2, q3, q4]] W fun e w' => e = .returned (.bool (isB 0 x)) ∧ Upd [] W w') := fun W hu => ih W _ x (NIn.mono hu _ _ _ nx) hzx hxx
        have HBZ : Hid (∀ W, Upd [] w W → Calls Tryd.prog 56 #[.agg #[p0, p1, p2, p3, p4], .int .i64 1] W fun e w' => e = .returned (.bool (blkB 1 y)) ∧ Upd [] W w') := fun W hu => rblockD d ih W _ y 1 (NIn.mono hu _ _ _ ny) hzy hxy
        have HMC : Hid (∀ W, Upd [] w W → ∀ j, j < 10 → W.cell? ⟨b, o + j, none⟩ = [q0, q1, q2, q3, q4, p0, p1, p2, p3, p4][j]?) := fun W hu j hj => (hu.cell (p := ⟨b, o + j, none⟩) hb (by simp)).trans (hcell j hj)
        have HR2 : Hid (R = (isB 0 x && blkB 1 y)) := HR.out
        clear HR nx ny hcell hzx hzy hxs hxx hxy hb HKK hz hx hl h3
        have x0 : w1.cell? ⟨b, o, none⟩ = some q0 := HMC.out w1 HU1.out 0 (by omega)
        have x1 : w1.cell? ⟨b, o + 1, none⟩ = some q1 := HMC.out w1 HU1.out 1 (by omega)
        have x2 : w1.cell? ⟨b, o + 2, none⟩ = some q2 := HMC.out w1 HU1.out 2 (by omega)
        have x3 : w1.cell? ⟨b, o + 3, none⟩ = some q3 := HMC.out w1 HU1.out 3 (by omega)
        have x4 : w1.cell? ⟨b, o + 4, none⟩ = some q4 := HMC.out w1 HU1.out 4 (by omega)
        go_wp2_with fail
        refine (HBX.out _ HU1.out).mono ?_
        rintro e w2 ⟨rfl, hu⟩
        have HU2 : Hid (Upd [] w w2) := HU1.out.trans hu
        have e5 : w2.cell? ⟨w.heap.size, 4, none⟩ = some (.slice (some ⟨b, o, none⟩) 2 c) := (HT1.out.mono hu (by simp)).cell 4
        clear hu x0 x1 x2 x3 x4 HBX e4 HT1
        generalize isB 0 x = zx at HR2
        cases zx with
        | false =>
          have HF : Hid (R = false) := by show R = false; rw [HR2.out, Bool.false_and]
          clear HR2 HBZ HMC
          go_wp2
          go_ret
          exact ⟨ret_boolN HF.out.symm, HU2.out⟩
        | true =>
          rw [Bool.true_and] at HR2
          have x0 : w2.cell? ⟨b, o + 5, none⟩ = some p0 := HMC.out w2 HU2.out 5 (by omega)
          have x1 : w2.cell? ⟨b, o + 5 + 1, none⟩ = some p1 := HMC.out w2 HU2.out 6 (by omega)
          have x2 : w2.cell? ⟨b, o + 5 + 2, none⟩ = some p2 := HMC.out w2 HU2.out 7 (by omega)
          have x3 : w2.cell? ⟨b, o + 5 + 3, none⟩ = some p3 := HMC.out w2 HU2.out 8 (by omega)
          have x4 : w2.cell? ⟨b, o + 5 + 4, none⟩ = some p4 := HMC.out w2 HU2.out 9 (by omega)
          go_wp2_with fail
          refine (HBZ.out _ HU2.out).mono ?_
          rintro e w3 ⟨rfl, hu⟩
          have HU3 : Hid (Upd [] w w3) := HU2.out.trans hu
          clear hu x0 x1 x2 x3 x4 HBZ e5 HMC
          generalize blkB 1 y = zy at HR2
          cases zy <;> (go_wp2; go_ret; exact ⟨ret_boolN HR2.out.symm, HU3.out⟩)
      · have hne2 : ((K.length : Int) == 2) = false := by simp; omega
        have HF : Hid (R = false) := by show R = false; rw [HR.out, afK_no K h3]
        clear HR HKK h3
        go_wp2
        go_ret
        exact ⟨ret_boolN HF.out.symm, HU1.out⟩

end Go.Proofs.YtehfoblfmehbdaaDoor

/- The reference's receive, guarded. -/
namespace Go.Proofs.YtehfoblfmehbdaaDoor
open Go.RowKit

theorem RowN.tak {R : List Value → Nd → Prop} {w : World} {a : Option Addr} {K : List Nd} (h : RowN R w a K) (m : Nat) : RowN R w a (K.take m) := by
  rcases h with h | ⟨b, o, rfl, hb, hc⟩
  · rw [h]; exact Or.inl (by simp)
  · refine Or.inr ⟨b, o, rfl, hb, fun i hi => ?_⟩
    have hi2 : i < K.length := by
      rw [List.length_take] at hi
      omega
    obtain ⟨cs, h1, h2, h3⟩ := hc i hi2
    exact ⟨cs, h1, h2, by rw [List.getElem_take]; exact h3⟩
theorem nszs_take : ∀ (K : List Nd) (m : Nat), nszs (K.take m) ≤ nszs K
  | [], m => by simp
  | t :: r, 0 => by simp [nszs]
  | t :: r, m + 1 => by
    have h1 := nszs_take r m
    have h2 := List.length_take_le m r
    have h3 : (r.take m).length ≤ r.length := by rw [List.length_take]; omega
    simp only [List.take_succ_cons, nszs]
    omega
theorem nxzs_take : ∀ (K : List Nd) (m : Nat), nxzs (K.take m) ≤ nxzs K
  | [], m => by simp
  | t :: r, 0 => by simp [nxzs]
  | t :: r, m + 1 => by
    have h1 := nxzs_take r m
    simp only [List.take_succ_cons, nxzs]
    omega
/-- The reference's receive. -/
def rcB (num : Int) (K : List Nd) : Bool :=
  if num = 0 then decide (0 < K.length) && allF (clB 1) 0 K
  else if num = 1 then (if h : 0 < K.length then afB (K[K.length - 1]'(by omega)) && allF (clB 1) 0 (K.take (K.length - 1)) else false) else false

set_option maxHeartbeats 2000000 in
set_option maxRecDepth 100000 in
theorem rreceive (d : Nat) (ih : ItS d) (w : World) (a : Option Addr) (c : Nat) (k : Int) (s : ByteArray) (num pos : Int) (K : List Nd) (hK : RowN (NIn w d) w a K) (hc1 : K.length ≤ c) (hc2 : c ≤ 9223372036854775807) (hz : nszs K ≤ 20000) (hx : nxzs K ≤ 1000000) :
    Calls Tryd.prog 53 #[.agg #[.int .u8 k, .string s, .int .i64 num, .int .i64 pos, .slice a K.length c]] w fun e w' => e = .returned (.bool (rcB num K)) ∧ Upd [] w w' := by
  have hl : K.length ≤ 20000 := Nat.le_trans (nszs_len K) hz
  have HU0 : Hid (Upd [] w (w.alloc (.cells #[.int .u8 k, .string s, .int .i64 num, .int .i64 pos, .slice a K.length c] 25))) := (Upd.refl [] w).alloc _
  have tb0 : Tb (w.alloc (.cells #[.int .u8 k, .string s, .int .i64 num, .int .i64 pos, .slice a K.length c] 25)) w.heap.size #[.int .u8 k, .string s, .int .i64 num, .int .i64 pos, .slice a K.length c] := Tb.new _ _ _ rfl
  obtain ⟨R, hR⟩ : ∃ R, R = rcB num K := ⟨_, rfl⟩
  rw [← hR]
  have HR : Hid (R = rcB num K) := hR
  clear hR
  by_cases h1 : num < 0
  · have HF : Hid (R = false) := by show R = false; rw [HR.out, rcB, if_neg (by omega), if_neg (by omega)]
    clear HR hK tb0
    go_enter Tryd.func53, Tryd.ntmps53
    go_wp2
    go_ret
    exact ⟨ret_boolN HF.out.symm, HU0.out⟩
  have h1' : decide (num < 0) = false := decide_eq_false h1
  by_cases h2 : 1 < num
  · have HF : Hid (R = false) := by show R = false; rw [HR.out, rcB, if_neg (by omega), if_neg (by omega)]
    clear HR hK tb0
    go_enter Tryd.func53, Tryd.ntmps53
    go_wp2
    go_ret
    exact ⟨ret_boolN HF.out.symm, HU0.out⟩
  have h2' : decide (1 < num) = false := decide_eq_false h2
  by_cases h3 : K.length = 0
  · have h3' : ((K.length : Int) == 0) = true := by simp [h3]
    have HF : Hid (R = false) := by
      show R = false
      rw [HR.out, rcB]
      split
      · rw [decide_eq_false (by omega), Bool.false_and]
      · split
        · rw [dif_neg (by omega)]
        · rfl
    clear HR hK tb0 h3
    go_enter Tryd.func53, Tryd.ntmps53
    go_wp2
    go_ret
    exact ⟨ret_boolN HF.out.symm, HU0.out⟩
  have h3' : ((K.length : Int) == 0) = false := by simp; intro h; exact h3 (by rw [h]; rfl)
  by_cases h4 : num = 0
  · subst h4
    have HF : Hid (R = allF (clB 1) 0 K) := by show R = _; rw [HR.out, rcB, if_pos rfl, decide_eq_true (by omega), Bool.true_and]
    have HC : Hid (∀ W, Upd [] w W → Calls Tryd.prog 51 #[.slice a K.length c, .int .i64 0, .int .i64 1] W fun e w' => e = .returned (.bool (allF (clB 1) 0 K)) ∧ Upd [] W w') := fun W hu => by
      have hc := rclauses d ih W a c 0 1 K (by omega) (hK.imp hu (NIn.mono hu d)) hz hx
      rw [decide_eq_true (p := 0 < K.length) (by omega), Bool.and_true] at hc
      exact hc
    have hsub : IntKind.i64.wrap ((K.length : Int) - 0) = (K.length : Int) := by rw [IntKind.wrap_i64]; omega
    generalize allF (clB 1) 0 K = z at HF HC
    clear HR hK hz hx ih tb0 h1 h2 h1' h2'
    go_enter Tryd.func53, Tryd.ntmps53
    go_wp2_with fail
    refine (HC.out _ HU0.out).mono ?_
    rintro e w1 ⟨rfl, hu⟩
    have HU1 : Hid (Upd [] w w1) := HU0.out.trans hu
    clear hu
    cases z <;> (go_wp2; go_ret; exact ⟨ret_boolN HF.out.symm, HU1.out⟩)
  · have h5 : num = 1 := by omega
    subst h5
    obtain ⟨n, hn⟩ : ∃ n, K.length = n + 1 := ⟨K.length - 1, by omega⟩
    have hlt : n < K.length := by omega
    have HF : Hid (R = (afB K[n] && allF (clB 1) 0 (K.take n))) := by
      show R = _
      rw [HR.out, rcB, if_neg (by omega), if_pos rfl, dif_pos (by omega)]
      simp only [hn, Nat.add_sub_cancel]
    have hlen : (K.take n).length = n := by rw [List.length_take]; omega
    rcases hK with h0 | ⟨b, o, rfl, hb, hc⟩
    · rw [h0] at hlt; simp at hlt
    obtain ⟨cs, hl5, hcell, hin⟩ := hc n hlt
    obtain ⟨q0, q1, q2, q3, q4, rfl⟩ := list5 hl5
    have HA : Hid (∀ W, Upd [] w W → Calls Tryd.prog 67 #[.agg #[q0, q1, q2, q3, q4]] W fun e w' => e = .returned (.bool (afB K[n])) ∧ Upd [] W w') := fun W hu => rafter d ih W _ K[n] (NIn.mono hu _ _ _ hin) (Nat.le_trans (nszs_get K n hlt) hz) (Nat.le_trans (nxzs_get K n hlt) hx)
    have HC : Hid (∀ W, Upd [] w W → 0 < n → Calls Tryd.prog 51 #[.slice (some ⟨b, o, none⟩) n c, .int .i64 0, .int .i64 1] W fun e w' => e = .returned (.bool (allF (clB 1) 0 (K.take n))) ∧ Upd [] W w') := fun W hu h0 => by
      have hc := rclauses d ih W (some ⟨b, o, none⟩) c 0 1 (K.take n) (by omega) (RowN.tak ((show RowN (NIn w d) w (some ⟨b, o, none⟩) K from Or.inr ⟨b, o, rfl, hb, hc⟩).imp hu (NIn.mono hu d)) n) (Nat.le_trans (nszs_take K n) hz) (Nat.le_trans (nxzs_take K n) hx)
      rw [hlen, decide_eq_true (p := 0 < n) h0, Bool.and_true] at hc
      exact hc
    have HZ : Hid (n = 0 → allF (clB 1) 0 (K.take n) = true) := fun h0 => by rw [h0]; rfl
    have u0 := HU0.out
    have x0 : (w.alloc (.cells #[.int .u8 k, .string s, .int .i64 1, .int .i64 pos, .slice (some ⟨b, o, none⟩) (n + 1) c] 25)).cell? ⟨b, o + n * 5, none⟩ = some q0 := (((Upd.refl [] w).alloc _).cell (p := ⟨b, o + (n * 5 + 0), none⟩) hb (by simp)).trans (hcell 0 (by omega))
    have x1 : (w.alloc (.cells #[.int .u8 k, .string s, .int .i64 1, .int .i64 pos, .slice (some ⟨b, o, none⟩) (n + 1) c] 25)).cell? ⟨b, o + n * 5 + 1, none⟩ = some q1 := (((Upd.refl [] w).alloc _).cell (p := ⟨b, o + (n * 5 + 1), none⟩) hb (by simp)).trans (hcell 1 (by omega))
    have x2 : (w.alloc (.cells #[.int .u8 k, .string s, .int .i64 1, .int .i64 pos, .slice (some ⟨b, o, none⟩) (n + 1) c] 25)).cell? ⟨b, o + n * 5 + 2, none⟩ = some q2 := (((Upd.refl [] w).alloc _).cell (p := ⟨b, o + (n * 5 + 2), none⟩) hb (by simp)).trans (hcell 2 (by omega))
    have x3 : (w.alloc (.cells #[.int .u8 k, .string s, .int .i64 1, .int .i64 pos, .slice (some ⟨b, o, none⟩) (n + 1) c] 25)).cell? ⟨b, o + n * 5 + 3, none⟩ = some q3 := (((Upd.refl [] w).alloc _).cell (p := ⟨b, o + (n * 5 + 3), none⟩) hb (by simp)).trans (hcell 3 (by omega))
    have x4 : (w.alloc (.cells #[.int .u8 k, .string s, .int .i64 1, .int .i64 pos, .slice (some ⟨b, o, none⟩) (n + 1) c] 25)).cell? ⟨b, o + n * 5 + 4, none⟩ = some q4 := (((Upd.refl [] w).alloc _).cell (p := ⟨b, o + (n * 5 + 4), none⟩) hb (by simp)).trans (hcell 4 (by omega))
    generalize allF (clB 1) 0 (K.take n) = z2 at HF HC HZ
    generalize afB K[n] = z1 at HF HA
    rw [hn] at hc1 hl h3' HU0 tb0 ⊢
    clear HR hz hx ih h1 h2 h1' h2' hc hcell hin h4 h3 hlen hlt hl5 u0
    go_enter Tryd.func53, Tryd.ntmps53
    go_wp2_with fail
    refine (HA.out _ HU0.out).mono ?_
    rintro e w1 ⟨rfl, hu⟩
    have HU1 : Hid (Upd [] w w1) := HU0.out.trans hu
    have tb1 := tb0.mono hu (by simp)
    have e2 : w1.cell? ⟨w.heap.size, 2, none⟩ = some (.int .i64 1) := tb1.cell 2
    have e4 : w1.cell? ⟨w.heap.size, 4, none⟩ = some (.slice (some ⟨b, o, none⟩) (n + 1) c) := tb1.cell 4
    clear hu x0 x1 x2 x3 x4 tb0 tb1
    cases z1 with
    | false =>
      go_wp2
      go_ret
      exact ⟨ret_boolN HF.out.symm, HU1.out⟩
    | true =>
      by_cases hn0 : n = 0
      · have hz2 := HZ.out hn0
        subst hz2
        subst hn0
        clear HC HZ
        go_wp2
        go_ret
        exact ⟨ret_boolN HF.out.symm, HU1.out⟩
      · have hn0' : ((n : Int) == 0) = false := by simp; omega
        have HC2 : Hid (∀ W, Upd [] w W → Calls Tryd.prog 51 #[.slice (some ⟨b, o, none⟩) n c, .int .i64 0, .int .i64 1] W fun e w' => e = .returned (.bool z2) ∧ Upd [] W w') := fun W hu => HC.out W hu (by omega)
        clear HC HZ
        go_wp2_with fail
        refine (HC2.out _ HU1.out).mono ?_
        rintro e w2 ⟨rfl, hu⟩
        have HU2 : Hid (Upd [] w w2) := HU1.out.trans hu
        clear hu e2 e4
        cases z2 <;> (go_wp2; go_ret; exact ⟨ret_boolN HF.out.symm, HU2.out⟩)

end Go.Proofs.YtehfoblfmehbdaaDoor
