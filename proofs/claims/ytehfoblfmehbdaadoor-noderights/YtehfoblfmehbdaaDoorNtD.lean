/- The reference's clause. -/
import Derived.Test.YtehfoblfmehbdaaDoorNtC
namespace Go.Proofs.YtehfoblfmehbdaaDoor
open Go.RowKit

/-- The reference's clause. -/
def clK (p : Int) : List Nd → Bool
  | [a, g, b] => blkB 0 a && (blkB 1 b && ((g.kd == 19 && plB g.tx g.num g.pos) && (g.kids.all (blkB 1) && (decide (p < 0) || ((a.kids.length : Int) == p)))))
  | _ => false
def clB (p : Int) : Nd → Bool
  | .mk k s num pos K => k == 20 && (plB s num pos && clK p K)
theorem clK_no (p : Int) (K : List Nd) (h : K.length ≠ 3) : clK p K = false := by
  match K, h with
  | [], _ => rfl
  | [_], _ => rfl
  | [_, _], _ => rfl
  | [_, _, _], h => exact absurd rfl h
  | _ :: _ :: _ :: _ :: _, _ => rfl
theorem row_three {w : World} {d : Nat} {a : Option Addr} {x y z : Nd} (h : RowN (NIn w d) w a [x, y, z]) : ∃ b o, a = some ⟨b, o, none⟩ ∧ b < w.heap.size ∧ ∃ q0 q1 q2 q3 q4 p0 p1 p2 p3 p4 u0 u1 u2 u3 u4, NIn w d [q0, q1, q2, q3, q4] x ∧ NIn w d [p0, p1, p2, p3, p4] y ∧ NIn w d [u0, u1, u2, u3, u4] z ∧
    ∀ j, j < 15 → w.cell? ⟨b, o + j, none⟩ = [q0, q1, q2, q3, q4, p0, p1, p2, p3, p4, u0, u1, u2, u3, u4][j]? := by
  rcases h with h | ⟨b, o, rfl, hb, hc⟩
  · cases h
  obtain ⟨c0, l0, g0, n0⟩ := hc 0 (by simp)
  obtain ⟨c1, l1, g1, n1⟩ := hc 1 (by simp)
  obtain ⟨c2, l2, g2, n2⟩ := hc 2 (by simp)
  obtain ⟨q0, q1, q2, q3, q4, rfl⟩ := list5 l0
  obtain ⟨p0, p1, p2, p3, p4, rfl⟩ := list5 l1
  obtain ⟨u0, u1, u2, u3, u4, rfl⟩ := list5 l2
  refine ⟨b, o, rfl, hb, q0, q1, q2, q3, q4, p0, p1, p2, p3, p4, u0, u1, u2, u3, u4, n0, n1, n2, fun j hj => ?_⟩
  by_cases h1 : j < 5
  · have := g0 j h1
    rw [Nat.zero_mul, Nat.zero_add] at this
    rw [this]
    match j, h1 with
    | 0, _ => rfl
    | 1, _ => rfl
    | 2, _ => rfl
    | 3, _ => rfl
    | 4, _ => rfl
  · by_cases h2 : j < 10
    · obtain ⟨i, rfl⟩ : ∃ i, j = 5 + i := ⟨j - 5, by omega⟩
      have := g1 i (by omega)
      rw [Nat.one_mul] at this
      rw [this]
      match i, (show i < 5 by omega) with
      | 0, _ => rfl
      | 1, _ => rfl
      | 2, _ => rfl
      | 3, _ => rfl
      | 4, _ => rfl
    · obtain ⟨i, rfl⟩ : ∃ i, j = 10 + i := ⟨j - 10, by omega⟩
      have := g2 i (by omega)
      rw [show 2 * 5 + i = 10 + i by omega] at this
      rw [this]
      match i, (show i < 5 by omega) with
      | 0, _ => rfl
      | 1, _ => rfl
      | 2, _ => rfl
      | 3, _ => rfl
      | 4, _ => rfl

set_option maxHeartbeats 2000000 in
set_option maxRecDepth 100000 in
/-- The row of guards. -/
theorem rclause (d : Nat) (ih : ItS (d + 1)) (w : World) (cs : List Value) (t : Nd) (p : Int) (h : NIn w (d + 1) cs t) (hz : nsz t ≤ 20000) (hx : nxz t ≤ 1000000) :
    Calls Tryd.prog 66 #[.agg cs.toArray, .int .i64 p] w fun e w' => e = .returned (.bool (clB p t)) ∧ Upd [] w w' := by
  obtain ⟨k, s, num, pos, K⟩ := t
  obtain ⟨a, c, rfl, hK, -⟩ := h
  simp only [nsz] at hz
  simp only [nxz] at hx
  have hl : K.length ≤ 20000 := Nat.le_trans (nszs_len K) hz
  have HU0 : Hid (Upd [] w (w.alloc (.cells #[.int .u8 k, .string s, .int .i64 num, .int .i64 pos, .slice a K.length c] 25))) := (Upd.refl [] w).alloc _
  have tb0 : Tb (w.alloc (.cells #[.int .u8 k, .string s, .int .i64 num, .int .i64 pos, .slice a K.length c] 25)) w.heap.size #[.int .u8 k, .string s, .int .i64 num, .int .i64 pos, .slice a K.length c] := Tb.new _ _ _ rfl
  have HP : Hid (∀ W, Calls Tryd.prog 57 #[.agg #[.int .u8 k, .string s, .int .i64 num, .int .i64 pos, .slice a K.length c]] W fun e w' => e = .returned (.bool (plB s num pos)) ∧ Upd [] W w') := fun W => rplain _ k s num pos W
  obtain ⟨R, hR⟩ : ∃ R, R = clB p (.mk k s num pos K) := ⟨_, rfl⟩
  rw [← hR]
  rw [clB] at hR
  generalize plB s num pos = z1 at HP hR
  have HR : Hid (R = _) := hR
  clear hR
  cases h1 : (k == 20) with
  | false =>
    have h1b : (k != 20) = true := by rw [bne, h1]; rfl
    have HF : Hid (R = false) := by show R = false; rw [HR.out, h1, Bool.false_and]
    clear tb0 HR HP hK
    go_enter Tryd.func66, Tryd.ntmps66
    go_wp2
    go_ret
    exact ⟨ret_boolN HF.out.symm, HU0.out⟩
  | true =>
    have h1b : (k != 20) = false := by rw [bne, h1]; rfl
    rw [h1, Bool.true_and] at HR
    have HKK : Hid (RowN (NIn w d) w a K) := hK
    clear hK
    go_enter Tryd.func66, Tryd.ntmps66
    go_wp2_with (first | (refine load_G _ _ rfl _ _ rfl tb0 rfl rfl ?_) | fail)
    refine (HP.out _).mono ?_
    rintro e w1 ⟨rfl, hu⟩
    have HU1 : Hid (Upd [] w w1) := HU0.out.trans hu
    have tb1 := tb0.mono hu (by simp)
    have e4 : w1.cell? ⟨w.heap.size, 4, none⟩ = some (.slice a K.length c) := tb1.cell 4
    have HT1 : Hid (Tb w1 w.heap.size #[.int .u8 k, .string s, .int .i64 num, .int .i64 pos, .slice a K.length c]) := tb1
    clear hu tb0 tb1 HP
    cases z1 with
    | false =>
      have HF : Hid (R = false) := by show R = false; rw [HR.out, Bool.false_and]
      clear HR
      go_wp2
      go_ret
      exact ⟨ret_boolN HF.out.symm, HU1.out⟩
    | true =>
      rw [Bool.true_and] at HR
      by_cases h3 : K.length = 3
      · obtain ⟨x, y, z, rfl⟩ : ∃ x y z, K = [x, y, z] := by
          match K, h3 with
          | [x, y, z], _ => exact ⟨x, y, z, rfl⟩
        obtain ⟨b, o, rfl, hb, q0, q1, q2, q3, q4, p0, p1, p2, p3, p4, u0, u1, u2, u3, u4, nx, ny, nz, hcell⟩ := row_three HKK.out
        have hzx : nsz x ≤ 20000 := Nat.le_trans (nszs_get [x, y, z] 0 (by simp)) hz
        have hzy : nsz y ≤ 20000 := Nat.le_trans (nszs_get [x, y, z] 1 (by simp)) hz
        have hzz : nsz z ≤ 20000 := Nat.le_trans (nszs_get [x, y, z] 2 (by simp)) hz
        have hxs : nxzs [x, y, z] ≤ 1000000 := by omega
        have hxx : nxz x ≤ 1000000 := Nat.le_trans (nxzs_get [x, y, z] 0 (by simp)) hxs
        have hxy : nxz y ≤ 1000000 := Nat.le_trans (nxzs_get [x, y, z] 1 (by simp)) hxs
        have hxz : nxz z ≤ 1000000 := Nat.le_trans (nxzs_get [x, y, z] 2 (by simp)) hxs
        have HBX : Hid (∀ W, Upd [] w W → Calls Tryd.prog 56 #[.agg #[q0, q1, q2, q3, q4], .int .i64 0] W fun e w' => e = .returned (.bool (blkB 0 x)) ∧ Upd [] W w') := fun W hu => rblock (d + 1) ih W _ x 0 (NIn.more _ _ _ (NIn.more _ _ _ (NIn.mono hu _ _ _ nx))) hzx hxx
        have HBZ : Hid (∀ W, Upd [] w W → Calls Tryd.prog 56 #[.agg #[u0, u1, u2, u3, u4], .int .i64 1] W fun e w' => e = .returned (.bool (blkB 1 z)) ∧ Upd [] W w') := fun W hu => rblock (d + 1) ih W _ z 1 (NIn.more _ _ _ (NIn.more _ _ _ (NIn.mono hu _ _ _ nz))) hzz hxz
        have HMC : Hid (∀ W, Upd [] w W → ∀ j, j < 15 → W.cell? ⟨b, o + j, none⟩ = [q0, q1, q2, q3, q4, p0, p1, p2, p3, p4, u0, u1, u2, u3, u4][j]?) := fun W hu j hj => (hu.cell (p := ⟨b, o + j, none⟩) hb (by simp)).trans (hcell j hj)
        have HR2 : Hid (R = (blkB 0 x && (blkB 1 z && ((y.kd == 19 && plB y.tx y.num y.pos) && (y.kids.all (blkB 1) && (decide (p < 0) || ((x.kids.length : Int) == p))))))) := HR.out
        have HNX : Hid (NIn w d [q0, q1, q2, q3, q4] x ∧ NIn w d [p0, p1, p2, p3, p4] y) := ⟨nx, ny⟩
        have HNYZ : Hid (nsz y ≤ 20000 ∧ nxz y ≤ 1000000) := ⟨hzy, hxy⟩
        have hlx : x.kids.length ≤ 20000 := by
          cases x
          simp only [nsz] at hzx
          exact Nat.le_trans (nszs_len _) hzx
        clear HR nx ny nz hcell hzx hzy hzz hxs hxx hxy hxz hb HKK hz hx hl h3
        have x0 : w1.cell? ⟨b, o, none⟩ = some q0 := HMC.out w1 HU1.out 0 (by omega)
        have x1 : w1.cell? ⟨b, o + 1, none⟩ = some q1 := HMC.out w1 HU1.out 1 (by omega)
        have x2 : w1.cell? ⟨b, o + 2, none⟩ = some q2 := HMC.out w1 HU1.out 2 (by omega)
        have x3 : w1.cell? ⟨b, o + 3, none⟩ = some q3 := HMC.out w1 HU1.out 3 (by omega)
        have x4 : w1.cell? ⟨b, o + 4, none⟩ = some q4 := HMC.out w1 HU1.out 4 (by omega)
        go_wp2_with fail
        refine (HBX.out _ HU1.out).mono ?_
        rintro e w2 ⟨rfl, hu⟩
        have HU2 : Hid (Upd [] w w2) := HU1.out.trans hu
        have HT2 : Hid (Tb w2 w.heap.size #[.int .u8 k, .string s, .int .i64 num, .int .i64 pos, .slice (some ⟨b, o, none⟩) 3 c]) := HT1.out.mono hu (by simp)
        clear hu x0 x1 x2 x3 x4 HBX e4 HT1
        generalize blkB 0 x = zx at HR2
        cases zx with
        | false =>
          have HF : Hid (R = false) := by show R = false; rw [HR2.out, Bool.false_and]
          clear HR2 HBZ HMC HNX HNYZ
          go_wp2
          go_ret
          exact ⟨ret_boolN HF.out.symm, HU2.out⟩
        | true =>
          rw [Bool.true_and] at HR2
          have e4 : w2.cell? ⟨w.heap.size, 4, none⟩ = some (.slice (some ⟨b, o, none⟩) 3 c) := HT2.out.cell 4
          have x0 : w2.cell? ⟨b, o + 10, none⟩ = some u0 := HMC.out w2 HU2.out 10 (by omega)
          have x1 : w2.cell? ⟨b, o + 10 + 1, none⟩ = some u1 := HMC.out w2 HU2.out 11 (by omega)
          have x2 : w2.cell? ⟨b, o + 10 + 2, none⟩ = some u2 := HMC.out w2 HU2.out 12 (by omega)
          have x3 : w2.cell? ⟨b, o + 10 + 3, none⟩ = some u3 := HMC.out w2 HU2.out 13 (by omega)
          have x4 : w2.cell? ⟨b, o + 10 + 4, none⟩ = some u4 := HMC.out w2 HU2.out 14 (by omega)
          go_wp2_with fail
          refine (HBZ.out _ HU2.out).mono ?_
          rintro e w3 ⟨rfl, hu⟩
          have HU3 : Hid (Upd [] w w3) := HU2.out.trans hu
          have HT3 : Hid (Tb w3 w.heap.size #[.int .u8 k, .string s, .int .i64 num, .int .i64 pos, .slice (some ⟨b, o, none⟩) 3 c]) := HT2.out.mono hu (by simp)
          clear hu x0 x1 x2 x3 x4 HBZ e4 HT2
          generalize blkB 1 z = zz at HR2
          cases zz with
          | false =>
            have HF : Hid (R = false) := by show R = false; rw [HR2.out, Bool.false_and]
            clear HR2 HMC HNX HNYZ
            go_wp2
            go_ret
            exact ⟨ret_boolN HF.out.symm, HU3.out⟩
          | true =>
            rw [Bool.true_and] at HR2
            obtain ⟨ky, sy, numy, posy, Ky⟩ := y
            obtain ⟨kx, sx, numx, posx, Kx⟩ := x
            cases d with
            | zero => exact HNX.out.1.elim
            | succ d =>
              obtain ⟨nx, ny⟩ := HNX.out
              obtain ⟨ax, cx, ex, -, -⟩ := nx
              obtain ⟨ay, cy, ey, hKy, -⟩ := ny
              simp only [List.cons.injEq, and_true] at ex ey
              obtain ⟨rfl, rfl, rfl, rfl, rfl⟩ := ex
              obtain ⟨rfl, rfl, rfl, rfl, rfl⟩ := ey
              have HR3 : Hid (R = ((ky == 19 && plB sy numy posy) && (Ky.all (blkB 1) && (decide (p < 0) || ((Kx.length : Int) == p))))) := HR2.out
              have hzy := HNYZ.out.1
              have hxy := HNYZ.out.2
              simp only [nsz] at hzy
              simp only [nxz] at hxy
              have hly : Ky.length ≤ 20000 := Nat.le_trans (nszs_len _) hzy
              have HB : Hid (∀ k (hk : k < Ky.length) W cs, NIn W d cs Ky[k] → Calls Tryd.prog 56 #[.agg cs.toArray, .int .i64 1] W fun e w' => e = .returned (.bool (blkB 1 Ky[k])) ∧ Upd [] W w') := fun k hk W cs h => rblock (d + 1 + 1) ih W cs Ky[k] 1 (NIn.more _ _ _ (NIn.more _ _ _ (NIn.more _ _ _ h))) (Nat.le_trans (nszs_get Ky k hk) hzy) (Nat.le_trans (nxzs_get Ky k hk) (by omega))
              have HP : Hid (∀ W, Calls Tryd.prog 57 #[.agg #[.int .u8 ky, .string sy, .int .i64 numy, .int .i64 posy, .slice ay Ky.length cy]] W fun e w' => e = .returned (.bool (plB sy numy posy)) ∧ Upd [] W w') := fun W => rplain _ ky sy numy posy W
              have HKy : Hid (RowN (NIn w d) w ay Ky) := hKy
              generalize plB sy numy posy = zp at HP HR3
              clear HR2 HNYZ HNX hKy hzy hxy ih
              have hlx : Kx.length ≤ 20000 := hlx
              have y0 : w3.cell? ⟨b, o + 5, none⟩ = some (.int .u8 ky) := HMC.out w3 HU3.out 5 (by omega)
              have y1 : w3.cell? ⟨b, o + 5 + 1, none⟩ = some (.string sy) := HMC.out w3 HU3.out 6 (by omega)
              have y2 : w3.cell? ⟨b, o + 5 + 2, none⟩ = some (.int .i64 numy) := HMC.out w3 HU3.out 7 (by omega)
              have y3 : w3.cell? ⟨b, o + 5 + 3, none⟩ = some (.int .i64 posy) := HMC.out w3 HU3.out 8 (by omega)
              have y4 : w3.cell? ⟨b, o + 5 + 4, none⟩ = some (.slice ay Ky.length cy) := HMC.out w3 HU3.out 9 (by omega)
              have e4 : w3.cell? ⟨w.heap.size, 4, none⟩ = some (.slice (some ⟨b, o, none⟩) 3 c) := HT3.out.cell 4
              have tz : Tb (w3.alloc (.cells #[.int .u8 0, .string ⟨#[]⟩, .int .i64 0, .int .i64 0, .slice none 0 0] 25)) w3.heap.size #[.int .u8 0, .string ⟨#[]⟩, .int .i64 0, .int .i64 0, .slice none 0 0] := Tb.new _ _ _ rfl
              have HUZ : Hid (Upd [] w3 (w3.alloc (.cells #[.int .u8 0, .string ⟨#[]⟩, .int .i64 0, .int .i64 0, .slice none 0 0] 25))) := (Upd.refl [] w3).alloc _
              have hlw : w.heap.size < w3.heap.size := lt_of_block HT3.out
              have hone : (#[.int .u8 ky, .string sy, .int .i64 numy, .int .i64 posy, .slice ay Ky.length cy] : Array Value).all (·.oneCell') = true := by simp [Value.oneCell']
              cases h5 : (ky == 19) with
              | false =>
                have h5b : (ky != 19) = true := by rw [bne, h5]; rfl
                have HF : Hid (R = false) := by show R = false; rw [HR3.out, h5]; rfl
                clear HR3 HB HP HKy HMC
                go_wp2_with (first
                  | (refine store_T _ rfl _ _ rfl _ #[.int .u8 ky, .string sy, .int .i64 numy, .int .i64 posy, .slice ay Ky.length cy] _ rfl rfl tz rfl rfl hone ?_; intro w4 t4 u4; have y5 : w4.cell? ⟨w3.heap.size, 0, none⟩ = some (.int .u8 ky) := t4.cell 0)
                  | fail)
                go_ret
                exact ⟨ret_boolN HF.out.symm, HU3.out.trans (HUZ.out.then u4 (by simp))⟩
              | true =>
                have h5b : (ky != 19) = false := by rw [bne, h5]; rfl
                rw [h5, Bool.true_and] at HR3
                go_wp2_with (first
                  | (refine store_T _ rfl _ _ rfl _ #[.int .u8 ky, .string sy, .int .i64 numy, .int .i64 posy, .slice ay Ky.length cy] _ rfl rfl tz rfl rfl hone ?_; intro w4 t4 u4; have y5 : w4.cell? ⟨w3.heap.size, 0, none⟩ = some (.int .u8 ky) := t4.cell 0)
                  | (refine load_G _ _ rfl _ _ rfl t4 rfl rfl ?_)
                  | fail)
                have HU4 : Hid (Upd [] w3 w4) := HUZ.out.then u4 (by simp)
                refine (HP.out _).mono ?_
                rintro e w5 ⟨rfl, hu⟩
                have HU5 : Hid (Upd [] w w5) := HU3.out.trans (HU4.out.trans hu)
                have HT5 : Hid (Tb w5 w3.heap.size #[.int .u8 ky, .string sy, .int .i64 numy, .int .i64 posy, .slice ay Ky.length cy] ∧ Tb w5 w.heap.size #[.int .u8 k, .string s, .int .i64 num, .int .i64 pos, .slice (some ⟨b, o, none⟩) 3 c]) := ⟨t4.mono hu (by simp), HT3.out.mono (HU4.out.trans hu) (by simp)⟩
                clear hu t4 u4 y0 y1 y2 y3 y4 y5 e4 tz HUZ HU4 HP hone
                cases zp with
                | false =>
                  have HF : Hid (R = false) := by show R = false; rw [HR3.out]; rfl
                  clear HR3 HB HKy HMC
                  go_wp2
                  go_ret
                  exact ⟨ret_boolN HF.out.symm, HU5.out⟩
                | true =>
                  rw [Bool.true_and] at HR3
                  go_wp2
                  generalize w3.heap.size = bg at hlw HT5 ⊢
                  go_loopw [6] (fun i wr => ∃ k' : Nat, k' ≤ Ky.length ∧ i = .int .i64 k' ∧ (∀ j (h : j < Ky.length), j < k' → blkB 1 Ky[j] = true) ∧ Upd [] w wr ∧ Tb wr bg #[.int .u8 ky, .string sy, .int .i64 numy, .int .i64 posy, .slice ay Ky.length cy] ∧ Tb wr w.heap.size #[.int .u8 k, .string s, .int .i64 num, .int .i64 pos, .slice (some ⟨b, o, none⟩) 3 c]) (fun i _ => Ky.length - (intOf i).toNat)
                  case atStart => exact ⟨0, Nat.zero_le _, rfl, fun j _ hj => by omega, HU5.out, HT5.out.1, HT5.out.2⟩
                  case round =>
                    obtain ⟨k', hk, rfl, hy, hU, ty, tn⟩ := hrel
                    have HY : Hid (∀ j (h : j < Ky.length), j < k' → blkB 1 Ky[j] = true) := hy
                    have e4 : wr.cell? ⟨bg, 4, none⟩ = some (.slice ay Ky.length cy) := ty.cell 4
                    have HT : Hid (Tb wr bg #[.int .u8 ky, .string sy, .int .i64 numy, .int .i64 posy, .slice ay Ky.length cy] ∧ Tb wr w.heap.size #[.int .u8 k, .string s, .int .i64 num, .int .i64 pos, .slice (some ⟨b, o, none⟩) 3 c]) := ⟨ty, tn⟩
                    clear hy
                    by_cases hlt : k' < Ky.length
                    · have i1 : (k' : Int) < (Ky.length : Int) := by omega
                      rcases HKy.out.imp hU (NIn.mono hU d) with h1 | ⟨by', oy, rfl, hb, hc⟩
                      · rw [h1] at hlt; simp at hlt
                      obtain ⟨cs, hl5, hcell, hin⟩ := hc k' hlt
                      obtain ⟨r0, r1, r2, r3, r4, rfl⟩ := list5 hl5
                      have x0 : wr.cell? ⟨by', oy + k' * 5, none⟩ = some r0 := hcell 0 (by omega)
                      have x1 : wr.cell? ⟨by', oy + k' * 5 + 1, none⟩ = some r1 := hcell 1 (by omega)
                      have x2 : wr.cell? ⟨by', oy + k' * 5 + 2, none⟩ = some r2 := hcell 2 (by omega)
                      have x3 : wr.cell? ⟨by', oy + k' * 5 + 3, none⟩ = some r3 := hcell 3 (by omega)
                      have x4 : wr.cell? ⟨by', oy + k' * 5 + 4, none⟩ = some r4 := hcell 4 (by omega)
                      obtain ⟨z', hz'⟩ : ∃ z', z' = blkB 1 Ky[k'] := ⟨_, rfl⟩
                      have HC : Hid (Calls Tryd.prog 56 #[.agg #[r0, r1, r2, r3, r4], .int .i64 1] wr fun e w' => e = .returned (.bool z') ∧ Upd [] wr w') := by rw [hz']; exact HB.out k' hlt wr _ hin
                      have HZ : Hid (z' = blkB 1 Ky[k']) := hz'
                      have HU : Hid (Upd [] w wr) := hU
                      clear hc hcell hin hz' hU hb ty tn
                      go_wp2_with fail
                      refine Calls.mono HC.out ?_
                      rintro e w2' ⟨rfl, hU2⟩
                      have HU2' : Hid (Upd [] w w2') := HU.out.trans hU2
                      have HT2 : Hid (Tb w2' bg #[.int .u8 ky, .string sy, .int .i64 numy, .int .i64 posy, .slice (some ⟨by', oy, none⟩) Ky.length cy] ∧ Tb w2' w.heap.size #[.int .u8 k, .string s, .int .i64 num, .int .i64 pos, .slice (some ⟨b, o, none⟩) 3 c]) := ⟨HT.out.1.mono hU2 (by simp), HT.out.2.mono hU2 (by simp)⟩
                      clear hU2 x0 x1 x2 x3 x4 e4
                      cases z' with
                      | true =>
                        go_wp2
                        go_roundw
                        case rel => exact ⟨k' + 1, by omega, by go_num, fun j h hj => by
                          by_cases e : j = k'
                          · subst e; exact HZ.out.symm
                          · exact HY.out j h (by omega), HU2'.out, HT2.out.1, HT2.out.2⟩
                        case measure => simp [intOf]; omega
                      | false =>
                        have HF : Hid (R = false) := by
                          show R = false
                          have hf : Ky.all (blkB 1) = false := by
                            rw [List.all_eq_false]
                            exact ⟨Ky[k'], List.getElem_mem hlt, by rw [← HZ.out]; simp⟩
                          rw [HR3.out, hf, Bool.false_and]
                        clear HR3 HB HKy HMC HY
                        go_wp2
                        go_ret
                        exact ⟨ret_boolN HF.out.symm, HU2'.out⟩
                    · have hd : decide ((k' : Int) < (Ky.length : Int)) = false := by simp; omega
                      have HA : Hid (R = (decide (p < 0) || ((Kx.length : Int) == p))) := by
                        show R = _
                        have ha : Ky.all (blkB 1) = true := by
                          rw [List.all_eq_true]
                          intro x hx
                          obtain ⟨j, hj, rfl⟩ := List.getElem_of_mem hx
                          exact HY.out j hj (by omega)
                        rw [HR3.out, ha, Bool.true_and]
                      have e4' : wr.cell? ⟨w.heap.size, 4, none⟩ = some (.slice (some ⟨b, o, none⟩) 3 c) := tn.cell 4
                      have x4 : wr.cell? ⟨b, o + 4, none⟩ = some (.slice ax Kx.length cx) := HMC.out wr hU 4 (by omega)
                      have HU : Hid (Upd [] w wr) := hU
                      clear HR3 HB HKy HMC HY ty tn hU HT
                      by_cases hp : p < 0
                      · rw [decide_eq_true hp] at HA
                        go_wp2
                        go_ret
                        exact ⟨ret_boolN HA.out.symm, HU.out⟩
                      · have hp' : decide (p < 0) = false := decide_eq_false hp
                        rw [hp', Bool.false_or] at HA
                        cases hq : ((Kx.length : Int) == p) with
                        | false =>
                          rw [hq] at HA
                          go_wp2
                          go_ret
                          exact ⟨ret_boolN HA.out.symm, HU.out⟩
                        | true =>
                          rw [hq] at HA
                          go_wp2
                          go_ret
                          exact ⟨ret_boolN HA.out.symm, HU.out⟩
      · have hne : ((K.length : Int) != 3) = true := by simp; omega
        have hne2 : ((K.length : Int) == 3) = false := by simp; omega
        have HF : Hid (R = false) := by show R = false; rw [HR.out, clK_no p K h3]
        clear HR HKK h3
        go_wp2
        go_ret
        exact ⟨ret_boolN HF.out.symm, HU1.out⟩

end Go.Proofs.YtehfoblfmehbdaaDoor
