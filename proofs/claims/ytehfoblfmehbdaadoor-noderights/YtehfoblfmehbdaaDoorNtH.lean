/- The reference's caught. -/
import Derived.Test.YtehfoblfmehbdaaDoorJAL
namespace Go.Proofs.YtehfoblfmehbdaaDoor
open Go.RowKit

def ctQ (q : Nd) : Bool := q.kd == 5 && (decide (q.kids.length = 2) && (headK q.kids == 2 || headK q.kids == 3))
def ctP : Nd → Bool
  | .mk _ _ _ _ (.mk _ _ _ _ (q :: _) :: _) => ctQ q
  | _ => false
def blk0 : List Nd → Bool
  | [] => false
  | x :: _ => blkB 1 x
def ctB (K : List Nd) : Bool := blk0 K && ((allF (clB 1) 1 K && decide (1 < K.length)) && allF ctP 1 K)
theorem clB_one {t : Nd} (h : clB 1 t = true) : ∃ k s num pos kx sx nx px q y z, t = .mk k s num pos [.mk kx sx nx px [q], y, z] := by
  obtain ⟨k, s, num, pos, x, y, z, rfl⟩ := clB_three h
  obtain ⟨kx, sx, nx, px, Kx⟩ := x
  rw [clB, clK] at h
  simp only [Bool.and_eq_true, Bool.or_eq_true, decide_eq_true_eq, Nd.kids, beq_iff_eq] at h
  have h1 : Kx.length = 1 := by omega
  match Kx, h1 with
  | [q], _ => exact ⟨k, s, num, pos, kx, sx, nx, px, q, y, z, rfl⟩
theorem row_one {w : World} {d : Nat} {a : Option Addr} {x : Nd} {r : List Nd} (h : RowN (NIn w d) w a (x :: r)) : ∃ b o, a = some ⟨b, o, none⟩ ∧ b < w.heap.size ∧ ∃ q0 q1 q2 q3 q4, NIn w d [q0, q1, q2, q3, q4] x ∧
    ∀ j, j < 5 → w.cell? ⟨b, o + j, none⟩ = [q0, q1, q2, q3, q4][j]? := by
  rcases h with h | ⟨b, o, rfl, hb, hc⟩
  · cases h
  obtain ⟨c0, l0, g0, n0⟩ := hc 0 (by simp)
  obtain ⟨q0, q1, q2, q3, q4, rfl⟩ := list5 l0
  refine ⟨b, o, rfl, hb, q0, q1, q2, q3, q4, n0, fun j hj => ?_⟩
  have := g0 j hj
  rw [Nat.zero_mul, Nat.zero_add] at this
  exact this

set_option maxHeartbeats 2000000 in
set_option maxRecDepth 100000 in
theorem rcaught (d : Nat) (ih : ItS d) (w : World) (a : Option Addr) (c : Nat) (K : List Nd) (hK : RowN (NIn w d) w a K) (hz : nszs K ≤ 20000) (hx : nxzs K ≤ 1000000) :
    Calls Tryd.prog 54 #[.slice a K.length c] w fun e w' => e = .returned (.bool (ctB K)) ∧ Upd [] w w' := by
  have hl : K.length ≤ 20000 := Nat.le_trans (nszs_len K) hz
  cases K with
  | nil =>
    go_enter Tryd.func54, Tryd.ntmps54
    go_wp2
    go_ret
    exact ⟨rfl, Upd.refl _ _⟩
  | cons x0 r =>
    obtain ⟨b, o, rfl, hb, q0, q1, q2, q3, q4, nq, hcell⟩ := row_one hK
    have HC : Hid (∀ W, Upd [] w W → Calls Tryd.prog 51 #[.slice (some ⟨b, o, none⟩) (x0 :: r).length c, .int .i64 1, .int .i64 1] W fun e w' => e = .returned (.bool (allF (clB 1) 1 (x0 :: r) && decide (1 < (x0 :: r).length))) ∧ Upd [] W w') := fun W hu => rclauses d ih W (some ⟨b, o, none⟩) c 1 1 (x0 :: r) (by omega) (hK.imp hu (NIn.mono hu d)) hz hx
    have HB : Hid (∀ W, Upd [] w W → Calls Tryd.prog 56 #[.agg #[q0, q1, q2, q3, q4], .int .i64 1] W fun e w' => e = .returned (.bool (blkB 1 x0)) ∧ Upd [] W w') := fun W hu => rblockD d ih W _ x0 1 (NIn.mono hu _ _ _ nq) (Nat.le_trans (nszs_get (x0 :: r) 0 (by simp)) hz) (Nat.le_trans (nxzs_get (x0 :: r) 0 (by simp)) hx)
    have HK : Hid (RowN (NIn w d) w (some ⟨b, o, none⟩) (x0 :: r)) := hK
    have HZ : Hid (nszs (x0 :: r) ≤ 20000) := hz
    have y0 : w.cell? ⟨b, o, none⟩ = some q0 := hcell 0 (by omega)
    have y1 : w.cell? ⟨b, o + 1, none⟩ = some q1 := hcell 1 (by omega)
    have y2 : w.cell? ⟨b, o + 2, none⟩ = some q2 := hcell 2 (by omega)
    have y3 : w.cell? ⟨b, o + 3, none⟩ = some q3 := hcell 3 (by omega)
    have y4 : w.cell? ⟨b, o + 4, none⟩ = some q4 := hcell 4 (by omega)
    obtain ⟨R, hR⟩ : ∃ R, R = ctB (x0 :: r) := ⟨_, rfl⟩
    rw [← hR]
    have HR0 : Hid (R = (blkB 1 x0 && ((allF (clB 1) 1 (x0 :: r) && decide (1 < (x0 :: r).length)) && allF ctP 1 (x0 :: r)))) := hR
    generalize blkB 1 x0 = zb at HB HR0
    obtain ⟨zc, hzc⟩ : ∃ zc, zc = (allF (clB 1) 1 (x0 :: r) && decide (1 < (x0 :: r).length)) := ⟨_, rfl⟩
    rw [← hzc] at HC HR0
    have HZC : Hid (zc = (allF (clB 1) 1 (x0 :: r) && decide (1 < (x0 :: r).length))) := hzc
    have hKl : ∃ n, (x0 :: r).length = n + 1 := ⟨r.length, rfl⟩
    generalize x0 :: r = K at HC HK HZ HR0 HZC hl hKl ⊢
    obtain ⟨n, hn⟩ := hKl
    have hn0 : ((K.length : Int) == 0) = false := beq_eq_false_iff_ne.2 (by omega)
    have hn1 : (0 : Int) < (K.length : Int) := by omega
    have HN1 : Hid (1 ≤ K.length) := (by omega : 1 ≤ K.length)
    clear hK hz hx hcell nq hR hzc ih hb hn
    go_enter Tryd.func54, Tryd.ntmps54
    go_wp2_with fail
    refine (HB.out _ (Upd.refl _ _)).mono ?_
    rintro e w1 ⟨rfl, hu⟩
    have HU1 : Hid (Upd [] w w1) := hu
    clear hu y0 y1 y2 y3 y4 HB
    cases zb with
    | false =>
      have HF : Hid (R = false) := by show R = false; rw [HR0.out]; rfl
      clear HR0 HC HK HZC
      go_wp2
      go_ret
      exact ⟨ret_boolN HF.out.symm, HU1.out⟩
    | true =>
      rw [Bool.true_and] at HR0
      go_wp2_with fail
      refine (HC.out _ HU1.out).mono ?_
      rintro e w2 ⟨rfl, hu⟩
      have HU2 : Hid (Upd [] w w2) := HU1.out.trans hu
      clear hu HC
      cases zc with
      | false =>
        have HF : Hid (R = false) := by show R = false; rw [HR0.out]; rfl
        clear HR0 HK HZC
        go_wp2
        go_ret
        exact ⟨ret_boolN HF.out.symm, HU2.out⟩
      | true =>
        have HR : Hid (R = allF ctP 1 K) := by show R = _; rw [HR0.out]; rfl
        have HCL : Hid (∀ j (h : j < K.length), 1 ≤ j → clB 1 K[j] = true) := fun j h h1 => by
          have h2 := HZC.out.symm
          rw [Bool.and_eq_true] at h2
          cases hq : clB 1 K[j] with
          | true => rfl
          | false => rw [allF_false h h1 hq] at h2; exact absurd h2.1 (by simp)
        clear HR0 HZC hn0 hn1
        go_wp2
        go_loopw [3] (fun i wr => ∃ k : Nat, 1 ≤ k ∧ k ≤ K.length ∧ i = .int .i64 k ∧ (∀ j (h : j < K.length), 1 ≤ j → j < k → ctP K[j] = true) ∧ Upd [] w wr) (fun i _ => K.length - (intOf i).toNat)
        case atStart => exact ⟨1, Nat.le_refl _, HN1.out, rfl, fun j _ h1 h2 => by omega, HU2.out⟩
        case round =>
          obtain ⟨k, hfk, hk, rfl, hy, hU⟩ := hrel
          have HY : Hid (∀ j (h : j < K.length), 1 ≤ j → j < k → ctP K[j] = true) := hy
          clear hy
          by_cases hlt : k < K.length
          · have i1 : (k : Int) < (K.length : Int) := by omega
            rcases HK.out.imp hU (NIn.mono hU d) with h1 | ⟨b', o', e', hb, hc⟩
            · rw [h1] at hlt; simp at hlt
            simp only [Option.some.injEq, Addr.mk.injEq, and_true] at e'
            obtain ⟨rfl, rfl⟩ := e'
            obtain ⟨cs, hl5, hcell, hin⟩ := hc k hlt
            have hzk := Nat.le_trans (nszs_get K k hlt) HZ.out
            obtain ⟨kk, s, num, pos, kx, sx, nx, px, q, y, z, hkk⟩ := clB_one (HCL.out k hlt hfk)
            rw [hkk] at hin hzk
            obtain ⟨kq, sq, nq, pq, Q⟩ := q
            have HKK : Hid (K[k] = .mk kk s num pos [.mk kx sx nx px [.mk kq sq nq pq Q], y, z]) := hkk
            cases d with
            | zero => exact hin.elim
            | succ d =>
            obtain ⟨a1, c1, rfl, hrow, -⟩ := hin
            obtain ⟨b1, o1, rfl, hb1, g0, g1, g2, g3, g4, nx1, hcell1⟩ := row_one hrow
            cases d with
            | zero => exact nx1.elim
            | succ d =>
            obtain ⟨ax, cx, ex, hrow2, -⟩ := nx1
            simp only [List.cons.injEq, and_true] at ex
            obtain ⟨rfl, rfl, rfl, rfl, rfl⟩ := ex
            obtain ⟨b2, o2, rfl, hb2, r0, r1, r2, r3, r4, nq2, hcell2⟩ := row_one hrow2
            cases d with
            | zero => exact nq2.elim
            | succ d =>
            obtain ⟨aq, cq, eq, hrow3, -⟩ := nq2
            simp only [List.cons.injEq, and_true] at eq
            obtain ⟨rfl, rfl, rfl, rfl, rfl⟩ := eq
            have hlq : Q.length ≤ 20000 := by
              simp only [nsz] at hzk
              have h1 := Nat.le_trans (nszs_get [.mk kx sx nx px [.mk kq sq nq pq Q], y, z] 0 (by simp)) hzk
              simp only [List.getElem_cons_zero, nsz] at h1
              have h2 := Nat.le_trans (nszs_get [Nd.mk kq sq nq pq Q] 0 (by simp)) h1
              simp only [List.getElem_cons_zero, nsz] at h2
              exact Nat.le_trans (nszs_len Q) h2
            have x4 : wr.cell? ⟨b, o + k * 5 + 4, none⟩ = some (.slice (some ⟨b1, o1, none⟩) 3 c1) := hcell 4 (by omega)
            have y4 : wr.cell? ⟨b1, o1 + 4, none⟩ = some (.slice (some ⟨b2, o2, none⟩) 1 cx) := hcell1 4 (by omega)
            have z0 : wr.cell? ⟨b2, o2, none⟩ = some (.int .u8 kq) := hcell2 0 (by omega)
            have z1 : wr.cell? ⟨b2, o2 + 1, none⟩ = some (.string sq) := hcell2 1 (by omega)
            have z2 : wr.cell? ⟨b2, o2 + 2, none⟩ = some (.int .i64 nq) := hcell2 2 (by omega)
            have z3 : wr.cell? ⟨b2, o2 + 3, none⟩ = some (.int .i64 pq) := hcell2 3 (by omega)
            have z4 : wr.cell? ⟨b2, o2 + 4, none⟩ = some (.slice aq Q.length cq) := hcell2 4 (by omega)
            have HH : Hid (Q.length = 2 → ∃ b3 o3, aq = some ⟨b3, o3, none⟩ ∧ b3 < wr.heap.size ∧ wr.cell? ⟨b3, o3, none⟩ = some (.int .u8 (headK Q))) := fun h2 => head_cell hrow3 (by omega)
            have HU : Hid (Upd [] w wr) := hU
            clear hc hcell hU hb hb1 hb2 hrow hrow2 hrow3 hcell1 hcell2 hzk hkk HZ HCL
            cases h5 : (kq == 5) with
            | false =>
              have h5b : (kq != 5) = true := by rw [bne, h5]; rfl
              have HF : Hid (R = false) := by
                show R = false
                have hp : ctP K[k] = false := by rw [HKK.out]; show ctQ _ = false; unfold ctQ Nd.kd Nd.kids; simp only [h5]; simp
                rw [HR.out, allF_false hlt hfk hp]
              clear HR HY HK HKK
              go_wp2
              go_ret
              exact ⟨ret_boolN HF.out.symm, HU.out.trans ((Upd.refl [] wr).alloc _)⟩
            | true =>
              have h5b : (kq != 5) = false := by rw [bne, h5]; rfl
              by_cases h2 : Q.length = 2
              · obtain ⟨b3, o3, rfl, h3, h4⟩ := HH.out h2
                have h2b : ((Q.length : Int) == 2) = true := by simp [h2]
                have h2d : ((Q.length : Int) != 2) = false := by rw [bne, h2b]; rfl
                have h2c : decide (Q.length = 2) = true := decide_eq_true h2
                have hl2 : (0 : Int) < (Q.length : Int) := by omega
                clear HH h2
                cases h6 : (headK Q == 2) with
                | true =>
                  have h6b : (headK Q != 2) = false := by rw [bne, h6]; rfl
                  have HP : Hid (ctP K[k] = true) := by
                    show ctP K[k] = true
                    rw [HKK.out]; show ctQ _ = true; unfold ctQ Nd.kd Nd.kids; simp only [h5, h2c, h6]; simp
                  clear HKK
                  have v5 : (wr.alloc (.cells #[.int .u8 kq, .string sq, .int .i64 nq, .int .i64 pq, .slice (some ⟨b3, o3, none⟩) Q.length cq] 25)).cell? ⟨b3, o3, none⟩ = some (.int .u8 (headK Q)) := (((Upd.refl [] wr).alloc _).cell (p := ⟨b3, o3, none⟩) h3 (by simp)).trans h4
                  go_wp2
                  go_roundw
                  case rel => exact ⟨k + 1, by omega, by omega, by go_num, fun j h h1 hj => by
                    by_cases e : j = k
                    · subst e; exact HP.out
                    · exact HY.out j h h1 (by omega), HU.out.trans ((Upd.refl [] wr).alloc _)⟩
                  case measure => simp [intOf]; omega
                | false =>
                  have h6b : (headK Q != 2) = true := by rw [bne, h6]; rfl
                  cases h7 : (headK Q == 3) with
                  | true =>
                    have h7b : (headK Q != 3) = false := by rw [bne, h7]; rfl
                    have HP : Hid (ctP K[k] = true) := by
                      show ctP K[k] = true
                      rw [HKK.out]; show ctQ _ = true; unfold ctQ Nd.kd Nd.kids; simp only [h5, h2c, h6, h7]; simp
                    clear HKK
                    have v5 : (wr.alloc (.cells #[.int .u8 kq, .string sq, .int .i64 nq, .int .i64 pq, .slice (some ⟨b3, o3, none⟩) Q.length cq] 25)).cell? ⟨b3, o3, none⟩ = some (.int .u8 (headK Q)) := (((Upd.refl [] wr).alloc _).cell (p := ⟨b3, o3, none⟩) h3 (by simp)).trans h4
                    go_wp2
                    go_roundw
                    case rel => exact ⟨k + 1, by omega, by omega, by go_num, fun j h h1 hj => by
                      by_cases e : j = k
                      · subst e; exact HP.out
                      · exact HY.out j h h1 (by omega), HU.out.trans ((Upd.refl [] wr).alloc _)⟩
                    case measure => simp [intOf]; omega
                  | false =>
                    have h7b : (headK Q != 3) = true := by rw [bne, h7]; rfl
                    have HF : Hid (R = false) := by
                      show R = false
                      have hp : ctP K[k] = false := by rw [HKK.out]; show ctQ _ = false; unfold ctQ Nd.kd Nd.kids; simp only [h5, h2c, h6, h7]; simp
                      rw [HR.out, allF_false hlt hfk hp]
                    clear HR HY HK HKK
                    have v5 : (wr.alloc (.cells #[.int .u8 kq, .string sq, .int .i64 nq, .int .i64 pq, .slice (some ⟨b3, o3, none⟩) Q.length cq] 25)).cell? ⟨b3, o3, none⟩ = some (.int .u8 (headK Q)) := (((Upd.refl [] wr).alloc _).cell (p := ⟨b3, o3, none⟩) h3 (by simp)).trans h4
                    go_wp2
                    go_ret
                    exact ⟨ret_boolN HF.out.symm, HU.out.trans ((Upd.refl [] wr).alloc _)⟩
              · have h2b : ((Q.length : Int) == 2) = false := by simp; omega
                have h2d : ((Q.length : Int) != 2) = true := by rw [bne, h2b]; rfl
                have h2c : decide (Q.length = 2) = false := decide_eq_false h2
                clear HH h2
                have HF : Hid (R = false) := by
                  show R = false
                  have hp : ctP K[k] = false := by rw [HKK.out]; show ctQ _ = false; unfold ctQ Nd.kd Nd.kids; simp only [h5, h2c]; simp
                  rw [HR.out, allF_false hlt hfk hp]
                clear HR HY HK HKK
                go_wp2
                go_ret
                exact ⟨ret_boolN HF.out.symm, HU.out.trans ((Upd.refl [] wr).alloc _)⟩
          · have hd : decide ((k : Int) < (K.length : Int)) = false := by simp; omega
            have HA : Hid (R = true) := by show R = true; rw [HR.out, allF_true (fun j hj h1 => HY.out j hj h1 (by omega))]
            clear HY HK HCL HR
            go_wp2
            go_ret
            exact ⟨ret_boolN HA.out.symm, hU⟩

end Go.Proofs.YtehfoblfmehbdaaDoor
