/- LinkOnce, walked. -/
import Derived.Test.YtmepiggkligacaaLkOm
import Derived.Deep.DeepCutAuto
import Derived.Deep.CutBlock
import Derived.Deep.RegionHeld3
import Derived.BigQuiet
import Derived.Deep.QuietTactic
namespace Go.Proofs.Ytmepiggkligacaa
open Go.RowKit Go.Maps

def OnceR (w wr : World) (l m : Nat) (s4 s5 : Value) : Prop := ∃ (i n : Nat) (M : MF) (K : List Mon), s5 = .int .i64 (i : Nat) ∧ i ≤ m ∧ n ≤ 2 * i ∧ K.length ≤ i ∧ On w wr l n M s4 K ∧ Rl M K
def OnceC (w wr : World) (l i : Nat) (s4 : Value) : Prop := ∃ (n : Nat) (M : MF) (K : List Mon), n ≤ 2 * (i + 1) ∧ K.length ≤ i + 1 ∧ On w wr l n M s4 K ∧ Rl M K

set_option maxHeartbeats 8000000 in
set_option maxRecDepth 100000 in
theorem Once_walk (w : World) (a : Option Addr) (n0 c0 : Nat) (hn0 : n0 ≤ c0) (hcm : c0 ≤ 9223372036854775807) (hop : Steps w a n0) : Calls Try.prog 7 #[.slice a n0 c0] w fun e w' => e = .returned (.bool true) ∧ Upd [] w w' := by
  obtain ⟨i0, hi, hz0, hz1, hz2⟩ := info_parts info_mon
  have HN : Hid (n0 ≤ c0 ∧ c0 ≤ 9223372036854775807 ∧ Steps w a n0) := ⟨hn0, hcm, hop⟩
  have HI0 : Hid (Try.prog.info? 52 = some i0 ∧ i0.zero = some (.agg #[.int .i64 0, .int .i64 0, .int .i64 0]) ∧ i0.size = 3 ∧ i0.bytes = 24) := ⟨hi, hz0, hz1, hz2⟩
  clear hop hn0 hcm hi hz0 hz1 hz2
  go_enter Try.func7, Try.ntmps7
  go_wp2_with fail
  refine Calls.mono (awake_any _) ?_
  rintro e w1 ⟨rfl, hu⟩
  have U1 : Hid (Upd [] w w1) := hu
  clear hu
  go_upto_if 23 with fail
  go_cut [0] (fun s0 wx => s0 = .slice a (min n0 80) c0 ∧ wx = w1)
  case first =>
    by_cases h80 : n0 ≤ 80
    · have hd : decide ((80 : Int) < (n0 : Int)) = false := decide_eq_false (by omega)
      have hm : min n0 80 = n0 := by omega
      go_wp2_with fail
      go_meet
      case rel => exact ⟨by rw [hm], rfl⟩
    · have hd : decide ((80 : Int) < (n0 : Int)) = true := decide_eq_true (by omega)
      have hm : min n0 80 = 80 := by omega
      have hc : 80 ≤ c0 := by have := HN.out.1; omega
      obtain ⟨gl, ol, _, _, _, _, hae, _⟩ := HN.out.2.2 0 (by omega)
      subst hae
      go_wp2_with fail
      go_meet
      case rel => exact ⟨by rw [hm], rfl⟩
  case rest =>
    obtain ⟨rfl, hw⟩ := hcut
    rw [hw]
    clear hw
    obtain ⟨m, hm⟩ : ∃ m, m = min n0 80 := ⟨_, rfl⟩
    rw [← hm]
    have HM : Hid (m ≤ 80 ∧ Steps w a m) := ⟨by omega, HN.out.2.2.le (by omega)⟩
    clear hm HN
    go_wp2_with fail
    refine Calls.mono (on_new w _ U1.out) ?_
    rintro e w2 ⟨l, rfl, o⟩
    have H3 : Hid (OnceR w w2 l m (.slice none 0 0) (.int .i64 0)) := ⟨0, 0, _, [], rfl, Nat.zero_le _, Nat.zero_le _, Nat.zero_le _, o, Rl.none⟩
    clear o U1
    go_wp2_with fail
    go_loopw [4, 5] (fun s4 s5 wr => OnceR w wr l m s4 s5) (fun _ s5 _ => m - (intOf s5).toNat)
    case atStart => exact H3.out
    case round =>
      obtain ⟨i, n, M, K, rfl, him, hni, hKi, o, hRl⟩ := hrel
      obtain ⟨pv, cv, hvf⟩ := o.row.form
      subst hvf
      have HO : Hid (On w wr l n M (.slice pv K.length cv) K ∧ n ≤ 2 * i ∧ K.length ≤ i ∧ Rl M K) := ⟨o, hni, hKi, hRl⟩
      clear o hni hKi hRl H3
      by_cases hlt : i < m
      · have i1 : (i : Int) < (m : Int) := by omega
        obtain ⟨gl, ol, op, A, B, r, hae, hgl, k0, k1, k2, k3, hI⟩ := HM.out.2 i hlt
        subst hae
        have hl0 : wr.cell? ⟨gl, ol + i * 4, none⟩ = some (.int .i64 op) := (HO.out.1.up.cell (p := ⟨gl, ol + i * 4, none⟩) hgl (by simp)).trans k0
        have hl1 : wr.cell? ⟨gl, ol + i * 4 + 1, none⟩ = some (.int .i64 A) := (HO.out.1.up.cell (p := ⟨gl, ol + i * 4 + 1, none⟩) hgl (by simp)).trans k1
        have hl2 : wr.cell? ⟨gl, ol + i * 4 + 2, none⟩ = some (.int .i64 B) := (HO.out.1.up.cell (p := ⟨gl, ol + i * 4 + 2, none⟩) hgl (by simp)).trans k2
        have hl3 : wr.cell? ⟨gl, ol + i * 4 + 3, none⟩ = some (.int .i64 r) := (HO.out.1.up.cell (p := ⟨gl, ol + i * 4 + 3, none⟩) hgl (by simp)).trans k3
        have HI : Hid (I64 op ∧ I64 A ∧ I64 B ∧ I64 r) := hI
        clear k0 k1 k2 k3 hgl hI
        go_upto_region 11 with fail
        generalize hw3 : World.alloc _ _ = w3
        have hu3 : Upd [] wr w3 := by rw [← hw3]; exact (Upd.refl [] wr).alloc _
        have hC : Cl w3 wr.heap.size #[.int .i64 op, .int .i64 A, .int .i64 B, .int .i64 r] 31 := by rw [← hw3]; exact Cl.new _ _ _ _ rfl
        obtain ⟨x, hx⟩ : ∃ x, x = wr.heap.size := ⟨_, rfl⟩
        rw [← hx] at hC ⊢
        have q0 : w3.cell? ⟨x, 0, none⟩ = some (.int .i64 op) := by rw [hC.cell]; rfl
        have q1 : w3.cell? ⟨x, 1, none⟩ = some (.int .i64 A) := by rw [hC.cell]; rfl
        have q2 : w3.cell? ⟨x, 2, none⟩ = some (.int .i64 B) := by rw [hC.cell]; rfl
        have q3 : w3.cell? ⟨x, 3, none⟩ = some (.int .i64 r) := by rw [hC.cell]; rfl
        have O3 : Hid (On w w3 l n M (.slice pv K.length cv) K ∧ n ≤ 2 * i ∧ i < 80 ∧ K.length ≤ i ∧ Rl M K) := ⟨HO.out.1.upd hu3, HO.out.2.1, by have := HM.out.1; omega, HO.out.2.2⟩
        have HX0 : Hid (On w wr l n M (.slice pv K.length cv) K ∧ wr.heap.size ≤ x ∧ Upd [] wr w3 ∧ x < w3.heap.size) := ⟨HO.out.1, by omega, hu3, hC.lt⟩
        clear hu3 hC hx hw3 HO hl0 hl1 hl2 hl3
        go_quiet (first | (go_at_call 21; refine Calls.quiet_of_same (pick_any _ _ (by omega) (by omega) _)))
        have O4 : Hid (On w (w3.drewN nq) l n M (.slice pv K.length cv) K) := O3.out.1.upd ((Upd.refl [] w3).drewN nq)
        obtain ⟨w4, hw4⟩ : ∃ w4, w4 = w3.drewN nq := ⟨_, rfl⟩
        have q0' : w4.cell? ⟨x, 0, none⟩ = some (.int .i64 op) := by rw [hw4]; exact q0
        have q3' : w4.cell? ⟨x, 3, none⟩ = some (.int .i64 r) := by rw [hw4]; exact q3
        have HX : Hid (On w wr l n M (.slice pv K.length cv) K ∧ wr.heap.size ≤ x ∧ Upd [] wr w4 ∧ x < w4.heap.size) := by rw [hw4]; exact ⟨HX0.out.1, HX0.out.2.1, HX0.out.2.2.1.drewN nq, HX0.out.2.2.2⟩
        clear HX0
        rw [← hw4] at O4 ⊢
        clear hw4 q0 q1 q2 q3
        obtain ⟨pa, hpa⟩ : ∃ pa, pa = pk A 6 := ⟨_, rfl⟩
        obtain ⟨pb, hpb⟩ : ∃ pb, pb = pk B 6 := ⟨_, rfl⟩
        rw [← hpa, ← hpb]
        have HI2 : Hid (I64 pa ∧ I64 pb ∧ I64 r) := by
          have h1 := pk_lt A (n := 6) (by omega)
          have h2 := pk_lt B (n := 6) (by omega)
          exact ⟨by rw [hpa]; exact i64_small (by omega) (by omega), by rw [hpb]; exact i64_small (by omega) (by omega), HI.out.2.2.2⟩
        clear hpa hpb HI
        have HB : Hid (n ≤ 2 * i ∧ i < 80 ∧ K.length ≤ i ∧ Rl M K) := O3.out.2
        have i80 : (i : Int) < 80 := by have := HB.out; omega
        clear O3
        go_wp2_with fail
        refine Calls.mono (pick_any op 4 (by omega) (by omega) _) ?_
        rintro e w5 ⟨rfl, hw5⟩
        rw [hw5]
        clear hw5 w5 q0'
        obtain ⟨t, ht⟩ : ∃ t, t = pk op 4 := ⟨_, rfl⟩
        have htl : 0 ≤ t ∧ t < 4 := by rw [ht]; exact pk_lt op (by omega)
        rw [← ht]
        clear ht
        go_upto_block 2 with fail
        go_cut [4, 9, 10, 11, 12, 13, 14, 15, 16, 17, 18] (fun s4 _ _ _ _ _ _ _ _ _ _ wx => OnceC w wx l i s4)
        case first =>
          rcases (by omega : t = 0 ∨ t = 1 ∨ 2 ≤ t) with rfl | rfl | ht3
          · clear htl
            go_wp2_with fail
            refine Calls.mono (on_end O4.out (by have := HB.out; omega) HI2.out.1) ?_
            rintro e w6 ⟨s, xs, u, rs, rfl, hs, hu, hp, hr, o⟩
            obtain ⟨p1, c1, hsf⟩ := hs.form
            subst hsf
            obtain ⟨p2, c2, huf⟩ := hu.form
            subst huf
            obtain ⟨T, hT⟩ : ∃ T, T = selM M pa rs := ⟨_, rfl⟩
            rw [← hT] at hu ⊢
            have HE : Hid (On w w6 l n (endM M rs) (.slice pv K.length cv) K ∧ MR w6 w4.heap.size (.slice p2 T.length c2) T) := ⟨o, hu⟩
            have HT : Hid ((K.filter (fun m => m.2.2 == pa)).length = T.length ∧ (∀ m, m ∈ K → (m.2.2 == pa) = true → T.contains m = true) ∧ Rl (endM M rs) (K.filter (fun m => !(m.2.2 == pa) && !(m.2.1 == pa)))) := ⟨by rw [hT]; exact HB.out.2.2.2.told hr hp, fun m hm ha => by rw [hT]; exact List.contains_iff_mem.2 (HB.out.2.2.2.is_told hr hm ha), HB.out.2.2.2.ended hr⟩
            have HTL : Hid (T.length ≤ maxLen) := hu.le
            clear hs hu hp hr o hT
            go_wp2_with fail
            go_loopw [11, 12, 13] (fun s11 s12 s13 wx => ∃ (k c : Nat) (ks : List Mon), s13 = .int .i64 (k : Nat) ∧ k ≤ K.length ∧ s11 = .int .i64 (c : Nat) ∧ c = ((K.take k).filter (fun m => m.2.2 == pa)).length ∧ ks = (K.take k).filter (fun m => !(m.2.2 == pa) && !(m.2.1 == pa)) ∧ MR wx w6.heap.size s12 ks ∧ Upd [] w6 wx) (fun _ _ s13 _ => K.length - (intOf s13).toNat)
            case atStart => exact ⟨0, 0, [], rfl, Nat.zero_le _, rfl, by simp, by simp, ⟨rfl, Or.inl ⟨rfl, rfl⟩⟩, Upd.refl [] w6⟩
            case round =>
              obtain ⟨k, c, ks, rfl, hk, rfl, hc, hks, hr, hu⟩ := hrel
              obtain ⟨pl, cl, hlf⟩ := hr.form
              subst hlf
              have HK : Hid (MR wr w6.heap.size (.slice pl ks.length cl) ks ∧ Upd [] w6 wr ∧ c = ((K.take k).filter (fun m => m.2.2 == pa)).length ∧ ks = (K.take k).filter (fun m => !(m.2.2 == pa) && !(m.2.1 == pa))) := ⟨hr, hu, hc, hks⟩
              have hck : c ≤ k := by rw [hc]; exact Nat.le_trans (List.length_filter_le _ _) (by simp; omega)
              have hkk : ks.length ≤ k := by rw [hks]; exact Nat.le_trans (List.length_filter_le _ _) (by simp; omega)
              have kk80 : K.length ≤ 80 := by have := HB.out; omega
              clear hc hks hr hu
              by_cases hlk : k < K.length
              · have j1 : (k : Int) < (K.length : Int) := by omega
                obtain ⟨g, c9, e1, d0, d1, d2⟩ := (HE.out.1.row.upd HK.out.2.1).cells hlk
                simp only [Value.slice.injEq] at e1
                obtain ⟨rfl, _, rfl⟩ := e1
                obtain ⟨y0, y1, y2, hy⟩ : ∃ y0 y1 y2, K[k] = (y0, y1, y2) := ⟨_, _, _, rfl⟩
                rw [hy] at d0 d1 d2
                simp only at d0 d1 d2
                have HY : Hid (K[k] = (y0, y1, y2)) := hy
                clear hy
                have HS : Hid (((K.take (k + 1)).filter (fun m => m.2.2 == pa)).length = c + (if (y2 == pa) = true then 1 else 0) ∧ (K.take (k + 1)).filter (fun m => !(m.2.2 == pa) && !(m.2.1 == pa)) = ks ++ (if (!(y2 == pa) && !(y1 == pa)) = true then [(y0, y1, y2)] else [])) := ⟨by rw [filt_succ _ _ hlk, List.length_append, ← HK.out.2.2.1, HY.out]; cases y2 == pa <;> rfl, by rw [filt_succ _ _ hlk, ← HK.out.2.2.2, HY.out]⟩
                cases h2 : y2 == pa with
                | true =>
                  have HF : Hid (T.contains (y0, y1, y2) = true) := HT.out.2.1 _ (by rw [← HY.out]; exact List.getElem_mem hlk) h2
                  rw [h2] at HS
                  go_wp2_with fail
                  go_loopw [14, 15] (fun s14 s15 wx => ∃ (j : Nat) (b : Bool), s15 = .int .i64 (j : Nat) ∧ j ≤ T.length ∧ s14 = .bool b ∧ b = (T.take j).contains (y0, y1, y2) ∧ MR wx w6.heap.size (.slice pl ks.length cl) ks ∧ Upd [] w6 wx) (fun _ s15 _ => T.length - (intOf s15).toNat)
                  case atStart => exact ⟨0, false, rfl, Nat.zero_le _, rfl, by simp, HK.out.1, HK.out.2.1⟩
                  case round =>
                    obtain ⟨j, b, rfl, hj, rfl, hb, hr, hu⟩ := hrel
                    have HJ : Hid (MR wr w6.heap.size (.slice pl ks.length cl) ks ∧ Upd [] w6 wr ∧ b = (T.take j).contains (y0, y1, y2)) := ⟨hr, hu, hb⟩
                    clear hb hr hu d0 d1 d2
                    by_cases hlj : j < T.length
                    · have j2 : (j : Int) < (T.length : Int) := by omega
                      have hjm : (j : Int) + 1 ≤ 9223372036854775807 := by have h5 := HTL.out; unfold maxLen at h5; omega
                      obtain ⟨g2, c8, e2, t0, t1, t2⟩ := (HE.out.2.upd HJ.out.2.1).cells hlj
                      simp only [Value.slice.injEq] at e2
                      obtain ⟨rfl, _, rfl⟩ := e2
                      obtain ⟨g3, c7, e3, d0, d1, d2⟩ := (HE.out.1.row.upd HJ.out.2.1).cells hlk
                      simp only [Value.slice.injEq, Option.some.injEq, Addr.mk.injEq] at e3
                      obtain ⟨⟨rfl, _⟩, _, rfl⟩ := e3
                      rw [HY.out] at d0 d1 d2
                      simp only at d0 d1 d2
                      obtain ⟨z0, z1, z2, hz⟩ : ∃ z0 z1 z2, T[j] = (z0, z1, z2) := ⟨_, _, _, rfl⟩
                      rw [hz] at t0 t1 t2
                      simp only at t0 t1 t2
                      obtain ⟨dd, hdd⟩ : ∃ dd, dd = (decide (z0 = y0) && (decide (z1 = y1) && decide (z2 = y2))) := ⟨_, rfl⟩
                      have HZ : Hid ((T.take (j + 1)).contains (y0, y1, y2) = (b || dd)) := by
                        show _ = _
                        rw [List.take_succ_eq_append_getElem hlj, List.contains_append, ← HJ.out.2.2, hz, one_has, hdd]
                      have heq : ∀ W, (binOp .eql 52 (.agg #[.int .i64 z0, .int .i64 z1, .int .i64 z2]) (.agg #[.int .i64 y0, .int .i64 y1, .int .i64 y2])).run Try.prog W = .ok (.bool dd) W := fun W => by rw [hdd]; exact eq_mon W _ _ _ _ _ _
                      have heq2 : ∀ W, (Op.equalIn 10000 52 (.agg #[.int .i64 z0, .int .i64 z1, .int .i64 z2]) (.agg #[.int .i64 y0, .int .i64 y1, .int .i64 y2])).run Try.prog W = .ok dd W := fun W => by rw [hdd]; exact eqIn_mon W _ _ _ _ _ _
                      have hgm := guard_mon
                      clear hdd
                      clear hz
                      cases b with
                      | true =>
                        go_upto_region 28 with fail
                        go_quiet (fail)
                        have HJq : Hid (MR (wr.drewN nq) w6.heap.size (.slice pl ks.length cl) ks ∧ Upd [] w6 (wr.drewN nq)) := ⟨HJ.out.1.upd ((Upd.refl [] wr).drewN nq), HJ.out.2.1.drewN nq⟩
                        go_wp2_with fail
                        go_roundw
                        case rel => exact ⟨j + 1, true, by go_num, hlj, rfl, by rw [HZ.out]; simp, HJq.out.1, HJq.out.2⟩
                        case measure => simp [intOf]; omega
                      | false =>
                        go_upto_region 28 with fail
                        go_quiet (fail)
                        have HJq : Hid (MR (wr.drewN nq) w6.heap.size (.slice pl ks.length cl) ks ∧ Upd [] w6 (wr.drewN nq)) := ⟨HJ.out.1.upd ((Upd.refl [] wr).drewN nq), HJ.out.2.1.drewN nq⟩
                        go_wp2_with fail
                        go_roundw
                        case rel => exact ⟨j + 1, dd, by go_num, hlj, rfl, by rw [HZ.out]; simp, HJq.out.1, HJq.out.2⟩
                        case measure => simp [intOf]; omega
                    · obtain rfl : j = T.length := by omega
                      obtain rfl : b = true := by rw [HJ.out.2.2, List.take_length]; exact HF.out
                      go_wp2_with fail
                      go_roundw
                      case rel => exact ⟨k + 1, c + 1, ks, by go_num, hlk, by go_num, by rw [HS.out.1]; simp, by rw [HS.out.2]; simp, HJ.out.1, HJ.out.2.1⟩
                      case measure => simp [intOf]; omega
                | false =>
                  rw [h2] at HS
                  cases h1 : y1 == pa with
                  | true =>
                    rw [h1] at HS
                    go_wp2_with fail
                    go_roundw
                    case rel => exact ⟨k + 1, c, ks, by go_num, hlk, rfl, by rw [HS.out.1]; simp, by rw [HS.out.2]; simp, HK.out.1, HK.out.2.1⟩
                    case measure => simp [intOf]; omega
                  | false =>
                    rw [h1] at HS
                    have hsz : w6.heap.size ≤ wr.heap.size := HK.out.2.1.size
                    have hrow6 : wr.ownsRow w6.heap.size 52 3 (.slice pl ks.length cl) ks.length (ks.flatMap cellsM) := HK.out.1
                    obtain ⟨hi, hz0, hz1, hz2⟩ := HI0.out
                    go_wp2_with (first
                      | (at_builtin; refine wpList_append_own_at _ rfl _ _ 37 rfl w6.heap.size 52 i0 (.agg #[.int .i64 0, .int .i64 0, .int .i64 0]) 3 24 und_monrow hi hz0 hz1 hz2 rfl (by decide) _ _ _ rfl (World.ownsRow.alloc hrow6 _) ⟨wr.heap.size, 0, none⟩ 1 1 [.int .i64 y0, .int .i64 y1, .int .i64 y2] rfl rfl (cell_new3 _ _ _ _ _) (by simp [Value.oneCell']) (by unfold maxLen; omega) (by omega) (by simp; omega) ?_; intro v' w9 hown' hg9 _ hat
                         obtain ⟨g9, cap9, cur9, rfl, _, _, _⟩ : ∃ g9 cap9 cur9, v' = .slice (some ⟨g9, 0, none⟩) (ks.length + 1) cap9 ∧ w9.heap[g9]? = some (.cells cur9 52 (0, 0)) ∧ ks.length + 1 ≤ cap9 ∧ cap9 ≤ maxLen := by
                           rcases hown'.2 with ⟨_, h0⟩ | ⟨g, cap, cur, h1, _, h2, h3, h4, _⟩
                           · exact absurd h0 (by omega)
                           · exact ⟨g, cap, cur, h1, h2, h3, h4⟩
                         have HA9 : Hid (w9.ownsRow w6.heap.size 52 3 (.slice (some ⟨g9, 0, none⟩) (ks.length + 1) cap9) (ks.length + 1) (ks.flatMap cellsM ++ [.int .i64 y0, .int .i64 y1, .int .i64 y2]) ∧ (wr.alloc (.cells #[.int .i64 y0, .int .i64 y1, .int .i64 y2] 52)).grownBy w9 (Value.ownBlock (.slice pl ks.length cl)) ∧ (Value.ownBlock (.slice (some ⟨g9, 0, none⟩) (ks.length + 1) cap9) = Value.ownBlock (.slice pl ks.length cl) ∨ Value.ownBlock (.slice (some ⟨g9, 0, none⟩) (ks.length + 1) cap9) = some (wr.alloc (.cells #[.int .i64 y0, .int .i64 y1, .int .i64 y2] 52)).heap.size)) := ⟨hown', hg9, hat⟩
                         clear hown' hg9 hat)
                      | fail)
                    have hU9 : Upd [] w6 w9 := (((HK.out.2.1.alloc _).toN (P := fun x => Value.ownBlock (.slice pl ks.length cl) = some x)).trans (upP_grown HA9.out.2.1)).upd (fun x hx => (HK.out.1.own hx).1)
                    go_roundw
                    case rel => exact ⟨k + 1, c, ks ++ [(y0, y1, y2)], by go_num, hlk, rfl, by rw [HS.out.1]; simp, by rw [HS.out.2]; simp, MR.snoc HA9.out.1, hU9⟩
                    case measure => simp [intOf]; omega
              · obtain rfl : k = K.length := by omega
                have HZ : Hid (c = T.length ∧ ks = K.filter (fun m => !(m.2.2 == pa) && !(m.2.1 == pa))) := ⟨by rw [HK.out.2.2.1, List.take_length, HT.out.1], by rw [HK.out.2.2.2, List.take_length]⟩
                obtain rfl : c = T.length := HZ.out.1
                have jt : ((T.length : Int) == (T.length : Int)) = true := by simp
                go_wp2_with fail
                go_meet
                case rel => exact ⟨n, _, ks, by have := HB.out; omega, by have := HB.out; omega, HE.out.1.swap HK.out.2.1 HK.out.1, by rw [HZ.out.2]; exact HT.out.2.2⟩
          · clear htl
            go_wp2_with fail
            go_loopw [16, 17, 18] (fun s16 s17 s18 wx => ∃ (k : Nat) (b : Bool) (ks : List Mon), s18 = .int .i64 (k : Nat) ∧ k ≤ K.length ∧ s16 = .bool b ∧ b = (K.take k).any (fun m => m.1 == r && m.2.1 == pa) ∧ ks = (K.take k).filter (fun m => !(m.1 == r && m.2.1 == pa)) ∧ MR wx w4.heap.size s17 ks ∧ Upd [] w4 wx) (fun _ _ s18 _ => K.length - (intOf s18).toNat)
            case atStart => exact ⟨0, false, [], rfl, Nat.zero_le _, rfl, by simp, by simp, ⟨rfl, Or.inl ⟨rfl, rfl⟩⟩, Upd.refl [] w4⟩
            case round =>
              obtain ⟨k, b, ks, rfl, hk, rfl, hb, hks, hr, hu⟩ := hrel
              obtain ⟨pl, cl, hlf⟩ := hr.form
              subst hlf
              have HK : Hid (MR wr w4.heap.size (.slice pl ks.length cl) ks ∧ Upd [] w4 wr ∧ b = (K.take k).any (fun m => m.1 == r && m.2.1 == pa) ∧ ks = (K.take k).filter (fun m => !(m.1 == r && m.2.1 == pa))) := ⟨hr, hu, hb, hks⟩
              have hkk : ks.length ≤ k := by rw [hks]; exact Nat.le_trans (List.length_filter_le _ _) (by simp; omega)
              have kk80 : K.length ≤ 80 := by have := HB.out; omega
              have q3k : wr.cell? ⟨x, 3, none⟩ = some (.int .i64 r) := (hu.cell (p := ⟨x, 3, none⟩) HX.out.2.2.2 (by simp)).trans q3'
              clear hb hks hr hu
              by_cases hlk : k < K.length
              · have j1 : (k : Int) < (K.length : Int) := by omega
                obtain ⟨g, c9, e1, d0, d1, d2⟩ := (O4.out.row.upd HK.out.2.1).cells hlk
                simp only [Value.slice.injEq] at e1
                obtain ⟨rfl, _, rfl⟩ := e1
                obtain ⟨y0, y1, y2, hy⟩ : ∃ y0 y1 y2, K[k] = (y0, y1, y2) := ⟨_, _, _, rfl⟩
                rw [hy] at d0 d1 d2
                simp only at d0 d1 d2
                have HY : Hid (K[k] = (y0, y1, y2)) := hy
                clear hy
                have HS : Hid ((K.take (k + 1)).any (fun m => m.1 == r && m.2.1 == pa) = (b || (y0 == r && y1 == pa)) ∧ (K.take (k + 1)).filter (fun m => !(m.1 == r && m.2.1 == pa)) = ks ++ (if !(y0 == r && y1 == pa) then [(y0, y1, y2)] else [])) := ⟨by rw [List.take_succ_eq_append_getElem hlk, List.any_append, ← HK.out.2.2.1, HY.out]; simp, by rw [filt_succ _ _ hlk, ← HK.out.2.2.2, HY.out]⟩
                cases h0 : y0 == r with
                | false =>
                  rw [h0] at HS
                  go_upto_region 42 with fail
                  go_quiet (fail)
                  obtain ⟨wq, hwq⟩ : ∃ wq, wq = wr.drewN nq := ⟨_, rfl⟩
                  have HKq : Hid (MR wq w4.heap.size (.slice pl ks.length cl) ks ∧ Upd [] w4 wq) := by rw [hwq]; exact ⟨HK.out.1.upd ((Upd.refl [] wr).drewN nq), HK.out.2.1.drewN nq⟩
                  have f0 : wq.cell? ⟨g, k * 3, none⟩ = some (.int .i64 y0) := by rw [hwq]; exact d0
                  have f1 : wq.cell? ⟨g, k * 3 + 1, none⟩ = some (.int .i64 y1) := by rw [hwq]; exact d1
                  have f2 : wq.cell? ⟨g, k * 3 + 2, none⟩ = some (.int .i64 y2) := by rw [hwq]; exact d2
                  rw [← hwq]
                  clear hwq d0 d1 d2
                  have hsz : w4.heap.size ≤ wq.heap.size := HKq.out.2.size
                  have hrow6 : wq.ownsRow w4.heap.size 52 3 (.slice pl ks.length cl) ks.length (ks.flatMap cellsM) := HKq.out.1
                  obtain ⟨hi, hz0, hz1, hz2⟩ := HI0.out
                  go_wp2_with (first
                    | (at_builtin; refine wpList_append_own_at _ rfl _ _ 37 rfl w4.heap.size 52 i0 (.agg #[.int .i64 0, .int .i64 0, .int .i64 0]) 3 24 und_monrow hi hz0 hz1 hz2 rfl (by decide) _ _ _ rfl (World.ownsRow.alloc hrow6 _) ⟨wq.heap.size, 0, none⟩ 1 1 [.int .i64 y0, .int .i64 y1, .int .i64 y2] rfl rfl (cell_new3 _ _ _ _ _) (by simp [Value.oneCell']) (by unfold maxLen; omega) (by omega) (by simp; omega) ?_; intro v' w9 hown' hg9 _ hat
                       obtain ⟨g9, cap9, cur9, rfl, _, _, _⟩ : ∃ g9 cap9 cur9, v' = .slice (some ⟨g9, 0, none⟩) (ks.length + 1) cap9 ∧ w9.heap[g9]? = some (.cells cur9 52 (0, 0)) ∧ ks.length + 1 ≤ cap9 ∧ cap9 ≤ maxLen := by
                         rcases hown'.2 with ⟨_, h0⟩ | ⟨g, cap, cur, h1, _, h2, h3, h4, _⟩
                         · exact absurd h0 (by omega)
                         · exact ⟨g, cap, cur, h1, h2, h3, h4⟩
                       have HA9 : Hid (w9.ownsRow w4.heap.size 52 3 (.slice (some ⟨g9, 0, none⟩) (ks.length + 1) cap9) (ks.length + 1) (ks.flatMap cellsM ++ [.int .i64 y0, .int .i64 y1, .int .i64 y2]) ∧ (wq.alloc (.cells #[.int .i64 y0, .int .i64 y1, .int .i64 y2] 52)).grownBy w9 (Value.ownBlock (.slice pl ks.length cl)) ∧ (Value.ownBlock (.slice (some ⟨g9, 0, none⟩) (ks.length + 1) cap9) = Value.ownBlock (.slice pl ks.length cl) ∨ Value.ownBlock (.slice (some ⟨g9, 0, none⟩) (ks.length + 1) cap9) = some (wq.alloc (.cells #[.int .i64 y0, .int .i64 y1, .int .i64 y2] 52)).heap.size)) := ⟨hown', hg9, hat⟩
                       clear hown' hg9 hat)
                    | fail)
                  have hU9 : Upd [] w4 w9 := (((HKq.out.2.alloc _).toN (P := fun x => Value.ownBlock (.slice pl ks.length cl) = some x)).trans (upP_grown HA9.out.2.1)).upd (fun x hx => (HKq.out.1.own hx).1)
                  go_roundw
                  case rel => exact ⟨k + 1, b, ks ++ [(y0, y1, y2)], by go_num, hlk, rfl, by rw [HS.out.1]; simp, by rw [HS.out.2]; simp, MR.snoc HA9.out.1, hU9⟩
                  case measure => simp [intOf]; omega
                | true =>
                  rw [h0] at HS
                  cases h1 : y1 == pa with
                  | false =>
                    rw [h1] at HS
                    go_upto_region 42 with fail
                    go_quiet (fail)
                    obtain ⟨wq, hwq⟩ : ∃ wq, wq = wr.drewN nq := ⟨_, rfl⟩
                    have HKq : Hid (MR wq w4.heap.size (.slice pl ks.length cl) ks ∧ Upd [] w4 wq) := by rw [hwq]; exact ⟨HK.out.1.upd ((Upd.refl [] wr).drewN nq), HK.out.2.1.drewN nq⟩
                    have f0 : wq.cell? ⟨g, k * 3, none⟩ = some (.int .i64 y0) := by rw [hwq]; exact d0
                    have f1 : wq.cell? ⟨g, k * 3 + 1, none⟩ = some (.int .i64 y1) := by rw [hwq]; exact d1
                    have f2 : wq.cell? ⟨g, k * 3 + 2, none⟩ = some (.int .i64 y2) := by rw [hwq]; exact d2
                    rw [← hwq]
                    clear hwq d0 d1 d2
                    have hsz : w4.heap.size ≤ wq.heap.size := HKq.out.2.size
                    have hrow6 : wq.ownsRow w4.heap.size 52 3 (.slice pl ks.length cl) ks.length (ks.flatMap cellsM) := HKq.out.1
                    obtain ⟨hi, hz0, hz1, hz2⟩ := HI0.out
                    go_wp2_with (first
                      | (at_builtin; refine wpList_append_own_at _ rfl _ _ 37 rfl w4.heap.size 52 i0 (.agg #[.int .i64 0, .int .i64 0, .int .i64 0]) 3 24 und_monrow hi hz0 hz1 hz2 rfl (by decide) _ _ _ rfl (World.ownsRow.alloc hrow6 _) ⟨wq.heap.size, 0, none⟩ 1 1 [.int .i64 y0, .int .i64 y1, .int .i64 y2] rfl rfl (cell_new3 _ _ _ _ _) (by simp [Value.oneCell']) (by unfold maxLen; omega) (by omega) (by simp; omega) ?_; intro v' w9 hown' hg9 _ hat
                         obtain ⟨g9, cap9, cur9, rfl, _, _, _⟩ : ∃ g9 cap9 cur9, v' = .slice (some ⟨g9, 0, none⟩) (ks.length + 1) cap9 ∧ w9.heap[g9]? = some (.cells cur9 52 (0, 0)) ∧ ks.length + 1 ≤ cap9 ∧ cap9 ≤ maxLen := by
                           rcases hown'.2 with ⟨_, h0⟩ | ⟨g, cap, cur, h1, _, h2, h3, h4, _⟩
                           · exact absurd h0 (by omega)
                           · exact ⟨g, cap, cur, h1, h2, h3, h4⟩
                         have HA9 : Hid (w9.ownsRow w4.heap.size 52 3 (.slice (some ⟨g9, 0, none⟩) (ks.length + 1) cap9) (ks.length + 1) (ks.flatMap cellsM ++ [.int .i64 y0, .int .i64 y1, .int .i64 y2]) ∧ (wq.alloc (.cells #[.int .i64 y0, .int .i64 y1, .int .i64 y2] 52)).grownBy w9 (Value.ownBlock (.slice pl ks.length cl)) ∧ (Value.ownBlock (.slice (some ⟨g9, 0, none⟩) (ks.length + 1) cap9) = Value.ownBlock (.slice pl ks.length cl) ∨ Value.ownBlock (.slice (some ⟨g9, 0, none⟩) (ks.length + 1) cap9) = some (wq.alloc (.cells #[.int .i64 y0, .int .i64 y1, .int .i64 y2] 52)).heap.size)) := ⟨hown', hg9, hat⟩
                         clear hown' hg9 hat)
                      | fail)
                    have hU9 : Upd [] w4 w9 := (((HKq.out.2.alloc _).toN (P := fun x => Value.ownBlock (.slice pl ks.length cl) = some x)).trans (upP_grown HA9.out.2.1)).upd (fun x hx => (HKq.out.1.own hx).1)
                    go_roundw
                    case rel => exact ⟨k + 1, b, ks ++ [(y0, y1, y2)], by go_num, hlk, rfl, by rw [HS.out.1]; simp, by rw [HS.out.2]; simp, MR.snoc HA9.out.1, hU9⟩
                    case measure => simp [intOf]; omega
                  | true =>
                    rw [h1] at HS
                    go_upto_region 42 with fail
                    go_quiet (fail)
                    have HKq : Hid (MR (wr.drewN nq) w4.heap.size (.slice pl ks.length cl) ks ∧ Upd [] w4 (wr.drewN nq)) := ⟨HK.out.1.upd ((Upd.refl [] wr).drewN nq), HK.out.2.1.drewN nq⟩
                    go_wp2_with fail
                    go_roundw
                    case rel => exact ⟨k + 1, true, ks, by go_num, hlk, rfl, by rw [HS.out.1]; simp, by rw [HS.out.2]; simp, HKq.out.1, HKq.out.2⟩
                    case measure => simp [intOf]; omega
              · obtain rfl : k = K.length := by omega
                have HZ : Hid (b = K.any (fun m => m.1 == r && m.2.1 == pa) ∧ ks = K.filter (fun m => !(m.1 == r && m.2.1 == pa))) := ⟨by rw [HK.out.2.2.1, List.take_length], by rw [HK.out.2.2.2, List.take_length]⟩
                go_wp2_with fail
                refine Calls.mono (on_unwatch (a := pa) (O4.out.swap HK.out.2.1 HK.out.1) HI2.out.2.2) ?_
                rintro e w6 ⟨he, o⟩
                rw [HB.out.2.2.2.unB, ← HZ.out.1] at he
                subst he
                have H6 : Hid (On w w6 l n (unwatchM M r pa) (.slice pl ks.length cl) ks) := o
                clear o
                cases b with
                | false =>
                  go_wp2_with fail
                  go_meet
                  case rel => exact ⟨n, _, ks, by have := HB.out; omega, by have := HB.out; omega, H6.out, by rw [HZ.out.2]; exact HB.out.2.2.2.unwatch r pa⟩
                | true =>
                  go_wp2_with fail
                  go_meet
                  case rel => exact ⟨n, _, ks, by have := HB.out; omega, by have := HB.out; omega, H6.out, by rw [HZ.out.2]; exact HB.out.2.2.2.unwatch r pa⟩
          · have t0 : (t == 0) = false := beq_eq_false_iff_ne.2 (by omega)
            have t1 : (t == 1) = false := beq_eq_false_iff_ne.2 (by omega)
            clear ht3 htl
            go_wp2_with fail
            refine Calls.mono (on_watch2 HX.out.1 HX.out.2.2.1 (by have := HB.out; omega) HI2.out.2.2 HI2.out.1 HI2.out.2.1) ?_
            rintro e w6 ⟨he, o, hcell⟩
            subst he
            have q3w : w6.cell? ⟨x, 3, none⟩ = some (.int .i64 r) := (hcell ⟨x, 3, none⟩ HX.out.2.1 HX.out.2.2.2).trans q3'
            clear hcell q3'
            cases hM : M r with
            | some y =>
              have H6 : Hid (On w w6 l (n + 2) M (.slice pv K.length cv) K) := by
                have : watchM M r pa pb = M := by unfold watchM; rw [if_neg (by rw [hM]; simp)]
                rw [this] at o
                exact o
              clear o hM
              go_wp2_with fail
              go_meet
              case rel => exact ⟨n + 2, M, K, by have := HB.out; omega, by have := HB.out; omega, H6.out, HB.out.2.2.2⟩
            | none =>
              have H6 : Hid (On w w6 l (n + 2) (watchM M r pa pb) (.slice pv K.length cv) K ∧ Rl (watchM M r pa pb) (K ++ [(r, pa, pb)])) := ⟨o, HB.out.2.2.2.watch hM pa pb⟩
              have k80 : K.length ≤ 80 := by have := HB.out; omega
              have hsz : w.heap.size ≤ w6.heap.size := o.up.size
              have hrow6 : w6.ownsRow w.heap.size 52 3 (.slice pv K.length cv) K.length (K.flatMap cellsM) := o.row
              obtain ⟨hi, hz0, hz1, hz2⟩ := HI0.out
              clear o hM
              go_wp2_with (first
                | (at_builtin; refine wpList_append_own_at _ rfl _ _ 37 rfl w.heap.size 52 i0 (.agg #[.int .i64 0, .int .i64 0, .int .i64 0]) 3 24 und_monrow hi hz0 hz1 hz2 rfl (by decide) _ _ _ rfl (World.ownsRow.alloc hrow6 _) ⟨w6.heap.size, 0, none⟩ 1 1 [.int .i64 r, .int .i64 pa, .int .i64 pb] rfl rfl (cell_new3 _ _ _ _ _) (by simp [Value.oneCell']) (by unfold maxLen; omega) (by omega) (by simp; omega) ?_; intro v' w9 hown' hg9 _ hat
                   obtain ⟨g9, cap9, cur9, rfl, _, _, _⟩ : ∃ g9 cap9 cur9, v' = .slice (some ⟨g9, 0, none⟩) (K.length + 1) cap9 ∧ w9.heap[g9]? = some (.cells cur9 52 (0, 0)) ∧ K.length + 1 ≤ cap9 ∧ cap9 ≤ maxLen := by
                     rcases hown'.2 with ⟨_, h0⟩ | ⟨g, cap, cur, h1, _, h2, h3, h4, _⟩
                     · exact absurd h0 (by omega)
                     · exact ⟨g, cap, cur, h1, h2, h3, h4⟩
                   have HA9 : Hid (w9.ownsRow w.heap.size 52 3 (.slice (some ⟨g9, 0, none⟩) (K.length + 1) cap9) (K.length + 1) (K.flatMap cellsM ++ [.int .i64 r, .int .i64 pa, .int .i64 pb]) ∧ (w6.alloc (.cells #[.int .i64 r, .int .i64 pa, .int .i64 pb] 52)).grownBy w9 (Value.ownBlock (.slice pv K.length cv)) ∧ (Value.ownBlock (.slice (some ⟨g9, 0, none⟩) (K.length + 1) cap9) = Value.ownBlock (.slice pv K.length cv) ∨ Value.ownBlock (.slice (some ⟨g9, 0, none⟩) (K.length + 1) cap9) = some (w6.alloc (.cells #[.int .i64 r, .int .i64 pa, .int .i64 pb] 52)).heap.size)) := ⟨hown', hg9, hat⟩
                   clear hown' hg9 hat)
                | fail)
              go_meet
              case rel => exact ⟨n + 2, _, K ++ [(r, pa, pb)], by have := HB.out; omega, by have := HB.out; simp; omega, (H6.out.1.upd ((Upd.refl [] w6).alloc _)).push (MR.snoc HA9.out.1) HA9.out.2.1 HA9.out.2.2, H6.out.2⟩
        case rest =>
          obtain ⟨n', M', K', hn', hK', o, hR'⟩ := hcut
          obtain ⟨pv', cv', hvf'⟩ := o.row.form
          subst hvf'
          have HQ : Hid (On w wc l n' M' (.slice pv' K'.length cv') K' ∧ n' ≤ 2 * (i + 1) ∧ K'.length ≤ i + 1 ∧ Rl M' K') := ⟨o, hn', hK', hR'⟩
          clear o hn' hK' hR' O4 q3'
          obtain ⟨nk, hnk⟩ : ∃ nk, nk = K'.length := ⟨_, rfl⟩
          have HNK : Hid (nk = K'.length) := hnk
          rw [← hnk]
          clear hnk
          go_wp2_with fail
          refine Calls.mono (on_monitors HQ.out.1 (by have := HQ.out; have := HB.out; omega)) ?_
          rintro e w8 ⟨u, ms, rfl, h1, h2, h3⟩
          obtain ⟨p8, c8, hv8⟩ := h1.form
          subst hv8
          have hml : ms.length = nk := by rw [HQ.out.2.2.2.mons h2, HNK.out]
          have HQ8 : Hid (On w w8 l n' M' (.slice pv' K'.length cv') K') := HQ.out.1.upd h3
          rw [hml]
          rw [← HNK.out] at HQ8
          clear h1 h2 h3 hml
          go_wp2_with fail
          go_roundw
          case rel => exact ⟨i + 1, n', M', K', by go_num, hlt, HQ.out.2.1, HQ.out.2.2.1, HQ8.out, HQ.out.2.2.2⟩
          case measure => simp [intOf]; omega
      · obtain rfl : i = m := by omega
        go_wp2_with fail
        go_ret
        exact ⟨rfl, HO.out.1.up⟩

end Go.Proofs.Ytmepiggkligacaa
