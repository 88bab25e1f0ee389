/- LinkBoth, walked. -/
import Derived.Test.YtmepiggkligacaaLkBa
import Derived.Deep.DeepCutAuto
import Derived.Deep.CutBlock
import Derived.Deep.RegionHeld3
import Derived.BigQuiet
import Derived.Deep.QuietTactic
namespace Go.Proofs.Ytmepiggkligacaa
open Go.RowKit Go.Maps

def BothR (w wr : World) (l m : Nat) (s4 : Value) : Prop := ∃ (i n : Nat) (L : LF) (M : MF), s4 = .int .i64 (i : Nat) ∧ i ≤ m ∧ n ≤ 2 * i ∧ Ow w wr l n L M

set_option maxHeartbeats 8000000 in
set_option maxRecDepth 100000 in
theorem Both_walk (w : World) (a : Option Addr) (n0 c0 : Nat) (hn0 : n0 ≤ c0) (hcm : c0 ≤ 9223372036854775807) (hop : Steps w a n0) : Calls Try.prog 6 #[.slice a n0 c0] w fun e w' => e = .returned (.bool true) ∧ Upd [] w w' := by
  have HN : Hid (n0 ≤ c0 ∧ c0 ≤ 9223372036854775807 ∧ Steps w a n0) := ⟨hn0, hcm, hop⟩
  clear hop hn0 hcm
  go_enter Try.func6, Try.ntmps6
  go_wp2_with fail
  refine Calls.mono (awake_any _) ?_
  rintro e w1 ⟨rfl, hu⟩
  have U1 : Hid (Upd [] w w1) := hu
  clear hu
  go_upto_if 17 with fail
  go_cut [0] (fun s0 wx => s0 = .slice a (min n0 80) c0 ∧ wx = w1)
  case first =>
    by_cases h80 : n0 ≤ 80
    · have hd : decide ((80 : Int) < (n0 : Int)) = false := decide_eq_false (by omega)
      have hm : min n0 80 = n0 := by omega
      go_wp2_with fail
      go_meet
      case rel => exact ⟨by rw [hm], rfl⟩
    · have hd : decide ((80 : Int) < (n0 : Int)) = true := decide_eq_true (by omega)
      have hm : min n0 80 = 80 := by omega
      have hc : 80 ≤ c0 := by have := HN.out.1; omega
      obtain ⟨gl, ol, _, _, _, _, hae, _⟩ := HN.out.2.2 0 (by omega)
      subst hae
      go_wp2_with fail
      go_meet
      case rel => exact ⟨by rw [hm], rfl⟩
  case rest =>
    obtain ⟨rfl, hw⟩ := hcut
    rw [hw]
    clear hw
    obtain ⟨m, hm⟩ : ∃ m, m = min n0 80 := ⟨_, rfl⟩
    rw [← hm]
    have HM : Hid (m ≤ 80 ∧ Steps w a m) := ⟨by omega, HN.out.2.2.le (by omega)⟩
    clear hm HN
    go_wp2_with fail
    refine Calls.mono (ow_new _) ?_
    rintro e w2 ⟨l, rfl, o⟩
    have H3 : Hid (BothR w w2 l m (.int .i64 0)) := by
      obtain ⟨P, o1, o2, o3⟩ := o
      exact ⟨0, 0, _, _, rfl, Nat.zero_le _, Nat.zero_le _, P, o1, fun x hx => Nat.le_trans U1.out.size (o2 x hx), U1.out.trans o3⟩
    clear o U1
    go_wp2_with fail
    go_loopw [4] (fun s4 wr => BothR w wr l m s4) (fun s4 _ => m - (intOf s4).toNat)
    case atStart => exact H3.out
    case round =>
      obtain ⟨i, n, L, M, rfl, him, hni, o⟩ := hrel
      have HO : Hid (Ow w wr l n L M ∧ n ≤ 2 * i) := ⟨o, hni⟩
      clear o hni H3
      by_cases hlt : i < m
      · have i1 : (i : Int) < (m : Int) := by omega
        obtain ⟨gl, ol, op, A, B, r, hae, hgl, k0, k1, k2, k3, hI⟩ := HM.out.2 i hlt
        subst hae
        have hl0 : wr.cell? ⟨gl, ol + i * 4, none⟩ = some (.int .i64 op) := (HO.out.1.up.cell (p := ⟨gl, ol + i * 4, none⟩) hgl (by simp)).trans k0
        have hl1 : wr.cell? ⟨gl, ol + i * 4 + 1, none⟩ = some (.int .i64 A) := (HO.out.1.up.cell (p := ⟨gl, ol + i * 4 + 1, none⟩) hgl (by simp)).trans k1
        have hl2 : wr.cell? ⟨gl, ol + i * 4 + 2, none⟩ = some (.int .i64 B) := (HO.out.1.up.cell (p := ⟨gl, ol + i * 4 + 2, none⟩) hgl (by simp)).trans k2
        have hl3 : wr.cell? ⟨gl, ol + i * 4 + 3, none⟩ = some (.int .i64 r) := (HO.out.1.up.cell (p := ⟨gl, ol + i * 4 + 3, none⟩) hgl (by simp)).trans k3
        have HI : Hid (I64 op ∧ I64 A ∧ I64 B ∧ I64 r) := hI
        clear k0 k1 k2 k3 hgl hI
        go_upto_region 10 with fail
        generalize hw3 : World.alloc _ _ = w3
        have hu3 : Upd [] wr w3 := by rw [← hw3]; exact (Upd.refl [] wr).alloc _
        have hC : Cl w3 wr.heap.size #[.int .i64 op, .int .i64 A, .int .i64 B, .int .i64 r] 31 := by rw [← hw3]; exact Cl.new _ _ _ _ rfl
        obtain ⟨x, hx⟩ : ∃ x, x = wr.heap.size := ⟨_, rfl⟩
        rw [← hx] at hC ⊢
        have q0 : w3.cell? ⟨x, 0, none⟩ = some (.int .i64 op) := by rw [hC.cell]; rfl
        have q1 : w3.cell? ⟨x, 1, none⟩ = some (.int .i64 A) := by rw [hC.cell]; rfl
        have q2 : w3.cell? ⟨x, 2, none⟩ = some (.int .i64 B) := by rw [hC.cell]; rfl
        have q3 : w3.cell? ⟨x, 3, none⟩ = some (.int .i64 r) := by rw [hC.cell]; rfl
        have O3 : Hid (Ow w w3 l n L M ∧ n ≤ 2 * i ∧ i < 80) := ⟨HO.out.1.upd hu3, HO.out.2, by have := HM.out.1; omega⟩
        clear hu3 hC hx hw3 HO hl0 hl1 hl2 hl3
        go_quiet (first | (go_at_call 21; refine Calls.quiet_of_same (pick_any _ _ (by omega) (by omega) _)))
        have O4 : Hid (Ow w (w3.drewN nq) l n L M) := O3.out.1.upd ((Upd.refl [] w3).drewN nq)
        obtain ⟨w4, hw4⟩ : ∃ w4, w4 = w3.drewN nq := ⟨_, rfl⟩
        have q0' : w4.cell? ⟨x, 0, none⟩ = some (.int .i64 op) := by rw [hw4]; exact q0
        have q3' : w4.cell? ⟨x, 3, none⟩ = some (.int .i64 r) := by rw [hw4]; exact q3
        rw [← hw4] at O4 ⊢
        clear hw4 q0 q1 q2 q3
        obtain ⟨pa, hpa⟩ : ∃ pa, pa = pk A 8 := ⟨_, rfl⟩
        obtain ⟨pb, hpb⟩ : ∃ pb, pb = pk B 8 := ⟨_, rfl⟩
        rw [← hpa, ← hpb]
        have HI2 : Hid (I64 pa ∧ I64 pb ∧ I64 r) := by
          have h1 := pk_lt A (n := 8) (by omega)
          have h2 := pk_lt B (n := 8) (by omega)
          exact ⟨by rw [hpa]; exact i64_small (by omega) (by omega), by rw [hpb]; exact i64_small (by omega) (by omega), HI.out.2.2.2⟩
        clear hpa hpb HI
        go_wp2_with fail
        refine Calls.mono (pick_any op 5 (by omega) (by omega) _) ?_
        rintro e w5 ⟨rfl, hw5⟩
        rw [hw5]
        clear hw5 w5 q0'
        obtain ⟨t, ht⟩ : ∃ t, t = pk op 5 := ⟨_, rfl⟩
        have htl : 0 ≤ t ∧ t < 5 := by rw [ht]; exact pk_lt op (by omega)
        rw [← ht]
        clear ht
        go_upto_block 2 with fail
        go_cut [8, 9] (fun s8 s9 wx => ∃ (n' : Nat) (L' : LF) (M' : MF), n' ≤ 2 * (i + 1) ∧ Ow w wx l n' L' M')
        case first =>
          rcases (by omega : t = 0 ∨ t = 1 ∨ t = 2 ∨ 3 ≤ t) with rfl | rfl | rfl | ht3
          · clear htl
            go_wp2_with fail
            refine Calls.mono (ow_end O4.out (by have := O3.out; omega) HI2.out.1) ?_
            rintro e w6 ⟨v, xs, u, rs, rfl, hv, hx1, hx2, hu, hr1, hr2, o⟩
            have O6 : Hid (Ow w w6 l n (endL L pa xs) (endM M rs)) := o
            have HX : Hid ((∀ y, y ∈ xs ↔ L pa y = true) ∧ ∀ y, y ∈ rs ↔ nam M pa y = true) := ⟨hx2, hr2⟩
            obtain ⟨p, c, hvf⟩ := hv.form
            obtain ⟨p2, c2, huf⟩ := hu.form
            subst hvf
            subst huf
            clear hv hu hx1 hx2 hr1 hr2 o O4 q3'
            go_wp2_with fail
            refine Calls.mono (ow_of O6.out (by have := O3.out; omega) HI2.out.1) ?_
            rintro e w7 ⟨v7, ys, rfl, h1, h2, h3, h4⟩
            have hys : ys = [] := List.eq_nil_iff_forall_not_mem.2 fun y hy => by
              have h5 := (h3 y).1 hy
              rw [end_alone HX.out.1] at h5
              cases h5
            subst hys
            have O7 : Hid (Ow w w7 l n (endL L pa xs) (endM M rs)) := O6.out.upd h4
            obtain ⟨p7, c7, hv7⟩ := h1.form
            subst hv7
            clear h1 h2 h3 h4 O6
            go_wp2_with fail
            refine Calls.mono (ow_monitors O7.out (by have := O3.out; omega)) ?_
            rintro e w8 ⟨v8, ms, rfl, h1, h2, h3⟩
            obtain ⟨p8, c8, hv8⟩ := h1.form
            subst hv8
            obtain ⟨B8, hB8⟩ : ∃ B8, B8 = w7.heap.size := ⟨_, rfl⟩
            rw [← hB8] at h1
            have H8 : Hid (Ow w w8 l n (endL L pa xs) (endM M rs) ∧ MR w8 B8 (.slice p8 ms.length c8) ms) := ⟨O7.out.upd h3, h1⟩
            have HE : Hid (∀ k (hk : k < ms.length), (ms[k].2.1 == pa) = false ∧ (ms[k].2.2 == pa) = false) := by
              intro k hk
              have h5 : (ms[k].1, ms[k].2.1, ms[k].2.2) ∈ ms := List.getElem_mem hk
              exact end_named HX.out.2 ((h2.2 _ _ _).1 h5)
            have HL8 : Hid (ms.length ≤ maxLen) := h1.le
            clear h1 h2 h3 hB8 O7
            go_wp2_with fail
            go_loopw [9] (fun s9 wx => ∃ k : Nat, s9 = .int .i64 k ∧ k ≤ ms.length ∧ Ow w wx l n (endL L pa xs) (endM M rs) ∧ MR wx B8 (.slice p8 ms.length c8) ms) (fun s9 _ => ms.length - (intOf s9).toNat)
            case atStart => exact ⟨0, rfl, Nat.zero_le _, H8.out.1, H8.out.2⟩
            case round =>
              obtain ⟨k, rfl, hk, o, hr⟩ := hrel
              have HK : Hid (Ow w wr l n (endL L pa xs) (endM M rs) ∧ MR wr B8 (.slice p8 ms.length c8) ms) := ⟨o, hr⟩
              clear o hr H8
              by_cases hlk : k < ms.length
              · have j1 : (k : Int) < (ms.length : Int) := by omega
                obtain ⟨g, c9, e1, d0, d1, d2⟩ := HK.out.2.cells hlk
                simp only [Value.slice.injEq] at e1
                obtain ⟨rfl, _, rfl⟩ := e1
                obtain ⟨f1, f2⟩ := HE.out k hlk
                have hkm : (k : Int) + 1 ≤ 9223372036854775807 := by have h5 := HL8.out; unfold maxLen at h5; omega
                clear d0
                obtain ⟨y1, hy1⟩ : ∃ y1, y1 = ms[k].2.1 := ⟨_, rfl⟩
                obtain ⟨y2, hy2⟩ : ∃ y2, y2 = ms[k].2.2 := ⟨_, rfl⟩
                rw [← hy1] at f1 d1
                rw [← hy2] at f2 d2
                clear hy1 hy2
                go_wp2_with fail
                go_roundw
                case rel => exact ⟨k + 1, by go_num, hlk, HK.out.1, HK.out.2⟩
                case measure => simp [intOf]; omega
              · obtain rfl : k = ms.length := by omega
                go_wp2_with fail
                go_meet
                case rel => exact ⟨n, _, _, by have := O3.out; omega, HK.out.1⟩
          · clear htl
            go_wp2_with fail
            refine Calls.mono (ow_unlink O4.out HI2.out.1 HI2.out.2.1) ?_
            rintro e w6 ⟨rfl, o⟩
            have O6 : Hid (Ow w w6 l n (cutL L pa pb) M) := o
            clear o
            go_wp2_with fail
            go_meet
            case rel => exact ⟨n, _, _, by have := O3.out; omega, O6.out⟩
          · clear htl
            go_wp2_with fail
            refine Calls.mono (ow_watch O4.out (by have := O3.out; omega) HI2.out.2.2 HI2.out.1 HI2.out.2.1) ?_
            rintro e w6 ⟨rfl, o⟩
            have O6 : Hid (Ow w w6 l (n + 2) L (watchM M r pa pb)) := o
            clear o
            go_wp2_with fail
            go_meet
            case rel => exact ⟨n + 2, _, _, by have := O3.out; omega, O6.out⟩
          · have t0 : (t == 0) = false := beq_eq_false_iff_ne.2 (by omega)
            have t1 : (t == 1) = false := beq_eq_false_iff_ne.2 (by omega)
            have t2 : (t == 2) = false := beq_eq_false_iff_ne.2 (by omega)
            clear ht3 htl
            go_wp2_with fail
            refine Calls.mono (ow_link O4.out (by have := O3.out; omega) HI2.out.1 HI2.out.2.1) ?_
            rintro e w6 ⟨rfl, o⟩
            have O6 : Hid (Ow w w6 l (n + 2) (linkL L pa pb) M) := o
            clear o
            go_wp2_with fail
            go_meet
            case rel => exact ⟨n + 2, _, _, by have := O3.out; omega, O6.out⟩
        case rest =>
          obtain ⟨n', L', M', hn', o⟩ := hcut
          have HQ : Hid (Ow w wc l n' L' M' ∧ n' ≤ 2 * (i + 1) ∧ i < 80) := ⟨o, hn', O3.out.2.2⟩
          have i80 : (i : Int) < 80 := by have := HQ.out.2.2; omega
          clear o hn' O3 O4
          go_wp2_with fail
          go_loopw [10] (fun s10 wx => ∃ p : Nat, s10 = .int .i64 p ∧ p ≤ 8 ∧ Ow w wx l n' L' M') (fun s10 _ => 8 - (intOf s10).toNat)
          case atStart => exact ⟨0, rfl, Nat.zero_le _, HQ.out.1⟩
          case round =>
            obtain ⟨p, rfl, hp, o⟩ := hrel
            have HP : Hid (Ow w wr l n' L' M') := o
            clear o
            by_cases hl8 : p < 8
            · have j1 : (p : Int) < 8 := by omega
              have Ip : Hid (I64 (p : Int)) := i64_small (by omega) (by omega)
              go_wp2_with fail
              refine Calls.mono (ow_of HP.out (by have := HQ.out; omega) Ip.out) ?_
              rintro e wf ⟨v, xs, rfl, h1, h2, h3, h4⟩
              obtain ⟨pp, cc, hvf⟩ := h1.form
              subst hvf
              obtain ⟨Bf, hBf⟩ : ∃ Bf, Bf = wr.heap.size := ⟨_, rfl⟩
              rw [← hBf] at h1
              have HF : Hid (IR wf Bf (.slice pp xs.length cc) xs ∧ Ow w wf l n' L' M') := ⟨h1, HP.out.upd h4⟩
              have HX : Hid (xs.Pairwise (· < ·) ∧ (∀ y, y ∈ xs ↔ L' p y = true) ∧ ∀ a b, L' a b = true → L' b a = true ∧ a ≠ b) := ⟨h2, h3, HP.out.sym⟩
              have HLx : Hid (xs.length ≤ maxLen) := h1.le
              clear h1 h2 h3 h4 hBf HP
              go_wp2_with fail
              go_loopw [12] (fun s12 wx => ∃ k : Nat, s12 = .int .i64 k ∧ k ≤ xs.length ∧ IR wx Bf (.slice pp xs.length cc) xs ∧ Ow w wx l n' L' M') (fun s12 _ => xs.length - (intOf s12).toNat)
              case atStart => exact ⟨0, rfl, Nat.zero_le _, HF.out.1, HF.out.2⟩
              case round =>
                obtain ⟨k, rfl, hk, hr, o⟩ := hrel
                have HK : Hid (IR wr Bf (.slice pp xs.length cc) xs ∧ Ow w wr l n' L' M') := ⟨hr, o⟩
                clear hr o HF
                by_cases hlk : k < xs.length
                · have j2 : (k : Int) < (xs.length : Int) := by omega
                  obtain ⟨g, c2, e1, d1⟩ := HK.out.1.cell hlk
                  simp only [Value.slice.injEq] at e1
                  obtain ⟨rfl, _, rfl⟩ := e1
                  obtain ⟨y, hy⟩ : ∃ y, y = xs[k] := ⟨_, rfl⟩
                  rw [← hy] at d1
                  have hyL : L' p y = true := (HX.out.2.1 y).1 (by rw [hy]; exact List.getElem_mem hlk)
                  have hys := HX.out.2.2 _ _ hyL
                  have hyp : (y == (p : Int)) = false := beq_eq_false_iff_ne.2 (fun e => hys.2 e.symm)
                  have HY : Hid (I64 y ∧ L' y p = true) := ⟨(HK.out.2.keys hyL).2, hys.1⟩
                  have hgl2 : g < wr.heap.size := World.block_lt_of_cell? _ _ d1
                  have hkm : (k : Int) + 1 ≤ 9223372036854775807 := by have h5 := HLx.out; unfold maxLen at h5; omega
                  clear hyL hys
                  by_cases hk0 : k = 0
                  · subst hk0
                    clear hy
                    go_upto_region 34 with fail
                    refine wp_region_held_drew (S := fun W => Upd [] wr W) (by kernel_rfl) (Upd.refl [] wr).drew (fun hS => ?_)
                    refine wpAnyH_take (i := 0) (v := .slice (some ⟨g, 0, none⟩) xs.length cc) rfl (by kernel_rfl) (by kernel_rfl) (by kernel_rfl) (fun _ _ _ h => h) (Or.inl ⟨by rfl, ?_⟩) hS ?_
                    · intro W hW; go_simp
                    refine wpAnyH_take (i := 1) (v := .int .i64 ((0 : Nat) : Int)) rfl (by kernel_rfl) (by kernel_rfl) (by kernel_rfl) (fun _ _ _ h => h) (Or.inl ⟨by rfl, ?_⟩) hS ?_
                    · intro W hW; go_simp
                    refine wpAnyH_take (i := 2) (v := .pointer (some ⟨g, 0, none⟩)) rfl (by kernel_rfl) (by kernel_rfl) (by kernel_rfl) (fun _ _ _ h => h) (Or.inl ⟨by rfl, ?_⟩) hS ?_
                    · intro W hW; go_simp
                    simp only [Act.put, List.getElem_toArray, List.getElem_cons_succ, List.getElem_cons_zero, List.setIfInBounds_toArray, List.set_cons_succ, List.set_cons_zero]
                    refine wpAnyH_take (i := 3) (v := .int .i64 y) rfl (by kernel_rfl) (by kernel_rfl) (by kernel_rfl) (fun _ _ _ h => h) (Or.inl ⟨by rfl, ?_⟩) hS ?_
                    · intro W hW; have e1 : W.cell? ⟨g, 0, none⟩ = some (.int .i64 y) := (hW.cell hgl2 (by simp)).trans d1; go_simp
                    refine wpAnyH_take (i := 4) (v := .int .i64 p) rfl (by kernel_rfl) (by kernel_rfl) (by kernel_rfl) (fun _ _ _ h => h) (Or.inl ⟨by rfl, ?_⟩) hS ?_
                    · intro W hW; go_simp
                    refine wpAnyH_take (i := 5) (v := .bool false) rfl (by kernel_rfl) (by kernel_rfl) (by kernel_rfl) (fun _ _ _ h => h) (Or.inl ⟨by rfl, ?_⟩) hS ?_
                    · intro W hW; go_simp
                    refine wpAnyH_take (i := 6) (v := .bool false) rfl (by kernel_rfl) (by kernel_rfl) (by kernel_rfl) (fun _ _ _ h => h) (Or.inl ⟨by rfl, ?_⟩) hS ?_
                    · intro W hW; go_simp
                    simp only [Act.put, List.getElem_toArray, List.getElem_cons_succ, List.getElem_cons_zero, List.setIfInBounds_toArray, List.set_cons_succ, List.set_cons_zero]
                    refine wpAnyH_take (i := 7) (v := .int .i64 ((0 : Nat) : Int)) rfl (by kernel_rfl) (by kernel_rfl) (by kernel_rfl) (fun _ _ _ h => h) (Or.inl ⟨by rfl, ?_⟩) hS ?_
                    · intro W hW; go_simp
                    refine wpAnyH_take (i := 8) (v := .bool false) rfl (by kernel_rfl) (by kernel_rfl) (by kernel_rfl) (fun _ _ _ h => h) (Or.inl ⟨by rfl, ?_⟩) hS ?_
                    · intro W hW; go_simp
                    refine wpAnyH_take (i := 9) (v := .bool false) rfl (by kernel_rfl) (by kernel_rfl) (by kernel_rfl) (fun _ _ _ h => h) (Or.inl ⟨by rfl, ?_⟩) hS ?_
                    · intro W hW; go_simp
                    simp only [Act.put, List.getElem_toArray, List.getElem_cons_succ, List.getElem_cons_zero, List.setIfInBounds_toArray, List.set_cons_succ, List.set_cons_zero]
                    refine wpAnyH_take (i := 10) (v := undef) rfl (by kernel_rfl) (by kernel_rfl) (by kernel_rfl) (fun _ _ _ h => h) (Or.inr ⟨by rfl, by rfl⟩) hS ?_
                    refine wpAnyH_take (i := 11) (v := undef) rfl (by kernel_rfl) (by kernel_rfl) (by kernel_rfl) (fun _ _ _ h => h) (Or.inr ⟨by rfl, by rfl⟩) hS ?_
                    simp only [Act.put, List.getElem_toArray, List.getElem_cons_succ, List.getElem_cons_zero, List.setIfInBounds_toArray, List.set_cons_succ, List.set_cons_zero]
                    refine wpAnyH_take (i := 12) (v := undef) rfl (by kernel_rfl) (by kernel_rfl) (by kernel_rfl) (fun _ _ _ h => h) (Or.inr ⟨by rfl, by rfl⟩) hS ?_
                    refine wpAnyH_take (i := 13) (v := undef) rfl (by kernel_rfl) (by kernel_rfl) (by kernel_rfl) (fun _ _ _ h => h) (Or.inr ⟨by rfl, by rfl⟩) hS ?_
                    refine wpAnyH_take (i := 14) (v := undef) rfl (by kernel_rfl) (by kernel_rfl) (by kernel_rfl) (fun _ _ _ h => h) (Or.inr ⟨by rfl, by rfl⟩) hS ?_
                    simp only [Act.put, List.getElem_toArray, List.getElem_cons_succ, List.getElem_cons_zero, List.setIfInBounds_toArray, List.set_cons_succ, List.set_cons_zero]
                    refine wpAnyH_take (i := 15) (v := undef) rfl (by kernel_rfl) (by kernel_rfl) (by kernel_rfl) (fun _ _ _ h => h) (Or.inr ⟨by rfl, by rfl⟩) hS ?_
                    refine wpAnyH_take (i := 16) (v := undef) rfl (by kernel_rfl) (by kernel_rfl) (by kernel_rfl) (fun _ _ _ h => h) (Or.inr ⟨by rfl, by rfl⟩) hS ?_
                    refine wpAnyH_take (i := 17) (v := undef) rfl (by kernel_rfl) (by kernel_rfl) (by kernel_rfl) (fun _ _ _ h => h) (Or.inr ⟨by rfl, by rfl⟩) hS ?_
                    simp only [Act.put, List.getElem_toArray, List.getElem_cons_succ, List.getElem_cons_zero, List.setIfInBounds_toArray, List.set_cons_succ, List.set_cons_zero]
                    refine wpAnyH_take (i := 18) (v := undef) rfl (by kernel_rfl) (by kernel_rfl) (by kernel_rfl) (fun _ _ _ h => h) (Or.inr ⟨by rfl, by rfl⟩) hS ?_
                    refine wpAnyH_take (i := 19) (v := undef) rfl (by kernel_rfl) (by kernel_rfl) (by kernel_rfl) (fun _ _ _ h => h) (Or.inr ⟨by rfl, by rfl⟩) hS ?_
                    simp only [Act.put, List.getElem_toArray, List.getElem_cons_succ, List.getElem_cons_zero, List.setIfInBounds_toArray, List.set_cons_succ, List.set_cons_zero]
                    refine wpAnyH_take (i := 20) (v := .bool false) rfl (by kernel_rfl) (by kernel_rfl) (by kernel_rfl) (fun _ _ _ h => h) (Or.inl ⟨by rfl, ?_⟩) hS ?_
                    · intro W hW; go_simp
                    refine wpAnyH_take (i := 21) (v := .bool false) rfl (by kernel_rfl) (by kernel_rfl) (by kernel_rfl) (fun _ _ _ h => h) (Or.inl ⟨by rfl, ?_⟩) hS ?_
                    · intro W hW; go_simp
                    refine wpAnyH_take (i := 22) (v := .bool false) rfl (by kernel_rfl) (by kernel_rfl) (by kernel_rfl) (fun _ _ _ h => h) (Or.inl ⟨by rfl, ?_⟩) hS ?_
                    · intro W hW; go_simp
                    simp only [Act.put, List.getElem_toArray, List.getElem_cons_succ, List.getElem_cons_zero, List.setIfInBounds_toArray, List.set_cons_succ, List.set_cons_zero]
                    refine wpAnyH_take (i := 23) (v := .pointer (some ⟨l, 0, none⟩)) rfl (by kernel_rfl) (by kernel_rfl) (by kernel_rfl) (fun _ _ _ h => h) (Or.inl ⟨by rfl, ?_⟩) hS ?_
                    · intro W hW; go_simp
                    refine wpAnyH_take (i := 24) (v := .slice (some ⟨g, 0, none⟩) xs.length cc) rfl (by kernel_rfl) (by kernel_rfl) (by kernel_rfl) (fun _ _ _ h => h) (Or.inl ⟨by rfl, ?_⟩) hS ?_
                    · intro W hW; go_simp
                    refine wpAnyH_take (i := 25) (v := .int .i64 ((0 : Nat) : Int)) rfl (by kernel_rfl) (by kernel_rfl) (by kernel_rfl) (fun _ _ _ h => h) (Or.inl ⟨by rfl, ?_⟩) hS ?_
                    · intro W hW; go_simp
                    simp only [Act.put, List.getElem_toArray, List.getElem_cons_succ, List.getElem_cons_zero, List.setIfInBounds_toArray, List.set_cons_succ, List.set_cons_zero]
                    refine wpAnyH_take (i := 26) (v := .pointer (some ⟨g, 0, none⟩)) rfl (by kernel_rfl) (by kernel_rfl) (by kernel_rfl) (fun _ _ _ h => h) (Or.inl ⟨by rfl, ?_⟩) hS ?_
                    · intro W hW; go_simp
                    refine wpAnyH_take (i := 27) (v := .int .i64 y) rfl (by kernel_rfl) (by kernel_rfl) (by kernel_rfl) (fun _ _ _ h => h) (Or.inl ⟨by rfl, ?_⟩) hS ?_
                    · intro W hW; have e1 : W.cell? ⟨g, 0, none⟩ = some (.int .i64 y) := (hW.cell hgl2 (by simp)).trans d1; go_simp
                    refine wpAnyH_take (i := 29) (v := .int .i64 p) rfl (by kernel_rfl) (by kernel_rfl) (by kernel_rfl) (fun _ _ _ h => h) (Or.inl ⟨by rfl, ?_⟩) hS ?_
                    · intro W hW; go_simp
                    simp only [Act.put, List.getElem_toArray, List.getElem_cons_succ, List.getElem_cons_zero, List.setIfInBounds_toArray, List.set_cons_succ, List.set_cons_zero]
                    refine wpAnyH_ready (rs := [28]) (by kernel_rfl) (by simp) (AllReadyH.cons rfl (fun K hK => ?_) AllReadyH.nil)
                    go_simp
                    refine Calls.mono (ow_of (HK.out.2.upd hS) (by have := HQ.out; omega) HY.out.1) ?_
                    rintro en w7 ⟨v7, ys, rfl, h1, _, h3, hU⟩
                    obtain ⟨p7, c7, hv7⟩ := h1.form
                    subst hv7
                    have H7 : Hid (IR w7 _ (.slice p7 ys.length c7) ys) := h1
                    have HC : Hid (ys.contains (p : Int) = true) := List.contains_iff_mem.2 ((h3 p).2 HY.out.2)
                    have hS2 : Upd [] wr w7 := hS.trans hU
                    refine hK.out _ _ hS2 (fun _ => ?_)
                    clear hK K hS hU h1 h3
                    have hS : Upd [] wr w7 := hS2
                    have h77 : Upd [] w7 w7 := Upd.refl [] w7
                    clear hS2
                    refine wpAnyH_ready (rs := [30]) (by kernel_rfl) (by simp) (AllReadyH.cons rfl (fun K hK => ?_) AllReadyH.nil)
                    go_simp
                    refine Calls.mono (among_any w7 _ _ ys p H7.out) ?_
                    rintro en w8 ⟨rfl, hw8⟩
                    rw [hw8, HC.out]
                    refine hK.out _ _ hS (fun _ => ?_)
                    clear hK K hw8
                    refine wpAnyH_take (i := 31) (v := .bool false) rfl (by kernel_rfl) (by kernel_rfl) (by kernel_rfl) (fun _ _ _ h => h) (Or.inl ⟨by rfl, ?_⟩) hS ?_
                    · intro W hW; go_simp
                    refine wpAnyH_take (i := 32) (v := .bool false) rfl (by kernel_rfl) (by kernel_rfl) (by kernel_rfl) (fun _ _ _ h => h) (Or.inl ⟨by rfl, ?_⟩) hS ?_
                    · intro W hW; go_simp
                    simp only [Act.put, List.getElem_toArray, List.getElem_cons_succ, List.getElem_cons_zero, List.setIfInBounds_toArray, List.set_cons_succ, List.set_cons_zero]
                    refine wpAnyH_done (by kernel_rfl) ?_ _
                    have HK2 : Hid (IR w7 Bf (.slice (some ⟨g, 0, none⟩) xs.length cc) xs ∧ Ow w w7 l n' L' M') := ⟨HK.out.1.upd hS, HK.out.2.upd hS⟩
                    clear hS h77
                    go_wp2_with fail
                    go_roundw
                    case rel => exact ⟨1, by go_num, hlk, HK2.out.1, HK2.out.2⟩
                    case measure => simp [intOf]; omega
                  · obtain ⟨k0, hk1⟩ : ∃ k0, k = k0 + 1 := ⟨k - 1, by omega⟩
                    have HK0 : Hid (k = k0 + 1) := hk1
                    have jk : 0 < k := by omega
                    have jk0 : (k0 : Int) < (xs.length : Int) := by omega
                    obtain ⟨g3, c3, e3, d2⟩ := HK.out.1.cell (k := k0) (by omega)
                    simp only [Value.slice.injEq, Option.some.injEq, Addr.mk.injEq] at e3
                    obtain ⟨⟨rfl, _⟩, _, rfl⟩ := e3
                    obtain ⟨z, hz⟩ : ∃ z, z = xs[k0] := ⟨_, rfl⟩
                    rw [← hz] at d2
                    have hzy : z < y := by rw [hz, hy]; exact List.pairwise_iff_getElem.1 HX.out.1 _ _ _ _ (by omega)
                    have hzd : decide (y ≤ z) = false := decide_eq_false (by omega)
                    clear hy hz hzy hk0 hk1
                    go_upto_region 34 with fail
                    refine wp_region_held_drew (S := fun W => Upd [] wr W) (by kernel_rfl) (Upd.refl [] wr).drew (fun hS => ?_)
                    refine wpAnyH_take (i := 0) (v := .slice (some ⟨g, 0, none⟩) xs.length cc) rfl (by kernel_rfl) (by kernel_rfl) (by kernel_rfl) (fun _ _ _ h => h) (Or.inl ⟨by rfl, ?_⟩) hS ?_
                    · intro W hW; go_simp
                    refine wpAnyH_take (i := 1) (v := .int .i64 (k : Nat)) rfl (by kernel_rfl) (by kernel_rfl) (by kernel_rfl) (fun _ _ _ h => h) (Or.inl ⟨by rfl, ?_⟩) hS ?_
                    · intro W hW; go_simp
                    refine wpAnyH_take (i := 2) (v := .pointer (some ⟨g, k, none⟩)) rfl (by kernel_rfl) (by kernel_rfl) (by kernel_rfl) (fun _ _ _ h => h) (Or.inl ⟨by rfl, ?_⟩) hS ?_
                    · intro W hW; go_simp
                    simp only [Act.put, List.getElem_toArray, List.getElem_cons_succ, List.getElem_cons_zero, List.setIfInBounds_toArray, List.set_cons_succ, List.set_cons_zero]
                    refine wpAnyH_take (i := 3) (v := .int .i64 y) rfl (by kernel_rfl) (by kernel_rfl) (by kernel_rfl) (fun _ _ _ h => h) (Or.inl ⟨by rfl, ?_⟩) hS ?_
                    · intro W hW; have e1 : W.cell? ⟨g, k, none⟩ = some (.int .i64 y) := (hW.cell hgl2 (by simp)).trans d1; go_simp
                    refine wpAnyH_take (i := 4) (v := .int .i64 p) rfl (by kernel_rfl) (by kernel_rfl) (by kernel_rfl) (fun _ _ _ h => h) (Or.inl ⟨by rfl, ?_⟩) hS ?_
                    · intro W hW; go_simp
                    refine wpAnyH_take (i := 5) (v := .bool false) rfl (by kernel_rfl) (by kernel_rfl) (by kernel_rfl) (fun _ _ _ h => h) (Or.inl ⟨by rfl, ?_⟩) hS ?_
                    · intro W hW; go_simp
                    refine wpAnyH_take (i := 6) (v := .bool false) rfl (by kernel_rfl) (by kernel_rfl) (by kernel_rfl) (fun _ _ _ h => h) (Or.inl ⟨by rfl, ?_⟩) hS ?_
                    · intro W hW; go_simp
                    simp only [Act.put, List.getElem_toArray, List.getElem_cons_succ, List.getElem_cons_zero, List.setIfInBounds_toArray, List.set_cons_succ, List.set_cons_zero]
                    refine wpAnyH_take (i := 7) (v := .int .i64 (k : Nat)) rfl (by kernel_rfl) (by kernel_rfl) (by kernel_rfl) (fun _ _ _ h => h) (Or.inl ⟨by rfl, ?_⟩) hS ?_
                    · intro W hW; go_simp
                    refine wpAnyH_take (i := 8) (v := .bool true) rfl (by kernel_rfl) (by kernel_rfl) (by kernel_rfl) (fun _ _ _ h => h) (Or.inl ⟨by rfl, ?_⟩) hS ?_
                    · intro W hW; go_simp
                    refine wpAnyH_take (i := 9) (v := .bool true) rfl (by kernel_rfl) (by kernel_rfl) (by kernel_rfl) (fun _ _ _ h => h) (Or.inl ⟨by rfl, ?_⟩) hS ?_
                    · intro W hW; go_simp
                    simp only [Act.put, List.getElem_toArray, List.getElem_cons_succ, List.getElem_cons_zero, List.setIfInBounds_toArray, List.set_cons_succ, List.set_cons_zero]
                    refine wpAnyH_take (i := 10) (v := .slice (some ⟨g, 0, none⟩) xs.length cc) rfl (by kernel_rfl) (by kernel_rfl) (by kernel_rfl) (fun _ _ _ h => h) (Or.inl ⟨by rfl, ?_⟩) hS ?_
                    · intro W hW; go_simp
                    refine wpAnyH_take (i := 11) (v := .int .i64 (k : Nat)) rfl (by kernel_rfl) (by kernel_rfl) (by kernel_rfl) (fun _ _ _ h => h) (Or.inl ⟨by rfl, ?_⟩) hS ?_
                    · intro W hW; go_simp
                    refine wpAnyH_take (i := 12) (v := .int .i64 (k0 : Nat)) rfl (by kernel_rfl) (by kernel_rfl) (by kernel_rfl) (fun _ _ _ h => h) (Or.inl ⟨by rfl, ?_⟩) hS ?_
                    · intro W hW; have e4 : (k : Int) - 1 = (k0 : Int) := by have h5 := HK0.out; omega
                      have e5 : IntKind.i64.wrap (k0 : Int) = (k0 : Int) := IntWalk.i64_in _ ⟨by omega, by have h5 := HK0.out; omega⟩
                      go_simp
                    simp only [Act.put, List.getElem_toArray, List.getElem_cons_succ, List.getElem_cons_zero, List.setIfInBounds_toArray, List.set_cons_succ, List.set_cons_zero]
                    refine wpAnyH_take (i := 13) (v := .pointer (some ⟨g, k0, none⟩)) rfl (by kernel_rfl) (by kernel_rfl) (by kernel_rfl) (fun _ _ _ h => h) (Or.inl ⟨by rfl, ?_⟩) hS ?_
                    · intro W hW; go_simp
                    refine wpAnyH_take (i := 14) (v := .int .i64 z) rfl (by kernel_rfl) (by kernel_rfl) (by kernel_rfl) (fun _ _ _ h => h) (Or.inl ⟨by rfl, ?_⟩) hS ?_
                    · intro W hW; have e2 : W.cell? ⟨g, k0, none⟩ = some (.int .i64 z) := (hW.cell hgl2 (by simp)).trans d2; go_simp
                    refine wpAnyH_take (i := 15) (v := .slice (some ⟨g, 0, none⟩) xs.length cc) rfl (by kernel_rfl) (by kernel_rfl) (by kernel_rfl) (fun _ _ _ h => h) (Or.inl ⟨by rfl, ?_⟩) hS ?_
                    · intro W hW; go_simp
                    simp only [Act.put, List.getElem_toArray, List.getElem_cons_succ, List.getElem_cons_zero, List.setIfInBounds_toArray, List.set_cons_succ, List.set_cons_zero]
                    refine wpAnyH_take (i := 16) (v := .int .i64 (k : Nat)) rfl (by kernel_rfl) (by kernel_rfl) (by kernel_rfl) (fun _ _ _ h => h) (Or.inl ⟨by rfl, ?_⟩) hS ?_
                    · intro W hW; go_simp
                    refine wpAnyH_take (i := 17) (v := .pointer (some ⟨g, k, none⟩)) rfl (by kernel_rfl) (by kernel_rfl) (by kernel_rfl) (fun _ _ _ h => h) (Or.inl ⟨by rfl, ?_⟩) hS ?_
                    · intro W hW; go_simp
                    refine wpAnyH_take (i := 18) (v := .int .i64 y) rfl (by kernel_rfl) (by kernel_rfl) (by kernel_rfl) (fun _ _ _ h => h) (Or.inl ⟨by rfl, ?_⟩) hS ?_
                    · intro W hW; have e1 : W.cell? ⟨g, k, none⟩ = some (.int .i64 y) := (hW.cell hgl2 (by simp)).trans d1; go_simp
                    refine wpAnyH_take (i := 19) (v := .bool false) rfl (by kernel_rfl) (by kernel_rfl) (by kernel_rfl) (fun _ _ _ h => h) (Or.inl ⟨by rfl, ?_⟩) hS ?_
                    · intro W hW; go_simp
                    simp only [Act.put, List.getElem_toArray, List.getElem_cons_succ, List.getElem_cons_zero, List.setIfInBounds_toArray, List.set_cons_succ, List.set_cons_zero]
                    refine wpAnyH_take (i := 20) (v := .bool false) rfl (by kernel_rfl) (by kernel_rfl) (by kernel_rfl) (fun _ _ _ h => h) (Or.inl ⟨by rfl, ?_⟩) hS ?_
                    · intro W hW; go_simp
                    refine wpAnyH_take (i := 21) (v := .bool false) rfl (by kernel_rfl) (by kernel_rfl) (by kernel_rfl) (fun _ _ _ h => h) (Or.inl ⟨by rfl, ?_⟩) hS ?_
                    · intro W hW; go_simp
                    refine wpAnyH_take (i := 22) (v := .bool false) rfl (by kernel_rfl) (by kernel_rfl) (by kernel_rfl) (fun _ _ _ h => h) (Or.inl ⟨by rfl, ?_⟩) hS ?_
                    · intro W hW; go_simp
                    simp only [Act.put, List.getElem_toArray, List.getElem_cons_succ, List.getElem_cons_zero, List.setIfInBounds_toArray, List.set_cons_succ, List.set_cons_zero]
                    refine wpAnyH_take (i := 23) (v := .pointer (some ⟨l, 0, none⟩)) rfl (by kernel_rfl) (by kernel_rfl) (by kernel_rfl) (fun _ _ _ h => h) (Or.inl ⟨by rfl, ?_⟩) hS ?_
                    · intro W hW; go_simp
                    refine wpAnyH_take (i := 24) (v := .slice (some ⟨g, 0, none⟩) xs.length cc) rfl (by kernel_rfl) (by kernel_rfl) (by kernel_rfl) (fun _ _ _ h => h) (Or.inl ⟨by rfl, ?_⟩) hS ?_
                    · intro W hW; go_simp
                    refine wpAnyH_take (i := 25) (v := .int .i64 (k : Nat)) rfl (by kernel_rfl) (by kernel_rfl) (by kernel_rfl) (fun _ _ _ h => h) (Or.inl ⟨by rfl, ?_⟩) hS ?_
                    · intro W hW; go_simp
                    simp only [Act.put, List.getElem_toArray, List.getElem_cons_succ, List.getElem_cons_zero, List.setIfInBounds_toArray, List.set_cons_succ, List.set_cons_zero]
                    refine wpAnyH_take (i := 26) (v := .pointer (some ⟨g, k, none⟩)) rfl (by kernel_rfl) (by kernel_rfl) (by kernel_rfl) (fun _ _ _ h => h) (Or.inl ⟨by rfl, ?_⟩) hS ?_
                    · intro W hW; go_simp
                    refine wpAnyH_take (i := 27) (v := .int .i64 y) rfl (by kernel_rfl) (by kernel_rfl) (by kernel_rfl) (fun _ _ _ h => h) (Or.inl ⟨by rfl, ?_⟩) hS ?_
                    · intro W hW; have e1 : W.cell? ⟨g, k, none⟩ = some (.int .i64 y) := (hW.cell hgl2 (by simp)).trans d1; go_simp
                    refine wpAnyH_take (i := 29) (v := .int .i64 p) rfl (by kernel_rfl) (by kernel_rfl) (by kernel_rfl) (fun _ _ _ h => h) (Or.inl ⟨by rfl, ?_⟩) hS ?_
                    · intro W hW; go_simp
                    simp only [Act.put, List.getElem_toArray, List.getElem_cons_succ, List.getElem_cons_zero, List.setIfInBounds_toArray, List.set_cons_succ, List.set_cons_zero]
                    refine wpAnyH_ready (rs := [28]) (by kernel_rfl) (by simp) (AllReadyH.cons rfl (fun K hK => ?_) AllReadyH.nil)
                    go_simp
                    refine Calls.mono (ow_of (HK.out.2.upd hS) (by have := HQ.out; omega) HY.out.1) ?_
                    rintro en w7 ⟨v7, ys, rfl, h1, _, h3, hU⟩
                    obtain ⟨p7, c7, hv7⟩ := h1.form
                    subst hv7
                    have H7 : Hid (IR w7 _ (.slice p7 ys.length c7) ys) := h1
                    have HC : Hid (ys.contains (p : Int) = true) := List.contains_iff_mem.2 ((h3 p).2 HY.out.2)
                    have hS2 : Upd [] wr w7 := hS.trans hU
                    refine hK.out _ _ hS2 (fun _ => ?_)
                    clear hK K hS hU h1 h3
                    have hS : Upd [] wr w7 := hS2
                    have h77 : Upd [] w7 w7 := Upd.refl [] w7
                    clear hS2
                    refine wpAnyH_ready (rs := [30]) (by kernel_rfl) (by simp) (AllReadyH.cons rfl (fun K hK => ?_) AllReadyH.nil)
                    go_simp
                    refine Calls.mono (among_any w7 _ _ ys p H7.out) ?_
                    rintro en w8 ⟨rfl, hw8⟩
                    rw [hw8, HC.out]
                    refine hK.out _ _ hS (fun _ => ?_)
                    clear hK K hw8
                    refine wpAnyH_take (i := 31) (v := .bool false) rfl (by kernel_rfl) (by kernel_rfl) (by kernel_rfl) (fun _ _ _ h => h) (Or.inl ⟨by rfl, ?_⟩) hS ?_
                    · intro W hW; go_simp
                    refine wpAnyH_take (i := 32) (v := .bool false) rfl (by kernel_rfl) (by kernel_rfl) (by kernel_rfl) (fun _ _ _ h => h) (Or.inl ⟨by rfl, ?_⟩) hS ?_
                    · intro W hW; go_simp
                    simp only [Act.put, List.getElem_toArray, List.getElem_cons_succ, List.getElem_cons_zero, List.setIfInBounds_toArray, List.set_cons_succ, List.set_cons_zero]
                    refine wpAnyH_done (by kernel_rfl) ?_ _
                    have HK2 : Hid (IR w7 Bf (.slice (some ⟨g, 0, none⟩) xs.length cc) xs ∧ Ow w w7 l n' L' M') := ⟨HK.out.1.upd hS, HK.out.2.upd hS⟩
                    clear hS h77
                    go_wp2_with fail
                    go_roundw
                    case rel => exact ⟨k + 1, by go_num, hlk, HK2.out.1, HK2.out.2⟩
                    case measure => simp [intOf]; omega
                · obtain rfl : k = xs.length := by omega
                  go_wp2_with fail
                  go_roundw
                  case rel => exact ⟨p + 1, by go_num, hl8, HK.out.2⟩
                  case measure => simp [intOf]; omega
            · obtain rfl : p = 8 := by omega
              go_wp2_with fail
              go_roundw
              case rel => exact ⟨i + 1, n', L', M', by go_num, hlt, HQ.out.2.1, HP.out⟩
              case measure => simp [intOf]; omega
      · obtain rfl : i = m := by omega
        go_wp2_with fail
        go_ret
        exact ⟨rfl, HO.out.1.up⟩

end Go.Proofs.Ytmepiggkligacaa
