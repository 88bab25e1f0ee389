/- NameOne, walked. -/
import Derived.Test.YticbafidaakpjaaNmR
import Derived.Deep.DeepCutAuto
import Derived.Deep.CutBlock
import Derived.Deep.RegionHeld3
import Derived.BigQuiet
import Derived.Deep.QuietTactic
namespace Go.Proofs.Yticbafidaakpjaa
open Go.RowKit Go.Maps

def OneR (w wr : World) (l m bh bm : Nat) (s6 : Value) : Prop := ∃ (i n : Nat) (F : NF) (G : PF) (hv : Nat → Bool) (mv : Nat → BS), s6 = .int .i64 (i : Nat) ∧ i ≤ m ∧ n ≤ i ∧ On w wr l n bh bm F G hv mv ∧ Rel F G hv mv
def OneC (w wr : World) (l i bh bm : Nat) : Prop := ∃ (n : Nat) (F : NF) (G : PF) (hv : Nat → Bool) (mv : Nat → BS), n ≤ i + 1 ∧ On w wr l n bh bm F G hv mv ∧ Rel F G hv mv

theorem box_new (w : World) : BoxB (w.alloc (.cells #[.bool false, .bool false, .bool false, .bool false, .bool false, .bool false] 42)) w.heap.size (fun _ => false) :=
  ⟨_, Cl.new _ _ _ _ rfl, rfl, fun k hk => by
    match k, hk with
    | 0, _ => rfl
    | 1, _ => rfl
    | 2, _ => rfl
    | 3, _ => rfl
    | 4, _ => rfl
    | 5, _ => rfl⟩
theorem boxS_new (w : World) : BoxS (w.alloc (.cells #[.string ⟨#[]⟩, .string ⟨#[]⟩, .string ⟨#[]⟩, .string ⟨#[]⟩, .string ⟨#[]⟩, .string ⟨#[]⟩] 43)) w.heap.size (fun _ => []) :=
  ⟨_, Cl.new _ _ _ _ rfl, rfl, fun k hk => by
    match k, hk with
    | 0, _ => rfl
    | 1, _ => rfl
    | 2, _ => rfl
    | 3, _ => rfl
    | 4, _ => rfl
    | 5, _ => rfl⟩
/-- The boxes have been made. -/
theorem on_start {w w2 : World} {l n b1 b2 : Nat} {F : NF} {G : PF} (o : NmO w2 l n b1 b2 F G) (h1 : w.heap.size ≤ b1) (h2 : w.heap.size ≤ b2) (hu : Upd [] w w2) :
    On w ((w2.alloc (.cells #[.bool false, .bool false, .bool false, .bool false, .bool false, .bool false] 42)).alloc (.cells #[.string ⟨#[]⟩, .string ⟨#[]⟩, .string ⟨#[]⟩, .string ⟨#[]⟩, .string ⟨#[]⟩, .string ⟨#[]⟩] 43)) l n w2.heap.size (w2.heap.size + 1) F G (fun _ => false) (fun _ => []) := by
  have hl := o.row.lt
  have hs := hu.size
  have hz : (w2.alloc (.cells #[.bool false, .bool false, .bool false, .bool false, .bool false, .bool false] 42)).heap.size = w2.heap.size + 1 := by simp
  have hS := boxS_new (w2.alloc (.cells #[.bool false, .bool false, .bool false, .bool false, .bool false, .bool false] 42))
  rw [hz] at hS
  exact ⟨⟨b1, b2, (o.upd ((Upd.refl [] _).alloc _)).upd ((Upd.refl [] _).alloc _), h1, h2⟩, (box_new w2).upd ((Upd.refl [] _).alloc _) (by simp), hS, hs, by omega, by omega, by omega, by omega, (hu.alloc _).alloc _⟩

theorem bytesLess_lt : ∀ {a b : BS}, a < b → Op.bytesLess a b = true
  | [], [], h => absurd h (List.lt_irrefl _)
  | [], _ :: _, _ => by simp [Op.bytesLess]
  | _ :: _, [], h => by simp at h
  | x :: r, y :: s, h => by
    rw [List.cons_lt_cons_iff] at h
    unfold Op.bytesLess
    rcases h with h | ⟨h1, h2⟩
    · simp [h]
    · subst h1
      simp [bytesLess_lt h2]

set_option maxHeartbeats 8000000 in
set_option maxRecDepth 100000 in
theorem One_walk (w : World) (a : Option Addr) (n0 c0 : Nat) (hn0 : n0 ≤ c0) (hcm : c0 ≤ 9223372036854775807) (hop : Steps w a n0) : Calls Try.prog 4 #[.slice a n0 c0] w fun e w' => e = .returned (.bool true) ∧ Upd [] w w' := by
  have HN : Hid (n0 ≤ c0 ∧ c0 ≤ 9223372036854775807 ∧ Steps w a n0) := ⟨hn0, hcm, hop⟩
  clear hop hn0 hcm
  go_enter Try.func4, Try.ntmps4
  go_wp2_with fail
  refine Calls.mono (awake_any all_any _) ?_
  rintro e w1 ⟨rfl, hu⟩
  have U1 : Hid (Upd [] w w1) := hu
  clear hu
  go_upto_if 23 with fail
  go_cut [0] (fun s0 wx => s0 = .slice a (min n0 80) c0 ∧ wx = w1)
  case first =>
    by_cases h80 : n0 ≤ 80
    · have hd : decide ((80 : Int) < (n0 : Int)) = false := decide_eq_false (by omega)
      have hm : min n0 80 = n0 := by omega
      go_wp2_with fail
      go_meet
      case rel => exact ⟨by rw [hm], rfl⟩
    · have hd : decide ((80 : Int) < (n0 : Int)) = true := decide_eq_true (by omega)
      have hm : min n0 80 = 80 := by omega
      have hc : 80 ≤ c0 := by have := HN.out.1; omega
      obtain ⟨gl, ol, _, _, _, hae, _⟩ := HN.out.2.2 0 (by omega)
      subst hae
      go_wp2_with fail
      go_meet
      case rel => exact ⟨by rw [hm], rfl⟩
  case rest =>
    obtain ⟨rfl, hw⟩ := hcut
    rw [hw]
    clear hw
    obtain ⟨m, hm⟩ : ∃ m, m = min n0 80 := ⟨_, rfl⟩
    rw [← hm]
    have HM : Hid (m ≤ 80 ∧ Steps w a m) := ⟨by omega, HN.out.2.2.le (by omega)⟩
    clear hm HN
    go_wp2_with fail
    refine Calls.mono (great_any w1 a m c0 (by have := HM.out.1; omega) (HM.out.2.upd U1.out)) ?_
    rintro e w2 ⟨gb, rfl, hu, hshort⟩
    have U2 : Hid (Upd [] w w2) := U1.out.trans hu
    clear hu
    cases gb with
    | true =>
      go_wp2_with fail
      go_ret
      exact ⟨rfl, U2.out⟩
    | false =>
      have HB : Hid (∀ i, i < m → ∀ gl ol s, a = some ⟨gl, ol, none⟩ → gl < w.heap.size → w.cell? ⟨gl, ol + i * 3 + 2, none⟩ = some (encStr s) → s.length ≤ 1000000000) := fun i hi gl ol s he hg hc => by
        have := hshort rfl i hi gl ol s he ((U1.out.cell (p := ⟨gl, ol + i * 3 + 2, none⟩) hg (by simp)).trans hc)
        omega
      clear hshort U1
      go_wp2_with fail
      refine Calls.mono (new_any w2) ?_
      rintro e w3 ⟨l, b1, b2, rfl, o, h1, h2, _, hu⟩
      have hs := U2.out.size
      have H3 := on_start (w := w) o (Nat.le_trans hs h1) (Nat.le_trans hs h2) (U2.out.trans hu)
      clear o h1 h2 hu U2 hs
      go_wp2_with fail
      generalize hbh : w3.heap.size = bh at H3 ⊢
      generalize hbm : bh + 1 = bm at H3 ⊢
      clear hbh hbm
      go_loopw [6] (fun s6 wr => OneR w wr l m bh bm s6) (fun s6 _ => m - (intOf s6).toNat)
      case atStart => exact ⟨0, 0, _, _, _, _, rfl, Nat.zero_le _, Nat.zero_le _, H3, Rel.start⟩
      case round =>
        obtain ⟨i, n, F, G, hv, mv, rfl, him, hni, o, hR⟩ := hrel
        rename World => wR
        have HO : Hid (On w wR l n bh bm F G hv mv ∧ n ≤ i ∧ Rel F G hv mv) := ⟨o, hni, hR⟩
        clear o hni hR H3
        by_cases hlt : i < m
        · have i1 : (i : Int) < (m : Int) := by omega
          have i80 : (i : Int) < 80 := by have := HM.out.1; omega
          obtain ⟨gl, ol, op, A, s, hae, hgl, k0, k1, k2, hI⟩ := HM.out.2 i hlt
          subst hae
          have hl0 : wR.cell? ⟨gl, ol + i * 3, none⟩ = some (.int .i64 op) := (HO.out.1.up.cell (p := ⟨gl, ol + i * 3, none⟩) hgl (by simp)).trans k0
          have hl1 : wR.cell? ⟨gl, ol + i * 3 + 1, none⟩ = some (.int .i64 A) := (HO.out.1.up.cell (p := ⟨gl, ol + i * 3 + 1, none⟩) hgl (by simp)).trans k1
          have hl2 : wR.cell? ⟨gl, ol + i * 3 + 2, none⟩ = some (encStr s) := (HO.out.1.up.cell (p := ⟨gl, ol + i * 3 + 2, none⟩) hgl (by simp)).trans k2
          have HS : Hid (s.length ≤ 1000000000 ∧ okB s) := ⟨HB.out i hlt gl ol s rfl hgl k2, hI.2.2⟩
          clear k0 k1 k2 hgl hI
          go_wp2_with fail
          refine Calls.mono (pick_any A 6 (by omega) (by omega) _) ?_
          rintro e w4 ⟨rfl, hw4⟩
          rw [hw4]
          clear hw4
          obtain ⟨k, hkA, hk6⟩ : ∃ k : Nat, pk A 6 = (k : Int) ∧ k < 6 := by
            have := pk_lt A (n := 6) (by omega)
            exact ⟨(pk A 6).toNat, by omega, by omega⟩
          rw [hkA]
          clear hkA
          go_wp2_with fail
          go_loopw [9, 10] (fun s9 s10 wx => ∃ j : Nat, j ≤ 6 ∧ s10 = .int .i64 j ∧ s9 = .int .i64 (owAt F s j) ∧ wx = wR) (fun _ s10 _ => 6 - (intOf s10).toNat)
          case atStart => exact ⟨0, by omega, rfl, by rw [show ((0 : Nat) : Int) = 0 from rfl, owAt_zero HO.out.2.2], rfl⟩
          case round =>
            obtain ⟨j, hj, rfl, rfl, hw⟩ := hrel
            rw [hw]
            clear hw
            by_cases hj6 : j < 6
            · have j1 : (j : Int) < 6 := by omega
              have g1 := (HO.out.1.hasB.get hj6).1
              have g2 := (HO.out.1.minB.get hj6).1
              have HT : Hid ((hv j && (mv j == s)) = decide (F s = some (j : Int))) := HO.out.2.2.test hj6 s
              cases hvj : hv j with
              | true =>
                rw [hvj] at g1 HT
                cases hms : mv j == s with
                | true =>
                  rw [hms] at HT
                  have HF : Hid (owAt F s ((j : Int) + 1) = (j : Int)) := owAt_hit (of_decide_eq_true (HT.out.symm.trans rfl))
                  clear HT
                  go_wp2_with fail
                  go_roundw
                  case rel => exact ⟨j + 1, by omega, by go_num, by rw [← HF.out]; rfl, trivial⟩
                  case measure => simp [intOf]; omega
                | false =>
                  rw [hms] at HT
                  have HF : Hid (owAt F s ((j : Int) + 1) = owAt F s (j : Int)) := owAt_miss (of_decide_eq_false (HT.out.symm.trans rfl))
                  clear HT
                  go_wp2_with fail
                  go_roundw
                  case rel => exact ⟨j + 1, by omega, by go_num, by rw [← HF.out]; rfl, trivial⟩
                  case measure => simp [intOf]; omega
              | false =>
                rw [hvj] at g1 HT
                have HF : Hid (owAt F s ((j : Int) + 1) = owAt F s (j : Int)) := owAt_miss (of_decide_eq_false (HT.out.symm.trans rfl))
                clear HT
                go_wp2_with fail
                go_roundw
                case rel => exact ⟨j + 1, by omega, by go_num, by rw [← HF.out]; rfl, trivial⟩
                case measure => simp [intOf]; omega
            · obtain rfl : j = 6 := by omega
              have HW : Hid (owAt F s 6 = (F s).getD (-1)) := owAt_end HO.out.2.2 s
              rw [show ((6 : Nat) : Int) = 6 from rfl, HW.out]
              clear HW hj6
              go_wp2_with fail
              refine Calls.mono (pick_any op 5 (by omega) (by omega) _) ?_
              rintro e w5 ⟨rfl, hw5⟩
              rw [hw5]
              clear hw5 w5 hl0
              obtain ⟨t, ht⟩ : ∃ t, t = pk op 5 := ⟨_, rfl⟩
              have htl : 0 ≤ t ∧ t < 5 := by rw [ht]; exact pk_lt op (by omega)
              rw [← ht]
              clear ht
              have HK : Hid (I64 (k : Int)) := i64_small (by omega) (by omega)
              have k6 : (k : Int) < 6 := by omega
              obtain ⟨ow, how⟩ : ∃ ow, ow = (F s).getD (-1) := ⟨_, rfl⟩
              rw [← how]
              have HOW : Hid (ow = (F s).getD (-1)) := how
              clear how
              go_upto_block 4 with fail
              go_cut [11, 12] (fun _ _ wx => OneC w wx l i bh bm)
              case first =>
                rcases (by omega : t = 0 ∨ t = 1 ∨ 2 ≤ t) with rfl | rfl | ht3
                · clear htl
                  cases hvk : hv k with
                  | true =>
                    have hG : G (k : Int) = some (mv k) := by rw [HO.out.2.2.has hk6, hvk]; rfl
                    have HR' : Hid (Rel (at1 F (mv k) none) (at1 G (k : Int) none) (at1 hv k false) mv) := HO.out.2.2.less hk6 (HO.out.2.2.find hk6 hvk)
                    have HE : Hid (Calls Try.prog 9 #[.pointer (some ⟨l, 0, none⟩), .int .i64 (k : Int)] wR fun e w' => ∃ v, e = .returned v ∧ TR w' v [mv k] ∧ On w w' l n bh bm (at1 F (mv k) none) (at1 G (k : Int) none) hv mv) := by
                      have := on_end HO.out.1 HK.out
                      rw [hG] at this
                      exact this
                    clear hG
                    go_wp2_with fail
                    refine Calls.mono HE.out ?_
                    rintro e w6 ⟨v, rfl, ht, o⟩
                    obtain ⟨p1, c1, hvf⟩ := ht.form
                    subst hvf
                    obtain ⟨g, c2, e1, d1⟩ := ht.cell (k := 0) (by simp)
                    simp only [Value.slice.injEq] at e1
                    obtain ⟨rfl, _, rfl⟩ := e1
                    have d2 : w6.cell? ⟨g, 0, none⟩ = some (encStr (mv k)) := d1
                    have g1 : w6.cell? ⟨bh, k, none⟩ = some (.bool true) := by rw [(o.hasB.get hk6).1, hvk]
                    have g2 := (o.minB.get hk6).1
                    have H6 : Hid (On w w6 l n bh bm (at1 F (mv k) none) (at1 G (k : Int) none) hv mv) := o
                    clear ht d1 o HE
                    go_upto_region 29 with fail
                    go_quiet (fail)
                    obtain ⟨w7, hw7⟩ : ∃ w7, w7 = w6.drewN nq := ⟨_, rfl⟩
                    have H7 : Hid (On w w7 l n bh bm (at1 F (mv k) none) (at1 G (k : Int) none) hv mv) := by rw [hw7]; exact H6.out.upd ((Upd.refl [] w6).drewN nq)
                    have g7 := (H7.out.hasB.get hk6).1
                    have f7 := (H7.out.hasB.get hk6).2
                    rw [← hw7]
                    clear hw7 H6 g1 g2 d2
                    go_wp2_with fail
                    go_meet
                    case rel => exact ⟨n, _, _, _, _, by have := HO.out.2.1; omega, H7.out.setB hk6 false, HR'.out⟩
                  | false =>
                    have hG : G (k : Int) = none := by rw [HO.out.2.2.has hk6, hvk]; rfl
                    have HE : Hid (Calls Try.prog 9 #[.pointer (some ⟨l, 0, none⟩), .int .i64 (k : Int)] wR fun e w' => ∃ v, e = .returned v ∧ TR w' v [] ∧ On w w' l n bh bm F (at1 G (k : Int) none) hv mv) := by
                      have := on_end HO.out.1 HK.out
                      rw [hG] at this
                      exact this
                    have hat : at1 G (k : Int) none = G := by
                      funext x
                      by_cases hx : x = (k : Int)
                      · rw [hx, at1_same, hG]
                      · rw [at1_other _ _ hx]
                    rw [hat] at HE
                    have hvn : at1 hv k false = hv := HO.out.2.2.none hvk
                    have HV : Hid (at1 hv k false = hv) := hvn
                    clear hG hat hvn
                    go_wp2_with fail
                    refine Calls.mono HE.out ?_
                    rintro e w6 ⟨v, rfl, ht, o⟩
                    obtain ⟨p1, c1, hvf⟩ := ht.form
                    subst hvf
                    have g1 : w6.cell? ⟨bh, k, none⟩ = some (.bool false) := by rw [(o.hasB.get hk6).1, hvk]
                    have H6 : Hid (On w w6 l n bh bm F G hv mv) := o
                    clear ht o HE
                    go_upto_region 29 with fail
                    go_quiet (fail)
                    obtain ⟨w7, hw7⟩ : ∃ w7, w7 = w6.drewN nq := ⟨_, rfl⟩
                    have H7 : Hid (On w w7 l n bh bm F G hv mv) := by rw [hw7]; exact H6.out.upd ((Upd.refl [] w6).drewN nq)
                    have g7 := (H7.out.hasB.get hk6).1
                    have f7 := (H7.out.hasB.get hk6).2
                    rw [← hw7]
                    clear hw7 H6 g1
                    go_wp2_with fail
                    go_meet
                    case rel => exact ⟨n, _, _, _, _, by have := HO.out.2.1; omega, H7.out.setB hk6 false, by rw [HV.out]; exact HO.out.2.2⟩
                · clear htl
                  cases hF : F s with
                  | some p =>
                    obtain ⟨j, hj6, hpj, hvj, hmj⟩ := HO.out.2.2.own hF
                    subst hpj
                    have how : ow = (j : Int) := by rw [HOW.out, hF]; rfl
                    subst how
                    have HR' : Hid (Rel (at1 F s none) (at1 G (j : Int) none) (at1 hv j false) mv) := HO.out.2.2.less hj6 hF
                    have HE : Hid (Calls Try.prog 8 #[.pointer (some ⟨l, 0, none⟩), encStr s] wR fun e w' => e = .returned (.bool true) ∧ On w w' l n bh bm (at1 F s none) (at1 G (j : Int) none) hv mv) := by
                      have := on_take HO.out.1 HS.out.2
                      rw [hF] at this
                      exact this
                    have j0 : (0 : Int) ≤ (j : Int) := by omega
                    have j6 : (j : Int) < 6 := by omega
                    clear hF hvj hmj HOW
                    go_wp2_with fail
                    refine Calls.mono HE.out ?_
                    rintro e w6 ⟨rfl, o⟩
                    have H7 : Hid (On w w6 l n bh bm (at1 F s none) (at1 G (j : Int) none) hv mv) := o
                    have g7 := (H7.out.hasB.get hj6).1
                    have f7 := (H7.out.hasB.get hj6).2
                    clear o HE
                    go_wp2_with fail
                    go_meet
                    case rel => exact ⟨n, _, _, _, _, by have := HO.out.2.1; omega, H7.out.setB hj6 false, HR'.out⟩
                  | none =>
                    have how : ow = -1 := by rw [HOW.out, hF]; rfl
                    subst how
                    have hat : at1 F s none = F := by
                      funext x
                      by_cases hx : x = s
                      · rw [hx, at1_same, hF]
                      · rw [at1_other _ _ hx]
                    have HE : Hid (Calls Try.prog 8 #[.pointer (some ⟨l, 0, none⟩), encStr s] wR fun e w' => e = .returned (.bool false) ∧ On w w' l n bh bm F G hv mv) := by
                      have := on_take HO.out.1 HS.out.2
                      rw [hat, hF] at this
                      exact this
                    clear hF hat HOW
                    go_wp2_with fail
                    refine Calls.mono HE.out ?_
                    rintro e w6 ⟨rfl, o⟩
                    have H7 : Hid (On w w6 l n bh bm F G hv mv) := o
                    clear o HE
                    go_wp2_with fail
                    go_meet
                    case rel => exact ⟨n, _, _, _, _, by have := HO.out.2.1; omega, H7.out, HO.out.2.2⟩
                · have t0 : (t == 0) = false := beq_eq_false_iff_ne.2 (by omega)
                  have t1 : (t == 1) = false := beq_eq_false_iff_ne.2 (by omega)
                  clear ht3 htl
                  cases hF : F s with
                  | some p =>
                    obtain ⟨j, hj6, hpj, hvj, hmj⟩ := HO.out.2.2.own hF
                    subst hpj
                    have how : ow = (j : Int) := by rw [HOW.out, hF]; rfl
                    subst how
                    have HE : Hid (Calls Try.prog 7 #[.pointer (some ⟨l, 0, none⟩), encStr s, .int .i64 (k : Int)] wR fun e w' => e = .returned (.bool false) ∧ On w w' l n bh bm F G hv mv) := on_put_no HO.out.1 HS.out.2 HK.out (by rw [hF]; rfl)
                    have j0 : (0 : Int) ≤ (j : Int) := by omega
                    have d0 : decide ((j : Int) < 0) = false := decide_eq_false (by omega)
                    clear hF hvj hmj HOW
                    go_wp2_with fail
                    refine Calls.mono HE.out ?_
                    rintro e w6 ⟨rfl, o⟩
                    have H7 : Hid (On w w6 l n bh bm F G hv mv) := o
                    clear o HE
                    go_wp2_with fail
                    go_meet
                    case rel => exact ⟨n, _, _, _, _, by have := HO.out.2.1; omega, H7.out, HO.out.2.2⟩
                  | none =>
                    cases hvk : hv k with
                    | true =>
                      have how : ow = -1 := by rw [HOW.out, hF]; rfl
                      subst how
                      have hG : G (k : Int) = some (mv k) := by rw [HO.out.2.2.has hk6, hvk]; rfl
                      have HE : Hid (Calls Try.prog 7 #[.pointer (some ⟨l, 0, none⟩), encStr s, .int .i64 (k : Int)] wR fun e w' => e = .returned (.bool false) ∧ On w w' l n bh bm F G hv mv) := on_put_no HO.out.1 HS.out.2 HK.out (by rw [hG]; simp)
                      clear hF hG HOW
                      go_wp2_with fail
                      refine Calls.mono HE.out ?_
                      rintro e w6 ⟨rfl, o⟩
                      have g7 : w6.cell? ⟨bh, k, none⟩ = some (.bool true) := by rw [(o.hasB.get hk6).1, hvk]
                      have H7 : Hid (On w w6 l n bh bm F G hv mv) := o
                      clear o HE
                      go_wp2_with fail
                      go_meet
                      case rel => exact ⟨n, _, _, _, _, by have := HO.out.2.1; omega, H7.out, HO.out.2.2⟩
                    | false =>
                      have how : ow = -1 := by rw [HOW.out, hF]; rfl
                      subst how
                      have hG : G (k : Int) = none := by rw [HO.out.2.2.has hk6, hvk]; rfl
                      have HR' : Hid (Rel (at1 F s (some (k : Int))) (at1 G (k : Int) (some s)) (at1 hv k true) (at1 mv k s)) := HO.out.2.2.more hk6 hF hG
                      have HE : Hid (Calls Try.prog 7 #[.pointer (some ⟨l, 0, none⟩), encStr s, .int .i64 (k : Int)] wR fun e w' => e = .returned (.bool true) ∧ On w w' l (n + 1) bh bm (at1 F s (some (k : Int))) (at1 G (k : Int) (some s)) hv mv) := on_put HO.out.1 (by have := HO.out.2.1; have := HM.out.1; omega) HS.out.1 HK.out hF hG
                      clear hF hG HOW
                      go_wp2_with fail
                      refine Calls.mono HE.out ?_
                      rintro e w6 ⟨rfl, o⟩
                      have g7 : w6.cell? ⟨bh, k, none⟩ = some (.bool false) := by rw [(o.hasB.get hk6).1, hvk]
                      have f7 := (o.hasB.get hk6).2
                      have H7 : Hid (On w w6 l (n + 1) bh bm (at1 F s (some (k : Int))) (at1 G (k : Int) (some s)) hv mv) := o
                      have o8 := o.setB hk6 true
                      have g8 := (o8.minB.get hk6).1
                      have f8 := (o8.minB.get hk6).2
                      clear o HE o8
                      go_wp2_with fail
                      go_meet
                      case rel => exact ⟨n + 1, _, _, _, _, by have := HO.out.2.1; omega, (H7.out.setB hk6 true).setS hk6 s, HR'.out⟩
              case rest =>
                obtain ⟨n', F', G', hv', mv', hn', o, hR'⟩ := hcut
                have HQ : Hid (On w wc l n' bh bm F' G' hv' mv' ∧ n' ≤ i + 1 ∧ Rel F' G' hv' mv') := ⟨o, hn', hR'⟩
                clear o hn' hR'
                go_wp2_with fail
                refine Calls.mono (on_all HQ.out.1 (by have := HQ.out.2.1; have := HM.out.1; omega)) ?_
                rintro e w8 ⟨u, ms, rfl, h1, h2, h3, h4⟩
                obtain ⟨p8, c8, hv8⟩ := h1.form
                subst hv8
                have HC : Hid (ms.length = cnt hv' 6) := HQ.out.2.2.count h2 h3
                have H8 : Hid (On w w8 l n' bh bm F' G' hv' mv' ∧ MR w8 wc.heap.size (.slice p8 ms.length c8) ms ∧ ms.Pairwise (fun a b => a.1 < b.1)) := ⟨HQ.out.1.upd h4, h1, h2⟩
                clear h1 h2 h3 h4
                go_wp2_with fail
                go_loopw [14, 15] (fun s14 s15 wx => ∃ j : Nat, j ≤ 6 ∧ s15 = .int .i64 j ∧ s14 = .int .i64 (cnt hv' j : Nat) ∧ Upd [] w8 wx) (fun _ s15 _ => 6 - (intOf s15).toNat)
                case atStart => exact ⟨0, by omega, rfl, rfl, Upd.refl [] w8⟩
                case round =>
                  obtain ⟨j, hj, rfl, rfl, hu⟩ := hrel
                  have HU : Hid (Upd [] w8 wr) := hu
                  clear hu
                  by_cases hj6 : j < 6
                  · have j1 : (j : Int) < 6 := by omega
                    have g1 := ((H8.out.1.upd HU.out).hasB.get hj6).1
                    have g2 := ((H8.out.1.upd HU.out).minB.get hj6).1
                    have HN : Hid (cnt hv' (j + 1) = cnt hv' j + if hv' j then 1 else 0) := cnt_succ hv' j
                    have cl : (cnt hv' j : Int) + 1 ≤ 1000 := by have := cnt_le hv' j; omega
                    cases hvj : hv' j with
                    | true =>
                      rw [hvj] at g1 HN
                      have hF : F' (mv' j) = some (j : Int) := HQ.out.2.2.find hj6 hvj
                      have HE : Hid (Calls Try.prog 6 #[.pointer (some ⟨l, 0, none⟩), encStr (mv' j)] wr fun e w' => e = .returned (.tuple #[.int .i64 (j : Int), .bool true]) ∧ Upd [] wr w') := by
                        have := on_find (H8.out.1.upd HU.out) (H8.out.1.key hF)
                        rw [hF] at this
                        exact this
                      clear hF hvj
                      go_wp2_with fail
                      refine Calls.mono HE.out ?_
                      rintro e w9 ⟨rfl, hu⟩
                      have HU9 : Hid (Upd [] w8 w9) := HU.out.trans hu
                      clear hu HE
                      go_wp2_with fail
                      go_roundw
                      case rel => exact ⟨j + 1, by omega, by go_num, by rw [HN.out]; go_num, HU9.out⟩
                      case measure => simp [intOf]; omega
                    | false =>
                      rw [hvj] at g1 HN
                      clear hvj
                      go_wp2_with fail
                      go_roundw
                      case rel => exact ⟨j + 1, by omega, by go_num, by rw [HN.out]; go_num, HU.out⟩
                      case measure => simp [intOf]; omega
                  · obtain rfl : j = 6 := by omega
                    have HW : Hid (On w wr l n' bh bm F' G' hv' mv' ∧ MR wr wc.heap.size (.slice p8 ms.length c8) ms) := ⟨H8.out.1.upd HU.out, H8.out.2.1.upd HU.out⟩
                    rw [← HC.out]
                    clear hj6 hj
                    obtain ⟨wB, hwB⟩ : ∃ wB, wB = wr := ⟨_, rfl⟩
                    rw [← hwB] at HW ⊢
                    clear hwB HU
                    go_wp2_with fail
                    go_loopw [18] (fun s18 wx => ∃ j : Nat, 1 ≤ j ∧ (j ≤ ms.length ∨ j = 1) ∧ s18 = .int .i64 j ∧ Upd [] wB wx) (fun s18 _ => ms.length + 1 - (intOf s18).toNat)
                    case atStart => exact ⟨1, by omega, Or.inr rfl, rfl, Upd.refl [] _⟩
                    case round =>
                      obtain ⟨j, hj1, hj2, rfl, hu⟩ := hrel
                      have HV : Hid (Upd [] wB wr) := hu
                      have hml : ms.length ≤ 6 := by rw [HC.out]; exact cnt_le hv' 6
                      clear hu
                      by_cases hjl : j < ms.length
                      · have j3 : (j : Int) < (ms.length : Int) := by omega
                        obtain ⟨j', rfl⟩ : ∃ j', j = j' + 1 := ⟨j - 1, by omega⟩
                        obtain ⟨g, c9, e1, d0, d1⟩ := (HW.out.2.upd HV.out).cells hjl
                        obtain ⟨g', c9', e2, d0', d1'⟩ := (HW.out.2.upd HV.out).cells (show j' < ms.length by omega)
                        simp only [Value.slice.injEq] at e1 e2
                        obtain ⟨rfl, _, rfl⟩ := e1
                        simp only [Option.some.injEq, Addr.mk.injEq] at e2
                        obtain ⟨⟨rfl, _⟩, _, rfl⟩ := e2
                        have hlt2 : ms[j'].1 < ms[j' + 1].1 := List.pairwise_iff_getElem.1 H8.out.2.2 j' (j' + 1) (by omega) hjl (by omega)
                        generalize hsa : ms[j' + 1].1 = sa at *
                        generalize hsb : ms[j'].1 = sb at *
                        have hbl : Op.bytesLess sb sa = true := bytesLess_lt hlt2
                        clear d1 d1' hsa hsb hlt2
                        have j4 : (j' : Int) < (ms.length : Int) := by omega
                        have j5 : wrap64 ((j' : Int) + 1 - 1) = (j' : Int) := by unfold wrap64; omega
                        go_upto_region 50 with fail
                        go_region
                        go_wp2_with fail
                        go_roundw
                        case rel => exact ⟨j' + 1 + 1, by omega, Or.inl (by omega), by go_num, HV.out.drew⟩
                        case measure => simp [intOf]; omega
                      · have j3 : decide ((j : Int) < (ms.length : Int)) = false := decide_eq_false (by omega)
                        have HL : Hid (On w wr l n' bh bm F' G' hv' mv') := HW.out.1.upd HV.out
                        go_wp2_with fail
                        go_roundw
                        case rel => exact ⟨i + 1, n', F', G', hv', mv', by go_num, hlt, HQ.out.2.1, HL.out, HQ.out.2.2⟩
                        case measure => simp [intOf]; omega
        · obtain rfl : i = m := by omega
          go_wp2_with fail
          go_ret
          exact ⟨rfl, HO.out.1.up⟩

end Go.Proofs.Yticbafidaakpjaa
