/- LinkApart, walked. -/
import Derived.Test.YtofcniodobjopaaGreatJB
import Derived.Test.YtofcniodobjopaaGreatBgU
import Derived.BigRegion
namespace Go.Proofs.YtofcniodobjopaaGreat
open Go.RowKit Go.Maps

theorem neq_mon (w : World) (x0 x1 x2 : Int) : (binOp .neq 33 (.agg #[.int .i64 x0, .int .i64 x1, .int .i64 x2]) (.agg #[.int .i64 x0, .int .i64 x1, .int .i64 x2])).run Tryz.prog w = .ok (.bool false) w := by
  rw [run_neq_struct, eqIn_mon]
  simp
theorem eqIn_same (w : World) (x0 x1 x2 : Int) : (Op.equalIn 10000 33 (.agg #[.int .i64 x0, .int .i64 x1, .int .i64 x2]) (.agg #[.int .i64 x0, .int .i64 x1, .int .i64 x2])).run Tryz.prog w = .ok true w := by
  rw [eqIn_mon]
  simp
theorem of_few {w : World} {l n : Nat} {P : Nat → Prop} {L : LF} {M : MF} (o : Lk w l n P L M) (hn : n ≤ 1073741824) {a : Int} (ha : I64 a) :
    Calls Tryz.prog 5 #[.pointer (some ⟨l, 0, none⟩), .int .i64 a] w fun e w' => ∃ v xs, e = .returned v ∧ IR w' w.heap.size v xs ∧ xs.Pairwise (· < ·) ∧ (∀ x, x ∈ xs ↔ L a x = true) ∧ xs.length ≤ n ∧ Upd [] w w' := by
  have hmade := o.made
  obtain ⟨g, m, h, Pg, Ph, o, hP⟩ := o
  have c1 : w.cell? ⟨l, 1, none⟩ = some (.map (some g)) := by rw [o.row.cell]; rfl
  have hr := rising_any o.linked hn ha
  clear o hP
  go_enter Tryz.func5, Tryz.ntmps5
  go_wp2_with fail
  refine Calls.mono hmade ?_
  rintro e w' ⟨rfl, rfl⟩
  go_wp2_with fail
  refine Calls.mono hr ?_
  rintro e w2 ⟨v, xs, rfl, h1, h2, h3, h4, _, hu⟩
  go_wp2
  go_ret
  exact ⟨v, xs, rfl, h1, h2, h3, h4, hu⟩
theorem ow_few {w wr : World} {l n : Nat} {L : LF} {M : MF} (h : Ow w wr l n L M) (hn : n ≤ 1073741824) {a : Int} (ha : I64 a) :
    Calls Tryz.prog 5 #[.pointer (some ⟨l, 0, none⟩), .int .i64 a] wr fun e w' => ∃ v xs, e = .returned v ∧ IR w' wr.heap.size v xs ∧ xs.Pairwise (· < ·) ∧ (∀ x, x ∈ xs ↔ L a x = true) ∧ xs.length ≤ n ∧ Upd [] wr w' := by
  obtain ⟨P, o, h1, h2⟩ := h
  exact of_few o hn ha
theorem IR.rowG {w : World} {B : Nat} {v : Value} {xs : List Int} (h : IR w B v xs) : RowG w 1 v xs.length := by
  rcases h.2 with ⟨h1, h2⟩ | ⟨g, cap, cur, h1, _, hg, h3, h4, h5, _⟩
  · exact Or.inl ⟨h1, h2⟩
  · exact Or.inr ⟨g, cap, h1, lt_blk hg, h3, h4, fun j hj => ⟨by rw [cell_of_row _ _ _ _ _ _ hg, Nat.zero_add, Array.getElem?_eq_getElem (by omega)]; rfl, frozen_of_row _ _ _ _ _ hg⟩⟩
/-- What is left of a row of monitors from i on. -/
def MLeft (w : World) (mv : Value) (lo hi : Nat) (ms : List Mon) (i : Nat) : Prop :=
  i < ms.length → ∃ g c cur, mv = .slice (some ⟨g, 0, none⟩) ms.length c ∧ lo ≤ g ∧ g < hi ∧ Cl w g cur 33 ∧ ∀ j, i ≤ j → (hj : j < ms.length) → cur[j * 3]? = some (.int .i64 ms[j].1) ∧ cur[j * 3 + 1]? = some (.int .i64 ms[j].2.1) ∧ cur[j * 3 + 2]? = some (.int .i64 ms[j].2.2)
theorem MR.left {w : World} {B : Nat} {v : Value} {ms : List Mon} (h : MR w B v ms) : MLeft w v B w.heap.size ms 0 := by
  intro h0
  rcases h.2 with ⟨_, h2⟩ | ⟨g, cap, cur, h1, hB, hg, _, _, _, ht⟩
  · omega
  · refine ⟨g, cap, cur, h1, hB, lt_blk hg, hg, fun j _ hj => ?_⟩
    obtain ⟨g2, c2, e, k0, k1, k2⟩ := h.cells hj
    rw [h1] at e
    simp only [Value.slice.injEq, Option.some.injEq, Addr.mk.injEq] at e
    obtain ⟨⟨rfl, _⟩, _⟩ := e
    rw [cell_of_row _ _ _ _ _ _ hg] at k0 k1 k2
    exact ⟨k0, k1, k2⟩
theorem MLeft.mono {P : Nat → Prop} {w w' : World} {mv : Value} {lo hi i : Nat} {ms : List Mon} (h : MLeft w mv lo hi ms i) (hu : UpP P w w') (hP : ∀ g, lo ≤ g → g < hi → ¬ P g) : MLeft w' mv lo hi ms i := fun hi => by
  obtain ⟨g, c, cur, h1, h2, h3, h4, h5⟩ := h hi
  exact ⟨g, c, cur, h1, h2, h3, h4.mono hu (hP g h2 h3), h5⟩
theorem MLeft.set {w : World} {lo hi i g c : Nat} {ms : List Mon} (h : MLeft w (.slice (some ⟨g, 0, none⟩) ms.length c) lo hi ms i) (hi' : i < ms.length) (u0 u1 : Value) :
    MLeft ((w.setCell ⟨g, i * 3, none⟩ u0).setCell ⟨g, i * 3 + 1, none⟩ u1) (.slice (some ⟨g, 0, none⟩) ms.length c) lo hi ms (i + 1) := by
  obtain ⟨g', c', cur, h1, h2, h3, h4, h5⟩ := h hi'
  simp only [Value.slice.injEq, Option.some.injEq, Addr.mk.injEq] at h1
  obtain ⟨⟨rfl, _⟩, _, rfl⟩ := h1
  intro _
  refine ⟨g, c, _, rfl, h2, h3, (h4.set _ _).set _ _, fun j hj hjl => ?_⟩
  obtain ⟨k0, k1, k2⟩ := h5 j (by omega) hjl
  refine ⟨?_, ?_, ?_⟩
  · rw [Array.getElem?_setIfInBounds_ne (by omega), Array.getElem?_setIfInBounds_ne (by omega)]; exact k0
  · rw [Array.getElem?_setIfInBounds_ne (by omega), Array.getElem?_setIfInBounds_ne (by omega)]; exact k1
  · rw [Array.getElem?_setIfInBounds_ne (by omega), Array.getElem?_setIfInBounds_ne (by omega)]; exact k2

theorem rs_two {w : World} {B B' : Nat} {vx vs : Value} {xs : List Int} (hx : IR w B vx xs) (hs : IR w B' vs xs) (hxs : ∀ g, vx.ownBlock = some g → g < B') :
    Rs (w.alloc (.cells #[vx, vs] 25)) 1 w.heap.size 2 (w.alloc (.cells #[vx, vs] 25)).heap.size (fun j => if j = 0 then vx else vs) (fun _ => xs.length) := by
  have hu : Upd [] w (w.alloc (.cells #[vx, vs] 25)) := (Upd.refl [] w).alloc _
  have hC := Cl.new w #[vx, vs] 25 _ rfl
  refine ⟨Nat.le_refl _, by simp, fun j hj => ?_, fun j hj => ?_, fun j g hj hg => ?_, fun i j g hi hj hij h1 h2 => ?_⟩
  · rw [hC.cell]
    match j, hj with
    | 0, _ => rfl
    | 1, _ => rfl
  · match j, hj with
    | 0, _ => exact (hx.upd hu).rowG
    | 1, _ => exact (hs.upd hu).rowG
  · match j, hj, hg with
    | 0, _, hg => have := (hx.own hg).2; simp; omega
    | 1, _, hg => have := (hs.own hg).2; simp; omega
  · rcases (by omega : (i = 0 ∧ j = 1) ∨ (i = 1 ∧ j = 0)) with ⟨rfl, rfl⟩ | ⟨rfl, rfl⟩
    · have h3 := hxs g h1
      have h4 := (hs.own h2).1
      omega
    · have h3 := hxs g h2
      have h4 := (hs.own h1).1
      omega

set_option maxHeartbeats 8000000 in
set_option maxRecDepth 100000 in
theorem Apart_walk (w : World) (a : Option Addr) (n0 c0 : Nat) (k : Int) (hn0 : n0 ≤ c0) (hcm : c0 ≤ 9223372036854775807) (hop : Steps w a n0) (hk : I64 k) : Calls Tryz.prog 3 #[.slice a n0 c0, .int .i64 k] w fun e w' => e = .returned (.bool true) ∧ Upd [] w w' := by
  have HN : Hid (n0 ≤ c0 ∧ c0 ≤ 9223372036854775807 ∧ Steps w a n0) := ⟨hn0, hcm, hop⟩
  have HK : Hid (I64 k) := hk
  clear hop hn0 hcm hk
  go_enter Tryz.func3, Tryz.ntmps3
  go_upto_if 16 with fail
  go_cut [0] (fun s0 wx => s0 = .slice a (min n0 80) c0 ∧ wx = w)
  case first =>
    by_cases h80 : n0 ≤ 80
    · have hd : decide ((80 : Int) < (n0 : Int)) = false := decide_eq_false (by omega)
      have hm : min n0 80 = n0 := by omega
      go_wp2_with fail
      go_meet
      case rel => exact ⟨by rw [hm], rfl⟩
    · have hd : decide ((80 : Int) < (n0 : Int)) = true := decide_eq_true (by omega)
      have hm : min n0 80 = 80 := by omega
      have hc : 80 ≤ c0 := by have := HN.out.1; omega
      obtain ⟨gl, ol, _, _, _, _, hae, _⟩ := HN.out.2.2 0 (by omega)
      subst hae
      go_wp2_with fail
      go_meet
      case rel => exact ⟨by rw [hm], rfl⟩
  case rest =>
    obtain ⟨rfl, hw⟩ := hcut
    rw [hw]
    clear hw
    obtain ⟨m, hm⟩ : ∃ m, m = min n0 80 := ⟨_, rfl⟩
    rw [← hm]
    have HM : Hid (m ≤ 80 ∧ Steps w a m) := ⟨by omega, HN.out.2.2.le (by omega)⟩
    clear hm HN
    go_wp2_with fail
    refine Calls.mono (made_any w a m c0 HM.out.1 HM.out.2) ?_
    rintro e w2 ⟨l, n, L, M, rfl, hn200, o⟩
    have O2 : Hid (Ow w w2 l n L M) := o
    clear o HM
    go_wp2_with fail
    refine Calls.mono (ow_few O2.out (by omega) HK.out) ?_
    rintro e w3 ⟨vx, xs, rfl, hx, hx1, hx2, hxn, hu3⟩
    have H3 : Hid (IR w3 w2.heap.size vx xs ∧ xs.Pairwise (· < ·) ∧ (∀ y, y ∈ xs ↔ L k y = true) ∧ Upd [] w2 w3) := ⟨hx, hx1, hx2, hu3⟩
    clear hx hx1 hx2 hu3
    go_wp2_with fail
    refine Calls.mono (ow_of (O2.out.upd H3.out.2.2.2) (by omega) HK.out) ?_
    rintro e w4 ⟨vy, ys, rfl, hy, hy1, hy2, hu4⟩
    obtain rfl : ys = xs := sorted_one hy1 H3.out.2.1 (fun x => by rw [hy2, H3.out.2.2.1])
    have H4 : Hid (IR w4 w3.heap.size vy ys ∧ Upd [] w3 w4) := ⟨hy, hu4⟩
    clear hy hy1 hy2 hu4
    go_wp2_with fail
    refine Calls.mono (ow_monitors ((O2.out.upd H3.out.2.2.2).upd H4.out.2) (by omega)) ?_
    rintro e w5 ⟨vm, ms, rfl, hm, hm1, hu5⟩
    have H5 : Hid (MR w5 w4.heap.size vm ms ∧ MonsOf M ms ∧ Upd [] w4 w5) := ⟨hm, hm1, hu5⟩
    clear hm hm1 hu5
    go_wp2_with fail
    refine Calls.mono (ow_monitors (((O2.out.upd H3.out.2.2.2).upd H4.out.2).upd H5.out.2.2) (by omega)) ?_
    rintro e w6 ⟨vn, ns, rfl, hm, hm1, hu6⟩
    obtain rfl : ns = ms := mons_one hm1.1 H5.out.2.1.1 (fun ⟨r, a, b⟩ => by rw [hm1.2, H5.out.2.1.2])
    have H6 : Hid (MR w6 w5.heap.size vn ns ∧ Upd [] w5 w6) := ⟨hm, hu6⟩
    clear hm hm1 hu6
    obtain ⟨pm, cm, hvm⟩ := H5.out.1.form
    subst hvm
    obtain ⟨pn, cn, hvn⟩ := H6.out.1.form
    subst hvn
    obtain ⟨px, cx, hvx⟩ := H3.out.1.form
    subst hvx
    obtain ⟨py, cy, hvy⟩ := H4.out.1.form
    subst hvy
    have hml : ns.length ≤ 9223372036854775807 := by have := H5.out.1.le; unfold maxLen at this; omega
    have hyl : ys.length ≤ 9223372036854775807 := by have := H4.out.1.le; unfold maxLen at this; omega
    go_wp2_with fail
    refine Calls.mono (sameInts_any w6 _ _ _ _ _ _ (H3.out.1.upd ((H4.out.2.trans H5.out.2.2).trans H6.out.2)) (H4.out.1.upd (H5.out.2.2.trans H6.out.2))) ?_
    rintro e w7 ⟨he, hu7⟩
    rw [show (ys == ys) = true by simp] at he
    subst he
    have U7 : Hid (Upd [] w6 w7) := hu7
    clear hu7
    go_wp2_with fail
    refine Calls.mono (ow_of (((((O2.out.upd H3.out.2.2.2).upd H4.out.2).upd H5.out.2.2).upd H6.out.2).upd U7.out) (by omega) HK.out) ?_
    rintro e w8 ⟨vs, ss, rfl, hs, hs1, hs2, hu8⟩
    obtain rfl : ss = ys := sorted_one hs1 H3.out.2.1 (fun x => by rw [hs2, H3.out.2.2.1])
    have H8 : Hid (IR w8 w7.heap.size vs ss ∧ Upd [] w7 w8) := ⟨hs, hu8⟩
    clear hs hs1 hs2 hu8
    obtain ⟨ps, cs, hvs⟩ := H8.out.1.form
    subst hvs
    have hR := rs_two (H3.out.1.upd ((((H4.out.2.trans H5.out.2.2).trans H6.out.2).trans U7.out).trans H8.out.2)) H8.out.1 (fun g hg => Nat.lt_of_lt_of_le (H3.out.1.own hg).2 (Nat.le_trans H4.out.2.size (Nat.le_trans H5.out.2.2.size (Nat.le_trans H6.out.2.size U7.out.size))))
    obtain ⟨w9, hw9⟩ : ∃ w9, w9 = w8.alloc (.cells #[.slice px ss.length cx, .slice ps ss.length cs] 25) := ⟨_, rfl⟩
    rw [← hw9] at hR
    have H9 : Hid (Rs w9 1 w8.heap.size 2 w9.heap.size (fun j => if j = 0 then .slice px ss.length cx else .slice ps ss.length cs) (fun _ => ss.length) ∧ Upd [] w8 w9) := ⟨hR, by rw [hw9]; exact (Upd.refl [] w8).alloc _⟩
    have HW9 : Hid (w9 = w8.alloc (.cells #[.slice px ss.length cx, .slice ps ss.length cs] 25)) := hw9
    clear hR hw9
    go_wp2_with fail
    rw [← HW9.out]
    refine Calls.mono (ApartInts_in w9 w8.heap.size 2 2 _ _ H9.out.1 (by omega) (by omega) (fun _ _ => by omega)) ?_
    rintro e w10 ⟨rfl, hu10⟩
    have H10 : Hid (IR w10 w3.heap.size (.slice py ss.length cy) ss ∧ MLeft w10 (.slice pm ns.length cm) w4.heap.size w5.heap.size ns 0 ∧ MR w10 w5.heap.size (.slice pn ns.length cn) ns ∧ Upd [] w2 w10 ∧ w6.heap.size ≤ w10.heap.size) := by
      have s3 := H3.out.2.2.2.size
      have s4 := H4.out.2.size
      have s5 := H5.out.2.2.size
      have s6 := H6.out.2.size
      have s7 := U7.out.size
      have s8 := H8.out.2.size
      have s9 := H9.out.2.size
      have hP : ∀ g, (∃ j, j < 2 ∧ (if j = 0 then Value.slice px ss.length cx else .slice ps ss.length cs).ownBlock = some g) → (w2.heap.size ≤ g ∧ g < w3.heap.size) ∨ w7.heap.size ≤ g := fun g ⟨j, hj, hg⟩ => by
        rcases (by omega : j = 0 ∨ j = 1) with rfl | rfl
        · exact Or.inl (H3.out.1.own hg)
        · exact Or.inr (H8.out.1.own hg).1
      have u69 : Upd [] w6 w9 := (U7.out.trans H8.out.2).trans H9.out.2
      refine ⟨IR.upP (H4.out.1.upd ((H5.out.2.2.trans H6.out.2).trans u69)) hu10 (fun g hg hp => ?_), ((H5.out.1.left).mono ((H6.out.2.trans u69).toN (P := fun _ => False)) (fun _ _ _ h => h)).mono hu10 (fun g h1 h2 hp => ?_), MR.upP (H6.out.1.upd u69) hu10 (fun g hg hp => ?_), ?_, ?_⟩
      · have := hP g hp
        have := H4.out.1.own hg
        omega
      · have := hP g hp
        omega
      · have := hP g hp
        have := H6.out.1.own hg
        omega
      · refine (((((((H3.out.2.2.2.trans H4.out.2).trans H5.out.2.2).trans H6.out.2).trans u69).toN).trans hu10).upd (fun g hp => ?_))
        have := hP g hp
        omega
      · have := hu10.size
        omega
    clear hu10 H9 HW9 H8 U7
    go_wp2_with fail
    have hz : ns.length ≤ 9223372036854775807 := hml
    go_loopw [10] (fun s10 wr => ∃ i : Nat, i ≤ ns.length ∧ s10 = .int .i64 (i : Nat) ∧ IR wr w3.heap.size (.slice py ss.length cy) ss ∧ MLeft wr (.slice pm ns.length cm) w4.heap.size w5.heap.size ns i ∧ MR wr w5.heap.size (.slice pn ns.length cn) ns ∧ Upd [] w2 wr ∧ w6.heap.size ≤ wr.heap.size) (fun s10 _ => ns.length - (intOf s10).toNat)
    case atStart => exact ⟨0, Nat.zero_le _, rfl, H10.out⟩
    case round =>
      obtain ⟨i, hi, rfl, hy, hm, hn, hu, hsz⟩ := hrel
      have HR : Hid (IR wr w3.heap.size (.slice py ss.length cy) ss ∧ MLeft wr (.slice pm ns.length cm) w4.heap.size w5.heap.size ns i ∧ MR wr w5.heap.size (.slice pn ns.length cn) ns ∧ Upd [] w2 wr ∧ w6.heap.size ≤ wr.heap.size) := ⟨hy, hm, hn, hu, hsz⟩
      clear hy hm hn hu hsz H10
      by_cases hlt : i < ns.length
      · have i1 : (i : Int) < (ns.length : Int) := by omega
        obtain ⟨g, c, cur, hmv, hlo, hhi, hC, hcells⟩ := HR.out.2.1 hlt
        simp only [Value.slice.injEq] at hmv
        obtain ⟨rfl, _, rfl⟩ := hmv
        obtain ⟨g2, c2, hnv, n0, n1, n2⟩ := HR.out.2.2.1.cells hlt
        simp only [Value.slice.injEq] at hnv
        obtain ⟨rfl, _, rfl⟩ := hnv
        obtain ⟨k0, k1, k2⟩ := hcells i (Nat.le_refl _) hlt
        obtain ⟨r, hr⟩ : ∃ r, r = ns[i].1 := ⟨_, rfl⟩
        obtain ⟨x, hx⟩ : ∃ x, x = ns[i].2.1 := ⟨_, rfl⟩
        obtain ⟨y, hy⟩ : ∃ y, y = ns[i].2.2 := ⟨_, rfl⟩
        rw [← hr] at k0 n0
        rw [← hx] at k1 n1
        rw [← hy] at k2 n2
        have m0 : wr.cell? ⟨g, i * 3, none⟩ = some (.int .i64 r) := (hC.cell _).trans k0
        have m1 : wr.cell? ⟨g, i * 3 + 1, none⟩ = some (.int .i64 x) := (hC.cell _).trans k1
        have m2 : wr.cell? ⟨g, i * 3 + 2, none⟩ = some (.int .i64 y) := (hC.cell _).trans k2
        have f0 : wr.frozen? ⟨g, i * 3, none⟩ = false := hC.free _
        have f1 : wr.frozen? ⟨g, i * 3 + 1, none⟩ = false := hC.free _
        have hq := neq_mon wr r x y
        have he := eqIn_same wr r x y
        have hgd := guard_mon
        have HLo : Hid (w4.heap.size ≤ g ∧ g < w5.heap.size) := ⟨hlo, hhi⟩
        clear hcells k0 k1 k2 hr hx hy hC hlo hhi
        go_upto_region 11 with fail
        go_region
        go_upto_region 13 with fail
        go_region
        obtain ⟨W, hW⟩ : ∃ W, W = ((wr.setCell ⟨g, i * 3, none⟩ (.int .i64 (wrap64 (r + 1)))).setCell ⟨g, i * 3 + 1, none⟩ (.int .i64 (wrap64 (x + 1)))).drew.drew := ⟨_, rfl⟩
        have hUW : Upd [g] wr W := by rw [hW]; exact ((((Upd.refl [g] wr).setCell (Or.inr (by simp)) _).setCell (Or.inr (by simp)) _).drew).drew
        have hML : MLeft W (.slice (some ⟨g, 0, none⟩) ns.length cm) w4.heap.size w5.heap.size ns (i + 1) := by rw [hW]; exact MLeft.set HR.out.2.1 hlt _ _
        rw [← hW]
        have HR2 : Hid (IR W w3.heap.size (.slice py ss.length cy) ss ∧ MLeft W (.slice (some ⟨g, 0, none⟩) ns.length cm) w4.heap.size w5.heap.size ns (i + 1) ∧ MR W w5.heap.size (.slice (some ⟨g2, 0, none⟩) ns.length cn) ns ∧ Upd [] w2 W ∧ w6.heap.size ≤ W.heap.size) := by
          refine ⟨HR.out.1.updS hUW (fun z hz hm => ?_), hML, HR.out.2.2.1.upP hUW.toP (fun z hz hm => ?_), HR.out.2.2.2.1.then hUW (fun z hz => ?_), Nat.le_trans HR.out.2.2.2.2 hUW.size⟩
          · simp only [List.mem_singleton] at hm
            have := (H4.out.1.own hz).2
            have := HLo.out.1
            omega
          · simp only [List.mem_singleton] at hm
            have := (HR.out.2.2.1.own hz).1
            have := HLo.out.2
            omega
          · simp only [List.mem_singleton] at hz
            have := HLo.out.1
            have := H3.out.2.2.2.size
            have := H4.out.2.size
            omega
        clear hW hUW hML HR HLo m0 m1 m2 n0 n1 n2 f0 f1 hq he
        go_wp2_with fail
        go_roundw
        case rel => exact ⟨i + 1, by omega, by go_num, HR2.out⟩
        case measure => simp [intOf]; omega
      · have i1 : decide ((i : Int) < (ns.length : Int)) = false := by simp; omega
        have HE : Hid (IR wr w3.heap.size (.slice py ss.length cy) ss ∧ MR wr w5.heap.size (.slice pn ns.length cn) ns ∧ Upd [] w2 wr) := ⟨HR.out.1, HR.out.2.2.1, HR.out.2.2.2.1⟩
        clear HR
        go_wp2_with fail
        refine Calls.mono (ow_of (O2.out.upd HE.out.2.2) (by omega) HK.out) ?_
        rintro e w11 ⟨vz, zs, rfl, hs, hs1, hs2, hu11⟩
        obtain rfl : zs = ss := sorted_one hs1 H3.out.2.1 (fun x => by rw [hs2, H3.out.2.2.1])
        have H11 : Hid (IR w11 wr.heap.size vz zs ∧ Upd [] wr w11) := ⟨hs, hu11⟩
        clear hs hs1 hs2 hu11
        go_wp2_with fail
        refine Calls.mono (ow_monitors ((O2.out.upd HE.out.2.2).upd H11.out.2) (by omega)) ?_
        rintro e w12 ⟨vo, os, rfl, hm, hm1, hu12⟩
        obtain rfl : os = ns := mons_one hm1.1 H5.out.2.1.1 (fun ⟨r, a, b⟩ => by rw [hm1.2, H5.out.2.1.2])
        have H12 : Hid (MR w12 w11.heap.size vo os ∧ Upd [] w11 w12) := ⟨hm, hu12⟩
        clear hm hm1 hu12
        obtain ⟨pz, cz, hvz⟩ := H11.out.1.form
        subst hvz
        obtain ⟨po, co, hvo⟩ := H12.out.1.form
        subst hvo
        go_wp2_with fail
        refine Calls.mono (sameInts_any w12 _ _ _ _ _ _ (HE.out.1.upd (H11.out.2.trans H12.out.2)) (H11.out.1.upd H12.out.2)) ?_
        rintro e w13 ⟨he, hu13⟩
        rw [show (zs == zs) = true by simp] at he
        subst he
        have H13 : Hid (MR w13 w5.heap.size (.slice pn os.length cn) os ∧ MR w13 w11.heap.size (.slice po os.length co) os ∧ Upd [] w2 w13) := ⟨HE.out.2.1.upd ((H11.out.2.trans H12.out.2).trans hu13), H12.out.1.upd hu13, HE.out.2.2.trans ((H11.out.2.trans H12.out.2).trans hu13)⟩
        clear hu13 HE H11 H12
        go_wp2_with fail
        go_loopw [13] (fun s13 wr => ∃ i : Nat, i ≤ os.length ∧ s13 = .int .i64 (i : Nat) ∧ MR wr w5.heap.size (.slice pn os.length cn) os ∧ MR wr w11.heap.size (.slice po os.length co) os ∧ Upd [] w2 wr) (fun s13 _ => os.length - (intOf s13).toNat)
        case atStart => exact ⟨0, Nat.zero_le _, rfl, H13.out⟩
        case round =>
          obtain ⟨i, hi, rfl, hm, hn, hu⟩ := hrel
          have HR : Hid (MR wr w5.heap.size (.slice pn os.length cn) os ∧ MR wr w11.heap.size (.slice po os.length co) os ∧ Upd [] w2 wr) := ⟨hm, hn, hu⟩
          clear hm hn hu H13 i1
          by_cases hlt : i < os.length
          · have i1 : (i : Int) < (os.length : Int) := by omega
            obtain ⟨g, c, hmv, m0, m1, m2⟩ := HR.out.1.cells hlt
            simp only [Value.slice.injEq] at hmv
            obtain ⟨rfl, _, rfl⟩ := hmv
            obtain ⟨g2, c2, hnv, n0, n1, n2⟩ := HR.out.2.1.cells hlt
            simp only [Value.slice.injEq] at hnv
            obtain ⟨rfl, _, rfl⟩ := hnv
            obtain ⟨r, hr⟩ : ∃ r, r = os[i].1 := ⟨_, rfl⟩
            obtain ⟨x, hx⟩ : ∃ x, x = os[i].2.1 := ⟨_, rfl⟩
            obtain ⟨y, hy⟩ : ∃ y, y = os[i].2.2 := ⟨_, rfl⟩
            rw [← hr] at m0 n0
            rw [← hx] at m1 n1
            rw [← hy] at m2 n2
            have hq := neq_mon wr r x y
            have he := eqIn_same wr r x y
            have hgd := guard_mon
            clear hr hx hy
            go_upto_region 20 with fail
            go_region
            go_wp2_with fail
            go_roundw
            case rel => exact ⟨i + 1, by omega, by go_num, HR.out.1.upd (Upd.refl [] wr).drew, HR.out.2.1.upd (Upd.refl [] wr).drew, HR.out.2.2.trans (Upd.refl [] wr).drew⟩
            case measure => simp [intOf]; omega
          · have i1 : decide ((i : Int) < (os.length : Int)) = false := by simp; omega
            have UE : Hid (Upd [] w wr) := O2.out.up.trans HR.out.2.2
            clear HR
            go_wp2_with fail
            refine Calls.mono (awake_any wr) ?_
            rintro e wl ⟨rfl, hul⟩
            have UF : Hid (Upd [] w wl) := UE.out.trans hul
            clear hul
            go_wp2_with fail
            go_ret
            exact ⟨rfl, UF.out⟩

end Go.Proofs.YtofcniodobjopaaGreat
