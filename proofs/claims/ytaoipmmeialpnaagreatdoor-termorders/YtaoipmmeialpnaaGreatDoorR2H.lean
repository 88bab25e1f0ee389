/- order, Compare and Same of the reference of term, by their contracts. -/
import Derived.Test.YtaoipmmeialpnaaGreatDoorR2G
namespace Go.Proofs.YtaoipmmeialpnaaGreatDoor
open Go.RowKit

theorem lists2_in (d : Nat) (ih : OrdS2 d) (num0 : Int) (neg0 : Bool) (a0 ai0 at0 : Option Addr) (L0 : List Nat) (c0 ci0 ct0 : Nat) (s0 : ByteArray) (I0 T0 : List Tm) (num1 : Int) (neg1 : Bool) (a1 ai1 at1 : Option Addr) (L1 : List Nat) (c1 ci1 ct1 : Nat) (s1 : ByteArray) (I1 T1 : List Tm) (w : World) (hI0 : RowAt (In w d) w ai0 I0) (hT0 : RowAt (In w d) w at0 T0) (hI1 : RowAt (In w d) w ai1 I1) (hT1 : RowAt (In w d) w at1 T1)
    (oI0 : okR I0 = true) (oI1 : okR I1 = true) (oT0 : okR T0 = true) (oT1 : okR T1 = true) (t0 : T0 = [] ∨ ∃ u, T0 = [u] ∧ u.kd ≠ 7) (t1 : T1 = [] ∨ ∃ u, T1 = [u] ∧ u.kd ≠ 7)
    (zI0 : tszs I0 ≤ 1353245080330) (zI1 : tszs I1 ≤ 1353245080330) (zT0 : tszs T0 ≤ 1353245080330) (zT1 : tszs T1 ≤ 1353245080330) :
    Calls Tryz.prog 125 #[.agg #[.int .u8 7, .bool neg0, .slice a0 L0.length c0, .string s0, .int .i64 num0, .slice ai0 I0.length ci0, .slice at0 T0.length ct0], .agg #[.int .u8 7, .bool neg1, .slice a1 L1.length c1, .string s1, .int .i64 num1, .slice ai1 I1.length ci1, .slice at1 T1.length ct1]] w fun e w' => e = .returned (.int .i64 (th (ordR I0 I1) (ordE T0 T1))) ∧ Upd [] w w' := by
  have open1 : ∀ (at' : Option Addr) (u : Tm), RowAt (In w d) w at' [u] → ∃ b o q0 q1 q2 q3 q4 q5 q6, at' = some ⟨b, o, none⟩ ∧ b < w.heap.size ∧ (∀ j, j < 7 → w.cell? ⟨b, o + j, none⟩ = [q0, q1, q2, q3, q4, q5, q6][j]?) ∧ In w d [q0, q1, q2, q3, q4, q5, q6] u := fun at' u h => by
    rcases h with h | ⟨b, o, rfl, hb, hc⟩
    · cases h
    obtain ⟨cs, k1, k2, k3⟩ := hc 0 (by simp)
    obtain ⟨q0, q1, q2, q3, q4, q5, q6, rfl⟩ := list7 k1
    exact ⟨b, o, q0, q1, q2, q3, q4, q5, q6, rfl, hb, fun j hj => by have := k2 j hj; rwa [Nat.zero_mul, Nat.zero_add] at this, k3⟩
  have hpos : ∀ {u : Tm} {cs : List Value}, In w d cs u → ∃ e, d = e + 1 := fun {u cs} h => by
    cases d with
    | zero => exact h.elim
    | succ e => exact ⟨e, rfl⟩
  by_cases hb : T0 = [] ∧ T1 = []
  · obtain ⟨rfl, rfl⟩ := hb
    exact lists2_00 d ih num0 neg0 a0 ai0 at0 L0 c0 ci0 ct0 s0 I0 num1 neg1 a1 ai1 at1 L1 c1 ci1 ct1 s1 I1 w hI0 hI1 oI0 oI1 zI0 zI1 _ rfl
  have hE := ordE_tail T0 T1 t0 t1 hb
  rw [hE]
  have k0 := head_ok T0 oT0
  have k1 := head_ok T1 oT1
  have s0' := head_sz T0 zT0
  have s1' := head_sz T1 zT1
  rcases t0 with rfl | ⟨u, rfl, hu⟩
  · rcases t1 with rfl | ⟨v, rfl, hv⟩
    · exact absurd ⟨rfl, rfl⟩ hb
    · obtain ⟨b1, o1, p0, p1, p2, p3, p4, p5, p6, rfl, hb1, hc1, hin1⟩ := open1 at1 v hT1
      obtain ⟨e, rfl⟩ := hpos hin1
      exact lists2_01 _ ih num0 neg0 a0 ai0 at0 L0 c0 ci0 ct0 s0 I0 num1 neg1 a1 ai1 b1 o1 L1 c1 ci1 ct1 s1 I1 w hI0 hI1 oI0 oI1 zI0 zI1 _ p0 p1 p2 p3 p4 p5 p6 hb1 hc1 hin1.one (fun W hU => ih W nilC _ _ _ (nil_in W e) (In.mono hU _ _ _ hin1) k0 k1 s0' s1')
  · obtain ⟨b0, o0, q0, q1, q2, q3, q4, q5, q6, rfl, hb0, hc0, hin0⟩ := open1 at0 u hT0
    obtain ⟨e, rfl⟩ := hpos hin0
    rcases t1 with rfl | ⟨v, rfl, hv⟩
    · exact lists2_10 _ ih num0 neg0 a0 ai0 b0 o0 L0 c0 ci0 ct0 s0 I0 num1 neg1 a1 ai1 at1 L1 c1 ci1 ct1 s1 I1 w hI0 hI1 oI0 oI1 zI0 zI1 _ q0 q1 q2 q3 q4 q5 q6 hb0 hc0 hin0.one (fun W hU => ih W _ nilC _ _ (In.mono hU _ _ _ hin0) (nil_in W e) k0 k1 s0' s1')
    · obtain ⟨b1, o1, p0, p1, p2, p3, p4, p5, p6, rfl, hb1, hc1, hin1⟩ := open1 at1 v hT1
      exact lists2_11 _ ih num0 neg0 a0 ai0 b0 o0 L0 c0 ci0 ct0 s0 I0 num1 neg1 a1 ai1 b1 o1 L1 c1 ci1 ct1 s1 I1 w hI0 hI1 oI0 oI1 zI0 zI1 _ q0 q1 q2 q3 q4 q5 q6 hb0 hc0 hin0.one p0 p1 p2 p3 p4 p5 p6 hb1 hc1 hin1.one (fun W hU => ih W _ _ _ _ (In.mono hU _ _ _ hin0) (In.mono hU _ _ _ hin1) k0 k1 s0' s1')

theorem okF_small {k num : Int} {neg : Bool} {L : List Nat} {s : ByteArray} {n : Nat} {T : List Tm} (h : okF k num neg L s n T = true) : 0 ≤ k ∧ k ≤ 7 := by
  by_cases h1 : k = 1
  · omega
  rw [okF_not1 num neg L s n T h1] at h
  by_cases h2 : k = 2
  · omega
  by_cases h3 : k = 3 ∨ k = 5
  · omega
  by_cases h4 : k = 4
  · omega
  by_cases h6 : k = 6
  · omega
  by_cases h7 : k = 7
  · omega
  simp [h2, h3, h4, h6, h7] at h

set_option maxHeartbeats 8000000 in
set_option maxRecDepth 100000 in
theorem Ord2_step (d : Nat) (ih : OrdS2 d) : OrdS2 (d + 1) := by
  intro w cs cs' t u h h' ok ok' hs hs'
  obtain ⟨k, num0, neg0, L0, s0, I0, T0⟩ := t
  obtain ⟨k', num1, neg1, L1, s1, I1, T1⟩ := u
  obtain ⟨a0, ai0, at0, c0, ci0, ct0, rfl, hA0, hD0, hI0, hT0⟩ := h
  obtain ⟨a1, ai1, at1, c1, ci1, ct1, rfl, hA1, hD1, hI1, hT1⟩ := h'
  rw [okT', Bool.and_eq_true, Bool.and_eq_true] at ok ok'
  obtain ⟨⟨f0, oI0⟩, oT0⟩ := ok
  obtain ⟨⟨f1, oI1⟩, oT1⟩ := ok'
  simp only [tsz] at hs hs'
  have zI0 : tszs I0 ≤ 1353245080330 := by omega
  have zT0 : tszs T0 ≤ 1353245080330 := by omega
  have zI1 : tszs I1 ≤ 1353245080330 := by omega
  have zT1 : tszs T1 ≤ 1353245080330 := by omega
  have hl2 : I0.length ≤ 1353245080330 := Nat.le_trans (tszs_len I0) zI0
  have hl3 : I1.length ≤ 1353245080330 := Nat.le_trans (tszs_len I1) zI1
  have tl0 := okF_tail2 f0
  have tl1 := okF_tail2 f1
  have hU0 : Upd [] w ((w.alloc (.cells #[.int .u8 k, .bool neg0, .slice a0 L0.length c0, .string s0, .int .i64 num0, .slice ai0 I0.length ci0, .slice at0 T0.length ct0] 26)).alloc (.cells #[.int .u8 k', .bool neg1, .slice a1 L1.length c1, .string s1, .int .i64 num1, .slice ai1 I1.length ci1, .slice at1 T1.length ct1] 26)) := ((Upd.refl [] w).alloc _).alloc _
  have tb0 : Tb ((w.alloc (.cells #[.int .u8 k, .bool neg0, .slice a0 L0.length c0, .string s0, .int .i64 num0, .slice ai0 I0.length ci0, .slice at0 T0.length ct0] 26)).alloc (.cells #[.int .u8 k', .bool neg1, .slice a1 L1.length c1, .string s1, .int .i64 num1, .slice ai1 I1.length ci1, .slice at1 T1.length ct1] 26)) w.heap.size #[.int .u8 k, .bool neg0, .slice a0 L0.length c0, .string s0, .int .i64 num0, .slice ai0 I0.length ci0, .slice at0 T0.length ct0] := (Tb.new _ _ _ rfl).old _
  have tb1 : Tb ((w.alloc (.cells #[.int .u8 k, .bool neg0, .slice a0 L0.length c0, .string s0, .int .i64 num0, .slice ai0 I0.length ci0, .slice at0 T0.length ct0] 26)).alloc (.cells #[.int .u8 k', .bool neg1, .slice a1 L1.length c1, .string s1, .int .i64 num1, .slice ai1 I1.length ci1, .slice at1 T1.length ct1] 26)) (w.heap.size + 1) #[.int .u8 k', .bool neg1, .slice a1 L1.length c1, .string s1, .int .i64 num1, .slice ai1 I1.length ci1, .slice at1 T1.length ct1] := Tb.new _ _ _ (by simp)
  by_cases hk : k = k'
  · subst hk
    have hkk : (k != k) = false := by simp
    by_cases h1 : k = 1
    · subst h1
      have e : ordT (.mk 1 num0 neg0 L0 s0 I0 T0) (.mk 1 num1 neg1 L1 s1 I1 T1) = cmpZ (zv neg0 L0) (zv neg1 L1) := by rw [ordT, if_pos rfl, if_pos rfl]
      rw [e]
      obtain ⟨p1, rfl, rfl, p4, rfl⟩ := okF_int f0
      obtain ⟨r1, rfl, rfl, r4, rfl⟩ := okF_int f1
      have p5 := List.eq_nil_of_length_eq_zero p4
      have r5 := List.eq_nil_of_length_eq_zero r4
      subst p5 r5
      have HC : Hid (∀ W, Upd [] w W → _) := fun W hU => rCompare_any a0 ai0 at0 a1 ai1 at1 c0 ci0 ct0 c1 ci1 ct1 neg0 neg1 L0 L1 _ _ W (TI.of p1 hD0 (hA0.mono hU)) (TI.of r1 hD1 (hA1.mono hU))
      clear e p1 r1 p4 r4 hA0 hA1 hD0 hD1 hI0 hI1 hT0 hT1 f0 f1 oI0 oT0 oI1 oT1 tl0 tl1 ih hs hs'
      simp only [List.length_nil] at tb0 tb1 hU0
      have HU0 : Hid _ := hU0
      clear hU0
      go_enter Tryz.func65, Tryz.ntmps65
      go_wp2_with (first | (refine load_T _ rfl _ rfl _ _ rfl tb0 rfl ?_) | (refine load_T _ rfl _ rfl _ _ rfl tb1 rfl ?_) | fail)
      refine Calls.mono (HC.out _ HU0.out) ?_
      rintro e w2 ⟨rfl, hU2⟩
      go_wp2
      go_ret
      exact ⟨rfl, HU0.out.trans hU2⟩
    · have k1 : (k == 1) = false := by simp [h1]
      by_cases h2 : k = 2
      · subst h2
        have e : ordT (.mk 2 num0 neg0 L0 s0 I0 T0) (.mk 2 num1 neg1 L1 s1 I1 T1) = lexZ (bz s0) (bz s1) := by rw [ordT, if_pos rfl, if_neg (by decide), if_pos rfl]
        rw [e]
        have HC : Hid (∀ W, _) := fun W => text2_any s0 s1 W
        have HU0 : Hid _ := hU0
        clear e hU0 hA0 hA1 hD0 hD1 hI0 hI1 hT0 hT1 f0 f1 oI0 oT0 oI1 oT1 tl0 tl1 ih hs hs' k1 h1 hkk
        go_enter Tryz.func65, Tryz.ntmps65
        go_wp2_with (first | (refine load_T _ rfl _ rfl _ _ rfl tb0 rfl ?_) | (refine load_T _ rfl _ rfl _ _ rfl tb1 rfl ?_) | fail)
        refine Calls.mono (HC.out _) ?_
        rintro e w2 ⟨rfl, rfl⟩
        go_wp2
        go_ret
        exact ⟨rfl, HU0.out⟩
      · have k2 : (k == 2) = false := by simp [h2]
        by_cases h7 : k = 7
        · subst h7
          have e : ordT (.mk 7 num0 neg0 L0 s0 I0 T0) (.mk 7 num1 neg1 L1 s1 I1 T1) = th (ordR I0 I1) (ordE T0 T1) := by rw [ordT, if_pos rfl, if_neg (by decide), if_neg (by decide), if_pos rfl]
          rw [e]
          have HC : Hid (∀ W, Upd [] w W → _) := fun W hU => lists2_in d ih num0 neg0 a0 ai0 at0 L0 c0 ci0 ct0 s0 I0 T0 num1 neg1 a1 ai1 at1 L1 c1 ci1 ct1 s1 I1 T1 W (hI0.imp hU (fun cs t h => In.mono hU d cs t h)) (hT0.imp hU (fun cs t h => In.mono hU d cs t h)) (hI1.imp hU (fun cs t h => In.mono hU d cs t h)) (hT1.imp hU (fun cs t h => In.mono hU d cs t h)) oI0 oI1 oT0 oT1 tl0 tl1 zI0 zI1 zT0 zT1
          have HU0 : Hid _ := hU0
          clear e hU0 hA0 hA1 hD0 hD1 hI0 hI1 hT0 hT1 f0 f1 oI0 oT0 oI1 oT1 tl0 tl1 ih hs hs' k1 h1 hkk k2 h2
          go_enter Tryz.func65, Tryz.ntmps65
          go_wp2_with (first | (refine load_T _ rfl _ rfl _ _ rfl tb0 rfl ?_) | (refine load_T _ rfl _ rfl _ _ rfl tb1 rfl ?_) | fail)
          refine Calls.mono (HC.out _ HU0.out) ?_
          rintro e w2 ⟨rfl, hU2⟩
          go_wp2
          go_ret
          exact ⟨rfl, HU0.out.trans hU2⟩
        · have k7 : (k == 7) = false := by simp [h7]
          have e : ordT (.mk k num0 neg0 L0 s0 I0 T0) (.mk k num1 neg1 L1 s1 I1 T1) = th (cmpZ num0 num1) (th (cmpZ I0.length I1.length) (ordR I0 I1)) := by rw [ordT, if_pos rfl, if_neg h1, if_neg h2, if_neg h7]
          rw [e]
          have HC : Hid (∀ W, Upd [] w W → Calls Tryz.prog 126 #[.slice ai0 I0.length ci0, .slice ai1 I1.length ci1] W fun e w' => e = .returned (.int .i64 (rwZ I0 I1)) ∧ Upd [] W w') := fun W hU => rows2_in d ih W ai0 ai1 ci0 ci1 I0 I1 (hI0.imp hU (fun cs t h => In.mono hU d cs t h)) (hI1.imp hU (fun cs t h => In.mono hU d cs t h)) oI0 oI1 zI0 zI1
          have HN : Hid (∀ W, Calls Tryz.prog 122 #[.int .i64 num0, .int .i64 num1] W fun e w' => e = .returned (.int .i64 (cmpZ num0 num1)) ∧ w' = W) := fun W => num2_any _ _ W
          have HM : Hid (∀ W, Calls Tryz.prog 122 #[.int .i64 (I0.length : Int), .int .i64 (I1.length : Int)] W fun e w' => e = .returned (.int .i64 (cmpZ I0.length I1.length)) ∧ w' = W) := fun W => num2_any _ _ W
          rw [ordR_rw]
          obtain ⟨x, hx⟩ : ∃ x, cmpZ num0 num1 = x := ⟨_, rfl⟩
          obtain ⟨y, hy⟩ : ∃ y, cmpZ (I0.length : Int) (I1.length : Int) = y := ⟨_, rfl⟩
          obtain ⟨z, hzz⟩ : ∃ z, rwZ I0 I1 = z := ⟨_, rfl⟩
          rw [hx] at HN ⊢
          rw [hy] at HM ⊢
          rw [hzz] at HC ⊢
          have HU0 : Hid _ := hU0
          clear e hU0 hA0 hA1 hD0 hD1 hI0 hI1 hT0 hT1 f0 f1 oI0 oT0 oI1 oT1 tl0 tl1 ih hs hs' h1 h2 h7 hx hy hzz
          by_cases hx0 : x = 0
          · have xb : (x == 0) = true := by simp [hx0]
            have HX0 : Hid (x = 0) := hx0
            clear hx0
            by_cases hy0 : y = 0
            · have yb : (y == 0) = true := by simp [hy0]
              have HY0 : Hid (y = 0) := hy0
              clear hy0
              go_enter Tryz.func65, Tryz.ntmps65
              go_wp2_with fail
              refine Calls.mono (HN.out _) ?_
              rintro e w2 ⟨rfl, rfl⟩
              go_wp2_with fail
              refine Calls.mono (HM.out _) ?_
              rintro e w2 ⟨rfl, rfl⟩
              go_wp2_with fail
              refine Calls.mono (HC.out _ HU0.out) ?_
              rintro e w2 ⟨rfl, hU2⟩
              go_wp2
              go_ret
              rw [HX0.out, HY0.out, th_z, th_z, th_right]
              exact ⟨rfl, HU0.out.trans hU2⟩
            · have yb : (y == 0) = false := by simp [hy0]
              have HY0 : Hid (¬ y = 0) := hy0
              clear hy0
              go_enter Tryz.func65, Tryz.ntmps65
              go_wp2_with fail
              refine Calls.mono (HN.out _) ?_
              rintro e w2 ⟨rfl, rfl⟩
              go_wp2_with fail
              refine Calls.mono (HM.out _) ?_
              rintro e w2 ⟨rfl, rfl⟩
              go_wp2
              go_ret
              rw [HX0.out, th_z]
              refine ⟨?_, HU0.out⟩
              unfold th
              rw [if_neg HY0.out]
              rfl
          · have xb : (x == 0) = false := by simp [hx0]
            have HX0 : Hid (¬ x = 0) := hx0
            clear hx0
            go_enter Tryz.func65, Tryz.ntmps65
            go_wp2_with fail
            refine Calls.mono (HN.out _) ?_
            rintro e w2 ⟨rfl, rfl⟩
            go_wp2
            go_ret
            refine ⟨?_, HU0.out⟩
            unfold th
            rw [if_neg HX0.out]
            rfl
  · have hkk : (k != k') = true := by simp [hk]
    have e : ordT (.mk k num0 neg0 L0 s0 I0 T0) (.mk k' num1 neg1 L1 s1 I1 T1) = cmpZ k k' := by rw [ordT, if_neg hk]
    rw [e]
    obtain ⟨b0, b1⟩ := okF_small f0
    obtain ⟨b2, b3⟩ := okF_small f1
    have HC : Hid (∀ W, _) := fun W => num2_any k k' W
    have v0 : IntKind.i64.wrap k = k := by rw [IntKind.wrap_i64]; omega
    have v1 : IntKind.i64.wrap k' = k' := by rw [IntKind.wrap_i64]; omega
    have v2 : wrap64 k = k := by unfold wrap64; omega
    have v3 : wrap64 k' = k' := by unfold wrap64; omega
    have HU0 : Hid _ := hU0
    clear e hU0 hA0 hA1 hD0 hD1 hI0 hI1 hT0 hT1 f0 f1 oI0 oT0 oI1 oT1 tl0 tl1 ih hs hs' hk
    go_enter Tryz.func65, Tryz.ntmps65
    go_wp2_with fail
    refine Calls.mono (HC.out _) ?_
    rintro e w2 ⟨rfl, rfl⟩
    go_wp2
    go_ret
    exact ⟨rfl, HU0.out⟩

theorem Ord2_all (d : Nat) : OrdS2 d := by
  induction d with
  | zero => intro w cs cs' t u h; exact h.elim
  | succ d ih => exact Ord2_step d ih

end Go.Proofs.YtaoipmmeialpnaaGreatDoor
