/- order, Compare, Same: by their contracts. -/
import Derived.Test.YtnpocmhaoaigfaaGreatDoorJAD
namespace Go.Proofs.YtnpocmhaoaigfaaGreatDoor
open Go.RowKit

theorem okF_int {num : Int} {neg : Bool} {L : List Nat} {s : ByteArray} {ni : Nat} {T : List Tm} (h : okF 1 num neg L s ni T = true) : okL neg L = true ∧ s = ⟨#[]⟩ ∧ num = 0 ∧ ni = 0 ∧ T = [] := by
  unfold okF at h
  rw [if_pos rfl, Bool.and_eq_true, decide_eq_true_eq] at h
  exact ⟨h.1, bz_empty h.2.1, h.2.2.1, h.2.2.2.1, List.eq_nil_of_length_eq_zero h.2.2.2.2⟩
theorem TI.of {w : World} {neg : Bool} {a : Option Addr} {L : List Nat} (h : okL neg L = true) (hd : Dig L) (hA : At w a L) : TI w neg a L (zv neg L) := by
  obtain ⟨h1, h2, h3⟩ := okL_top h
  have top : ∀ x, L.getLast? = some x → x ≠ 0 := fun x hx e => h1 (by rw [hx, e])
  refine ⟨⟨hd, ?_, top⟩, hA, h3, ?_⟩
  · unfold zv; split <;> omega
  · by_cases h0 : L = []
    · rw [h2 h0]; subst h0; rfl
    · have hp := val_pos_of_top h0 top
      unfold zv
      cases neg <;> simp <;> omega

set_option maxHeartbeats 8000000 in
set_option maxRecDepth 100000 in
theorem Ord_step (d : Nat) (ih : OrdSaid d) : OrdSaid (d + 1) := by
  intro w cs cs' t u h h' ok ok' hs hs'
  obtain ⟨k, num0, neg0, L0, s0, I0, T0⟩ := t
  obtain ⟨k', num1, neg1, L1, s1, I1, T1⟩ := u
  obtain ⟨a0, ai0, at0, c0, ci0, ct0, rfl, hA0, hD0, hI0, hT0⟩ := h
  obtain ⟨a1, ai1, at1, c1, ci1, ct1, rfl, hA1, hD1, hI1, hT1⟩ := h'
  rw [okT', Bool.and_eq_true, Bool.and_eq_true] at ok ok'
  obtain ⟨⟨f0, oI0⟩, oT0⟩ := ok
  obtain ⟨⟨f1, oI1⟩, oT1⟩ := ok'
  simp only [tsz] at hs hs'
  have zI0 : tszs I0 ≤ 1353245080330 := by omega
  have zT0 : tszs T0 ≤ 1353245080330 := by omega
  have zI1 : tszs I1 ≤ 1353245080330 := by omega
  have zT1 : tszs T1 ≤ 1353245080330 := by omega
  have hl2 : I0.length ≤ 1353245080330 := Nat.le_trans (tszs_len I0) zI0
  have hl3 : I1.length ≤ 1353245080330 := Nat.le_trans (tszs_len I1) zI1
  have tl0 := okF_tail2 f0
  have tl1 := okF_tail2 f1
  have hU0 : Upd [] w ((w.alloc (.cells #[.int .u8 k, .bool neg0, .slice a0 L0.length c0, .string s0, .int .i64 num0, .slice ai0 I0.length ci0, .slice at0 T0.length ct0] 26)).alloc (.cells #[.int .u8 k', .bool neg1, .slice a1 L1.length c1, .string s1, .int .i64 num1, .slice ai1 I1.length ci1, .slice at1 T1.length ct1] 26)) := ((Upd.refl [] w).alloc _).alloc _
  have tb0 : Tb ((w.alloc (.cells #[.int .u8 k, .bool neg0, .slice a0 L0.length c0, .string s0, .int .i64 num0, .slice ai0 I0.length ci0, .slice at0 T0.length ct0] 26)).alloc (.cells #[.int .u8 k', .bool neg1, .slice a1 L1.length c1, .string s1, .int .i64 num1, .slice ai1 I1.length ci1, .slice at1 T1.length ct1] 26)) w.heap.size #[.int .u8 k, .bool neg0, .slice a0 L0.length c0, .string s0, .int .i64 num0, .slice ai0 I0.length ci0, .slice at0 T0.length ct0] := (Tb.new _ _ _ rfl).old _
  have tb1 : Tb ((w.alloc (.cells #[.int .u8 k, .bool neg0, .slice a0 L0.length c0, .string s0, .int .i64 num0, .slice ai0 I0.length ci0, .slice at0 T0.length ct0] 26)).alloc (.cells #[.int .u8 k', .bool neg1, .slice a1 L1.length c1, .string s1, .int .i64 num1, .slice ai1 I1.length ci1, .slice at1 T1.length ct1] 26)) (w.heap.size + 1) #[.int .u8 k', .bool neg1, .slice a1 L1.length c1, .string s1, .int .i64 num1, .slice ai1 I1.length ci1, .slice at1 T1.length ct1] := Tb.new _ _ _ (by simp)
  by_cases hk : k = k'
  · subst hk
    have hkk : (k != k) = false := by simp
    by_cases h1 : k = 1
    · subst h1
      have e : ordT (.mk 1 num0 neg0 L0 s0 I0 T0) (.mk 1 num1 neg1 L1 s1 I1 T1) = cmpZ (zv neg0 L0) (zv neg1 L1) := by rw [ordT, if_pos rfl, if_pos rfl]
      rw [e]
      obtain ⟨p1, rfl, rfl, p4, rfl⟩ := okF_int f0
      obtain ⟨r1, rfl, rfl, r4, rfl⟩ := okF_int f1
      have p5 := List.eq_nil_of_length_eq_zero p4
      have r5 := List.eq_nil_of_length_eq_zero r4
      subst p5 r5
      have HC : Hid (∀ W, Upd [] w W → _) := fun W hU => Compare_any a0 ai0 at0 a1 ai1 at1 c0 ci0 ct0 c1 ci1 ct1 neg0 neg1 L0 L1 _ _ W (TI.of p1 hD0 (hA0.mono hU)) (TI.of r1 hD1 (hA1.mono hU))
      clear e p1 r1 p4 r4 hA0 hA1 hD0 hD1 hI0 hI1 hT0 hT1 f0 f1 oI0 oT0 oI1 oT1 tl0 tl1 ih hs hs'
      simp only [List.length_nil] at tb0 tb1 hU0
      have HU0 : Hid _ := hU0
      clear hU0
      go_enter Tryz.func20, Tryz.ntmps20
      go_wp2_with (first | (refine load_T _ rfl _ rfl _ _ rfl tb0 rfl ?_) | (refine load_T _ rfl _ rfl _ _ rfl tb1 rfl ?_) | fail)
      refine Calls.mono (HC.out _ HU0.out) ?_
      rintro e w2 ⟨rfl, hU2⟩
      go_wp2
      go_ret
      exact ⟨rfl, HU0.out.trans hU2⟩
    · have k1 : (k == 1) = false := by simp [h1]
      by_cases h2 : k = 2
      · subst h2
        have e : ordT (.mk 2 num0 neg0 L0 s0 I0 T0) (.mk 2 num1 neg1 L1 s1 I1 T1) = lexZ (bz s0) (bz s1) := by rw [ordT, if_pos rfl, if_neg (by decide), if_pos rfl]
        rw [e]
        have HC : Hid (∀ W, _) := fun W => cmpS_any s0 s1 W
        have HU0 : Hid _ := hU0
        clear e hU0 hA0 hA1 hD0 hD1 hI0 hI1 hT0 hT1 f0 f1 oI0 oT0 oI1 oT1 tl0 tl1 ih hs hs' k1 h1 hkk
        go_enter Tryz.func20, Tryz.ntmps20
        go_wp2_with (first | (refine load_T _ rfl _ rfl _ _ rfl tb0 rfl ?_) | (refine load_T _ rfl _ rfl _ _ rfl tb1 rfl ?_) | fail)
        refine Calls.mono (HC.out _) ?_
        rintro e w2 ⟨rfl, rfl⟩
        go_wp2
        go_ret
        exact ⟨rfl, HU0.out⟩
      · have k2 : (k == 2) = false := by simp [h2]
        by_cases h7 : k = 7
        · subst h7
          have e : ordT (.mk 7 num0 neg0 L0 s0 I0 T0) (.mk 7 num1 neg1 L1 s1 I1 T1) = th (ordR I0 I1) (ordE T0 T1) := by rw [ordT, if_pos rfl, if_neg (by decide), if_neg (by decide), if_pos rfl]
          rw [e]
          have HC : Hid (∀ W, Upd [] w W → _) := fun W hU => orderLists_in d ih num0 neg0 a0 ai0 at0 L0 c0 ci0 ct0 s0 I0 T0 num1 neg1 a1 ai1 at1 L1 c1 ci1 ct1 s1 I1 T1 W (hI0.imp hU (fun cs t h => In.mono hU d cs t h)) (hT0.imp hU (fun cs t h => In.mono hU d cs t h)) (hI1.imp hU (fun cs t h => In.mono hU d cs t h)) (hT1.imp hU (fun cs t h => In.mono hU d cs t h)) oI0 oI1 oT0 oT1 tl0 tl1 zI0 zI1 zT0 zT1
          have HU0 : Hid _ := hU0
          clear e hU0 hA0 hA1 hD0 hD1 hI0 hI1 hT0 hT1 f0 f1 oI0 oT0 oI1 oT1 tl0 tl1 ih hs hs' k1 h1 hkk k2 h2
          go_enter Tryz.func20, Tryz.ntmps20
          go_wp2_with (first | (refine load_T _ rfl _ rfl _ _ rfl tb0 rfl ?_) | (refine load_T _ rfl _ rfl _ _ rfl tb1 rfl ?_) | fail)
          refine Calls.mono (HC.out _ HU0.out) ?_
          rintro e w2 ⟨rfl, hU2⟩
          go_wp2
          go_ret
          exact ⟨rfl, HU0.out.trans hU2⟩
        · have k7 : (k == 7) = false := by simp [h7]
          have e : ordT (.mk k num0 neg0 L0 s0 I0 T0) (.mk k num1 neg1 L1 s1 I1 T1) = th (cmpZ num0 num1) (th (cmpZ I0.length I1.length) (ordR I0 I1)) := by rw [ordT, if_pos rfl, if_neg h1, if_neg h2, if_neg h7]
          rw [e]
          have HC : Hid (∀ W, Upd [] w W → _) := fun W hU => cmpf_in d ih W ai0 ai1 ci0 ci1 I0 I1 (hI0.imp hU (fun cs t h => In.mono hU d cs t h)) (hI1.imp hU (fun cs t h => In.mono hU d cs t h)) oI0 oI1 zI0 zI1
          have HU0 : Hid _ := hU0
          clear e hU0 hA0 hA1 hD0 hD1 hI0 hI1 hT0 hT1 f0 f1 oI0 oT0 oI1 oT1 tl0 tl1 ih hs hs' h1 h2 h7
          by_cases hn : num0 = num1
          · subst hn
            have hnn : (num0 != num0) = false := by simp
            by_cases hl : I0.length = I1.length
            · have hll : ((I0.length : Int) != (I1.length : Int)) = false := by simp; omega
              have HL : Hid (cmpZ (I0.length : Int) (I1.length : Int) = 0) := cmpZ_zero.2 (by omega)
              clear hl
              go_enter Tryz.func20, Tryz.ntmps20
              go_wp2_with fail
              refine Calls.mono (HC.out _ HU0.out) ?_
              rintro e w2 ⟨rfl, hU2⟩
              go_wp2
              go_ret
              rw [cmpZ_self, HL.out, th_z, th_z]
              exact ⟨rfl, HU0.out.trans hU2⟩
            · have hll : ((I0.length : Int) != (I1.length : Int)) = true := by simp; omega
              have HL : Hid (¬ cmpZ (I0.length : Int) (I1.length : Int) = 0) := fun e => hl (by have := cmpZ_zero.1 e; omega)
              have HCI : Hid (∀ W, _) := fun W => cmpI_any (I0.length : Int) (I1.length : Int) W
              clear hl
              go_enter Tryz.func20, Tryz.ntmps20
              go_wp2_with fail
              refine Calls.mono (HCI.out _) ?_
              rintro e w2 ⟨rfl, rfl⟩
              go_wp2
              go_ret
              rw [cmpZ_self, th_z]
              unfold th
              rw [if_neg HL.out]
              exact ⟨rfl, HU0.out⟩
          · have hnn : (num0 != num1) = true := by simp [hn]
            have HL : Hid (¬ cmpZ num0 num1 = 0) := fun e => hn (cmpZ_zero.1 e)
            have HCI : Hid (∀ W, _) := fun W => cmpI_any num0 num1 W
            clear hn
            go_enter Tryz.func20, Tryz.ntmps20
            go_wp2_with fail
            refine Calls.mono (HCI.out _) ?_
            rintro e w2 ⟨rfl, rfl⟩
            go_wp2
            go_ret
            unfold th
            rw [if_neg HL.out]
            exact ⟨rfl, HU0.out⟩
  · have hkk : (k != k') = true := by simp [hk]
    have e : ordT (.mk k num0 neg0 L0 s0 I0 T0) (.mk k' num1 neg1 L1 s1 I1 T1) = cmpZ k k' := by rw [ordT, if_neg hk]
    rw [e]
    have HC : Hid (∀ W, _) := fun W => cmpK_any k k' W
    have HU0 : Hid _ := hU0
    clear e hU0 hA0 hA1 hD0 hD1 hI0 hI1 hT0 hT1 f0 f1 oI0 oT0 oI1 oT1 tl0 tl1 ih hs hs' hk
    go_enter Tryz.func20, Tryz.ntmps20
    go_wp2_with fail
    refine Calls.mono (HC.out _) ?_
    rintro e w2 ⟨rfl, rfl⟩
    go_wp2
    go_ret
    exact ⟨rfl, HU0.out⟩

theorem Ord_all (d : Nat) : OrdSaid d := by
  induction d with
  | zero => intro w cs cs' t u h; exact h.elim
  | succ d ih => exact Ord_step d ih

theorem ret_int {k : IntKind} {a b : Int} (h : a = b) : Ending.returned (.int k a) = .returned (.int k b) := by rw [h]
theorem okS_ok {t : Tm} (h : okS t = true) : okT' t = true := by unfold okS at h; rw [Bool.and_eq_true] at h; exact h.1

/-- What Compare tells. -/
def cmpS (t u : Tm) : Int := if okS t && okS u then ordT t u else 0

set_option maxHeartbeats 8000000 in
set_option maxRecDepth 100000 in
theorem TCompare_in (d : Nat) (w : World) (cs cs' : List Value) (t u : Tm) (h : In w d cs t) (h' : In w d cs' u) (hs : tsz t ≤ 1353245080330) (hs' : tsz u ≤ 1353245080330) :
    Calls Tryz.prog 86 #[.agg cs.toArray, .agg cs'.toArray] w fun e w' => e = .returned (.int .i64 (cmpS t u)) ∧ Upd [] w w' := by
  have h7 := h.seven
  have h7' := h'.seven
  have HR : Hid (∀ W, Upd [] w W → Calls Tryz.prog 7 #[.agg cs.toArray] W fun e w' => e = .returned (.bool (okS t)) ∧ Upd [] W w') := fun W hu => TRight_in d W cs t (In.mono hu _ _ _ h) hs
  have HR' : Hid (∀ W, Upd [] w W → Calls Tryz.prog 7 #[.agg cs'.toArray] W fun e w' => e = .returned (.bool (okS u)) ∧ Upd [] W w') := fun W hu => TRight_in d W cs' u (In.mono hu _ _ _ h') hs'
  have HO : Hid (okS t = true → okS u = true → ∀ W, Upd [] w W → Calls Tryz.prog 20 #[.agg cs.toArray, .agg cs'.toArray] W fun e w' => e = .returned (.int .i64 (ordT t u)) ∧ Upd [] W w') := fun ht hu W hU =>
    Ord_all d W cs cs' t u (In.mono hU _ _ _ h) (In.mono hU _ _ _ h') (okS_ok ht) (okS_ok hu) hs hs'
  obtain ⟨C, hC⟩ : ∃ C, C = cs.toArray := ⟨_, rfl⟩
  obtain ⟨C', hC'⟩ : ∃ C', C' = cs'.toArray := ⟨_, rfl⟩
  rw [← hC] at h7 HR HO ⊢
  rw [← hC'] at h7' HR' HO ⊢
  clear hC hC' h h' hs hs'
  have hU0 : Upd [] w ((w.alloc (.cells C 26)).alloc (.cells C' 26)) := ((Upd.refl [] w).alloc _).alloc _
  have tb0 : Tb ((w.alloc (.cells C 26)).alloc (.cells C' 26)) w.heap.size C := (Tb.new _ _ _ rfl).old _
  have tb1 : Tb ((w.alloc (.cells C 26)).alloc (.cells C' 26)) (w.heap.size + 1) C' := Tb.new _ _ _ (by simp)
  have HU0 : Hid _ := hU0
  clear hU0
  go_enter Tryz.func86, Tryz.ntmps86
  go_wp2_with (first | (refine load_T _ rfl _ rfl _ _ rfl tb0 h7 ?_) | fail)
  refine Calls.mono (HR.out _ HU0.out) ?_
  rintro e w1 ⟨rfl, hU1⟩
  have tb2 := tb0.mono hU1 (by simp)
  have tb3 := tb1.mono hU1 (by simp)
  have HU1 : Hid (Upd [] w w1) := HU0.out.trans hU1
  clear hU1 tb0 tb1 HU0
  cases ht : okS t with
  | false =>
    go_wp2
    go_ret
    exact ⟨ret_int (by unfold cmpS; rw [ht]; rfl), HU1.out⟩
  | true =>
    go_wp2_with (first | (refine load_G _ _ rfl _ _ rfl tb3 h7' rfl ?_) | fail)
    refine Calls.mono (HR'.out _ HU1.out) ?_
    rintro e w2 ⟨rfl, hU2⟩
    have tb4 := tb2.mono hU2 (by simp)
    have tb5 := tb3.mono hU2 (by simp)
    have HU2 : Hid (Upd [] w w2) := HU1.out.trans hU2
    clear hU2 tb2 tb3 HU1
    cases hu : okS u with
    | false =>
      go_wp2
      go_ret
      exact ⟨ret_int (by unfold cmpS; rw [ht, hu]; rfl), HU2.out⟩
    | true =>
      have HO2 : Hid _ := HO.out ht hu
      go_wp2_with (first | (refine load_T _ rfl _ rfl _ _ rfl tb4 h7 ?_) | (refine load_T _ rfl _ rfl _ _ rfl tb5 h7' ?_) | fail)
      refine Calls.mono (HO2.out _ HU2.out) ?_
      rintro e w3 ⟨rfl, hU3⟩
      go_wp2
      go_ret
      exact ⟨ret_int (by unfold cmpS; rw [ht, hu]; rfl), HU2.out.trans hU3⟩

/-- What Same tells. -/
def samS (t u : Tm) : Bool := okS t && okS u && (ordT t u == 0)

set_option maxHeartbeats 8000000 in
set_option maxRecDepth 100000 in
theorem TSame_in (d : Nat) (w : World) (cs cs' : List Value) (t u : Tm) (h : In w d cs t) (h' : In w d cs' u) (hs : tsz t ≤ 1353245080330) (hs' : tsz u ≤ 1353245080330) :
    Calls Tryz.prog 10 #[.agg cs.toArray, .agg cs'.toArray] w fun e w' => e = .returned (.bool (samS t u)) ∧ Upd [] w w' := by
  have h7 := h.seven
  have h7' := h'.seven
  have HR : Hid (∀ W, Upd [] w W → Calls Tryz.prog 7 #[.agg cs.toArray] W fun e w' => e = .returned (.bool (okS t)) ∧ Upd [] W w') := fun W hu => TRight_in d W cs t (In.mono hu _ _ _ h) hs
  have HR' : Hid (∀ W, Upd [] w W → Calls Tryz.prog 7 #[.agg cs'.toArray] W fun e w' => e = .returned (.bool (okS u)) ∧ Upd [] W w') := fun W hu => TRight_in d W cs' u (In.mono hu _ _ _ h') hs'
  have HO : Hid (okS t = true → okS u = true → ∀ W, Upd [] w W → Calls Tryz.prog 20 #[.agg cs.toArray, .agg cs'.toArray] W fun e w' => e = .returned (.int .i64 (ordT t u)) ∧ Upd [] W w') := fun ht hu W hU =>
    Ord_all d W cs cs' t u (In.mono hU _ _ _ h) (In.mono hU _ _ _ h') (okS_ok ht) (okS_ok hu) hs hs'
  obtain ⟨C, hC⟩ : ∃ C, C = cs.toArray := ⟨_, rfl⟩
  obtain ⟨C', hC'⟩ : ∃ C', C' = cs'.toArray := ⟨_, rfl⟩
  rw [← hC] at h7 HR HO ⊢
  rw [← hC'] at h7' HR' HO ⊢
  clear hC hC' h h' hs hs'
  have hU0 : Upd [] w ((w.alloc (.cells C 26)).alloc (.cells C' 26)) := ((Upd.refl [] w).alloc _).alloc _
  have tb0 : Tb ((w.alloc (.cells C 26)).alloc (.cells C' 26)) w.heap.size C := (Tb.new _ _ _ rfl).old _
  have tb1 : Tb ((w.alloc (.cells C 26)).alloc (.cells C' 26)) (w.heap.size + 1) C' := Tb.new _ _ _ (by simp)
  have HU0 : Hid _ := hU0
  clear hU0
  go_enter Tryz.func10, Tryz.ntmps10
  go_wp2_with (first | (refine load_T _ rfl _ rfl _ _ rfl tb0 h7 ?_) | fail)
  refine Calls.mono (HR.out _ HU0.out) ?_
  rintro e w1 ⟨rfl, hU1⟩
  have tb2 := tb0.mono hU1 (by simp)
  have tb3 := tb1.mono hU1 (by simp)
  have HU1 : Hid (Upd [] w w1) := HU0.out.trans hU1
  clear hU1 tb0 tb1 HU0
  cases ht : okS t with
  | false =>
    go_wp2
    go_ret
    exact ⟨ret_bool (by unfold samS; rw [ht]; rfl), HU1.out⟩
  | true =>
    go_wp2_with (first | (refine load_G _ _ rfl _ _ rfl tb3 h7' rfl ?_) | fail)
    refine Calls.mono (HR'.out _ HU1.out) ?_
    rintro e w2 ⟨rfl, hU2⟩
    have tb4 := tb2.mono hU2 (by simp)
    have tb5 := tb3.mono hU2 (by simp)
    have HU2 : Hid (Upd [] w w2) := HU1.out.trans hU2
    clear hU2 tb2 tb3 HU1
    cases hu : okS u with
    | false =>
      go_wp2
      go_ret
      exact ⟨ret_bool (by unfold samS; rw [ht, hu]; rfl), HU2.out⟩
    | true =>
      have HO2 : Hid _ := HO.out ht hu
      go_wp2_with (first | (refine load_G _ _ rfl _ _ rfl tb4 h7 rfl ?_) | (refine load_G _ _ rfl _ _ rfl tb5 h7' rfl ?_) | fail)
      refine Calls.mono (HO2.out _ HU2.out) ?_
      rintro e w3 ⟨rfl, hU3⟩
      go_wp2
      go_ret
      exact ⟨ret_bool (by unfold samS; rw [ht, hu]; rfl), HU2.out.trans hU3⟩

end Go.Proofs.YtnpocmhaoaigfaaGreatDoor
