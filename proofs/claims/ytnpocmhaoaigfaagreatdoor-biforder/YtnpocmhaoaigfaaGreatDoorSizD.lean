/- count, Size and Right of package term. -/
import Derived.Test.YtnpocmhaoaigfaaGreatDoorSizC
import Derived.Laws.EntriesVeiled
namespace Go.Proofs.YtnpocmhaoaigfaaGreatDoor
open Go.RowKit

set_option maxHeartbeats 4000000 in
set_option maxRecDepth 100000 in
theorem Cnt_step (d : Nat) (ih : CntSaid d) : CntSaid (d + 1) := by
  intro w b q n cs t h hs hB hn hF
  obtain ⟨k, num, neg, L, s, I, T⟩ := t
  obtain ⟨a, ai, at', c, ci, ct, rfl, hA, hD, hI, hT⟩ := h
  simp only [tsz] at hs
  have hL : L.length ≤ 35184372088700 := by omega
  have hsI : tszs I ≤ 1353245080330 := by omega
  have hsT : tszs T ≤ 1353245080330 := by omega
  have hlI : I.length ≤ 1353245080330 := Nat.le_trans (tszs_len I) hsI
  have hlT : T.length ≤ 1353245080330 := Nat.le_trans (tszs_len T) hsT
  obtain ⟨v, hv⟩ : ∃ v, v = ownZ k L.length I.length := ⟨_, rfl⟩
  have hvle : v ≤ 35184372088800 := by rw [hv]; unfold ownZ; repeat' split
                                       all_goals omega
  have HO : Hid (∀ W, Calls Tryz.prog 34 #[.agg #[.int .u8 k, .bool neg, .slice a L.length c, .string s, .int .i64 num, .slice ai I.length ci, .slice at' T.length ct]] W fun e w' => e = .returned (.int .i64 v) ∧ Upd [] W w') := fun W => by
    rw [hv]; exact ownSize_any _ _ _ _ _ _ _ _ _ _ _ _ _ W (by omega) (by omega)
  have hsz : szT (.mk k num neg L s I T) = v + szR I + szR T := by rw [szT, hv]
  have hok : okT' (.mk k num neg L s I T) = (okF k num neg L s I.length T && okR I && okR T) := by rw [okT']
  rw [hsz, hok]
  have HIB : Hid (IntB w b n) := hB
  have HF : Hid (FunB w q _ _) := hF
  have HI : Hid (RowAt (In w d) w ai I) := hI
  have HT : Hid (RowAt (In w d) w at' T) := hT
  have HA : Hid (At w a L) := hA
  have IH : Hid (CntSaid d) := ih
  have hbq : q ≠ b := fun e => by
    subst e
    have h1 := hF.symm.trans hB
    simp at h1
  have hU1 : Upd [] w (w.alloc (.cells #[.int .u8 k, .bool neg, .slice a L.length c, .string s, .int .i64 num, .slice ai I.length ci, .slice at' T.length ct] 26)) := (Upd.refl [] w).alloc _
  have tb0 : Tb (w.alloc (.cells #[.int .u8 k, .bool neg, .slice a L.length c, .string s, .int .i64 num, .slice ai I.length ci, .slice at' T.length ct] 26)) w.heap.size #[.int .u8 k, .bool neg, .slice a L.length c, .string s, .int .i64 num, .slice ai I.length ci, .slice at' T.length ct] := Tb.new _ _ _ rfl
  have hblt := hB.lt
  have hB1 := hB.mono hU1 (by simp)
  obtain ⟨W, hW⟩ : ∃ W, W = w.alloc (.cells #[.int .u8 k, .bool neg, .slice a L.length c, .string s, .int .i64 num, .slice ai I.length ci, .slice at' T.length ct] 26) := ⟨_, rfl⟩
  have HD : Hid (Dig L) := hD
  clear hv hsz hok hI hT hA ih hF hB hD hs
  go_enter Tryz.func33, Tryz.ntmps33
  go_wp2
  rw [← hW] at hU1 tb0 hB1 ⊢
  clear hW
  have x0 : W.cell? ⟨w.heap.size, 0, none⟩ = some (.int .u8 k) := tb0.cell 0
  have x1 : W.cell? ⟨w.heap.size, 1, none⟩ = some (.bool neg) := tb0.cell 1
  have x2 : W.cell? ⟨w.heap.size, 2, none⟩ = some (.slice a L.length c) := tb0.cell 2
  have x3 : W.cell? ⟨w.heap.size, 3, none⟩ = some (.string s) := tb0.cell 3
  have x4 : W.cell? ⟨w.heap.size, 4, none⟩ = some (.int .i64 num) := tb0.cell 4
  have x5 : W.cell? ⟨w.heap.size, 5, none⟩ = some (.slice ai I.length ci) := tb0.cell 5
  have x6 : W.cell? ⟨w.heap.size, 6, none⟩ = some (.slice at' T.length ct) := tb0.cell 6
  have y0 : W.cell? ⟨b, 0, none⟩ = some (.int .i64 n) := hB1.cell
  have z0 : W.frozen? ⟨b, 0, none⟩ = false := hB1.free
  go_region_with (go_at_call 34; refine (HO.out _).mono ?_; rintro e w2 ⟨rfl, hU2⟩; have hU3 : Upd [] W w2 := Upd.trans (by repeat (first | exact Upd.refl _ _ | refine Upd.drew ?_)) hU2; have hB2 := hB1.mono hU3 (by simp); have y1 : w2.cell? ⟨b, 0, none⟩ = some (.int .i64 n) := hB2.cell; have z1 : w2.frozen? ⟨b, 0, none⟩ = false := hB2.free)
  all_goals
    have hwr : IntKind.i64.wrap ((n : Int) + (v : Int)) = ((n + v : Nat) : Int) := by rw [IntKind.wrap_i64]; omega
    rw [hwr]
    obtain ⟨N, hN⟩ : ∃ N, N = n + v := ⟨_, rfl⟩
    rw [← hN]
    have hB3 : IntB (w2.setCell ⟨b, 0, none⟩ (.int .i64 (N : Int))) b (N : Int) := hB2.set _
    have tb3 : Tb (w2.setCell ⟨b, 0, none⟩ (.int .i64 (N : Int))) w.heap.size #[.int .u8 k, .bool neg, .slice a L.length c, .string s, .int .i64 num, .slice ai I.length ci, .slice at' T.length ct] := (tb0.mono hU3 (by simp)).other _ (by simp; omega) _
    have hU4 : Upd [b] w (w2.setCell ⟨b, 0, none⟩ (.int .i64 (N : Int))) := (((Upd.refl [b] w).then hU1 (by simp)).then hU3 (by simp)).setCell (Or.inr (by simp)) _
    obtain ⟨W3, hW3⟩ : ∃ W3, W3 = w2.setCell ⟨b, 0, none⟩ (.int .i64 (N : Int)) := ⟨_, rfl⟩
    rw [← hW3] at hB3 tb3 hU4 ⊢
    clear hW3 hwr x0 x1 x2 x3 x4 x5 x6 y0 z0 y1 z1 hB2 hU3 hU2 hB1 tb0 hU1 HO
    have hF3 := HF.out.mono hU4 (by simp; exact hbq)
    have hS : ∀ x ∈ [b], ∃ m, IntB w x m := fun x hx => by simp at hx; subst hx; exact ⟨_, HIB.out⟩
    have hI3 := RowAt.upd hU4 hS d ai I HI.out
    have hT3 := RowAt.upd hU4 hS d at' T HT.out
    have hA3 : At W3 a L := by
      have h1 : In w (d + 1) [.int .u8 0, .bool false, .slice a L.length 0, .string ⟨#[]⟩, .int .i64 0, .slice none 0 0, .slice none 0 0] (.mk 0 0 false L ⟨#[]⟩ [] []) := ⟨a, none, none, 0, 0, 0, rfl, HA.out, HD.out, Or.inl rfl, Or.inl rfl⟩
      obtain ⟨_, _, _, _, _, _, e, h2, _⟩ := In.upd hU4 hS _ _ _ h1
      simp only [List.cons.injEq, Value.slice.injEq] at e
      rw [← e.2.2.1.1] at h2
      exact h2
    have HB3 : Hid (IntB W3 b (N : Int)) := hB3
    have HU4 : Hid (Upd [b] w W3) := hU4
    have HF3 : Hid (FunB W3 q _ _) := hF3
    have HI3 : Hid (RowAt (In W3 d) W3 ai I) := hI3
    have HT3 : Hid (RowAt (In W3 d) W3 at' T) := hT3
    have HA3 : Hid (At W3 a L) := hA3
    have y0 : W3.cell? ⟨b, 0, none⟩ = some (.int .i64 (N : Int)) := hB3.cell
    clear hF3 hI3 hT3 hA3 hS hU4 hB3
    have HN : Hid (N = n + v) := hN
    clear hN
    by_cases hgo : N ≤ 4096
    · have hd : (N : Int) ≤ 4096 := by omega
      obtain ⟨f, hf⟩ : ∃ f, f = okF k num neg L s I.length T := ⟨_, rfl⟩
      have HR : Hid (∀ W, Upd [] W3 W → Calls Tryz.prog 35 #[.agg #[.int .u8 k, .bool neg, .slice a L.length c, .string s, .int .i64 num, .slice ai I.length ci, .slice at' T.length ct]] W fun e w' => e = .returned (.bool f) ∧ Upd [] W w') := fun W hU => by
        rw [hf]
        exact rightFields_any k num neg L s a ai at' c I.length ci ct d T W (by omega) (by omega) (by omega) (HA3.out.mono hU) (HT3.out.imp hU (fun cs t h => In.mono hU d cs t h))
      have HFd : Hid (okF k num neg L s I.length T = f) := hf.symm
      clear hf
      go_wp2_with (first | (refine load_G _ _ rfl _ _ rfl tb3 rfl rfl ?_) | fail)
      refine (HR.out W3 (Upd.refl [] W3)).mono ?_
      rintro e W4 ⟨rfl, hU5⟩
      have tb4 := tb3.mono hU5 (by simp)
      have hB4 := HB3.out.mono hU5 (by simp)
      have hF4 := HF3.out.mono hU5 (by simp)
      have hI4 := HI3.out.imp hU5 (fun cs t h => In.mono hU5 d cs t h)
      have hT4 := HT3.out.imp hU5 (fun cs t h => In.mono hU5 d cs t h)
      have hU6 : Upd [b] w W4 := HU4.out.then hU5 (by simp)
      cases f with
      | false =>
        go_wp2
        go_ret
        exact ⟨_, by rw [HFd.out]; rfl, hB4, hU6, fun h => by rw [HFd.out] at h; simp at h⟩
      | true =>
        have x5 : W4.cell? ⟨w.heap.size, 5, none⟩ = some (.slice ai I.length ci) := tb4.cell 5
        have y4 : W4.cell? ⟨q, 0, none⟩ = some (.func (.func 33) #[] #[.pointer (some ⟨b, 0, none⟩), .pointer (some ⟨q, 0, none⟩)]) := hF4.cell
        have HU6 : Hid (Upd [b] w W4) := hU6
        have HT4 : Hid (RowAt (In W4 d) W4 at' T) := hT4
        have HIB4 : Hid (IntB W4 b (N : Int)) := hB4
        have HF4 : Hid (FunB W4 q _ _) := hF4
        have HAL : Hid _ := all_in d IH.out W4 b q N ai ci I hI4 hsI hB4 hgo hF4
        clear hU6 hT4 hB4 hF4 hI4 hU5 HR
        go_wp2_with fail
        refine Calls.mono HAL.out ?_
        rintro e W5 ⟨m, rfl, hB5, hU7, hm⟩
        have HM : Hid _ := hm
        have HB5 : Hid (IntB W5 b m) := hB5
        have HU7 : Hid (Upd [b] w W5) := HU6.out.trans hU7
        have tb5 := tb4.mono hU7 (by simp; have := tb3.lt; omega)
        have hS4 : ∀ x ∈ [b], ∃ m, IntB W4 x m := fun x hx => by simp at hx; subst hx; exact ⟨_, HIB4.out⟩
        have HT5 : Hid _ := RowAt.upd hU7 hS4 d at' T HT4.out
        have hF5 := HF4.out.mono hU7 (by simp; exact hbq)
        have HF5 : Hid (FunB W5 q _ _) := hF5
        clear hm hB5 hU7 hS4
        cases hg : (okR I && decide (N + szR I ≤ 4096)) with
        | false =>
          go_wp2
          go_ret
          have hr : (okF k num neg L s I.length T && okR I && okR T && decide (n + (v + szR I + szR T) ≤ 4096)) = false := by
            rw [HFd.out]
            cases h1 : okR I with
            | false => simp
            | true =>
              rw [h1, Bool.true_and, decide_eq_false_iff_not] at hg
              rw [decide_eq_false (by have := HN.out; omega)]; simp
          exact ⟨m, by rw [hr]; rfl, HB5.out, HU7.out, fun h => by rw [hr] at h; cases h⟩
        | true =>
          have hm2 := HM.out hg
          have hg2 := hg
          rw [Bool.and_eq_true, decide_eq_true_eq] at hg2
          have hB6 : IntB W5 b ((N + szR I : Nat) : Int) := by have := HB5.out; rw [hm2] at this; exact this
          have x6 : W5.cell? ⟨w.heap.size, 6, none⟩ = some (.slice at' T.length ct) := tb5.cell 6
          have y5 : W5.cell? ⟨q, 0, none⟩ = some (.func (.func 33) #[] #[.pointer (some ⟨b, 0, none⟩), .pointer (some ⟨q, 0, none⟩)]) := hF5.cell
          have HAT : Hid _ := all_in d IH.out W5 b q (N + szR I) at' ct T HT5.out hsT hB6 hg2.2 hF5
          have HG : Hid (okR I = true) := hg2.1
          clear hm2 hg2 hB6 hF5 HM
          go_wp2_with fail
          refine Calls.mono HAT.out ?_
          rintro e W6 ⟨m2, rfl, hB7, hU8, hm3⟩
          go_wp2
          go_ret
          have hr : (okF k num neg L s I.length T && okR I && okR T && decide (n + (v + szR I + szR T) ≤ 4096)) = (okR T && decide (N + szR I + szR T ≤ 4096)) := by
            rw [HFd.out, HG.out, show n + (v + szR I + szR T) = N + szR I + szR T by have := HN.out; omega]; simp
          exact ⟨m2, by rw [hr]; rfl, hB7, HU7.out.trans hU8, fun h => by rw [hr] at h; rw [hm3 h]; congr 1; have := HN.out; omega⟩
    · have hd : decide ((N : Int) ≤ 4096) = false := by simp; omega
      go_wp2
      go_ret
      have hr : (okF k num neg L s I.length T && okR I && okR T && decide (n + (v + szR I + szR T) ≤ 4096)) = false := by rw [decide_eq_false (by have := HN.out; omega), Bool.and_false]
      exact ⟨_, by rw [hr]; rfl, HB3.out, HU4.out, fun h => by rw [hr] at h; cases h⟩

theorem Cnt_all (d : Nat) : CntSaid d := by
  induction d with
  | zero => intro w b q n cs t h; exact h.elim
  | succ d ih => exact Cnt_step d ih

theorem IntB.new (w : World) (n : Int) (g : Nat) (h : g = w.heap.size) : IntB (w.alloc (.cells #[.int .i64 n] 3)) g n := by subst h; exact heap_alloc_new w _
theorem FunB.new (w : World) (v : Value) (T : TypeId) (g : Nat) (h : g = w.heap.size) : FunB (w.alloc (.cells #[v] T)) g v T := by subst h; exact heap_alloc_new w _
/-- A term is right. -/
def okS (t : Tm) : Bool := okT' t && decide (szT t ≤ 4096)
/-- Its size; 0, if it is not. -/
def szS (t : Tm) : Nat := if okS t then szT t else 0

theorem In.seven {w : World} {d : Nat} {cs : List Value} {t : Tm} (h : In w d cs t) : cs.toArray.size = 7 := by
  cases d with
  | zero => exact h.elim
  | succ d =>
    cases t
    obtain ⟨_, _, _, _, _, _, rfl, _⟩ := h
    rfl

set_option maxHeartbeats 4000000 in
set_option maxRecDepth 100000 in
theorem Size_in (d : Nat) (w : World) (cs : List Value) (t : Tm) (h : In w d cs t) (hs : tsz t ≤ 1353245080330) :
    Calls Tryz.prog 19 #[.agg cs.toArray] w fun e w' => e = .returned (.int .i64 (szS t : Nat)) ∧ Upd [] w w' := by
  have h7 := h.seven
  obtain ⟨C, hC⟩ : ∃ C, C = cs.toArray := ⟨_, rfl⟩
  have HIN : Hid (In w d cs t) := h
  have HS : Hid (tsz t ≤ 1353245080330) := hs
  have HC : Hid (C = cs.toArray) := hC
  rw [← hC] at h7 ⊢
  clear hC h hs
  have tb0 : Tb (((w.alloc (.cells C 26)).alloc (.cells #[.int .i64 0] 3)).alloc (.cells #[.func (.func 33) #[] #[.pointer (some ⟨w.heap.size + 1, 0, none⟩), .pointer (some ⟨w.heap.size + 1 + 1, 0, none⟩)]] 29)) w.heap.size C := ((Tb.new _ _ _ rfl).old _).old _
  have hB : IntB (((w.alloc (.cells C 26)).alloc (.cells #[.int .i64 0] 3)).alloc (.cells #[.func (.func 33) #[] #[.pointer (some ⟨w.heap.size + 1, 0, none⟩), .pointer (some ⟨w.heap.size + 1 + 1, 0, none⟩)]] 29)) (w.heap.size + 1) ((0 : Nat) : Int) := by
    have h1 : IntB ((w.alloc (.cells C 26)).alloc (.cells #[.int .i64 0] 3)) (w.heap.size + 1) ((0 : Nat) : Int) := by
      exact IntB.new _ _ _ (by simp)
    exact h1.mono ((Upd.refl [] _).alloc _) (by simp)
  have hF : FunB (((w.alloc (.cells C 26)).alloc (.cells #[.int .i64 0] 3)).alloc (.cells #[.func (.func 33) #[] #[.pointer (some ⟨w.heap.size + 1, 0, none⟩), .pointer (some ⟨w.heap.size + 1 + 1, 0, none⟩)]] 29)) (w.heap.size + 1 + 1) (.func (.func 33) #[] #[.pointer (some ⟨w.heap.size + 1, 0, none⟩), .pointer (some ⟨w.heap.size + 1 + 1, 0, none⟩)]) 29 := by
    exact FunB.new _ _ _ _ (by simp)
  have hU : Upd [] w (((w.alloc (.cells C 26)).alloc (.cells #[.int .i64 0] 3)).alloc (.cells #[.func (.func 33) #[] #[.pointer (some ⟨w.heap.size + 1, 0, none⟩), .pointer (some ⟨w.heap.size + 1 + 1, 0, none⟩)]] 29)) := (((Upd.refl [] w).alloc _).alloc _).alloc _
  obtain ⟨W, hW⟩ : ∃ W, W = (((w.alloc (.cells C 26)).alloc (.cells #[.int .i64 0] 3)).alloc (.cells #[.func (.func 33) #[] #[.pointer (some ⟨w.heap.size + 1, 0, none⟩), .pointer (some ⟨w.heap.size + 1 + 1, 0, none⟩)]] 29)) := ⟨_, rfl⟩
  have HB : Hid (IntB _ _ _) := hB
  have HF : Hid (FunB _ _ _ _) := hF
  have HU : Hid (Upd [] w _) := hU
  clear hB hF hU
  go_enter Tryz.func19, Tryz.ntmps19
  go_wp2_with (first | (refine load_T _ rfl _ rfl _ _ rfl tb0 h7 ?_) | fail)
  rw [← hW] at HB HF HU ⊢
  have hcnt := Cnt_all d W _ _ 0 cs t (In.mono HU.out _ _ _ HIN.out) HS.out HB.out (by omega) HF.out
  rw [← HC.out] at hcnt
  clear tb0
  refine Calls.mono hcnt ?_
  rintro e w2 ⟨m, rfl, hB2, hU2, hm⟩
  have hU3 : Upd [] w w2 := HU.out.then hU2 (by simp)
  have y0 : w2.cell? ⟨w.heap.size + 1, 0, none⟩ = some (.int .i64 m) := hB2.cell
  have HM : Hid _ := hm
  clear hm hcnt hB2 hU2
  cases hg : (okT' t && decide (0 + szT t ≤ 4096)) with
  | false =>
    go_wp2
    go_ret
    have e : szS t = 0 := by unfold szS okS; rw [Nat.zero_add] at hg; rw [hg]; rfl
    rw [e]
    exact ⟨rfl, hU3⟩
  | true =>
    have hm := HM.out hg
    rw [Nat.zero_add] at hm
    have HE : Hid (szS t = szT t) := by show szS t = szT t; unfold szS okS; rw [Nat.zero_add] at hg; rw [hg]; rfl
    have HM2 : Hid (m = (szT t : Int)) := hm
    clear hm HM
    go_wp2
    go_ret
    rw [HE.out, ← HM2.out]
    exact ⟨rfl, hU3⟩

theorem szT_pos (t : Tm) : 0 < szT t := by
  cases t
  rw [szT]
  unfold ownZ
  repeat' split
  all_goals omega

set_option maxHeartbeats 4000000 in
set_option maxRecDepth 100000 in
theorem TRight_in (d : Nat) (w : World) (cs : List Value) (t : Tm) (h : In w d cs t) (hs : tsz t ≤ 1353245080330) :
    Calls Tryz.prog 7 #[.agg cs.toArray] w fun e w' => e = .returned (.bool (okS t)) ∧ Upd [] w w' := by
  have h7 := h.seven
  have HZ : Hid (∀ W, Upd [] w W → Calls Tryz.prog 19 #[.agg cs.toArray] W fun e w' => e = .returned (.int .i64 (szS t : Nat)) ∧ Upd [] W w') := fun W hu => Size_in d W cs t (In.mono hu _ _ _ h) hs
  obtain ⟨C, hC⟩ : ∃ C, C = cs.toArray := ⟨_, rfl⟩
  rw [← hC] at h7 HZ ⊢
  clear hC h hs
  have tb0 : Tb (w.alloc (.cells C 26)) w.heap.size C := Tb.new _ _ _ rfl
  have hU : Upd [] w (w.alloc (.cells C 26)) := (Upd.refl [] w).alloc _
  obtain ⟨z, hz⟩ : ∃ z, z = szS t := ⟨_, rfl⟩
  have hz2 : okS t = decide (0 < z) := by
    rw [hz]
    unfold szS
    cases okS t with
    | false => rfl
    | true => simp [szT_pos]
  have HZ2 : Hid (okS t = decide (0 < z)) := hz2
  rw [← hz] at HZ
  clear hz hz2
  go_enter Tryz.func7, Tryz.ntmps7
  go_wp2_with (first | (refine load_T _ rfl _ rfl _ _ rfl tb0 h7 ?_) | fail)
  refine Calls.mono (HZ.out _ hU) ?_
  rintro e w2 ⟨rfl, hU2⟩
  go_wp2
  go_ret
  rw [HZ2.out]
  exact ⟨ret_bool (by simp), hU.trans hU2⟩

end Go.Proofs.YtnpocmhaoaigfaaGreatDoor
