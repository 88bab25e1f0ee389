/- joined of package bif: two lists of one item. -/
import Derived.Test.YtnpocmhaoaigfaaGreatDoorJAN
import Derived.Test.YtnpocmhaoaigfaaGreatDoorJAO
import Derived.Test.YtnpocmhaoaigfaaGreatDoorJAF
import Derived.Deep.RegionHeld3
namespace Go.Proofs.YtnpocmhaoaigfaaGreatDoor
open Go.RowKit

theorem tmL_form {w : World} {d : Nat} {cs : List Value} {I : List Tm} (h : In w (d + 1) cs (tmL I)) : ∃ (a ai at' : Option Addr) (c ci ct : Nat), cs = [.int .u8 7, .bool false, .slice a 0 c, .string ⟨#[]⟩, .int .i64 0, .slice ai I.length ci, .slice at' 0 ct] ∧ RowAt (In w d) w ai I := by
  obtain ⟨a, ai, at', c, ci, ct, e, _, _, h1, _⟩ := h
  exact ⟨a, ai, at', c, ci, ct, e, h1⟩

theorem row_rd {w : World} {d : Nat} {a : Option Addr} {x : Tm} (h : RowAt (In w d) w a [x]) : ∃ cs : List Value, cs.length = 7 ∧ Rd w a 1 7 cs ∧ In w d cs x := by
  obtain ⟨xs, h1, h2⟩ := h.rd
  obtain ⟨cs, k1, k2, k3⟩ := h2 0 (by simp)
  have hl := h1.len
  have e : xs = cs := by
    apply List.ext_getElem?
    intro j
    by_cases hj : j < 7
    · have := k2 j hj; simpa using this
    · rw [List.getElem?_eq_none (by simp at hl; omega), List.getElem?_eq_none (by omega)]
  subst e
  exact ⟨xs, k1, h1, k3⟩

theorem InU.list2 {B n g c ct : Nat} {at' : Option Addr} {w : World} {d : Nat} {cs0 cs1 : List Value} {x y : Tm} {cur : Array Value} (hg : n ≤ g) (hc : w.heap[g]? = some (.cells cur 26 (0, 0))) (h0 : cs0.length = 7) (h1 : cs1.length = 7) (ht : cur.toList.take 14 = cs0 ++ cs1) (i0 : InU B n w d cs0 x) (i1 : InU B n w d cs1 y) :
    InU B n w (d + 1) [.int .u8 7, .bool false, .slice none 0 0, .string ⟨#[]⟩, .int .i64 0, .slice (some ⟨g, 0, none⟩) 2 c, .slice at' 0 ct] (tmL [x, y]) := fun l w' hu hl => by
  have hgl : g ∉ l := fun h => by have := (hl g h).2.1; omega
  have hc' : w'.heap[g]? = some (.cells cur 26 (0, 0)) := (hu.block g (lt_of_block hc) hgl).trans hc
  have hcell : ∀ j, j < 14 → w'.cell? ⟨g, j, none⟩ = (cs0 ++ cs1)[j]? := fun j hj => by
    rw [← ht, Lib.cell_of_heap hc' j, List.getElem?_take_of_lt hj, Array.getElem?_toList]
  refine ⟨none, some ⟨g, 0, none⟩, at', 0, c, ct, rfl, Or.inl rfl, Dig.nil, Or.inr ⟨g, 0, rfl, lt_of_block hc', fun i hi => ?_⟩, Or.inl rfl⟩
  have hi2 : i = 0 ∨ i = 1 := by simp at hi; omega
  rcases hi2 with rfl | rfl
  · refine ⟨cs0, h0, fun j hj => ?_, i0 l w' hu hl⟩
    have := hcell j (by omega)
    rw [List.getElem?_append_left (by omega)] at this
    simpa using this
  · refine ⟨cs1, h1, fun j hj => ?_, i1 l w' hu hl⟩
    have := hcell (7 + j) (by omega)
    rw [List.getElem?_append_right (by omega), h0, show 7 + j - 7 = j by omega] at this
    simpa using this

set_option maxHeartbeats 1000000 in
set_option maxRecDepth 100000 in
theorem proper_c1 {d : Nat} {t : Tm} (cs : List Value) (w : World) (hin : In w d cs t) (hk : t.kd = 7) (c : Nat) (a1 : Option Addr) (h6 : cs[6]? = some (.slice a1 0 c)) :
    Calls Tryz.prog 134 #[.agg cs.toArray] w fun e w' => e = .returned (.bool true) ∧ Upd [] w w' := by
  obtain ⟨l1, l2, l3, l4, l5, l6, rfl⟩ := hin.kdform
  obtain rfl : l6 = .slice a1 0 c := by simpa using h6
  have hIN : Hid (In w d [.int .u8 t.kd, l1, l2, l3, l4, l5, .slice a1 0 c] t) := hin
  have AR : Hid (∀ W g, Upd [] w W → Tb W g #[.int .u8 t.kd, l1, l2, l3, l4, l5, .slice a1 0 c] → Calls Tryz.prog 100 #[.int .u8 7, .slice (some ⟨g, 0, none⟩) 1 1] W fun e w' => e = .returned (.bool true) ∧ Upd [] W w') := fun W g hu hT => by
    have h := are_in 7 (some ⟨g, 0, none⟩) 1 d [t] W (by simp) (row_one hT (In.mono hu _ _ _ hIN.out))
    have e : ([t].all fun t => t.kd == 7) = true := by simp [hk]
    rw [e] at h
    exact h
  obtain ⟨k, hkk⟩ : ∃ k, k = t.kd := ⟨_, rfl⟩
  rw [← hkk] at AR hIN ⊢
  have hU1 : Upd [] w (w.alloc (.cells #[.int .u8 k, l1, l2, l3, l4, l5, .slice a1 0 c] 26)) := (Upd.refl [] w).alloc _
  have tb0 : Tb (w.alloc (.cells #[.int .u8 k, l1, l2, l3, l4, l5, .slice a1 0 c] 26)) w.heap.size #[.int .u8 k, l1, l2, l3, l4, l5, .slice a1 0 c] := Tb.new _ _ _ rfl
  have HU1 : Hid _ := hU1
  clear hin h6 hk hkk hU1
  go_enter Tryz.func134, Tryz.ntmps134
  go_wp2_with (first | (refine load_T _ rfl _ rfl _ _ rfl tb0 rfl ?_) | fail)
  refine Calls.mono (AR.out _ _ (HU1.out.alloc _) (Tb.new _ _ _ (by simp))) ?_
  rintro e w2 ⟨rfl, h2⟩
  have U2 : Hid (Upd [] w w2) := (HU1.out.alloc _).trans h2
  have tb2 := (tb0.old _).mono h2 (by simp)
  have x6 : w2.cell? ⟨w.heap.size, 6, none⟩ = some (.slice a1 0 c) := tb2.cell 6
  clear h2 tb0 tb2 AR HU1
  go_wp2
  go_ret
  exact ⟨rfl, U2.out⟩

set_option maxHeartbeats 1000000 in
set_option maxRecDepth 100000 in
theorem proper_one {d : Nat} {I : List Tm} (a : Option Addr) (c : Nat) (w : World) (hI : RowAt (In w (d + 1)) w a [tmL I]) :
    Calls Tryz.prog 109 #[.slice a 1 c] w fun e w' => e = .returned (.bool true) ∧ Upd [] w w' := by
  have H : Hid _ := all_gen a c (d + 1) [tmL I] 134 #[] (fun _ => true) w (by simp) hI Tryz.call134 (fun k hk cs W hu hin => by
    have e : k = 0 := by simp at hk; exact hk
    subst e
    obtain ⟨a', ai, at', c', ci, ct, e, _⟩ := tmL_form hin
    exact proper_c1 cs W hin rfl ct at' (by rw [e]; rfl))
  clear hI
  go_enter Tryz.func109, Tryz.ntmps109
  go_wp2_with fail
  refine Calls.mono H.out ?_
  rintro e w2 ⟨rfl, h2⟩
  have U2 : Hid (Upd [] w w2) := h2
  clear h2
  go_wp2
  go_ret
  exact ⟨rfl, U2.out⟩

/-- A list of two items. -/
def Lis2 (t : Tm) : Prop := okS t = true ∧ ∃ x y, t = tmL [x, y]
theorem lis2_of {z z' : Int} {x y : Tm} (hx : IntT z x) (hy : IntT z' y) : Lis2 (tmL [x, y]) := by
  refine ⟨?_, x, y, rfl⟩
  obtain ⟨L, rfl, n1, l1⟩ := hx
  obtain ⟨M, rfl, n2, l2⟩ := hy
  have o1 := IntT.ok (z := z) ⟨L, rfl, n1, l1⟩
  have o2 := IntT.ok (z := z') ⟨M, rfl, n2, l2⟩
  unfold okS at o1 o2 ⊢
  rw [Bool.and_eq_true] at o1 o2 ⊢
  refine ⟨?_, ?_⟩
  · unfold tmL
    rw [okT', okR, okR, okR, o1.1, o2.1]
    rfl
  · simp [tmL, szT, szR, ownZ]
    omega

set_option maxHeartbeats 4000000 in
set_option maxRecDepth 100000 in
theorem joined_two {B d : Nat} {x y : Tm} {z z' : Int} (cs0 cs1 : List Value) (w : World) (h0 : In w (d + 1) cs0 (tmL [x])) (h1 : In w (d + 1) cs1 (tmL [y])) (kx : IntT z x) (ky : IntT z' y) (hB : B ≤ w.heap.size) :
    Calls Tryz.prog 78 #[.agg cs0.toArray, .agg cs1.toArray] w (MadeQ B (d + 1) Lis2 ⟨#[]⟩ w) := by
  obtain ⟨a0, ai, at', c0, ci, ct, rfl, hI⟩ := tmL_form h0
  obtain ⟨b0, bi, bt, d0, di, dt, rfl, hJ⟩ := tmL_form h1
  obtain ⟨xs, lx, rx, ix⟩ := row_rd hI
  obtain ⟨ys, ly, ry, iy⟩ := row_rd hJ
  have HK : Hid (IntT z x ∧ IntT z' y) := ⟨kx, ky⟩
  have HIX : Hid (In w d xs x ∧ In w d ys y) := ⟨ix, iy⟩
  have HRD : Hid (Rd w ai 1 7 xs ∧ Rd w bi 1 7 ys) := ⟨rx, ry⟩
  have HLN : Hid (xs.length = 7 ∧ ys.length = 7) := ⟨lx, ly⟩
  have PR : Hid (∀ W g, Upd [] w W → Tb W g #[.int .u8 7, .bool false, .slice a0 0 c0, .string ⟨#[]⟩, .int .i64 0, .slice ai 1 ci, .slice at' 0 ct] → Calls Tryz.prog 109 #[.slice (some ⟨g, 0, none⟩) 1 1] W fun e w' => e = .returned (.bool true) ∧ Upd [] W w') := fun W g hu hT => proper_one (I := [x]) (some ⟨g, 0, none⟩) 1 W (row_one hT (In.mono hu _ _ _ h0))
  have AR : Hid (∀ W g, Upd [] w W → Tb W g #[.int .u8 7, .bool false, .slice b0 0 d0, .string ⟨#[]⟩, .int .i64 0, .slice bi 1 di, .slice bt 0 dt] → Calls Tryz.prog 100 #[.int .u8 7, .slice (some ⟨g, 0, none⟩) 1 1] W fun e w' => e = .returned (.bool true) ∧ Upd [] W w') := fun W g hu hT => by
    have h := are_in 7 (some ⟨g, 0, none⟩) 1 (d + 1) [tmL [y]] W (by simp) (row_one hT (In.mono hu _ _ _ h1))
    have e : ([tmL [y]].all fun t => t.kd == 7) = true := rfl
    rw [e] at h
    exact h
  have tA : Tb (((w.alloc (.cells #[.int .u8 7, .bool false, .slice a0 0 c0, .string ⟨#[]⟩, .int .i64 0, .slice ai 1 ci, .slice at' 0 ct] 26)).alloc (.cells #[.int .u8 7, .bool false, .slice b0 0 d0, .string ⟨#[]⟩, .int .i64 0, .slice bi 1 di, .slice bt 0 dt] 26)).alloc (.cells #[.int .u8 0, .bool false, .slice none 0 0, .string ⟨#[]⟩, .int .i64 0, .slice none 0 0, .slice none 0 0] 26)) w.heap.size #[.int .u8 7, .bool false, .slice a0 0 c0, .string ⟨#[]⟩, .int .i64 0, .slice ai 1 ci, .slice at' 0 ct] := ((Tb.new _ _ _ rfl).old _).old _
  have tB : Tb (((w.alloc (.cells #[.int .u8 7, .bool false, .slice a0 0 c0, .string ⟨#[]⟩, .int .i64 0, .slice ai 1 ci, .slice at' 0 ct] 26)).alloc (.cells #[.int .u8 7, .bool false, .slice b0 0 d0, .string ⟨#[]⟩, .int .i64 0, .slice bi 1 di, .slice bt 0 dt] 26)).alloc (.cells #[.int .u8 0, .bool false, .slice none 0 0, .string ⟨#[]⟩, .int .i64 0, .slice none 0 0, .slice none 0 0] 26)) (w.heap.size + 1) #[.int .u8 7, .bool false, .slice b0 0 d0, .string ⟨#[]⟩, .int .i64 0, .slice bi 1 di, .slice bt 0 dt] := (Tb.new _ _ _ (by simp)).old _
  have tZ : Tb (((w.alloc (.cells #[.int .u8 7, .bool false, .slice a0 0 c0, .string ⟨#[]⟩, .int .i64 0, .slice ai 1 ci, .slice at' 0 ct] 26)).alloc (.cells #[.int .u8 7, .bool false, .slice b0 0 d0, .string ⟨#[]⟩, .int .i64 0, .slice bi 1 di, .slice bt 0 dt] 26)).alloc (.cells #[.int .u8 0, .bool false, .slice none 0 0, .string ⟨#[]⟩, .int .i64 0, .slice none 0 0, .slice none 0 0] 26)) (w.heap.size + 1 + 1) #[.int .u8 0, .bool false, .slice none 0 0, .string ⟨#[]⟩, .int .i64 0, .slice none 0 0, .slice none 0 0] := Tb.new _ _ _ (by simp)
  have HU0 : Hid (Upd [] w (((w.alloc (.cells #[.int .u8 7, .bool false, .slice a0 0 c0, .string ⟨#[]⟩, .int .i64 0, .slice ai 1 ci, .slice at' 0 ct] 26)).alloc (.cells #[.int .u8 7, .bool false, .slice b0 0 d0, .string ⟨#[]⟩, .int .i64 0, .slice bi 1 di, .slice bt 0 dt] 26)).alloc (.cells #[.int .u8 0, .bool false, .slice none 0 0, .string ⟨#[]⟩, .int .i64 0, .slice none 0 0, .slice none 0 0] 26))) := (((Upd.refl [] w).alloc _).alloc _).alloc _
  clear h0 h1 hI hJ kx ky lx ly rx ry ix iy
  simp only [List.length_cons, List.length_nil, Nat.zero_add]
  go_enter Tryz.func78, Tryz.ntmps78
  go_wp2_with (first | (refine load_T _ rfl _ rfl _ _ rfl tA rfl ?_) | fail)
  refine Calls.mono (PR.out _ _ (HU0.out.alloc _) (Tb.new _ _ _ (by simp))) ?_
  rintro e w1 ⟨rfl, u1⟩
  have U1 : Hid (Upd [] w w1) := Upd.trans (HU0.out.alloc _) u1
  have tA1 := (tA.old _).mono u1 (by simp)
  have tB1 := (tB.old _).mono u1 (by simp)
  have tZ1 := (tZ.old _).mono u1 (by simp)
  have x5 : w1.cell? ⟨w.heap.size, 5, none⟩ = some (.slice ai 1 ci) := tA1.cell 5
  clear u1 tA tB tZ HU0 PR
  go_wp2_with (first | (refine load_T _ rfl _ rfl _ _ rfl tB1 rfl ?_) | fail)
  refine Calls.mono (AR.out _ _ (U1.out.alloc _) (Tb.new _ _ _ rfl)) ?_
  rintro e w2 ⟨rfl, u2⟩
  have V2 : Upd [] w1 w2 := Upd.trans ((Upd.refl [] w1).alloc _) u2
  have U2 : Hid (Upd [] w w2) := U1.out.trans V2
  have tA2 := tA1.mono V2 (by simp)
  have tB2 := tB1.mono V2 (by simp)
  have tZ2 := tZ1.mono V2 (by simp)
  have HTZ2 : Hid (Tb w2 (w.heap.size + 1 + 1) #[.int .u8 0, .bool false, .slice none 0 0, .string ⟨#[]⟩, .int .i64 0, .slice none 0 0, .slice none 0 0]) := tZ2
  have k5 : w2.cell? ⟨w.heap.size, 5, none⟩ = some (.slice ai 1 ci) := tA2.cell 5
  have m5 : w2.cell? ⟨w.heap.size + 1, 5, none⟩ = some (.slice bi 1 di) := tB2.cell 5
  have m6 : w2.cell? ⟨w.heap.size + 1, 6, none⟩ = some (.slice bt 0 dt) := tB2.cell 6
  have hs2 : w.heap.size + 1 + 1 < w2.heap.size := tZ2.lt
  have HS : Hid (∀ w', Upd [] w2 w' → w'.cell? ⟨w.heap.size, 5, none⟩ = some (.slice ai 1 ci) ∧ w'.cell? ⟨w.heap.size + 1, 5, none⟩ = some (.slice bi 1 di) ∧ w'.cell? ⟨w.heap.size + 1, 6, none⟩ = some (.slice bt 0 dt)) := fun w' hu => ⟨(tA2.mono hu (by simp)).cell 5, (tB2.mono hu (by simp)).cell 5, (tB2.mono hu (by simp)).cell 6⟩
  clear u2 V2 tA1 tB1 tZ1 U1 AR x5 tA2 tB2 tZ2
  have CC : Hid (∀ W g, Upd [] w2 W → W.heap[g]? = some (.cells #[.slice ai 1 ci, .slice bi 1 di] 24 (0, 0)) → Calls Tryz.prog 90 #[.slice (some ⟨g, 0, none⟩) 2 2] W fun e w' => ∃ g' c' cur, e = .returned (.slice (some ⟨g', 0, none⟩) 2 c') ∧ W.heap.size ≤ g' ∧ w'.heap[g']? = some (.cells cur 26 (0, 0)) ∧ cur.toList.take 14 = xs ++ ys ∧ Upd [] W w') := fun W g hu hg => by
    have hW := U2.out.trans hu
    refine (Concat_any g 0 2 2 [⟨ai, 1, ci, xs⟩, ⟨bi, 1, di, ys⟩] W rfl ⟨lt_of_block hg, fun i hi => ?_, fun i hi => ?_⟩ (by simp) (by simp [sumN])).mono ?_
    · have hi2 : i = 0 ∨ i = 1 := by simp at hi; omega
      rcases hi2 with rfl | rfl
      · exact Lib.cell_of_heap hg 0
      · exact Lib.cell_of_heap hg 1
    · have hi2 : i = 0 ∨ i = 1 := by simp at hi; omega
      rcases hi2 with rfl | rfl
      · exact HRD.out.1.upd hW (by simp)
      · exact HRD.out.2.upd hW (by simp)
    · rintro e w' ⟨v, rfl, ⟨⟨_, h1 | ⟨g', cap, cur, rfl, hb, hh, _, _, _, ht⟩⟩, _⟩, hu'⟩
      · simp [sumN] at h1
      · exact ⟨g', cap, cur, rfl, hb, hh, by simpa [catX, sumN] using ht, hu'⟩
  have hne1 : (w.heap.size = w.heap.size + 1 + 1) = False := eq_false (by omega)
  have hne2 : (w.heap.size + 1 + 1 = w.heap.size) = False := eq_false (by omega)
  go_wp2_with fail
  rename_i K1 hK1
  go_region_held3 (fun w' => w'.cell? ⟨w.heap.size, 5, none⟩ = some (.slice ai 1 ci) ∧ w'.cell? ⟨w.heap.size + 1, 5, none⟩ = some (.slice bi 1 di) ∧ w'.cell? ⟨w.heap.size + 1, 6, none⟩ = some (.slice bt 0 dt))
    (first | go_keep | exact HS.out _ (by repeat (first | exact Upd.refl _ _ | refine Upd.drew ?_ | refine Upd.alloc ?_ _)))
    (first
      | (go_at_call 90; go_loud (refine Calls.mono (CC.out _ _ (by repeat (first | exact Upd.refl _ _ | refine Upd.drew ?_ | refine Upd.alloc ?_ _)) (heap_alloc_new _ _)) ?_); rintro e w3 ⟨g3, c3, cur3, rfl, hg3, hh3, hx3, hu3⟩; have HU3 : Hid (Upd [] w2 w3) := Upd.trans (by repeat (first | exact Upd.refl _ _ | refine Upd.drew ?_ | refine Upd.alloc ?_ _)) hu3; have HT3 : Hid (Tb w3 (w.heap.size + 1 + 1) #[.int .u8 0, .bool false, .slice none 0 0, .string ⟨#[]⟩, .int .i64 0, .slice none 0 0, .slice none 0 0]) := Tb.mono HTZ2.out HU3.out (by simp); have HG3 : Hid (w2.heap.size ≤ g3 ∧ w3.heap[g3]? = some (.cells cur3 26 (0, 0)) ∧ cur3.toList.take 14 = xs ++ ys) := ⟨Nat.le_trans (by simp) hg3, hh3, hx3⟩; obtain ⟨sa, sb, sc⟩ := HS.out w3 HU3.out; have z0 : w3.cell? ⟨w.heap.size + 1 + 1, 0, none⟩ = some (.int .u8 0) := Tb.cell HT3.out 0; have f0 : w3.frozen? ⟨w.heap.size + 1 + 1, 0, none⟩ = false := Tb.free HT3.out 0; have z1 : w3.cell? ⟨w.heap.size + 1 + 1, 1, none⟩ = some (.bool false) := Tb.cell HT3.out 1; have f1 : w3.frozen? ⟨w.heap.size + 1 + 1, 1, none⟩ = false := Tb.free HT3.out 1; have z2 : w3.cell? ⟨w.heap.size + 1 + 1, 2, none⟩ = some (.slice none 0 0) := Tb.cell HT3.out 2; have f2 : w3.frozen? ⟨w.heap.size + 1 + 1, 2, none⟩ = false := Tb.free HT3.out 2; have z3 : w3.cell? ⟨w.heap.size + 1 + 1, 3, none⟩ = some (.string ⟨#[]⟩) := Tb.cell HT3.out 3; have f3 : w3.frozen? ⟨w.heap.size + 1 + 1, 3, none⟩ = false := Tb.free HT3.out 3; have z4 : w3.cell? ⟨w.heap.size + 1 + 1, 4, none⟩ = some (.int .i64 0) := Tb.cell HT3.out 4; have f4 : w3.frozen? ⟨w.heap.size + 1 + 1, 4, none⟩ = false := Tb.free HT3.out 4; have z5 : w3.cell? ⟨w.heap.size + 1 + 1, 5, none⟩ = some (.slice none 0 0) := Tb.cell HT3.out 5; have f5 : w3.frozen? ⟨w.heap.size + 1 + 1, 5, none⟩ = false := Tb.free HT3.out 5; have z6 : w3.cell? ⟨w.heap.size + 1 + 1, 6, none⟩ = some (.slice none 0 0) := Tb.cell HT3.out 6; have f6 : w3.frozen? ⟨w.heap.size + 1 + 1, 6, none⟩ = false := Tb.free HT3.out 6; clear hu3 hg3 hh3 hx3))
  all_goals
    have h7 := seven HT3.out (.int .u8 7) (.bool false) (.slice none 0 0) (.string ⟨#[]⟩) (.int .i64 0) (.slice (some ⟨g3, 0, none⟩) 2 c3) (.slice bt 0 dt)
    have hl := InU.list2 (B := B) (n := w2.heap.size) (c := c3) (at' := bt) (ct := dt) HG3.out.1 HG3.out.2.1 HLN.out.1 HLN.out.2 HG3.out.2.2 (InU.int B w2.heap.size (In.mono (U2.out.trans HU3.out) _ _ _ HIX.out.1) HK.out.1) (InU.int B w2.heap.size (In.mono (U2.out.trans HU3.out) _ _ _ HIX.out.2) HK.out.2)
    show K1 _ _
    refine hK1 _ _ ?_
    go_wp2
    exact ret_Tb Tryz.results78 rfl _ _ _ rfl h7.1 rfl rfl ⟨_, tmL [x, y], rfl, rfl, hl.step h7.2 (bx_zero (Nat.le_trans hB (by omega)) hs2 HT3.out) (by omega) HU3.out.size, lis2_of HK.out.1 HK.out.2, (U2.out.trans HU3.out).then h7.2 (by simp; omega)⟩
end Go.Proofs.YtnpocmhaoaigfaaGreatDoor
