/- write, of lists, by its contract. -/
import Derived.Test.YtabknipgbmdipaaGreatDoorTxtD
namespace Go.Proofs.YtabknipgbmdipaaGreatDoor
open Go.RowKit

set_option maxHeartbeats 1000000 in
set_option maxRecDepth 100000 in
theorem wr_list0 (d : Nat) (ih : WriteSaid d) (w : World) (b p q r : Nat) (l : List UInt8) (a ai at' : Option Addr) (n1 c ci ct : Nat) (neg : Bool) (s : ByteArray) (num : Int) (I : List Tm)
    (hI : RowB (fun x => x < b) (InB (fun x => x < b) w d) w ai I) (hok : okR I = true) (hs : tszs I ≤ 1353245080330) (hG : GlbB b w) (hT : TS w b p q r l) (hlen : l.length + (91 :: (txI I ++ [93])).length ≤ 140737488355328) :
    Calls Tryz.prog 45 #[.agg #[.int .u8 7, .bool neg, .slice a n1 c, .string s, .int .i64 num, .slice ai I.length ci, .slice at' 0 ct], .pointer (some ⟨p, 0, none⟩), .pointer (some ⟨r, 0, none⟩), .pointer (some ⟨q, 0, none⟩)] w (WrP w b p q r l (91 :: (txI I ++ [93]))) := by
  have hcall1 : ∀ args w, (callFunc 42 args).run Tryz.prog w = .ok (.enter 42 args) w := Tryz.call42
  have hcall2 : ∀ args w, (callFunc 44 args).run Tryz.prog w = .ok (.enter 44 args) w := Tryz.call44
  have tb0 : Tb (w.alloc (.cells #[.int .u8 7, .bool neg, .slice a n1 c, .string s, .int .i64 num, .slice ai I.length ci, .slice at' 0 ct] 26)) w.heap.size #[.int .u8 7, .bool neg, .slice a n1 c, .string s, .int .i64 num, .slice ai I.length ci, .slice at' 0 ct] := Tb.new _ _ _ rfl
  have hU1 : Upd [] w (w.alloc (.cells #[.int .u8 7, .bool neg, .slice a n1 c, .string s, .int .i64 num, .slice ai I.length ci, .slice at' 0 ct] 26)) := (Upd.refl [] w).alloc _
  simp only [List.length_cons, List.length_append, List.length_nil] at hlen
  have htl := txI_len I
  have HR : Hid (∀ W, Kp b w W → TS W b p q r (l ++ [91]) → Calls Tryz.prog 44 #[.slice ai I.length ci, .pointer (some ⟨p, 0, none⟩), .pointer (some ⟨q, 0, none⟩)] W (WrP W b p q r (l ++ [91]) (txI I))) := fun W hK hT2 =>
    row_in d ih W b p q r (l ++ [91]) ai ci I (RowB.below hK.below hI) hok hs (by simp only [List.length_append, List.length_singleton]; omega) (hG.below hK.below) hT2
  have hbz := hT.bd.lt
  have HT : Hid (TS w b p q r l) := hT
  have HL : Hid _ := hlen
  clear hok hs hG hT hlen hI ih
  have hTW := HT.out.upd hU1
  have yp : (w.alloc (.cells #[.int .u8 7, .bool neg, .slice a n1 c, .string s, .int .i64 num, .slice ai I.length ci, .slice at' 0 ct] 26)).cell? ⟨p, 0, none⟩ = some (.func (.func 42) #[] #[.pointer (some ⟨b, 0, none⟩)]) := hTW.put.cell
  have hK1 := hU1.toKp b (Nat.le_of_lt hbz)
  have HTW : Hid _ := hTW
  have HK1 : Hid _ := hK1
  have HTB : Hid (Tb _ w.heap.size #[.int .u8 7, .bool neg, .slice a n1 c, .string s, .int .i64 num, .slice ai I.length ci, .slice at' 0 ct]) := tb0
  clear hTW hK1 tb0 hU1
  go_enter Tryz.func45, Tryz.ntmps45
  go_wp2_with fail
  refine (put_one_at HTW.out [91] (by have := HL.out; simp only [List.length_singleton]; omega) (w.heap.size + 1) (by simp) ⟨#[91]⟩ rfl).mono ?_
  rintro e w2 ⟨rfl, hT2, hK2⟩
  have tb2 := Tb.kp HTB.out HTW.out.bd hK2
  have x5 : w2.cell? ⟨w.heap.size, 5, none⟩ = some (.slice ai I.length ci) := tb2.cell 5
  have yr : w2.cell? ⟨r, 0, none⟩ = some (.func (.func 44) #[] #[.pointer (some ⟨p, 0, none⟩), .pointer (some ⟨q, 0, none⟩)]) := hT2.row.cell
  have HT2 : Hid (TS w2 b p q r (l ++ [91])) := hT2
  have HK2 : Hid (Kp b w w2) := HK1.out.trans hK2
  have HTB2 : Hid (Tb w2 w.heap.size #[.int .u8 7, .bool neg, .slice a n1 c, .string s, .int .i64 num, .slice ai I.length ci, .slice at' 0 ct]) := tb2
  clear hT2 hK2 tb2 yp
  go_wp2_with fail
  refine (HR.out w2 HK2.out HT2.out).mono ?_
  rintro e w3 ⟨rfl, hT3, hK3⟩
  have x6 : w3.cell? ⟨w.heap.size, 6, none⟩ = some (.slice at' 0 ct) := (Tb.kp HTB2.out HT2.out.bd hK3).cell 6
  have yp3 : w3.cell? ⟨p, 0, none⟩ = some (.func (.func 42) #[] #[.pointer (some ⟨b, 0, none⟩)]) := hT3.put.cell
  have HT3 : Hid (TS w3 b p q r (l ++ [91] ++ txI I)) := hT3
  have HK3 : Hid (Kp b w w3) := HK2.out.trans hK3
  clear hT3 hK3 x5 yr
  go_wp2_with fail
  refine (put_one HT3.out [93] (by have := HL.out; simp only [List.length_append, List.length_singleton]; omega)).mono ?_
  rintro e w4 ⟨rfl, hT4, hK4⟩
  go_wp2
  go_end0
  refine ⟨rfl, ?_, HK3.out.trans hK4⟩
  have e : l ++ 91 :: (txI I ++ [93]) = l ++ [91] ++ txI I ++ [93] := by simp
  rw [e]
  exact hT4

set_option maxHeartbeats 4000000 in
set_option maxRecDepth 100000 in
theorem wr_list1 (d : Nat) (ih : WriteSaid d) (w : World) (b p q r : Nat) (l : List UInt8) (a ai at' : Option Addr) (n1 c ci ct : Nat) (neg : Bool) (s : ByteArray) (num : Int) (I : List Tm) (u : Tm)
    (hI : RowB (fun x => x < b) (InB (fun x => x < b) w d) w ai I) (hI2 : RowB (fun x => x < b) (InB (fun x => x < b) w d) w at' [u]) (hok2 : okT' u = true) (hs2 : tsz u ≤ 1353245080330) (hok : okR I = true) (hs : tszs I ≤ 1353245080330) (hG : GlbB b w) (hT : TS w b p q r l) (hlen : l.length + (91 :: (txI I ++ 124 :: txT u ++ [93])).length ≤ 140737488355328) :
    Calls Tryz.prog 45 #[.agg #[.int .u8 7, .bool neg, .slice a n1 c, .string s, .int .i64 num, .slice ai I.length ci, .slice at' 1 ct], .pointer (some ⟨p, 0, none⟩), .pointer (some ⟨r, 0, none⟩), .pointer (some ⟨q, 0, none⟩)] w (WrP w b p q r l (91 :: (txI I ++ 124 :: txT u ++ [93]))) := by
  have hcall1 : ∀ args w, (callFunc 42 args).run Tryz.prog w = .ok (.enter 42 args) w := Tryz.call42
  have hcall2 : ∀ args w, (callFunc 44 args).run Tryz.prog w = .ok (.enter 44 args) w := Tryz.call44
  have tb0 : Tb (w.alloc (.cells #[.int .u8 7, .bool neg, .slice a n1 c, .string s, .int .i64 num, .slice ai I.length ci, .slice at' 1 ct] 26)) w.heap.size #[.int .u8 7, .bool neg, .slice a n1 c, .string s, .int .i64 num, .slice ai I.length ci, .slice at' 1 ct] := Tb.new _ _ _ rfl
  have hU1 : Upd [] w (w.alloc (.cells #[.int .u8 7, .bool neg, .slice a n1 c, .string s, .int .i64 num, .slice ai I.length ci, .slice at' 1 ct] 26)) := (Upd.refl [] w).alloc _
  simp only [List.length_cons, List.length_append, List.length_nil] at hlen
  have htl := txI_len I
  have HR : Hid (∀ W, Kp b w W → TS W b p q r (l ++ [91]) → Calls Tryz.prog 44 #[.slice ai I.length ci, .pointer (some ⟨p, 0, none⟩), .pointer (some ⟨q, 0, none⟩)] W (WrP W b p q r (l ++ [91]) (txI I))) := fun W hK hT2 =>
    row_in d ih W b p q r (l ++ [91]) ai ci I (RowB.below hK.below hI) hok hs (by simp only [List.length_append, List.length_singleton]; omega) (hG.below hK.below) hT2
  have HW : Hid (∀ W cs, Kp b w W → InB (fun x => x < b) w d cs u → TS W b p q r (l ++ [91] ++ txI I ++ [124]) → Calls Tryz.prog 45 #[.agg cs.toArray, .pointer (some ⟨p, 0, none⟩), .pointer (some ⟨r, 0, none⟩), .pointer (some ⟨q, 0, none⟩)] W (WrP W b p q r (l ++ [91] ++ txI I ++ [124]) (txT u))) := fun W cs hK hin hT2 =>
    ih W b p q r (l ++ [91] ++ txI I ++ [124]) cs u (InB.below hK.below _ _ _ hin) hok2 hs2 (by simp only [List.length_append, List.length_singleton]; omega) (hG.below hK.below) hT2
  have hcall3 : ∀ args w, (callFunc 45 args).run Tryz.prog w = .ok (.enter 45 args) w := Tryz.call45
  have hbz := hT.bd.lt
  obtain ⟨b0, o, rfl, hb0, hb1, hc⟩ : ∃ b0 o, at' = some ⟨b0, o, none⟩ ∧ b0 < b ∧ b0 < w.heap.size ∧ ∃ cs : List Value, cs.length = 7 ∧ (∀ j, j < 7 → w.cell? ⟨b0, o + j, none⟩ = cs[j]?) ∧ InB (fun x => x < b) w d cs u := by
    rcases hI2 with h0 | ⟨b0, o, e, h1, h2, h3⟩
    · simp at h0
    · obtain ⟨cs, k1, k2, k3⟩ := h3 0 (by simp)
      exact ⟨b0, o, e, h1, h2, cs, k1, fun j hj => by have := k2 j hj; simpa using this, k3⟩
  obtain ⟨cs, hl7, hcell, hin⟩ := hc
  obtain ⟨q0, q1, q2, q3, q4, q5, q6, rfl⟩ := list7 hl7
  have HIN : Hid (InB (fun x => x < b) w d [q0, q1, q2, q3, q4, q5, q6] u) := hin
  have HCL : Hid (∀ W, Kp b w W → ∀ j, j < 7 → W.cell? ⟨b0, o + j, none⟩ = [q0, q1, q2, q3, q4, q5, q6][j]?) := fun W hK j hj => (below_cell (a := ⟨b0, o + j, none⟩) hK.below hb0).trans (hcell j hj)
  clear hcell hin hI2 hok2 hs2
  have HT : Hid (TS w b p q r l) := hT
  have HL : Hid _ := hlen
  clear hok hs hG hT hlen hI ih
  have hTW := HT.out.upd hU1
  have yp : (w.alloc (.cells #[.int .u8 7, .bool neg, .slice a n1 c, .string s, .int .i64 num, .slice ai I.length ci, .slice (some ⟨b0, o, none⟩) 1 ct] 26)).cell? ⟨p, 0, none⟩ = some (.func (.func 42) #[] #[.pointer (some ⟨b, 0, none⟩)]) := hTW.put.cell
  have hK1 := hU1.toKp b (Nat.le_of_lt hbz)
  have HTW : Hid _ := hTW
  have HK1 : Hid _ := hK1
  have HTB : Hid (Tb _ w.heap.size #[.int .u8 7, .bool neg, .slice a n1 c, .string s, .int .i64 num, .slice ai I.length ci, .slice (some ⟨b0, o, none⟩) 1 ct]) := tb0
  clear hTW hK1 tb0 hU1
  go_enter Tryz.func45, Tryz.ntmps45
  go_wp2_with fail
  refine (put_one_at HTW.out [91] (by have := HL.out; simp only [List.length_singleton]; omega) (w.heap.size + 1) (by simp) ⟨#[91]⟩ rfl).mono ?_
  rintro e w2 ⟨rfl, hT2, hK2⟩
  have tb2 := Tb.kp HTB.out HTW.out.bd hK2
  have x5 : w2.cell? ⟨w.heap.size, 5, none⟩ = some (.slice ai I.length ci) := tb2.cell 5
  have yr : w2.cell? ⟨r, 0, none⟩ = some (.func (.func 44) #[] #[.pointer (some ⟨p, 0, none⟩), .pointer (some ⟨q, 0, none⟩)]) := hT2.row.cell
  have HT2 : Hid (TS w2 b p q r (l ++ [91])) := hT2
  have HK2 : Hid (Kp b w w2) := HK1.out.trans hK2
  have HTB2 : Hid (Tb w2 w.heap.size #[.int .u8 7, .bool neg, .slice a n1 c, .string s, .int .i64 num, .slice ai I.length ci, .slice (some ⟨b0, o, none⟩) 1 ct]) := tb2
  clear hT2 hK2 tb2 yp
  go_wp2_with fail
  refine (HR.out w2 HK2.out HT2.out).mono ?_
  rintro e w3 ⟨rfl, hT3, hK3⟩
  have x6 : w3.cell? ⟨w.heap.size, 6, none⟩ = some (.slice (some ⟨b0, o, none⟩) 1 ct) := (Tb.kp HTB2.out HT2.out.bd hK3).cell 6
  have yp3 : w3.cell? ⟨p, 0, none⟩ = some (.func (.func 42) #[] #[.pointer (some ⟨b, 0, none⟩)]) := hT3.put.cell
  have HT3 : Hid (TS w3 b p q r (l ++ [91] ++ txI I)) := hT3
  have HK3 : Hid (Kp b w w3) := HK2.out.trans hK3
  have HTB3 : Hid (Tb w3 w.heap.size #[.int .u8 7, .bool neg, .slice a n1 c, .string s, .int .i64 num, .slice ai I.length ci, .slice (some ⟨b0, o, none⟩) 1 ct]) := Tb.kp HTB2.out HT2.out.bd hK3
  clear hT3 hK3 x5 yr
  go_wp2_with fail
  refine (put_one HT3.out [124] (by have := HL.out; simp only [List.length_append, List.length_cons, List.length_nil] at this ⊢; omega)).mono ?_
  rintro e w4 ⟨rfl, hT4, hK4⟩
  have tb4 := Tb.kp HTB3.out HT3.out.bd hK4
  have z6 : w4.cell? ⟨w.heap.size, 6, none⟩ = some (.slice (some ⟨b0, o, none⟩) 1 ct) := tb4.cell 6
  have yq : w4.cell? ⟨q, 0, none⟩ = some (.func (.func 45) #[] #[.pointer (some ⟨p, 0, none⟩), .pointer (some ⟨r, 0, none⟩), .pointer (some ⟨q, 0, none⟩)]) := hT4.wr.cell
  have HT4 : Hid (TS w4 b p q r (l ++ [91] ++ txI I ++ [124])) := hT4
  have HK4 : Hid (Kp b w w4) := HK3.out.trans hK4
  have HTB4 : Hid (Tb w4 w.heap.size _) := tb4
  have xq0 : w4.cell? ⟨b0, o, none⟩ = some q0 := HCL.out w4 HK4.out 0 (by omega)
  have xq1 : w4.cell? ⟨b0, o + 1, none⟩ = some q1 := HCL.out w4 HK4.out 1 (by omega)
  have xq2 : w4.cell? ⟨b0, o + 2, none⟩ = some q2 := HCL.out w4 HK4.out 2 (by omega)
  have xq3 : w4.cell? ⟨b0, o + 3, none⟩ = some q3 := HCL.out w4 HK4.out 3 (by omega)
  have xq4 : w4.cell? ⟨b0, o + 4, none⟩ = some q4 := HCL.out w4 HK4.out 4 (by omega)
  have xq5 : w4.cell? ⟨b0, o + 5, none⟩ = some q5 := HCL.out w4 HK4.out 5 (by omega)
  have xq6 : w4.cell? ⟨b0, o + 6, none⟩ = some q6 := HCL.out w4 HK4.out 6 (by omega)
  clear hT4 hK4 tb4 x6 yp3
  go_wp2_with fail
  go_region_held3 (fun w' => w'.cell? ⟨q, 0, none⟩ = some (.func (.func 45) #[] #[.pointer (some ⟨p, 0, none⟩), .pointer (some ⟨r, 0, none⟩), .pointer (some ⟨q, 0, none⟩)]) ∧ w'.cell? ⟨w.heap.size, 6, none⟩ = some (.slice (some ⟨b0, o, none⟩) 1 ct) ∧ w'.cell? ⟨b0, o, none⟩ = some q0 ∧ w'.cell? ⟨b0, o + 1, none⟩ = some q1 ∧ w'.cell? ⟨b0, o + 2, none⟩ = some q2 ∧ w'.cell? ⟨b0, o + 3, none⟩ = some q3 ∧ w'.cell? ⟨b0, o + 4, none⟩ = some q4 ∧ w'.cell? ⟨b0, o + 5, none⟩ = some q5 ∧ w'.cell? ⟨b0, o + 6, none⟩ = some q6)
    (go_keep)
    (first | (go_at_call 45; go_loud (refine (HW.out _ [q0, q1, q2, q3, q4, q5, q6] (HK4.out.trans (Upd.toKp (by repeat (first | exact Upd.refl _ _ | refine Upd.drew ?_)) b (Nat.le_of_lt HT4.out.bd.lt))) HIN.out (HT4.out.upd (by repeat (first | exact Upd.refl _ _ | refine Upd.drew ?_)))).mono ?_); rintro e w5 ⟨rfl, hT5, hK5⟩; have HK5 : Hid (Kp b w w5) := HK4.out.trans ((Upd.toKp (by repeat (first | exact Upd.refl _ _ | refine Upd.drew ?_)) b (Nat.le_of_lt HT4.out.bd.lt)).trans hK5); have tb5 := Tb.kp (HTB4.out.mono (S := []) (by repeat (first | exact Upd.refl _ _ | refine Upd.drew ?_)) (by simp)) (HT4.out.upd (by repeat (first | exact Upd.refl _ _ | refine Upd.drew ?_))).bd hK5; have zz6 : w5.cell? ⟨w.heap.size, 6, none⟩ = some (.slice (some ⟨b0, o, none⟩) 1 ct) := tb5.cell 6; have yq5 : w5.cell? ⟨q, 0, none⟩ = some (.func (.func 45) #[] #[.pointer (some ⟨p, 0, none⟩), .pointer (some ⟨r, 0, none⟩), .pointer (some ⟨q, 0, none⟩)]) := hT5.wr.cell; have yp5 : w5.cell? ⟨p, 0, none⟩ = some (.func (.func 42) #[] #[.pointer (some ⟨b, 0, none⟩)]) := hT5.put.cell; have xr0 : w5.cell? ⟨b0, o, none⟩ = some q0 := HCL.out w5 HK5.out 0 (by omega); have xr1 : w5.cell? ⟨b0, o + 1, none⟩ = some q1 := HCL.out w5 HK5.out 1 (by omega); have xr2 : w5.cell? ⟨b0, o + 2, none⟩ = some q2 := HCL.out w5 HK5.out 2 (by omega); have xr3 : w5.cell? ⟨b0, o + 3, none⟩ = some q3 := HCL.out w5 HK5.out 3 (by omega); have xr4 : w5.cell? ⟨b0, o + 4, none⟩ = some q4 := HCL.out w5 HK5.out 4 (by omega); have xr5 : w5.cell? ⟨b0, o + 5, none⟩ = some q5 := HCL.out w5 HK5.out 5 (by omega); have xr6 : w5.cell? ⟨b0, o + 6, none⟩ = some q6 := HCL.out w5 HK5.out 6 (by omega)))
  all_goals
    have HT5 : Hid (TS w5 b p q r (l ++ [91] ++ txI I ++ [124] ++ txT u)) := hT5
    clear hT5 hK5 tb5 zz6 yq5 xq0 xq1 xq2 xq3 xq4 xq5 xq6 xr0 xr1 xr2 xr3 xr4 xr5 xr6 yq z6
    go_wp2_with fail
    refine (put_one HT5.out [93] (by have := HL.out; simp only [List.length_append, List.length_cons, List.length_nil] at this ⊢; omega)).mono ?_
    rintro e w6 ⟨rfl, hT6, hK6⟩
    go_wp2
    go_end0
    refine ⟨rfl, ?_, HK5.out.trans hK6⟩
    have e : l ++ 91 :: (txI I ++ 124 :: txT u ++ [93]) = l ++ [91] ++ txI I ++ [124] ++ txT u ++ [93] := by simp
    rw [e]
    exact hT6
end Go.Proofs.YtabknipgbmdipaaGreatDoor
