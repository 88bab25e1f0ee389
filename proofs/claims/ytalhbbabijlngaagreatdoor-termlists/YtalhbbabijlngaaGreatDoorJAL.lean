/- write, of lists, by its contract. -/
import Derived.Test.YtalhbbabijlngaaGreatDoorJAK
namespace Go.Proofs.YtalhbbabijlngaaGreatDoor
open Go.RowKit
set_option maxHeartbeats 1000000 in
set_option maxRecDepth 100000 in
theorem wr_list0 (d : Nat) (ih : WriteSaid d) (w : World) (b p q r : Nat) (l : List UInt8) (a ai at' : Option Addr) (n1 c ci ct : Nat) (neg : Bool) (s : ByteArray) (num : Int) (I : List Tm)
  (hI : RowB (fun x => x < b) (InB (fun x => x < b) w d) w ai I) (hok : okR I = true) (hs : tszs I ≤ 1353245080330) (hG : GlbB b w) (hT : TS w b p q r l) (hlen : l.length + (91 :: (txI I ++ [93])).length ≤ 140737488355328) :
  Calls Tryz.prog 45 #[.agg #[.int .u8 7, .bool neg, .slice a n1 c, .string s, .int .i64 num, .slice ai I.length ci, .slice at' 0 ct], .pointer (some ⟨p, 0, none⟩), .pointer (some ⟨r, 0, none⟩), .pointer (some ⟨q, 0, none⟩)] w (WrP w b p q r l (91 :: (txI I ++ [93]))) := by
 have hcall1 : ∀ args w, (callFunc 42 args).run Tryz.prog w = .ok (.enter 42 args) w := Tryz.call42
 have hcall2 : ∀ args w, (callFunc 44 args).run Tryz.prog w = .ok (.enter 44 args) w := Tryz.call44
 have tb0 : Tb (w.alloc (.cells #[.int .u8 7, .bool neg, .slice a n1 c, .string s, .int .i64 num, .slice ai I.length ci, .slice at' 0 ct] 26)) w.heap.size #[.int .u8 7, .bool neg, .slice a n1 c, .string s, .int .i64 num, .slice ai I.length ci, .slice at' 0 ct] := Tb.new _ _ _ rfl
 have hU1 : Upd [] w (w.alloc (.cells #[.int .u8 7, .bool neg, .slice a n1 c, .string s, .int .i64 num, .slice ai I.length ci, .slice at' 0 ct] 26)) := (Upd.refl [] w).alloc _
 simp only [List.length_cons, List.length_append, List.length_nil] at hlen
 have htl := txI_len I
 have HR : Hid (∀ W, Kp b w W → TS W b p q r (l ++ [91]) → Calls Tryz.prog 44 #[.slice ai I.length ci, .pointer (some ⟨p, 0, none⟩), .pointer (some ⟨q, 0, none⟩)] W (WrP W b p q r (l ++ [91]) (txI I))) := fun W hK hT2 =>
  row_in d ih W b p q r (l ++ [91]) ai ci I (RowB.below hK.below hI) hok hs (by simp only [List.length_append, List.length_singleton]; omega) (hG.below hK.below) hT2
 have hbz := hT.bd.lt
 have HT : Hid (TS w b p q r l) := hT
 have HL : Hid _ := hlen
 clear hok hs hG hT hlen hI ih
 have hTW := HT.out.upd hU1
 have yp : (w.alloc (.cells #[.int .u8 7, .bool neg, .slice a n1 c, .string s, .int .i64 num, .slice ai I.length ci, .slice at' 0 ct] 26)).cell? ⟨p, 0, none⟩ = some (.func (.func 42) #[] #[.pointer (some ⟨b, 0, none⟩)]) := hTW.put.cell
 have hK1 := hU1.toKp b (Nat.le_of_lt hbz)
 have HTW : Hid _ := hTW
 have HK1 : Hid _ := hK1
 have HTB : Hid (Tb _ w.heap.size #[.int .u8 7, .bool neg, .slice a n1 c, .string s, .int .i64 num, .slice ai I.length ci, .slice at' 0 ct]) := tb0
 clear hTW hK1 tb0 hU1
 go_enter Tryz.func45, Tryz.ntmps45
 go_wp2_with fail
 refine (put_one_at HTW.out [91] (by have := HL.out; simp only [List.length_singleton]; omega) (w.heap.size + 1) (by simp) ⟨#[91]⟩ rfl).mono ?_
 rintro e w2 ⟨rfl, hT2, hK2⟩
 have tb2 := Tb.kp HTB.out HTW.out.bd hK2
 have x5 : w2.cell? ⟨w.heap.size, 5, none⟩ = some (.slice ai I.length ci) := tb2.cell 5
 have yr : w2.cell? ⟨r, 0, none⟩ = some (.func (.func 44) #[] #[.pointer (some ⟨p, 0, none⟩), .pointer (some ⟨q, 0, none⟩)]) := hT2.row.cell
 have HT2 : Hid (TS w2 b p q r (l ++ [91])) := hT2
 have HK2 : Hid (Kp b w w2) := HK1.out.trans hK2
 have HTB2 : Hid (Tb w2 w.heap.size #[.int .u8 7, .bool neg, .slice a n1 c, .string s, .int .i64 num, .slice ai I.length ci, .slice at' 0 ct]) := tb2
 clear hT2 hK2 tb2 yp
 go_wp2_with fail
 refine (HR.out w2 HK2.out HT2.out).mono ?_
 rintro e w3 ⟨rfl, hT3, hK3⟩
 have x6 : w3.cell? ⟨w.heap.size, 6, none⟩ = some (.slice at' 0 ct) := (Tb.kp HTB2.out HT2.out.bd hK3).cell 6
 have yp3 : w3.cell? ⟨p, 0, none⟩ = some (.func (.func 42) #[] #[.pointer (some ⟨b, 0, none⟩)]) := hT3.put.cell
 have HT3 : Hid (TS w3 b p q r (l ++ [91] ++ txI I)) := hT3
 have HK3 : Hid (Kp b w w3) := HK2.out.trans hK3
 clear hT3 hK3 x5 yr
 go_wp2_with fail
 refine (put_one HT3.out [93] (by have := HL.out; simp only [List.length_append, List.length_singleton]; omega)).mono ?_
 rintro e w4 ⟨rfl, hT4, hK4⟩
 go_wp2
 go_end0
 refine ⟨rfl, ?_, HK3.out.trans hK4⟩
 have e : l ++ 91 :: (txI I ++ [93]) = l ++ [91] ++ txI I ++ [93] := by simp
 rw [e]
 exact hT4
set_option maxHeartbeats 4000000 in
set_option maxRecDepth 100000 in
theorem wr_list1 (d : Nat) (ih : WriteSaid d) (w : World) (b p q r : Nat) (l : List UInt8) (a ai at' : Option Addr) (n1 c ci ct : Nat) (neg : Bool) (s : ByteArray) (num : Int) (I : List Tm) (u : Tm)
  (hI : RowB (fun x => x < b) (InB (fun x => x < b) w d) w ai I) (hI2 : RowB (fun x => x < b) (InB (fun x => x < b) w d) w at' [u]) (hok2 : okT' u = true) (hs2 : tsz u ≤ 1353245080330) (hok : okR I = true) (hs : tszs I ≤ 1353245080330) (hG : GlbB b w) (hT : TS w b p q r l) (hlen : l.length + (91 :: (txI I ++ 124 :: txT u ++ [93])).length ≤ 140737488355328) :
  Calls Tryz.prog 45 #[.agg #[.int .u8 7, .bool neg, .slice a n1 c, .string s, .int .i64 num, .slice ai I.length ci, .slice at' 1 ct], .pointer (some ⟨p, 0, none⟩), .pointer (some ⟨r, 0, none⟩), .pointer (some ⟨q, 0, none⟩)] w (WrP w b p q r l (91 :: (txI I ++ 124 :: txT u ++ [93]))) := by
 have hcall1 : ∀ args w, (callFunc 42 args).run Tryz.prog w = .ok (.enter 42 args) w := Tryz.call42
 have hcall2 : ∀ args w, (callFunc 44 args).run Tryz.prog w = .ok (.enter 44 args) w := Tryz.call44
 have tb0 : Tb (w.alloc (.cells #[.int .u8 7, .bool neg, .slice a n1 c, .string s, .int .i64 num, .slice ai I.length ci, .slice at' 1 ct] 26)) w.heap.size #[.int .u8 7, .bool neg, .slice a n1 c, .string s, .int .i64 num, .slice ai I.length ci, .slice at' 1 ct] := Tb.new _ _ _ rfl
 have hU1 : Upd [] w (w.alloc (.cells #[.int .u8 7, .bool neg, .slice a n1 c, .string s, .int .i64 num, .slice ai I.length ci, .slice at' 1 ct] 26)) := (Upd.refl [] w).alloc _
 simp only [List.length_cons, List.length_append, List.length_nil] at hlen
 have htl := txI_len I
 have HR : Hid (∀ W, Kp b w W → TS W b p q r (l ++ [91]) → Calls Tryz.prog 44 #[.slice ai I.length ci, .pointer (some ⟨p, 0, none⟩), .pointer (some ⟨q, 0, none⟩)] W (WrP W b p q r (l ++ [91]) (txI I))) := fun W hK hT2 =>
  row_in d ih W b p q r (l ++ [91]) ai ci I (RowB.below hK.below hI) hok hs (by simp only [List.length_append, List.length_singleton]; omega) (hG.below hK.below) hT2
 have HW : Hid (∀ W cs, Kp b w W → InB (fun x => x < b) w d cs u → TS W b p q r (l ++ [91] ++ txI I ++ [124]) → Calls Tryz.prog 45 #[.agg cs.toArray, .pointer (some ⟨p, 0, none⟩), .pointer (some ⟨r, 0, none⟩), .pointer (some ⟨q, 0, none⟩)] W (WrP W b p q r (l ++ [91] ++ txI I ++ [124]) (txT u))) := fun W cs hK hin hT2 =>
  ih W b p q r (l ++ [91] ++ txI I ++ [124]) cs u (InB.below hK.below _ _ _ hin) hok2 hs2 (by simp only [List.length_append, List.length_singleton]; omega) (hG.below hK.below) hT2
 have hcall3 : ∀ args w, (callFunc 45 args).run Tryz.prog w = .ok (.enter 45 args) w := Tryz.call45
 have hbz := hT.bd.lt
 obtain ⟨b0, o, rfl, hb0, hb1, hc⟩ : ∃ b0 o, at' = some ⟨b0, o, none⟩ ∧ b0 < b ∧ b0 < w.heap.size ∧ ∃ cs : List Value, cs.length = 7 ∧ (∀ j, j < 7 → w.cell? ⟨b0, o + j, none⟩ = cs[j]?) ∧ InB (fun x => x < b) w d cs u := by
  rcases hI2 with h0 | ⟨b0, o, e, h1, h2, h3⟩
  ·simp at h0
  ·obtain ⟨cs, k1, k2, k3⟩ := h3 0 (by simp)
   exact ⟨b0, o, e, h1, h2, cs, k1, fun j hj => by have := k2 j hj; simpa using this, k3⟩
 obtain ⟨cs, hl7, hcell, hin⟩ := hc
 obtain ⟨q0, q1, q2, q3, q4, q5, q6, rfl⟩ := list7 hl7
 have HIN : Hid (InB (fun x => x < b) w d [q0, q1, q2, q3, q4, q5, q6] u) := hin
 have HCL : Hid (∀ W, Kp b w W → ∀ j, j < 7 → W.cell? ⟨b0, o + j, none⟩ = [q0, q1, q2, q3, q4, q5, q6][j]?) := fun W hK j hj => (below_cell (a := ⟨b0, o + j, none⟩) hK.below hb0).trans (hcell j hj)
 clear hcell hin hI2 hok2 hs2
 have HT : Hid (TS w b p q r l) := hT
 have HL : Hid _ := hlen
 clear hok hs hG hT hlen hI ih
 have hTW := HT.out.upd hU1
 have yp : (w.alloc (.cells #[.int .u8 7, .bool neg, .slice a n1 c, .string s, .int .i64 num, .slice ai I.length ci, .slice (some ⟨b0, o, none⟩) 1 ct] 26)).cell? ⟨p, 0, none⟩ = some (.func (.func 42) #[] #[.pointer (some ⟨b, 0, none⟩)]) := hTW.put.cell
 have hK1 := hU1.toKp b (Nat.le_of_lt hbz)
 have HTW : Hid _ := hTW
 have HK1 : Hid _ := hK1
 have HTB : Hid (Tb _ w.heap.size #[.int .u8 7, .bool neg, .slice a n1 c, .string s, .int .i64 num, .slice ai I.length ci, .slice (some ⟨b0, o, none⟩) 1 ct]) := tb0
 clear hTW hK1 tb0 hU1
 go_enter Tryz.func45, Tryz.ntmps45
 go_wp2_with fail
 refine (put_one_at HTW.out [91] (by have := HL.out; simp only [List.length_singleton]; omega) (w.heap.size + 1) (by simp) ⟨#[91]⟩ rfl).mono ?_
 rintro e w2 ⟨rfl, hT2, hK2⟩
 have tb2 := Tb.kp HTB.out HTW.out.bd hK2
 have x5 : w2.cell? ⟨w.heap.size, 5, none⟩ = some (.slice ai I.length ci) := tb2.cell 5
 have yr : w2.cell? ⟨r, 0, none⟩ = some (.func (.func 44) #[] #[.pointer (some ⟨p, 0, none⟩), .pointer (some ⟨q, 0, none⟩)]) := hT2.row.cell
 have HT2 : Hid (TS w2 b p q r (l ++ [91])) := hT2
 have HK2 : Hid (Kp b w w2) := HK1.out.trans hK2
 have HTB2 : Hid (Tb w2 w.heap.size #[.int .u8 7, .bool neg, .slice a n1 c, .string s, .int .i64 num, .slice ai I.length ci, .slice (some ⟨b0, o, none⟩) 1 ct]) := tb2
 clear hT2 hK2 tb2 yp
 go_wp2_with fail
 refine (HR.out w2 HK2.out HT2.out).mono ?_
 rintro e w3 ⟨rfl, hT3, hK3⟩
 have x6 : w3.cell? ⟨w.heap.size, 6, none⟩ = some (.slice (some ⟨b0, o, none⟩) 1 ct) := (Tb.kp HTB2.out HT2.out.bd hK3).cell 6
 have yp3 : w3.cell? ⟨p, 0, none⟩ = some (.func (.func 42) #[] #[.pointer (some ⟨b, 0, none⟩)]) := hT3.put.cell
 have HT3 : Hid (TS w3 b p q r (l ++ [91] ++ txI I)) := hT3
 have HK3 : Hid (Kp b w w3) := HK2.out.trans hK3
 have HTB3 : Hid (Tb w3 w.heap.size #[.int .u8 7, .bool neg, .slice a n1 c, .string s, .int .i64 num, .slice ai I.length ci, .slice (some ⟨b0, o, none⟩) 1 ct]) := Tb.kp HTB2.out HT2.out.bd hK3
 clear hT3 hK3 x5 yr
 go_wp2_with fail
 refine (put_one HT3.out [124] (by have := HL.out; simp only [List.length_append, List.length_cons, List.length_nil] at this ⊢; omega)).mono ?_
 rintro e w4 ⟨rfl, hT4, hK4⟩
 have tb4 := Tb.kp HTB3.out HT3.out.bd hK4
 have z6 : w4.cell? ⟨w.heap.size, 6, none⟩ = some (.slice (some ⟨b0, o, none⟩) 1 ct) := tb4.cell 6
 have yq : w4.cell? ⟨q, 0, none⟩ = some (.func (.func 45) #[] #[.pointer (some ⟨p, 0, none⟩), .pointer (some ⟨r, 0, none⟩), .pointer (some ⟨q, 0, none⟩)]) := hT4.wr.cell
 have HT4 : Hid (TS w4 b p q r (l ++ [91] ++ txI I ++ [124])) := hT4
 have HK4 : Hid (Kp b w w4) := HK3.out.trans hK4
 have HTB4 : Hid (Tb w4 w.heap.size _) := tb4
 have xq0 : w4.cell? ⟨b0, o, none⟩ = some q0 := HCL.out w4 HK4.out 0 (by omega)
 have xq1 : w4.cell? ⟨b0, o + 1, none⟩ = some q1 := HCL.out w4 HK4.out 1 (by omega)
 have xq2 : w4.cell? ⟨b0, o + 2, none⟩ = some q2 := HCL.out w4 HK4.out 2 (by omega)
 have xq3 : w4.cell? ⟨b0, o + 3, none⟩ = some q3 := HCL.out w4 HK4.out 3 (by omega)
 have xq4 : w4.cell? ⟨b0, o + 4, none⟩ = some q4 := HCL.out w4 HK4.out 4 (by omega)
 have xq5 : w4.cell? ⟨b0, o + 5, none⟩ = some q5 := HCL.out w4 HK4.out 5 (by omega)
 have xq6 : w4.cell? ⟨b0, o + 6, none⟩ = some q6 := HCL.out w4 HK4.out 6 (by omega)
 clear hT4 hK4 tb4 x6 yp3
 go_wp2_with fail
 go_region_held3 (fun w' => w'.cell? ⟨q, 0, none⟩ = some (.func (.func 45) #[] #[.pointer (some ⟨p, 0, none⟩), .pointer (some ⟨r, 0, none⟩), .pointer (some ⟨q, 0, none⟩)]) ∧ w'.cell? ⟨w.heap.size, 6, none⟩ = some (.slice (some ⟨b0, o, none⟩) 1 ct) ∧ w'.cell? ⟨b0, o, none⟩ = some q0 ∧ w'.cell? ⟨b0, o + 1, none⟩ = some q1 ∧ w'.cell? ⟨b0, o + 2, none⟩ = some q2 ∧ w'.cell? ⟨b0, o + 3, none⟩ = some q3 ∧ w'.cell? ⟨b0, o + 4, none⟩ = some q4 ∧ w'.cell? ⟨b0, o + 5, none⟩ = some q5 ∧ w'.cell? ⟨b0, o + 6, none⟩ = some q6)
  (go_keep)
  (first | (go_at_call 45; go_loud (refine (HW.out _ [q0, q1, q2, q3, q4, q5, q6] (HK4.out.trans (Upd.toKp (by repeat (first | exact Upd.refl _ _ | refine Upd.drew ?_)) b (Nat.le_of_lt HT4.out.bd.lt))) HIN.out (HT4.out.upd (by repeat (first | exact Upd.refl _ _ | refine Upd.drew ?_)))).mono ?_); rintro e w5 ⟨rfl, hT5, hK5⟩; have HK5 : Hid (Kp b w w5) := HK4.out.trans ((Upd.toKp (by repeat (first | exact Upd.refl _ _ | refine Upd.drew ?_)) b (Nat.le_of_lt HT4.out.bd.lt)).trans hK5); have tb5 := Tb.kp (HTB4.out.mono (S := []) (by repeat (first | exact Upd.refl _ _ | refine Upd.drew ?_)) (by simp)) (HT4.out.upd (by repeat (first | exact Upd.refl _ _ | refine Upd.drew ?_))).bd hK5; have zz6 : w5.cell? ⟨w.heap.size, 6, none⟩ = some (.slice (some ⟨b0, o, none⟩) 1 ct) := tb5.cell 6; have yq5 : w5.cell? ⟨q, 0, none⟩ = some (.func (.func 45) #[] #[.pointer (some ⟨p, 0, none⟩), .pointer (some ⟨r, 0, none⟩), .pointer (some ⟨q, 0, none⟩)]) := hT5.wr.cell; have yp5 : w5.cell? ⟨p, 0, none⟩ = some (.func (.func 42) #[] #[.pointer (some ⟨b, 0, none⟩)]) := hT5.put.cell; have xr0 : w5.cell? ⟨b0, o, none⟩ = some q0 := HCL.out w5 HK5.out 0 (by omega); have xr1 : w5.cell? ⟨b0, o + 1, none⟩ = some q1 := HCL.out w5 HK5.out 1 (by omega); have xr2 : w5.cell? ⟨b0, o + 2, none⟩ = some q2 := HCL.out w5 HK5.out 2 (by omega); have xr3 : w5.cell? ⟨b0, o + 3, none⟩ = some q3 := HCL.out w5 HK5.out 3 (by omega); have xr4 : w5.cell? ⟨b0, o + 4, none⟩ = some q4 := HCL.out w5 HK5.out 4 (by omega); have xr5 : w5.cell? ⟨b0, o + 5, none⟩ = some q5 := HCL.out w5 HK5.out 5 (by omega); have xr6 : w5.cell? ⟨b0, o + 6, none⟩ = some q6 := HCL.out w5 HK5.out 6 (by omega)))
 all_goals
  have HT5 : Hid (TS w5 b p q r (l ++ [91] ++ txI I ++ [124] ++ txT u)) := hT5
  clear hT5 hK5 tb5 zz6 yq5 xq0 xq1 xq2 xq3 xq4 xq5 xq6 xr0 xr1 xr2 xr3 xr4 xr5 xr6 yq z6
  go_wp2_with fail
  refine (put_one HT5.out [93] (by have := HL.out; simp only [List.length_append, List.length_cons, List.length_nil] at this ⊢; omega)).mono ?_
  rintro e w6 ⟨rfl, hT6, hK6⟩
  go_wp2
  go_end0
  refine ⟨rfl, ?_, HK5.out.trans hK6⟩
  have e : l ++ 91 :: (txI I ++ 124 :: txT u ++ [93]) = l ++ [91] ++ txI I ++ [124] ++ txT u ++ [93] := by simp
  rw [e]
  exact hT6
end Go.Proofs.YtalhbbabijlngaaGreatDoor
namespace Go.Proofs.YtalhbbabijlngaaGreatDoor
open Go.RowKit
theorem okF_atom {num : Int} {neg : Bool} {L : List Nat} {s : ByteArray} {ni : Nat} {T : List Tm} (h : okF 2 num neg L s ni T = true) : s.size ≤ 40 := by
 unfold okF at h
 simp at h
 omega
theorem At.ofB {P : Nat → Prop} {w : World} {a : Option Addr} {L : List Nat} (h : AtB P w a L) : At w a L := by
 rcases h with h | ⟨b, o, e, _, hlt, hc⟩
 ·exact Or.inl h
 ·exact Or.inr ⟨b, o, e, hlt, hc⟩
theorem okF_num {k num : Int} {neg : Bool} {L : List Nat} {s : ByteArray} {ni : Nat} {T : List Tm} (hk : k = 3 ∨ k = 4 ∨ k = 5) (h : okF k num neg L s ni T = true) : 0 ≤ num ∧ num ≤ 1099511627776 := by
 unfold okF at h
 rcases hk with rfl | rfl | rfl <;> simp at h <;> omega
theorem okF_kind {k num : Int} {neg : Bool} {L : List Nat} {s : ByteArray} {ni : Nat} {T : List Tm} (h : okF k num neg L s ni T = true) : k = 1 ∨ k = 2 ∨ k = 3 ∨ k = 4 ∨ k = 5 ∨ k = 6 ∨ k = 7 := by
 unfold okF at h
 by_cases h1 : k = 1
 ·omega
 by_cases h2 : k = 2
 ·omega
 by_cases h3 : k = 3 ∨ k = 5
 ·omega
 by_cases h4 : k = 4
 ·omega
 by_cases h6 : k = 6
 ·omega
 by_cases h7 : k = 7
 ·omega
 rw [if_neg h1, if_neg h2, if_neg h3, if_neg h4, if_neg h6, if_neg h7] at h
 simp at h
theorem Write_step (d : Nat) (ih : WriteSaid d) : WriteSaid (d + 1) := by
 intro w b p q r l cs t h hok hs hlen hG hT
 obtain ⟨k, num, neg, L, s, I, T⟩ := t
 obtain ⟨a, ai, at', c, ci, ct, rfl, hA, hD, hI, hT'⟩ := h
 rw [okT', Bool.and_eq_true, Bool.and_eq_true] at hok
 obtain ⟨⟨hf, hoI⟩, hoT⟩ := hok
 simp only [tsz] at hs
 have hsI : tszs I ≤ 1353245080330 := by omega
 have hsT : tszs T ≤ 1353245080330 := by omega
 rcases okF_kind hf with rfl | rfl | rfl | rfl | rfl | rfl | rfl
 ·obtain ⟨p1, rfl, rfl, p4, rfl⟩ := okF_int hf
  have p5 := List.eq_nil_of_length_eq_zero p4
  subst p5
  have e : txT (.mk 1 0 neg L ⟨#[]⟩ [] []) = wtx (zv neg L) := by rw [txT, if_pos rfl]
  rw [e] at hlen ⊢
  exact wr_int w b p q r l a ai at' c ci ct neg L p1 hD (At.ofB hA) hT hlen
 ·have e : txT (.mk 2 num neg L s I T) = atomTx (byt s) := by rw [txT, if_neg (by decide), if_pos rfl]
  rw [e] at hlen ⊢
  exact wr_atom w b p q r l a ai at' L.length c I.length ci T.length ct neg s num (by have := okF_atom hf; omega) hG.plain hT hlen
 ·have e : txT (.mk 3 num neg L s I T) = [35, 82, 101, 102, 60] ++ (Lib.itoa num ++ [62]) := by rw [txT, if_neg (by decide), if_neg (by decide), if_pos rfl]
  rw [e] at hlen ⊢
  have hn := okF_num (by decide) hf
  exact wr_ref w b p q r l a ai at' L.length c I.length ci T.length ct neg s num hn.1 hn.2 hG.plain hT hlen
 ·have e : txT (.mk 4 num neg L s I T) = [35, 70, 117, 110, 60] ++ (Lib.itoa num ++ [62]) := by rw [txT, if_neg (by decide), if_neg (by decide), if_neg (by decide), if_pos rfl]
  rw [e] at hlen ⊢
  have hn := okF_num (by decide) hf
  exact wr_fun w b p q r l a ai at' L.length c I.length ci T.length ct neg s num hn.1 hn.2 hG.plain hT hlen
 ·have e : txT (.mk 5 num neg L s I T) = [60] ++ (Lib.itoa num ++ [62]) := by rw [txT, if_neg (by decide), if_neg (by decide), if_neg (by decide), if_neg (by decide), if_pos rfl]
  rw [e] at hlen ⊢
  have hn := okF_num (by decide) hf
  exact wr_pid w b p q r l a ai at' L.length c I.length ci T.length ct neg s num hn.1 hn.2 hG.plain hT hlen
 ·have e : txT (.mk 6 num neg L s I T) = 123 :: (txI I ++ [125]) := by rw [txT, if_neg (by decide), if_neg (by decide), if_neg (by decide), if_neg (by decide), if_neg (by decide), if_pos rfl]; rfl
  rw [e] at hlen ⊢
  exact wr_tuple d ih w b p q r l a ai at' L.length c ci T.length ct neg s num I hI hoI hsI hG hT hlen
 ·rcases okF_tail2 hf with rfl | ⟨u, rfl, _⟩
  ·have e : txT (.mk 7 num neg L s I []) = 91 :: (txI I ++ [93]) := by rw [txT, if_neg (by decide), if_neg (by decide), if_neg (by decide), if_neg (by decide), if_neg (by decide), if_neg (by decide), if_pos rfl, txB, List.append_nil]; rfl
   rw [e] at hlen ⊢
   exact wr_list0 d ih w b p q r l a ai at' L.length c ci ct neg s num I hI hoI hsI hG hT hlen
  ·have e : txT (.mk 7 num neg L s I [u]) = 91 :: (txI I ++ 124 :: txT u ++ [93]) := by rw [txT, if_neg (by decide), if_neg (by decide), if_neg (by decide), if_neg (by decide), if_neg (by decide), if_neg (by decide), if_pos rfl, txB]; rfl
   rw [e] at hlen ⊢
   have hu : tsz u ≤ 1353245080330 := by have := tszs_get [u] 0 (by simp); simp at this; omega
   exact wr_list1 d ih w b p q r l a ai at' L.length c ci ct neg s num I u hI hT' (okR_get [u] 0 (by simp) hoT) hu hoI hsI hG hT hlen
theorem Write_all (d : Nat) : WriteSaid d := by
 induction d with
 | zero => intro w b p q r l cs t h; exact h.elim
 | succ d ih => exact Write_step d ih
end Go.Proofs.YtalhbbabijlngaaGreatDoor
namespace Go.Proofs.YtalhbbabijlngaaGreatDoor
open Go.RowKit
theorem GlbB.wide {b b' : Nat} {w : World} (h : GlbB b w) (hb : b ≤ b') : GlbB b' w := by
 obtain ⟨⟨bw, o, c, h0, h1, h2⟩, hp, hl⟩ := h
 exact ⟨⟨bw, o, c, by omega, by omega, h2⟩, hp, by omega⟩
def TxW (w : World) : World := (((w.alloc (.cells #[.pointer none, .slice none 0 0] 54)).alloc (.cells #[.func (.func 42) #[] #[.pointer (some ⟨w.heap.size, 0, none⟩)]] 60)).alloc (.cells #[.func (.func 45) #[] #[.pointer (some ⟨w.heap.size + 1, 0, none⟩), .pointer (some ⟨w.heap.size + 3, 0, none⟩), .pointer (some ⟨w.heap.size + 2, 0, none⟩)]] 34)).alloc (.cells #[.func (.func 44) #[] #[.pointer (some ⟨w.heap.size + 1, 0, none⟩), .pointer (some ⟨w.heap.size + 2, 0, none⟩)]] 61)
theorem TxW.upd (w : World) : Upd [] w (TxW w) := ((((Upd.refl [] w).alloc _).alloc _).alloc _).alloc _
theorem TxW.ts (w : World) : TS (TxW w) w.heap.size (w.heap.size + 1) (w.heap.size + 2) (w.heap.size + 3) [] := by
 refine ⟨?_, ?_, ?_, ?_⟩
 ·have h := Bd.fresh w
  exact Bd.upd h ((((Upd.refl [] _).alloc _).alloc _).alloc _)
 ·have h : FunB ((w.alloc (.cells #[.pointer none, .slice none 0 0] 54)).alloc (.cells #[.func (.func 42) #[] #[.pointer (some ⟨w.heap.size, 0, none⟩)]] 60)) (w.heap.size + 1) _ _ := FunB.new _ _ _ _ (by simp)
  exact FunB.mono (S := []) h (((Upd.refl [] _).alloc _).alloc _) (by simp)
 ·have h : FunB (((w.alloc (.cells #[.pointer none, .slice none 0 0] 54)).alloc (.cells #[.func (.func 42) #[] #[.pointer (some ⟨w.heap.size, 0, none⟩)]] 60)).alloc (.cells #[.func (.func 45) #[] #[.pointer (some ⟨w.heap.size + 1, 0, none⟩), .pointer (some ⟨w.heap.size + 3, 0, none⟩), .pointer (some ⟨w.heap.size + 2, 0, none⟩)]] 34)) (w.heap.size + 2) _ _ := FunB.new _ _ _ _ (by simp)
  exact FunB.mono (S := []) h ((Upd.refl [] _).alloc _) (by simp)
 ·exact FunB.new _ _ _ _ (by simp)
set_option maxHeartbeats 4000000 in
set_option maxRecDepth 100000 in
theorem TText_in (d : Nat) (w : World) (cs : List Value) (t : Tm) (h : In w d cs t) (hok : okS t = true) (hs : tsz t ≤ 1353245080330) (hlen : (txT t).length ≤ 140737488355328) (hG : Glb w) :
  Calls Tryz.prog 11 #[.agg cs.toArray] w fun e w' => e = .returned (.string (str (txT t))) ∧ Upd [] w w' := by
 have hone := h.one
 have hsev := h.seven
 have hok' : okT' t = true := by unfold okS at hok; rw [Bool.and_eq_true] at hok; exact hok.1
 have tb0 : Tb (w.alloc (.cells cs.toArray 26)) w.heap.size cs.toArray := Tb.new _ _ _ rfl
 have hU1 : Upd [] w (w.alloc (.cells cs.toArray 26)) := (Upd.refl [] w).alloc _
 have HR : Hid (∀ W, Upd [] w W → Calls Tryz.prog 9 #[.agg cs.toArray] W fun e w' => e = .returned (.bool true) ∧ Upd [] W w') := fun W hU => by
  have := TRight_in d W cs t (In.mono hU _ _ _ h) hs
  rw [hok] at this
  exact this
 have HW : Hid (∀ W1, Upd [] w W1 → Calls Tryz.prog 45 #[.agg cs.toArray, .pointer (some ⟨W1.heap.size + 1, 0, none⟩), .pointer (some ⟨W1.heap.size + 3, 0, none⟩), .pointer (some ⟨W1.heap.size + 2, 0, none⟩)] (TxW W1) (WrP (TxW W1) W1.heap.size (W1.heap.size + 1) (W1.heap.size + 2) (W1.heap.size + 3) [] (txT t))) := fun W1 hU =>
  Write_all d (TxW W1) W1.heap.size _ _ _ [] cs t (In.toB (fun x hx => Nat.lt_of_lt_of_le hx hU.size) (hU.trans (TxW.upd W1)) _ _ _ h) hok' hs (by simpa using hlen) ((hG.toB (hU.trans (TxW.upd W1))).wide hU.size) (TxW.ts W1)
 have HTS : Hid (∀ W1, TS (TxW W1) W1.heap.size (W1.heap.size + 1) (W1.heap.size + 2) (W1.heap.size + 3) []) := TxW.ts
 have hcall3 : ∀ args w, (callFunc 45 args).run Tryz.prog w = .ok (.enter 45 args) w := Tryz.call45
 clear h hok hok' hs hlen hG
 obtain ⟨C, hC⟩ : ∃ C, C = cs.toArray := ⟨_, rfl⟩
 rw [← hC] at hone hsev HR HW tb0 hU1 ⊢
 clear hC
 go_enter Tryz.func11, Tryz.ntmps11
 go_wp2_with (first | (refine load_T _ rfl _ rfl _ _ rfl tb0 hsev ?_) | fail)
 refine Calls.mono (HR.out _ hU1) ?_
 rintro e w1 ⟨rfl, uw1⟩
 have tb1 : Tb (TxW w1) w.heap.size C := (tb0.mono uw1 (by simp)).mono (TxW.upd w1) (by simp)
 have HU1 : Hid (Upd [] w w1) := hU1.trans uw1
 clear hU1 uw1 tb0
 go_wp2_with (first | (refine load_T _ rfl _ rfl _ _ rfl tb1 hsev ?_) | fail)
 refine Calls.mono (HW.out w1 HU1.out) ?_
 rintro e w2 ⟨rfl, hT2, hK2⟩
 have HB2 : Hid (Bd w2 w1.heap.size (Lib.byteCells (txT t))) := by have := hT2.bd; rw [List.nil_append] at this; exact this
 have HU2 : Hid (Upd [] w w2) := Upd.kp (HU1.out.trans (TxW.upd w1)) HU1.out.size hK2
 clear hT2 hK2 tb1
 go_wp2_with fail
 refine Calls.mono (String_any _ (txT t) w2 HB2.out) ?_
 rintro e w3 ⟨rfl, hB3, hK3⟩
 go_wp2
 go_ret
 exact ⟨rfl, Upd.kp HU2.out HU1.out.size hK3⟩
end Go.Proofs.YtalhbbabijlngaaGreatDoor
