/- write, of integers and atoms, by its contract. -/
import Derived.Test.YtalhbbabijlngaaGreatDoorJAJ
import Derived.Deep.RegionHeld3
namespace Go.Proofs.YtalhbbabijlngaaGreatDoor
open Go.RowKit
theorem WrP.of {w w1 w' : World} {b p q r : Nat} {l m : List UInt8} {e : Ending} (h : WrP w1 b p q r l m e w') (hu : Upd [] w w1) (hb : b ≤ w.heap.size) : WrP w b p q r l m e w' := ⟨h.1, h.2.1, (hu.toKp b hb).trans h.2.2⟩
set_option maxHeartbeats 4000000 in
set_option maxRecDepth 100000 in
theorem wr_int (w : World) (b p q r : Nat) (l : List UInt8) (a ai at' : Option Addr) (c ci ct : Nat) (neg : Bool) (L : List Nat) (hok : okL neg L = true) (hd : Dig L) (hA : At w a L) (hT : TS w b p q r l) (hlen : l.length + (wtx (zv neg L)).length ≤ 140737488355328) :
  Calls Tryz.prog 45 #[.agg #[.int .u8 1, .bool neg, .slice a L.length c, .string ⟨#[]⟩, .int .i64 0, .slice ai 0 ci, .slice at' 0 ct], .pointer (some ⟨p, 0, none⟩), .pointer (some ⟨r, 0, none⟩), .pointer (some ⟨q, 0, none⟩)] w (WrP w b p q r l (wtx (zv neg L))) := by
 have hcall1 : ∀ args w, (callFunc 42 args).run Tryz.prog w = .ok (.enter 42 args) w := Tryz.call42
 have tb0 : Tb (w.alloc (.cells #[.int .u8 1, .bool neg, .slice a L.length c, .string ⟨#[]⟩, .int .i64 0, .slice ai 0 ci, .slice at' 0 ct] 26)) w.heap.size #[.int .u8 1, .bool neg, .slice a L.length c, .string ⟨#[]⟩, .int .i64 0, .slice ai 0 ci, .slice at' 0 ct] := Tb.new _ _ _ rfl
 have hU1 : Upd [] w (w.alloc (.cells #[.int .u8 1, .bool neg, .slice a L.length c, .string ⟨#[]⟩, .int .i64 0, .slice ai 0 ci, .slice at' 0 ct] 26)) := (Upd.refl [] w).alloc _
 have HX : Hid (∀ W, Upd [] w W → Calls Tryz.prog 46 #[.agg #[.int .u8 1, .bool neg, .slice a L.length c, .string ⟨#[]⟩, .int .i64 0, .slice ai 0 ci, .slice at' 0 ct]] W fun e w' => Upd [] W w' ∧ e = .returned (.string (str (wtx (zv neg L))))) := fun W hU => by
  refine (Text_any a ai at' c ci ct neg L _ W (TI.of hok hd (hA.mono hU))).mono ?_
  rintro e w' ⟨hU, T, rfl, hI⟩
  exact ⟨hU, by rw [bs_str hI]⟩
 have hbz := hT.bd.lt
 have HT : Hid (TS w b p q r l) := hT
 have HL : Hid _ := hlen
 clear hok hd hA hT hlen
 obtain ⟨W, hW⟩ : ∃ W, W = w.alloc (.cells #[.int .u8 1, .bool neg, .slice a L.length c, .string ⟨#[]⟩, .int .i64 0, .slice ai 0 ci, .slice at' 0 ct] 26) := ⟨_, rfl⟩
 go_enter Tryz.func45, Tryz.ntmps45
 go_wp2_with fail
 rw [← hW] at hU1 tb0 ⊢
 clear hW
 have x0 : W.cell? ⟨w.heap.size, 0, none⟩ = some (.int .u8 1) := tb0.cell 0
 have x1 : W.cell? ⟨w.heap.size, 1, none⟩ = some (.bool neg) := tb0.cell 1
 have x2 : W.cell? ⟨w.heap.size, 2, none⟩ = some (.slice a L.length c) := tb0.cell 2
 have x3 : W.cell? ⟨w.heap.size, 3, none⟩ = some (.string ⟨#[]⟩) := tb0.cell 3
 have x4 : W.cell? ⟨w.heap.size, 4, none⟩ = some (.int .i64 0) := tb0.cell 4
 have x5 : W.cell? ⟨w.heap.size, 5, none⟩ = some (.slice ai 0 ci) := tb0.cell 5
 have x6 : W.cell? ⟨w.heap.size, 6, none⟩ = some (.slice at' 0 ct) := tb0.cell 6
 have yp : W.cell? ⟨p, 0, none⟩ = some (.func (.func 42) #[] #[.pointer (some ⟨b, 0, none⟩)]) := (HT.out.upd hU1).put.cell
 have HU1 : Hid (Upd [] w W) := hU1
 have HTB : Hid (Tb W w.heap.size #[.int .u8 1, .bool neg, .slice a L.length c, .string ⟨#[]⟩, .int .i64 0, .slice ai 0 ci, .slice at' 0 ct]) := tb0
 clear hU1 tb0
 go_wp2_with fail
 go_region_held3 (fun w' => w'.cell? ⟨p, 0, none⟩ = some (.func (.func 42) #[] #[.pointer (some ⟨b, 0, none⟩)]) ∧ w'.cell? ⟨w.heap.size, 0, none⟩ = some (.int .u8 1) ∧ w'.cell? ⟨w.heap.size, 1, none⟩ = some (.bool neg) ∧ w'.cell? ⟨w.heap.size, 2, none⟩ = some (.slice a L.length c) ∧ w'.cell? ⟨w.heap.size, 3, none⟩ = some (.string ⟨#[]⟩) ∧ w'.cell? ⟨w.heap.size, 4, none⟩ = some (.int .i64 0) ∧ w'.cell? ⟨w.heap.size, 5, none⟩ = some (.slice ai 0 ci) ∧ w'.cell? ⟨w.heap.size, 6, none⟩ = some (.slice at' 0 ct))
  (go_keep)
  (first
   | (go_at_call 42; (have _ := uw2); go_loud (refine (put_one (HT.out.upd (HU1.out.trans uw2)) (wtx (zv neg L)) HL.out).mono ?_); rintro e w3 ⟨rfl, hT3, hK3⟩; have yp3 : w3.cell? ⟨p, 0, none⟩ = some (.func (.func 42) #[] #[.pointer (some ⟨b, 0, none⟩)]) := hT3.put.cell; have tb3 := (HTB.out.mono uw2 (by simp)).kp (HT.out.upd (HU1.out.trans uw2)).bd hK3; have t0 : w3.cell? ⟨w.heap.size, 0, none⟩ = some (.int .u8 1) := tb3.cell 0; have t1 : w3.cell? ⟨w.heap.size, 1, none⟩ = some (.bool neg) := tb3.cell 1; have t2 : w3.cell? ⟨w.heap.size, 2, none⟩ = some (.slice a L.length c) := tb3.cell 2; have t3 : w3.cell? ⟨w.heap.size, 3, none⟩ = some (.string ⟨#[]⟩) := tb3.cell 3; have t4 : w3.cell? ⟨w.heap.size, 4, none⟩ = some (.int .i64 0) := tb3.cell 4; have t5 : w3.cell? ⟨w.heap.size, 5, none⟩ = some (.slice ai 0 ci) := tb3.cell 5; have t6 : w3.cell? ⟨w.heap.size, 6, none⟩ = some (.slice at' 0 ct) := tb3.cell 6; clear tb3)
   | (go_at_call 46; go_loud (refine (HX.out _ (Upd.trans HU1.out (by repeat (first | exact Upd.refl _ _ | refine Upd.drew ?_)))).mono ?_); rintro e w2 ⟨hU2, rfl⟩; have uw2 : Upd [] W w2 := Upd.trans (by repeat (first | exact Upd.refl _ _ | refine Upd.drew ?_)) hU2; have yp2 : w2.cell? ⟨p, 0, none⟩ = some (.func (.func 42) #[] #[.pointer (some ⟨b, 0, none⟩)]) := (HT.out.upd (HU1.out.trans uw2)).put.cell; have tb2 := HTB.out.mono uw2 (by simp); have s0 : w2.cell? ⟨w.heap.size, 0, none⟩ = some (.int .u8 1) := tb2.cell 0; have s1 : w2.cell? ⟨w.heap.size, 1, none⟩ = some (.bool neg) := tb2.cell 1; have s2 : w2.cell? ⟨w.heap.size, 2, none⟩ = some (.slice a L.length c) := tb2.cell 2; have s3 : w2.cell? ⟨w.heap.size, 3, none⟩ = some (.string ⟨#[]⟩) := tb2.cell 3; have s4 : w2.cell? ⟨w.heap.size, 4, none⟩ = some (.int .i64 0) := tb2.cell 4; have s5 : w2.cell? ⟨w.heap.size, 5, none⟩ = some (.slice ai 0 ci) := tb2.cell 5; have s6 : w2.cell? ⟨w.heap.size, 6, none⟩ = some (.slice at' 0 ct) := tb2.cell 6; clear tb2))
 all_goals
  go_wp2
  go_end0
  exact WrP.of ⟨rfl, hT3, hK3⟩ (HU1.out.trans uw2) (Nat.le_of_lt hbz)
set_option maxHeartbeats 4000000 in
set_option maxRecDepth 100000 in
theorem wr_atom (w : World) (b p q r : Nat) (l : List UInt8) (a ai at' : Option Addr) (n1 c n2 ci n3 ct : Nat) (neg : Bool) (s : ByteArray) (num : Int) (hs : s.size ≤ 1000000000) (hG : Glb w) (hT : TS w b p q r l) (hlen : l.length + (atomTx (byt s)).length ≤ 140737488355328) :
  Calls Tryz.prog 45 #[.agg #[.int .u8 2, .bool neg, .slice a n1 c, .string s, .int .i64 num, .slice ai n2 ci, .slice at' n3 ct], .pointer (some ⟨p, 0, none⟩), .pointer (some ⟨r, 0, none⟩), .pointer (some ⟨q, 0, none⟩)] w (WrP w b p q r l (atomTx (byt s))) := by
 have hcall1 : ∀ args w, (callFunc 42 args).run Tryz.prog w = .ok (.enter 42 args) w := Tryz.call42
 have tb0 : Tb (w.alloc (.cells #[.int .u8 2, .bool neg, .slice a n1 c, .string s, .int .i64 num, .slice ai n2 ci, .slice at' n3 ct] 26)) w.heap.size #[.int .u8 2, .bool neg, .slice a n1 c, .string s, .int .i64 num, .slice ai n2 ci, .slice at' n3 ct] := Tb.new _ _ _ rfl
 have hU1 : Upd [] w (w.alloc (.cells #[.int .u8 2, .bool neg, .slice a n1 c, .string s, .int .i64 num, .slice ai n2 ci, .slice at' n3 ct] 26)) := (Upd.refl [] w).alloc _
 have HX : Hid (∀ W, Upd [] w W → Calls Tryz.prog 47 #[.string s] W fun e w' => Upd [] W w' ∧ e = .returned (.string (str (atomTx (byt s))))) := fun W hU => by
  refine (atomText_any s W hs (hG.mono hU).wds).mono ?_
  rintro e w' ⟨rfl, hU⟩
  exact ⟨hU, rfl⟩
 have hbz := hT.bd.lt
 have HT : Hid (TS w b p q r l) := hT
 have HL : Hid _ := hlen
 clear hG hT hlen
 obtain ⟨W, hW⟩ : ∃ W, W = w.alloc (.cells #[.int .u8 2, .bool neg, .slice a n1 c, .string s, .int .i64 num, .slice ai n2 ci, .slice at' n3 ct] 26) := ⟨_, rfl⟩
 go_enter Tryz.func45, Tryz.ntmps45
 go_wp2_with fail
 rw [← hW] at hU1 tb0 ⊢
 clear hW
 have x0 : W.cell? ⟨w.heap.size, 0, none⟩ = some (.int .u8 2) := tb0.cell 0
 have x1 : W.cell? ⟨w.heap.size, 1, none⟩ = some (.bool neg) := tb0.cell 1
 have x2 : W.cell? ⟨w.heap.size, 2, none⟩ = some (.slice a n1 c) := tb0.cell 2
 have x3 : W.cell? ⟨w.heap.size, 3, none⟩ = some (.string s) := tb0.cell 3
 have x4 : W.cell? ⟨w.heap.size, 4, none⟩ = some (.int .i64 num) := tb0.cell 4
 have x5 : W.cell? ⟨w.heap.size, 5, none⟩ = some (.slice ai n2 ci) := tb0.cell 5
 have x6 : W.cell? ⟨w.heap.size, 6, none⟩ = some (.slice at' n3 ct) := tb0.cell 6
 have yp : W.cell? ⟨p, 0, none⟩ = some (.func (.func 42) #[] #[.pointer (some ⟨b, 0, none⟩)]) := (HT.out.upd hU1).put.cell
 have HU1 : Hid (Upd [] w W) := hU1
 have HTB : Hid (Tb W w.heap.size #[.int .u8 2, .bool neg, .slice a n1 c, .string s, .int .i64 num, .slice ai n2 ci, .slice at' n3 ct]) := tb0
 clear hU1 tb0
 go_wp2_with fail
 go_region_held3 (fun w' => w'.cell? ⟨p, 0, none⟩ = some (.func (.func 42) #[] #[.pointer (some ⟨b, 0, none⟩)]) ∧ w'.cell? ⟨w.heap.size, 3, none⟩ = some (.string s))
  (go_keep)
  (first
   | (go_at_call 42; (have _ := uw2); go_loud (refine (put_one (HT.out.upd (HU1.out.trans uw2)) (atomTx (byt s)) HL.out).mono ?_); rintro e w3 ⟨rfl, hT3, hK3⟩; have yp3 : w3.cell? ⟨p, 0, none⟩ = some (.func (.func 42) #[] #[.pointer (some ⟨b, 0, none⟩)]) := hT3.put.cell; have tb3 := (HTB.out.mono uw2 (by simp)).kp (HT.out.upd (HU1.out.trans uw2)).bd hK3; have t3 : w3.cell? ⟨w.heap.size, 3, none⟩ = some (.string s) := tb3.cell 3; clear tb3)
   | (go_at_call 47; go_loud (refine (HX.out _ (Upd.trans HU1.out (by repeat (first | exact Upd.refl _ _ | refine Upd.drew ?_)))).mono ?_); rintro e w2 ⟨hU2, rfl⟩; have uw2 : Upd [] W w2 := Upd.trans (by repeat (first | exact Upd.refl _ _ | refine Upd.drew ?_)) hU2; have yp2 : w2.cell? ⟨p, 0, none⟩ = some (.func (.func 42) #[] #[.pointer (some ⟨b, 0, none⟩)]) := (HT.out.upd (HU1.out.trans uw2)).put.cell; have tb2 := HTB.out.mono uw2 (by simp); have s3 : w2.cell? ⟨w.heap.size, 3, none⟩ = some (.string s) := tb2.cell 3; clear tb2))
 all_goals
  go_wp2
  go_end0
  exact WrP.of ⟨rfl, hT3, hK3⟩ (HU1.out.trans uw2) (Nat.le_of_lt hbz)
set_option maxHeartbeats 4000000 in
set_option maxRecDepth 100000 in
theorem wr_ref (w : World) (b p q r : Nat) (l : List UInt8) (a ai at' : Option Addr) (n1 c n2 ci n3 ct : Nat) (neg : Bool) (s : ByteArray) (num : Int) (hn0 : 0 ≤ num) (hn1 : num ≤ 1099511627776) (hG : Glb w) (hT : TS w b p q r l) (hlen : l.length + ([35, 82, 101, 102, 60] ++ (Lib.itoa num ++ [62])).length ≤ 140737488355328) :
  Calls Tryz.prog 45 #[.agg #[.int .u8 3, .bool neg, .slice a n1 c, .string s, .int .i64 num, .slice ai n2 ci, .slice at' n3 ct], .pointer (some ⟨p, 0, none⟩), .pointer (some ⟨r, 0, none⟩), .pointer (some ⟨q, 0, none⟩)] w (WrP w b p q r l ([35, 82, 101, 102, 60] ++ (Lib.itoa num ++ [62]))) := by
 have hcall1 : ∀ args w, (callFunc 42 args).run Tryz.prog w = .ok (.enter 42 args) w := Tryz.call42
 have tb0 : Tb (w.alloc (.cells #[.int .u8 3, .bool neg, .slice a n1 c, .string s, .int .i64 num, .slice ai n2 ci, .slice at' n3 ct] 26)) w.heap.size #[.int .u8 3, .bool neg, .slice a n1 c, .string s, .int .i64 num, .slice ai n2 ci, .slice at' n3 ct] := Tb.new _ _ _ rfl
 have hU1 : Upd [] w (w.alloc (.cells #[.int .u8 3, .bool neg, .slice a n1 c, .string s, .int .i64 num, .slice ai n2 ci, .slice at' n3 ct] 26)) := (Upd.refl [] w).alloc _
 have HX : Hid (∀ W, Upd [] w W → Calls Tryz.prog 48 #[.int .i64 num] W fun e w' => Upd [] W w' ∧ e = .returned (.string (str (Lib.itoa num)))) := fun W hU => by
  refine (Itoa_any num (by omega) (by omega) W (hG.mono hU).pow).mono ?_
  rintro e w' ⟨rfl, hU⟩
  exact ⟨hU, rfl⟩
 have hbz := hT.bd.lt
 have HT : Hid (TS w b p q r l) := hT
 have HL : Hid _ := hlen
 clear hG hn0 hn1 hT hlen
 obtain ⟨W, hW⟩ : ∃ W, W = w.alloc (.cells #[.int .u8 3, .bool neg, .slice a n1 c, .string s, .int .i64 num, .slice ai n2 ci, .slice at' n3 ct] 26) := ⟨_, rfl⟩
 go_enter Tryz.func45, Tryz.ntmps45
 go_wp2_with fail
 rw [← hW] at hU1 tb0 ⊢
 clear hW
 have x0 : W.cell? ⟨w.heap.size, 0, none⟩ = some (.int .u8 3) := tb0.cell 0
 have x1 : W.cell? ⟨w.heap.size, 1, none⟩ = some (.bool neg) := tb0.cell 1
 have x2 : W.cell? ⟨w.heap.size, 2, none⟩ = some (.slice a n1 c) := tb0.cell 2
 have x3 : W.cell? ⟨w.heap.size, 3, none⟩ = some (.string s) := tb0.cell 3
 have x4 : W.cell? ⟨w.heap.size, 4, none⟩ = some (.int .i64 num) := tb0.cell 4
 have x5 : W.cell? ⟨w.heap.size, 5, none⟩ = some (.slice ai n2 ci) := tb0.cell 5
 have x6 : W.cell? ⟨w.heap.size, 6, none⟩ = some (.slice at' n3 ct) := tb0.cell 6
 have yp : W.cell? ⟨p, 0, none⟩ = some (.func (.func 42) #[] #[.pointer (some ⟨b, 0, none⟩)]) := (HT.out.upd hU1).put.cell
 have HU1 : Hid (Upd [] w W) := hU1
 have HTB : Hid (Tb W w.heap.size #[.int .u8 3, .bool neg, .slice a n1 c, .string s, .int .i64 num, .slice ai n2 ci, .slice at' n3 ct]) := tb0
 clear hU1 tb0
 go_wp2_with fail
 go_region_held3 (fun w' => w'.cell? ⟨p, 0, none⟩ = some (.func (.func 42) #[] #[.pointer (some ⟨b, 0, none⟩)]) ∧ w'.cell? ⟨w.heap.size, 4, none⟩ = some (.int .i64 num))
  (go_keep)
  (first
   | (go_at_call 42; (have _ := uw2); go_loud (refine (put_three (HT.out.upd (HU1.out.trans uw2)) [35, 82, 101, 102, 60] (Lib.itoa num) [62] HL.out).mono ?_); rintro e w3 ⟨rfl, hT3, hK3⟩; have yp3 : w3.cell? ⟨p, 0, none⟩ = some (.func (.func 42) #[] #[.pointer (some ⟨b, 0, none⟩)]) := hT3.put.cell; have tb3 := (HTB.out.mono uw2 (by simp)).kp (HT.out.upd (HU1.out.trans uw2)).bd hK3; have t4 : w3.cell? ⟨w.heap.size, 4, none⟩ = some (.int .i64 num) := tb3.cell 4; clear tb3)
   | (go_at_call 48; go_loud (refine (HX.out _ (Upd.trans HU1.out (by repeat (first | exact Upd.refl _ _ | refine Upd.drew ?_)))).mono ?_); rintro e w2 ⟨hU2, rfl⟩; have uw2 : Upd [] W w2 := Upd.trans (by repeat (first | exact Upd.refl _ _ | refine Upd.drew ?_)) hU2; have yp2 : w2.cell? ⟨p, 0, none⟩ = some (.func (.func 42) #[] #[.pointer (some ⟨b, 0, none⟩)]) := (HT.out.upd (HU1.out.trans uw2)).put.cell; have tb2 := HTB.out.mono uw2 (by simp); have s4 : w2.cell? ⟨w.heap.size, 4, none⟩ = some (.int .i64 num) := tb2.cell 4; clear tb2))
 all_goals
  go_wp2
  go_end0
  exact WrP.of ⟨rfl, hT3, hK3⟩ (HU1.out.trans uw2) (Nat.le_of_lt hbz)
set_option maxHeartbeats 4000000 in
set_option maxRecDepth 100000 in
theorem wr_fun (w : World) (b p q r : Nat) (l : List UInt8) (a ai at' : Option Addr) (n1 c n2 ci n3 ct : Nat) (neg : Bool) (s : ByteArray) (num : Int) (hn0 : 0 ≤ num) (hn1 : num ≤ 1099511627776) (hG : Glb w) (hT : TS w b p q r l) (hlen : l.length + ([35, 70, 117, 110, 60] ++ (Lib.itoa num ++ [62])).length ≤ 140737488355328) :
  Calls Tryz.prog 45 #[.agg #[.int .u8 4, .bool neg, .slice a n1 c, .string s, .int .i64 num, .slice ai n2 ci, .slice at' n3 ct], .pointer (some ⟨p, 0, none⟩), .pointer (some ⟨r, 0, none⟩), .pointer (some ⟨q, 0, none⟩)] w (WrP w b p q r l ([35, 70, 117, 110, 60] ++ (Lib.itoa num ++ [62]))) := by
 have hcall1 : ∀ args w, (callFunc 42 args).run Tryz.prog w = .ok (.enter 42 args) w := Tryz.call42
 have tb0 : Tb (w.alloc (.cells #[.int .u8 4, .bool neg, .slice a n1 c, .string s, .int .i64 num, .slice ai n2 ci, .slice at' n3 ct] 26)) w.heap.size #[.int .u8 4, .bool neg, .slice a n1 c, .string s, .int .i64 num, .slice ai n2 ci, .slice at' n3 ct] := Tb.new _ _ _ rfl
 have hU1 : Upd [] w (w.alloc (.cells #[.int .u8 4, .bool neg, .slice a n1 c, .string s, .int .i64 num, .slice ai n2 ci, .slice at' n3 ct] 26)) := (Upd.refl [] w).alloc _
 have HX : Hid (∀ W, Upd [] w W → Calls Tryz.prog 48 #[.int .i64 num] W fun e w' => Upd [] W w' ∧ e = .returned (.string (str (Lib.itoa num)))) := fun W hU => by
  refine (Itoa_any num (by omega) (by omega) W (hG.mono hU).pow).mono ?_
  rintro e w' ⟨rfl, hU⟩
  exact ⟨hU, rfl⟩
 have hbz := hT.bd.lt
 have HT : Hid (TS w b p q r l) := hT
 have HL : Hid _ := hlen
 clear hG hn0 hn1 hT hlen
 obtain ⟨W, hW⟩ : ∃ W, W = w.alloc (.cells #[.int .u8 4, .bool neg, .slice a n1 c, .string s, .int .i64 num, .slice ai n2 ci, .slice at' n3 ct] 26) := ⟨_, rfl⟩
 go_enter Tryz.func45, Tryz.ntmps45
 go_wp2_with fail
 rw [← hW] at hU1 tb0 ⊢
 clear hW
 have x0 : W.cell? ⟨w.heap.size, 0, none⟩ = some (.int .u8 4) := tb0.cell 0
 have x1 : W.cell? ⟨w.heap.size, 1, none⟩ = some (.bool neg) := tb0.cell 1
 have x2 : W.cell? ⟨w.heap.size, 2, none⟩ = some (.slice a n1 c) := tb0.cell 2
 have x3 : W.cell? ⟨w.heap.size, 3, none⟩ = some (.string s) := tb0.cell 3
 have x4 : W.cell? ⟨w.heap.size, 4, none⟩ = some (.int .i64 num) := tb0.cell 4
 have x5 : W.cell? ⟨w.heap.size, 5, none⟩ = some (.slice ai n2 ci) := tb0.cell 5
 have x6 : W.cell? ⟨w.heap.size, 6, none⟩ = some (.slice at' n3 ct) := tb0.cell 6
 have yp : W.cell? ⟨p, 0, none⟩ = some (.func (.func 42) #[] #[.pointer (some ⟨b, 0, none⟩)]) := (HT.out.upd hU1).put.cell
 have HU1 : Hid (Upd [] w W) := hU1
 have HTB : Hid (Tb W w.heap.size #[.int .u8 4, .bool neg, .slice a n1 c, .string s, .int .i64 num, .slice ai n2 ci, .slice at' n3 ct]) := tb0
 clear hU1 tb0
 go_wp2_with fail
 go_region_held3 (fun w' => w'.cell? ⟨p, 0, none⟩ = some (.func (.func 42) #[] #[.pointer (some ⟨b, 0, none⟩)]) ∧ w'.cell? ⟨w.heap.size, 4, none⟩ = some (.int .i64 num))
  (go_keep)
  (first
   | (go_at_call 42; (have _ := uw2); go_loud (refine (put_three (HT.out.upd (HU1.out.trans uw2)) [35, 70, 117, 110, 60] (Lib.itoa num) [62] HL.out).mono ?_); rintro e w3 ⟨rfl, hT3, hK3⟩; have yp3 : w3.cell? ⟨p, 0, none⟩ = some (.func (.func 42) #[] #[.pointer (some ⟨b, 0, none⟩)]) := hT3.put.cell; have tb3 := (HTB.out.mono uw2 (by simp)).kp (HT.out.upd (HU1.out.trans uw2)).bd hK3; have t4 : w3.cell? ⟨w.heap.size, 4, none⟩ = some (.int .i64 num) := tb3.cell 4; clear tb3)
   | (go_at_call 48; go_loud (refine (HX.out _ (Upd.trans HU1.out (by repeat (first | exact Upd.refl _ _ | refine Upd.drew ?_)))).mono ?_); rintro e w2 ⟨hU2, rfl⟩; have uw2 : Upd [] W w2 := Upd.trans (by repeat (first | exact Upd.refl _ _ | refine Upd.drew ?_)) hU2; have yp2 : w2.cell? ⟨p, 0, none⟩ = some (.func (.func 42) #[] #[.pointer (some ⟨b, 0, none⟩)]) := (HT.out.upd (HU1.out.trans uw2)).put.cell; have tb2 := HTB.out.mono uw2 (by simp); have s4 : w2.cell? ⟨w.heap.size, 4, none⟩ = some (.int .i64 num) := tb2.cell 4; clear tb2))
 all_goals
  go_wp2
  go_end0
  exact WrP.of ⟨rfl, hT3, hK3⟩ (HU1.out.trans uw2) (Nat.le_of_lt hbz)
set_option maxHeartbeats 4000000 in
set_option maxRecDepth 100000 in
theorem wr_pid (w : World) (b p q r : Nat) (l : List UInt8) (a ai at' : Option Addr) (n1 c n2 ci n3 ct : Nat) (neg : Bool) (s : ByteArray) (num : Int) (hn0 : 0 ≤ num) (hn1 : num ≤ 1099511627776) (hG : Glb w) (hT : TS w b p q r l) (hlen : l.length + ([60] ++ (Lib.itoa num ++ [62])).length ≤ 140737488355328) :
  Calls Tryz.prog 45 #[.agg #[.int .u8 5, .bool neg, .slice a n1 c, .string s, .int .i64 num, .slice ai n2 ci, .slice at' n3 ct], .pointer (some ⟨p, 0, none⟩), .pointer (some ⟨r, 0, none⟩), .pointer (some ⟨q, 0, none⟩)] w (WrP w b p q r l ([60] ++ (Lib.itoa num ++ [62]))) := by
 have hcall1 : ∀ args w, (callFunc 42 args).run Tryz.prog w = .ok (.enter 42 args) w := Tryz.call42
 have tb0 : Tb (w.alloc (.cells #[.int .u8 5, .bool neg, .slice a n1 c, .string s, .int .i64 num, .slice ai n2 ci, .slice at' n3 ct] 26)) w.heap.size #[.int .u8 5, .bool neg, .slice a n1 c, .string s, .int .i64 num, .slice ai n2 ci, .slice at' n3 ct] := Tb.new _ _ _ rfl
 have hU1 : Upd [] w (w.alloc (.cells #[.int .u8 5, .bool neg, .slice a n1 c, .string s, .int .i64 num, .slice ai n2 ci, .slice at' n3 ct] 26)) := (Upd.refl [] w).alloc _
 have HX : Hid (∀ W, Upd [] w W → Calls Tryz.prog 48 #[.int .i64 num] W fun e w' => Upd [] W w' ∧ e = .returned (.string (str (Lib.itoa num)))) := fun W hU => by
  refine (Itoa_any num (by omega) (by omega) W (hG.mono hU).pow).mono ?_
  rintro e w' ⟨rfl, hU⟩
  exact ⟨hU, rfl⟩
 have hbz := hT.bd.lt
 have HT : Hid (TS w b p q r l) := hT
 have HL : Hid _ := hlen
 clear hG hn0 hn1 hT hlen
 obtain ⟨W, hW⟩ : ∃ W, W = w.alloc (.cells #[.int .u8 5, .bool neg, .slice a n1 c, .string s, .int .i64 num, .slice ai n2 ci, .slice at' n3 ct] 26) := ⟨_, rfl⟩
 go_enter Tryz.func45, Tryz.ntmps45
 go_wp2_with fail
 rw [← hW] at hU1 tb0 ⊢
 clear hW
 have x0 : W.cell? ⟨w.heap.size, 0, none⟩ = some (.int .u8 5) := tb0.cell 0
 have x1 : W.cell? ⟨w.heap.size, 1, none⟩ = some (.bool neg) := tb0.cell 1
 have x2 : W.cell? ⟨w.heap.size, 2, none⟩ = some (.slice a n1 c) := tb0.cell 2
 have x3 : W.cell? ⟨w.heap.size, 3, none⟩ = some (.string s) := tb0.cell 3
 have x4 : W.cell? ⟨w.heap.size, 4, none⟩ = some (.int .i64 num) := tb0.cell 4
 have x5 : W.cell? ⟨w.heap.size, 5, none⟩ = some (.slice ai n2 ci) := tb0.cell 5
 have x6 : W.cell? ⟨w.heap.size, 6, none⟩ = some (.slice at' n3 ct) := tb0.cell 6
 have yp : W.cell? ⟨p, 0, none⟩ = some (.func (.func 42) #[] #[.pointer (some ⟨b, 0, none⟩)]) := (HT.out.upd hU1).put.cell
 have HU1 : Hid (Upd [] w W) := hU1
 have HTB : Hid (Tb W w.heap.size #[.int .u8 5, .bool neg, .slice a n1 c, .string s, .int .i64 num, .slice ai n2 ci, .slice at' n3 ct]) := tb0
 clear hU1 tb0
 go_wp2_with fail
 go_region_held3 (fun w' => w'.cell? ⟨p, 0, none⟩ = some (.func (.func 42) #[] #[.pointer (some ⟨b, 0, none⟩)]) ∧ w'.cell? ⟨w.heap.size, 4, none⟩ = some (.int .i64 num))
  (go_keep)
  (first
   | (go_at_call 42; (have _ := uw2); go_loud (refine (put_three (HT.out.upd (HU1.out.trans uw2)) [60] (Lib.itoa num) [62] HL.out).mono ?_); rintro e w3 ⟨rfl, hT3, hK3⟩; have yp3 : w3.cell? ⟨p, 0, none⟩ = some (.func (.func 42) #[] #[.pointer (some ⟨b, 0, none⟩)]) := hT3.put.cell; have tb3 := (HTB.out.mono uw2 (by simp)).kp (HT.out.upd (HU1.out.trans uw2)).bd hK3; have t4 : w3.cell? ⟨w.heap.size, 4, none⟩ = some (.int .i64 num) := tb3.cell 4; clear tb3)
   | (go_at_call 48; go_loud (refine (HX.out _ (Upd.trans HU1.out (by repeat (first | exact Upd.refl _ _ | refine Upd.drew ?_)))).mono ?_); rintro e w2 ⟨hU2, rfl⟩; have uw2 : Upd [] W w2 := Upd.trans (by repeat (first | exact Upd.refl _ _ | refine Upd.drew ?_)) hU2; have yp2 : w2.cell? ⟨p, 0, none⟩ = some (.func (.func 42) #[] #[.pointer (some ⟨b, 0, none⟩)]) := (HT.out.upd (HU1.out.trans uw2)).put.cell; have tb2 := HTB.out.mono uw2 (by simp); have s4 : w2.cell? ⟨w.heap.size, 4, none⟩ = some (.int .i64 num) := tb2.cell 4; clear tb2))
 all_goals
  go_wp2
  go_end0
  exact WrP.of ⟨rfl, hT3, hK3⟩ (HU1.out.trans uw2) (Nat.le_of_lt hbz)
end Go.Proofs.YtalhbbabijlngaaGreatDoor
namespace Go.Proofs.YtalhbbabijlngaaGreatDoor
open Go.RowKit
noncomputable def txI (I : List Tm) : List UInt8 := (txC I).drop 1
theorem txI_len (I : List Tm) : (txC I).length ≤ (txI I).length + 1 := by unfold txI; rw [List.length_drop]; omega
set_option maxHeartbeats 1000000 in
set_option maxRecDepth 100000 in
theorem wr_tuple (d : Nat) (ih : WriteSaid d) (w : World) (b p q r : Nat) (l : List UInt8) (a ai at' : Option Addr) (n1 c ci n3 ct : Nat) (neg : Bool) (s : ByteArray) (num : Int) (I : List Tm)
  (hI : RowB (fun x => x < b) (InB (fun x => x < b) w d) w ai I) (hok : okR I = true) (hs : tszs I ≤ 1353245080330) (hG : GlbB b w) (hT : TS w b p q r l) (hlen : l.length + (123 :: (txI I ++ [125])).length ≤ 140737488355328) :
  Calls Tryz.prog 45 #[.agg #[.int .u8 6, .bool neg, .slice a n1 c, .string s, .int .i64 num, .slice ai I.length ci, .slice at' n3 ct], .pointer (some ⟨p, 0, none⟩), .pointer (some ⟨r, 0, none⟩), .pointer (some ⟨q, 0, none⟩)] w (WrP w b p q r l (123 :: (txI I ++ [125]))) := by
 have hcall1 : ∀ args w, (callFunc 42 args).run Tryz.prog w = .ok (.enter 42 args) w := Tryz.call42
 have hcall2 : ∀ args w, (callFunc 44 args).run Tryz.prog w = .ok (.enter 44 args) w := Tryz.call44
 have tb0 : Tb (w.alloc (.cells #[.int .u8 6, .bool neg, .slice a n1 c, .string s, .int .i64 num, .slice ai I.length ci, .slice at' n3 ct] 26)) w.heap.size #[.int .u8 6, .bool neg, .slice a n1 c, .string s, .int .i64 num, .slice ai I.length ci, .slice at' n3 ct] := Tb.new _ _ _ rfl
 have hU1 : Upd [] w (w.alloc (.cells #[.int .u8 6, .bool neg, .slice a n1 c, .string s, .int .i64 num, .slice ai I.length ci, .slice at' n3 ct] 26)) := (Upd.refl [] w).alloc _
 simp only [List.length_cons, List.length_append, List.length_nil] at hlen
 have htl := txI_len I
 have HR : Hid (∀ W, Kp b w W → TS W b p q r (l ++ [123]) → Calls Tryz.prog 44 #[.slice ai I.length ci, .pointer (some ⟨p, 0, none⟩), .pointer (some ⟨q, 0, none⟩)] W (WrP W b p q r (l ++ [123]) (txI I))) := fun W hK hT2 =>
  row_in d ih W b p q r (l ++ [123]) ai ci I (RowB.below hK.below hI) hok hs (by simp only [List.length_append, List.length_singleton]; omega) (hG.below hK.below) hT2
 have hbz := hT.bd.lt
 have HT : Hid (TS w b p q r l) := hT
 have HL : Hid _ := hlen
 clear hok hs hG hT hlen hI ih
 have hTW := HT.out.upd hU1
 have yp : (w.alloc (.cells #[.int .u8 6, .bool neg, .slice a n1 c, .string s, .int .i64 num, .slice ai I.length ci, .slice at' n3 ct] 26)).cell? ⟨p, 0, none⟩ = some (.func (.func 42) #[] #[.pointer (some ⟨b, 0, none⟩)]) := hTW.put.cell
 have hK1 := hU1.toKp b (Nat.le_of_lt hbz)
 have HTW : Hid _ := hTW
 have HK1 : Hid _ := hK1
 have HTB : Hid (Tb _ w.heap.size #[.int .u8 6, .bool neg, .slice a n1 c, .string s, .int .i64 num, .slice ai I.length ci, .slice at' n3 ct]) := tb0
 clear hTW hK1 tb0 hU1
 go_enter Tryz.func45, Tryz.ntmps45
 go_wp2_with fail
 refine (put_one_at HTW.out [123] (by have := HL.out; simp only [List.length_singleton]; omega) (w.heap.size + 1) (by simp) ⟨#[123]⟩ rfl).mono ?_
 rintro e w2 ⟨rfl, hT2, hK2⟩
 have tb2 := Tb.kp HTB.out HTW.out.bd hK2
 have x5 : w2.cell? ⟨w.heap.size, 5, none⟩ = some (.slice ai I.length ci) := tb2.cell 5
 have yr : w2.cell? ⟨r, 0, none⟩ = some (.func (.func 44) #[] #[.pointer (some ⟨p, 0, none⟩), .pointer (some ⟨q, 0, none⟩)]) := hT2.row.cell
 have HT2 : Hid (TS w2 b p q r (l ++ [123])) := hT2
 have HK2 : Hid (Kp b w w2) := HK1.out.trans hK2
 clear hT2 hK2 tb2 yp
 go_wp2_with fail
 refine (HR.out w2 HK2.out HT2.out).mono ?_
 rintro e w3 ⟨rfl, hT3, hK3⟩
 have yp3 : w3.cell? ⟨p, 0, none⟩ = some (.func (.func 42) #[] #[.pointer (some ⟨b, 0, none⟩)]) := hT3.put.cell
 have HT3 : Hid (TS w3 b p q r (l ++ [123] ++ txI I)) := hT3
 have HK3 : Hid (Kp b w w3) := HK2.out.trans hK3
 clear hT3 hK3 x5 yr
 go_wp2_with fail
 refine (put_one HT3.out [125] (by have := HL.out; simp only [List.length_append, List.length_singleton]; omega)).mono ?_
 rintro e w4 ⟨rfl, hT4, hK4⟩
 go_wp2
 go_end0
 refine ⟨rfl, ?_, HK3.out.trans hK4⟩
 have e : l ++ 123 :: (txI I ++ [125]) = l ++ [123] ++ txI I ++ [125] := by simp
 rw [e]
 exact hT4
end Go.Proofs.YtalhbbabijlngaaGreatDoor
