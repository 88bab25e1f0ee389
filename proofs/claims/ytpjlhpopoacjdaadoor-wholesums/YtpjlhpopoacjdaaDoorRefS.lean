/- Sums, differences, order and numbers where an argument is not right, on both sides. -/
import Derived.Test.YtpjlhpopoacjdaaDoorRefA
import Derived.Test.YtpjlhpopoacjdaaDoorRefC
import Derived.Test.YtpjlhpopoacjdaaDoorJF
namespace Go.Proofs.YtpjlhpopoacjdaaDoor
open Go.RowKit

set_option maxHeartbeats 1000000 in
set_option maxRecDepth 100000 in
theorem Add_badA (k num k' num' : Int) (na nb : Bool) (A B : List Nat) (s s' : ByteArray) (a ai at' b bi bt : Option Addr) (ca ni ci nt ct cb mi cbi mt cbt : Nat) (w : World) (hn2 : A.length ≤ 9223372036854775807) (HA : At w a A) (hni : ni ≤ 9223372036854775807) (hnt : nt ≤ 9223372036854775807) (hbad : okT k na A s num ni nt = false) :
    Calls Tryd.prog 12 #[.agg #[.int .u8 k, .bool na, .slice a A.length ca, .string s, .int .i64 num, .slice ai ni ci, .slice at' nt ct], .agg #[.int .u8 k', .bool nb, .slice b B.length cb, .string s', .int .i64 num', .slice bi mi cbi, .slice bt mt cbt]] w fun e w' => e = .returned (.tuple #[(.agg #[.int .u8 0, .bool false, .slice none 0 0, .string ⟨#[]⟩, .int .i64 0, .slice none 0 0, .slice none 0 0]), .bool false]) ∧ Upd [] w w' := by
  have HR : Hid (∀ W, Upd [] w W → _) := fun W hu => Right_any k num na A s a ai at' ca ni ci nt ct W hn2 (HA.mono hu) hni hnt
  rw [hbad] at HR
  clear hbad HA
  go_enter Tryd.func12, Tryd.ntmps12
  go_wp2_with fail
  refine (HR.out _ ((((Upd.refl [] w).alloc _).alloc _).alloc _)).mono ?_
  rintro e w1 ⟨rfl, rfl⟩
  go_wp2
  exact ret_Tb Tryd.results12 rfl _ _ _ rfl ((Tb.new ((w.alloc _).alloc _) _ (w.heap.size + 1 + 1) (by simp)).old _) rfl rfl ⟨rfl, by repeat (first | exact Upd.refl _ _ | refine Upd.alloc ?_ _)⟩

set_option maxHeartbeats 1000000 in
set_option maxRecDepth 100000 in
theorem Add_badB (k num k' num' : Int) (na nb : Bool) (A B : List Nat) (s s' : ByteArray) (a ai at' b bi bt : Option Addr) (ca ni ci nt ct cb mi cbi mt cbt : Nat) (w : World) (hn2 : A.length ≤ 9223372036854775807) (HA : At w a A) (hni : ni ≤ 9223372036854775807) (hnt : nt ≤ 9223372036854775807) (hok : okT k na A s num ni nt = true)
    (hm2 : B.length ≤ 9223372036854775807) (HB : At w b B) (hmi : mi ≤ 9223372036854775807) (hmt : mt ≤ 9223372036854775807) (hbad : okT k' nb B s' num' mi mt = false) :
    Calls Tryd.prog 12 #[.agg #[.int .u8 k, .bool na, .slice a A.length ca, .string s, .int .i64 num, .slice ai ni ci, .slice at' nt ct], .agg #[.int .u8 k', .bool nb, .slice b B.length cb, .string s', .int .i64 num', .slice bi mi cbi, .slice bt mt cbt]] w fun e w' => e = .returned (.tuple #[(.agg #[.int .u8 0, .bool false, .slice none 0 0, .string ⟨#[]⟩, .int .i64 0, .slice none 0 0, .slice none 0 0]), .bool false]) ∧ Upd [] w w' := by
  have HR : Hid (∀ W, Upd [] w W → _) := fun W hu => Right_any k num na A s a ai at' ca ni ci nt ct W hn2 (HA.mono hu) hni hnt
  have HS : Hid (∀ W, Upd [] w W → _) := fun W hu => Right_any k' num' nb B s' b bi bt cb mi cbi mt cbt W hm2 (HB.mono hu) hmi hmt
  rw [hok] at HR
  rw [hbad] at HS
  clear hbad HA HB hok
  go_enter Tryd.func12, Tryd.ntmps12
  go_wp2_with fail
  refine (HR.out _ ((((Upd.refl [] w).alloc _).alloc _).alloc _)).mono ?_
  rintro e w1 ⟨rfl, rfl⟩
  go_wp2_with fail
  refine (HS.out _ (((((Upd.refl [] w).alloc _).alloc _).alloc _).alloc _)).mono ?_
  rintro e w2 ⟨rfl, rfl⟩
  go_wp2
  exact ret_Tb Tryd.results12 rfl _ _ _ rfl (((Tb.new ((w.alloc _).alloc _) _ (w.heap.size + 1 + 1) (by simp)).old _).old _) rfl rfl ⟨rfl, by repeat (first | exact Upd.refl _ _ | refine Upd.alloc ?_ _)⟩

set_option maxHeartbeats 1000000 in
set_option maxRecDepth 100000 in
theorem Sub_badA (k num k' num' : Int) (na nb : Bool) (A B : List Nat) (s s' : ByteArray) (a ai at' b bi bt : Option Addr) (ca ni ci nt ct cb mi cbi mt cbt : Nat) (w : World) (hn2 : A.length ≤ 9223372036854775807) (HA : At w a A) (hni : ni ≤ 9223372036854775807) (hnt : nt ≤ 9223372036854775807) (hbad : okT k na A s num ni nt = false) :
    Calls Tryd.prog 14 #[.agg #[.int .u8 k, .bool na, .slice a A.length ca, .string s, .int .i64 num, .slice ai ni ci, .slice at' nt ct], .agg #[.int .u8 k', .bool nb, .slice b B.length cb, .string s', .int .i64 num', .slice bi mi cbi, .slice bt mt cbt]] w fun e w' => e = .returned (.tuple #[(.agg #[.int .u8 0, .bool false, .slice none 0 0, .string ⟨#[]⟩, .int .i64 0, .slice none 0 0, .slice none 0 0]), .bool false]) ∧ Upd [] w w' := by
  have HR : Hid (∀ W, Upd [] w W → _) := fun W hu => Right_any k num na A s a ai at' ca ni ci nt ct W hn2 (HA.mono hu) hni hnt
  rw [hbad] at HR
  clear hbad HA
  go_enter Tryd.func14, Tryd.ntmps14
  go_wp2_with fail
  refine (HR.out _ ((((Upd.refl [] w).alloc _).alloc _).alloc _)).mono ?_
  rintro e w1 ⟨rfl, rfl⟩
  go_wp2
  exact ret_Tb Tryd.results14 rfl _ _ _ rfl ((Tb.new ((w.alloc _).alloc _) _ (w.heap.size + 1 + 1) (by simp)).old _) rfl rfl ⟨rfl, by repeat (first | exact Upd.refl _ _ | refine Upd.alloc ?_ _)⟩

set_option maxHeartbeats 1000000 in
set_option maxRecDepth 100000 in
theorem Sub_badB (k num k' num' : Int) (na nb : Bool) (A B : List Nat) (s s' : ByteArray) (a ai at' b bi bt : Option Addr) (ca ni ci nt ct cb mi cbi mt cbt : Nat) (w : World) (hn2 : A.length ≤ 9223372036854775807) (HA : At w a A) (hni : ni ≤ 9223372036854775807) (hnt : nt ≤ 9223372036854775807) (hok : okT k na A s num ni nt = true)
    (hm2 : B.length ≤ 9223372036854775807) (HB : At w b B) (hmi : mi ≤ 9223372036854775807) (hmt : mt ≤ 9223372036854775807) (hbad : okT k' nb B s' num' mi mt = false) :
    Calls Tryd.prog 14 #[.agg #[.int .u8 k, .bool na, .slice a A.length ca, .string s, .int .i64 num, .slice ai ni ci, .slice at' nt ct], .agg #[.int .u8 k', .bool nb, .slice b B.length cb, .string s', .int .i64 num', .slice bi mi cbi, .slice bt mt cbt]] w fun e w' => e = .returned (.tuple #[(.agg #[.int .u8 0, .bool false, .slice none 0 0, .string ⟨#[]⟩, .int .i64 0, .slice none 0 0, .slice none 0 0]), .bool false]) ∧ Upd [] w w' := by
  have HR : Hid (∀ W, Upd [] w W → _) := fun W hu => Right_any k num na A s a ai at' ca ni ci nt ct W hn2 (HA.mono hu) hni hnt
  have HS : Hid (∀ W, Upd [] w W → _) := fun W hu => Right_any k' num' nb B s' b bi bt cb mi cbi mt cbt W hm2 (HB.mono hu) hmi hmt
  rw [hok] at HR
  rw [hbad] at HS
  clear hbad HA HB hok
  go_enter Tryd.func14, Tryd.ntmps14
  go_wp2_with fail
  refine (HR.out _ ((((Upd.refl [] w).alloc _).alloc _).alloc _)).mono ?_
  rintro e w1 ⟨rfl, rfl⟩
  go_wp2_with fail
  refine (HS.out _ (((((Upd.refl [] w).alloc _).alloc _).alloc _).alloc _)).mono ?_
  rintro e w2 ⟨rfl, rfl⟩
  go_wp2
  exact ret_Tb Tryd.results14 rfl _ _ _ rfl (((Tb.new ((w.alloc _).alloc _) _ (w.heap.size + 1 + 1) (by simp)).old _).old _) rfl rfl ⟨rfl, by repeat (first | exact Upd.refl _ _ | refine Upd.alloc ?_ _)⟩

set_option maxHeartbeats 1000000 in
set_option maxRecDepth 100000 in
theorem rAdd_badA (k num k' num' : Int) (na nb : Bool) (A B : List Nat) (s s' : ByteArray) (a ai at' b bi bt : Option Addr) (ca ni ci nt ct cb mi cbi mt cbt : Nat) (w : World) (hn2 : A.length ≤ 9223372036854775807) (HA : At w a A) (hni : ni ≤ 9223372036854775807) (hnt : nt ≤ 9223372036854775807) (hbad : okT k na A s num ni nt = false) :
    Calls Tryd.prog 13 #[.agg #[.int .u8 k, .bool na, .slice a A.length ca, .string s, .int .i64 num, .slice ai ni ci, .slice at' nt ct], .agg #[.int .u8 k', .bool nb, .slice b B.length cb, .string s', .int .i64 num', .slice bi mi cbi, .slice bt mt cbt]] w fun e w' => e = .returned (.tuple #[(.agg #[.int .u8 0, .bool false, .slice none 0 0, .string ⟨#[]⟩, .int .i64 0, .slice none 0 0, .slice none 0 0]), .bool false]) ∧ Upd [] w w' := by
  have HR : Hid (∀ W, Upd [] w W → _) := fun W hu => rRight_any k num na A s a ai at' ca ni ci nt ct W hn2 (HA.mono hu) hni hnt
  rw [hbad] at HR
  clear hbad HA
  go_enter Tryd.func13, Tryd.ntmps13
  go_wp2_with fail
  refine (HR.out _ ((((Upd.refl [] w).alloc _).alloc _).alloc _)).mono ?_
  rintro e w1 ⟨rfl, rfl⟩
  go_wp2
  exact ret_Tb Tryd.results13 rfl _ _ _ rfl ((Tb.new ((w.alloc _).alloc _) _ (w.heap.size + 1 + 1) (by simp)).old _) rfl rfl ⟨rfl, by repeat (first | exact Upd.refl _ _ | refine Upd.alloc ?_ _)⟩

set_option maxHeartbeats 1000000 in
set_option maxRecDepth 100000 in
theorem rAdd_badB (k num k' num' : Int) (na nb : Bool) (A B : List Nat) (s s' : ByteArray) (a ai at' b bi bt : Option Addr) (ca ni ci nt ct cb mi cbi mt cbt : Nat) (w : World) (hn2 : A.length ≤ 9223372036854775807) (HA : At w a A) (hni : ni ≤ 9223372036854775807) (hnt : nt ≤ 9223372036854775807) (hok : okT k na A s num ni nt = true)
    (hm2 : B.length ≤ 9223372036854775807) (HB : At w b B) (hmi : mi ≤ 9223372036854775807) (hmt : mt ≤ 9223372036854775807) (hbad : okT k' nb B s' num' mi mt = false) :
    Calls Tryd.prog 13 #[.agg #[.int .u8 k, .bool na, .slice a A.length ca, .string s, .int .i64 num, .slice ai ni ci, .slice at' nt ct], .agg #[.int .u8 k', .bool nb, .slice b B.length cb, .string s', .int .i64 num', .slice bi mi cbi, .slice bt mt cbt]] w fun e w' => e = .returned (.tuple #[(.agg #[.int .u8 0, .bool false, .slice none 0 0, .string ⟨#[]⟩, .int .i64 0, .slice none 0 0, .slice none 0 0]), .bool false]) ∧ Upd [] w w' := by
  have HR : Hid (∀ W, Upd [] w W → _) := fun W hu => rRight_any k num na A s a ai at' ca ni ci nt ct W hn2 (HA.mono hu) hni hnt
  have HS : Hid (∀ W, Upd [] w W → _) := fun W hu => rRight_any k' num' nb B s' b bi bt cb mi cbi mt cbt W hm2 (HB.mono hu) hmi hmt
  rw [hok] at HR
  rw [hbad] at HS
  clear hbad HA HB hok
  go_enter Tryd.func13, Tryd.ntmps13
  go_wp2_with fail
  refine (HR.out _ ((((Upd.refl [] w).alloc _).alloc _).alloc _)).mono ?_
  rintro e w1 ⟨rfl, rfl⟩
  go_wp2_with fail
  refine (HS.out _ (((((Upd.refl [] w).alloc _).alloc _).alloc _).alloc _)).mono ?_
  rintro e w2 ⟨rfl, rfl⟩
  go_wp2
  exact ret_Tb Tryd.results13 rfl _ _ _ rfl (((Tb.new ((w.alloc _).alloc _) _ (w.heap.size + 1 + 1) (by simp)).old _).old _) rfl rfl ⟨rfl, by repeat (first | exact Upd.refl _ _ | refine Upd.alloc ?_ _)⟩

set_option maxHeartbeats 1000000 in
set_option maxRecDepth 100000 in
theorem Compare_badA (k num k' num' : Int) (na nb : Bool) (A B : List Nat) (s s' : ByteArray) (a ai at' b bi bt : Option Addr) (ca ni ci nt ct cb mi cbi mt cbt : Nat) (w : World) (hn2 : A.length ≤ 9223372036854775807) (HA : At w a A) (hni : ni ≤ 9223372036854775807) (hnt : nt ≤ 9223372036854775807) (hbad : okT k na A s num ni nt = false) :
    Calls Tryd.prog 19 #[.agg #[.int .u8 k, .bool na, .slice a A.length ca, .string s, .int .i64 num, .slice ai ni ci, .slice at' nt ct], .agg #[.int .u8 k', .bool nb, .slice b B.length cb, .string s', .int .i64 num', .slice bi mi cbi, .slice bt mt cbt]] w fun e w' => e = .returned (.int .i64 0) ∧ Upd [] w w' := by
  have HR : Hid (∀ W, Upd [] w W → _) := fun W hu => Right_any k num na A s a ai at' ca ni ci nt ct W hn2 (HA.mono hu) hni hnt
  rw [hbad] at HR
  clear hbad HA
  go_enter Tryd.func19, Tryd.ntmps19
  go_wp2_with fail
  refine (HR.out _ (by repeat (first | exact Upd.refl _ _ | refine Upd.alloc ?_ _))).mono ?_
  rintro e w1 ⟨rfl, rfl⟩
  go_wp2
  go_ret
  exact ⟨rfl, (by repeat (first | exact Upd.refl _ _ | refine Upd.alloc ?_ _))⟩

set_option maxHeartbeats 1000000 in
set_option maxRecDepth 100000 in
theorem Compare_badB (k num k' num' : Int) (na nb : Bool) (A B : List Nat) (s s' : ByteArray) (a ai at' b bi bt : Option Addr) (ca ni ci nt ct cb mi cbi mt cbt : Nat) (w : World) (hn2 : A.length ≤ 9223372036854775807) (HA : At w a A) (hni : ni ≤ 9223372036854775807) (hnt : nt ≤ 9223372036854775807) (hok : okT k na A s num ni nt = true)
    (hm2 : B.length ≤ 9223372036854775807) (HB : At w b B) (hmi : mi ≤ 9223372036854775807) (hmt : mt ≤ 9223372036854775807) (hbad : okT k' nb B s' num' mi mt = false) :
    Calls Tryd.prog 19 #[.agg #[.int .u8 k, .bool na, .slice a A.length ca, .string s, .int .i64 num, .slice ai ni ci, .slice at' nt ct], .agg #[.int .u8 k', .bool nb, .slice b B.length cb, .string s', .int .i64 num', .slice bi mi cbi, .slice bt mt cbt]] w fun e w' => e = .returned (.int .i64 0) ∧ Upd [] w w' := by
  have HR : Hid (∀ W, Upd [] w W → _) := fun W hu => Right_any k num na A s a ai at' ca ni ci nt ct W hn2 (HA.mono hu) hni hnt
  have HS : Hid (∀ W, Upd [] w W → _) := fun W hu => Right_any k' num' nb B s' b bi bt cb mi cbi mt cbt W hm2 (HB.mono hu) hmi hmt
  rw [hok] at HR
  rw [hbad] at HS
  clear hbad HA HB hok
  go_enter Tryd.func19, Tryd.ntmps19
  go_wp2_with fail
  refine (HR.out _ (by repeat (first | exact Upd.refl _ _ | refine Upd.alloc ?_ _))).mono ?_
  rintro e w1 ⟨rfl, rfl⟩
  go_wp2_with fail
  refine (HS.out _ (by repeat (first | exact Upd.refl _ _ | refine Upd.alloc ?_ _))).mono ?_
  rintro e w2 ⟨rfl, rfl⟩
  go_wp2
  go_ret
  exact ⟨rfl, (by repeat (first | exact Upd.refl _ _ | refine Upd.alloc ?_ _))⟩

set_option maxHeartbeats 1000000 in
set_option maxRecDepth 100000 in
theorem rCompare_badA (k num k' num' : Int) (na nb : Bool) (A B : List Nat) (s s' : ByteArray) (a ai at' b bi bt : Option Addr) (ca ni ci nt ct cb mi cbi mt cbt : Nat) (w : World) (hn2 : A.length ≤ 9223372036854775807) (HA : At w a A) (hni : ni ≤ 9223372036854775807) (hnt : nt ≤ 9223372036854775807) (hbad : okT k na A s num ni nt = false) :
    Calls Tryd.prog 20 #[.agg #[.int .u8 k, .bool na, .slice a A.length ca, .string s, .int .i64 num, .slice ai ni ci, .slice at' nt ct], .agg #[.int .u8 k', .bool nb, .slice b B.length cb, .string s', .int .i64 num', .slice bi mi cbi, .slice bt mt cbt]] w fun e w' => e = .returned (.int .i64 0) ∧ Upd [] w w' := by
  have HR : Hid (∀ W, Upd [] w W → _) := fun W hu => rRight_any k num na A s a ai at' ca ni ci nt ct W hn2 (HA.mono hu) hni hnt
  rw [hbad] at HR
  clear hbad HA
  go_enter Tryd.func20, Tryd.ntmps20
  go_wp2_with fail
  refine (HR.out _ (by repeat (first | exact Upd.refl _ _ | refine Upd.alloc ?_ _))).mono ?_
  rintro e w1 ⟨rfl, rfl⟩
  go_wp2
  go_ret
  exact ⟨rfl, (by repeat (first | exact Upd.refl _ _ | refine Upd.alloc ?_ _))⟩

set_option maxHeartbeats 1000000 in
set_option maxRecDepth 100000 in
theorem rCompare_badB (k num k' num' : Int) (na nb : Bool) (A B : List Nat) (s s' : ByteArray) (a ai at' b bi bt : Option Addr) (ca ni ci nt ct cb mi cbi mt cbt : Nat) (w : World) (hn2 : A.length ≤ 9223372036854775807) (HA : At w a A) (hni : ni ≤ 9223372036854775807) (hnt : nt ≤ 9223372036854775807) (hok : okT k na A s num ni nt = true)
    (hm2 : B.length ≤ 9223372036854775807) (HB : At w b B) (hmi : mi ≤ 9223372036854775807) (hmt : mt ≤ 9223372036854775807) (hbad : okT k' nb B s' num' mi mt = false) :
    Calls Tryd.prog 20 #[.agg #[.int .u8 k, .bool na, .slice a A.length ca, .string s, .int .i64 num, .slice ai ni ci, .slice at' nt ct], .agg #[.int .u8 k', .bool nb, .slice b B.length cb, .string s', .int .i64 num', .slice bi mi cbi, .slice bt mt cbt]] w fun e w' => e = .returned (.int .i64 0) ∧ Upd [] w w' := by
  have HR : Hid (∀ W, Upd [] w W → _) := fun W hu => rRight_any k num na A s a ai at' ca ni ci nt ct W hn2 (HA.mono hu) hni hnt
  have HS : Hid (∀ W, Upd [] w W → _) := fun W hu => rRight_any k' num' nb B s' b bi bt cb mi cbi mt cbt W hm2 (HB.mono hu) hmi hmt
  rw [hok] at HR
  rw [hbad] at HS
  clear hbad HA HB hok
  go_enter Tryd.func20, Tryd.ntmps20
  go_wp2_with fail
  refine (HR.out _ (by repeat (first | exact Upd.refl _ _ | refine Upd.alloc ?_ _))).mono ?_
  rintro e w1 ⟨rfl, rfl⟩
  go_wp2_with fail
  refine (HS.out _ (by repeat (first | exact Upd.refl _ _ | refine Upd.alloc ?_ _))).mono ?_
  rintro e w2 ⟨rfl, rfl⟩
  go_wp2
  go_ret
  exact ⟨rfl, (by repeat (first | exact Upd.refl _ _ | refine Upd.alloc ?_ _))⟩

set_option maxHeartbeats 1000000 in
set_option maxRecDepth 100000 in
theorem Int_bad (k num : Int) (neg : Bool) (L : List Nat) (s : ByteArray) (a ai at' : Option Addr) (c ni ci nt ct : Nat) (w : World) (hn2 : L.length ≤ 9223372036854775807) (HL : At w a L) (hni : ni ≤ 9223372036854775807) (hnt : nt ≤ 9223372036854775807) (hbad : okT k neg L s num ni nt = false) :
    Calls Tryd.prog 16 #[.agg #[.int .u8 k, .bool neg, .slice a L.length c, .string s, .int .i64 num, .slice ai ni ci, .slice at' nt ct]] w fun e w' => e = .returned (.tuple #[.int .i64 0, .bool false]) ∧ Upd [] w w' := by
  have HR := Right_any k num neg L s a ai at' c ni ci nt ct (w.alloc (.cells #[.int .u8 k, .bool neg, .slice a L.length c, .string s, .int .i64 num, .slice ai ni ci, .slice at' nt ct] 26)) hn2 (HL.mono ((Upd.refl [] w).alloc _)) hni hnt
  rw [hbad] at HR
  clear hbad HL
  go_enter Tryd.func16, Tryd.ntmps16
  go_wp2_with fail
  refine HR.mono ?_
  rintro e w1 ⟨rfl, rfl⟩
  go_wp2
  go_ret2
  exact ⟨rfl, by repeat (first | exact Upd.refl _ _ | refine Upd.alloc ?_ _)⟩

set_option maxHeartbeats 1000000 in
set_option maxRecDepth 100000 in
theorem rInt_bad (k num : Int) (neg : Bool) (L : List Nat) (s : ByteArray) (a ai at' : Option Addr) (c ni ci nt ct : Nat) (w : World) (hn2 : L.length ≤ 9223372036854775807) (HL : At w a L) (hni : ni ≤ 9223372036854775807) (hnt : nt ≤ 9223372036854775807) (hbad : okT k neg L s num ni nt = false) :
    Calls Tryd.prog 17 #[.agg #[.int .u8 k, .bool neg, .slice a L.length c, .string s, .int .i64 num, .slice ai ni ci, .slice at' nt ct]] w fun e w' => e = .returned (.tuple #[.int .i64 0, .bool false]) ∧ Upd [] w w' := by
  have HR := rRight_any k num neg L s a ai at' c ni ci nt ct (w.alloc (.cells #[.int .u8 k, .bool neg, .slice a L.length c, .string s, .int .i64 num, .slice ai ni ci, .slice at' nt ct] 26)) hn2 (HL.mono ((Upd.refl [] w).alloc _)) hni hnt
  rw [hbad] at HR
  clear hbad HL
  go_enter Tryd.func17, Tryd.ntmps17
  go_wp2_with fail
  refine HR.mono ?_
  rintro e w1 ⟨rfl, rfl⟩
  go_wp2
  go_ret2
  exact ⟨rfl, by repeat (first | exact Upd.refl _ _ | refine Upd.alloc ?_ _)⟩

set_option maxHeartbeats 1000000 in
set_option maxRecDepth 100000 in
theorem rSub_badB (k num k' num' : Int) (na nb : Bool) (A B : List Nat) (s s' : ByteArray) (a ai at' b bi bt : Option Addr) (ca ni ci nt ct cb mi cbi mt cbt : Nat) (w : World) (hm2 : B.length ≤ 9223372036854775807) (HB : At w b B) (hmi : mi ≤ 9223372036854775807) (hmt : mt ≤ 9223372036854775807) (hbad : okT k' nb B s' num' mi mt = false) :
    Calls Tryd.prog 15 #[.agg #[.int .u8 k, .bool na, .slice a A.length ca, .string s, .int .i64 num, .slice ai ni ci, .slice at' nt ct], .agg #[.int .u8 k', .bool nb, .slice b B.length cb, .string s', .int .i64 num', .slice bi mi cbi, .slice bt mt cbt]] w fun e w' => e = .returned (.tuple #[(.agg #[.int .u8 0, .bool false, .slice none 0 0, .string ⟨#[]⟩, .int .i64 0, .slice none 0 0, .slice none 0 0]), .bool false]) ∧ Upd [] w w' := by
  have HS : Hid (∀ W, Upd [] w W → _) := fun W hu => rRight_any k' num' nb B s' b bi bt cb mi cbi mt cbt W hm2 (HB.mono hu) hmi hmt
  rw [hbad] at HS
  clear hbad HB
  go_enter Tryd.func15, Tryd.ntmps15
  go_wp2_with fail
  refine (HS.out _ ((((Upd.refl [] w).alloc _).alloc _).alloc _)).mono ?_
  rintro e w1 ⟨rfl, rfl⟩
  go_wp2
  exact ret_Tb Tryd.results15 rfl _ _ _ rfl ((Tb.new ((w.alloc _).alloc _) _ (w.heap.size + 1 + 1) (by simp)).old _) rfl rfl ⟨rfl, by repeat (first | exact Upd.refl _ _ | refine Upd.alloc ?_ _)⟩

end Go.Proofs.YtpjlhpopoacjdaaDoor
