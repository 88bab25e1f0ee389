/- Div, of what is not right, or by 0. -/
import Derived.Test.YtpjlhpopoacjdaaDoorJI
namespace Go.Proofs.YtpjlhpopoacjdaaDoor
open Go.RowKit

set_option maxHeartbeats 1000000 in
set_option maxRecDepth 100000 in
theorem Div_badA (k num k' num' : Int) (na nb : Bool) (A B : List Nat) (s s' : ByteArray) (a ai at' b bi bt : Option Addr) (ca ni ci nt ct cb mi cbi mt cbt : Nat) (w : World) (hn2 : A.length ≤ 9223372036854775807) (HA : At w a A) (hni : ni ≤ 9223372036854775807) (hnt : nt ≤ 9223372036854775807) (hbad : okT k na A s num ni nt = false) :
    Calls Tryd.prog 26 #[.agg #[.int .u8 k, .bool na, .slice a A.length ca, .string s, .int .i64 num, .slice ai ni ci, .slice at' nt ct], .agg #[.int .u8 k', .bool nb, .slice b B.length cb, .string s', .int .i64 num', .slice bi mi cbi, .slice bt mt cbt]] w fun e w' => e = .returned (.tuple #[(.agg #[.int .u8 0, .bool false, .slice none 0 0, .string ⟨#[]⟩, .int .i64 0, .slice none 0 0, .slice none 0 0]), (.agg #[.int .u8 0, .bool false, .slice none 0 0, .string ⟨#[]⟩, .int .i64 0, .slice none 0 0, .slice none 0 0]), .bool false]) ∧ Upd [] w w' := by
  have HR : Hid (∀ W, Upd [] w W → _) := fun W hu => Right_any k num na A s a ai at' ca ni ci nt ct W hn2 (HA.mono hu) hni hnt
  rw [hbad] at HR
  clear hbad HA
  go_enter Tryd.func26, Tryd.ntmps26
  go_wp2_with fail
  refine (HR.out _ (((((Upd.refl [] w).alloc _).alloc _).alloc _).alloc _)).mono ?_
  rintro e w1 ⟨rfl, rfl⟩
  go_wp2
  exact ret_TTb Tryd.results26 rfl _ _ _ _ _ rfl (((Tb.new ((w.alloc _).alloc _) _ (w.heap.size + 1 + 1) (by simp)).old _).old _) rfl rfl ((Tb.new (((w.alloc _).alloc _).alloc _) _ (w.heap.size + 1 + 1 + 1) (by simp)).old _) rfl rfl ⟨rfl, by repeat (first | exact Upd.refl _ _ | refine Upd.alloc ?_ _)⟩

set_option maxHeartbeats 1000000 in
set_option maxRecDepth 100000 in
theorem Div_badB (k num k' num' : Int) (na nb : Bool) (A B : List Nat) (s s' : ByteArray) (a ai at' b bi bt : Option Addr) (ca ni ci nt ct cb mi cbi mt cbt : Nat) (w : World) (hn2 : A.length ≤ 9223372036854775807) (HA : At w a A) (hni : ni ≤ 9223372036854775807) (hnt : nt ≤ 9223372036854775807) (hok : okT k na A s num ni nt = true)
    (hm2 : B.length ≤ 9223372036854775807) (HB : At w b B) (hmi : mi ≤ 9223372036854775807) (hmt : mt ≤ 9223372036854775807) (hbad : okT k' nb B s' num' mi mt = false) :
    Calls Tryd.prog 26 #[.agg #[.int .u8 k, .bool na, .slice a A.length ca, .string s, .int .i64 num, .slice ai ni ci, .slice at' nt ct], .agg #[.int .u8 k', .bool nb, .slice b B.length cb, .string s', .int .i64 num', .slice bi mi cbi, .slice bt mt cbt]] w fun e w' => e = .returned (.tuple #[(.agg #[.int .u8 0, .bool false, .slice none 0 0, .string ⟨#[]⟩, .int .i64 0, .slice none 0 0, .slice none 0 0]), (.agg #[.int .u8 0, .bool false, .slice none 0 0, .string ⟨#[]⟩, .int .i64 0, .slice none 0 0, .slice none 0 0]), .bool false]) ∧ Upd [] w w' := by
  have HR : Hid (∀ W, Upd [] w W → _) := fun W hu => Right_any k num na A s a ai at' ca ni ci nt ct W hn2 (HA.mono hu) hni hnt
  have HS : Hid (∀ W, Upd [] w W → _) := fun W hu => Right_any k' num' nb B s' b bi bt cb mi cbi mt cbt W hm2 (HB.mono hu) hmi hmt
  rw [hok] at HR
  rw [hbad] at HS
  clear hbad HA HB hok
  go_enter Tryd.func26, Tryd.ntmps26
  go_wp2_with fail
  refine (HR.out _ (((((Upd.refl [] w).alloc _).alloc _).alloc _).alloc _)).mono ?_
  rintro e w1 ⟨rfl, rfl⟩
  go_wp2_with fail
  refine (HS.out _ ((((((Upd.refl [] w).alloc _).alloc _).alloc _).alloc _).alloc _)).mono ?_
  rintro e w2 ⟨rfl, rfl⟩
  go_wp2
  exact ret_TTb Tryd.results26 rfl _ _ _ _ _ rfl ((((Tb.new ((w.alloc _).alloc _) _ (w.heap.size + 1 + 1) (by simp)).old _).old _).old _) rfl rfl (((Tb.new (((w.alloc _).alloc _).alloc _) _ (w.heap.size + 1 + 1 + 1) (by simp)).old _).old _) rfl rfl ⟨rfl, by repeat (first | exact Upd.refl _ _ | refine Upd.alloc ?_ _)⟩

set_option maxHeartbeats 1000000 in
set_option maxRecDepth 100000 in
theorem Div_zero (a ai at' b bi bt : Option Addr) (ca ci ct cb cbi cbt : Nat) (na nb : Bool) (A B : List Nat) (x : Int) (w : World) (HA : TI w na a A x) (HB : TI w nb b B 0) :
    Calls Tryd.prog 26 #[.agg #[.int .u8 1, .bool na, .slice a A.length ca, .string ⟨#[]⟩, .int .i64 0, .slice ai 0 ci, .slice at' 0 ct], .agg #[.int .u8 1, .bool nb, .slice b B.length cb, .string ⟨#[]⟩, .int .i64 0, .slice bi 0 cbi, .slice bt 0 cbt]] w fun e w' => e = .returned (.tuple #[(.agg #[.int .u8 0, .bool false, .slice none 0 0, .string ⟨#[]⟩, .int .i64 0, .slice none 0 0, .slice none 0 0]), (.agg #[.int .u8 0, .bool false, .slice none 0 0, .string ⟨#[]⟩, .int .i64 0, .slice none 0 0, .slice none 0 0]), .bool false]) ∧ Upd [] w w' := by
  have HR : Hid (∀ W, Upd [] w W → _) := fun W hu => HA.right (W := W) ai at' ca ci ct hu
  have HS : Hid (∀ W, Upd [] w W → _) := fun W hu => HB.right (W := W) bi bt cb cbi cbt hu
  have hB : B = [] := HB.norm.nil_iff.2 rfl
  clear HA HB
  subst hB
  go_enter Tryd.func26, Tryd.ntmps26
  go_wp2_with fail
  refine (HR.out _ (((((Upd.refl [] w).alloc _).alloc _).alloc _).alloc _)).mono ?_
  rintro e w1 ⟨rfl, rfl⟩
  go_wp2_with fail
  refine (HS.out _ ((((((Upd.refl [] w).alloc _).alloc _).alloc _).alloc _).alloc _)).mono ?_
  rintro e w2 ⟨rfl, rfl⟩
  go_wp2
  exact ret_TTb Tryd.results26 rfl _ _ _ _ _ rfl ((((Tb.new ((w.alloc _).alloc _) _ (w.heap.size + 1 + 1) (by simp)).old _).old _).old _) rfl rfl (((Tb.new (((w.alloc _).alloc _).alloc _) _ (w.heap.size + 1 + 1 + 1) (by simp)).old _).old _) rfl rfl ⟨rfl, by repeat (first | exact Upd.refl _ _ | refine Upd.alloc ?_ _)⟩

end Go.Proofs.YtpjlhpopoacjdaaDoor
