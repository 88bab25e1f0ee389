/- What the laws' walks share. -/
import Derived.Test.YtnpocmhaoaigfaaGreatDoorSizB

namespace Go.Proofs.YtnpocmhaoaigfaaGreatDoor
open Go.RowKit

/-- Right, of whatever term. -/
theorem Right_upd (k num : Int) (neg : Bool) (L : List Nat) (s : ByteArray) (a ai at' : Option Addr) (c ni ci nt ct : Nat) (W : World) (b : Bool) (hn2 : L.length ≤ 9223372036854775807) (HL : At W a L) (hni : ni ≤ 9223372036854775807) (hnt : nt ≤ 9223372036854775807) (hb : okT k neg L s num ni nt = b) :
    Calls Tryz.prog 11 #[.agg #[.int .u8 k, .bool neg, .slice a L.length c, .string s, .int .i64 num, .slice ai ni ci, .slice at' nt ct]] W fun e w' => e = .returned (.bool b) ∧ Upd [] W w' := by
  refine (Right_any k num neg L s a ai at' c ni ci nt ct W hn2 HL hni hnt).mono ?_
  rintro e w' ⟨rfl, rfl⟩
  exact ⟨by rw [hb], (Upd.refl [] W).alloc _⟩

theorem TI.rightU {W : World} {neg : Bool} {a : Option Addr} {L : List Nat} {z : Int} (h : TI W neg a L z) (ai at' : Option Addr) (c ci ct : Nat) :
    Calls Tryz.prog 11 #[.agg #[.int .u8 1, .bool neg, .slice a L.length c, .string ⟨#[]⟩, .int .i64 0, .slice ai 0 ci, .slice at' 0 ct]] W fun e w' => e = .returned (.bool true) ∧ Upd [] W w' :=
  Right_upd 1 0 neg L ⟨#[]⟩ a ai at' c 0 ci 0 ct W true (by have := h.len; omega) h.mem (by omega) (by omega) h.ok

/-- An answer of which it is not asked yet whether there was room. -/
theorem Res.uni {w' : World} {e : Ending} {z : Int} (h : Res w' e z) :
    ∃ k neg a c M b, e = .returned (.tuple #[.agg #[.int .u8 k, .bool neg, .slice a M.length c, .string ⟨#[]⟩, .int .i64 0, .slice none 0 0, .slice none 0 0], .bool b]) ∧ ((b = true ∧ k = 1 ∧ z.natAbs < 4294967296 ^ 32 ∧ TI w' neg a M z) ∨ (b = false ∧ ¬ z.natAbs < 4294967296 ^ 32)) := by
  rcases h with ⟨h1, neg, a, c, M, rfl, h2⟩ | ⟨h1, rfl⟩
  · exact ⟨1, neg, a, c, M, true, rfl, Or.inl ⟨rfl, rfl, h1, h2⟩⟩
  · exact ⟨0, false, none, 0, [], false, rfl, Or.inr ⟨rfl, h1⟩⟩

set_option maxHeartbeats 1000000 in
set_option maxRecDepth 100000 in
/-- Times, of a first argument that is not right. -/
theorem Times_badA (k num k' num' : Int) (na nb : Bool) (A B : List Nat) (s s' : ByteArray) (a ai at' b bi bt : Option Addr) (ca ni ci nt ct cb mi cbi mt cbt : Nat) (w : World) (hn2 : A.length ≤ 9223372036854775807) (HA : At w a A) (hni : ni ≤ 9223372036854775807) (hnt : nt ≤ 9223372036854775807) (hbad : okT k na A s num ni nt = false) :
    Calls Tryz.prog 104 #[.agg #[.int .u8 k, .bool na, .slice a A.length ca, .string s, .int .i64 num, .slice ai ni ci, .slice at' nt ct], .agg #[.int .u8 k', .bool nb, .slice b B.length cb, .string s', .int .i64 num', .slice bi mi cbi, .slice bt mt cbt]] w fun e w' => e = .returned (.tuple #[(.agg #[.int .u8 0, .bool false, .slice none 0 0, .string ⟨#[]⟩, .int .i64 0, .slice none 0 0, .slice none 0 0]), .bool false]) ∧ Upd [] w w' := by
  have HR : Hid (∀ W, Upd [] w W → _) := fun W hu => Right_any k num na A s a ai at' ca ni ci nt ct W hn2 (HA.mono hu) hni hnt
  rw [hbad] at HR
  clear hbad HA
  go_enter Tryz.func104, Tryz.ntmps104
  go_wp2_with fail
  refine (HR.out _ ((((Upd.refl [] w).alloc _).alloc _).alloc _)).mono ?_
  rintro e w1 ⟨rfl, rfl⟩
  go_wp2
  exact ret_Tb Tryz.results104 rfl _ _ _ rfl ((Tb.new ((w.alloc _).alloc _) _ (w.heap.size + 1 + 1) (by simp)).old _) rfl rfl ⟨rfl, by repeat (first | exact Upd.refl _ _ | refine Upd.alloc ?_ _)⟩

end Go.Proofs.YtnpocmhaoaigfaaGreatDoor

/- Div, of what is not right, or by 0. -/
namespace Go.Proofs.YtnpocmhaoaigfaaGreatDoor
open Go.RowKit

set_option maxHeartbeats 1000000 in
set_option maxRecDepth 100000 in
theorem Div_badA (k num k' num' : Int) (na nb : Bool) (A B : List Nat) (s s' : ByteArray) (a ai at' b bi bt : Option Addr) (ca ni ci nt ct cb mi cbi mt cbt : Nat) (w : World) (hn2 : A.length ≤ 9223372036854775807) (HA : At w a A) (hni : ni ≤ 9223372036854775807) (hnt : nt ≤ 9223372036854775807) (hbad : okT k na A s num ni nt = false) :
    Calls Tryz.prog 105 #[.agg #[.int .u8 k, .bool na, .slice a A.length ca, .string s, .int .i64 num, .slice ai ni ci, .slice at' nt ct], .agg #[.int .u8 k', .bool nb, .slice b B.length cb, .string s', .int .i64 num', .slice bi mi cbi, .slice bt mt cbt]] w fun e w' => e = .returned (.tuple #[(.agg #[.int .u8 0, .bool false, .slice none 0 0, .string ⟨#[]⟩, .int .i64 0, .slice none 0 0, .slice none 0 0]), (.agg #[.int .u8 0, .bool false, .slice none 0 0, .string ⟨#[]⟩, .int .i64 0, .slice none 0 0, .slice none 0 0]), .bool false]) ∧ Upd [] w w' := by
  have HR : Hid (∀ W, Upd [] w W → _) := fun W hu => Right_any k num na A s a ai at' ca ni ci nt ct W hn2 (HA.mono hu) hni hnt
  rw [hbad] at HR
  clear hbad HA
  go_enter Tryz.func105, Tryz.ntmps105
  go_wp2_with fail
  refine (HR.out _ (((((Upd.refl [] w).alloc _).alloc _).alloc _).alloc _)).mono ?_
  rintro e w1 ⟨rfl, rfl⟩
  go_wp2
  exact ret_TTb Tryz.results105 rfl _ _ _ _ _ rfl (((Tb.new ((w.alloc _).alloc _) _ (w.heap.size + 1 + 1) (by simp)).old _).old _) rfl rfl ((Tb.new (((w.alloc _).alloc _).alloc _) _ (w.heap.size + 1 + 1 + 1) (by simp)).old _) rfl rfl ⟨rfl, by repeat (first | exact Upd.refl _ _ | refine Upd.alloc ?_ _)⟩

set_option maxHeartbeats 1000000 in
set_option maxRecDepth 100000 in
theorem Div_badB (k num k' num' : Int) (na nb : Bool) (A B : List Nat) (s s' : ByteArray) (a ai at' b bi bt : Option Addr) (ca ni ci nt ct cb mi cbi mt cbt : Nat) (w : World) (hn2 : A.length ≤ 9223372036854775807) (HA : At w a A) (hni : ni ≤ 9223372036854775807) (hnt : nt ≤ 9223372036854775807) (hok : okT k na A s num ni nt = true)
    (hm2 : B.length ≤ 9223372036854775807) (HB : At w b B) (hmi : mi ≤ 9223372036854775807) (hmt : mt ≤ 9223372036854775807) (hbad : okT k' nb B s' num' mi mt = false) :
    Calls Tryz.prog 105 #[.agg #[.int .u8 k, .bool na, .slice a A.length ca, .string s, .int .i64 num, .slice ai ni ci, .slice at' nt ct], .agg #[.int .u8 k', .bool nb, .slice b B.length cb, .string s', .int .i64 num', .slice bi mi cbi, .slice bt mt cbt]] w fun e w' => e = .returned (.tuple #[(.agg #[.int .u8 0, .bool false, .slice none 0 0, .string ⟨#[]⟩, .int .i64 0, .slice none 0 0, .slice none 0 0]), (.agg #[.int .u8 0, .bool false, .slice none 0 0, .string ⟨#[]⟩, .int .i64 0, .slice none 0 0, .slice none 0 0]), .bool false]) ∧ Upd [] w w' := by
  have HR : Hid (∀ W, Upd [] w W → _) := fun W hu => Right_any k num na A s a ai at' ca ni ci nt ct W hn2 (HA.mono hu) hni hnt
  have HS : Hid (∀ W, Upd [] w W → _) := fun W hu => Right_any k' num' nb B s' b bi bt cb mi cbi mt cbt W hm2 (HB.mono hu) hmi hmt
  rw [hok] at HR
  rw [hbad] at HS
  clear hbad HA HB hok
  go_enter Tryz.func105, Tryz.ntmps105
  go_wp2_with fail
  refine (HR.out _ (((((Upd.refl [] w).alloc _).alloc _).alloc _).alloc _)).mono ?_
  rintro e w1 ⟨rfl, rfl⟩
  go_wp2_with fail
  refine (HS.out _ ((((((Upd.refl [] w).alloc _).alloc _).alloc _).alloc _).alloc _)).mono ?_
  rintro e w2 ⟨rfl, rfl⟩
  go_wp2
  exact ret_TTb Tryz.results105 rfl _ _ _ _ _ rfl ((((Tb.new ((w.alloc _).alloc _) _ (w.heap.size + 1 + 1) (by simp)).old _).old _).old _) rfl rfl (((Tb.new (((w.alloc _).alloc _).alloc _) _ (w.heap.size + 1 + 1 + 1) (by simp)).old _).old _) rfl rfl ⟨rfl, by repeat (first | exact Upd.refl _ _ | refine Upd.alloc ?_ _)⟩

set_option maxHeartbeats 1000000 in
set_option maxRecDepth 100000 in
theorem Div_zero (a ai at' b bi bt : Option Addr) (ca ci ct cb cbi cbt : Nat) (na nb : Bool) (A B : List Nat) (x : Int) (w : World) (HA : TI w na a A x) (HB : TI w nb b B 0) :
    Calls Tryz.prog 105 #[.agg #[.int .u8 1, .bool na, .slice a A.length ca, .string ⟨#[]⟩, .int .i64 0, .slice ai 0 ci, .slice at' 0 ct], .agg #[.int .u8 1, .bool nb, .slice b B.length cb, .string ⟨#[]⟩, .int .i64 0, .slice bi 0 cbi, .slice bt 0 cbt]] w fun e w' => e = .returned (.tuple #[(.agg #[.int .u8 0, .bool false, .slice none 0 0, .string ⟨#[]⟩, .int .i64 0, .slice none 0 0, .slice none 0 0]), (.agg #[.int .u8 0, .bool false, .slice none 0 0, .string ⟨#[]⟩, .int .i64 0, .slice none 0 0, .slice none 0 0]), .bool false]) ∧ Upd [] w w' := by
  have HR : Hid (∀ W, Upd [] w W → _) := fun W hu => HA.right (W := W) ai at' ca ci ct hu
  have HS : Hid (∀ W, Upd [] w W → _) := fun W hu => HB.right (W := W) bi bt cb cbi cbt hu
  have hB : B = [] := HB.norm.nil_iff.2 rfl
  clear HA HB
  subst hB
  go_enter Tryz.func105, Tryz.ntmps105
  go_wp2_with fail
  refine (HR.out _ (((((Upd.refl [] w).alloc _).alloc _).alloc _).alloc _)).mono ?_
  rintro e w1 ⟨rfl, rfl⟩
  go_wp2_with fail
  refine (HS.out _ ((((((Upd.refl [] w).alloc _).alloc _).alloc _).alloc _).alloc _)).mono ?_
  rintro e w2 ⟨rfl, rfl⟩
  go_wp2
  exact ret_TTb Tryz.results105 rfl _ _ _ _ _ rfl ((((Tb.new ((w.alloc _).alloc _) _ (w.heap.size + 1 + 1) (by simp)).old _).old _).old _) rfl rfl (((Tb.new (((w.alloc _).alloc _).alloc _) _ (w.heap.size + 1 + 1 + 1) (by simp)).old _).old _) rfl rfl ⟨rfl, by repeat (first | exact Upd.refl _ _ | refine Upd.alloc ?_ _)⟩

end Go.Proofs.YtnpocmhaoaigfaaGreatDoor
