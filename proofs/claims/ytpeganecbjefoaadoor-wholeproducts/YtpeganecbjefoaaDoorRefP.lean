/- Times and Div of the reference where an argument is not right; what both sides answer. -/
import Derived.Test.YtpeganecbjefoaaDoorBitV
import Derived.Test.YtpeganecbjefoaaDoorSamT
namespace Go.Proofs.YtpeganecbjefoaaDoor
open Go.RowKit

set_option maxHeartbeats 1000000 in
set_option maxRecDepth 100000 in
theorem Times_badB (k num k' num' : Int) (na nb : Bool) (A B : List Nat) (s s' : ByteArray) (a ai at' b bi bt : Option Addr) (ca ni ci nt ct cb mi cbi mt cbt : Nat) (w : World) (hn2 : A.length ≤ 9223372036854775807) (HA : At w a A) (hni : ni ≤ 9223372036854775807) (hnt : nt ≤ 9223372036854775807) (hok : okT k na A s num ni nt = true)
    (hm2 : B.length ≤ 9223372036854775807) (HB : At w b B) (hmi : mi ≤ 9223372036854775807) (hmt : mt ≤ 9223372036854775807) (hbad : okT k' nb B s' num' mi mt = false) :
    Calls Tryd.prog 24 #[.agg #[.int .u8 k, .bool na, .slice a A.length ca, .string s, .int .i64 num, .slice ai ni ci, .slice at' nt ct], .agg #[.int .u8 k', .bool nb, .slice b B.length cb, .string s', .int .i64 num', .slice bi mi cbi, .slice bt mt cbt]] w fun e w' => e = .returned (.tuple #[(.agg #[.int .u8 0, .bool false, .slice none 0 0, .string ⟨#[]⟩, .int .i64 0, .slice none 0 0, .slice none 0 0]), .bool false]) ∧ Upd [] w w' := by
  have HR : Hid (∀ W, Upd [] w W → _) := fun W hu => Right_any k num na A s a ai at' ca ni ci nt ct W hn2 (HA.mono hu) hni hnt
  have HS : Hid (∀ W, Upd [] w W → _) := fun W hu => Right_any k' num' nb B s' b bi bt cb mi cbi mt cbt W hm2 (HB.mono hu) hmi hmt
  rw [hok] at HR
  rw [hbad] at HS
  clear hbad HA HB hok
  go_enter Tryd.func24, Tryd.ntmps24
  go_wp2_with fail
  refine (HR.out _ ((((Upd.refl [] w).alloc _).alloc _).alloc _)).mono ?_
  rintro e w1 ⟨rfl, rfl⟩
  go_wp2_with fail
  refine (HS.out _ (((((Upd.refl [] w).alloc _).alloc _).alloc _).alloc _)).mono ?_
  rintro e w2 ⟨rfl, rfl⟩
  go_wp2
  exact ret_Tb Tryd.results24 rfl _ _ _ rfl (((Tb.new ((w.alloc _).alloc _) _ (w.heap.size + 1 + 1) (by simp)).old _).old _) rfl rfl ⟨rfl, by repeat (first | exact Upd.refl _ _ | refine Upd.alloc ?_ _)⟩

set_option maxHeartbeats 1000000 in
set_option maxRecDepth 100000 in
theorem rTimes_badA (k num k' num' : Int) (na nb : Bool) (A B : List Nat) (s s' : ByteArray) (a ai at' b bi bt : Option Addr) (ca ni ci nt ct cb mi cbi mt cbt : Nat) (w : World) (hn2 : A.length ≤ 9223372036854775807) (HA : At w a A) (hni : ni ≤ 9223372036854775807) (hnt : nt ≤ 9223372036854775807) (hbad : okT k na A s num ni nt = false) :
    Calls Tryd.prog 25 #[.agg #[.int .u8 k, .bool na, .slice a A.length ca, .string s, .int .i64 num, .slice ai ni ci, .slice at' nt ct], .agg #[.int .u8 k', .bool nb, .slice b B.length cb, .string s', .int .i64 num', .slice bi mi cbi, .slice bt mt cbt]] w fun e w' => e = .returned (.tuple #[(.agg #[.int .u8 0, .bool false, .slice none 0 0, .string ⟨#[]⟩, .int .i64 0, .slice none 0 0, .slice none 0 0]), .bool false]) ∧ Upd [] w w' := by
  have HR : Hid (∀ W, Upd [] w W → _) := fun W hu => rRight_any k num na A s a ai at' ca ni ci nt ct W hn2 (HA.mono hu) hni hnt
  rw [hbad] at HR
  clear hbad HA
  go_enter Tryd.func25, Tryd.ntmps25
  go_wp2_with fail
  refine (HR.out _ ((((Upd.refl [] w).alloc _).alloc _).alloc _)).mono ?_
  rintro e w1 ⟨rfl, rfl⟩
  go_wp2
  exact ret_Tb Tryd.results25 rfl _ _ _ rfl ((Tb.new ((w.alloc _).alloc _) _ (w.heap.size + 1 + 1) (by simp)).old _) rfl rfl ⟨rfl, by repeat (first | exact Upd.refl _ _ | refine Upd.alloc ?_ _)⟩

set_option maxHeartbeats 1000000 in
set_option maxRecDepth 100000 in
theorem rTimes_badB (k num k' num' : Int) (na nb : Bool) (A B : List Nat) (s s' : ByteArray) (a ai at' b bi bt : Option Addr) (ca ni ci nt ct cb mi cbi mt cbt : Nat) (w : World) (hn2 : A.length ≤ 9223372036854775807) (HA : At w a A) (hni : ni ≤ 9223372036854775807) (hnt : nt ≤ 9223372036854775807) (hok : okT k na A s num ni nt = true)
    (hm2 : B.length ≤ 9223372036854775807) (HB : At w b B) (hmi : mi ≤ 9223372036854775807) (hmt : mt ≤ 9223372036854775807) (hbad : okT k' nb B s' num' mi mt = false) :
    Calls Tryd.prog 25 #[.agg #[.int .u8 k, .bool na, .slice a A.length ca, .string s, .int .i64 num, .slice ai ni ci, .slice at' nt ct], .agg #[.int .u8 k', .bool nb, .slice b B.length cb, .string s', .int .i64 num', .slice bi mi cbi, .slice bt mt cbt]] w fun e w' => e = .returned (.tuple #[(.agg #[.int .u8 0, .bool false, .slice none 0 0, .string ⟨#[]⟩, .int .i64 0, .slice none 0 0, .slice none 0 0]), .bool false]) ∧ Upd [] w w' := by
  have HR : Hid (∀ W, Upd [] w W → _) := fun W hu => rRight_any k num na A s a ai at' ca ni ci nt ct W hn2 (HA.mono hu) hni hnt
  have HS : Hid (∀ W, Upd [] w W → _) := fun W hu => rRight_any k' num' nb B s' b bi bt cb mi cbi mt cbt W hm2 (HB.mono hu) hmi hmt
  rw [hok] at HR
  rw [hbad] at HS
  clear hbad HA HB hok
  go_enter Tryd.func25, Tryd.ntmps25
  go_wp2_with fail
  refine (HR.out _ ((((Upd.refl [] w).alloc _).alloc _).alloc _)).mono ?_
  rintro e w1 ⟨rfl, rfl⟩
  go_wp2_with fail
  refine (HS.out _ (((((Upd.refl [] w).alloc _).alloc _).alloc _).alloc _)).mono ?_
  rintro e w2 ⟨rfl, rfl⟩
  go_wp2
  exact ret_Tb Tryd.results25 rfl _ _ _ rfl (((Tb.new ((w.alloc _).alloc _) _ (w.heap.size + 1 + 1) (by simp)).old _).old _) rfl rfl ⟨rfl, by repeat (first | exact Upd.refl _ _ | refine Upd.alloc ?_ _)⟩

set_option maxHeartbeats 1000000 in
set_option maxRecDepth 100000 in
theorem rDiv_badA (k num k' num' : Int) (na nb : Bool) (A B : List Nat) (s s' : ByteArray) (a ai at' b bi bt : Option Addr) (ca ni ci nt ct cb mi cbi mt cbt : Nat) (w : World) (hn2 : A.length ≤ 9223372036854775807) (HA : At w a A) (hni : ni ≤ 9223372036854775807) (hnt : nt ≤ 9223372036854775807) (hbad : okT k na A s num ni nt = false) :
    Calls Tryd.prog 27 #[.agg #[.int .u8 k, .bool na, .slice a A.length ca, .string s, .int .i64 num, .slice ai ni ci, .slice at' nt ct], .agg #[.int .u8 k', .bool nb, .slice b B.length cb, .string s', .int .i64 num', .slice bi mi cbi, .slice bt mt cbt]] w fun e w' => e = .returned (.tuple #[(.agg #[.int .u8 0, .bool false, .slice none 0 0, .string ⟨#[]⟩, .int .i64 0, .slice none 0 0, .slice none 0 0]), (.agg #[.int .u8 0, .bool false, .slice none 0 0, .string ⟨#[]⟩, .int .i64 0, .slice none 0 0, .slice none 0 0]), .bool false]) ∧ Upd [] w w' := by
  have HR : Hid (∀ W, Upd [] w W → _) := fun W hu => rRight_any k num na A s a ai at' ca ni ci nt ct W hn2 (HA.mono hu) hni hnt
  rw [hbad] at HR
  clear hbad HA
  go_enter Tryd.func27, Tryd.ntmps27
  go_wp2_with fail
  refine (HR.out _ (((((Upd.refl [] w).alloc _).alloc _).alloc _).alloc _)).mono ?_
  rintro e w1 ⟨rfl, rfl⟩
  go_wp2
  exact ret_TTb Tryd.results27 rfl _ _ _ _ _ rfl (((Tb.new ((w.alloc _).alloc _) _ (w.heap.size + 1 + 1) (by simp)).old _).old _) rfl rfl ((Tb.new (((w.alloc _).alloc _).alloc _) _ (w.heap.size + 1 + 1 + 1) (by simp)).old _) rfl rfl ⟨rfl, by repeat (first | exact Upd.refl _ _ | refine Upd.alloc ?_ _)⟩

set_option maxHeartbeats 1000000 in
set_option maxRecDepth 100000 in
theorem rDiv_badB (k num k' num' : Int) (na nb : Bool) (A B : List Nat) (s s' : ByteArray) (a ai at' b bi bt : Option Addr) (ca ni ci nt ct cb mi cbi mt cbt : Nat) (w : World) (hn2 : A.length ≤ 9223372036854775807) (HA : At w a A) (hni : ni ≤ 9223372036854775807) (hnt : nt ≤ 9223372036854775807) (hok : okT k na A s num ni nt = true)
    (hm2 : B.length ≤ 9223372036854775807) (HB : At w b B) (hmi : mi ≤ 9223372036854775807) (hmt : mt ≤ 9223372036854775807) (hbad : okT k' nb B s' num' mi mt = false) :
    Calls Tryd.prog 27 #[.agg #[.int .u8 k, .bool na, .slice a A.length ca, .string s, .int .i64 num, .slice ai ni ci, .slice at' nt ct], .agg #[.int .u8 k', .bool nb, .slice b B.length cb, .string s', .int .i64 num', .slice bi mi cbi, .slice bt mt cbt]] w fun e w' => e = .returned (.tuple #[(.agg #[.int .u8 0, .bool false, .slice none 0 0, .string ⟨#[]⟩, .int .i64 0, .slice none 0 0, .slice none 0 0]), (.agg #[.int .u8 0, .bool false, .slice none 0 0, .string ⟨#[]⟩, .int .i64 0, .slice none 0 0, .slice none 0 0]), .bool false]) ∧ Upd [] w w' := by
  have HR : Hid (∀ W, Upd [] w W → _) := fun W hu => rRight_any k num na A s a ai at' ca ni ci nt ct W hn2 (HA.mono hu) hni hnt
  have HS : Hid (∀ W, Upd [] w W → _) := fun W hu => rRight_any k' num' nb B s' b bi bt cb mi cbi mt cbt W hm2 (HB.mono hu) hmi hmt
  rw [hok] at HR
  rw [hbad] at HS
  clear hbad HA HB hok
  go_enter Tryd.func27, Tryd.ntmps27
  go_wp2_with fail
  refine (HR.out _ (((((Upd.refl [] w).alloc _).alloc _).alloc _).alloc _)).mono ?_
  rintro e w1 ⟨rfl, rfl⟩
  go_wp2_with fail
  refine (HS.out _ ((((((Upd.refl [] w).alloc _).alloc _).alloc _).alloc _).alloc _)).mono ?_
  rintro e w2 ⟨rfl, rfl⟩
  go_wp2
  exact ret_TTb Tryd.results27 rfl _ _ _ _ _ rfl ((((Tb.new ((w.alloc _).alloc _) _ (w.heap.size + 1 + 1) (by simp)).old _).old _).old _) rfl rfl (((Tb.new (((w.alloc _).alloc _).alloc _) _ (w.heap.size + 1 + 1 + 1) (by simp)).old _).old _) rfl rfl ⟨rfl, by repeat (first | exact Upd.refl _ _ | refine Upd.alloc ?_ _)⟩

set_option maxHeartbeats 1000000 in
set_option maxRecDepth 100000 in
theorem rDiv_zero (a ai at' b bi bt : Option Addr) (ca ci ct cb cbi cbt : Nat) (na nb : Bool) (A B : List Nat) (x : Int) (w : World) (HA : TI w na a A x) (HB : TI w nb b B 0) :
    Calls Tryd.prog 27 #[.agg #[.int .u8 1, .bool na, .slice a A.length ca, .string ⟨#[]⟩, .int .i64 0, .slice ai 0 ci, .slice at' 0 ct], .agg #[.int .u8 1, .bool nb, .slice b B.length cb, .string ⟨#[]⟩, .int .i64 0, .slice bi 0 cbi, .slice bt 0 cbt]] w fun e w' => e = .returned (.tuple #[(.agg #[.int .u8 0, .bool false, .slice none 0 0, .string ⟨#[]⟩, .int .i64 0, .slice none 0 0, .slice none 0 0]), (.agg #[.int .u8 0, .bool false, .slice none 0 0, .string ⟨#[]⟩, .int .i64 0, .slice none 0 0, .slice none 0 0]), .bool false]) ∧ Upd [] w w' := by
  have HR : Hid (∀ W, Upd [] w W → _) := fun W hu => rRight_any 1 0 na A ⟨#[]⟩ a ai at' ca 0 ci 0 ct W (by have := HA.len; omega) (HA.mem.mono hu) (by omega) (by omega)
  have HS : Hid (∀ W, Upd [] w W → _) := fun W hu => rRight_any 1 0 nb B ⟨#[]⟩ b bi bt cb 0 cbi 0 cbt W (by have := HB.len; omega) (HB.mem.mono hu) (by omega) (by omega)
  rw [HA.ok] at HR
  rw [HB.ok] at HS
  have hB : B = [] := HB.norm.nil_iff.2 rfl
  clear HA HB
  subst hB
  go_enter Tryd.func27, Tryd.ntmps27
  go_wp2_with fail
  refine (HR.out _ (((((Upd.refl [] w).alloc _).alloc _).alloc _).alloc _)).mono ?_
  rintro e w1 ⟨rfl, rfl⟩
  go_wp2_with fail
  refine (HS.out _ ((((((Upd.refl [] w).alloc _).alloc _).alloc _).alloc _).alloc _)).mono ?_
  rintro e w2 ⟨rfl, rfl⟩
  go_wp2
  exact ret_TTb Tryd.results27 rfl _ _ _ _ _ rfl ((((Tb.new ((w.alloc _).alloc _) _ (w.heap.size + 1 + 1) (by simp)).old _).old _).old _) rfl rfl (((Tb.new (((w.alloc _).alloc _).alloc _) _ (w.heap.size + 1 + 1 + 1) (by simp)).old _).old _) rfl rfl ⟨rfl, by repeat (first | exact Upd.refl _ _ | refine Upd.alloc ?_ _)⟩

theorem Norm.ex (n : Nat) : ∃ L, Norm L n := by
  induction n using Nat.strongRecOn with
  | ind n ih =>
    by_cases h : n = 0
    · subst h; exact ⟨[], Norm.zero⟩
    · obtain ⟨L, hL⟩ := ih (n / 4294967296) (Nat.div_lt_self (by omega) (by decide))
      refine ⟨n % 4294967296 :: L, ⟨fun x hx => ?_, by rw [val_cons, hL.eq]; omega, fun x hx => ?_⟩⟩
      · rcases List.mem_cons.1 hx with h1 | h1
        · rw [h1]; exact Nat.mod_lt _ (by decide)
        · exact hL.dig x h1
      · by_cases hl : L = []
        · subst hl
          have := hL.nil_iff.1 rfl
          simp at hx
          omega
        · rw [List.getLast?_cons, List.getLast?_eq_some_getLast hl] at hx
          simp at hx
          exact hL.top x (by rw [List.getLast?_eq_some_getLast hl, hx])

/-- What a call that answers one integer answers, wherever it is called. -/
def PT (F : Nat) (args : Array Value) (W : World) (k : Int) (neg : Bool) (L : List Nat) (ok : Bool) : Prop := ∀ V, Upd [] W V → Calls Tryd.prog F args V fun e w' => Upd [] V w' ∧ ∃ a c, e = .returned (.tuple #[.agg #[.int .u8 k, .bool neg, .slice a L.length c, .string ⟨#[]⟩, .int .i64 0, .slice none 0 0, .slice none 0 0], .bool ok]) ∧ At w' a L
/-- .. two. -/
def PD (F : Nat) (args : Array Value) (W : World) (k : Int) (n1 n2 : Bool) (L M : List Nat) (ok : Bool) : Prop := ∀ V, Upd [] W V → Calls Tryd.prog F args V fun e w' => Upd [] V w' ∧ ∃ a c a2 c2, e = .returned (.tuple #[.agg #[.int .u8 k, .bool n1, .slice a L.length c, .string ⟨#[]⟩, .int .i64 0, .slice none 0 0, .slice none 0 0], .agg #[.int .u8 k, .bool n2, .slice a2 M.length c2, .string ⟨#[]⟩, .int .i64 0, .slice none 0 0, .slice none 0 0], .bool ok]) ∧ At w' a L ∧ At w' a2 M

theorem PT.zero {F : Nat} {args : Array Value} {W : World} (h : ∀ V, Upd [] W V → Calls Tryd.prog F args V fun e w' => e = .returned (.tuple #[(.agg #[.int .u8 0, .bool false, .slice none 0 0, .string ⟨#[]⟩, .int .i64 0, .slice none 0 0, .slice none 0 0]), .bool false]) ∧ Upd [] V w') : PT F args W 0 false [] false := fun V hu => (h V hu).mono fun _ _ ⟨he, hU⟩ => ⟨hU, none, 0, he, At.nil _ _⟩
theorem PD.zero {F : Nat} {args : Array Value} {W : World} (h : ∀ V, Upd [] W V → Calls Tryd.prog F args V fun e w' => e = .returned (.tuple #[(.agg #[.int .u8 0, .bool false, .slice none 0 0, .string ⟨#[]⟩, .int .i64 0, .slice none 0 0, .slice none 0 0]), (.agg #[.int .u8 0, .bool false, .slice none 0 0, .string ⟨#[]⟩, .int .i64 0, .slice none 0 0, .slice none 0 0]), .bool false]) ∧ Upd [] V w') : PD F args W 0 false false [] [] false := fun V hu => (h V hu).mono fun _ _ ⟨he, hU⟩ => ⟨hU, none, 0, none, 0, he, At.nil _ _, At.nil _ _⟩
theorem PT.res {F : Nat} {args : Array Value} {W : World} {z : Int} {L : List Nat} (hz : z.natAbs < 4294967296 ^ 32) (hL : Norm L z.natAbs) (h : ∀ V, Upd [] W V → Calls Tryd.prog F args V fun e w' => Res w' e z ∧ Upd [] V w') : PT F args W 1 (decide (z < 0)) L true := fun V hu => (h V hu).mono fun e w' ⟨hR, hU⟩ => by
  obtain ⟨_, ng, a, c, M, he, hT⟩ := hR.resolve_right (fun k => k.1 hz)
  have e1 := hT.norm.uniq hL
  have e2 := hT.sgn
  subst e1 e2
  exact ⟨hU, a, c, he, hT.mem⟩
theorem PT.none {F : Nat} {args : Array Value} {W : World} {z : Int} (hz : ¬ z.natAbs < 4294967296 ^ 32) (h : ∀ V, Upd [] W V → Calls Tryd.prog F args V fun e w' => Res w' e z ∧ Upd [] V w') : PT F args W 0 false [] false :=
  PT.zero fun V hu => (h V hu).mono fun _ _ ⟨hR, hU⟩ => ⟨(hR.resolve_left (fun k => hz k.1)).2, hU⟩
theorem PD.res {F : Nat} {args : Array Value} {W : World} {z r : Int} {L M : List Nat} (hL : Norm L z.natAbs) (hM : Norm M r.natAbs)
    (h : ∀ V, Upd [] W V → Calls Tryd.prog F args V fun e w' => Upd [] V w' ∧ ∃ nq nr a1 a2 c1 c2 Q R, e = .returned (.tuple #[.agg #[.int .u8 1, .bool nq, .slice a1 Q.length c1, .string ⟨#[]⟩, .int .i64 0, .slice none 0 0, .slice none 0 0], .agg #[.int .u8 1, .bool nr, .slice a2 R.length c2, .string ⟨#[]⟩, .int .i64 0, .slice none 0 0, .slice none 0 0], .bool true]) ∧ TI w' nq a1 Q z ∧ TI w' nr a2 R r) : PD F args W 1 (decide (z < 0)) (decide (r < 0)) L M true := fun V hu => (h V hu).mono fun e w' ⟨hU, nq, nr, a1, a2, c1, c2, Q, R, he, h1, h2⟩ => by
  have e1 := h1.norm.uniq hL
  have e2 := h1.sgn
  have e3 := h2.norm.uniq hM
  have e4 := h2.sgn
  subst e1 e2 e3 e4
  exact ⟨hU, a1, c1, a2, c2, he, h1.mem, h2.mem⟩

/-- Times and its reference answer the same, of whatever terms. -/
theorem times_pair (k num k' num' : Int) (na nb : Bool) (A B : List Nat) (s s' : ByteArray) (a ai at' b bi bt : Option Addr) (ca ni ci nt ct cb mi cbi mt cbt : Nat) (w : World) (hn2 : A.length ≤ 9223372036854775807) (HA : At w a A) (hni : ni ≤ 9223372036854775807) (hnt : nt ≤ 9223372036854775807) (hm2 : B.length ≤ 9223372036854775807) (HB : At w b B) (hmi : mi ≤ 9223372036854775807) (hmt : mt ≤ 9223372036854775807) (dA : Dig A) (dB : Dig B) :
    ∃ K neg L ok, L.length ≤ 32 ∧ PT 24 #[.agg #[.int .u8 k, .bool na, .slice a A.length ca, .string s, .int .i64 num, .slice ai ni ci, .slice at' nt ct], .agg #[.int .u8 k', .bool nb, .slice b B.length cb, .string s', .int .i64 num', .slice bi mi cbi, .slice bt mt cbt]] w K neg L ok ∧ PT 25 #[.agg #[.int .u8 k, .bool na, .slice a A.length ca, .string s, .int .i64 num, .slice ai ni ci, .slice at' nt ct], .agg #[.int .u8 k', .bool nb, .slice b B.length cb, .string s', .int .i64 num', .slice bi mi cbi, .slice bt mt cbt]] w K neg L ok := by
  cases ha : okT k na A s num ni nt
  · exact ⟨0, false, [], false, by simp, PT.zero fun V hu => Times_badA k num k' num' na nb A B s s' a ai at' b bi bt ca ni ci nt ct cb mi cbi mt cbt V hn2 (HA.mono hu) hni hnt ha, PT.zero fun V hu => rTimes_badA k num k' num' na nb A B s s' a ai at' b bi bt ca ni ci nt ct cb mi cbi mt cbt V hn2 (HA.mono hu) hni hnt ha⟩
  · cases hb : okT k' nb B s' num' mi mt
    · exact ⟨0, false, [], false, by simp, PT.zero fun V hu => Times_badB k num k' num' na nb A B s s' a ai at' b bi bt ca ni ci nt ct cb mi cbi mt cbt V hn2 (HA.mono hu) hni hnt ha hm2 (HB.mono hu) hmi hmt hb, PT.zero fun V hu => rTimes_badB k num k' num' na nb A B s s' a ai at' b bi bt ca ni ci nt ct cb mi cbi mt cbt V hn2 (HA.mono hu) hni hnt ha hm2 (HB.mono hu) hmi hmt hb⟩
    · obtain ⟨rfl, rfl, rfl, rfl, rfl, T0⟩ := okT_elim ha dA HA
      obtain ⟨rfl, rfl, rfl, rfl, rfl, T1⟩ := okT_elim hb dB HB
      obtain ⟨L, hL⟩ := Norm.ex (sg na (val A) * sg nb (val B)).natAbs
      by_cases hz : (sg na (val A) * sg nb (val B)).natAbs < 4294967296 ^ 32
      · exact ⟨1, _, L, true, (hL.len_le 32).2 hz, PT.res hz hL fun V hu => Times_any a ai at' b bi bt ca ci ct cb cbi cbt na nb A B _ _ V (T0.mono hu) (T1.mono hu), PT.res hz hL fun V hu => rTimes_any a ai at' b bi bt ca ci ct cb cbi cbt na nb A B _ _ V (T0.mono hu) (T1.mono hu)⟩
      · exact ⟨0, false, [], false, by simp, PT.none hz fun V hu => Times_any a ai at' b bi bt ca ci ct cb cbi cbt na nb A B _ _ V (T0.mono hu) (T1.mono hu), PT.none hz fun V hu => rTimes_any a ai at' b bi bt ca ci ct cb cbi cbt na nb A B _ _ V (T0.mono hu) (T1.mono hu)⟩

/-- Div and its reference answer the same, of whatever terms. -/
theorem div_pair (k num k' num' : Int) (na nb : Bool) (A B : List Nat) (s s' : ByteArray) (a ai at' b bi bt : Option Addr) (ca ni ci nt ct cb mi cbi mt cbt : Nat) (w : World) (hn2 : A.length ≤ 9223372036854775807) (HA : At w a A) (hni : ni ≤ 9223372036854775807) (hnt : nt ≤ 9223372036854775807) (hm2 : B.length ≤ 9223372036854775807) (HB : At w b B) (hmi : mi ≤ 9223372036854775807) (hmt : mt ≤ 9223372036854775807) (dA : Dig A) (dB : Dig B) :
    ∃ K n1 n2 L M ok, L.length ≤ 32 ∧ M.length ≤ 32 ∧ PD 26 #[.agg #[.int .u8 k, .bool na, .slice a A.length ca, .string s, .int .i64 num, .slice ai ni ci, .slice at' nt ct], .agg #[.int .u8 k', .bool nb, .slice b B.length cb, .string s', .int .i64 num', .slice bi mi cbi, .slice bt mt cbt]] w K n1 n2 L M ok ∧ PD 27 #[.agg #[.int .u8 k, .bool na, .slice a A.length ca, .string s, .int .i64 num, .slice ai ni ci, .slice at' nt ct], .agg #[.int .u8 k', .bool nb, .slice b B.length cb, .string s', .int .i64 num', .slice bi mi cbi, .slice bt mt cbt]] w K n1 n2 L M ok := by
  cases ha : okT k na A s num ni nt
  · exact ⟨0, false, false, [], [], false, by simp, by simp, PD.zero fun V hu => Div_badA k num k' num' na nb A B s s' a ai at' b bi bt ca ni ci nt ct cb mi cbi mt cbt V hn2 (HA.mono hu) hni hnt ha, PD.zero fun V hu => rDiv_badA k num k' num' na nb A B s s' a ai at' b bi bt ca ni ci nt ct cb mi cbi mt cbt V hn2 (HA.mono hu) hni hnt ha⟩
  · cases hb : okT k' nb B s' num' mi mt
    · exact ⟨0, false, false, [], [], false, by simp, by simp, PD.zero fun V hu => Div_badB k num k' num' na nb A B s s' a ai at' b bi bt ca ni ci nt ct cb mi cbi mt cbt V hn2 (HA.mono hu) hni hnt ha hm2 (HB.mono hu) hmi hmt hb, PD.zero fun V hu => rDiv_badB k num k' num' na nb A B s s' a ai at' b bi bt ca ni ci nt ct cb mi cbi mt cbt V hn2 (HA.mono hu) hni hnt ha hm2 (HB.mono hu) hmi hmt hb⟩
    · obtain ⟨rfl, rfl, rfl, rfl, rfl, T0⟩ := okT_elim ha dA HA
      obtain ⟨rfl, rfl, rfl, rfl, rfl, T1⟩ := okT_elim hb dB HB
      by_cases hz : sg nb (val B) = 0
      · rw [hz] at T1
        exact ⟨0, false, false, [], [], false, by simp, by simp, PD.zero fun V hu => Div_zero a ai at' b bi bt ca ci ct cb cbi cbt na nb A B _ V (T0.mono hu) (T1.mono hu), PD.zero fun V hu => rDiv_zero a ai at' b bi bt ca ci ct cb cbi cbt na nb A B _ V (T0.mono hu) (T1.mono hu)⟩
      · obtain ⟨L, hL⟩ := Norm.ex ((sg na (val A)).tdiv (sg nb (val B))).natAbs
        obtain ⟨M, hM⟩ := Norm.ex ((sg na (val A)).tmod (sg nb (val B))).natAbs
        have hx := T0.small
        refine ⟨1, _, _, L, M, true, (hL.len_le 32).2 ?_, (hM.len_le 32).2 ?_, PD.res hL hM fun V hu => Div_any a ai at' b bi bt ca ci ct cb cbi cbt na nb A B _ _ V (T0.mono hu) (T1.mono hu) hz, PD.res hL hM fun V hu => rDiv_any a ai at' b bi bt ca ci ct cb cbi cbt na nb A B _ _ V (T0.mono hu) (T1.mono hu) hz⟩
        · rw [Int.natAbs_tdiv]; exact Nat.lt_of_le_of_lt (Nat.div_le_self _ _) hx
        · rw [Int.natAbs_tmod]; exact Nat.lt_of_le_of_lt (Nat.mod_le _ _) hx

end Go.Proofs.YtpeganecbjefoaaDoor
