/- awake: the anchor of the statements. -/
import Derived.Test.YtpjlhpopoacjdaaDoorParT
import Derived.Test.YtpjlhpopoacjdaaDoorTxtN
import Derived.Test.YtpjlhpopoacjdaaDoorOfT

namespace Go.Proofs.YtpjlhpopoacjdaaDoor
open Go.RowKit

theorem text_big : IsText [49, 56, 52, 52, 54, 55, 52, 52, 48, 55, 51, 55, 48, 57, 53, 53, 49, 54, 49, 54] 18446744073709551616 := ⟨[49, 56, 52, 52, 54, 55, 52, 52, 48, 55, 51, 55, 48, 57, 53, 53, 49, 54, 49, 54], rfl, Or.inr ⟨by decide, ⟨by unfold IsDig; decide, by decide, fun x hx => by simp at hx; omega⟩⟩⟩
theorem text_m3 : IsText [45, 51] (-3) := ⟨[51], rfl, Or.inr ⟨by decide, ⟨by unfold IsDig; decide, by decide, fun x hx => by simp at hx; omega⟩⟩⟩
theorem text_m1 : IsText [45, 49] (-1) := ⟨[49], rfl, Or.inr ⟨by decide, ⟨by unfold IsDig; decide, by decide, fun x hx => by simp at hx; omega⟩⟩⟩
theorem big_lt : (18446744073709551616 : Int).natAbs < 4294967296 ^ 32 := by decide +kernel
theorem norm_big : Norm [0, 0, 1] 18446744073709551616 := ⟨by unfold Dig; decide, by decide, fun x hx => by simp at hx; omega⟩

/-- A whole term loaded, guarded or not. -/
theorem load_G (w : World) {ops : Array Oper} {rest : List Oper} {o : Oper} {a : Act} {Q : Exit → Act → World → Prop} (x : Operand) (ho : o.op = .load 26 x)
    (g : Nat) (cs : Array Value) (hx : a.eval x = .pointer (some ⟨g, 0, none⟩)) (hg : Tb w g cs) (hc : cs.size = 7) (hw : Region.wanted o (yielded ops a.tmps) = true)
    (h : wpList Tryd.prog ops Q rest (a.put o.dst (.agg cs)) w) : wpList Tryd.prog ops Q (o :: rest) a w := by
  obtain ⟨fs, h1⟩ := term_desc
  refine wpList_step fun K hK => ?_
  rw [if_pos hw]
  exact wp_load_row 26 x ho g hx 26 cs (0, 0) _ hg h1 rfl (by rw [info_term, hc]) (hK _ _ h)

set_option maxHeartbeats 4000000 in
set_option maxRecDepth 100000 in
theorem awake_any (w : World) : Calls Tryd.prog 9 #[] w fun e w' => e = .returned (.bool true) ∧ Upd [] w w' := by
  have HP : Hid (∀ W, Calls Tryd.prog 28 #[.string ⟨#[49, 56, 52, 52, 54, 55, 52, 52, 48, 55, 51, 55, 48, 57, 53, 53, 49, 54, 49, 54]⟩] W fun e w' => Res w' e 18446744073709551616 ∧ Upd [] W w') := fun W => Parse_any [49, 56, 52, 52, 54, 55, 52, 52, 48, 55, 51, 55, 48, 57, 53, 53, 49, 54, 49, 54] 18446744073709551616 W text_big big_lt
  go_enter Tryd.func9, Tryd.ntmps9
  go_wp2_with fail
  refine (HP.out w).mono ?_
  rintro e w1 ⟨hR, hU1⟩
  obtain ⟨_, n1, a1, c1, M1, rfl, T1⟩ := hR.resolve_right (fun h => h.1 big_lt)
  clear hR
  have HT1 : Hid _ := T1
  clear T1
  go_wp2_with fail
  refine (Of_any 4611686018427387904 _ (by omega)).mono ?_
  rintro e w2 ⟨hU2, n2, a2, c2, M2, rfl, T2⟩
  go_wp2_with fail
  refine (Of_any 4 _ (by omega)).mono ?_
  rintro e w3 ⟨hU3, n3, a3, c3, M3, rfl, T3⟩
  go_wp2_with fail
  refine (Times_any a2 none none a3 none none c2 0 0 c3 0 0 n2 n3 M2 M3 _ _ w3 (T2.mono hU3) T3).mono ?_
  rintro e w4 ⟨hR, hU4⟩
  have e24 : (4611686018427387904 : Int) * 4 = 18446744073709551616 := by decide
  rw [e24] at hR
  obtain ⟨_, n4, a4, c4, M4, rfl, T4⟩ := hR.resolve_right (fun h => h.1 big_lt)
  clear hR e24 T2 T3
  have HT4 : Hid _ := T4
  clear T4
  go_wp2_with fail
  refine (Of_any (-7) _ (by omega)).mono ?_
  rintro e w5 ⟨hU5, n5, a5, c5, M5, rfl, T5⟩
  go_wp2_with fail
  refine (Of_any 2 _ (by omega)).mono ?_
  rintro e w6 ⟨hU6, n6, a6, c6, M6, rfl, T6⟩
  go_wp2_with fail
  refine (Div_any a5 none none a6 none none c5 0 0 c6 0 0 n5 n6 M5 M6 _ _ w6 (T5.mono hU6) T6 (by decide)).mono ?_
  rintro e w7 ⟨hU7, n7, n8, a7, a8, c7, c8, M7, M8, rfl, T7, T8⟩
  have e7 : (-7 : Int).tdiv 2 = -3 := by decide
  have e8 : (-7 : Int).tmod 2 = -1 := by decide
  rw [e7] at T7
  rw [e8] at T8
  have HT7 : Hid _ := T7
  have HT8 : Hid _ := T8
  clear T5 T6 T7 T8 e7 e8
  have u2 : Upd [] w1 w7 := ((((((((Upd.refl [] w1).alloc _).trans hU2).trans hU3).trans hU4).alloc _).trans hU5).trans hU6).trans hU7
  have u4 : Upd [] w4 w7 := ((((Upd.refl [] w4).alloc _).trans hU5).trans hU6).trans hU7
  have tA : Tb w7 w1.heap.size #[.int .u8 1, .bool n1, .slice a1 M1.length c1, .string ⟨#[]⟩, .int .i64 0, .slice none 0 0, .slice none 0 0] := ((((((Tb.new w1 _ _ rfl).mono hU2 (by simp)).mono hU3 (by simp)).mono hU4 (by simp)).old _).mono hU5 (by simp)).mono hU6 (by simp) |>.mono hU7 (by simp)
  have tB : Tb w7 w4.heap.size #[.int .u8 1, .bool n4, .slice a4 M4.length c4, .string ⟨#[]⟩, .int .i64 0, .slice none 0 0, .slice none 0 0] := (((Tb.new w4 _ _ rfl).mono hU5 (by simp)).mono hU6 (by simp)).mono hU7 (by simp)
  have U0 : Hid (Upd [] w w7) := hU1.trans u2
  have TI1 : Hid _ := HT1.out.mono u2
  have TI4 : Hid _ := HT4.out.mono u4
  clear hU1 hU2 hU3 hU4 hU5 hU6 hU7 u2 u4 HT1 HT4 HP
  go_wp2_with (first | (refine load_G _ _ rfl _ _ rfl ((tA.old _).old _) rfl rfl ?_) | (refine load_G _ _ rfl _ _ rfl ((tB.old _).old _) rfl rfl ?_))
  have uW := ((Upd.refl [] w7).alloc (.cells #[.int .u8 1, .bool n7, .slice a7 M7.length c7, .string ⟨#[]⟩, .int .i64 0, .slice none 0 0, .slice none 0 0] 26)).alloc (.cells #[.int .u8 1, .bool n8, .slice a8 M8.length c8, .string ⟨#[]⟩, .int .i64 0, .slice none 0 0, .slice none 0 0] 26)
  have tQ := (Tb.new w7 #[.int .u8 1, .bool n7, .slice a7 M7.length c7, .string ⟨#[]⟩, .int .i64 0, .slice none 0 0, .slice none 0 0] _ rfl).old (.cells #[.int .u8 1, .bool n8, .slice a8 M8.length c8, .string ⟨#[]⟩, .int .i64 0, .slice none 0 0, .slice none 0 0] 26)
  have tR := Tb.new (w7.alloc (.cells #[.int .u8 1, .bool n7, .slice a7 M7.length c7, .string ⟨#[]⟩, .int .i64 0, .slice none 0 0, .slice none 0 0] 26)) #[.int .u8 1, .bool n8, .slice a8 M8.length c8, .string ⟨#[]⟩, .int .i64 0, .slice none 0 0, .slice none 0 0] (w7.heap.size + 1) (by simp)
  have tA2 := (tA.old (.cells #[.int .u8 1, .bool n7, .slice a7 M7.length c7, .string ⟨#[]⟩, .int .i64 0, .slice none 0 0, .slice none 0 0] 26)).old (.cells #[.int .u8 1, .bool n8, .slice a8 M8.length c8, .string ⟨#[]⟩, .int .i64 0, .slice none 0 0, .slice none 0 0] 26)
  refine (Compare_any a1 none none a4 none none c1 0 0 c4 0 0 n1 n4 M1 M4 _ _ _ (TI1.out.mono uW) (TI4.out.mono uW)).mono ?_
  rintro e w8 ⟨rfl, hU8⟩
  have ec : cmpZ 18446744073709551616 18446744073709551616 = 0 := by decide
  rw [ec]
  have tA3 := tA2.mono hU8 (by simp)
  have tQ3 := tQ.mono hU8 (by simp)
  have tR3 := tR.mono hU8 (by simp)
  have u8 := uW.trans hU8
  clear tA tB tA2 tQ tR uW hU8 ec
  go_wp2_with (first | (refine load_G _ _ rfl _ _ rfl tA3 rfl rfl ?_))
  refine (Text_any a1 none none c1 0 0 n1 M1 _ w8 (TI1.out.mono u8)).mono ?_
  rintro e w9 ⟨hU9, T, rfl, hT⟩
  have eT := hT.uniq text_big
  subst eT
  clear hT
  rw [show bs [49, 56, 52, 52, 54, 55, 52, 52, 48, 55, 51, 55, 48, 57, 53, 53, 49, 54, 49, 54] = (⟨#[49, 56, 52, 52, 54, 55, 52, 52, 48, 55, 51, 55, 48, 57, 53, 53, 49, 54, 49, 54]⟩ : ByteArray) from rfl]
  have tA4 := tA3.mono hU9 (by simp)
  have tQ4 := tQ3.mono hU9 (by simp)
  have tR4 := tR3.mono hU9 (by simp)
  have u9 := u8.trans hU9
  clear tA3 tQ3 tR3 u8 hU9
  go_wp2_with (first | (refine load_G _ _ rfl _ _ rfl tQ4 rfl rfl ?_))
  refine (Text_any a7 none none c7 0 0 n7 M7 _ w9 (HT7.out.mono u9)).mono ?_
  rintro e w10 ⟨hU10, T, rfl, hT⟩
  have eT := hT.uniq text_m3
  subst eT
  clear hT
  rw [show bs [45, 51] = (⟨#[45, 51]⟩ : ByteArray) from rfl]
  have tA5 := tA4.mono hU10 (by simp)
  have tR5 := tR4.mono hU10 (by simp)
  have u10 := u9.trans hU10
  clear tA4 tQ4 tR4 u9 hU10
  go_wp2_with (first | (refine load_G _ _ rfl _ _ rfl tR5 rfl rfl ?_))
  refine (Text_any a8 none none c8 0 0 n8 M8 _ w10 (HT8.out.mono u10)).mono ?_
  rintro e w11 ⟨hU11, T, rfl, hT⟩
  have eT := hT.uniq text_m1
  subst eT
  clear hT
  rw [show bs [45, 49] = (⟨#[45, 49]⟩ : ByteArray) from rfl]
  have tA6 := tA5.mono hU11 (by simp)
  have u11 := u10.trans hU11
  have cL : w11.cell? ⟨w1.heap.size, 2, none⟩ = some (.slice a1 M1.length c1) := tA6.cell 2
  have eM : M1 = [0, 0, 1] := TI1.out.norm.uniq norm_big
  subst eM
  clear tA5 tR5 u10 hU11 tA6
  go_wp2
  go_ret
  exact ⟨rfl, U0.out.trans u11⟩

end Go.Proofs.YtpjlhpopoacjdaaDoor

/- What the laws' walks share. -/
namespace Go.Proofs.YtpjlhpopoacjdaaDoor
open Go.RowKit

/-- Right, of whatever term. -/
theorem Right_upd (k num : Int) (neg : Bool) (L : List Nat) (s : ByteArray) (a ai at' : Option Addr) (c ni ci nt ct : Nat) (W : World) (b : Bool) (hn2 : L.length ≤ 9223372036854775807) (HL : At W a L) (hni : ni ≤ 9223372036854775807) (hnt : nt ≤ 9223372036854775807) (hb : okT k neg L s num ni nt = b) :
    Calls Tryd.prog 21 #[.agg #[.int .u8 k, .bool neg, .slice a L.length c, .string s, .int .i64 num, .slice ai ni ci, .slice at' nt ct]] W fun e w' => e = .returned (.bool b) ∧ Upd [] W w' := by
  refine (Right_any k num neg L s a ai at' c ni ci nt ct W hn2 HL hni hnt).mono ?_
  rintro e w' ⟨rfl, rfl⟩
  exact ⟨by rw [hb], (Upd.refl [] W).alloc _⟩

theorem TI.rightU {W : World} {neg : Bool} {a : Option Addr} {L : List Nat} {z : Int} (h : TI W neg a L z) (ai at' : Option Addr) (c ci ct : Nat) :
    Calls Tryd.prog 21 #[.agg #[.int .u8 1, .bool neg, .slice a L.length c, .string ⟨#[]⟩, .int .i64 0, .slice ai 0 ci, .slice at' 0 ct]] W fun e w' => e = .returned (.bool true) ∧ Upd [] W w' :=
  Right_upd 1 0 neg L ⟨#[]⟩ a ai at' c 0 ci 0 ct W true (by have := h.len; omega) h.mem (by omega) (by omega) h.ok

/-- An answer of which it is not asked yet whether there was room. -/
theorem Res.uni {w' : World} {e : Ending} {z : Int} (h : Res w' e z) :
    ∃ k neg a c M b, e = .returned (.tuple #[.agg #[.int .u8 k, .bool neg, .slice a M.length c, .string ⟨#[]⟩, .int .i64 0, .slice none 0 0, .slice none 0 0], .bool b]) ∧ ((b = true ∧ k = 1 ∧ z.natAbs < 4294967296 ^ 32 ∧ TI w' neg a M z) ∨ (b = false ∧ ¬ z.natAbs < 4294967296 ^ 32)) := by
  rcases h with ⟨h1, neg, a, c, M, rfl, h2⟩ | ⟨h1, rfl⟩
  · exact ⟨1, neg, a, c, M, true, rfl, Or.inl ⟨rfl, rfl, h1, h2⟩⟩
  · exact ⟨0, false, none, 0, [], false, rfl, Or.inr ⟨rfl, h1⟩⟩

set_option maxHeartbeats 1000000 in
set_option maxRecDepth 100000 in
/-- Times, of a first argument that is not right. -/
theorem Times_badA (k num k' num' : Int) (na nb : Bool) (A B : List Nat) (s s' : ByteArray) (a ai at' b bi bt : Option Addr) (ca ni ci nt ct cb mi cbi mt cbt : Nat) (w : World) (hn2 : A.length ≤ 9223372036854775807) (HA : At w a A) (hni : ni ≤ 9223372036854775807) (hnt : nt ≤ 9223372036854775807) (hbad : okT k na A s num ni nt = false) :
    Calls Tryd.prog 24 #[.agg #[.int .u8 k, .bool na, .slice a A.length ca, .string s, .int .i64 num, .slice ai ni ci, .slice at' nt ct], .agg #[.int .u8 k', .bool nb, .slice b B.length cb, .string s', .int .i64 num', .slice bi mi cbi, .slice bt mt cbt]] w fun e w' => e = .returned (.tuple #[(.agg #[.int .u8 0, .bool false, .slice none 0 0, .string ⟨#[]⟩, .int .i64 0, .slice none 0 0, .slice none 0 0]), .bool false]) ∧ Upd [] w w' := by
  have HR : Hid (∀ W, Upd [] w W → _) := fun W hu => Right_any k num na A s a ai at' ca ni ci nt ct W hn2 (HA.mono hu) hni hnt
  rw [hbad] at HR
  clear hbad HA
  go_enter Tryd.func24, Tryd.ntmps24
  go_wp2_with fail
  refine (HR.out _ ((((Upd.refl [] w).alloc _).alloc _).alloc _)).mono ?_
  rintro e w1 ⟨rfl, rfl⟩
  go_wp2
  exact ret_Tb Tryd.results24 rfl _ _ _ rfl ((Tb.new ((w.alloc _).alloc _) _ (w.heap.size + 1 + 1) (by simp)).old _) rfl rfl ⟨rfl, by repeat (first | exact Upd.refl _ _ | refine Upd.alloc ?_ _)⟩

end Go.Proofs.YtpjlhpopoacjdaaDoor

/- What a call answers, wherever it is called. -/
namespace Go.Proofs.YtpjlhpopoacjdaaDoor
open Go.RowKit

theorem Norm.ex (n : Nat) : ∃ L, Norm L n := by
  induction n using Nat.strongRecOn with
  | ind n ih =>
    by_cases h : n = 0
    · subst h; exact ⟨[], Norm.zero⟩
    · obtain ⟨L, hL⟩ := ih (n / 4294967296) (Nat.div_lt_self (by omega) (by decide))
      refine ⟨n % 4294967296 :: L, ⟨fun x hx => ?_, by rw [val_cons, hL.eq]; omega, fun x hx => ?_⟩⟩
      · rcases List.mem_cons.1 hx with h1 | h1
        · rw [h1]; exact Nat.mod_lt _ (by decide)
        · exact hL.dig x h1
      · by_cases hl : L = []
        · subst hl
          have := hL.nil_iff.1 rfl
          simp at hx
          omega
        · rw [List.getLast?_cons, List.getLast?_eq_some_getLast hl] at hx
          simp at hx
          exact hL.top x (by rw [List.getLast?_eq_some_getLast hl, hx])

/-- What a call that answers one integer answers, wherever it is called. -/
def PT (F : Nat) (args : Array Value) (W : World) (k : Int) (neg : Bool) (L : List Nat) (ok : Bool) : Prop := ∀ V, Upd [] W V → Calls Tryd.prog F args V fun e w' => Upd [] V w' ∧ ∃ a c, e = .returned (.tuple #[.agg #[.int .u8 k, .bool neg, .slice a L.length c, .string ⟨#[]⟩, .int .i64 0, .slice none 0 0, .slice none 0 0], .bool ok]) ∧ At w' a L
/-- .. two. -/
def PD (F : Nat) (args : Array Value) (W : World) (k : Int) (n1 n2 : Bool) (L M : List Nat) (ok : Bool) : Prop := ∀ V, Upd [] W V → Calls Tryd.prog F args V fun e w' => Upd [] V w' ∧ ∃ a c a2 c2, e = .returned (.tuple #[.agg #[.int .u8 k, .bool n1, .slice a L.length c, .string ⟨#[]⟩, .int .i64 0, .slice none 0 0, .slice none 0 0], .agg #[.int .u8 k, .bool n2, .slice a2 M.length c2, .string ⟨#[]⟩, .int .i64 0, .slice none 0 0, .slice none 0 0], .bool ok]) ∧ At w' a L ∧ At w' a2 M

theorem PT.zero {F : Nat} {args : Array Value} {W : World} (h : ∀ V, Upd [] W V → Calls Tryd.prog F args V fun e w' => e = .returned (.tuple #[(.agg #[.int .u8 0, .bool false, .slice none 0 0, .string ⟨#[]⟩, .int .i64 0, .slice none 0 0, .slice none 0 0]), .bool false]) ∧ Upd [] V w') : PT F args W 0 false [] false := fun V hu => (h V hu).mono fun _ _ ⟨he, hU⟩ => ⟨hU, none, 0, he, At.nil _ _⟩
theorem PD.zero {F : Nat} {args : Array Value} {W : World} (h : ∀ V, Upd [] W V → Calls Tryd.prog F args V fun e w' => e = .returned (.tuple #[(.agg #[.int .u8 0, .bool false, .slice none 0 0, .string ⟨#[]⟩, .int .i64 0, .slice none 0 0, .slice none 0 0]), (.agg #[.int .u8 0, .bool false, .slice none 0 0, .string ⟨#[]⟩, .int .i64 0, .slice none 0 0, .slice none 0 0]), .bool false]) ∧ Upd [] V w') : PD F args W 0 false false [] [] false := fun V hu => (h V hu).mono fun _ _ ⟨he, hU⟩ => ⟨hU, none, 0, none, 0, he, At.nil _ _, At.nil _ _⟩
theorem PT.res {F : Nat} {args : Array Value} {W : World} {z : Int} {L : List Nat} (hz : z.natAbs < 4294967296 ^ 32) (hL : Norm L z.natAbs) (h : ∀ V, Upd [] W V → Calls Tryd.prog F args V fun e w' => Res w' e z ∧ Upd [] V w') : PT F args W 1 (decide (z < 0)) L true := fun V hu => (h V hu).mono fun e w' ⟨hR, hU⟩ => by
  obtain ⟨_, ng, a, c, M, he, hT⟩ := hR.resolve_right (fun k => k.1 hz)
  have e1 := hT.norm.uniq hL
  have e2 := hT.sgn
  subst e1 e2
  exact ⟨hU, a, c, he, hT.mem⟩
theorem PT.none {F : Nat} {args : Array Value} {W : World} {z : Int} (hz : ¬ z.natAbs < 4294967296 ^ 32) (h : ∀ V, Upd [] W V → Calls Tryd.prog F args V fun e w' => Res w' e z ∧ Upd [] V w') : PT F args W 0 false [] false :=
  PT.zero fun V hu => (h V hu).mono fun _ _ ⟨hR, hU⟩ => ⟨(hR.resolve_left (fun k => hz k.1)).2, hU⟩
theorem PD.res {F : Nat} {args : Array Value} {W : World} {z r : Int} {L M : List Nat} (hL : Norm L z.natAbs) (hM : Norm M r.natAbs)
    (h : ∀ V, Upd [] W V → Calls Tryd.prog F args V fun e w' => Upd [] V w' ∧ ∃ nq nr a1 a2 c1 c2 Q R, e = .returned (.tuple #[.agg #[.int .u8 1, .bool nq, .slice a1 Q.length c1, .string ⟨#[]⟩, .int .i64 0, .slice none 0 0, .slice none 0 0], .agg #[.int .u8 1, .bool nr, .slice a2 R.length c2, .string ⟨#[]⟩, .int .i64 0, .slice none 0 0, .slice none 0 0], .bool true]) ∧ TI w' nq a1 Q z ∧ TI w' nr a2 R r) : PD F args W 1 (decide (z < 0)) (decide (r < 0)) L M true := fun V hu => (h V hu).mono fun e w' ⟨hU, nq, nr, a1, a2, c1, c2, Q, R, he, h1, h2⟩ => by
  have e1 := h1.norm.uniq hL
  have e2 := h1.sgn
  have e3 := h2.norm.uniq hM
  have e4 := h2.sgn
  subst e1 e2 e3 e4
  exact ⟨hU, a1, c1, a2, c2, he, h1.mem, h2.mem⟩

end Go.Proofs.YtpjlhpopoacjdaaDoor
