/- CopyTerm, of a right integer. -/
import Derived.Test.YtpjlhpopoacjdaaDoorJI
import Derived.Test.YtpjlhpopoacjdaaDoorDivB

namespace Go.Proofs.YtpjlhpopoacjdaaDoor
open Go.RowKit

theorem append_nil_run (w : World) (ty : TypeId) (a : Option Addr) (L : List Nat) (c : Nat) (hL : L.length ≤ 1000) (HL : At w a L) :
    ∃ a' c' w', (Builtin.append_ #[23, 23] ty #[.slice none 0 0, .slice a L.length c]).run Tryd.prog w = .ok (.slice a' L.length c') w' ∧ At w' a' L ∧ Upd [] w w' := by
  obtain ⟨i0, hi, hz0, hz1, hz2⟩ := info_parts info_u32
  rcases a with _ | ad
  · have hM0 : L = [] := by
      rcases HL with h | ⟨b, o, e, _⟩
      · exact h
      · cases e
    subst hM0
    refine ⟨none, 0, w, ?_, At.nil _ _, Upd.refl _ _⟩
    have hs := Src.ofNil (size := i0.size) w Tryd.underlying23 c
    simp [Builtin.append_, run_underlying Tryd.underlying23, sizeOf, typeInfo, hi, hs.len, hs.cells]
  · have hnews : ∀ j u, (L.map (fun n => Value.int .u32 (n : Nat)))[j]? = some u → w.cell? (ad.add j) = some u := fun j u hj => by
      obtain ⟨h1, h2⟩ := map_u32_get L j u hj
      rcases HL with h | ⟨b, o, e, _, hc⟩
      · rw [h] at h1; simp at h1
      · cases e
        rw [h2, Addr.add_lit]; exact hc j h1
    obtain ⟨v', w', hr, hown, hgr, hnil⟩ := run_append_own (P := Tryd.prog) w w.heap.size 23 ty 53 i0 (.int .u32 0) 1 4 Tryd.underlying23 hi hz0 hz1 hz2 rfl (by decide) _ 0 [] (World.ownsRow_nil _ _ _ _) ad L.length c (L.map (fun n => Value.int .u32 (n : Nat))) (by simp) hnews
      (fun u hu => by obtain ⟨_, _, rfl⟩ := List.mem_map.1 hu; rfl) (by unfold maxLen; omega) (by omega) (Nat.le_refl _)
    rw [List.nil_append, Nat.zero_add] at hown
    have hU : Upd [] w w' := (Upd.refl _ _).grown hgr (fun k hk => by simp [Value.ownBlock] at hk)
    by_cases h0 : L.length = 0
    · have hv := hnil.2 ⟨rfl, h0⟩
      have hL0 : L = [] := List.eq_nil_of_length_eq_zero h0
      refine ⟨none, 0, w', by rw [hr, hv, h0], by rw [hL0]; exact At.nil _ _, hU⟩
    · obtain ⟨hn, g, cap, hv, _, _, _, hat⟩ := owns_at hown (fun e => by have := (hnil.1 e).2; omega)
      exact ⟨_, cap, w', by rw [hr, hv], hat, hU⟩

theorem append_nil (w : World) {ops : Array Oper} {rest : List Oper} {o : Oper} {a : Act} {Q : Exit → Act → World → Prop} (hgd : o.guard = none) (s x : Operand)
    (ho : o.op = .call { callee := .builtin .append, args := #[s, x], argTypes := #[23, 23] }) (L : List Nat) (al : Option Addr) (c : Nat) (hL : L.length ≤ 1000)
    (hs : a.eval s = .slice none 0 0) (hx : a.eval x = .slice al L.length c) (HL : At w al L)
    (h : ∀ a' c' w', At w' a' L → Upd [] w w' → wpList Tryd.prog ops Q rest (a.put o.dst (.slice a' L.length c')) w') : wpList Tryd.prog ops Q (o :: rest) a w := by
  obtain ⟨a', c', w', hr, h1, h2⟩ := append_nil_run w o.type al L c hL HL
  refine wpList_plain hgd fun K hK => ?_
  unfold Oper.wp execOp
  simp only [ho, resolve, invoke, builtin, Sem.run_bind, Sem.run_pure, Result.andThen_ok, List.map_toArray, List.map_cons, List.map_nil, hs, hx, hr]
  exact hK _ _ (h a' c' w' h1 h2)

set_option maxHeartbeats 400000 in
set_option maxRecDepth 100000 in
theorem CopyLimbs_any (al : Option Addr) (c : Nat) (L : List Nat) (w : World) (hL : L.length ≤ 1000) (HL : At w al L) :
    Calls Tryd.prog 62 #[.slice al L.length c] w fun e w' => Upd [] w w' ∧ ∃ a' c', e = .returned (.slice a' L.length c') ∧ At w' a' L := by
  go_enter Tryd.func62, Tryd.ntmps62
  go_wp2_with (at_builtin; refine append_nil _ rfl _ _ rfl L al c hL rfl rfl HL ?_; intro a' c' w1 hA1 hU1)
  go_ret
  exact ⟨hU1, a', c', rfl, hA1⟩

set_option maxHeartbeats 400000 in
set_option maxRecDepth 100000 in
theorem CopyTerms_nil (ai : Option Addr) (ci : Nat) (w : World) :
    Calls Tryd.prog 63 #[.slice ai 0 ci] w fun e w' => e = .returned (.slice none 0 0) ∧ w' = w := by
  go_enter Tryd.func63, Tryd.ntmps63
  go_wp2
  refine wp_loop_rounds 1 ?_
  rw [rounds_succ]
  go_wp2
  go_ret
  exact ⟨rfl, rfl⟩

theorem Tb.set3 {w : World} {n : Nat} {k num : Int} {neg : Bool} {v2 v5 v6 u2 u5 u6 : Value} {s : ByteArray} (h : Tb w n #[.int .u8 k, .bool neg, v2, .string s, .int .i64 num, v5, v6]) :
    Tb (((w.setCell ⟨n, 2, none⟩ u2).setCell ⟨n, 5, none⟩ u5).setCell ⟨n, 6, none⟩ u6) n #[.int .u8 k, .bool neg, u2, .string s, .int .i64 num, u5, u6] := by
  have h7 := ((h.set 2 u2).set 5 u5).set 6 u6
  simp only [List.setIfInBounds_toArray, List.set_cons_zero, List.set_cons_succ] at h7
  exact h7

set_option maxHeartbeats 1000000 in
set_option maxRecDepth 100000 in
/-- CopyTerm, of a right integer. -/
theorem CopyTerm_any (a ai at' : Option Addr) (c ci ct : Nat) (neg : Bool) (L : List Nat) (z : Int) (w : World) (HT : TI w neg a L z) :
    Calls Tryd.prog 34 #[.agg #[.int .u8 1, .bool neg, .slice a L.length c, .string ⟨#[]⟩, .int .i64 0, .slice ai 0 ci, .slice at' 0 ct]] w fun e w' => Upd [] w w' ∧ ∃ a' c', e = .returned (.agg #[.int .u8 1, .bool neg, .slice a' L.length c', .string ⟨#[]⟩, .int .i64 0, .slice none 0 0, .slice none 0 0]) ∧ TI w' neg a' L z := by
  have HTT : Hid _ := HT
  have hL := HT.len
  clear HT
  go_enter Tryd.func34, Tryd.ntmps34
  go_wp2_with fail
  have hUW := ((Upd.refl [] w).alloc (.cells #[.int .u8 1, .bool neg, .slice a L.length c, .string ⟨#[]⟩, .int .i64 0, .slice ai 0 ci, .slice at' 0 ct] 26)).alloc (.cells #[.int .u8 0, .bool false, .slice none 0 0, .string ⟨#[]⟩, .int .i64 0, .slice none 0 0, .slice none 0 0] 26)
  have tX := (Tb.new w #[.int .u8 1, .bool neg, .slice a L.length c, .string ⟨#[]⟩, .int .i64 0, .slice ai 0 ci, .slice at' 0 ct] _ rfl).old (.cells #[.int .u8 0, .bool false, .slice none 0 0, .string ⟨#[]⟩, .int .i64 0, .slice none 0 0, .slice none 0 0] 26)
  have tZ := Tb.new (w.alloc (.cells #[.int .u8 1, .bool neg, .slice a L.length c, .string ⟨#[]⟩, .int .i64 0, .slice ai 0 ci, .slice at' 0 ct] 26)) #[.int .u8 0, .bool false, .slice none 0 0, .string ⟨#[]⟩, .int .i64 0, .slice none 0 0, .slice none 0 0] (w.heap.size + 1) (by simp)
  refine (CopyLimbs_any a c L _ (by omega) (HTT.out.mem.mono hUW)).mono ?_
  rintro e w1 ⟨hU1, a1, c1, rfl, hA1⟩
  have tX1 := tX.mono hU1 (by simp)
  have tZ1 := tZ.mono hU1 (by simp)
  have hU01 := hUW.trans hU1
  have x2 : w1.cell? ⟨w.heap.size, 2, none⟩ = some (.slice a L.length c) := tX1.cell 2
  have x5 : w1.cell? ⟨w.heap.size, 5, none⟩ = some (.slice ai 0 ci) := tX1.cell 5
  have x6 : w1.cell? ⟨w.heap.size, 6, none⟩ = some (.slice at' 0 ct) := tX1.cell 6
  have xf : ∀ i, w1.frozen? ⟨w.heap.size, i, none⟩ = false := fun i => frozen_of_row w1 w.heap.size i _ _ tX1
  have HX1 : Hid _ := tX1
  clear tX tZ hUW hU1 tX1
  go_wp2_with fail
  refine (CopyTerms_nil ai ci _).mono ?_
  rintro e w2 ⟨rfl, rfl⟩
  go_wp2_with fail
  refine (CopyTerms_nil at' ct _).mono ?_
  rintro e w3 ⟨rfl, rfl⟩
  have t3 := Tb.set3 (u2 := .slice a1 L.length c1) (u5 := .slice none 0 0) (u6 := .slice none 0 0) HX1.out
  have hU3 : Upd [w.heap.size] w1 (((w1.setCell ⟨w.heap.size, 2, none⟩ (.slice a1 L.length c1)).setCell ⟨w.heap.size, 5, none⟩ (.slice none 0 0)).setCell ⟨w.heap.size, 6, none⟩ (.slice none 0 0)) :=
    (((Upd.refl _ _).setCell (Or.inr (by simp)) _).setCell (Or.inr (by simp)) _).setCell (Or.inr (by simp)) _
  have tZ3 := tZ1.mono hU3 (by simp)
  have hA3 := hA1.keep HX1.out hU3
  have hU03 := hU01.then hU3 (by simp)
  go_wp2_with (first | (refine load_G _ _ rfl _ _ rfl t3 rfl rfl ?_) | (refine store_V _ rfl _ _ rfl _ _ _ _ _ _ _ _ _ _ _ _ _ _ _ rfl rfl tZ3 rfl ?_; intro w4 hT4 hU4))
  exact ret_T Tryd.results34 rfl _ _ rfl hT4 rfl ⟨hU03.then hU4 (by simp), a1, c1, rfl, ⟨HTT.out.norm, hA3.keep tZ3 hU4, HTT.out.len, HTT.out.sgn⟩⟩

end Go.Proofs.YtpjlhpopoacjdaaDoor

/- Helpers of WholeRest: integers cut towards 0, and a term's sign laid aside. -/
namespace Go.Proofs.YtpjlhpopoacjdaaDoor
open Go.RowKit

theorem tdiv_fit (x y : Int) {B : Nat} (h : x.natAbs < B) : (x.tdiv y * y).natAbs < B := by
  rw [Int.natAbs_mul, Int.natAbs_tdiv]
  exact Nat.lt_of_le_of_lt (Nat.div_mul_le_self _ _) h
theorem tdiv_back (x y : Int) : x.tdiv y * y + x.tmod y = x := by
  rw [Int.mul_comm]; exact Int.mul_tdiv_add_tmod x y
theorem tmod_less (x y : Int) (hy : y ≠ 0) : cmpZ ((x.tmod y).natAbs : Int) (y.natAbs : Int) = -1 := by
  have h : (x.tmod y).natAbs < y.natAbs := by
    rw [Int.natAbs_tmod]
    exact Nat.mod_lt _ (by omega)
  unfold cmpZ
  rw [if_pos (by omega)]
/-- The rest has the first one's sign, or is 0. -/
theorem tmod_sign (x y : Int) (h : x.tmod y ≠ 0) : decide (x.tmod y < 0) = decide (x < 0) := by
  by_cases hx : 0 ≤ x
  · have := Int.tmod_nonneg y hx
    rw [decide_eq_false (by omega), decide_eq_false (by omega)]
  · have h1 : 0 ≤ (-x).tmod y := Int.tmod_nonneg y (by omega)
    rw [Int.neg_tmod] at h1
    rw [decide_eq_true (by omega), decide_eq_true (by omega)]
theorem rest_sign {w w' : World} {na nr : Bool} {a r : Option Addr} {A R : List Nat} {x y : Int} (hx : TI w na a A x) (hr : TI w' nr r R (x.tmod y)) : R.length = 0 ∨ nr = na := by
  by_cases h : x.tmod y = 0
  · left
    have : R = [] := hr.norm.nil_iff.2 (by rw [h]; rfl)
    rw [this]; rfl
  · right
    rw [hx.sgn, hr.sgn]
    exact tmod_sign x y h

theorem TI.abs {w : World} {neg : Bool} {a : Option Addr} {M : List Nat} {z : Int} (h : TI w neg a M z) : TI w false a M (z.natAbs : Int) :=
  ⟨by rw [Int.natAbs_natCast]; exact h.norm, h.mem, h.len, by symm; exact decide_eq_false (by omega)⟩
theorem TI.keep {w w' : World} {neg : Bool} {a : Option Addr} {M : List Nat} {z : Int} {g : Nat} {k num : Int} {neg' : Bool} {s : ByteArray} {a1 a2 a3 : Option Addr} {n1 n2 n3 c1 c2 c3 : Nat} (h : TI w neg a M z)
    (ht : Tb w g #[.int .u8 k, .bool neg', .slice a1 n1 c1, .string s, .int .i64 num, .slice a2 n2 c2, .slice a3 n3 c3]) (hu : Upd [g] w w') : TI w' neg a M z := ⟨h.norm, h.mem.keep ht hu, h.len, h.sgn⟩
theorem Tb.sgn {w : World} {g : Nat} {k num : Int} {neg : Bool} {s : ByteArray} {v2 v5 v6 : Value} (h : Tb w g #[.int .u8 k, .bool neg, v2, .string s, .int .i64 num, v5, v6]) (v : Bool) :
    Tb (w.setCell ⟨g, 1, none⟩ (.bool v)) g #[.int .u8 k, .bool v, v2, .string s, .int .i64 num, v5, v6] := by
  have h7 := h.set 1 (.bool v)
  simp only [List.setIfInBounds_toArray, List.set_cons_zero, List.set_cons_succ] at h7
  exact h7
theorem upd_cell (w : World) (g i : Nat) (v : Value) : Upd [g] w (w.setCell ⟨g, i, none⟩ v) := (Upd.refl _ _).setCell (Or.inr (by simp)) _
theorem Len.ne {M : List Nat} {z : Int} (h : Norm M z.natAbs) (hz : z ≠ 0) : ((M.length : Int) == 0) = false := by
  have h1 : M ≠ [] := fun e => by have := h.nil_iff.1 e; omega
  have h2 : M.length ≠ 0 := fun e => h1 (List.eq_nil_of_length_eq_zero e)
  simp [h2]

/-- Two terms laid out newly, side by side. -/
structure Out (wz : World) (g h : Nat) (wx : World) (n1 n2 : Bool) (ax ay : Option Addr) (M N : List Nat) (cx cy : Nat) (zx zy : Int) : Prop where
  ne : g ≠ h
  hg : wz.heap.size ≤ g
  hh : wz.heap.size ≤ h
  tx : Tb wx g #[.int .u8 1, .bool n1, .slice ax M.length cx, .string ⟨#[]⟩, .int .i64 0, .slice none 0 0, .slice none 0 0]
  ty : Tb wx h #[.int .u8 1, .bool n2, .slice ay N.length cy, .string ⟨#[]⟩, .int .i64 0, .slice none 0 0, .slice none 0 0]
  ix : TI wx n1 ax M zx
  iy : TI wx n2 ay N zy
  upd : Upd [] wz wx

theorem Out.pick {wz wx : World} {n1 n2 : Bool} {ax ay : Option Addr} {M N : List Nat} {cx cy : Nat} {zx zy : Int} (g h : Nat) (o : Out wz g h wx n1 n2 ax ay M N cx cy zx zy) : Out wz g h wx n1 n2 ax ay M N cx cy zx zy := o

theorem Out.aa {wz v : World} {n1 n2 : Bool} {ax ay : Option Addr} {M N : List Nat} {cx cy : Nat} {zx zy : Int} (ix : TI v n1 ax M zx) (iy : TI v n2 ay N zy) (hU : Upd [] wz v) : Out wz v.heap.size (v.heap.size + 1) ((v.alloc (.cells #[.int .u8 1, .bool n1, .slice ax M.length cx, .string ⟨#[]⟩, .int .i64 0, .slice none 0 0, .slice none 0 0] 26)).alloc (.cells #[.int .u8 1, .bool n2, .slice ay N.length cy, .string ⟨#[]⟩, .int .i64 0, .slice none 0 0, .slice none 0 0] 26)) n1 n2 ax ay M N cx cy zx zy := by
  have u : Upd [] v ((v.alloc (.cells #[.int .u8 1, .bool n1, .slice ax M.length cx, .string ⟨#[]⟩, .int .i64 0, .slice none 0 0, .slice none 0 0] 26)).alloc (.cells #[.int .u8 1, .bool n2, .slice ay N.length cy, .string ⟨#[]⟩, .int .i64 0, .slice none 0 0, .slice none 0 0] 26)) := ((Upd.refl [] v).alloc _).alloc _
  exact ⟨by omega, hU.size, by have := hU.size; omega, (Tb.new _ _ _ rfl).old _, Tb.new _ _ _ (by simp), ix.mono u, iy.mono u, hU.trans u⟩
theorem Out.bb {wz v : World} {n1 n2 : Bool} {ax ay : Option Addr} {M N : List Nat} {cx cy : Nat} {zx zy : Int} (ix : TI v n1 ax M zx) (iy : TI v n2 ay N zy) (hU : Upd [] wz v) : Out wz (v.heap.size + 1) v.heap.size ((v.alloc (.cells #[.int .u8 1, .bool n2, .slice ay N.length cy, .string ⟨#[]⟩, .int .i64 0, .slice none 0 0, .slice none 0 0] 26)).alloc (.cells #[.int .u8 1, .bool n1, .slice ax M.length cx, .string ⟨#[]⟩, .int .i64 0, .slice none 0 0, .slice none 0 0] 26)) n1 n2 ax ay M N cx cy zx zy := by
  have u : Upd [] v ((v.alloc (.cells #[.int .u8 1, .bool n2, .slice ay N.length cy, .string ⟨#[]⟩, .int .i64 0, .slice none 0 0, .slice none 0 0] 26)).alloc (.cells #[.int .u8 1, .bool n1, .slice ax M.length cx, .string ⟨#[]⟩, .int .i64 0, .slice none 0 0, .slice none 0 0] 26)) := ((Upd.refl [] v).alloc _).alloc _
  exact ⟨by omega, by have := hU.size; omega, hU.size, Tb.new _ _ _ (by simp), (Tb.new _ _ _ rfl).old _, ix.mono u, iy.mono u, hU.trans u⟩
theorem Out.sa {wz v : World} {n1 n2 : Bool} {ax ay : Option Addr} {M N : List Nat} {cx cy : Nat} {zx zy : Int} {G : Nat} (t : Tb v G #[.int .u8 0, .bool false, .slice none 0 0, .string ⟨#[]⟩, .int .i64 0, .slice none 0 0, .slice none 0 0]) (hG : wz.heap.size ≤ G) (ix : TI v n1 ax M zx) (iy : TI v n2 ay N zy) (hU : Upd [] wz v) : Out wz G v.heap.size ((((((((v.setCell ⟨G, 0, none⟩ (.int .u8 1)).setCell ⟨G, 1, none⟩ (.bool n1)).setCell ⟨G, 2, none⟩ (.slice ax M.length cx)).setCell ⟨G, 3, none⟩ (.string ⟨#[]⟩)).setCell ⟨G, 4, none⟩ (.int .i64 0)).setCell ⟨G, 5, none⟩ (.slice none 0 0)).setCell ⟨G, 6, none⟩ (.slice none 0 0)).alloc (.cells #[.int .u8 1, .bool n2, .slice ay N.length cy, .string ⟨#[]⟩, .int .i64 0, .slice none 0 0, .slice none 0 0] 26)) n1 n2 ax ay M N cx cy zx zy := by
  have h7 := (seven t (.int .u8 1) (.bool n1) (.slice ax M.length cx) (.string ⟨#[]⟩) (.int .i64 0) (.slice none 0 0) (.slice none 0 0))
  have e := h7.2.size
  have l := t.lt
  have u := (Upd.refl [] (((((((v.setCell ⟨G, 0, none⟩ (.int .u8 1)).setCell ⟨G, 1, none⟩ (.bool n1)).setCell ⟨G, 2, none⟩ (.slice ax M.length cx)).setCell ⟨G, 3, none⟩ (.string ⟨#[]⟩)).setCell ⟨G, 4, none⟩ (.int .i64 0)).setCell ⟨G, 5, none⟩ (.slice none 0 0)).setCell ⟨G, 6, none⟩ (.slice none 0 0))).alloc (.cells #[.int .u8 1, .bool n2, .slice ay N.length cy, .string ⟨#[]⟩, .int .i64 0, .slice none 0 0, .slice none 0 0] 26)
  exact ⟨by omega, hG, hU.size, h7.1.old _, Tb.new _ _ _ (by simp [World.setCell]), (ix.keep t h7.2).mono u, (iy.keep t h7.2).mono u, (hU.then h7.2 (by simp; omega)).trans u⟩
theorem Out.as' {wz v : World} {n1 n2 : Bool} {ax ay : Option Addr} {M N : List Nat} {cx cy : Nat} {zx zy : Int} {G : Nat} (t : Tb v G #[.int .u8 0, .bool false, .slice none 0 0, .string ⟨#[]⟩, .int .i64 0, .slice none 0 0, .slice none 0 0]) (hG : wz.heap.size ≤ G) (ix : TI v n1 ax M zx) (iy : TI v n2 ay N zy) (hU : Upd [] wz v) : Out wz v.heap.size G ((((((((v.setCell ⟨G, 0, none⟩ (.int .u8 1)).setCell ⟨G, 1, none⟩ (.bool n2)).setCell ⟨G, 2, none⟩ (.slice ay N.length cy)).setCell ⟨G, 3, none⟩ (.string ⟨#[]⟩)).setCell ⟨G, 4, none⟩ (.int .i64 0)).setCell ⟨G, 5, none⟩ (.slice none 0 0)).setCell ⟨G, 6, none⟩ (.slice none 0 0)).alloc (.cells #[.int .u8 1, .bool n1, .slice ax M.length cx, .string ⟨#[]⟩, .int .i64 0, .slice none 0 0, .slice none 0 0] 26)) n1 n2 ax ay M N cx cy zx zy := by
  have h7 := (seven t (.int .u8 1) (.bool n2) (.slice ay N.length cy) (.string ⟨#[]⟩) (.int .i64 0) (.slice none 0 0) (.slice none 0 0))
  have l := t.lt
  have u := (Upd.refl [] (((((((v.setCell ⟨G, 0, none⟩ (.int .u8 1)).setCell ⟨G, 1, none⟩ (.bool n2)).setCell ⟨G, 2, none⟩ (.slice ay N.length cy)).setCell ⟨G, 3, none⟩ (.string ⟨#[]⟩)).setCell ⟨G, 4, none⟩ (.int .i64 0)).setCell ⟨G, 5, none⟩ (.slice none 0 0)).setCell ⟨G, 6, none⟩ (.slice none 0 0))).alloc (.cells #[.int .u8 1, .bool n1, .slice ax M.length cx, .string ⟨#[]⟩, .int .i64 0, .slice none 0 0, .slice none 0 0] 26)
  exact ⟨by omega, hU.size, hG, Tb.new _ _ _ (by simp [World.setCell]), h7.1.old _, (ix.keep t h7.2).mono u, (iy.keep t h7.2).mono u, (hU.then h7.2 (by simp; omega)).trans u⟩
theorem Out.ss {wz v : World} {n1 n2 : Bool} {ax ay : Option Addr} {M N : List Nat} {cx cy : Nat} {zx zy : Int} {G H : Nat} (t : Tb v G #[.int .u8 0, .bool false, .slice none 0 0, .string ⟨#[]⟩, .int .i64 0, .slice none 0 0, .slice none 0 0]) (t2 : Tb v H #[.int .u8 0, .bool false, .slice none 0 0, .string ⟨#[]⟩, .int .i64 0, .slice none 0 0, .slice none 0 0]) (hGH : G ≠ H) (hG : wz.heap.size ≤ G) (hH : wz.heap.size ≤ H) (ix : TI v n1 ax M zx) (iy : TI v n2 ay N zy) (hU : Upd [] wz v) : Out wz G H ((((((((((((((v.setCell ⟨G, 0, none⟩ (.int .u8 1)).setCell ⟨G, 1, none⟩ (.bool n1)).setCell ⟨G, 2, none⟩ (.slice ax M.length cx)).setCell ⟨G, 3, none⟩ (.string ⟨#[]⟩)).setCell ⟨G, 4, none⟩ (.int .i64 0)).setCell ⟨G, 5, none⟩ (.slice none 0 0)).setCell ⟨G, 6, none⟩ (.slice none 0 0)).setCell ⟨H, 0, none⟩ (.int .u8 1)).setCell ⟨H, 1, none⟩ (.bool n2)).setCell ⟨H, 2, none⟩ (.slice ay N.length cy)).setCell ⟨H, 3, none⟩ (.string ⟨#[]⟩)).setCell ⟨H, 4, none⟩ (.int .i64 0)).setCell ⟨H, 5, none⟩ (.slice none 0 0)).setCell ⟨H, 6, none⟩ (.slice none 0 0)) n1 n2 ax ay M N cx cy zx zy := by
  have h7 := (seven t (.int .u8 1) (.bool n1) (.slice ax M.length cx) (.string ⟨#[]⟩) (.int .i64 0) (.slice none 0 0) (.slice none 0 0))
  have t3 := t2.mono h7.2 (by simp; omega)
  have h8 := (seven t3 (.int .u8 1) (.bool n2) (.slice ay N.length cy) (.string ⟨#[]⟩) (.int .i64 0) (.slice none 0 0) (.slice none 0 0))
  exact ⟨hGH, hG, hH, h7.1.mono h8.2 (by simp; omega), h8.1, (ix.keep t h7.2).keep t3 h8.2, (iy.keep t h7.2).keep t3 h8.2, (hU.then h7.2 (by simp; omega)).then h8.2 (by simp; omega)⟩

end Go.Proofs.YtpjlhpopoacjdaaDoor
