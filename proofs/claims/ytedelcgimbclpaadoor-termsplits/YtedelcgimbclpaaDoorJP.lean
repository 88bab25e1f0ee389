/- cloning's closure and fresh's: by their contracts. -/
import Derived.Test.YtedelcgimbclpaaDoorJJ
import Derived.Deep.AppendLies
import Derived.Lib.AppendZeros
import Derived.Deep.AppendSrc

namespace Go.Proofs.YtedelcgimbclpaaDoor
open Go.RowKit

theorem addr_block (a : Addr) (j : Nat) : (a.add j).block = a.block := by unfold Addr.add; split <;> rfl
theorem Rd.upd {S : List Nat} {w w' : World} {a : Option Addr} {n sz : Nat} {xs : List Value} (h : Rd w a n sz xs) (hu : Upd S w w') (hb : ∀ ad, a = some ad → n ≠ 0 → ad.block ∉ S) : Rd w' a n sz xs :=
  ⟨h.len, h.nil, h.one, fun ad e j u hj => by
    have h1 := h.get ad e j u hj
    exact (hu.cell (World.block_lt_of_cell? _ _ h1) (by rw [addr_block]; exact hb ad e (fun h0 => by have := h.len; rw [h0, Nat.zero_mul] at this; rw [List.eq_nil_of_length_eq_zero this] at hj; simp at hj))).trans h1⟩
theorem tupleret {a b c d : Value} (h1 : a = c) (h2 : b = d) : Ending.returned (.tuple #[a, b]) = .returned (.tuple #[c, d]) := by rw [h1, h2]

set_option maxHeartbeats 4000000 in
set_option maxRecDepth 100000 in
/-- A row is cloned, as long as there is something left. -/
theorem cln_any (a : Option Addr) (n c gl gm lf : Nat) (xs : List Value) (w : World) (h : Rd w a n 7 xs) (hb : ∀ ad, a = some ad → n ≠ 0 → ad.block ≠ gl) (hl : IntB w gl lf) (hlf : n ≤ lf) (hlf2 : lf ≤ 65536) :
    Calls Tryd.prog 70 #[.slice a n c, .pointer (some ⟨gl, 0, none⟩), .pointer (some ⟨gm, 0, none⟩)] w fun e w' => ∃ v, e = .returned (.tuple #[v, .bool (decide (0 < n))]) ∧ Own w' w.heap.size 26 7 n v xs ∧ IntB w' gl ((lf - n : Nat) : Int) ∧ Upd [gl] w w' := by
  have y0 : w.cell? ⟨gl, 0, none⟩ = some (.int .i64 (lf : Int)) := hl.cell
  have z0 : w.frozen? ⟨gl, 0, none⟩ = false := hl.free
  have hsub : IntKind.i64.wrap ((lf : Int) - (n : Int)) = ((lf - n : Nat) : Int) := by rw [IntKind.wrap_i64]; omega
  obtain ⟨m, hm⟩ : ∃ m, m = lf - n := ⟨_, rfl⟩
  rw [← hm] at hsub ⊢
  have hB1 : IntB (w.setCell ⟨gl, 0, none⟩ (.int .i64 (m : Int))) gl (m : Int) := hl.set _
  have hU1 : Upd [gl] w (w.setCell ⟨gl, 0, none⟩ (.int .i64 (m : Int))) := (Upd.refl [gl] w).setCell (Or.inr (by simp)) _
  have y1 : (w.setCell ⟨gl, 0, none⟩ (.int .i64 (m : Int))).cell? ⟨gl, 0, none⟩ = some (.int .i64 (m : Int)) := hB1.cell
  have HC : Hid _ := CloneT_any a n c xs _ (h.upd hU1 (fun ad e h0 => by simp; exact hb ad e h0)) (by omega)
  have HB1 : Hid (IntB _ gl (m : Int)) := hB1
  have HU1 : Hid (Upd [gl] w _) := hU1
  have hsz : (w.setCell ⟨gl, 0, none⟩ (.int .i64 (m : Int))).heap.size = w.heap.size := by simp
  have hm0 : decide ((m : Int) ≥ 0) = true := by simp
  have hm1 : (0 : Int) ≤ (m : Int) := by omega
  clear h hl hB1 hU1
  by_cases h0 : n = 0
  · subst h0
    have hm2 : m = lf := by omega
    subst hm2
    clear hm hsub
    go_enter Tryd.func70, Tryd.ntmps70
    go_wp2_with fail
    refine Calls.mono HC.out ?_
    rintro e w2 ⟨v, rfl, hO, hU2⟩
    rw [hsz] at hO
    go_wp2
    go_ret2
    exact ⟨v, rfl, hO, HB1.out.mono hU2 (by simp), HU1.out.then hU2 (by simp)⟩
  · have n0 : ((n : Int) == 0) = false := by simp; omega
    have n1 : (0 : Int) < (n : Int) := by omega
    have hd : decide (0 < n) = true := by simp; omega
    clear hm h0
    go_enter Tryd.func70, Tryd.ntmps70
    go_wp2_with fail
    refine Calls.mono HC.out ?_
    rintro e w2 ⟨v, rfl, hO, hU2⟩
    rw [hsz] at hO
    go_wp2
    go_ret2
    exact ⟨v, tupleret rfl (by simp <;> omega), hO, HB1.out.mono hU2 (by simp), HU1.out.then hU2 (by simp)⟩

theorem info_terms : (Tryd.prog.info? 24).map (fun i => (i.zero, i.size, i.bytes)) = some (some (.slice none 0 0), 1, 24) := by kernel_rfl
theorem FunB.set {w : World} {b : Nat} {v : Value} {T : TypeId} (h : FunB w b v T) (u : Value) : FunB (w.setCell ⟨b, 0, none⟩ u) b u T := by
  unfold FunB
  rw [heap_setCell_same w b 0 _ _ _ h]
  rfl
theorem FunB.free {w : World} {b : Nat} {v : Value} {T : TypeId} (h : FunB w b v T) : w.frozen? ⟨b, 0, none⟩ = false := frozen_of_row w b 0 _ _ h
theorem FunB.ne {w : World} {b b' : Nat} {v v' : Value} {T T' : TypeId} (h : FunB w b v T) (h' : FunB w b' v' T') (hT : T ≠ T') : b ≠ b' := fun e => by
  subst e
  have := h.symm.trans h'
  simp at this
  exact hT this.2
theorem IntB.fun {w : World} {b : Nat} {n : Int} (h : IntB w b n) : FunB w b (.int .i64 n) 3 := h
/-- A row of one's own lies in no block of another type. -/
theorem own_ne {w : World} {base : Nat} {T T' : TypeId} {sz n b : Nat} {v u : Value} {xs : List Value} (h : w.ownsRow base T sz v n xs) (hb : FunB w b u T') (hT : T ≠ T') : v.ownBlock ≠ some b := fun e => by
  obtain ⟨_, ⟨rfl, _⟩ | ⟨g, cap, cur, rfl, _, hh, _⟩⟩ := h
  · cases e
  · simp only [Value.ownBlock, Option.some.injEq] at e
    subst e
    have := hh.symm.trans hb
    simp at this
    exact hT this.2
theorem own_upd {S : List Nat} {w w' : World} {base : Nat} {T : TypeId} {sz n : Nat} {v : Value} {xs : List Value} (h : w.ownsRow base T sz v n xs) (hu : Upd S w w') (hn : ∀ x, v.ownBlock = some x → x ∉ S) : w'.ownsRow base T sz v n xs := by
  obtain ⟨h0, h1 | ⟨g, cap, cur, hv, hb, hh, h2⟩⟩ := h
  · exact ⟨h0, Or.inl h1⟩
  · exact ⟨h0, Or.inr ⟨g, cap, cur, hv, hb, (hu.block g (lt_of_block hh) (hn g (by rw [hv]; rfl))).trans hh, h2⟩⟩

theorem own_form {w : World} {base : Nat} {T : TypeId} {sz n : Nat} {v : Value} {xs : List Value} (h : w.ownsRow base T sz v n xs) : ∃ a c, v = .slice a n c := by
  obtain ⟨_, ⟨rfl, rfl⟩ | ⟨g, cap, cur, rfl, _⟩⟩ := h
  · exact ⟨none, 0, rfl⟩
  · exact ⟨_, _, rfl⟩
def InsP (w : World) (gl gt lf base n : Nat) (xs ys : List Value) (tv : Value) (e : Ending) (w' : World) : Prop := ∃ v tv', e = .returned v ∧ Own w' w.heap.size 26 7 n v xs ∧ IntB w' gl ((lf - n : Nat) : Int) ∧ FunB w' gt tv' 68 ∧ w'.ownsRow base 24 1 tv' (if 0 < n then ys ++ [v] else ys).length (if 0 < n then ys ++ [v] else ys) ∧ Upd ([gl, gt] ++ tv.ownBlock.toList) w w'

set_option maxHeartbeats 4000000 in
set_option maxRecDepth 100000 in
/-- What is inside a term is cloned, and set down to be gone through, if there is something in it. -/
theorem inside_any (a : Option Addr) (n c gl gm gc gt lf base : Nat) (xs ys : List Value) (tv : Value) (w : World) (h : Rd w a n 7 xs) (hb : ∀ ad, a = some ad → n ≠ 0 → ad.block ≠ gl) (hl : IntB w gl lf) (hlf : n ≤ lf) (hlf2 : lf ≤ 65536)
    (hF : FunB w gc (.func (.func 70) #[] #[.pointer (some ⟨gl, 0, none⟩), .pointer (some ⟨gm, 0, none⟩)]) 69) (hT : FunB w gt tv 68) (hY : w.ownsRow base 24 1 tv ys.length ys) (hys : ys.length ≤ 1000000) (hbase : base ≤ w.heap.size) :
    Calls Tryd.prog 50 #[.slice a n c, .pointer (some ⟨gc, 0, none⟩), .pointer (some ⟨gt, 0, none⟩)] w (InsP w gl gt lf base n xs ys tv) := by
  have y0 : w.cell? ⟨gc, 0, none⟩ = some (.func (.func 70) #[] #[.pointer (some ⟨gl, 0, none⟩), .pointer (some ⟨gm, 0, none⟩)]) := hF.cell
  have HC : Hid _ := cln_any a n c gl gm lf xs w h hb hl hlf hlf2
  have HT : Hid (FunB w gt tv 68) := hT
  have HY : Hid (w.ownsRow base 24 1 tv ys.length ys) := hY
  have hgt : gt ≠ gl := hT.ne hl.fun (by decide)
  have hnl := own_ne hY hl.fun (by decide)
  have hnt := own_ne hY hT (by decide)
  have hcall : ∀ args w, (callFunc 70 args).run Tryd.prog w = .ok (.enter 70 args) w := Tryd.call70
  obtain ⟨i0, hi, hz0, hz1, hz2⟩ := info_parts info_terms
  clear h hl hF hT hY
  go_enter Tryd.func50, Tryd.ntmps50
  go_wp2_with fail
  refine Calls.mono HC.out ?_
  rintro e w2 ⟨v, rfl, hO, hB2, hU2⟩
  have hT2 : FunB w2 gt tv 68 := HT.out.mono hU2 (by simp; exact hgt)
  have hY2 : w2.ownsRow base 24 1 tv ys.length ys := own_upd HY.out hU2 (fun x hx => by simp; intro e; subst e; exact hnl hx)
  have HO : Hid (Own w2 w.heap.size 26 7 n v xs) := hO
  have HB2 : Hid (IntB w2 gl _) := hB2
  have HU2 : Hid (Upd [gl] w w2) := hU2
  clear hO hB2 hU2
  by_cases h0 : n = 0
  · subst h0
    have HT2 : Hid (FunB w2 gt tv 68) := hT2
    have HY2 : Hid (w2.ownsRow base 24 1 tv ys.length ys) := hY2
    clear hT2 hY2
    go_wp2
    go_ret
    exact ⟨v, tv, rfl, HO.out, HB2.out, HT2.out, by simpa using HY2.out, (Upd.refl _ w).then HU2.out (by simp)⟩
  · have n1 : (0 : Int) < (n : Int) := by omega
    have n2 : decide (0 < n) = true := by simp; omega
    have yt : w2.cell? ⟨gt, 0, none⟩ = some tv := hT2.cell
    obtain ⟨_, a', c', hv⟩ := HO.out
    subst hv
    have hsz2 := HU2.out.size
    go_wp2_with (first
      | (at_builtin; (refine wpList_append_own _ rfl _ _ 68 rfl base 24 i0 _ 1 24 Tryd.underlying68 hi hz0 hz1 hz2 rfl (by decide) tv _ _ rfl (hY2.alloc _) ⟨w2.heap.size, 0, none⟩ 1 1 [.slice a' n c'] rfl rfl (World.news_of_block (heap_alloc_new _ _)) (by intro u hu; simp at hu; subst hu; rfl) (by unfold maxLen; omega) (by omega) (by simp; omega) ?_); intro tv' w3 hown' hgrow _; obtain ⟨t3, k3, hv3⟩ := own_form hown'; subst hv3
         have hT3 : FunB w3 gt tv 68 := (hgrow.block gt (by simp; have := hT2.lt; omega) (fun e => hnt e.symm)).trans ((Below.heap_alloc w2 _ _ hT2.lt).trans hT2)
         have z3 : w3.frozen? ⟨gt, 0, none⟩ = false := hT3.free
         have y3 : w3.cell? ⟨gt, 0, none⟩ = some tv := hT3.cell)
      | fail)
    have hU3 : Upd ([gl, gt] ++ tv.ownBlock.toList) w w3 := (((Upd.refl _ w).then HU2.out (by simp)).alloc _).grown hgrow (fun k hk => Or.inr (by simp [hk]))
    have hU4 := hU3.setCell (p := ⟨gt, 0, none⟩) (Or.inr (by simp)) (.slice t3 (ys.length + 1) k3)
    have hlt2 := HO.out.1
    have hO3 : Own w3 w.heap.size 26 7 n (.slice a' n c') xs := by
      refine ⟨?_, HO.out.2⟩
      have h1 : (w2.alloc (.cells #[.slice a' n c'] 24)).ownsRow w.heap.size 26 7 (.slice a' n c') n xs := HO.out.1.alloc _
      refine World.ownsRow.kept h1 hgrow ?_
      by_cases hv : (Value.slice a' n c').ownBlock = none
      · exact Or.inl hv
      · refine Or.inr fun e => ?_
        cases ho : (Value.slice a' n c').ownBlock with
        | none => exact hv ho
        | some k =>
          have k1 := (World.ownsRow.lt HO.out.1 k ho).1
          have k2 := (World.ownsRow.lt HY.out k (by rw [← e, ho])).2
          omega
    have hB3 : IntB w3 gl _ := (hgrow.block gl (by simp; have := HB2.out.lt; omega) (fun e => hnl e.symm)).trans ((Below.heap_alloc w2 _ _ HB2.out.lt).trans HB2.out)
    have hO4 : Own (w3.setCell ⟨gt, 0, none⟩ (.slice t3 (ys.length + 1) k3)) w.heap.size 26 7 n (.slice a' n c') xs := ⟨own_upd hO3.1 ((Upd.refl [gt] w3).setCell (Or.inr (by simp)) (.slice t3 (ys.length + 1) k3)) (fun x hx => by simp; intro e; subst e; exact own_ne hO3.1 hT3 (by decide) hx), hO3.2⟩
    have hB4 : IntB (w3.setCell ⟨gt, 0, none⟩ (.slice t3 (ys.length + 1) k3)) gl _ := hB3.mono ((Upd.refl [gt] w3).setCell (Or.inr (by simp)) (.slice t3 (ys.length + 1) k3)) (by simp; exact fun e => hgt e.symm)
    have hT4 := hT3.set (.slice t3 (ys.length + 1) k3)
    have hY4 : (w3.setCell ⟨gt, 0, none⟩ (.slice t3 (ys.length + 1) k3)).ownsRow base 24 1 (.slice t3 (ys.length + 1) k3) (ys.length + 1) (ys ++ [.slice a' n c']) := own_upd hown' ((Upd.refl [gt] w3).setCell (Or.inr (by simp)) (.slice t3 (ys.length + 1) k3)) (fun x hx => by simp; intro e; subst e; exact own_ne hown' hT3 (by decide) hx)
    go_wp2
    go_ret
    refine ⟨_, _, rfl, hO4, hB4, hT4, ?_, hU4⟩
    rw [if_pos (by omega), List.length_append]
    exact hY4

end Go.Proofs.YtedelcgimbclpaaDoor

/- slices.Grow of nothing, slices.Concat, by their contracts. -/
namespace Go.Proofs.YtedelcgimbclpaaDoor
open Go.RowKit

set_option maxHeartbeats 4000000 in
set_option maxRecDepth 100000 in
theorem Grow_nil (n : Nat) (w : World) (hn : n ≤ 1353245080330) :
    Calls Tryd.prog 69 #[.slice none 0 0, .int .i64 n] w fun e w' => ∃ v, e = .returned v ∧ w'.ownsRow w.heap.size 26 7 v 0 [] ∧ Upd [] w w' := by
  have h1 : decide ((n : Int) < 0) = false := by simp
  by_cases h0 : n = 0
  · subst h0
    go_enter Tryd.func69, Tryd.ntmps69
    go_wp2
    go_ret
    exact ⟨_, rfl, World.ownsRow_nil _ _ _ _, Upd.refl _ _⟩
  · obtain ⟨i0, hi, hz0, hz1, hz2⟩ := info_parts info_termP
    have n1 : (0 : Int) < (n : Int) := by omega
    have hr := fun ty => Lib.run_append_nil_zeros (P := Tryd.prog) w 24 3 ty 26 i0 _ .i64 .i64 Tryd.underlying24 Tryd.underlying3 hi hz0 n (by omega) (by omega) (by omega) (by rw [hz2]; omega)
    have hge := grownCap_ge w n 0 26
    have hcm : grownCap w n 0 26 ≤ maxLen := grownCap_le_maxLen w n 0 26 (by unfold maxLen; omega)
    go_enter Tryd.func69, Tryd.ntmps69
    go_wp2_with (at_builtin; refine Lib.wpList_append_run _ rfl _ _ _ _ rfl _ _ rfl rfl _ _ (hr _) ?_)
    go_ret
    refine ⟨_, rfl, ⟨rfl, Or.inr ⟨w.heap.size, grownCap w n 0 26, _, rfl, Nat.le_refl _, heap_alloc_new w.drew _, Nat.zero_le _, hcm, ?_, by simp⟩⟩, ((Upd.refl [] w).drew).alloc _⟩
    simp only [Array.size_append, size_zeroCells]
    have : (#[Value.int .u8 0, .bool false, .slice none 0 0, .string ⟨#[]⟩, .int .i64 0, .slice none 0 0, .slice none 0 0] : Array Value).size = 7 := rfl
    rw [this, ← Nat.add_mul]
    congr 1
    omega

/-- A row of terms that is handed on. -/
structure RowV where
  a : Option Addr
  n : Nat
  c : Nat
  xs : List Value
def RowV.val (r : RowV) : Value := .slice r.a r.n r.c
def sumN : List RowV → Nat
  | [] => 0
  | r :: l => r.n + sumN l
def catX (l : List RowV) : List Value := l.flatMap RowV.xs
theorem sumN_take (l : List RowV) (k : Nat) (hk : k < l.length) : sumN (l.take (k + 1)) = sumN (l.take k) + l[k].n := by
  induction l generalizing k with
  | nil => simp at hk
  | cons r l ih =>
    cases k with
    | zero => simp [sumN]
    | succ k => simp only [List.take_succ_cons, sumN, List.getElem_cons_succ]; rw [ih k (by simpa using hk), Nat.add_assoc]
theorem sumN_le (l : List RowV) (k : Nat) : sumN (l.take k) ≤ sumN l := by
  induction l generalizing k with
  | nil => simp
  | cons r l ih =>
    cases k with
    | zero => simp [sumN]
    | succ k => simp only [List.take_succ_cons, sumN]; have := ih k; omega
theorem catX_take (l : List RowV) (k : Nat) (hk : k < l.length) : catX (l.take (k + 1)) = catX (l.take k) ++ l[k].xs := by
  unfold catX
  rw [List.take_succ_eq_append_getElem hk, List.flatMap_append]
  simp
/-- Rows in a row. -/
structure RowsAt (w : World) (b o : Nat) (l : List RowV) : Prop where
  lt : b < w.heap.size
  cell : ∀ i (hi : i < l.length), w.cell? ⟨b, o + i, none⟩ = some l[i].val
  rd : ∀ i (hi : i < l.length), Rd w l[i].a l[i].n 7 l[i].xs
theorem RowsAt.mono {w w' : World} {b o : Nat} {l : List RowV} (h : RowsAt w b o l) (hu : Upd [] w w') : RowsAt w' b o l :=
  ⟨Nat.lt_of_lt_of_le h.lt hu.size, fun i hi => (hu.cell (p := ⟨b, o + i, none⟩) h.lt (by simp)).trans (h.cell i hi), fun i hi => (h.rd i hi).upd hu (by simp)⟩

/-- 'append(out, l...)' onto terms of the call's own. -/
theorem append_T (w : World) {ops : Array Oper} {rest : List Oper} {o : Oper} {a : Act} {Q : Exit → Act → World → Prop} (hgd : o.guard = none) (s x : Operand)
    (ho : o.op = .call { callee := .builtin .append, args := #[s, x], argTypes := #[24, 24] }) (base : Nat) (n m : Nat) (xs ys : List Value) (v : Value) (a' : Option Addr) (c' : Nat) (hX : n + m ≤ 1353245080330)
    (hs : a.eval s = v) (hown : w.ownsRow base 26 7 v n xs) (hx : a.eval x = .slice a' m c') (HM : Rd w a' m 7 ys) (hbase : base ≤ w.heap.size) (W0 : World) (hU0 : Upd [] W0 w) (hb0 : W0.heap.size ≤ base)
    (h : ∀ v' w', w'.ownsRow base 26 7 v' (n + m) (xs ++ ys) → Upd [] W0 w' → wpList Tryd.prog ops Q rest (a.put o.dst v') w') :
    wpList Tryd.prog ops Q (o :: rest) a w := by
  obtain ⟨i0, hi, hz0, hz1, hz2⟩ := info_parts info_termP
  refine wpList_plain hgd fun K hK => ?_
  rcases a' with _ | ad
  · have hm0 := HM.nil rfl
    subst hm0
    have hy : ys = [] := List.eq_nil_of_length_eq_zero (by simp [HM.len])
    subst hy
    have key : (Builtin.append_ #[24, 24] o.type #[v, .slice none 0 c']).run Tryd.prog w = .ok v w := by
      obtain ⟨_, ⟨rfl, _⟩ | ⟨g, cap, cur, rfl, _, hh, hc1, hc2, hc3, _⟩⟩ := hown
      · simp [Builtin.append_, run_underlying Tryd.underlying24, sizeOf, typeInfo, hi, Builtin.lenOf, Builtin.firstCells]
      · have hr := run_append_room_src (P := Tryd.prog) w 24 24 o.type 26 i0 Tryd.underlying24 hi g 0 n cap (.slice none 0 c') 0 [] (Src.ofNil w Tryd.underlying24 c') (by omega) (fun j hj => by simp at hj) (fun j hj => by simp at hj)
        have e0 : w.setCells g (0 + n * i0.size) [] = w := rfl
        rw [e0] at hr
        exact hr
    unfold Oper.wp execOp
    simp only [ho, resolve, invoke, builtin, Sem.run_bind, Sem.run_pure, Result.andThen_ok, List.map_toArray, List.map_cons, List.map_nil, hs, hx, key]
    refine hK _ _ ?_
    exact h _ w (by rw [List.append_nil]; exact hown) hU0
  · obtain ⟨v', w', hr, hown', hgr, hnil⟩ := run_append_own (P := Tryd.prog) w base 24 o.type 26 i0 _ 7 104 Tryd.underlying24 hi hz0 hz1 hz2 rfl (by decide) _ n _ hown ad m c' ys HM.len (HM.get ad rfl) HM.one (by unfold maxLen; omega) (by omega) hbase
    unfold Oper.wp execOp
    simp only [ho, resolve, invoke, builtin, Sem.run_bind, Sem.run_pure, Result.andThen_ok, List.map_toArray, List.map_cons, List.map_nil, hs, hx, hr]
    refine hK _ _ ?_
    refine h v' w' hown' (hU0.grown hgr (fun k hk => Or.inl ?_))
    have := (World.ownsRow.lt hown k hk).1
    omega

set_option maxHeartbeats 4000000 in
set_option maxRecDepth 100000 in
theorem Concat_any (b o m c : Nat) (l : List RowV) (w : World) (hm : m = l.length) (h : RowsAt w b o l) (hl : l.length ≤ 1000) (hn : sumN l ≤ 1000000000) :
    Calls Tryd.prog 48 #[.slice (some ⟨b, o, none⟩) m c] w fun e w' => ∃ v, e = .returned v ∧ Own w' w.heap.size 26 7 (sumN l) v (catX l) ∧ Upd [] w w' := by
  subst hm
  have HR : Hid (RowsAt w b o l) := h
  have HG : Hid _ := Grow_nil (sumN l) w (by omega)
  have HN : Hid (sumN l ≤ 1000000000) := hn
  clear h hn
  go_enter Tryd.func48, Tryd.ntmps48
  go_wp2
  go_loop [3, 11] (fun z i => ∃ k : Nat, k ≤ l.length ∧ i = .int .i64 k ∧ z = .int .i64 (sumN (l.take k) : Nat)) (fun _ i => l.length - (intOf i).toNat)
  case atStart => exact ⟨0, Nat.zero_le _, rfl, rfl⟩
  case round =>
    obtain ⟨k, hk, rfl, rfl⟩ := hrel
    by_cases hlt : k < l.length
    · have i1 : (k : Int) < (l.length : Int) := by omega
      have x0 : w.cell? ⟨b, o + k, none⟩ = some (.slice l[k].a l[k].n l[k].c) := HR.out.cell k hlt
      have HS : Hid _ := sumN_take l k hlt
      have HL : Hid _ := sumN_le l (k + 1)
      obtain ⟨z, hz⟩ : ∃ z, z = sumN (l.take k) := ⟨_, rfl⟩
      obtain ⟨y, hy⟩ : ∃ y, y = l[k].n := ⟨_, rfl⟩
      have hzy : z + y ≤ 1000000000 := by have h1 := HS.out; have h2 := HL.out; have h3 := HN.out; omega
      rw [← hz] at HS ⊢
      rw [← hy] at HS x0
      clear hz hy
      have hw : wrap64 ((z : Int) + (y : Int)) = ((z + y : Nat) : Int) := by unfold wrap64; omega
      go_wp2
      go_round
      case rel => exact ⟨k + 1, by omega, by go_num, by rw [HS.out]; simp⟩
      case measure => simp [intOf]; omega
    · have hd : decide ((k : Int) < (l.length : Int)) = false := by simp; omega
      have he : l.take k = l := List.take_of_length_le (by omega)
      rw [he]
      clear he
      go_wp2_with fail
      refine Calls.mono HG.out ?_
      rintro e w1 ⟨v, rfl, hO, hU1⟩
      have HO : Hid (w1.ownsRow w.heap.size 26 7 v 0 []) := hO
      have HU1 : Hid (Upd [] w w1) := hU1
      clear hO hU1 hd hk
      go_wp2
      go_loopw [6, 27] (fun v i wr => ∃ k : Nat, k ≤ l.length ∧ i = .int .i64 k ∧ wr.ownsRow w.heap.size 26 7 v (sumN (l.take k)) (catX (l.take k)) ∧ Upd [] w wr) (fun _ i _ => l.length - (intOf i).toNat)
      case atStart => exact ⟨0, Nat.zero_le _, rfl, HO.out, HU1.out⟩
      case round =>
        obtain ⟨k, hk, rfl, hO, hU⟩ := hrel
        by_cases hlt : k < l.length
        · have i1 : (k : Int) < (l.length : Int) := by omega
          have hR2 := HR.out.mono hU
          have x0 : wr.cell? ⟨b, o + k, none⟩ = some (.slice l[k].a l[k].n l[k].c) := hR2.cell k hlt
          have hS := sumN_take l k hlt
          have hL := sumN_le l (k + 1)
          have hb : sumN (l.take k) + l[k].n ≤ 1353245080330 := by have := HN.out; omega
          have hrd := hR2.rd k hlt
          have hsz := hU.size
          have HS : Hid _ := hS
          clear hS hL hR2
          go_wp2_with (at_builtin; refine append_T _ rfl _ _ rfl w.heap.size _ _ _ _ _ _ _ hb rfl hO rfl hrd hsz w hU (Nat.le_refl _) ?_; intro v' w3 hO3 hU3)
          go_roundw
          case rel => exact ⟨k + 1, by omega, by go_num, by rw [HS.out, catX_take l k hlt]; exact hO3, hU3⟩
          case measure => simp [intOf]; omega
        · have hd : decide ((k : Int) < (l.length : Int)) = false := by simp; omega
          have he : l.take k = l := List.take_of_length_le (by omega)
          rw [he] at hO
          have HO3 : Hid _ := hO
          have HU3 : Hid _ := hU
          clear hO hU he
          go_wp2
          go_ret
          exact ⟨_, rfl, ⟨HO3.out, own_form HO3.out⟩, HU3.out⟩

end Go.Proofs.YtedelcgimbclpaaDoor
