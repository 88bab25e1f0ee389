/- slices.Grow of nothing, slices.Concat, by their contracts. -/
import Derived.Test.YtplkcegdmlfhcaaDoorFrsC
import Derived.Lib.AppendZeros
import Derived.Deep.AppendSrc
namespace Go.Proofs.YtplkcegdmlfhcaaDoor
open Go.RowKit

set_option maxHeartbeats 4000000 in
set_option maxRecDepth 100000 in
theorem Grow_nil (n : Nat) (w : World) (hn : n ≤ 1353245080330) :
    Calls Tryd.prog 69 #[.slice none 0 0, .int .i64 n] w fun e w' => ∃ v, e = .returned v ∧ w'.ownsRow w.heap.size 26 7 v 0 [] ∧ Upd [] w w' := by
  have h1 : decide ((n : Int) < 0) = false := by simp
  by_cases h0 : n = 0
  · subst h0
    go_enter Tryd.func69, Tryd.ntmps69
    go_wp2
    go_ret
    exact ⟨_, rfl, World.ownsRow_nil _ _ _ _, Upd.refl _ _⟩
  · obtain ⟨i0, hi, hz0, hz1, hz2⟩ := info_parts info_termP
    have n1 : (0 : Int) < (n : Int) := by omega
    have hr := fun ty => Lib.run_append_nil_zeros (P := Tryd.prog) w 24 3 ty 26 i0 _ .i64 .i64 Tryd.underlying24 Tryd.underlying3 hi hz0 n (by omega) (by omega) (by omega) (by rw [hz2]; omega)
    have hge := grownCap_ge w n 0 26
    have hcm : grownCap w n 0 26 ≤ maxLen := grownCap_le_maxLen w n 0 26 (by unfold maxLen; omega)
    go_enter Tryd.func69, Tryd.ntmps69
    go_wp2_with (at_builtin; refine Lib.wpList_append_run _ rfl _ _ _ _ rfl _ _ rfl rfl _ _ (hr _) ?_)
    go_ret
    refine ⟨_, rfl, ⟨rfl, Or.inr ⟨w.heap.size, grownCap w n 0 26, _, rfl, Nat.le_refl _, heap_alloc_new w.drew _, Nat.zero_le _, hcm, ?_, by simp⟩⟩, ((Upd.refl [] w).drew).alloc _⟩
    simp only [Array.size_append, size_zeroCells]
    have : (#[Value.int .u8 0, .bool false, .slice none 0 0, .string ⟨#[]⟩, .int .i64 0, .slice none 0 0, .slice none 0 0] : Array Value).size = 7 := rfl
    rw [this, ← Nat.add_mul]
    congr 1
    omega

/-- A row of terms that is handed on. -/
structure RowV where
  a : Option Addr
  n : Nat
  c : Nat
  xs : List Value
def RowV.val (r : RowV) : Value := .slice r.a r.n r.c
def sumN : List RowV → Nat
  | [] => 0
  | r :: l => r.n + sumN l
def catX (l : List RowV) : List Value := l.flatMap RowV.xs
theorem sumN_take (l : List RowV) (k : Nat) (hk : k < l.length) : sumN (l.take (k + 1)) = sumN (l.take k) + l[k].n := by
  induction l generalizing k with
  | nil => simp at hk
  | cons r l ih =>
    cases k with
    | zero => simp [sumN]
    | succ k => simp only [List.take_succ_cons, sumN, List.getElem_cons_succ]; rw [ih k (by simpa using hk), Nat.add_assoc]
theorem sumN_le (l : List RowV) (k : Nat) : sumN (l.take k) ≤ sumN l := by
  induction l generalizing k with
  | nil => simp
  | cons r l ih =>
    cases k with
    | zero => simp [sumN]
    | succ k => simp only [List.take_succ_cons, sumN]; have := ih k; omega
theorem catX_take (l : List RowV) (k : Nat) (hk : k < l.length) : catX (l.take (k + 1)) = catX (l.take k) ++ l[k].xs := by
  unfold catX
  rw [List.take_succ_eq_append_getElem hk, List.flatMap_append]
  simp
/-- Rows in a row. -/
structure RowsAt (w : World) (b o : Nat) (l : List RowV) : Prop where
  lt : b < w.heap.size
  cell : ∀ i (hi : i < l.length), w.cell? ⟨b, o + i, none⟩ = some l[i].val
  rd : ∀ i (hi : i < l.length), Rd w l[i].a l[i].n 7 l[i].xs
theorem RowsAt.mono {w w' : World} {b o : Nat} {l : List RowV} (h : RowsAt w b o l) (hu : Upd [] w w') : RowsAt w' b o l :=
  ⟨Nat.lt_of_lt_of_le h.lt hu.size, fun i hi => (hu.cell (p := ⟨b, o + i, none⟩) h.lt (by simp)).trans (h.cell i hi), fun i hi => (h.rd i hi).upd hu (by simp)⟩

/-- 'append(out, l...)' onto terms of the call's own. -/
theorem append_T (w : World) {ops : Array Oper} {rest : List Oper} {o : Oper} {a : Act} {Q : Exit → Act → World → Prop} (hgd : o.guard = none) (s x : Operand)
    (ho : o.op = .call { callee := .builtin .append, args := #[s, x], argTypes := #[24, 24] }) (base : Nat) (n m : Nat) (xs ys : List Value) (v : Value) (a' : Option Addr) (c' : Nat) (hX : n + m ≤ 1353245080330)
    (hs : a.eval s = v) (hown : w.ownsRow base 26 7 v n xs) (hx : a.eval x = .slice a' m c') (HM : Rd w a' m 7 ys) (hbase : base ≤ w.heap.size) (W0 : World) (hU0 : Upd [] W0 w) (hb0 : W0.heap.size ≤ base)
    (h : ∀ v' w', w'.ownsRow base 26 7 v' (n + m) (xs ++ ys) → Upd [] W0 w' → wpList Tryd.prog ops Q rest (a.put o.dst v') w') :
    wpList Tryd.prog ops Q (o :: rest) a w := by
  obtain ⟨i0, hi, hz0, hz1, hz2⟩ := info_parts info_termP
  refine wpList_plain hgd fun K hK => ?_
  rcases a' with _ | ad
  · have hm0 := HM.nil rfl
    subst hm0
    have hy : ys = [] := List.eq_nil_of_length_eq_zero (by simp [HM.len])
    subst hy
    have key : (Builtin.append_ #[24, 24] o.type #[v, .slice none 0 c']).run Tryd.prog w = .ok v w := by
      obtain ⟨_, ⟨rfl, _⟩ | ⟨g, cap, cur, rfl, _, hh, hc1, hc2, hc3, _⟩⟩ := hown
      · simp [Builtin.append_, run_underlying Tryd.underlying24, sizeOf, typeInfo, hi, Builtin.lenOf, Builtin.firstCells]
      · have hr := run_append_room_src (P := Tryd.prog) w 24 24 o.type 26 i0 Tryd.underlying24 hi g 0 n cap (.slice none 0 c') 0 [] (Src.ofNil w Tryd.underlying24 c') (by omega) (fun j hj => by simp at hj) (fun j hj => by simp at hj)
        have e0 : w.setCells g (0 + n * i0.size) [] = w := rfl
        rw [e0] at hr
        exact hr
    unfold Oper.wp execOp
    simp only [ho, resolve, invoke, builtin, Sem.run_bind, Sem.run_pure, Result.andThen_ok, List.map_toArray, List.map_cons, List.map_nil, hs, hx, key]
    refine hK _ _ ?_
    exact h _ w (by rw [List.append_nil]; exact hown) hU0
  · obtain ⟨v', w', hr, hown', hgr, hnil⟩ := run_append_own (P := Tryd.prog) w base 24 o.type 26 i0 _ 7 104 Tryd.underlying24 hi hz0 hz1 hz2 rfl (by decide) _ n _ hown ad m c' ys HM.len (HM.get ad rfl) HM.one (by unfold maxLen; omega) (by omega) hbase
    unfold Oper.wp execOp
    simp only [ho, resolve, invoke, builtin, Sem.run_bind, Sem.run_pure, Result.andThen_ok, List.map_toArray, List.map_cons, List.map_nil, hs, hx, hr]
    refine hK _ _ ?_
    refine h v' w' hown' (hU0.grown hgr (fun k hk => Or.inl ?_))
    have := (World.ownsRow.lt hown k hk).1
    omega

set_option maxHeartbeats 4000000 in
set_option maxRecDepth 100000 in
theorem Concat_any (b o m c : Nat) (l : List RowV) (w : World) (hm : m = l.length) (h : RowsAt w b o l) (hl : l.length ≤ 1000) (hn : sumN l ≤ 1000000000) :
    Calls Tryd.prog 48 #[.slice (some ⟨b, o, none⟩) m c] w fun e w' => ∃ v, e = .returned v ∧ Own w' w.heap.size 26 7 (sumN l) v (catX l) ∧ Upd [] w w' := by
  subst hm
  have HR : Hid (RowsAt w b o l) := h
  have HG : Hid _ := Grow_nil (sumN l) w (by omega)
  have HN : Hid (sumN l ≤ 1000000000) := hn
  clear h hn
  go_enter Tryd.func48, Tryd.ntmps48
  go_wp2
  go_loop [3, 11] (fun z i => ∃ k : Nat, k ≤ l.length ∧ i = .int .i64 k ∧ z = .int .i64 (sumN (l.take k) : Nat)) (fun _ i => l.length - (intOf i).toNat)
  case atStart => exact ⟨0, Nat.zero_le _, rfl, rfl⟩
  case round =>
    obtain ⟨k, hk, rfl, rfl⟩ := hrel
    by_cases hlt : k < l.length
    · have i1 : (k : Int) < (l.length : Int) := by omega
      have x0 : w.cell? ⟨b, o + k, none⟩ = some (.slice l[k].a l[k].n l[k].c) := HR.out.cell k hlt
      have HS : Hid _ := sumN_take l k hlt
      have HL : Hid _ := sumN_le l (k + 1)
      obtain ⟨z, hz⟩ : ∃ z, z = sumN (l.take k) := ⟨_, rfl⟩
      obtain ⟨y, hy⟩ : ∃ y, y = l[k].n := ⟨_, rfl⟩
      have hzy : z + y ≤ 1000000000 := by have h1 := HS.out; have h2 := HL.out; have h3 := HN.out; omega
      rw [← hz] at HS ⊢
      rw [← hy] at HS x0
      clear hz hy
      have hw : wrap64 ((z : Int) + (y : Int)) = ((z + y : Nat) : Int) := by unfold wrap64; omega
      go_wp2
      go_round
      case rel => exact ⟨k + 1, by omega, by go_num, by rw [HS.out]; simp⟩
      case measure => simp [intOf]; omega
    · have hd : decide ((k : Int) < (l.length : Int)) = false := by simp; omega
      have he : l.take k = l := List.take_of_length_le (by omega)
      rw [he]
      clear he
      go_wp2_with fail
      refine Calls.mono HG.out ?_
      rintro e w1 ⟨v, rfl, hO, hU1⟩
      have HO : Hid (w1.ownsRow w.heap.size 26 7 v 0 []) := hO
      have HU1 : Hid (Upd [] w w1) := hU1
      clear hO hU1 hd hk
      go_wp2
      go_loopw [6, 27] (fun v i wr => ∃ k : Nat, k ≤ l.length ∧ i = .int .i64 k ∧ wr.ownsRow w.heap.size 26 7 v (sumN (l.take k)) (catX (l.take k)) ∧ Upd [] w wr) (fun _ i _ => l.length - (intOf i).toNat)
      case atStart => exact ⟨0, Nat.zero_le _, rfl, HO.out, HU1.out⟩
      case round =>
        obtain ⟨k, hk, rfl, hO, hU⟩ := hrel
        by_cases hlt : k < l.length
        · have i1 : (k : Int) < (l.length : Int) := by omega
          have hR2 := HR.out.mono hU
          have x0 : wr.cell? ⟨b, o + k, none⟩ = some (.slice l[k].a l[k].n l[k].c) := hR2.cell k hlt
          have hS := sumN_take l k hlt
          have hL := sumN_le l (k + 1)
          have hb : sumN (l.take k) + l[k].n ≤ 1353245080330 := by have := HN.out; omega
          have hrd := hR2.rd k hlt
          have hsz := hU.size
          have HS : Hid _ := hS
          clear hS hL hR2
          go_wp2_with (at_builtin; refine append_T _ rfl _ _ rfl w.heap.size _ _ _ _ _ _ _ hb rfl hO rfl hrd hsz w hU (Nat.le_refl _) ?_; intro v' w3 hO3 hU3)
          go_roundw
          case rel => exact ⟨k + 1, by omega, by go_num, by rw [HS.out, catX_take l k hlt]; exact hO3, hU3⟩
          case measure => simp [intOf]; omega
        · have hd : decide ((k : Int) < (l.length : Int)) = false := by simp; omega
          have he : l.take k = l := List.take_of_length_le (by omega)
          rw [he] at hO
          have HO3 : Hid _ := hO
          have HU3 : Hid _ := hU
          clear hO hU he
          go_wp2
          go_ret
          exact ⟨_, rfl, ⟨HO3.out, own_form HO3.out⟩, HU3.out⟩

end Go.Proofs.YtplkcegdmlfhcaaDoor
