/- slices.Grow of nothing, slices.Concat, by their contracts. -/
import Derived.Test.YtnpocmhaoaigfaaGreatDoorJAE
import Derived.Lib.AppendZeros
import Derived.Deep.AppendSrc

namespace Go.Proofs.YtnpocmhaoaigfaaGreatDoor
open Go.RowKit

set_option maxHeartbeats 4000000 in
set_option maxRecDepth 100000 in
theorem Grow_nil (n : Nat) (w : World) (hn : n ≤ 1353245080330) :
    Calls Tryz.prog 121 #[.slice none 0 0, .int .i64 n] w fun e w' => ∃ v, e = .returned v ∧ w'.ownsRow w.heap.size 26 7 v 0 [] ∧ Upd [] w w' := by
  have h1 : decide ((n : Int) < 0) = false := by simp
  by_cases h0 : n = 0
  · subst h0
    go_enter Tryz.func121, Tryz.ntmps121
    go_wp2
    go_ret
    exact ⟨_, rfl, World.ownsRow_nil _ _ _ _, Upd.refl _ _⟩
  · obtain ⟨i0, hi, hz0, hz1, hz2⟩ := info_parts info_termP
    have n1 : (0 : Int) < (n : Int) := by omega
    have hr := fun ty => Lib.run_append_nil_zeros (P := Tryz.prog) w 24 3 ty 26 i0 _ .i64 .i64 Tryz.underlying24 Tryz.underlying3 hi hz0 n (by omega) (by omega) (by omega) (by rw [hz2]; omega)
    have hge := grownCap_ge w n 0 26
    have hcm : grownCap w n 0 26 ≤ maxLen := grownCap_le_maxLen w n 0 26 (by unfold maxLen; omega)
    go_enter Tryz.func121, Tryz.ntmps121
    go_wp2_with (at_builtin; refine Lib.wpList_append_run _ rfl _ _ _ _ rfl _ _ rfl rfl _ _ (hr _) ?_)
    go_ret
    refine ⟨_, rfl, ⟨rfl, Or.inr ⟨w.heap.size, grownCap w n 0 26, _, rfl, Nat.le_refl _, heap_alloc_new w.drew _, Nat.zero_le _, hcm, ?_, by simp⟩⟩, ((Upd.refl [] w).drew).alloc _⟩
    simp only [Array.size_append, size_zeroCells]
    have : (#[Value.int .u8 0, .bool false, .slice none 0 0, .string ⟨#[]⟩, .int .i64 0, .slice none 0 0, .slice none 0 0] : Array Value).size = 7 := rfl
    rw [this, ← Nat.add_mul]
    congr 1
    omega

/-- A row of terms that is handed on. -/
structure RowV where
  a : Option Addr
  n : Nat
  c : Nat
  xs : List Value
def RowV.val (r : RowV) : Value := .slice r.a r.n r.c
def sumN : List RowV → Nat
  | [] => 0
  | r :: l => r.n + sumN l
def catX (l : List RowV) : List Value := l.flatMap RowV.xs
theorem sumN_take (l : List RowV) (k : Nat) (hk : k < l.length) : sumN (l.take (k + 1)) = sumN (l.take k) + l[k].n := by
  induction l generalizing k with
  | nil => simp at hk
  | cons r l ih =>
    cases k with
    | zero => simp [sumN]
    | succ k => simp only [List.take_succ_cons, sumN, List.getElem_cons_succ]; rw [ih k (by simpa using hk), Nat.add_assoc]
theorem sumN_le (l : List RowV) (k : Nat) : sumN (l.take k) ≤ sumN l := by
  induction l generalizing k with
  | nil => simp
  | cons r l ih =>
    cases k with
    | zero => simp [sumN]
    | succ k => simp only [List.take_succ_cons, sumN]; have := ih k; omega
theorem catX_take (l : List RowV) (k : Nat) (hk : k < l.length) : catX (l.take (k + 1)) = catX (l.take k) ++ l[k].xs := by
  unfold catX
  rw [List.take_succ_eq_append_getElem hk, List.flatMap_append]
  simp
/-- Rows in a row. -/
structure RowsAt (w : World) (b o : Nat) (l : List RowV) : Prop where
  lt : b < w.heap.size
  cell : ∀ i (hi : i < l.length), w.cell? ⟨b, o + i, none⟩ = some l[i].val
  rd : ∀ i (hi : i < l.length), Rd w l[i].a l[i].n 7 l[i].xs
theorem RowsAt.mono {w w' : World} {b o : Nat} {l : List RowV} (h : RowsAt w b o l) (hu : Upd [] w w') : RowsAt w' b o l :=
  ⟨Nat.lt_of_lt_of_le h.lt hu.size, fun i hi => (hu.cell (p := ⟨b, o + i, none⟩) h.lt (by simp)).trans (h.cell i hi), fun i hi => (h.rd i hi).upd hu (by simp)⟩

/-- 'append(out, l...)' onto terms of the call's own. -/
theorem append_T (w : World) {ops : Array Oper} {rest : List Oper} {o : Oper} {a : Act} {Q : Exit → Act → World → Prop} (hgd : o.guard = none) (s x : Operand)
    (ho : o.op = .call { callee := .builtin .append, args := #[s, x], argTypes := #[24, 24] }) (base : Nat) (n m : Nat) (xs ys : List Value) (v : Value) (a' : Option Addr) (c' : Nat) (hX : n + m ≤ 1353245080330)
    (hs : a.eval s = v) (hown : w.ownsRow base 26 7 v n xs) (hx : a.eval x = .slice a' m c') (HM : Rd w a' m 7 ys) (hbase : base ≤ w.heap.size) (W0 : World) (hU0 : Upd [] W0 w) (hb0 : W0.heap.size ≤ base)
    (h : ∀ v' w', w'.ownsRow base 26 7 v' (n + m) (xs ++ ys) → Upd [] W0 w' → wpList Tryz.prog ops Q rest (a.put o.dst v') w') :
    wpList Tryz.prog ops Q (o :: rest) a w := by
  obtain ⟨i0, hi, hz0, hz1, hz2⟩ := info_parts info_termP
  refine wpList_plain hgd fun K hK => ?_
  rcases a' with _ | ad
  · have hm0 := HM.nil rfl
    subst hm0
    have hy : ys = [] := List.eq_nil_of_length_eq_zero (by simp [HM.len])
    subst hy
    have key : (Builtin.append_ #[24, 24] o.type #[v, .slice none 0 c']).run Tryz.prog w = .ok v w := by
      obtain ⟨_, ⟨rfl, _⟩ | ⟨g, cap, cur, rfl, _, hh, hc1, hc2, hc3, _⟩⟩ := hown
      · simp [Builtin.append_, run_underlying Tryz.underlying24, sizeOf, typeInfo, hi, Builtin.lenOf, Builtin.firstCells]
      · have hr := run_append_room_src (P := Tryz.prog) w 24 24 o.type 26 i0 Tryz.underlying24 hi g 0 n cap (.slice none 0 c') 0 [] (Src.ofNil w Tryz.underlying24 c') (by omega) (fun j hj => by simp at hj) (fun j hj => by simp at hj)
        have e0 : w.setCells g (0 + n * i0.size) [] = w := rfl
        rw [e0] at hr
        exact hr
    unfold Oper.wp execOp
    simp only [ho, resolve, invoke, builtin, Sem.run_bind, Sem.run_pure, Result.andThen_ok, List.map_toArray, List.map_cons, List.map_nil, hs, hx, key]
    refine hK _ _ ?_
    exact h _ w (by rw [List.append_nil]; exact hown) hU0
  · obtain ⟨v', w', hr, hown', hgr, hnil⟩ := run_append_own (P := Tryz.prog) w base 24 o.type 26 i0 _ 7 104 Tryz.underlying24 hi hz0 hz1 hz2 rfl (by decide) _ n _ hown ad m c' ys HM.len (HM.get ad rfl) HM.one (by unfold maxLen; omega) (by omega) hbase
    unfold Oper.wp execOp
    simp only [ho, resolve, invoke, builtin, Sem.run_bind, Sem.run_pure, Result.andThen_ok, List.map_toArray, List.map_cons, List.map_nil, hs, hx, hr]
    refine hK _ _ ?_
    refine h v' w' hown' (hU0.grown hgr (fun k hk => Or.inl ?_))
    have := (World.ownsRow.lt hown k hk).1
    omega

set_option maxHeartbeats 4000000 in
set_option maxRecDepth 100000 in
theorem Concat_any (b o m c : Nat) (l : List RowV) (w : World) (hm : m = l.length) (h : RowsAt w b o l) (hl : l.length ≤ 1000) (hn : sumN l ≤ 1000000000) :
    Calls Tryz.prog 90 #[.slice (some ⟨b, o, none⟩) m c] w fun e w' => ∃ v, e = .returned v ∧ Own w' w.heap.size 26 7 (sumN l) v (catX l) ∧ Upd [] w w' := by
  subst hm
  have HR : Hid (RowsAt w b o l) := h
  have HG : Hid _ := Grow_nil (sumN l) w (by omega)
  have HN : Hid (sumN l ≤ 1000000000) := hn
  clear h hn
  go_enter Tryz.func90, Tryz.ntmps90
  go_wp2
  go_loop [3, 11] (fun z i => ∃ k : Nat, k ≤ l.length ∧ i = .int .i64 k ∧ z = .int .i64 (sumN (l.take k) : Nat)) (fun _ i => l.length - (intOf i).toNat)
  case atStart => exact ⟨0, Nat.zero_le _, rfl, rfl⟩
  case round =>
    obtain ⟨k, hk, rfl, rfl⟩ := hrel
    by_cases hlt : k < l.length
    · have i1 : (k : Int) < (l.length : Int) := by omega
      have x0 : w.cell? ⟨b, o + k, none⟩ = some (.slice l[k].a l[k].n l[k].c) := HR.out.cell k hlt
      have HS : Hid _ := sumN_take l k hlt
      have HL : Hid _ := sumN_le l (k + 1)
      obtain ⟨z, hz⟩ : ∃ z, z = sumN (l.take k) := ⟨_, rfl⟩
      obtain ⟨y, hy⟩ : ∃ y, y = l[k].n := ⟨_, rfl⟩
      have hzy : z + y ≤ 1000000000 := by have h1 := HS.out; have h2 := HL.out; have h3 := HN.out; omega
      rw [← hz] at HS ⊢
      rw [← hy] at HS x0
      clear hz hy
      have hw : wrap64 ((z : Int) + (y : Int)) = ((z + y : Nat) : Int) := by unfold wrap64; omega
      go_wp2
      go_round
      case rel => exact ⟨k + 1, by omega, by go_num, by rw [HS.out]; simp⟩
      case measure => simp [intOf]; omega
    · have hd : decide ((k : Int) < (l.length : Int)) = false := by simp; omega
      have he : l.take k = l := List.take_of_length_le (by omega)
      rw [he]
      clear he
      go_wp2_with fail
      refine Calls.mono HG.out ?_
      rintro e w1 ⟨v, rfl, hO, hU1⟩
      have HO : Hid (w1.ownsRow w.heap.size 26 7 v 0 []) := hO
      have HU1 : Hid (Upd [] w w1) := hU1
      clear hO hU1 hd hk
      go_wp2
      go_loopw [6, 27] (fun v i wr => ∃ k : Nat, k ≤ l.length ∧ i = .int .i64 k ∧ wr.ownsRow w.heap.size 26 7 v (sumN (l.take k)) (catX (l.take k)) ∧ Upd [] w wr) (fun _ i _ => l.length - (intOf i).toNat)
      case atStart => exact ⟨0, Nat.zero_le _, rfl, HO.out, HU1.out⟩
      case round =>
        obtain ⟨k, hk, rfl, hO, hU⟩ := hrel
        by_cases hlt : k < l.length
        · have i1 : (k : Int) < (l.length : Int) := by omega
          have hR2 := HR.out.mono hU
          have x0 : wr.cell? ⟨b, o + k, none⟩ = some (.slice l[k].a l[k].n l[k].c) := hR2.cell k hlt
          have hS := sumN_take l k hlt
          have hL := sumN_le l (k + 1)
          have hb : sumN (l.take k) + l[k].n ≤ 1353245080330 := by have := HN.out; omega
          have hrd := hR2.rd k hlt
          have hsz := hU.size
          have HS : Hid _ := hS
          clear hS hL hR2
          go_wp2_with (at_builtin; refine append_T _ rfl _ _ rfl w.heap.size _ _ _ _ _ _ _ hb rfl hO rfl hrd hsz w hU (Nat.le_refl _) ?_; intro v' w3 hO3 hU3)
          go_roundw
          case rel => exact ⟨k + 1, by omega, by go_num, by rw [HS.out, catX_take l k hlt]; exact hO3, hU3⟩
          case measure => simp [intOf]; omega
        · have hd : decide ((k : Int) < (l.length : Int)) = false := by simp; omega
          have he : l.take k = l := List.take_of_length_le (by omega)
          rw [he] at hO
          have HO3 : Hid _ := hO
          have HU3 : Hid _ := hU
          clear hO hU he
          go_wp2
          go_ret
          exact ⟨_, rfl, ⟨HO3.out, own_form HO3.out⟩, HU3.out⟩

end Go.Proofs.YtnpocmhaoaigfaaGreatDoor

/- What holds while rows are gone through: the trees stay, whichever row is put for a clone of it. -/
namespace Go.Proofs.YtnpocmhaoaigfaaGreatDoor
open Go.RowKit

theorem Ty.upd {base : Nat × Nat} {S : List Nat} {w w' : World} (hu : Upd S w w') (hS : ∀ x ∈ S, base.1 ≤ x ∧ ∃ cur T fr, w.heap[x]? = some (.cells cur T fr) ∧ T ≠ 26 ∧ T ≠ 61) : (∀ b, Ty base w b → b ∉ S) ∧ ∀ b, Ty base w b → b < w.heap.size → Ty base w' b := by
  have h1 : ∀ b, Ty base w b → b ∉ S := by
    intro b h hm
    obtain ⟨hb, cur, T, fr, hh, h1, h2⟩ := hS b hm
    rcases h with h | ⟨_, cur', fr', T', hh', h | h⟩
    · omega
    · rw [hh] at hh'; simp at hh'; exact h1 (hh'.2.1.trans h)
    · rw [hh] at hh'; simp at hh'; exact h2 (hh'.2.1.trans h)
  refine ⟨h1, fun b h hlt => ?_⟩
  have hn := h1 b h
  rcases h with h | ⟨hlo, cur', fr', T', hh', h⟩
  · exact Or.inl h
  · exact Or.inr ⟨hlo, cur', fr', T', (hu.block b hlt hn).trans hh', h⟩
/-- Trees in rows of terms and of limbs. -/
def InT (base : Nat × Nat) (w : World) (d : Nat) (cs : List Value) (t : Tm) : Prop := InB (Ty base w) w d cs t
def RowT (base : Nat × Nat) (w : World) (d : Nat) (a : Option Addr) (I : List Tm) : Prop := RowB (Ty base w) (InB (Ty base w) w d) w a I
theorem RowT.in {base : Nat × Nat} {w : World} {d : Nat} {a : Option Addr} {I : List Tm} (h : RowT base w d a I) : InT base w (d + 1) [.int .u8 0, .bool false, .slice none 0 0, .string ⟨#[]⟩, .int .i64 0, .slice a I.length 0, .slice none 0 0] (.mk 0 0 false [] ⟨#[]⟩ I []) :=
  ⟨none, a, none, 0, 0, 0, rfl, Or.inl rfl, Dig.nil, h, Or.inl rfl⟩
theorem RowT.of {base : Nat × Nat} {w : World} {d : Nat} {a : Option Addr} {I : List Tm} (h : InT base w (d + 1) [.int .u8 0, .bool false, .slice none 0 0, .string ⟨#[]⟩, .int .i64 0, .slice a I.length 0, .slice none 0 0] (.mk 0 0 false [] ⟨#[]⟩ I [])) : RowT base w d a I := by
  obtain ⟨_, _, _, _, _, _, e, _, _, h2, _⟩ := h
  simp only [List.cons.injEq, Value.slice.injEq] at e
  rw [← e.2.2.2.2.2.1.1] at h2
  exact h2
/-- A step that keeps trees and rows. -/
structure Keep (base : Nat × Nat) (w w' : World) : Prop where
  tree : ∀ d cs t, InT base w d cs t → InT base w' d cs t
  row : ∀ (g : Nat) (cur : Array Value), w.heap[g]? = some (.cells cur 26 (0, 0)) → ∃ cur' : Array Value, w'.heap[g]? = some (.cells cur' 26 (0, 0)) ∧ cur'.size = cur.size
theorem Keep.trans {base : Nat × Nat} {a b c : World} (h : Keep base a b) (k : Keep base b c) : Keep base a c :=
  ⟨fun d cs t ht => k.tree d cs t (h.tree d cs t ht), fun g cur hg => by
    obtain ⟨cur', h1, h2⟩ := h.row g cur hg
    obtain ⟨cur2, h3, h4⟩ := k.row g cur' h1
    exact ⟨cur2, h3, h4.trans h2⟩⟩
theorem Keep.rowT {base : Nat × Nat} {w w' : World} (h : Keep base w w') {d : Nat} {a : Option Addr} {I : List Tm} (hr : RowT base w d a I) : RowT base w' d a I := RowT.of (h.tree _ _ _ hr.in)
theorem Keep.upd {base : Nat × Nat} {S : List Nat} {w w' : World} (hu : Upd S w w') (hS : ∀ x ∈ S, base.1 ≤ x ∧ ∃ cur T fr, w.heap[x]? = some (.cells cur T fr) ∧ T ≠ 26 ∧ T ≠ 61) : Keep base w w' := by
  obtain ⟨h1, h2⟩ := Ty.upd hu hS
  refine ⟨fun d cs t h => InB.upd hu h1 h2 d cs t h, fun g cur hg => ⟨cur, (hu.block g (lt_of_block hg) (fun hm => ?_)).trans hg, rfl⟩⟩
  obtain ⟨_, cur', T, fr, hh, h3, _⟩ := hS g hm
  rw [hh] at hg
  simp at hg
  exact h3 hg.2.1

theorem cell_other {w : World} {a b : Addr} {v : Value} (h : a ≠ b) : (w.setCell a v).cell? b = w.cell? b := World.cell?_setCell_other _ _ _ _ h
theorem cell_same {w : World} {a : Addr} {v u : Value} (h : w.cell? a = some u) : (w.setCell a v).cell? a = some v := World.cell?_setCell_same _ _ _ h
theorem Ty.set {base : Nat × Nat} {w : World} {g i : Nat} {v : Value} {cur : Array Value} (hg : w.heap[g]? = some (.cells cur 26 (0, 0))) (b : Nat) (h : Ty base w b) : Ty base (w.setCell ⟨g, i, none⟩ v) b := by
  rcases h with h | ⟨hlo, cur', fr, T, hh, h⟩
  · exact Or.inl h
  · by_cases hb : b = g
    · subst hb
      exact Or.inr ⟨hlo, _, _, _, heap_setCell_same w b i _ _ _ hg, Or.inl rfl⟩
    · exact Or.inr ⟨hlo, cur', fr, T, (heap_setCell_other _ _ _ _ (fun e => hb e)).trans hh, h⟩
/-- A row's field is turned to another row of the same cells. -/
theorem Keep.swap {base : Nat × Nat} {w : World} {g i : Nat} {a a' : Option Addr} {n c c' : Nat} {cur : Array Value} (hg : w.heap[g]? = some (.cells cur 26 (0, 0))) (hp : w.cell? ⟨g, i, none⟩ = some (.slice a n c))
    (hlimb : ∀ L : List Nat, L.length = n → L ≠ [] → AtB (Ty base w) w a L → ∃ b', a' = some ⟨b', 0, none⟩ ∧ Ty base w b' ∧ b' < w.heap.size ∧ b' ≠ g ∧ ∀ j, j < L.length → w.cell? ⟨b', j, none⟩ = some (.int .u32 (L.getD j 0 : Nat)))
    (hrow : ∀ (I : List Tm), I.length = n → I ≠ [] → ∀ d, RowT base w d a I → ∃ b o b', a = some ⟨b, o, none⟩ ∧ a' = some ⟨b', 0, none⟩ ∧ Ty base w b' ∧ b' < w.heap.size ∧ b' ≠ g ∧ ∀ j, j < n * 7 → w.cell? ⟨b', j, none⟩ = w.cell? ⟨b, o + j, none⟩) :
    Keep base w (w.setCell ⟨g, i, none⟩ (.slice a' n c')) := by
  have hsz : (w.setCell ⟨g, i, none⟩ (.slice a' n c')).heap.size = w.heap.size := by simp
  refine ⟨fun d cs t h => ?_, fun g2 cur2 h2 => ?_⟩
  · refine InB.swap (p := ⟨g, i, none⟩) (a := a) (a' := a') (n := n) (c := c) (c' := c') (fun q hq _ => cell_other (fun e => hq e.symm)) (by rw [hsz]; exact Nat.le_refl _) (fun b hb _ => Ty.set hg b hb) hp (cell_same hp) ?_ ?_ d cs t h
    · intro L hL hA
      by_cases h0 : L = []
      · exact Or.inl h0
      obtain ⟨b', rfl, h1, h2, h3, h4⟩ := hlimb L hL h0 hA
      refine Or.inr ⟨b', 0, rfl, Ty.set hg b' h1, by rw [hsz]; exact h2, fun j hj => ?_⟩
      rw [Nat.zero_add, cell_other (fun e => h3 (by have := congrArg Addr.block e; exact this.symm))]
      exact h4 j hj
    · intro I hI h0 d2 hr
      obtain ⟨b, o, b', rfl, rfl, h1, h2, h3, h4⟩ := hrow I hI h0 d2 hr
      refine ⟨b, o, b', 0, rfl, rfl, Ty.set hg b' h1, by rw [hsz]; exact h2, fun j hj => ?_⟩
      rw [Nat.zero_add, cell_other (fun e => h3 (by have := congrArg Addr.block e; exact this.symm))]
      exact h4 j hj
  · by_cases hb : g2 = g
    · subst hb
      rw [hg] at h2
      simp at h2
      subst h2
      exact ⟨_, heap_setCell_same w g2 i _ _ _ hg, by simp⟩
    · exact ⟨cur2, (heap_setCell_other _ _ _ _ (fun e => hb e)).trans h2, rfl⟩

/-- Limbs and terms lie in no common row. -/
theorem limb_row {base : Nat × Nat} {w : World} {a : Option Addr} {L : List Nat} {I : List Tm} {d : Nat} (hL : L ≠ []) (hI : I ≠ []) (h : AtB (Ty base w) w a L) (hr : RowT base w d a I) : False := by
  rcases h with h | ⟨b, o, rfl, _, _, hc⟩
  · exact hL h
  rcases hr with hr | ⟨b2, o2, e, _, _, hc2⟩
  · exact hI hr
  simp only [Option.some.injEq, Addr.mk.injEq] at e
  obtain ⟨rfl, rfl, _⟩ := e
  have h1 := hc 0 (by cases L with | nil => exact absurd rfl hL | cons x t => simp)
  obtain ⟨cs, k1, k2, k3⟩ := hc2 0 (by cases I with | nil => exact absurd rfl hI | cons x t => simp)
  have h2 := k2 0 (by omega)
  have k4 := (InB.plain _ _ _ k3).kd
  rw [k4] at h2
  rw [Nat.add_zero] at h1
  rw [Nat.zero_mul, Nat.zero_add, Nat.add_zero, h1] at h2
  simp at h2
theorem own_ty {w : World} {base : Nat × Nat} {bs : Nat} {T : TypeId} {sz n : Nat} {v : Value} {xs : List Value} (h : w.ownsRow bs T sz v n xs) (hT : T = 26 ∨ T = 61) (hn : 0 < n) (hlo : base.2 ≤ bs) : ∃ g c, v = .slice (some ⟨g, 0, none⟩) n c ∧ bs ≤ g ∧ Ty base w g ∧ g < w.heap.size ∧ ∀ j, j < n * sz → w.cell? ⟨g, j, none⟩ = xs[j]? := by
  have h' := h
  obtain ⟨_, ⟨_, h0⟩ | ⟨g, cap, cur, rfl, hb, hh, _⟩⟩ := h
  · omega
  · exact ⟨g, cap, rfl, hb, Or.inr ⟨by omega, cur, (0, 0), T, hh, hT⟩, lt_of_block hh, fun j hj => World.ownsRow.cellAt h' j hj⟩

/-- A term's limbs are turned to a clone of them. -/
theorem Keep.limbs {base : Nat × Nat} {bs : Nat} {w : World} {g i : Nat} {a a' : Option Addr} {L : List Nat} {c c' : Nat} {cur : Array Value} (hg : w.heap[g]? = some (.cells cur 26 (0, 0))) (hp : w.cell? ⟨g, i, none⟩ = some (.slice a L.length c)) (hA : AtB (Ty base w) w a L)
    (ho : w.ownsRow bs 61 1 (.slice a' L.length c') L.length (L.map fun n => Value.int .u32 (n : Nat))) (hgb : g < bs) (hlo : base.2 ≤ bs) : Keep base w (w.setCell ⟨g, i, none⟩ (.slice a' L.length c')) := by
  refine Keep.swap hg hp (fun M hM h0 hA2 => ?_) (fun I hI h0 d hr => ?_)
  · have hpos : 0 < L.length := by rw [← hM]; cases M with | nil => exact absurd rfl h0 | cons x t => simp
    have hLM : M = L := by
      rcases hA with h | ⟨b, o, rfl, _, _, hc⟩
      · rw [h] at hpos; simp at hpos
      rcases hA2 with h | ⟨b2, o2, e, _, _, hc2⟩
      · exact absurd h h0
      simp only [Option.some.injEq, Addr.mk.injEq] at e
      obtain ⟨rfl, rfl, _⟩ := e
      refine List.ext_getElem hM fun j h1 h2 => ?_
      have q1 := hc j h2
      have q2 := hc2 j h1
      rw [q1] at q2
      simp [List.getD, h1, h2] at q2
      omega
    subst hLM
    obtain ⟨g', c2, e, hb, hty, hlt, hc⟩ := own_ty (base := base) ho (Or.inr rfl) hpos hlo
    cases e
    refine ⟨g', rfl, hty, hlt, by omega, fun j hj => ?_⟩
    rw [hc j (by omega)]
    simp [List.getD, hj]
  · exact (limb_row (L := L) (fun e => h0 (List.eq_nil_of_length_eq_zero (by rw [hI, e]; rfl))) h0 hA hr).elim
/-- A term's items are turned to a clone of them. -/
theorem Keep.items {base : Nat × Nat} {bs d : Nat} {w : World} {g i : Nat} {a a' : Option Addr} {I : List Tm} {c c' : Nat} {cur : Array Value} {xs : List Value} (hg : w.heap[g]? = some (.cells cur 26 (0, 0))) (hp : w.cell? ⟨g, i, none⟩ = some (.slice a I.length c)) (hR : RowT base w d a I)
    (hx : Rd w a I.length 7 xs) (ho : w.ownsRow bs 26 7 (.slice a' I.length c') I.length xs) (hgb : g < bs) (hlo : base.2 ≤ bs) : Keep base w (w.setCell ⟨g, i, none⟩ (.slice a' I.length c')) := by
  refine Keep.swap hg hp (fun M hM h0 hA2 => ?_) (fun I2 hI h0 d2 hr => ?_)
  · exact (limb_row h0 (fun e => h0 (List.eq_nil_of_length_eq_zero (by rw [hM, e]; rfl))) hA2 hR).elim
  · have hpos : 0 < I.length := by rw [← hI]; cases I2 with | nil => exact absurd rfl h0 | cons x t => simp
    obtain ⟨g', c2, e, hb, hty, hlt, hc⟩ := own_ty (base := base) ho (Or.inl rfl) hpos hlo
    cases e
    rcases hr with h | ⟨b, o, rfl, _⟩
    · exact absurd h h0
    refine ⟨b, o, g', rfl, rfl, hty, hlt, by omega, fun j hj => ?_⟩
    have hjx : j < xs.length := by rw [hx.len]; exact hj
    rw [hc j hj, List.getElem?_eq_getElem hjx]
    have := hx.get _ rfl j _ (List.getElem?_eq_getElem hjx)
    rw [Addr.add_lit] at this
    exact this.symm

/-- The cells of a row of trees. -/
theorem RowAt.rd {w : World} {d : Nat} {a : Option Addr} {I : List Tm} (h : RowAt (In w d) w a I) : ∃ xs, Rd w a I.length 7 xs ∧ ∀ i (hi : i < I.length), ∃ cs : List Value, cs.length = 7 ∧ (∀ j, j < 7 → xs[i * 7 + j]? = cs[j]?) ∧ In w d cs I[i] := by
  by_cases h0 : I = []
  · subst h0
    exact ⟨[], ⟨rfl, fun _ => rfl, fun u hu => by simp at hu, fun ad _ j u hj => by simp at hj⟩, fun i hi => by simp at hi⟩
  rcases h with h | ⟨b, o, rfl, hlt, hc⟩
  · exact absurd h h0
  -- the cells, one behind the other
  have key : ∀ n, n ≤ I.length → ∃ xs : List Value, xs.length = n * 7 ∧ (∀ j u, xs[j]? = some u → w.cell? ⟨b, o + j, none⟩ = some u) ∧ (∀ u ∈ xs, u.oneCell' = true) ∧ ∀ i (hi : i < I.length), i < n → ∃ cs : List Value, cs.length = 7 ∧ (∀ j, j < 7 → xs[i * 7 + j]? = cs[j]?) ∧ In w d cs I[i] := by
    intro n
    induction n with
    | zero => intro _; exact ⟨[], rfl, fun j u hj => by simp at hj, fun u hu => by simp at hu, fun i _ hi => by omega⟩
    | succ n ih =>
      intro hn
      obtain ⟨xs, h1, h2, h3, h4⟩ := ih (by omega)
      obtain ⟨cs, k1, k2, k3⟩ := hc n (by omega)
      refine ⟨xs ++ cs, by rw [List.length_append, h1, k1]; omega, fun j u hj => ?_, fun u hu => ?_, fun i hi hin => ?_⟩
      · by_cases hjx : j < xs.length
        · rw [List.getElem?_append_left hjx] at hj; exact h2 j u hj
        · rw [List.getElem?_append_right (by omega)] at hj
          have hj7 : j - xs.length < 7 := by
            have := (List.getElem?_eq_some_iff.1 hj).1
            omega
          have := k2 (j - xs.length) hj7
          rw [hj] at this
          have e : o + (n * 7 + (j - xs.length)) = o + j := by omega
          rw [e] at this
          exact this
      · rcases List.mem_append.1 hu with hu | hu
        · exact h3 u hu
        · have := k3.one
          simp only [List.all_toArray, List.all_eq_true] at this
          exact this u hu
      · by_cases hi2 : i < n
        · obtain ⟨cs2, m1, m2, m3⟩ := h4 i hi hi2
          exact ⟨cs2, m1, fun j hj => by rw [List.getElem?_append_left (by omega)]; exact m2 j hj, m3⟩
        · have e : i = n := by omega
          subst e
          exact ⟨cs, k1, fun j hj => by rw [List.getElem?_append_right (by omega)]; congr 1; omega, k3⟩
  obtain ⟨xs, h1, h2, h3, h4⟩ := key I.length (Nat.le_refl _)
  refine ⟨xs, ⟨h1, fun e => (by cases e), h3, fun ad e j u hj => ?_⟩, fun i hi => h4 i hi hi⟩
  cases e
  rw [Addr.add_lit]
  exact h2 j u hj

end Go.Proofs.YtnpocmhaoaigfaaGreatDoor

/- fresh: rows copied into new memory, by its contract. -/
namespace Go.Proofs.YtnpocmhaoaigfaaGreatDoor
open Go.RowKit

mutual
/-- How many terms are in a term. -/
def belT : Tm → Nat
  | .mk _ _ _ _ _ I T => I.length + belR I + (T.length + belR T)
def belR : List Tm → Nat
  | [] => 0
  | t :: r => belT t + belR r
end
mutual
def masT : Tm → Nat
  | .mk _ _ _ _ _ I T => 3 + masR I + masR T
def masR : List Tm → Nat
  | [] => 0
  | t :: r => masT t + masR r
end
def belS : List (List Tm) → Nat
  | [] => 0
  | I :: l => belR I + belS l
def masS : List (List Tm) → Nat
  | [] => 0
  | I :: l => 1 + masR I + masS l
theorem belS_snoc (l : List (List Tm)) (I : List Tm) : belS (l ++ [I]) = belS l + belR I := by
  induction l with
  | nil => simp [belS]
  | cons J l ih => simp only [List.cons_append, belS, ih]; omega
theorem masS_snoc (l : List (List Tm)) (I : List Tm) : masS (l ++ [I]) = masS l + (1 + masR I) := by
  induction l with
  | nil => simp [masS]
  | cons J l ih => simp only [List.cons_append, masS, ih]; omega
theorem belR_drop (I : List Tm) (k : Nat) (hk : k < I.length) : belR (I.drop k) = belT I[k] + belR (I.drop (k + 1)) := by
  rw [List.drop_eq_getElem_cons hk, belR]
theorem masR_take (I : List Tm) (k : Nat) (hk : k < I.length) : masR (I.take (k + 1)) = masR (I.take k) + masT I[k] := by
  induction I generalizing k with
  | nil => simp at hk
  | cons t r ih =>
    cases k with
    | zero => simp [masR]
    | succ k => simp only [List.take_succ_cons, masR, List.getElem_cons_succ]; rw [ih k (by simpa using hk), Nat.add_assoc]
mutual
theorem bel_lt : ∀ t : Tm, belT t < szT t
  | .mk k _ _ L _ I T => by
    rw [belT, szT]
    have h1 := bel_le I
    have h2 := bel_le T
    have h3 : 0 < ownZ k L.length I.length := by unfold ownZ; repeat' split
                                                 all_goals omega
    omega
theorem bel_le : ∀ I : List Tm, I.length + belR I ≤ szR I
  | [] => by simp [belR, szR]
  | t :: r => by
    have h1 := bel_lt t
    have h2 := bel_le r
    rw [belR, szR, List.length_cons]
    omega
end

/-- A row that is to be gone through. -/
def TodoOk (base : Nat × Nat) (d : Nat) (wr : World) (y : Value) (I : List Tm) : Prop :=
  tszs I ≤ 1353245080330 ∧ ∃ a c, y = .slice a I.length c ∧ RowT base wr d a I ∧ (I = [] ∨ ∃ g cur, a = some ⟨g, 0, none⟩ ∧ base.2 ≤ g ∧ wr.heap[g]? = some (.cells cur 26 (0, 0)) ∧ I.length * 7 ≤ cur.size)
theorem TodoOk.keep {base : Nat × Nat} {d : Nat} {w w' : World} {y : Value} {I : List Tm} (h : TodoOk base d w y I) (k : Keep base w w') : TodoOk base d w' y I := by
  obtain ⟨hz, a, c, h1, h2, h3⟩ := h
  refine ⟨hz, a, c, h1, k.rowT h2, ?_⟩
  rcases h3 with h3 | ⟨g, cur, e, hb, hh, hs⟩
  · exact Or.inl h3
  · obtain ⟨cur', k1, k2⟩ := k.row g cur hh
    exact Or.inr ⟨g, cur', e, hb, k1, by omega⟩
def TodoAll (base : Nat × Nat) (d : Nat) (wr : World) : List Value → List (List Tm) → Prop
  | [], [] => True
  | y :: ys, I :: Ls => TodoOk base d wr y I ∧ TodoAll base d wr ys Ls
  | _, _ => False
theorem TodoAll.keep {base : Nat × Nat} {d : Nat} {w w' : World} (k : Keep base w w') : ∀ {ys : List Value} {Ls : List (List Tm)}, TodoAll base d w ys Ls → TodoAll base d w' ys Ls
  | [], [], _ => trivial
  | [], _ :: _, h => h
  | _ :: _, [], h => h
  | _ :: _, _ :: _, h => ⟨h.1.keep k, TodoAll.keep k h.2⟩
theorem TodoAll.snoc {base : Nat × Nat} {d : Nat} {w : World} {y : Value} {I : List Tm} (h2 : TodoOk base d w y I) : ∀ {ys : List Value} {Ls : List (List Tm)}, TodoAll base d w ys Ls → TodoAll base d w (ys ++ [y]) (Ls ++ [I])
  | [], [], _ => ⟨h2, trivial⟩
  | [], _ :: _, h => h.elim
  | _ :: _, [], h => h.elim
  | _ :: _, _ :: _, h => ⟨h.1, TodoAll.snoc h2 h.2⟩
theorem TodoAll.len {base : Nat × Nat} {d : Nat} {w : World} : ∀ {ys : List Value} {Ls : List (List Tm)}, TodoAll base d w ys Ls → ys.length = Ls.length
  | [], [], _ => rfl
  | [], _ :: _, h => h.elim
  | _ :: _, [], h => h.elim
  | _ :: _, _ :: _, h => by simp [TodoAll.len h.2]
/-- The last one, and those ahead of it. -/
theorem TodoAll.pop {base : Nat × Nat} {d : Nat} {w : World} : ∀ {ys : List Value} {Ls : List (List Tm)}, TodoAll base d w ys Ls → 0 < ys.length → ∃ ys0 y Ls0 I, ys = ys0 ++ [y] ∧ Ls = Ls0 ++ [I] ∧ TodoAll base d w ys0 Ls0 ∧ TodoOk base d w y I
  | [], _, _, h => by simp at h
  | _ :: _, [], h, _ => h.elim
  | [y], [I], h, _ => ⟨[], y, [], I, rfl, rfl, trivial, h.1⟩
  | [_], _ :: _ :: _, h, _ => h.2.elim
  | _ :: _ :: _, [_], h, _ => h.2.elim
  | y :: y2 :: ys, I :: I2 :: Ls, h, _ => by
    obtain ⟨ys0, y', Ls0, I', e1, e2, h1, h2⟩ := TodoAll.pop h.2 (by simp)
    exact ⟨y :: ys0, y', I :: Ls0, I', by rw [e1]; rfl, by rw [e2]; rfl, ⟨h.1, h1⟩, h2⟩

/-- How things stand while rows are gone through. -/
structure St (B : Nat) (w : World) (d gt gl gc gm : Nat) (ao : Option Addr) (J : List Tm) (tv : Value) (ys : List Value) (Ls : List (List Tm)) (lf : Nat) (wr : World) : Prop where
  upd : Upd [] w wr
  out : RowT (B, w.heap.size) wr d ao J
  box : FunB wr gt tv 98
  own : wr.ownsRow w.heap.size 24 1 tv ys.length ys
  rows : TodoAll (B, w.heap.size) d wr ys Ls
  left : IntB wr gl lf
  fn : FunB wr gc (.func (.func 122) #[] #[.pointer (some ⟨gl, 0, none⟩), .pointer (some ⟨gm, 0, none⟩)]) 99
  gt0 : w.heap.size ≤ gt
  gl0 : w.heap.size ≤ gl
  max : lf ≤ 65536
  few : ys.length + lf ≤ 65537
  low : B ≤ w.heap.size

/-- What inside may turn is neither terms nor limbs. -/
theorem St.turns {B : Nat} {w : World} {d gt gl gc gm : Nat} {ao : Option Addr} {J : List Tm} {tv : Value} {ys : List Value} {Ls : List (List Tm)} {lf : Nat} {wr : World} (h : St B w d gt gl gc gm ao J tv ys Ls lf wr) :
    ∀ x ∈ [gl, gt] ++ tv.ownBlock.toList, B ≤ x ∧ ∃ cur T fr, wr.heap[x]? = some (.cells cur T fr) ∧ T ≠ 26 ∧ T ≠ 61 := by
  intro x hx
  simp only [List.mem_append, List.mem_cons, List.not_mem_nil, or_false, Option.mem_toList] at hx
  rcases hx with (rfl | rfl) | hx
  · exact ⟨Nat.le_trans h.low h.gl0, _, _, _, h.left, by decide, by decide⟩
  · exact ⟨Nat.le_trans h.low h.gt0, _, _, _, h.box, by decide, by decide⟩
  · obtain ⟨_, ⟨rfl, _⟩ | ⟨g, cap, cur, rfl, hb, hh, _⟩⟩ := h.own
    · cases hx
    · have e : g = x := by simpa [Value.ownBlock] using hx
      subst e
      exact ⟨Nat.le_trans h.low hb, _, _, _, hh, by decide, by decide⟩

theorem InB.more {P : Nat → Prop} {w : World} : ∀ (d : Nat) (cs : List Value) (t : Tm), InB P w d cs t → InB P w (d + 1) cs t := by
  intro d
  induction d with
  | zero => intro cs t h; exact h.elim
  | succ d ih =>
    intro cs t h
    cases t with
    | mk k num neg L s I T =>
      obtain ⟨a, ai, at', c, ci, ct, rfl, h1, h2, h3, h4⟩ := h
      have row : ∀ (a : Option Addr) (I : List Tm), RowB P (InB P w d) w a I → RowB P (InB P w (d + 1)) w a I := by
        intro a I h
        rcases h with h | ⟨b, o, e, hb, hlt, hc⟩
        · exact Or.inl h
        · refine Or.inr ⟨b, o, e, hb, hlt, fun i hi => ?_⟩
          obtain ⟨cs, k1, k2, k3⟩ := hc i hi
          exact ⟨cs, k1, k2, ih _ _ k3⟩
      exact ⟨a, ai, at', c, ci, ct, rfl, h1, h2, row _ _ h3, row _ _ h4⟩
theorem RowT.more {base : Nat × Nat} {w : World} {d : Nat} {a : Option Addr} {I : List Tm} (h : RowT base w d a I) : RowT base w (d + 1) a I := by
  rcases h with h | ⟨b, o, e, hb, hlt, hc⟩
  · exact Or.inl h
  · refine Or.inr ⟨b, o, e, hb, hlt, fun i hi => ?_⟩
    obtain ⟨cs, k1, k2, k3⟩ := hc i hi
    exact ⟨cs, k1, k2, InB.more _ _ _ k3⟩
theorem RowT.plain {base : Nat × Nat} {w : World} {d : Nat} {a : Option Addr} {I : List Tm} (h : RowT base w d a I) : RowAt (In w d) w a I := by
  rcases h with h | ⟨b, o, e, _, hlt, hc⟩
  · exact Or.inl h
  · refine Or.inr ⟨b, o, e, hlt, fun i hi => ?_⟩
    obtain ⟨cs, k1, k2, k3⟩ := hc i hi
    exact ⟨cs, k1, k2, InB.plain _ _ _ k3⟩

/-- A term in a row that is to be gone through. -/
theorem TodoOk.open {base : Nat × Nat} {d k : Nat} {wr : World} {y : Value} {I : List Tm} (h : TodoOk base d wr y I) (hk : k < I.length) {kd num : Int} {neg : Bool} {L : List Nat} {s : ByteArray} {I' T' : List Tm} (ht : I[k] = .mk kd num neg L s I' T') :
    ∃ g c cur al ai at' cl ci ct, y = .slice (some ⟨g, 0, none⟩) I.length c ∧ base.2 ≤ g ∧ wr.heap[g]? = some (.cells cur 26 (0, 0)) ∧ k * 7 + 6 < cur.size ∧ wr.cell? ⟨g, k * 7 + 2, none⟩ = some (.slice al L.length cl) ∧ wr.cell? ⟨g, k * 7 + 5, none⟩ = some (.slice ai I'.length ci) ∧ wr.cell? ⟨g, k * 7 + 6, none⟩ = some (.slice at' T'.length ct) ∧
      AtB (Ty base wr) wr al L ∧ RowT base wr d ai I' ∧ RowT base wr d at' T' := by
  obtain ⟨_, a, c, rfl, hR, h0 | ⟨g, cur, rfl, hb, hh, hs⟩⟩ := h
  · rw [h0] at hk; simp at hk
  rcases hR with h0 | ⟨b, o, e, hty, hlt, hc⟩
  · rw [h0] at hk; simp at hk
  simp only [Option.some.injEq, Addr.mk.injEq] at e
  obtain ⟨rfl, rfl, _⟩ := e
  obtain ⟨cs, k1, k2, k3⟩ := hc k hk
  rw [ht] at k3
  cases d with
  | zero => exact k3.elim
  | succ d =>
    obtain ⟨al, ai, at', cl, ci, ct, rfl, h1, h2, h3, h4⟩ := k3
    have c2 := k2 2 (by omega)
    have c5 := k2 5 (by omega)
    have c6 := k2 6 (by omega)
    rw [Nat.zero_add] at c2 c5 c6
    exact ⟨g, c, cur, al, ai, at', cl, ci, ct, rfl, hb, hh, by omega, c2, c5, c6, h1, RowT.more h3, RowT.more h4⟩

theorem St.turns0 {B : Nat} {w : World} {d gt gl gc gm : Nat} {ao : Option Addr} {J : List Tm} {tv : Value} {ys : List Value} {Ls : List (List Tm)} {lf : Nat} {wr : World} (h : St B w d gt gl gc gm ao J tv ys Ls lf wr) : ∀ x ∈ [gl, gt] ++ tv.ownBlock.toList, w.heap.size ≤ x := by
  intro x hx
  simp only [List.mem_append, List.mem_cons, List.not_mem_nil, or_false, Option.mem_toList] at hx
  rcases hx with (rfl | rfl) | hx
  · exact h.gl0
  · exact h.gt0
  · exact (World.ownsRow.lt h.own x hx).1
theorem St.grow {B : Nat} {w : World} {d gt gl gc gm : Nat} {ao : Option Addr} {J : List Tm} {tv : Value} {ys : List Value} {Ls : List (List Tm)} {lf : Nat} {wr w2 : World} (h : St B w d gt gl gc gm ao J tv ys Ls lf wr) (hu : Upd [] wr w2) : St B w d gt gl gc gm ao J tv ys Ls lf w2 := by
  have k : Keep (B, w.heap.size) wr w2 := Keep.upd hu (by simp)
  exact ⟨h.upd.trans hu, k.rowT h.out, h.box.mono hu (by simp), own_upd h.own hu (by simp), h.rows.keep k, h.left.mono hu (by simp), h.fn.mono hu (by simp), h.gt0, h.gl0, h.max, h.few, h.low⟩
theorem St.set {B : Nat} {w : World} {d gt gl gc gm : Nat} {ao : Option Addr} {J : List Tm} {tv : Value} {ys : List Value} {Ls : List (List Tm)} {lf g i : Nat} {u : Value} {cur : Array Value} {wr : World} (h : St B w d gt gl gc gm ao J tv ys Ls lf wr) (hg : wr.heap[g]? = some (.cells cur 26 (0, 0))) (hb : w.heap.size ≤ g)
    (k : Keep (B, w.heap.size) wr (wr.setCell ⟨g, i, none⟩ u)) : St B w d gt gl gc gm ao J tv ys Ls lf (wr.setCell ⟨g, i, none⟩ u) := by
  have hu : Upd [g] wr (wr.setCell ⟨g, i, none⟩ u) := (Upd.refl [g] wr).setCell (Or.inr (by simp)) u
  have ne : ∀ {b : Nat} {v : Value} {T : TypeId}, FunB wr b v T → T ≠ 26 → b ∉ [g] := fun {b v T} hB hT hm => by
    simp at hm
    subst hm
    have := hg.symm.trans hB
    simp at this
    exact hT this.2.symm
  refine ⟨h.upd.setCell (Or.inl hb) u, k.rowT h.out, h.box.mono hu (ne h.box (by decide)), own_upd h.own hu (fun x hx hm => ?_), h.rows.keep k, h.left.mono hu (ne h.left.fun (by decide)), h.fn.mono hu (ne h.fn (by decide)), h.gt0, h.gl0, h.max, h.few, h.low⟩
  simp at hm
  subst hm
  obtain ⟨_, ⟨rfl, _⟩ | ⟨g2, cap, cur2, rfl, _, hh, _⟩⟩ := h.own
  · cases hx
  · have e : g2 = x := by simpa [Value.ownBlock] using hx
    subst e
    have := hg.symm.trans hh
    simp at this

/-- A clone of a row stands for what the row stands for. -/
theorem own_todo {base : Nat × Nat} {bs d : Nat} {w w2 : World} {a : Option Addr} {I : List Tm} {v : Value} {xs : List Value} (hR : RowT base w d a I) (hx : Rd w a I.length 7 xs) (k : Keep base w w2) (ho : w2.ownsRow bs 26 7 v I.length xs) (hb : base.2 ≤ bs) (hz : tszs I ≤ 1353245080330) : TodoOk base d w2 v I := by
  by_cases h0 : I = []
  · subst h0
    obtain ⟨a', c', rfl⟩ := own_form ho
    exact ⟨hz, a', c', rfl, Or.inl rfl, Or.inl rfl⟩
  · have hpos : 0 < I.length := by cases I with | nil => exact absurd rfl h0 | cons x t => simp
    obtain ⟨_, ⟨_, h1⟩ | ⟨g, cap, cur, rfl, hbg, hh, hc1, _, hcs, _⟩⟩ := id ho
    · omega
    · refine ⟨hz, _, _, rfl, ?_, Or.inr ⟨g, cur, rfl, by omega, hh, by rw [hcs]; exact Nat.mul_le_mul_right 7 hc1⟩⟩
      rcases hR with h | ⟨b, o, rfl, hty, hlt, hc⟩
      · exact absurd h h0
      refine Or.inr ⟨g, 0, rfl, Or.inr ⟨by omega, cur, _, _, hh, Or.inl rfl⟩, lt_of_block hh, fun i hi => ?_⟩
      obtain ⟨cs, k1, k2, k3⟩ := hc i hi
      refine ⟨cs, k1, fun j hj => ?_, k.tree _ _ _ k3⟩
      have hjx : i * 7 + j < xs.length := by rw [hx.len]; omega
      rw [Nat.zero_add, World.ownsRow.cellAt ho (i * 7 + j) (by omega), ← k2 j hj, List.getElem?_eq_getElem hjx]
      have := hx.get _ rfl (i * 7 + j) _ (List.getElem?_eq_getElem hjx)
      rw [Addr.add_lit] at this
      exact this.symm

/-- What inside leaves. -/
theorem St.ins {B : Nat} {w : World} {d gt gl gc gm : Nat} {ao : Option Addr} {J : List Tm} {tv : Value} {ys : List Value} {Ls : List (List Tm)} {lf : Nat} {wr w2 : World} {a : Option Addr} {I : List Tm} {xs : List Value} {e : Ending} (h : St B w d gt gl gc gm ao J tv ys Ls lf wr)
    (hR : RowT (B, w.heap.size) wr d a I) (hx : Rd wr a I.length 7 xs) (hlf : I.length ≤ lf) (hz : tszs I ≤ 1353245080330) (hi : InsP wr gl gt lf w.heap.size I.length xs ys tv e w2) :
    ∃ (v tv' : Value) (ys' : List Value) (Ls' : List (List Tm)) (a' : Option Addr) (c' : Nat), e = .returned v ∧ v = .slice a' I.length c' ∧ w2.ownsRow wr.heap.size 26 7 v I.length xs ∧ St B w d gt gl gc gm ao J tv' ys' Ls' (lf - I.length) w2 ∧ Keep (B, w.heap.size) wr w2 ∧ (ys', Ls') = (if 0 < I.length then (ys ++ [v], Ls ++ [I]) else (ys, Ls)) := by
  obtain ⟨v, tv', rfl, ⟨ho, a', c', hv⟩, hl, hb, hy, hu⟩ := hi
  have k := Keep.upd (base := (B, w.heap.size)) hu h.turns
  have hbs := h.upd.size
  have ht := own_todo hR hx k ho hbs hz
  have hfn : FunB w2 gc _ _ := h.fn.mono hu (fun hm => by
    simp only [List.mem_append, List.mem_cons, List.not_mem_nil, or_false, Option.mem_toList] at hm
    rcases hm with (rfl | rfl) | hm
    · exact (h.fn.ne h.left.fun (by decide)) rfl
    · exact (h.fn.ne h.box (by decide)) rfl
    · exact own_ne h.own h.fn (by decide) hm)
  have hlen := h.rows.len
  have hfew := h.few
  have hmax := h.max
  have hupd : Upd [] w w2 := h.upd.then hu (fun x hx => Or.inl (h.turns0 x hx))
  by_cases h0 : 0 < I.length
  · rw [if_pos h0] at hy
    refine ⟨v, tv', ys ++ [v], Ls ++ [I], a', c', rfl, hv, ho, ⟨hupd, k.rowT h.out, hb, hy, (h.rows.keep k).snoc ht, hl, hfn, h.gt0, h.gl0, by omega, by simp; omega, h.low⟩, k, by rw [if_pos h0]⟩
  · rw [if_neg h0] at hy
    refine ⟨v, tv', ys, Ls, a', c', rfl, hv, ho, ⟨hupd, k.rowT h.out, hb, hy, h.rows.keep k, hl, hfn, h.gt0, h.gl0, by omega, by omega, h.low⟩, k, by rw [if_neg h0]⟩

theorem AtB.rd {P : Nat → Prop} {w : World} {a : Option Addr} {L : List Nat} (h : AtB P w a L) : Rd w a L.length 1 (L.map fun n => Value.int .u32 (n : Nat)) := by
  refine ⟨by simp, fun e => ?_, fun u hu => by obtain ⟨_, _, rfl⟩ := List.mem_map.1 hu; rfl, fun ad e j u hj => ?_⟩
  · rcases h with h | ⟨b, o, e2, _⟩
    · rw [h]; rfl
    · rw [e] at e2; cases e2
  · have hjl : j < L.length := by have := (List.getElem?_eq_some_iff.1 hj).1; simpa using this
    rcases h with h | ⟨b, o, rfl, _, _, hc⟩
    · rw [h] at hjl; simp at hjl
    · cases e
      rw [Addr.add_lit, hc j hjl]
      simp [hjl] at hj
      simp [List.getD, hjl, hj]
theorem RowT.rd {base : Nat × Nat} {w : World} {d : Nat} {a : Option Addr} {I : List Tm} (h : RowT base w d a I) : ∃ xs, Rd w a I.length 7 xs := by
  obtain ⟨xs, hx, _⟩ := RowAt.rd h.plain
  exact ⟨xs, hx⟩
/-- A row of terms lies in no box. -/
theorem RowT.far {base : Nat × Nat} {w : World} {d : Nat} {a : Option Addr} {I : List Tm} (h : RowT base w d a I) {g : Nat} {v : Value} {T : TypeId} (hg : FunB w g v T) (hb : base.1 ≤ g) (hT : T ≠ 26) (hT2 : T ≠ 61) : ∀ ad, a = some ad → I.length ≠ 0 → ad.block ≠ g := by
  intro ad e h0 hne
  rcases h with h | ⟨b, o, rfl, hty, _, _⟩
  · rw [h] at h0; exact h0 rfl
  · cases e
    simp only at hne
    subst hne
    rcases hty with h | ⟨_, cur, fr, T', hh, h | h⟩
    · omega
    · rw [hg] at hh; simp at hh; exact hT (hh.2.1.trans h)
    · rw [hg] at hh; simp at hh; exact hT2 (hh.2.1.trans h)

/-- Limbs cloned and put in place. -/
theorem St.limbs {B : Nat} {w : World} {d gt gl gc gm : Nat} {ao : Option Addr} {J : List Tm} {tv : Value} {ys : List Value} {Ls : List (List Tm)} {lf g i : Nat} {a a' : Option Addr} {c c' : Nat} {L : List Nat} {cur : Array Value} {wr w2 : World} {y : Value} {I : List Tm} (h : St B w d gt gl gc gm ao J tv ys Ls lf wr) (hy : TodoOk (B, w.heap.size) d wr y I)
    (hg : wr.heap[g]? = some (.cells cur 26 (0, 0))) (hb : w.heap.size ≤ g) (hp : wr.cell? ⟨g, i, none⟩ = some (.slice a L.length c)) (hA : AtB (Ty (B, w.heap.size) wr) wr a L) (hu : Upd [] wr w2) (ho : w2.ownsRow wr.heap.size 61 1 (.slice a' L.length c') L.length (L.map fun n => Value.int .u32 (n : Nat))) :
    St B w d gt gl gc gm ao J tv ys Ls lf (w2.setCell ⟨g, i, none⟩ (.slice a' L.length c')) ∧ TodoOk (B, w.heap.size) d (w2.setCell ⟨g, i, none⟩ (.slice a' L.length c')) y I := by
  have k1 : Keep (B, w.heap.size) wr w2 := Keep.upd hu (by simp)
  have hlt := lt_of_block hg
  have hg2 := (hu.block g hlt (by simp)).trans hg
  have hp2 := (hu.cell (p := ⟨g, i, none⟩) hlt (by simp)).trans hp
  obtain ⟨t1, t2⟩ := Ty.upd (base := (B, w.heap.size)) hu (by simp)
  have hA2 : AtB (Ty (B, w.heap.size) w2) w2 a L := by
    rcases hA with h | ⟨b, o, e, hty, hlt, hc⟩
    · exact Or.inl h
    · exact Or.inr ⟨b, o, e, t2 b hty hlt, Nat.lt_of_lt_of_le hlt hu.size, fun j hj => (hu.cell (p := ⟨b, o + j, none⟩) hlt (by simp)).trans (hc j hj)⟩
  have k2 := Keep.limbs (c' := c') (a' := a') hg2 hp2 hA2 ho hlt h.upd.size
  exact ⟨(h.grow hu).set hg2 hb k2, (hy.keep k1).keep k2⟩
/-- Items cloned and put in place. -/
theorem St.items {B : Nat} {w : World} {d gt gl gc gm : Nat} {ao : Option Addr} {J : List Tm} {tv : Value} {ys : List Value} {Ls : List (List Tm)} {lf g i : Nat} {a : Option Addr} {c : Nat} {I' : List Tm} {cur : Array Value} {wr w2 : World} {y : Value} {I : List Tm} {xs : List Value} {e : Ending} (h : St B w d gt gl gc gm ao J tv ys Ls lf wr) (hy : TodoOk (B, w.heap.size) d wr y I)
    (hg : wr.heap[g]? = some (.cells cur 26 (0, 0))) (hb : w.heap.size ≤ g) (_hi : i < cur.size) (hp : wr.cell? ⟨g, i, none⟩ = some (.slice a I'.length c)) (hR : RowT (B, w.heap.size) wr d a I') (hx : Rd wr a I'.length 7 xs) (hlf : I'.length ≤ lf) (hz : tszs I' ≤ 1353245080330) (hin : InsP wr gl gt lf w.heap.size I'.length xs ys tv e w2) :
    ∃ (a' : Option Addr) (c' : Nat) (tv' : Value) (ys' : List Value) (Ls' : List (List Tm)), e = .returned (.slice a' I'.length c') ∧ w2.cell? ⟨g, i, none⟩ = some (.slice a I'.length c) ∧ w2.frozen? ⟨g, i, none⟩ = false ∧
      St B w d gt gl gc gm ao J tv' ys' Ls' (lf - I'.length) (w2.setCell ⟨g, i, none⟩ (.slice a' I'.length c')) ∧ TodoOk (B, w.heap.size) d (w2.setCell ⟨g, i, none⟩ (.slice a' I'.length c')) y I ∧ belS Ls' ≤ belS Ls + belR I' ∧ masS Ls' ≤ masS Ls + (1 + masR I') := by
  obtain ⟨v, tv', ys', Ls', a', c', he, hv, ho, hSt, k, hys⟩ := h.ins hR hx hlf hz hin
  subst hv
  obtain ⟨_, _, _, _, _, _, _, hu⟩ := hin
  have hlt := lt_of_block hg
  have hgS : g ∉ [gl, gt] ++ tv.ownBlock.toList := fun hm => by
    obtain ⟨_, cur', T, fr, hh, h3, _⟩ := h.turns g hm
    rw [hh] at hg
    simp at hg
    exact h3 hg.2.1
  have hg2 := (hu.block g hlt hgS).trans hg
  have hp2 := (hu.cell (p := ⟨g, i, none⟩) hlt hgS).trans hp
  obtain ⟨t1, t2⟩ := Ty.upd (base := (B, w.heap.size)) hu h.turns
  have hx2 : Rd w2 a I'.length 7 xs := hx.upd hu (fun ad ea h0 => by
    rcases hR with h | ⟨b, o, rfl, hty, _, _⟩
    · rw [h] at h0; exact absurd rfl h0
    · cases ea; exact t1 b hty)
  have k2 := Keep.items (c' := c') (a' := a') hg2 hp2 (k.rowT hR) hx2 ho hlt h.upd.size
  refine ⟨a', c', tv', ys', Ls', he, hp2, frozen_of_row w2 g i _ _ hg2, hSt.set hg2 hb k2, (hy.keep k).keep k2, ?_, ?_⟩
  · by_cases h0 : 0 < I'.length
    · rw [if_pos h0] at hys; rw [(Prod.mk.inj hys).2, belS_snoc]; exact Nat.le_refl _
    · rw [if_neg h0] at hys; rw [(Prod.mk.inj hys).2]; omega
  · by_cases h0 : 0 < I'.length
    · rw [if_pos h0] at hys; rw [(Prod.mk.inj hys).2, masS_snoc]; exact Nat.le_refl _
    · rw [if_neg h0] at hys; rw [(Prod.mk.inj hys).2]; omega

end Go.Proofs.YtnpocmhaoaigfaaGreatDoor
