/- parts of the reference, by its contract. -/
import Derived.Test.YtaoipmmeialpnaaGreatDoorBitE
import Derived.Test.YtaoipmmeialpnaaGreatDoorRefR
import Derived.Deep.DeepCutAuto
import Derived.Deep.RegionHeld3

namespace Go.Proofs.YtaoipmmeialpnaaGreatDoor
open Go.RowKit

/-- A row of bits as cells. -/
def bools (L : List Bool) : Array Value := (L.map Value.bool).toArray
/-- A block of the call's own that holds a row of bits. -/
def BB (w : World) (g : Nat) (L : List Bool) : Prop := w.heap[g]? = some (.cells (bools L) 4 (0, 0))
theorem bools_get (L : List Bool) (i : Nat) (hi : i < L.length) : (bools L)[i]? = some (.bool (L.getD i false)) := by simp [bools, List.getD, hi]
theorem bools_set (L : List Bool) (i : Nat) (x : Bool) : (bools L).setIfInBounds i (.bool x) = bools (L.set i x) := by
  apply Array.ext'
  simp [bools, List.map_set]
theorem BB.cell {w : World} {g : Nat} {L : List Bool} (h : BB w g L) (i : Nat) (hi : i < L.length) : w.cell? ⟨g, i, none⟩ = some (.bool (L.getD i false)) := by
  rw [cell_of_row w g i _ _ _ h]; exact bools_get L i hi
theorem BB.free {w : World} {g : Nat} {L : List Bool} (h : BB w g L) (i : Nat) : w.frozen? ⟨g, i, none⟩ = false := frozen_of_row w g i _ _ h
theorem BB.lt {w : World} {g : Nat} {L : List Bool} (h : BB w g L) : g < w.heap.size := lt_of_block h
theorem BB.ba {w : World} {g : Nat} {L : List Bool} (h : BB w g L) : BA w (some ⟨g, 0, none⟩) L :=
  Or.inr ⟨g, 0, rfl, h.lt, fun i hi => by rw [Nat.zero_add]; exact h.cell i hi⟩
theorem BB.set {w : World} {g : Nat} {L : List Bool} (h : BB w g L) (i : Nat) (x : Bool) : BB (w.setCell ⟨g, i, none⟩ (.bool x)) g (L.set i x) := by
  unfold BB
  rw [heap_setCell_same w g i _ _ _ h, bools_set]
theorem BB.mono {S : List Nat} {w w' : World} {g : Nat} {L : List Bool} (h : BB w g L) (hu : Upd S w w') (hn : g ∉ S) : BB w' g L := (hu.block g h.lt hn).trans h
theorem BB.owns {w : World} {g : Nat} {X : List Bool} (h : BB w g X) (hl : X.length ≤ 100000) : w.ownsRow g 4 1 (.slice (some ⟨g, 0, none⟩) X.length X.length) X.length (X.map Value.bool) :=
  ⟨by simp, Or.inr ⟨g, X.length, bools X, rfl, Nat.le_refl _, h, Nat.le_refl _, by unfold maxLen; omega, by simp [bools], by rw [Nat.mul_one, List.take_of_length_le (by simp [bools])]; simp [bools]⟩⟩
theorem BB.one (w : World) (x : Bool) : BB (w.alloc (.cells #[.bool x] 4)) w.heap.size [x] := heap_alloc_new w _

/-- 'make([]bool, n)'. -/
theorem make_bool (w : World) {ops : Array Oper} {rest : List Oper} {o : Oper} {a : Act} {Q : Exit → Act → World → Prop}
    (hg : o.guard = none) (l c : Operand) (hop : o.op = Op.makeSlice 133 l c) (L C : Int) (n : Nat) (hl : a.eval l = .int .i64 L) (hc : a.eval c = .int .i64 C) (hL : L = (n : Int)) (hC : C = (n : Int)) (hn : n ≤ 200000)
    (hK : ∀ w', BB w' w.heap.size (List.replicate n false) → Upd [] w w' → wpList Tryz.prog ops Q rest (a.put o.dst (.slice (some ⟨w.heap.size, 0, none⟩) n n)) w') :
    wpList Tryz.prog ops Q (o :: rest) a w := by
  obtain ⟨i0, hi, hz0, hz1, hz2⟩ := info_parts info_bool
  refine wpList_make_full w hg l c 133 hop w.heap.size 4 i0 (.bool false) 1 Tryz.underlying133 hi hz0 hz1 .i64 .i64 L C n hl hc hL hC (by rw [hz2]; omega) (by unfold maxLen; omega) (Nat.le_refl _) ?_
  intro w' hown hgrow
  refine hK w' ?_ ((Upd.refl [] w).grown hgrow (fun k h => by cases h))
  obtain ⟨_, h | ⟨g, cap, cur, hv, _, hh, _, _, hcs, hcu⟩⟩ := hown
  · cases h.1
  · simp only [Value.slice.injEq, Option.some.injEq, Addr.mk.injEq, and_true, true_and] at hv
    obtain ⟨rfl, rfl⟩ := hv
    unfold BB
    rw [hh]
    have e : cur.toList = (madeCells (Value.bool false).cells (n * 1)).toList := by
      rw [← hcu, List.take_of_length_le (by simp [hcs])]
    rw [show (Value.bool false).cells = #[Value.bool false] from rfl, toList_madeCells_one] at e
    have e2 : cur = bools (List.replicate n false) := by
      apply Array.ext'
      rw [e]
      simp [bools]
    rw [e2]

theorem map_bool_get (M : List Bool) (j : Nat) (u : Value) (h : (M.map Value.bool)[j]? = some u) : j < M.length ∧ u = .bool (M.getD j false) := by
  rw [List.getElem?_map, Option.map_eq_some_iff] at h
  obtain ⟨n, h1, h2⟩ := h
  obtain ⟨hj, e⟩ := List.getElem?_eq_some_iff.1 h1
  exact ⟨hj, by rw [← h2, List.getD_eq_getElem?_getD, h1]; rfl⟩

/-- 'append([]bool{..}, l...)'. -/
theorem append_bool (w : World) {ops : Array Oper} {rest : List Oper} {o : Oper} {a : Act} {Q : Exit → Act → World → Prop} (hgd : o.guard = none) (s x : Operand)
    (ho : o.op = .call { callee := .builtin .append, args := #[s, x], argTypes := #[133, 133] }) (g : Nat) (X M : List Bool) (a' : Option Addr) (n c' : Nat) (hX : X.length ≤ 1000) (hM : M.length ≤ 5000)
    (hn : n = X.length) (hs : a.eval s = .slice (some ⟨g, 0, none⟩) n n) (hB : BB w g X) (hx : a.eval x = .slice a' M.length c') (HM : BA w a' M)
    (h : ∀ g' cap' w', g ≤ g' → BA w' (some ⟨g', 0, none⟩) (X ++ M) → Upd [g] w w' → (X ++ M).length ≤ cap' → cap' ≤ 9223372036854775807 → wpList Tryz.prog ops Q rest (a.put o.dst (.slice (some ⟨g', 0, none⟩) (X ++ M).length cap')) w') :
    wpList Tryz.prog ops Q (o :: rest) a w := by
  subst hn
  obtain ⟨i0, hi, hz0, hz1, hz2⟩ := info_parts info_bool
  have hlt := hB.lt
  refine wpList_plain hgd fun K hK => ?_
  rcases a' with _ | ad
  · have hM0 : M = [] := by
      rcases HM with h | ⟨b, o, e, _⟩
      · exact h
      · cases e
    subst hM0
    have hr := run_append_room_src (P := Tryz.prog) w 133 133 o.type 4 i0 Tryz.underlying133 hi g 0 X.length X.length (.slice none 0 c') 0 [] (Src.ofNil w Tryz.underlying133 c') (by omega) (fun j hj => by simp at hj) (fun j hj => by simp at hj)
    have e0 : w.setCells g (0 + X.length * i0.size) [] = w := rfl
    rw [e0] at hr
    unfold Oper.wp execOp
    simp only [List.length_nil] at hx
    simp only [ho, resolve, invoke, builtin, Sem.run_bind, Sem.run_pure, Result.andThen_ok, List.map_toArray, List.map_cons, List.map_nil, hs, hx, hr]
    refine hK _ _ ?_
    have hh := h g X.length w (Nat.le_refl _) (by rw [List.append_nil]; exact hB.ba) (Upd.refl _ _) (by simp) (by omega)
    rw [List.append_nil] at hh
    exact hh
  · have hnews : ∀ j u, (M.map Value.bool)[j]? = some u → w.cell? (ad.add j) = some u := fun j u hj => by
      obtain ⟨h1, h2⟩ := map_bool_get M j u hj
      rcases HM with h | ⟨b, o, e, _, hc⟩
      · rw [h] at h1; simp at h1
      · cases e
        rw [h2, Addr.add_lit]; exact hc j h1
    obtain ⟨v', w', hr, hown, hgr, hnil⟩ := run_append_own (P := Tryz.prog) w g 133 o.type 4 i0 (.bool false) 1 1 Tryz.underlying133 hi hz0 hz1 hz2 rfl (by decide) _ X.length _ (hB.owns (by omega)) ad M.length c' (M.map Value.bool) (by simp) hnews
      (fun u hu => by obtain ⟨_, _, rfl⟩ := List.mem_map.1 hu; rfl) (by unfold maxLen; omega) (by omega) (Nat.le_of_lt hlt)
    rw [← List.map_append] at hown
    have hOL : OL w' g v' (X ++ M) := by unfold OL; rw [List.length_append]; exact hown
    obtain ⟨_, ⟨h1, h2⟩ | ⟨g', cap', cur, hv', hb, hh, hc1, hc2, hcs, hcu⟩⟩ := hown
    · exact absurd h1 (fun e => by have := (hnil.1 e).1; cases this)
    · obtain ⟨a2, cap2, e2, hBA, _, _, _⟩ := hOL.there
      rw [hv', List.length_append] at e2
      simp only [Value.slice.injEq] at e2
      obtain ⟨rfl, _, rfl⟩ := e2
      unfold Oper.wp execOp
      subst hv'
      simp only [ho, resolve, invoke, builtin, Sem.run_bind, Sem.run_pure, Result.andThen_ok, List.map_toArray, List.map_cons, List.map_nil, hs, hx, hr]
      refine hK _ _ ?_
      have hh2 := h g' cap' w' hb hBA ((Upd.refl _ _).grown hgr (fun k hk => Or.inr (by simp [Value.ownBlock] at hk; simp [hk]))) (by rw [List.length_append]; exact hc1) (by unfold maxLen at hc2; omega)
      rw [List.length_append] at hh2
      exact hh2

theorem drop_setB (X : List Bool) (i : Nat) (q : Bool) (hi : i < X.length) : (X.set i q).drop i = q :: X.drop (i + 1) := by
  have h : i < (X.set i q).length := by simpa using hi
  rw [List.drop_eq_getElem_cons h, List.drop_set_of_lt (by omega)]
  simp
theorem part_no (Q A : List Bool) (j r y : Nat) (hz : Q.getD j false = false) (he : nb (Q.drop (j + 1)) * y + r = nb (A.drop (j + 1))) : nb (Q.drop j) * y + ((A.getD j false).toNat + 2 * r) = nb (A.drop j) := by
  rw [nb_drop Q j, nb_drop A j, hz, ← he]
  simp only [Bool.toNat_false, Nat.zero_add, Nat.mul_assoc]
  omega
theorem part_yes (Q A : List Bool) (j r y : Nat) (hj : j < Q.length) (he : nb (Q.drop (j + 1)) * y + r = nb (A.drop (j + 1))) (hy : y ≤ (A.getD j false).toNat + 2 * r) : nb ((Q.set j true).drop j) * y + ((A.getD j false).toNat + 2 * r - y) = nb (A.drop j) := by
  rw [drop_setB Q j true hj, nb_drop A j, ← he]
  show ((true).toNat + 2 * nb (Q.drop (j + 1))) * y + _ = _
  rw [Nat.add_mul, Nat.mul_assoc]
  simp only [Bool.toNat_true, Nat.one_mul]
  omega

def PartInv (w : World) (A : List Bool) (y : Nat) (rv i : Value) (wr : World) : Prop := ∃ (k r cr : Nat) (Q R : List Bool) (ar : Option Addr), k ≤ A.length ∧ i = .int .i64 ((k : Int) - 1) ∧ rv = .slice ar R.length cr ∧ NormB R r ∧ BA wr ar R ∧ Fresh (w.heap.size + 1) ar ∧ R.length ≤ cr ∧ cr ≤ 9223372036854775807 ∧ r < y ∧ BB wr w.heap.size Q ∧ Q.length = A.length ∧ (∀ i, i < k → Q.getD i false = false) ∧ Upd [] w wr ∧ nb (Q.drop k) * y + r = nb (A.drop k)

set_option maxHeartbeats 4000000 in
set_option maxRecDepth 100000 in
theorem parts_core (a b : Option Addr) (ca cb y : Nat) (A B : List Bool) (w : World) (hA : A.length ≤ 2500) (hB : B.length ≤ 2500) (HA : BA w a A) (HB : BA w b B) (nB : NormB B y) (hy : 0 < y) :
    Calls Tryz.prog 147 #[.slice a A.length ca, .slice b B.length cb] w fun e w' => Upd [] w w' ∧ ∃ aq cq Q ar cr R, e = .returned (.tuple #[.slice aq Q.length cq, .slice ar R.length cr]) ∧ NormB Q (nb A / y) ∧ BA w' aq Q ∧ Q.length ≤ cq ∧ cq ≤ 9223372036854775807 ∧ NormB R (nb A % y) ∧ BA w' ar R ∧ R.length ≤ cr ∧ cr ≤ 9223372036854775807 ∧ Q.length ≤ A.length := by
  have HNB : Hid (NormB B y) := nB
  clear nB
  go_enter Tryz.func147, Tryz.ntmps147
  go_wp2_with (at_make; refine make_bool _ rfl _ _ rfl _ _ A.length rfl rfl (by omega) (by omega) (by omega) ?_; intro w0 hq0 hu0)
  go_loopw [7, 8] (PartInv w A y) (fun _ i _ => (intOf i + 1).toNat)
  case atStart =>
    refine ⟨A.length, 0, 0, List.replicate A.length false, [], none, Nat.le_refl _, by go_num, rfl, NormB.zero, BA.nil _ _, Fresh.nil _, by simp, by omega, hy, hq0, by simp, fun i hi => by simp [hi], hu0, ?_⟩
    rw [List.drop_of_length_le (by simp), List.drop_of_length_le (Nat.le_refl _)]; simp [nb]
  case round =>
    obtain ⟨k, r, cr, Q, R, ar, hk, rfl, rfl, nR, hR, hF, hcr, hcr2, hry, hQ, hQl, hz, hU, he⟩ := hrel
    have HNR : Hid (NormB R r) := nR
    have HQL : Hid (Q.length = A.length) := hQl
    have HZ : Hid (∀ i, i < k → Q.getD i false = false) := hz
    have HE : Hid (nb (Q.drop k) * y + r = nb (A.drop k)) := he
    have hRl : R.length ≤ B.length := (nR.len_le B.length).2 (Nat.lt_trans hry ((HNB.out.len_le B.length).1 (Nat.le_refl _)))
    clear nR hQl hz he hq0 hu0
    by_cases hk0 : k = 0
    · subst hk0
      go_wp2_with fail
      have hlq := HQL.out
      rw [← hlq]
      refine (cut_any (some ⟨w.heap.size, 0, none⟩) Q.length Q wr (by omega) (Nat.le_refl _) (by omega) hQ.ba).mono ?_
      rintro e w2 ⟨rfl, c2, M, rfl, nM, hM, hMl, hd1, hd2⟩
      go_wp2
      go_ret2
      have hv := HE.out
      rw [List.drop_zero, List.drop_zero] at hv
      obtain ⟨e1, e2⟩ := div_end _ _ _ _ hry hv
      exact ⟨hU, _, c2, M, ar, cr, R, rfl, e1 ▸ nM, hM, hd1, hd2, e2 ▸ HNR.out, hR, hcr, hcr2, by omega⟩
    · obtain ⟨j, rfl⟩ : ∃ j, k = j + 1 := ⟨k - 1, by omega⟩
      rcases HA.mono hU with h | ⟨ba, oa, rfl, hlta, hca⟩
      · rw [h] at hk; simp at hk
      have hcx := hca j (by omega)
      obtain ⟨x, hx⟩ : ∃ x, x = A.getD j false := ⟨_, rfl⟩
      rw [← hx] at hcx
      have HX : Hid (x = A.getD j false) := hx
      clear hx hca
      have hsz := hU.size
      have hqlt := hQ.lt
      go_wp2_with (at_builtin; refine append_bool _ rfl _ _ rfl wr.heap.size [x] R ar 1 cr (by simp) (by omega) rfl rfl (BB.one wr x) rfl (hR.mono ((Upd.refl [] wr).alloc _)) ?_; intro g' cap' w2 hg' hBA hU2 hc1 hc2)
      have hU02 := (hU.alloc (.cells #[.bool x] 4)).then hU2 (by simp; omega)
      have hQ2 := (hQ.mono ((Upd.refl [] wr).alloc (.cells #[.bool x] 4)) (by simp)).mono hU2 (by simp; omega)
      clear hU2 hQ hR
      refine (cut_any (some ⟨g', 0, none⟩) cap' ([x] ++ R) w2 (by simp; omega) hc1 hc2 hBA).mono ?_
      rintro e w3 ⟨hw3, c2, M, rfl, nM, hM, hMl, hd1, hd2⟩
      rw [hw3]
      clear hw3 hBA
      have hnb : nb ([x] ++ R) = x.toNat + 2 * r := by rw [← HNR.out.eq]; rfl
      rw [hnb] at nM
      have HNM : Hid (NormB M (x.toNat + 2 * r)) := nM
      have hMl2 : M.length ≤ B.length + 1 := by simp at hMl; omega
      clear nM hnb hMl
      go_wp2_with fail
      refine (below_any (some ⟨g', 0, none⟩) b c2 cb _ _ M B w2 (by omega) (by omega) hM (HB.mono hU02) HNM.out.eq HNB.out.eq).mono ?_
      rintro e w3 ⟨rfl, hw3⟩
      rw [hw3]
      clear hw3
      by_cases hlt : x.toNat + 2 * r < y
      · rw [decide_eq_true hlt]
        have HLT : Hid _ := hlt
        clear hlt
        go_wp2
        go_roundw
        case rel =>
          refine ⟨j, _, c2, Q, M, some ⟨g', 0, none⟩, by omega, by go_num, rfl, HNM.out, hM, Fresh.mem (by omega), hd1, hd2, HLT.out, hQ2, HQL.out, fun i hi => HZ.out i (by omega), hU02, ?_⟩
          rw [HX.out]
          exact part_no Q A j r y (HZ.out j (by omega)) HE.out
        case measure => simp [intOf]
      · rw [decide_eq_false hlt]
        have HLT : Hid (y ≤ x.toNat + 2 * r) := by show y ≤ x.toNat + 2 * r; omega
        clear hlt
        go_wp2_with fail
        refine (rless_any (some ⟨g', 0, none⟩) b c2 cb _ _ M B w2 (by omega) hM (HB.mono hU02) HNM.out.eq HNB.out (by have := HLT.out; omega)).mono ?_
        rintro e w4 ⟨hU4, a4, c4, M4, rfl, nM4, hM4, hF4, hd41, hd42, hl4⟩
        have HNM4 : Hid (NormB M4 (x.toNat + 2 * r - y)) := nM4
        have hQ4 := hQ2.mono hU4 (by simp)
        have hcell := hQ4.cell j (by rw [HQL.out]; omega)
        have hfree := hQ4.free j
        have hU04 := hU02.trans hU4
        have hz2 := hU02.size
        have hlt2 := hQ2.lt
        clear nM4 hU4 hQ2
        go_wp2
        go_roundw
        case rel =>
          refine ⟨j, _, c4, Q.set j true, M4, a4, by omega, by go_num, rfl, HNM4.out, ?_, hF4.le (by omega), hd41, hd42, ?_, hQ4.set j true, by rw [List.length_set]; exact HQL.out, ?_, hU04.setCell (Or.inl (Nat.le_refl _)) _, ?_⟩
          · refine hM4.keep ((Upd.refl [w.heap.size] w4).setCell (Or.inr (by simp)) _) (fun p hp => ?_)
            have := hF4 p hp
            simp; omega
          · have h1 := toNat_le x; have := HLT.out; omega
          · intro i hi
            rw [List.getD_eq_getElem?_getD, List.getElem?_set_ne (by omega), ← List.getD_eq_getElem?_getD]
            exact HZ.out i (by omega)
          · have hlt3 := HLT.out
            rw [HX.out] at hlt3 ⊢
            exact part_yes Q A j r y (by rw [HQL.out]; omega) HE.out (by omega)
        case measure => simp [intOf]

/-- parts: quotient and rest of two amounts. -/
theorem parts_any (a b : Option Addr) (ca cb x y : Nat) (A B : List Bool) (w : World) (hA : A.length ≤ 2500) (hB : B.length ≤ 2500) (HA : BA w a A) (HB : BA w b B) (nA : nb A = x) (nB : NormB B y) (hy : 0 < y) :
    Calls Tryz.prog 147 #[.slice a A.length ca, .slice b B.length cb] w fun e w' => Upd [] w w' ∧ ∃ aq cq Q ar cr R, e = .returned (.tuple #[.slice aq Q.length cq, .slice ar R.length cr]) ∧ NormB Q (x / y) ∧ BA w' aq Q ∧ Q.length ≤ cq ∧ cq ≤ 9223372036854775807 ∧ NormB R (x % y) ∧ BA w' ar R ∧ R.length ≤ cr ∧ cr ≤ 9223372036854775807 ∧ Q.length ≤ A.length := by
  subst nA
  exact parts_core a b ca cb y A B w hA hB HA HB nB hy

end Go.Proofs.YtaoipmmeialpnaaGreatDoor

/- Times of the reference, by its contract. -/
namespace Go.Proofs.YtaoipmmeialpnaaGreatDoor
open Go.RowKit

/-- The loop of Times. -/
def TimesInv (W : World) (x : Nat) (Y : List Bool) (xv ov i : Value) (wr : World) : Prop := ∃ (k cx co : Nat) (X O : List Bool) (ax ao : Option Addr), k ≤ Y.length ∧ i = .int .i64 k ∧ xv = .slice ax X.length cx ∧ nb X = x * 2 ^ k ∧ X.length ≤ 1024 + k ∧ BA wr ax X ∧ ov = .slice ao O.length co ∧ NormB O (x * nb (Y.take k)) ∧ BA wr ao O ∧ O.length ≤ co ∧ co ≤ 9223372036854775807 ∧ Upd [] W wr

theorem times_bit (x : Nat) (Y : List Bool) (k : Nat) : x * nb (Y.take (k + 1)) = x * nb (Y.take k) + (Y.getD k false).toNat * (x * 2 ^ k) := by
  rw [nb_take, Nat.mul_add, Nat.mul_comm _ (x * 2 ^ k), Nat.mul_assoc]
theorem BA.past {w w' : World} {a : Option Addr} {L : List Bool} {o : Obj} (h : BA w a L) (hu : Upd [w.heap.size] (w.alloc o) w') : BA w' a L := by
  rcases h with h | ⟨b, o', e, hlt, hc⟩
  · exact Or.inl h
  · refine BA.keep (BA.mono (Or.inr ⟨b, o', e, hlt, hc⟩) ((Upd.refl [] w).alloc o)) hu (fun p hp => ?_)
    rw [e] at hp; cases hp; simp; omega
theorem O_len {O Y : List Bool} {x k m : Nat} (h : NormB O (x * nb (Y.take k))) (hx : x < 2 ^ m) (hY : nb Y < 2 ^ m) : O.length ≤ m + m := by
  refine (h.len_le (m + m)).2 ?_
  have h1 : nb (Y.take k) ≤ nb Y := Nat.le_trans (Nat.le_add_right _ _) (Nat.le_of_eq (nb_split Y k))
  rw [Nat.pow_add]
  exact Nat.lt_of_le_of_lt (Nat.mul_le_mul_left _ h1) (Nat.mul_lt_mul'' hx hY)

end Go.Proofs.YtaoipmmeialpnaaGreatDoor
