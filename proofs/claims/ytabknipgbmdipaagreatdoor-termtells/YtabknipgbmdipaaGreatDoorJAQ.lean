/- parts of the reference, by its contract. -/
import Derived.Test.YtabknipgbmdipaaGreatDoorJAP
import Derived.Test.YtabknipgbmdipaaGreatDoorJAB
import Derived.Test.YtabknipgbmdipaaGreatDoorJAG
import Derived.Test.YtabknipgbmdipaaGreatDoorJAC
import Derived.WalkSpells
import Derived.Lib.Strings
import Derived.Test.YtabknipgbmdipaaGreatDoorJAM
import Derived.Deep.RegionWith
import Derived.Test.YtabknipgbmdipaaGreatDoorCmpL
import Derived.Test.YtabknipgbmdipaaGreatDoorJAF
import Derived.Deep.RegionHeld3

namespace Go.Proofs.YtabknipgbmdipaaGreatDoor
open Go.RowKit

/-- A row of bits as cells. -/
def bools (L : List Bool) : Array Value := (L.map Value.bool).toArray
/-- A block of the call's own that holds a row of bits. -/
def BB (w : World) (g : Nat) (L : List Bool) : Prop := w.heap[g]? = some (.cells (bools L) 4 (0, 0))
theorem bools_get (L : List Bool) (i : Nat) (hi : i < L.length) : (bools L)[i]? = some (.bool (L.getD i false)) := by simp [bools, List.getD, hi]
theorem bools_set (L : List Bool) (i : Nat) (x : Bool) : (bools L).setIfInBounds i (.bool x) = bools (L.set i x) := by
  apply Array.ext'
  simp [bools, List.map_set]
theorem BB.cell {w : World} {g : Nat} {L : List Bool} (h : BB w g L) (i : Nat) (hi : i < L.length) : w.cell? ⟨g, i, none⟩ = some (.bool (L.getD i false)) := by
  rw [cell_of_row w g i _ _ _ h]; exact bools_get L i hi
theorem BB.free {w : World} {g : Nat} {L : List Bool} (h : BB w g L) (i : Nat) : w.frozen? ⟨g, i, none⟩ = false := frozen_of_row w g i _ _ h
theorem BB.lt {w : World} {g : Nat} {L : List Bool} (h : BB w g L) : g < w.heap.size := lt_of_block h
theorem BB.ba {w : World} {g : Nat} {L : List Bool} (h : BB w g L) : BA w (some ⟨g, 0, none⟩) L :=
  Or.inr ⟨g, 0, rfl, h.lt, fun i hi => by rw [Nat.zero_add]; exact h.cell i hi⟩
theorem BB.set {w : World} {g : Nat} {L : List Bool} (h : BB w g L) (i : Nat) (x : Bool) : BB (w.setCell ⟨g, i, none⟩ (.bool x)) g (L.set i x) := by
  unfold BB
  rw [heap_setCell_same w g i _ _ _ h, bools_set]
theorem BB.mono {S : List Nat} {w w' : World} {g : Nat} {L : List Bool} (h : BB w g L) (hu : Upd S w w') (hn : g ∉ S) : BB w' g L := (hu.block g h.lt hn).trans h
theorem BB.owns {w : World} {g : Nat} {X : List Bool} (h : BB w g X) (hl : X.length ≤ 100000) : w.ownsRow g 4 1 (.slice (some ⟨g, 0, none⟩) X.length X.length) X.length (X.map Value.bool) :=
  ⟨by simp, Or.inr ⟨g, X.length, bools X, rfl, Nat.le_refl _, h, Nat.le_refl _, by unfold maxLen; omega, by simp [bools], by rw [Nat.mul_one, List.take_of_length_le (by simp [bools])]; simp [bools]⟩⟩
theorem BB.one (w : World) (x : Bool) : BB (w.alloc (.cells #[.bool x] 4)) w.heap.size [x] := heap_alloc_new w _

/-- 'make([]bool, n)'. -/
theorem make_bool (w : World) {ops : Array Oper} {rest : List Oper} {o : Oper} {a : Act} {Q : Exit → Act → World → Prop}
    (hg : o.guard = none) (l c : Operand) (hop : o.op = Op.makeSlice 131 l c) (L C : Int) (n : Nat) (hl : a.eval l = .int .i64 L) (hc : a.eval c = .int .i64 C) (hL : L = (n : Int)) (hC : C = (n : Int)) (hn : n ≤ 200000)
    (hK : ∀ w', BB w' w.heap.size (List.replicate n false) → Upd [] w w' → wpList Tryz.prog ops Q rest (a.put o.dst (.slice (some ⟨w.heap.size, 0, none⟩) n n)) w') :
    wpList Tryz.prog ops Q (o :: rest) a w := by
  obtain ⟨i0, hi, hz0, hz1, hz2⟩ := info_parts info_bool
  refine wpList_make_full w hg l c 131 hop w.heap.size 4 i0 (.bool false) 1 Tryz.underlying131 hi hz0 hz1 .i64 .i64 L C n hl hc hL hC (by rw [hz2]; omega) (by unfold maxLen; omega) (Nat.le_refl _) ?_
  intro w' hown hgrow
  refine hK w' ?_ ((Upd.refl [] w).grown hgrow (fun k h => by cases h))
  obtain ⟨_, h | ⟨g, cap, cur, hv, _, hh, _, _, hcs, hcu⟩⟩ := hown
  · cases h.1
  · simp only [Value.slice.injEq, Option.some.injEq, Addr.mk.injEq, and_true, true_and] at hv
    obtain ⟨rfl, rfl⟩ := hv
    unfold BB
    rw [hh]
    have e : cur.toList = (madeCells (Value.bool false).cells (n * 1)).toList := by
      rw [← hcu, List.take_of_length_le (by simp [hcs])]
    rw [show (Value.bool false).cells = #[Value.bool false] from rfl, toList_madeCells_one] at e
    have e2 : cur = bools (List.replicate n false) := by
      apply Array.ext'
      rw [e]
      simp [bools]
    rw [e2]

theorem map_bool_get (M : List Bool) (j : Nat) (u : Value) (h : (M.map Value.bool)[j]? = some u) : j < M.length ∧ u = .bool (M.getD j false) := by
  rw [List.getElem?_map, Option.map_eq_some_iff] at h
  obtain ⟨n, h1, h2⟩ := h
  obtain ⟨hj, e⟩ := List.getElem?_eq_some_iff.1 h1
  exact ⟨hj, by rw [← h2, List.getD_eq_getElem?_getD, h1]; rfl⟩

/-- 'append([]bool{..}, l...)'. -/
theorem append_bool (w : World) {ops : Array Oper} {rest : List Oper} {o : Oper} {a : Act} {Q : Exit → Act → World → Prop} (hgd : o.guard = none) (s x : Operand)
    (ho : o.op = .call { callee := .builtin .append, args := #[s, x], argTypes := #[131, 131] }) (g : Nat) (X M : List Bool) (a' : Option Addr) (n c' : Nat) (hX : X.length ≤ 1000) (hM : M.length ≤ 5000)
    (hn : n = X.length) (hs : a.eval s = .slice (some ⟨g, 0, none⟩) n n) (hB : BB w g X) (hx : a.eval x = .slice a' M.length c') (HM : BA w a' M)
    (h : ∀ g' cap' w', g ≤ g' → BA w' (some ⟨g', 0, none⟩) (X ++ M) → Upd [g] w w' → (X ++ M).length ≤ cap' → cap' ≤ 9223372036854775807 → wpList Tryz.prog ops Q rest (a.put o.dst (.slice (some ⟨g', 0, none⟩) (X ++ M).length cap')) w') :
    wpList Tryz.prog ops Q (o :: rest) a w := by
  subst hn
  obtain ⟨i0, hi, hz0, hz1, hz2⟩ := info_parts info_bool
  have hlt := hB.lt
  refine wpList_plain hgd fun K hK => ?_
  rcases a' with _ | ad
  · have hM0 : M = [] := by
      rcases HM with h | ⟨b, o, e, _⟩
      · exact h
      · cases e
    subst hM0
    have hr := run_append_room_src (P := Tryz.prog) w 131 131 o.type 4 i0 Tryz.underlying131 hi g 0 X.length X.length (.slice none 0 c') 0 [] (Src.ofNil w Tryz.underlying131 c') (by omega) (fun j hj => by simp at hj) (fun j hj => by simp at hj)
    have e0 : w.setCells g (0 + X.length * i0.size) [] = w := rfl
    rw [e0] at hr
    unfold Oper.wp execOp
    simp only [List.length_nil] at hx
    simp only [ho, resolve, invoke, builtin, Sem.run_bind, Sem.run_pure, Result.andThen_ok, List.map_toArray, List.map_cons, List.map_nil, hs, hx, hr]
    refine hK _ _ ?_
    have hh := h g X.length w (Nat.le_refl _) (by rw [List.append_nil]; exact hB.ba) (Upd.refl _ _) (by simp) (by omega)
    rw [List.append_nil] at hh
    exact hh
  · have hnews : ∀ j u, (M.map Value.bool)[j]? = some u → w.cell? (ad.add j) = some u := fun j u hj => by
      obtain ⟨h1, h2⟩ := map_bool_get M j u hj
      rcases HM with h | ⟨b, o, e, _, hc⟩
      · rw [h] at h1; simp at h1
      · cases e
        rw [h2, Addr.add_lit]; exact hc j h1
    obtain ⟨v', w', hr, hown, hgr, hnil⟩ := run_append_own (P := Tryz.prog) w g 131 o.type 4 i0 (.bool false) 1 1 Tryz.underlying131 hi hz0 hz1 hz2 rfl (by decide) _ X.length _ (hB.owns (by omega)) ad M.length c' (M.map Value.bool) (by simp) hnews
      (fun u hu => by obtain ⟨_, _, rfl⟩ := List.mem_map.1 hu; rfl) (by unfold maxLen; omega) (by omega) (Nat.le_of_lt hlt)
    rw [← List.map_append] at hown
    have hOL : OL w' g v' (X ++ M) := by unfold OL; rw [List.length_append]; exact hown
    obtain ⟨_, ⟨h1, h2⟩ | ⟨g', cap', cur, hv', hb, hh, hc1, hc2, hcs, hcu⟩⟩ := hown
    · exact absurd h1 (fun e => by have := (hnil.1 e).1; cases this)
    · obtain ⟨a2, cap2, e2, hBA, _, _, _⟩ := hOL.there
      rw [hv', List.length_append] at e2
      simp only [Value.slice.injEq] at e2
      obtain ⟨rfl, _, rfl⟩ := e2
      unfold Oper.wp execOp
      subst hv'
      simp only [ho, resolve, invoke, builtin, Sem.run_bind, Sem.run_pure, Result.andThen_ok, List.map_toArray, List.map_cons, List.map_nil, hs, hx, hr]
      refine hK _ _ ?_
      have hh2 := h g' cap' w' hb hBA ((Upd.refl _ _).grown hgr (fun k hk => Or.inr (by simp [Value.ownBlock] at hk; simp [hk]))) (by rw [List.length_append]; exact hc1) (by unfold maxLen at hc2; omega)
      rw [List.length_append] at hh2
      exact hh2

theorem drop_setB (X : List Bool) (i : Nat) (q : Bool) (hi : i < X.length) : (X.set i q).drop i = q :: X.drop (i + 1) := by
  have h : i < (X.set i q).length := by simpa using hi
  rw [List.drop_eq_getElem_cons h, List.drop_set_of_lt (by omega)]
  simp
theorem part_no (Q A : List Bool) (j r y : Nat) (hz : Q.getD j false = false) (he : nb (Q.drop (j + 1)) * y + r = nb (A.drop (j + 1))) : nb (Q.drop j) * y + ((A.getD j false).toNat + 2 * r) = nb (A.drop j) := by
  rw [nb_drop Q j, nb_drop A j, hz, ← he]
  simp only [Bool.toNat_false, Nat.zero_add, Nat.mul_assoc]
  omega
theorem part_yes (Q A : List Bool) (j r y : Nat) (hj : j < Q.length) (he : nb (Q.drop (j + 1)) * y + r = nb (A.drop (j + 1))) (hy : y ≤ (A.getD j false).toNat + 2 * r) : nb ((Q.set j true).drop j) * y + ((A.getD j false).toNat + 2 * r - y) = nb (A.drop j) := by
  rw [drop_setB Q j true hj, nb_drop A j, ← he]
  show ((true).toNat + 2 * nb (Q.drop (j + 1))) * y + _ = _
  rw [Nat.add_mul, Nat.mul_assoc]
  simp only [Bool.toNat_true, Nat.one_mul]
  omega

def PartInv (w : World) (A : List Bool) (y : Nat) (rv i : Value) (wr : World) : Prop := ∃ (k r cr : Nat) (Q R : List Bool) (ar : Option Addr), k ≤ A.length ∧ i = .int .i64 ((k : Int) - 1) ∧ rv = .slice ar R.length cr ∧ NormB R r ∧ BA wr ar R ∧ Fresh (w.heap.size + 1) ar ∧ R.length ≤ cr ∧ cr ≤ 9223372036854775807 ∧ r < y ∧ BB wr w.heap.size Q ∧ Q.length = A.length ∧ (∀ i, i < k → Q.getD i false = false) ∧ Upd [] w wr ∧ nb (Q.drop k) * y + r = nb (A.drop k)

set_option maxHeartbeats 4000000 in
set_option maxRecDepth 100000 in
theorem parts_core (a b : Option Addr) (ca cb y : Nat) (A B : List Bool) (w : World) (hA : A.length ≤ 2500) (hB : B.length ≤ 2500) (HA : BA w a A) (HB : BA w b B) (nB : NormB B y) (hy : 0 < y) :
    Calls Tryz.prog 141 #[.slice a A.length ca, .slice b B.length cb] w fun e w' => Upd [] w w' ∧ ∃ aq cq Q ar cr R, e = .returned (.tuple #[.slice aq Q.length cq, .slice ar R.length cr]) ∧ NormB Q (nb A / y) ∧ BA w' aq Q ∧ Q.length ≤ cq ∧ cq ≤ 9223372036854775807 ∧ NormB R (nb A % y) ∧ BA w' ar R ∧ R.length ≤ cr ∧ cr ≤ 9223372036854775807 ∧ Q.length ≤ A.length := by
  have HNB : Hid (NormB B y) := nB
  clear nB
  go_enter Tryz.func141, Tryz.ntmps141
  go_wp2_with (at_make; refine make_bool _ rfl _ _ rfl _ _ A.length rfl rfl (by omega) (by omega) (by omega) ?_; intro w0 hq0 hu0)
  go_loopw [7, 8] (PartInv w A y) (fun _ i _ => (intOf i + 1).toNat)
  case atStart =>
    refine ⟨A.length, 0, 0, List.replicate A.length false, [], none, Nat.le_refl _, by go_num, rfl, NormB.zero, BA.nil _ _, Fresh.nil _, by simp, by omega, hy, hq0, by simp, fun i hi => by simp [hi], hu0, ?_⟩
    rw [List.drop_of_length_le (by simp), List.drop_of_length_le (Nat.le_refl _)]; simp [nb]
  case round =>
    obtain ⟨k, r, cr, Q, R, ar, hk, rfl, rfl, nR, hR, hF, hcr, hcr2, hry, hQ, hQl, hz, hU, he⟩ := hrel
    have HNR : Hid (NormB R r) := nR
    have HQL : Hid (Q.length = A.length) := hQl
    have HZ : Hid (∀ i, i < k → Q.getD i false = false) := hz
    have HE : Hid (nb (Q.drop k) * y + r = nb (A.drop k)) := he
    have hRl : R.length ≤ B.length := (nR.len_le B.length).2 (Nat.lt_trans hry ((HNB.out.len_le B.length).1 (Nat.le_refl _)))
    clear nR hQl hz he hq0 hu0
    by_cases hk0 : k = 0
    · subst hk0
      go_wp2_with fail
      have hlq := HQL.out
      rw [← hlq]
      refine (cut_any (some ⟨w.heap.size, 0, none⟩) Q.length Q wr (by omega) (Nat.le_refl _) (by omega) hQ.ba).mono ?_
      rintro e w2 ⟨rfl, c2, M, rfl, nM, hM, hMl, hd1, hd2⟩
      go_wp2
      go_ret2
      have hv := HE.out
      rw [List.drop_zero, List.drop_zero] at hv
      obtain ⟨e1, e2⟩ := div_end _ _ _ _ hry hv
      exact ⟨hU, _, c2, M, ar, cr, R, rfl, e1 ▸ nM, hM, hd1, hd2, e2 ▸ HNR.out, hR, hcr, hcr2, by omega⟩
    · obtain ⟨j, rfl⟩ : ∃ j, k = j + 1 := ⟨k - 1, by omega⟩
      rcases HA.mono hU with h | ⟨ba, oa, rfl, hlta, hca⟩
      · rw [h] at hk; simp at hk
      have hcx := hca j (by omega)
      obtain ⟨x, hx⟩ : ∃ x, x = A.getD j false := ⟨_, rfl⟩
      rw [← hx] at hcx
      have HX : Hid (x = A.getD j false) := hx
      clear hx hca
      have hsz := hU.size
      have hqlt := hQ.lt
      go_wp2_with (at_builtin; refine append_bool _ rfl _ _ rfl wr.heap.size [x] R ar 1 cr (by simp) (by omega) rfl rfl (BB.one wr x) rfl (hR.mono ((Upd.refl [] wr).alloc _)) ?_; intro g' cap' w2 hg' hBA hU2 hc1 hc2)
      have hU02 := (hU.alloc (.cells #[.bool x] 4)).then hU2 (by simp; omega)
      have hQ2 := (hQ.mono ((Upd.refl [] wr).alloc (.cells #[.bool x] 4)) (by simp)).mono hU2 (by simp; omega)
      clear hU2 hQ hR
      refine (cut_any (some ⟨g', 0, none⟩) cap' ([x] ++ R) w2 (by simp; omega) hc1 hc2 hBA).mono ?_
      rintro e w3 ⟨hw3, c2, M, rfl, nM, hM, hMl, hd1, hd2⟩
      rw [hw3]
      clear hw3 hBA
      have hnb : nb ([x] ++ R) = x.toNat + 2 * r := by rw [← HNR.out.eq]; rfl
      rw [hnb] at nM
      have HNM : Hid (NormB M (x.toNat + 2 * r)) := nM
      have hMl2 : M.length ≤ B.length + 1 := by simp at hMl; omega
      clear nM hnb hMl
      go_wp2_with fail
      refine (below_any (some ⟨g', 0, none⟩) b c2 cb _ _ M B w2 (by omega) (by omega) hM (HB.mono hU02) HNM.out.eq HNB.out.eq).mono ?_
      rintro e w3 ⟨rfl, hw3⟩
      rw [hw3]
      clear hw3
      by_cases hlt : x.toNat + 2 * r < y
      · rw [decide_eq_true hlt]
        have HLT : Hid _ := hlt
        clear hlt
        go_wp2
        go_roundw
        case rel =>
          refine ⟨j, _, c2, Q, M, some ⟨g', 0, none⟩, by omega, by go_num, rfl, HNM.out, hM, Fresh.mem (by omega), hd1, hd2, HLT.out, hQ2, HQL.out, fun i hi => HZ.out i (by omega), hU02, ?_⟩
          rw [HX.out]
          exact part_no Q A j r y (HZ.out j (by omega)) HE.out
        case measure => simp [intOf]
      · rw [decide_eq_false hlt]
        have HLT : Hid (y ≤ x.toNat + 2 * r) := by show y ≤ x.toNat + 2 * r; omega
        clear hlt
        go_wp2_with fail
        refine (rless_any (some ⟨g', 0, none⟩) b c2 cb _ _ M B w2 (by omega) hM (HB.mono hU02) HNM.out.eq HNB.out (by have := HLT.out; omega)).mono ?_
        rintro e w4 ⟨hU4, a4, c4, M4, rfl, nM4, hM4, hF4, hd41, hd42, hl4⟩
        have HNM4 : Hid (NormB M4 (x.toNat + 2 * r - y)) := nM4
        have hQ4 := hQ2.mono hU4 (by simp)
        have hcell := hQ4.cell j (by rw [HQL.out]; omega)
        have hfree := hQ4.free j
        have hU04 := hU02.trans hU4
        have hz2 := hU02.size
        have hlt2 := hQ2.lt
        clear nM4 hU4 hQ2
        go_wp2
        go_roundw
        case rel =>
          refine ⟨j, _, c4, Q.set j true, M4, a4, by omega, by go_num, rfl, HNM4.out, ?_, hF4.le (by omega), hd41, hd42, ?_, hQ4.set j true, by rw [List.length_set]; exact HQL.out, ?_, hU04.setCell (Or.inl (Nat.le_refl _)) _, ?_⟩
          · refine hM4.keep ((Upd.refl [w.heap.size] w4).setCell (Or.inr (by simp)) _) (fun p hp => ?_)
            have := hF4 p hp
            simp; omega
          · have h1 := toNat_le x; have := HLT.out; omega
          · intro i hi
            rw [List.getD_eq_getElem?_getD, List.getElem?_set_ne (by omega), ← List.getD_eq_getElem?_getD]
            exact HZ.out i (by omega)
          · have hlt3 := HLT.out
            rw [HX.out] at hlt3 ⊢
            exact part_yes Q A j r y (by rw [HQL.out]; omega) HE.out (by omega)
        case measure => simp [intOf]

/-- parts: quotient and rest of two amounts. -/
theorem parts_any (a b : Option Addr) (ca cb x y : Nat) (A B : List Bool) (w : World) (hA : A.length ≤ 2500) (hB : B.length ≤ 2500) (HA : BA w a A) (HB : BA w b B) (nA : nb A = x) (nB : NormB B y) (hy : 0 < y) :
    Calls Tryz.prog 141 #[.slice a A.length ca, .slice b B.length cb] w fun e w' => Upd [] w w' ∧ ∃ aq cq Q ar cr R, e = .returned (.tuple #[.slice aq Q.length cq, .slice ar R.length cr]) ∧ NormB Q (x / y) ∧ BA w' aq Q ∧ Q.length ≤ cq ∧ cq ≤ 9223372036854775807 ∧ NormB R (x % y) ∧ BA w' ar R ∧ R.length ≤ cr ∧ cr ≤ 9223372036854775807 ∧ Q.length ≤ A.length := by
  subst nA
  exact parts_core a b ca cb y A B w hA hB HA HB nB hy

end Go.Proofs.YtabknipgbmdipaaGreatDoor

/- scaled, by its contract. -/
namespace Go.Proofs.YtabknipgbmdipaaGreatDoor
open Go.RowKit

end Go.Proofs.YtabknipgbmdipaaGreatDoor

/- Parse, of an integer's text. -/
namespace Go.Proofs.YtabknipgbmdipaaGreatDoor
open Go.RowKit

theorem bs_size (T : List Nat) : (bs T).size = T.length := by simp [bs, ByteArray.size]

end Go.Proofs.YtabknipgbmdipaaGreatDoor

/- Parse, of the text of z. -/
namespace Go.Proofs.YtabknipgbmdipaaGreatDoor
open Go.RowKit

theorem bs_data (T : List Nat) : (bs T).data.toList = T.map (fun n => UInt8.ofNat n) := by simp [bs]

theorem bytes_ext {s t : ByteArray} (h : s.data.toList = t.data.toList) : s = t := by
  cases s; cases t
  congr 1
  exact Array.toList_inj.1 h

end Go.Proofs.YtabknipgbmdipaaGreatDoor

/- Text of the reference, by its contract. -/
namespace Go.Proofs.YtabknipgbmdipaaGreatDoor
open Go.RowKit

/-- What is written so far, and what is left. -/
def TxInv (W : World) (n g : Nat) (lv sv : Value) (wr : World) : Prop := ∃ (cl : Nat) (L : List Bool) (al : Option Addr) (T : List Nat), lv = .slice al L.length cl ∧ sv = .string (bs T) ∧ NormB L g ∧ BA wr al L ∧ L.length ≤ 1024 ∧ IsDig T ∧ T.length ≤ 400 ∧ dval T.reverse + 10 ^ T.length * g = n ∧ (g = 0 → T ≠ [] → T.getD 0 0 ≠ 48) ∧ Upd [] W wr

theorem BB.four (w : World) (x y z t : Bool) : BB (w.alloc (.cells #[.bool x, .bool y, .bool z, .bool t] 4)) w.heap.size [x, y, z, t] := heap_alloc_new w _

theorem bs_cons (x : Nat) (T : List Nat) : bs (x :: T) = bs [x] ++ bs T := by
  apply bytes_ext
  rw [bs_data, ByteArray.data_append, Array.toList_append, bs_data, bs_data]
  simp
theorem text_step (T : List Nat) (g d : Nat) (hd : d = g % 10) : dval ((48 + d) :: T).reverse + 10 ^ ((48 + d) :: T).length * (g / 10) = dval T.reverse + 10 ^ T.length * g := by
  rw [List.reverse_cons, dval_append, dval_one, List.length_reverse, List.length_cons, Nat.pow_succ, Nat.mul_assoc, Nat.add_assoc, ← Nat.mul_add, hd, Nat.mod_add_div]

set_option maxHeartbeats 4000000 in
set_option maxRecDepth 100000 in
theorem rText_core (a ai at' : Option Addr) (c ci ct : Nat) (neg : Bool) (A : List Nat) (z : Int) (w : World) (HT : TI w neg a A z) :
    Calls Tryz.prog 88 #[.agg #[.int .u8 1, .bool neg, .slice a A.length c, .string ⟨#[]⟩, .int .i64 0, .slice ai 0 ci, .slice at' 0 ct]] w fun e w' => Upd [] w w' ∧ ∃ T, e = .returned (.string (bs T)) ∧ IsText T z := by
  have IA : Hid (TI w neg a A z) := HT
  clear HT
  go_enter Tryz.func88, Tryz.ntmps88
  go_wp2_with fail
  have u0 := (Upd.refl [] w).alloc (.cells #[.int .u8 1, .bool neg, .slice a A.length c, .string ⟨#[]⟩, .int .i64 0, .slice ai 0 ci, .slice at' 0 ct] 26)
  have t0 := Tb.new w #[.int .u8 1, .bool neg, .slice a A.length c, .string ⟨#[]⟩, .int .i64 0, .slice ai 0 ci, .slice at' 0 ct] _ rfl
  refine (TI.rRight (TI.mono IA.out u0) ai at' c ci ct).mono ?_
  rintro e w1 ⟨rfl, h1⟩
  have u1 := u0.trans h1
  have t1 := t0.mono h1 (by simp)
  clear u0 t0 h1
  go_wp2_with (first | (refine load_G _ _ rfl _ _ rfl t1 rfl rfl ?_))
  refine (bits_any a ai at' c ci ct neg A z w1 (TI.mono IA.out u1)).mono ?_
  rintro e w2 ⟨h2, al, cl, L, rfl, nL, hL, _, hc1, hc2⟩
  have u2 := u1.trans h2
  have t2 := t1.mono h2 (by simp)
  have hz1 : z.natAbs < 2 ^ 1024 := by rw [← pow_eq]; exact IA.out.small
  have hLl := (nL.len_le 1024).2 hz1
  have HNL : Hid (NormB L z.natAbs) := nL
  have U2 : Hid (Upd [] w w2) := u2
  have T2 : Hid (Tb w2 w.heap.size #[.int .u8 1, .bool neg, .slice a A.length c, .string ⟨#[]⟩, .int .i64 0, .slice ai 0 ci, .slice at' 0 ct]) := t2
  have HSG : Hid (neg = decide (z < 0)) := IA.out.sgn
  have HZ32 : Hid (z.natAbs < 4294967296 ^ 32) := IA.out.small
  clear u1 t1 h2 hz1 nL u2 t2 IA
  go_wp2_with fail
  go_loopg [3, 4] z.natAbs (TxInv w2 z.natAbs)
  case atStart => exact ⟨cl, L, al, [], rfl, rfl, HNL.out, hL, hLl, fun c h => by simp at h, by simp, by simp [dval], fun _ h => absurd rfl h, Upd.refl _ _⟩
  case round =>
    rename World => wo
    rename Nat => gq
    obtain ⟨cl', L', al', T, rfl, rfl, nL', hL', hLl', hdT, hTl, hvT, htop, hU⟩ := hrel
    have HV : Hid (dval T.reverse + 10 ^ T.length * gq = z.natAbs) := hvT
    have HNL' : Hid (NormB L' gq) := nL'
    have HTOP : Hid (gq = 0 → T ≠ [] → T.getD 0 0 ≠ 48) := htop
    clear hvT htop
    by_cases hg : gq = 0
    · subst hg
      have hL0 : L' = [] := nL'.nil_iff.2 rfl
      subst hL0
      have hn : dval T.reverse = z.natAbs := by simpa using HV.out
      have HN : Hid (dval T.reverse = z.natAbs) := hn
      have t3 := T2.out.mono hU (by simp)
      have c1 := t3.cell 1
      clear hn nL'
      by_cases hT0 : T = []
      · subst hT0
        have hz0 : z = 0 := by have := HN.out; simp [dval] at this; omega
        have hng : neg = false := by rw [HSG.out, hz0]; rfl
        subst hng
        have hbe : (bs ([] : List Nat)).toList.isEmpty = true := by rw [← decide_eq_emptyBytes]; exact decide_eq_true rfl
        subst hz0
        go_wp2
        go_ret
        exact ⟨U2.out.trans hU, [48], rfl, [48], by simp, Or.inl ⟨rfl, rfl⟩⟩
      · have hbe : (bs T).toList.isEmpty = false := by
          rw [← decide_eq_emptyBytes]
          simp only [decide_eq_false_iff_not]
          intro e
          have := congrArg ByteArray.size e
          rw [bs_size] at this
          exact hT0 (List.eq_nil_of_length_eq_zero this)
        have HTX : Hid (NormD T.reverse z.natAbs) := by
          refine ⟨fun c hc => hdT c (List.mem_reverse.1 hc), HN.out, fun x hx => ?_⟩
          rw [List.getLast?_reverse] at hx
          have := HTOP.out rfl hT0
          cases T with
          | nil => exact absurd rfl hT0
          | cons y t => simp at hx this; omega
        have HP : Hid (0 < z.natAbs) := by
          show 0 < z.natAbs
          have := dval_pos_of_top HTX.out.dig (by simpa using hT0) HTX.out.top
          rw [HTX.out.eq] at this; exact this
        have hbT : (bs T).size ≤ 400 := by rw [bs_size]; exact hTl
        cases neg
        · have hzn : ¬ z < 0 := by have := HSG.out; simpa using this.symm
          have HZN : Hid (¬ z < 0) := hzn
          clear hzn
          go_wp2
          go_ret
          exact ⟨U2.out.trans hU, T, rfl, T, by rw [if_neg (by have := HZN.out; omega)], Or.inr ⟨by have := HP.out; omega, HTX.out⟩⟩
        · have hzn : z < 0 := by have := HSG.out; simpa using this.symm
          have HZN : Hid (z < 0) := hzn
          clear hzn
          go_wp2
          go_ret
          refine ⟨U2.out.trans hU, 45 :: T, ?_, T, by rw [if_pos HZN.out], Or.inr ⟨by have := HP.out; omega, HTX.out⟩⟩
          rw [bs_cons]
          rfl
    · have hpos : 0 < L'.length := by
        cases L' with
        | nil => exact absurd (nL'.nil_iff.1 rfl) hg
        | cons x t => simp
      clear nL'
      go_wp2_with fail
      refine (parts_any al' (some ⟨wo.heap.size, 0, none⟩) cl' 4 gq 10 L' [false, true, false, true] _ (by omega) (by simp) (hL'.mono ((Upd.refl [] wo).alloc _)) (BB.four wo false true false true).ba HNL'.out.eq ⟨rfl, fun x hx => by simp at hx; exact hx⟩ (by omega)).mono ?_
      rintro e w3 ⟨h3, aq, cq, Q, ar, cr, R, rfl, nQ, hQ, hq1, hq2, nR, hR, hr1, hr2, hQl⟩
      have hU3 := (hU.alloc (.cells #[.bool false, .bool true, .bool false, .bool true] 4)).trans h3
      obtain ⟨r, hr⟩ : ∃ r, r = gq % 10 := ⟨_, rfl⟩
      have hr9 : r ≤ 9 := by omega
      rw [← hr] at nR
      have hRl := (nR.len_le 4).2 (by omega)
      have HNQ : Hid (NormB Q (gq / 10)) := nQ
      have HNR : Hid (NormB R r) := nR
      have HR : Hid (r = gq % 10) := hr
      clear nQ nR hr h3 hL'
      go_wp2_with fail
      go_loopw [7, 8] (fun dv i wr => ∃ k : Nat, k ≤ R.length ∧ i = .int .i64 ((k : Int) - 1) ∧ dv = .int .i64 (nb (R.drop k) : Nat) ∧ wr = w3) (fun _ i _ => (intOf i + 1).toNat)
      case atStart => exact ⟨R.length, Nat.le_refl _, by go_num, by rw [List.drop_of_length_le (Nat.le_refl _)]; rfl, by simp⟩
      case round =>
        obtain ⟨k, hk, rfl, hdv, hwr⟩ := hrel
        obtain ⟨dd, hdd⟩ : ∃ dd, dd = nb (R.drop k) := ⟨_, rfl⟩
        rw [← hdd] at hdv
        have hdl : dd ≤ 15 := by
          have h1 := nb_lt (R.drop k)
          have h2 : 2 ^ (R.drop k).length ≤ 2 ^ 4 := Nat.pow_le_pow_right (by decide) (by simp; omega)
          rw [← hdd] at h1
          omega
        have HDD : Hid (dd = nb (R.drop k)) := hdd
        subst hdv
        rw [hwr]
        clear hdd hwr
        by_cases hk0 : k = 0
        · subst hk0
          have hdr : dd = r := by rw [HDD.out, List.drop_zero, HNR.out.eq]
          subst hdr
          have hconv : (convert 52 9 (.slice (some ⟨w3.heap.size, 0, none⟩) 1 1)).run Tryz.prog (w3.alloc (.cells #[.int .u8 (48 + (dd : Int))] 5)) = .ok (.string (bs [48 + dd])) (w3.alloc (.cells #[.int .u8 (48 + (dd : Int))] 5)) := by
            have hb : BRow (w3.alloc (.cells #[.int .u8 (48 + (dd : Int))] 5)) w3.heap.size [48 + dd] [] := by
              unfold BRow
              rw [heap_alloc_new]
              simp
            have := hb.conv (cap := 1) (fun c hc => by simp at hc; omega)
            simpa using this
          have hb1 : (bs [48 + dd]).size = 1 := by rw [bs_size]; rfl
          have hbT : (bs T).size ≤ 400 := by
            rw [bs_size]
            have := digits_few T.reverse gq z.natAbs (by omega) (by rw [List.length_reverse]; exact HV.out) HZ32.out
            rw [List.length_reverse] at this; omega
          go_wp2
          go_roundg (gq / 10)
          case measure => exact Nat.div_lt_self (by omega) (by decide)
          case rel =>
            refine ⟨cq, Q, aq, (48 + dd) :: T, rfl, by rw [← bs_cons], HNQ.out, hQ.mono ((Upd.refl [] w3).alloc _), by omega, ?_, by rw [bs_size] at hbT; have := digits_few T.reverse gq z.natAbs (by omega) (by rw [List.length_reverse]; exact HV.out) HZ32.out; rw [List.length_reverse] at this; simp; omega, ?_, ?_, hU3.alloc _⟩
            · intro c hc
              rcases List.mem_cons.1 hc with h | h
              · omega
              · exact hdT c h
            · rw [← HV.out]; exact text_step T gq dd HR.out
            · intro h0 _
              have := HR.out
              simp
              omega
        · obtain ⟨j, rfl⟩ : ∃ j, k = j + 1 := ⟨k - 1, by omega⟩
          rcases hR with h | ⟨rb, ro, rfl, hltr, hcr⟩
          · rw [h] at hk; simp at hk
          have hcx := hcr j (by omega)
          obtain ⟨x, hx⟩ : ∃ x, x = R.getD j false := ⟨_, rfl⟩
          rw [← hx] at hcx
          have HX : Hid (x = R.getD j false) := hx
          clear hx hcr
          cases x
          · go_wp2
            go_roundw
            case rel =>
              refine ⟨j, by omega, by go_num, ?_, by simp⟩
              rw [nb_drop, ← HX.out, ← HDD.out]
              simp
            case measure => simp [intOf]
          · go_wp2
            go_roundw
            case rel =>
              refine ⟨j, by omega, by go_num, ?_, by simp⟩
              rw [nb_drop, ← HX.out, ← HDD.out]
              simp
              omega
            case measure => simp [intOf]

end Go.Proofs.YtabknipgbmdipaaGreatDoor

/- timesLimbs, by its contract. -/
namespace Go.Proofs.YtabknipgbmdipaaGreatDoor
open Go.RowKit

end Go.Proofs.YtabknipgbmdipaaGreatDoor

/- takeDigit, by its contract. -/
namespace Go.Proofs.YtabknipgbmdipaaGreatDoor
open Go.RowKit

end Go.Proofs.YtabknipgbmdipaaGreatDoor

/- divLimbs, by its contract. -/
namespace Go.Proofs.YtabknipgbmdipaaGreatDoor
open Go.RowKit

end Go.Proofs.YtabknipgbmdipaaGreatDoor

/- Times. -/
namespace Go.Proofs.YtabknipgbmdipaaGreatDoor
open Go.RowKit

theorem seven {w : World} {g : Nat} (h : Tb w g #[.int .u8 0, .bool false, .slice none 0 0, .string ⟨#[]⟩, .int .i64 0, .slice none 0 0, .slice none 0 0]) (v0 v1 v2 v3 v4 v5 v6 : Value) :
    Tb (((((((w.setCell ⟨g, 0, none⟩ v0).setCell ⟨g, 1, none⟩ v1).setCell ⟨g, 2, none⟩ v2).setCell ⟨g, 3, none⟩ v3).setCell ⟨g, 4, none⟩ v4).setCell ⟨g, 5, none⟩ v5).setCell ⟨g, 6, none⟩ v6) g #[v0, v1, v2, v3, v4, v5, v6] ∧
    Upd [g] w (((((((w.setCell ⟨g, 0, none⟩ v0).setCell ⟨g, 1, none⟩ v1).setCell ⟨g, 2, none⟩ v2).setCell ⟨g, 3, none⟩ v3).setCell ⟨g, 4, none⟩ v4).setCell ⟨g, 5, none⟩ v5).setCell ⟨g, 6, none⟩ v6) := by
  refine ⟨?_, ?_⟩
  · have h7 := ((((((h.set 0 v0).set 1 v1).set 2 v2).set 3 v3).set 4 v4).set 5 v5).set 6 v6
    simp only [List.setIfInBounds_toArray, List.set_cons_zero, List.set_cons_succ] at h7
    exact h7
  · have hm : ∀ i, w.heap.size ≤ (⟨g, i, none⟩ : Addr).block ∨ (⟨g, i, none⟩ : Addr).block ∈ [g] := fun i => Or.inr (by simp)
    exact (((((((Upd.refl [g] w).setCell (hm 0) v0).setCell (hm 1) v1).setCell (hm 2) v2).setCell (hm 3) v3).setCell (hm 4) v4).setCell (hm 5) v5).setCell (hm 6) v6
end Go.Proofs.YtabknipgbmdipaaGreatDoor

/- Div. -/
namespace Go.Proofs.YtabknipgbmdipaaGreatDoor
open Go.RowKit

end Go.Proofs.YtabknipgbmdipaaGreatDoor
