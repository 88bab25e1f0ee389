/- What is lent: each row in a block of its own, with its room. -/
import Derived.Test.YtalhbbabijlngaaGreatDoorJBB
import Derived.Test.YtalhbbabijlngaaGreatDoorJBC
import Derived.Test.YtalhbbabijlngaaGreatDoorJAZ
import Derived.Test.YtalhbbabijlngaaGreatDoorJBA
import Derived.Test.YtalhbbabijlngaaGreatDoorAwkT
import Derived.Test.YtalhbbabijlngaaGreatDoorJBF
import Derived.Test.YtalhbbabijlngaaGreatDoorJAW
import Derived.Test.YtalhbbabijlngaaGreatDoorJAO
import Derived.Test.YtalhbbabijlngaaGreatDoorJAX
import Derived.Test.YtalhbbabijlngaaGreatDoorJAT
namespace Go.Proofs.YtalhbbabijlngaaGreatDoor
open Go.RowKit
theorem ou_there {w : World} {base g n cap : Nat} {X : List Nat} (h : OU w base (.slice (some ⟨g, 0, none⟩) n cap) X) : w.there g 0 cap ∧ g < w.heap.size := by
 obtain ⟨_, ⟨e, _⟩ | ⟨g', cap', cur, hv, _, hh, _, _, hcs, _⟩⟩ := h
 ·cases e
 ·simp only [Value.slice.injEq, Option.some.injEq, Addr.mk.injEq, and_true] at hv
  obtain ⟨rfl, _, rfl⟩ := hv
  refine ⟨fun j hj => ⟨?_, frozen_of_row _ _ _ _ _ hh⟩, lt_of_block hh⟩
  rw [cell_of_row _ _ _ _ _ _ hh, Array.getElem?_eq_getElem (by omega)]; rfl
theorem ot_there {w : World} {g k cap : Nat} {C : List (List Value)} (h : OT w g k cap C) : w.there g 0 (cap * 7) := by
 obtain ⟨_, ⟨e, _⟩ | ⟨g', cap', cur, hv, _, hh, _, _, hcs, _⟩⟩ := h
 ·cases e
 ·simp only [Value.slice.injEq, Option.some.injEq, Addr.mk.injEq, and_true] at hv
  obtain ⟨rfl, _, rfl⟩ := hv
  refine fun j hj => ⟨?_, frozen_of_row _ _ _ _ _ hh⟩
  rw [cell_of_row _ _ _ _ _ _ hh, Array.getElem?_eq_getElem (by omega)]; rfl
def KidsS (base : Nat) (wr : World) (d : Nat) (C : List (List Value)) (I : List Tm) : Prop := ∃ ls rs : Nat → List Value, (∀ j (hj : j < C.length) (hi : j < I.length), BT 12 wr d C[j] I[j] (ls j) (rs j) ∧ Apt (ls j) (rs j) ∧ ∀ x, x ∈ KB (ls j) (rs j) → base < x) ∧ ∀ i j x, i < C.length → j < C.length → i ≠ j → x ∈ KB (ls i) (rs i) → x ∉ KB (ls j) (rs j)
theorem KidsS.nil (base : Nat) (wr : World) (d : Nat) (I : List Tm) : KidsS base wr d [] I := ⟨fun _ => [], fun _ => [], fun j hj => by simp at hj, fun i j x hi => by simp at hi⟩
theorem KidsS.keep {base d : Nat} {w w' : World} {C : List (List Value)} {I : List Tm} (h : KidsS base w d C I) (_hC : C.length ≤ I.length) (hu : Upd [base] w w') : KidsS base w' d C I := by
 obtain ⟨ls, rs, h1, h2⟩ := h
 refine ⟨ls, rs, fun j hj hi => ?_, h2⟩
 obtain ⟨a1, a2, a3⟩ := h1 j hj hi
 exact ⟨BT.upd hu _ _ _ _ _ (fun x hx hm => by have := a3 x hx; simp at hm; omega) a1, a2, a3⟩
theorem KidsS.snoc {base d : Nat} {w w1 w' : World} {C : List (List Value)} {I : List Tm} {cs l r : List Value} (h : KidsS base w d C I) (hC : C.length < I.length) (hb : base < w.heap.size) (hu : Upd [base] w w') (hu1 : Upd [base] w1 w') (hbt : BT 12 w1 d cs I[C.length] l r) (ha : Apt l r) (hl : ∀ x, x ∈ KB l r → w.heap.size ≤ x) : KidsS base w' d (C ++ [cs]) I := by
 obtain ⟨ls, rs, h1, h2⟩ := h.keep (Nat.le_of_lt hC) hu
 obtain ⟨ls0, rs0, g1, g2⟩ := h
 refine ⟨fun j => if j < C.length then ls0 j else l, fun j => if j < C.length then rs0 j else r, fun j hj hi => ?_, fun i j x hi hj hij hx => ?_⟩
 ·by_cases hjC : j < C.length
  ·simp only [hjC, if_true]
   rw [List.getElem_append_left hjC]
   obtain ⟨a1, a2, a3⟩ := g1 j hjC hi
   exact ⟨BT.upd hu _ _ _ _ _ (fun x hx hm => by have := a3 x hx; simp at hm; omega) a1, a2, a3⟩
  ·have e : j = C.length := by simp at hj; omega
   subst e
   simp only [Nat.lt_irrefl, if_false]
   rw [List.getElem_append_right (Nat.le_refl _)]
   simp only [Nat.sub_self, List.getElem_cons_zero]
   exact ⟨BT.upd hu1 _ _ _ _ _ (fun x hx hm => by have := hl x hx; simp at hm; omega) hbt, ha, fun x hx => by have := hl x hx; omega⟩
 ·simp at hi hj
  by_cases hiC : i < C.length <;> by_cases hjC : j < C.length
  ·simp only [hiC, hjC, if_true] at hx ⊢
   exact g2 i j x hiC hjC hij hx
  ·simp only [hiC, hjC, if_true, if_false] at hx ⊢
   intro hx2
   have h3 := hl x hx2
   have h4 := BT.lt _ _ _ _ _ (g1 i hiC (by omega)).1 x hx
   omega
  ·simp only [hiC, hjC, if_true, if_false] at hx ⊢
   intro hx2
   have h3 := hl x hx
   have h4 := BT.lt _ _ _ _ _ (g1 j hjC (by omega)).1 x hx2
   omega
  ·omega
set_option maxHeartbeats 4000000 in
set_option maxRecDepth 100000 in
theorem LentLimbs_sep (a : Option Addr) (c : Nat) (L : List Nat) (w : World) (hL : L.length ≤ 35184372088700) (HL : At w a L) :
  Calls Tryz.prog 36 #[.slice a L.length c] w fun e w' => Upd [] w w' ∧ ∃ g cap, e = .returned (.slice (some ⟨g, 0, none⟩) L.length cap) ∧ w.heap.size ≤ g ∧ At w' (some ⟨g, 0, none⟩) (L ++ marks) ∧ L.length + 12 ≤ cap ∧ cap ≤ 9223372036854775807 ∧ w'.there g 0 cap ∧ g < w'.heap.size := by
 obtain ⟨i0, hi, hz0, hz1, hz2⟩ := info_parts info_u32
 go_enter Tryz.func36, Tryz.ntmps36
 go_wp2_with (first
  | (at_make; refine wpList_make_own _ rfl _ _ 23 rfl w.heap.size 47 i0 (.int .u32 0) 1 Tryz.underlying23 hi hz0 hz1 .i64 .i64 _ (L.length + 12) rfl rfl (by simp) (by rw [hz2]; omega) (by unfold maxLen; omega) (Nat.le_refl _) ?_; intro w0 hown0 hgr0; have hU0 : Upd [] w w0 := (Upd.refl [] w).grown hgr0 (fun k hk => by cases hk); have hO0 : OU w0 w.heap.size (.slice (some ⟨w.heap.size, 0, none⟩) 0 (L.length + 12)) [] := hown0)
  | (at_builtin; refine append_ou _ rfl _ _ rfl w.heap.size [] L (.slice (some ⟨w.heap.size, 0, none⟩) 0 (L.length + 12)) a c (by simp; omega) rfl hO0 (by simp) rfl (HL.mono hU0) hU0.size w hU0 (Nat.le_refl _) ?_; intro v1 w1 hO1 hv1 hU1))
 rw [List.nil_append] at hO1
 clear hown0 hgr0 hO0 hU0
 go_loopw [3, 4] (fun v i wr => ∃ j : Nat, j ≤ 12 ∧ i = .int .i64 j ∧ OU wr w.heap.size v (L ++ marks.take j) ∧ v ≠ .slice none 0 0 ∧ Upd [] w wr) (fun _ i _ => 12 - (intOf i).toNat)
 case atStart => exact ⟨0, by omega, rfl, by rw [List.take_zero, List.append_nil]; exact hO1, hv1, hU1⟩
 case round =>
  obtain ⟨j, hj, rfl, hO, hv, hU⟩ := hrel
  have hml : (marks.take j).length = j := by rw [List.length_take]; show min j 12 = j; omega
  obtain ⟨g, cap, hvv, hbg, hlt, hc1, hc2, hat⟩ := hO.form hv
  rw [List.length_append, hml] at hvv hc1
  subst hvv
  have HO : Hid (OU wr w.heap.size (.slice (some ⟨g, 0, none⟩) (L.length + j) cap) (L ++ marks.take j)) := hO
  have HML : Hid ((marks.take j).length = j) := hml
  have hszr := hU.size
  clear hO hv hml hO1 hv1 hU1
  by_cases hj2 : j < 12
  ·go_wp2_with fail
   refine (mark_any j wr hj2).mono ?_
   rintro e w2 ⟨rfl, hw2⟩
   rw [hw2]
   clear hw2
   have hA1 : At (wr.alloc (.cells #[.int .u32 ((8000024 + j : Nat) : Int)] 47)) (some ⟨wr.heap.size, 0, none⟩) [8000024 + j] := by
    refine Or.inr ⟨wr.heap.size, 0, rfl, by simp, fun i hi => ?_⟩
    have : i = 0 := by simp at hi; omega
    subst this
    rw [cell_of_row _ wr.heap.size _ _ _ _ (heap_alloc_new wr _)]
    rfl
   go_wp2_with (at_builtin; refine append_ou _ rfl _ _ rfl w.heap.size (L ++ marks.take j) [8000024 + j] (.slice (some ⟨g, 0, none⟩) (L.length + j) cap) (some ⟨wr.heap.size, 0, none⟩) 1 (by rw [List.length_append, HML.out]; simp; omega) rfl ?_ (by simp) rfl hA1 (by simp; omega) w (hU.alloc _) (Nat.le_refl _) ?_; (exact World.ownsRow.alloc HO.out _); intro v3 w3 hO3 hv3 hU3)
   go_roundw
   case rel => exact ⟨j + 1, by omega, by go_num, by rw [marks_step j hj2, ← List.append_assoc]; exact hO3, hv3, hU3⟩
   case measure => simp [intOf]; omega
  ·have hj12 : j = 12 := by omega
   subst hj12
   go_wp2
   go_ret
   exact ⟨hU, g, cap, rfl, hbg, hat, by omega, hc2, (ou_there HO.out).1, (ou_there HO.out).2⟩
def LentSaidS (d : Nat) : Prop := ∀ (w : World) (cs : List Value) (t : Tm), In w d cs t → tsz t ≤ 1353245080330 → Calls Tryz.prog 8 #[.agg cs.toArray] w fun e w' => Upd [] w w' ∧ ∃ cs', cs'.length = 7 ∧ e = .returned (.agg cs'.toArray) ∧ KIn (fun g => w.heap.size ≤ g) w' d cs' t ∧ ∃ LB RB, BT 12 w' d cs' t LB RB ∧ Apt LB RB ∧ ∀ x, x ∈ KB LB RB → w.heap.size ≤ x
def LentInvS (d : Nat) (w : World) (I : List Tm) (ov i : Value) (wr : World) : Prop := ∃ (k : Nat) (C : List (List Value)), k ≤ I.length ∧ i = .int .i64 k ∧ ov = .slice (some ⟨w.heap.size, 0, none⟩) k (I.length + 12) ∧ OT wr w.heap.size k (I.length + 12) C ∧ C.length = k ∧ (∀ j (hj : j < C.length) (hi : j < I.length), C[j].length = 7 ∧ KIn (fun g => w.heap.size < g) wr d C[j] I[j]) ∧ Upd [] w wr ∧ w.heap.size < wr.heap.size ∧ KidsS w.heap.size wr d C I
set_option maxHeartbeats 4000000 in
set_option maxRecDepth 100000 in
theorem LentTerms_sep (d : Nat) (ih : LentSaidS d) (w : World) (a : Option Addr) (c : Nat) (I : List Tm) (h : RowAt (In w d) w a I) (hs : tszs I ≤ 1353245080330) :
  Calls Tryz.prog 37 #[.slice a I.length c] w fun e w' => Upd [] w w' ∧ ∃ g cap, e = .returned (.slice (some ⟨g, 0, none⟩) I.length cap) ∧ RowK (fun g => w.heap.size ≤ g) (KIn (fun g => w.heap.size ≤ g) w' d) w' g cap I ∧ ∃ LB RB, RowBT 12 (BT 12 w' d) w' (.slice (some ⟨g, 0, none⟩) I.length cap) I LB RB ∧ Apt LB RB ∧ ∀ x, x ∈ KB LB RB → w.heap.size ≤ x := by
 obtain ⟨i0, hi, hz0, hz1, hz2⟩ := info_parts info_term3
 have hIl := tszs_len I
 have hlen : I.length ≤ 1353245080330 := by omega
 have HS : Hid (tszs I ≤ 1353245080330) := hs
 have HA : Hid (RowAt (In w d) w a I) := h
 have IH : Hid (LentSaidS d) := ih
 clear hIl hs h ih
 go_enter Tryz.func37, Tryz.ntmps37
 go_wp2_with (at_make; refine wpList_make_own _ rfl _ _ 24 rfl w.heap.size 26 i0 _ 7 Tryz.underlying24 hi hz0 hz1 .i64 .i64 _ (I.length + 12) rfl rfl (by simp) (by rw [hz2]; omega) (by unfold maxLen; omega) (Nat.le_refl _) ?_; intro w0 hown0 hgr0)
 have hU0 : Upd [] w w0 := (Upd.refl [] w).grown hgr0 (fun k hk => by cases hk)
 have hlt0 : w.heap.size < w0.heap.size := (World.ownsRow.lt hown0 w.heap.size rfl).2
 go_loopw [3, 4] (LentInvS d w I) (fun _ i _ => I.length - (intOf i).toNat)
 case atStart => exact ⟨0, [], Nat.zero_le _, rfl, rfl, hown0, rfl, fun j hj => (by simp at hj), hU0, hlt0, KidsS.nil _ _ _ _⟩
 case round =>
  obtain ⟨k, C, hk, rfl, rfl, hO, hC, hK, hU, hlt, hS⟩ := hrel
  have HSk : Hid (KidsS w.heap.size wr d C I) := hS
  clear hS
  by_cases hk2 : k < I.length
  ·rcases HA.out with h0 | ⟨b, o, rfl, hltb, hc⟩
   ·rw [h0] at hk2; simp at hk2
   obtain ⟨cs, hl7, hcell, hin⟩ := hc k hk2
   obtain ⟨q0, q1, q2, q3, q4, q5, q6, rfl⟩ := list7 hl7
   have HIN : Hid (In w d [q0, q1, q2, q3, q4, q5, q6] I[k]) := hin
   have HSZ : Hid (tsz I[k] ≤ 1353245080330) := Nat.le_trans (tszs_get I k hk2) HS.out
   have mc : ∀ j, j < 7 → wr.cell? ⟨b, o + (k * 7 + j), none⟩ = [q0, q1, q2, q3, q4, q5, q6][j]? := fun j hj => (hU.cell (p := ⟨b, o + (k * 7 + j), none⟩) hltb (by simp)).trans (hcell j hj)
   have x0 : wr.cell? ⟨b, o + k * 7, none⟩ = some q0 := mc 0 (by omega)
   have x1 : wr.cell? ⟨b, o + k * 7 + 1, none⟩ = some q1 := mc 1 (by omega)
   have x2 : wr.cell? ⟨b, o + k * 7 + 2, none⟩ = some q2 := mc 2 (by omega)
   have x3 : wr.cell? ⟨b, o + k * 7 + 3, none⟩ = some q3 := mc 3 (by omega)
   have x4 : wr.cell? ⟨b, o + k * 7 + 4, none⟩ = some q4 := mc 4 (by omega)
   have x5 : wr.cell? ⟨b, o + k * 7 + 5, none⟩ = some q5 := mc 5 (by omega)
   have x6 : wr.cell? ⟨b, o + k * 7 + 6, none⟩ = some q6 := mc 6 (by omega)
   have HO : Hid (OT wr w.heap.size k (I.length + 12) C) := hO
   have HK : Hid (∀ j (hj : j < C.length) (hi : j < I.length), C[j].length = 7 ∧ KIn (fun g => w.heap.size < g) wr d C[j] I[j]) := hK
   have HC : Hid (C.length = k) := hC
   clear hc hin hcell hl7 mc hO hK hC hown0 hgr0 hU0 hlt0
   go_wp2_with fail
   refine (IH.out wr [q0, q1, q2, q3, q4, q5, q6] I[k] (In.mono hU _ _ _ HIN.out) HSZ.out).mono ?_
   rintro e w1 ⟨hU1, cs', hl', rfl, hk', l1, r1, hb1, ha1, hl1⟩
   obtain ⟨k1, num1, neg1, s1, b1, b2, b3, n1, n2, n3, c1, c2, c3, rfl⟩ := hk'.shape
   have HKN : Hid (KIn (fun g => wr.heap.size ≤ g) w1 d [.int .u8 k1, .bool neg1, .slice b1 n1 c1, .string s1, .int .i64 num1, .slice b2 n2 c2, .slice b3 n3 c3] I[k]) := hk'
   have HBT : Hid (BT 12 w1 d [.int .u8 k1, .bool neg1, .slice b1 n1 c1, .string s1, .int .i64 num1, .slice b2 n2 c2, .slice b3 n3 c3] I[k] l1 r1 ∧ Apt l1 r1 ∧ ∀ x, x ∈ KB l1 r1 → wr.heap.size ≤ x) := ⟨hb1, ha1, hl1⟩
   clear hb1 ha1 hl1
   have hO1 := HO.out.upd hU1
   have hU01 := hU.trans hU1
   have hsz1 := hU1.size
   have hown2 : ((w1.alloc (.cells #[.int .u8 k1, .bool neg1, .slice b1 n1 c1, .string s1, .int .i64 num1, .slice b2 n2 c2, .slice b3 n3 c3] 26)).alloc (.cells #[.int .u8 k1, .bool neg1, .slice b1 n1 c1, .string s1, .int .i64 num1, .slice b2 n2 c2, .slice b3 n3 c3] 26)).ownsRow w.heap.size 26 7 (.slice (some ⟨w.heap.size, 0, none⟩) k (I.length + 12)) k C.flatten := World.ownsRow.alloc (World.ownsRow.alloc hO1 _) _
   have tn := Tb.new (w1.alloc (.cells #[.int .u8 k1, .bool neg1, .slice b1 n1 c1, .string s1, .int .i64 num1, .slice b2 n2 c2, .slice b3 n3 c3] 26)) #[.int .u8 k1, .bool neg1, .slice b1 n1 c1, .string s1, .int .i64 num1, .slice b2 n2 c2, .slice b3 n3 c3] (w1.heap.size + 1) (by simp)
   have hcl : ∀ j u, ([.int .u8 k1, .bool neg1, .slice b1 n1 c1, .string s1, .int .i64 num1, .slice b2 n2 c2, .slice b3 n3 c3] : List Value)[j]? = some u → ((w1.alloc (.cells #[.int .u8 k1, .bool neg1, .slice b1 n1 c1, .string s1, .int .i64 num1, .slice b2 n2 c2, .slice b3 n3 c3] 26)).alloc (.cells #[.int .u8 k1, .bool neg1, .slice b1 n1 c1, .string s1, .int .i64 num1, .slice b2 n2 c2, .slice b3 n3 c3] 26)).cell? ((⟨w1.heap.size + 1, 0, none⟩ : Addr).add j) = some u := fun j u hj => by
    rw [Addr.add_lit, Nat.zero_add, tn.cell j]
    simpa using hj
   have hone : ∀ u ∈ ([.int .u8 k1, .bool neg1, .slice b1 n1 c1, .string s1, .int .i64 num1, .slice b2 n2 c2, .slice b3 n3 c3] : List Value), u.oneCell' = true := by
    intro u hu
    simp only [List.mem_cons, List.not_mem_nil, or_false] at hu
    rcases hu with h | h | h | h | h | h | h <;> subst h <;> rfl
   have HCL : Hid (∀ j u, ([.int .u8 k1, .bool neg1, .slice b1 n1 c1, .string s1, .int .i64 num1, .slice b2 n2 c2, .slice b3 n3 c3] : List Value)[j]? = some u → ((w1.alloc (.cells #[.int .u8 k1, .bool neg1, .slice b1 n1 c1, .string s1, .int .i64 num1, .slice b2 n2 c2, .slice b3 n3 c3] 26)).alloc (.cells #[.int .u8 k1, .bool neg1, .slice b1 n1 c1, .string s1, .int .i64 num1, .slice b2 n2 c2, .slice b3 n3 c3] 26)).cell? ((⟨w1.heap.size + 1, 0, none⟩ : Addr).add j) = some u) := hcl
   clear hk' hl' tn x0 x1 x2 x3 x4 x5 x6 hcl
   go_wp2_with (at_builtin; refine wpList_append_fits _ rfl _ _ 24 rfl w.heap.size 26 i0 7 Tryz.underlying24 hi hz1 w.heap.size k (I.length + 12) C.flatten rfl hown2 ⟨w1.heap.size + 1, 0, none⟩ 1 1 [.int .u8 k1, .bool neg1, .slice b1 n1 c1, .string s1, .int .i64 num1, .slice b2 n2 c2, .slice b3 n3 c3] rfl rfl (Hid.out HCL) hone (by omega) ?_; intro w3 hown3 hgr3)
   have hV1 : Upd [w.heap.size] w1 w3 := (((Upd.refl [w.heap.size] w1).alloc _).alloc _).grown hgr3 (fun x hx => Or.inr (by cases hx; simp))
   have hV : Upd [w.heap.size] wr w3 := ((Upd.refl [w.heap.size] wr).then hU1 (by simp)).trans hV1
   refine ⟨⟨k + 1, C ++ [[.int .u8 k1, .bool neg1, .slice b1 n1 c1, .string s1, .int .i64 num1, .slice b2 n2 c2, .slice b3 n3 c3]], by omega, by simp, rfl, ?_, by rw [List.length_append, HC.out]; rfl, ?_, ((hU01.alloc _).alloc _).grown hgr3 (fun x hx => Or.inl (by cases hx; exact Nat.le_refl _)), by have := hV.size; omega, ?_⟩, by simp [intOf]; omega⟩
   ·unfold OT
    rw [List.flatten_append]
    simpa using hown3
   ·intro j hj hjI
    by_cases hjk : j < C.length
    ·rw [List.getElem_append_left hjk]
     obtain ⟨h7, hKj⟩ := HK.out j hjk hjI
     exact ⟨h7, KIn.keep hV (fun x hx => by simp; omega) (fun x hx => hx) _ _ _ hKj⟩
    ·have e : j = k := by have := HC.out; simp at hj; omega
     subst e
     rw [List.getElem_append_right (by have := HC.out; omega)]
     simp only [HC.out, Nat.sub_self, List.getElem_cons_zero]
     exact ⟨rfl, KIn.keep hV1 (fun x hx => by simp; omega) (fun x hx => by omega) _ _ _ HKN.out⟩
   ·have hCk := HC.out
    subst hCk
    exact HSk.out.snoc hk2 hlt hV hV1 HBT.out.1 HBT.out.2.1 HBT.out.2.2
  ·have hkk : k = I.length := by omega
   subst hkk
   rename World => wo
   have HC : Hid (C.length = I.length) := hC
   clear hC hown0 hgr0 hU0 hlt0
   go_wp2_with fail
   go_loopw [3, 6] (fun ov i wr => ∃ j : Nat, j ≤ 12 ∧ i = .int .i64 j ∧ ov = .slice (some ⟨w.heap.size, 0, none⟩) (I.length + j) (I.length + 12) ∧ OT wr w.heap.size (I.length + j) (I.length + 12) (C ++ (List.range j).map markCells) ∧ (∀ j (hj : j < C.length) (hi : j < I.length), C[j].length = 7 ∧ KIn (fun g => w.heap.size < g) wr d C[j] I[j]) ∧ Upd [] w wr ∧ w.heap.size < wr.heap.size ∧ KidsS w.heap.size wr d C I) (fun _ i _ => 12 - (intOf i).toNat)
   case atStart => exact ⟨0, by omega, rfl, rfl, by simpa using hO, hK, hU, hlt, HSk.out⟩
   case round =>
    obtain ⟨j, hj, rfl, rfl, hOr, hKr, hUr, hltr, hSr⟩ := hrel
    have HSr : Hid (KidsS w.heap.size wr d C I) := hSr
    clear hSr HSk
    have HKR : Hid (∀ j (hj : j < C.length) (hi : j < I.length), C[j].length = 7 ∧ KIn (fun g => w.heap.size < g) wr d C[j] I[j]) := hKr
    have HOR : Hid (OT wr w.heap.size (I.length + j) (I.length + 12) (C ++ (List.range j).map markCells)) := hOr
    clear hO hK hU hlt hKr hOr
    by_cases hj2 : j < 12
    ·go_wp2_with fail
     refine (markTerm_any j wr hj2).mono ?_
     rintro e w1 ⟨rfl, hU1⟩
     rw [show (markCells j).toArray = #[.int .u8 0, .bool false, .slice none 0 0, .string ⟨#[]⟩, .int .i64 ((8000024 + j : Nat) : Int), .slice none 0 0, .slice none 0 0] from rfl]
     have hO1 := HOR.out.upd hU1
     have hU01 := hUr.trans hU1
     have hown2 : (w1.alloc (.cells #[.int .u8 0, .bool false, .slice none 0 0, .string ⟨#[]⟩, .int .i64 ((8000024 + j : Nat) : Int), .slice none 0 0, .slice none 0 0] 26)).ownsRow w.heap.size 26 7 (.slice (some ⟨w.heap.size, 0, none⟩) (I.length + j) (I.length + 12)) (I.length + j) (C ++ (List.range j).map markCells).flatten := World.ownsRow.alloc hO1 _
     have tn := Tb.new w1 #[.int .u8 0, .bool false, .slice none 0 0, .string ⟨#[]⟩, .int .i64 ((8000024 + j : Nat) : Int), .slice none 0 0, .slice none 0 0] _ rfl
     have hcl : ∀ i u, ([.int .u8 0, .bool false, .slice none 0 0, .string ⟨#[]⟩, .int .i64 ((8000024 + j : Nat) : Int), .slice none 0 0, .slice none 0 0] : List Value)[i]? = some u → (w1.alloc (.cells #[.int .u8 0, .bool false, .slice none 0 0, .string ⟨#[]⟩, .int .i64 ((8000024 + j : Nat) : Int), .slice none 0 0, .slice none 0 0] 26)).cell? ((⟨w1.heap.size, 0, none⟩ : Addr).add i) = some u := fun i u hi => by
      rw [Addr.add_lit, Nat.zero_add, tn.cell i]
      simpa using hi
     have hone : ∀ u ∈ ([.int .u8 0, .bool false, .slice none 0 0, .string ⟨#[]⟩, .int .i64 ((8000024 + j : Nat) : Int), .slice none 0 0, .slice none 0 0] : List Value), u.oneCell' = true := by
      intro u hu
      simp only [List.mem_cons, List.not_mem_nil, or_false] at hu
      rcases hu with h | h | h | h | h | h | h <;> subst h <;> rfl
     have HCL : Hid (∀ i u, ([.int .u8 0, .bool false, .slice none 0 0, .string ⟨#[]⟩, .int .i64 ((8000024 + j : Nat) : Int), .slice none 0 0, .slice none 0 0] : List Value)[i]? = some u → (w1.alloc (.cells #[.int .u8 0, .bool false, .slice none 0 0, .string ⟨#[]⟩, .int .i64 ((8000024 + j : Nat) : Int), .slice none 0 0, .slice none 0 0] 26)).cell? ((⟨w1.heap.size, 0, none⟩ : Addr).add i) = some u) := hcl
     have HOWN : Hid ((w1.alloc (.cells #[.int .u8 0, .bool false, .slice none 0 0, .string ⟨#[]⟩, .int .i64 ((8000024 + j : Nat) : Int), .slice none 0 0, .slice none 0 0] 26)).ownsRow w.heap.size 26 7 (.slice (some ⟨w.heap.size, 0, none⟩) (I.length + j) (I.length + 12)) (I.length + j) (C ++ (List.range j).map markCells).flatten) := hown2
     clear tn hcl hown2 hO1
     go_wp2_with (at_builtin; refine wpList_append_fits _ rfl _ _ 24 rfl w.heap.size 26 i0 7 Tryz.underlying24 hi hz1 w.heap.size (I.length + j) (I.length + 12) (C ++ (List.range j).map markCells).flatten rfl (Hid.out HOWN) ⟨w1.heap.size, 0, none⟩ 1 1 [.int .u8 0, .bool false, .slice none 0 0, .string ⟨#[]⟩, .int .i64 ((8000024 + j : Nat) : Int), .slice none 0 0, .slice none 0 0] rfl rfl (Hid.out HCL) hone (by omega) ?_; intro w3 hown3 hgr3)
     have hV : Upd [w.heap.size] wr w3 := (((Upd.refl [w.heap.size] wr).then hU1 (by simp)).alloc _).grown hgr3 (fun x hx => Or.inr (by cases hx; simp))
     refine ⟨⟨j + 1, by omega, by simp, rfl, ?_, fun i hi hiI => ?_, (hU01.alloc _).grown hgr3 (fun x hx => Or.inl (by cases hx; exact Nat.le_refl _)), by have := hV.size; omega, HSr.out.keep (by have := HC.out; omega) hV⟩, by simp [intOf]; omega⟩
     ·unfold OT
      rw [List.range_succ, List.map_append, ← List.append_assoc, List.flatten_append]
      simpa [Nat.add_assoc, markCells] using hown3
     ·obtain ⟨h7, hKi⟩ := HKR.out i hi hiI
      exact ⟨h7, KIn.keep hV (fun x hx => by simp; omega) (fun x hx => hx) _ _ _ hKi⟩
    ·have hj12 : j = 12 := by omega
     subst hj12
     go_wp2
     go_ret
     have hCl := HC.out
     have h7 : ∀ c ∈ C ++ (List.range 12).map markCells, c.length = 7 := by
      intro c hc
      rcases List.mem_append.1 hc with h | h
      ·obtain ⟨i, hi, rfl⟩ := List.mem_iff_getElem.1 h
       exact (HKR.out i hi (by omega)).1
      ·obtain ⟨i, _, rfl⟩ := List.mem_map.1 h
       rfl
     have hlen12 : (C ++ (List.range 12).map markCells).length = I.length + 12 := by simp; omega
     have hcells : ∀ i (hi : i < I.length) (hiC : i < C.length) j, j < 7 → wr.cell? ⟨w.heap.size, i * 7 + j, none⟩ = C[i][j]? := fun i hi hiC j hj => by
      have := OT.cell HOR.out hlen12 h7 i j (by omega) hj
      rw [List.getElem_append_left hiC] at this
      exact this
     refine ⟨hUr, w.heap.size, I.length + 12, rfl, ⟨Nat.le_refl _, hltr, Nat.le_refl _, by omega, fun i hi => ?_, fun i hi j hj => ?_⟩, ?_⟩
     ·have hiC : i < C.length := by omega
      obtain ⟨k7, kK⟩ := HKR.out i hiC hi
      refine ⟨C[i], k7, fun j hj => ?_, KIn.keep (Upd.refl [] wr) (fun x hx => by simp) (fun x hx => Nat.le_of_lt hx) _ _ _ kK⟩
      have := OT.cell HOR.out hlen12 h7 i j (by omega) hj
      rw [List.getElem_append_left hiC] at this
      exact this
     ·have := OT.cell HOR.out hlen12 h7 (I.length + i) j (by omega) hj
      rw [List.getElem_append_right (by omega)] at this
      simpa [hCl] using this
     ·obtain ⟨ls, rs, s1, s2⟩ := HSr.out
      refine ⟨_, _, ⟨ls, rs, rfl, rfl, ⟨Or.inr ⟨w.heap.size, I.length + 12, rfl, hltr, by omega, by unfold maxLen; omega, ot_there HOR.out⟩, Or.inr ⟨w.heap.size, I.length + 12, rfl, Nat.le_refl _⟩⟩, fun i hi => ?_⟩, ?_, fun x hx => ?_⟩
      ·have hiC : i < C.length := by omega
       refine ⟨C[i], (HKR.out i hiC hi).1, fun g' l' c' e => ?_, (s1 i hiC hi).1⟩
       simp only [Value.slice.injEq, Option.some.injEq, Addr.mk.injEq, and_true] at e
       obtain ⟨rfl, _, _⟩ := e
       exact hcells i hi hiC
      ·refine Apt.of_row (fun i hi => (s1 i (by omega) hi).2.1) (fun i j x hi hj hij hx => s2 i j x (by omega) (by omega) hij hx) (fun i x hi hx h2 => ?_)
       have := (s1 i (by omega) hi).2.2 x h2
       simp only [Value.ownBlock, Option.some.injEq] at hx
       omega
      ·rcases KB_row.1 hx with hx | ⟨i, hi, hx⟩
       ·simp only [Value.ownBlock, Option.some.injEq] at hx
        omega
       ·have := (s1 i (by omega) hi).2.2 x hx
        omega
set_option maxHeartbeats 4000000 in
set_option maxRecDepth 100000 in
theorem LentTerm_stepS (d : Nat) (ih : LentSaidS d) : LentSaidS (d + 1) := by
 intro w cs t h hs
 cases t with
 | mk k num neg L s I T =>
  obtain ⟨a, ai, at', c, ci, ct, rfl, hA, hD, hI, hT⟩ := h
  simp only [tsz] at hs
  have HIt : Hid (∀ W, Upd [] w W → _) := fun W hu => LentTerms_sep d ih W ai ci I (hI.imp hu (In.mono hu d)) (by omega)
  have HTt : Hid (∀ W, Upd [] w W → _) := fun W hu => LentTerms_sep d ih W at' ct T (hT.imp hu (In.mono hu d)) (by omega)
  have HLm : Hid (∀ W, Upd [] w W → _) := fun W hu => LentLimbs_sep a c L W (by omega) (hA.mono hu)
  clear hA hI hT hs ih
  go_enter Tryz.func8, Tryz.ntmps8
  go_wp2_with fail
  have u0 := ((Upd.refl [] w).alloc (.cells #[.int .u8 k, .bool neg, .slice a L.length c, .string s, .int .i64 num, .slice ai I.length ci, .slice at' T.length ct] 26)).alloc (.cells #[.int .u8 0, .bool false, .slice none 0 0, .string ⟨#[]⟩, .int .i64 0, .slice none 0 0, .slice none 0 0] 26)
  have tX := (Tb.new w #[.int .u8 k, .bool neg, .slice a L.length c, .string s, .int .i64 num, .slice ai I.length ci, .slice at' T.length ct] _ rfl).old (.cells #[.int .u8 0, .bool false, .slice none 0 0, .string ⟨#[]⟩, .int .i64 0, .slice none 0 0, .slice none 0 0] 26)
  have tZ := Tb.new (w.alloc (.cells #[.int .u8 k, .bool neg, .slice a L.length c, .string s, .int .i64 num, .slice ai I.length ci, .slice at' T.length ct] 26)) #[.int .u8 0, .bool false, .slice none 0 0, .string ⟨#[]⟩, .int .i64 0, .slice none 0 0, .slice none 0 0] (w.heap.size + 1) (by simp)
  refine (HLm.out _ u0).mono ?_
  rintro e w1 ⟨hU1, g, cap, rfl, hg, hAt, hc1, hc2, hth, hgl⟩
  have HTH : Hid (w1.there g 0 cap ∧ g < w1.heap.size) := ⟨hth, hgl⟩
  have HW1 : Hid (w1.heap.size = w1.heap.size) := rfl
  obtain ⟨wL, hwL⟩ : ∃ wL, wL = w1 := ⟨_, rfl⟩
  have HwL : Hid (wL = w1) := hwL
  clear hwL HW1 hth hgl
  have hg' : w.heap.size + 2 ≤ g := by simp at hg; omega
  have tX1 := tX.mono hU1 (by simp)
  have tZ1 := tZ.mono hU1 (by simp)
  have u1 := u0.trans hU1
  have x2 : w1.cell? ⟨w.heap.size, 2, none⟩ = some (.slice a L.length c) := tX1.cell 2
  have x5 : w1.cell? ⟨w.heap.size, 5, none⟩ = some (.slice ai I.length ci) := tX1.cell 5
  have xf : w1.frozen? ⟨w.heap.size, 2, none⟩ = false := frozen_of_row w1 w.heap.size 2 _ _ tX1
  have v1 : Upd [w.heap.size] w1 (w1.setCell ⟨w.heap.size, 2, none⟩ (.slice (some ⟨g, 0, none⟩) L.length cap)) := (Upd.refl _ _).setCell (Or.inr (by simp)) _
  have tX2 := tX1.put2 (u2 := .slice (some ⟨g, 0, none⟩) L.length cap)
  have tZ2 := tZ1.mono v1 (by simp)
  have hAt2 := hAt.stay v1 (by simp; omega)
  have u2 := u1.then v1 (by simp)
  have hlz := tZ2.lt
  clear tX tZ u0 hU1 tX1 tZ1 hAt hg u1 v1
  go_wp2_with fail
  refine (HIt.out _ u2).mono ?_
  rintro e w3 ⟨hU3, g2, cap2, rfl, hR2, l1, r1, hB1, hP1, hX1⟩
  have HI3 : Hid (RowBT 12 (BT 12 w3 d) w3 (.slice (some ⟨g2, 0, none⟩) I.length cap2) I l1 r1 ∧ Apt l1 r1 ∧ ∀ x, x ∈ KB l1 r1 → w1.heap.size ≤ x) := ⟨hB1, hP1, fun x hx => by have := hX1 x hx; simpa using this⟩
  have HU3 : Hid (Upd [w.heap.size] w1 w3) := ((Upd.refl [w.heap.size] w1).setCell (Or.inr (by simp)) _).then hU3 (by simp)
  clear hB1 hP1 hX1
  have tX3 := tX2.mono hU3 (by simp)
  have tZ3 := tZ2.mono hU3 (by simp)
  have hAt3 := hAt2.mono hU3
  have u3 := u2.trans hU3
  have hR3 : RowK (fun x => w.heap.size + 2 ≤ x) (KIn (fun x => w.heap.size + 2 ≤ x) w3 d) w3 g2 cap2 I := hR2.stay (Upd.refl [] w3) (fun x _ => by simp) (fun x hx => by omega)
  have HR3 : Hid (RowK (fun x => w.heap.size + 2 ≤ x) (KIn (fun x => w.heap.size + 2 ≤ x) w3 d) w3 g2 cap2 I) := hR3
  have y5 : w3.cell? ⟨w.heap.size, 5, none⟩ = some (.slice ai I.length ci) := tX3.cell 5
  have y6 : w3.cell? ⟨w.heap.size, 6, none⟩ = some (.slice at' T.length ct) := tX3.cell 6
  have yf : w3.frozen? ⟨w.heap.size, 5, none⟩ = false := frozen_of_row w3 w.heap.size 5 _ _ tX3
  have v3 : Upd [w.heap.size] w3 (w3.setCell ⟨w.heap.size, 5, none⟩ (.slice (some ⟨g2, 0, none⟩) I.length cap2)) := (Upd.refl _ _).setCell (Or.inr (by simp)) _
  have tX4 := tX3.put5 (u5 := .slice (some ⟨g2, 0, none⟩) I.length cap2)
  have tZ4 := tZ3.mono v3 (by simp)
  have hAt4 := hAt3.stay v3 (by simp; omega)
  have u4 := u3.then v3 (by simp)
  have HR4 : Hid (RowK (fun x => w.heap.size + 2 ≤ x) (KIn (fun x => w.heap.size + 2 ≤ x) (w3.setCell ⟨w.heap.size, 5, none⟩ (.slice (some ⟨g2, 0, none⟩) I.length cap2)) d) (w3.setCell ⟨w.heap.size, 5, none⟩ (.slice (some ⟨g2, 0, none⟩) I.length cap2)) g2 cap2 I) := HR3.out.stay v3 (fun x hx => by simp; omega) (fun x hx => hx)
  have hlz4 := tZ4.lt
  clear hR2 hR3 tX2 tZ2 hAt2 u2 hU3 tX3 tZ3 hAt3 u3 v3 x2 x5 xf HR3
  go_wp2_with fail
  refine (HTt.out _ u4).mono ?_
  rintro e w5 ⟨hU5, g3, cap3, rfl, hR5, l2, r2, hB2, hP2, hX2⟩
  have HT5 : Hid (RowBT 12 (BT 12 w5 d) w5 (.slice (some ⟨g3, 0, none⟩) T.length cap3) T l2 r2 ∧ Apt l2 r2 ∧ ∀ x, x ∈ KB l2 r2 → w3.heap.size ≤ x) := ⟨hB2, hP2, fun x hx => by have := hX2 x hx; simpa using this⟩
  have HU5 : Hid (Upd [w.heap.size] w3 w5) := ((Upd.refl [w.heap.size] w3).setCell (Or.inr (by simp)) _).then hU5 (by simp)
  clear hB2 hP2 hX2
  have HRT5 : Hid (RowK (fun x => w.heap.size + 2 ≤ x) (KIn (fun x => w.heap.size + 2 ≤ x) w5 d) w5 g3 cap3 T) := hR5.stay (Upd.refl [] w5) (fun x _ => by simp) (fun x hx => by omega)
  have HRI5 : Hid (RowK (fun x => w.heap.size + 2 ≤ x) (KIn (fun x => w.heap.size + 2 ≤ x) w5 d) w5 g2 cap2 I) := HR4.out.stay hU5 (fun x _ => by simp) (fun x hx => hx)
  have tX5 := tX4.mono hU5 (by simp)
  have tZ5 := tZ4.mono hU5 (by simp)
  have hAt5 := hAt4.mono hU5
  have u5 := u4.trans hU5
  have z6 : w5.cell? ⟨w.heap.size, 6, none⟩ = some (.slice at' T.length ct) := tX5.cell 6
  have zf : w5.frozen? ⟨w.heap.size, 6, none⟩ = false := frozen_of_row w5 w.heap.size 6 _ _ tX5
  have v5 : Upd [w.heap.size] w5 (w5.setCell ⟨w.heap.size, 6, none⟩ (.slice (some ⟨g3, 0, none⟩) T.length cap3)) := (Upd.refl _ _).setCell (Or.inr (by simp)) _
  have tX6 := tX5.put6 (u6 := .slice (some ⟨g3, 0, none⟩) T.length cap3)
  have tZ6 := tZ5.mono v5 (by simp)
  have hAt6 := hAt5.stay v5 (by simp; omega)
  have u6 := u5.then v5 (by simp)
  have HV5 : Hid (Upd [w.heap.size] w5 (w5.setCell ⟨w.heap.size, 6, none⟩ (.slice (some ⟨g3, 0, none⟩) T.length cap3))) := v5
  clear hR5 tX4 tZ4 hAt4 u4 hU5 tX5 tZ5 hAt5 u5 y5 y6 yf HR4 v5
  go_wp2_with (first | (refine load_T _ rfl _ rfl _ _ rfl tX6 rfl ?_) | (refine store_V _ rfl _ _ rfl _ _ _ _ _ _ _ _ _ _ _ _ _ _ _ rfl rfl tZ6 rfl ?_; intro w7 hT7 hU7))
  have hI7 := (HRI5.out.stay HV5.out (fun x hx => by simp; omega) (fun x hx => hx)).stay (Q := fun x => w.heap.size ≤ x) hU7 (fun x hx => by simp; omega) (fun x hx => by omega)
  have hT7' := (HRT5.out.stay HV5.out (fun x hx => by simp; omega) (fun x hx => hx)).stay (Q := fun x => w.heap.size ≤ x) hU7 (fun x hx => by simp; omega) (fun x hx => by omega)
  refine ret_T Tryz.results8 rfl _ _ rfl hT7 rfl ⟨u6.then hU7 (by simp), [.int .u8 k, .bool neg, .slice (some ⟨g, 0, none⟩) L.length cap, .string s, .int .i64 num, .slice (some ⟨g2, 0, none⟩) I.length cap2, .slice (some ⟨g3, 0, none⟩) T.length cap3], rfl, rfl, ?_⟩
  have hw0 : w.heap.size + 2 ≤ w1.heap.size := by have := HTH.out.2; omega
  have hU57 : Upd [w.heap.size, w.heap.size + 1] w5 w7 := (((Upd.refl [w.heap.size, w.heap.size + 1] w5).then HV5.out (by simp)).trans (hU7.wide (by simp)))
  have hU37 : Upd [w.heap.size, w.heap.size + 1] w3 w7 := (HU5.out.wide (by simp)).trans hU57
  have hU17 : Upd [w.heap.size, w.heap.size + 1] w1 w7 := (HU3.out.wide (by simp)).trans hU37
  have s13 := HU3.out.size
  have s35 := HU5.out.size
  have hlt1 := HI3.out.1.lt (fun cs t LB RB h => BT.lt _ _ _ _ _ h)
  refine ⟨⟨g, g2, g3, cap, cap2, cap3, rfl, by omega, hAt6.stay hU7 (by simp; omega), hD, hc1, hc2, hI7, hT7'⟩, _, _, ⟨.slice (some ⟨g, 0, none⟩) L.length cap, .slice (some ⟨g2, 0, none⟩) I.length cap2, .slice (some ⟨g3, 0, none⟩) T.length cap3, l1, l2, r1, r2, rfl, ?_, ?_, ?_, rfl, rfl⟩, ?_, fun x hx => ?_⟩
  ·refine ⟨Or.inr ⟨g, cap, rfl, Nat.lt_of_lt_of_le HTH.out.2 hU17.size, by omega, by unfold maxLen; omega, ?_⟩, Or.inr ⟨g, cap, rfl, hc1⟩⟩
   rw [Nat.mul_one]
   exact there_upd HTH.out.1 HTH.out.2 hU17 (by simp; omega)
  ·exact HI3.out.1.upd hU37 (fun x hx hm => by have := HI3.out.2.2 x hx; simp at hm; omega) (fun cs t l q hx hR => BT.upd hU37 _ _ _ _ _ hx hR)
  ·exact HT5.out.1.upd hU57 (fun x hx hm => by have := HT5.out.2.2 x hx; simp at hm; omega) (fun cs t l q hx hR => BT.upd hU57 _ _ _ _ _ hx hR)
  ·refine Apt.of_two HI3.out.2.1 HT5.out.2.1 (fun x hx h2 => ?_) (fun x hx => ⟨fun h2 => ?_, fun h2 => ?_⟩)
   ·have := hlt1 x hx; have := HT5.out.2.2 x h2; omega
   ·simp only [Value.ownBlock, Option.some.injEq] at hx
    have := HI3.out.2.2 x h2; have := HTH.out.2; omega
   ·simp only [Value.ownBlock, Option.some.injEq] at hx
    have := HT5.out.2.2 x h2; have := HTH.out.2; omega
  ·rcases KB_two.1 hx with hx | hx | hx
   ·simp only [Value.ownBlock, Option.some.injEq] at hx
    omega
   ·have := HI3.out.2.2 x hx; omega
   ·have := HT5.out.2.2 x hx; omega
theorem LentTerm_sep : ∀ d, LentSaidS d
 | 0 => fun _ _ _ h => h.elim
 | d + 1 => LentTerm_stepS d (LentTerm_sep d)
end Go.Proofs.YtalhbbabijlngaaGreatDoor
namespace Go.Proofs.YtalhbbabijlngaaGreatDoor
open Go.RowKit
theorem InB.inKB {P : Nat → Prop} {w : World} : ∀ (d : Nat) (cs : List Value) (t : Tm) (LB RB : List Value), InB P w d cs t → BT 0 w d cs t LB RB → InB (fun b => b ∈ KB LB RB) w d cs t := by
 intro d
 induction d with
 | zero => intro cs t LB RB h; exact h.elim
 | succ d ih =>
  intro cs t LB RB h hb
  cases t with
  | mk k num neg L s I T =>
   obtain ⟨a, ai, at', c, ci, ct, rfl, h1, h2, h3, h4⟩ := h
   obtain ⟨vl, vi, vt, l1, l2, r1, r2, e, b1, b2, b3, rfl, rfl⟩ := hb
   simp only [List.cons.injEq, true_and, and_true] at e
   obtain ⟨rfl, rfl, rfl⟩ := e
   have row : ∀ (Q : Nat → Prop) (a : Option Addr) (c : Nat) (J : List Tm) (l r : List Value), RowB P (InB P w d) w a J → RowBT 0 (BT 0 w d) w (.slice a J.length c) J l r → (∀ x, x ∈ KB l r → Q x) → RowB Q (InB Q w d) w a J := by
    intro Q a c J l r hR hB hQ
    rcases hR with h0 | ⟨b, o, rfl, _, hlt, hc⟩
    ·exact Or.inl h0
    by_cases h0 : J = []
    ·exact Or.inl h0
    have hpos : 0 < J.length := by cases J with | nil => exact absurd rfl h0 | cons x t => simp
    obtain ⟨ls, rs, rfl, rfl, ⟨hG, _⟩, hk⟩ := hB
    have ho : o = 0 := by
     rcases hG with ⟨e, _⟩ | ⟨g, cap, e, _⟩
     ·cases e
     ·simp only [Value.slice.injEq, Option.some.injEq, Addr.mk.injEq] at e; exact e.1.2.1
    subst ho
    refine Or.inr ⟨b, 0, rfl, hQ b (KB_row.2 (Or.inl rfl)), hlt, fun i hi => ?_⟩
    obtain ⟨cs, k1, k2, k3⟩ := hc i hi
    obtain ⟨cs', k1', k2', k3'⟩ := hk i hi
    have hcc : cs' = cs := by
     apply List.ext_getElem (by omega)
     intro j h1 h2
     have e1 := k2 j (by omega)
     have e2 := k2' b _ _ rfl j (by omega)
     rw [Nat.zero_add] at e1
     rw [e1, List.getElem?_eq_getElem h2, List.getElem?_eq_getElem h1] at e2
     exact (Option.some.inj e2).symm
    subst hcc
    exact ⟨cs', k1, k2, InB.upd (Upd.refl [] w) (fun _ _ => by simp) (fun x hx _ => hQ x (KB_row.2 (Or.inr ⟨i, hi, hx⟩))) _ _ _ (ih _ _ _ _ k3 k3')⟩
   refine ⟨a, ai, at', c, ci, ct, rfl, ?_, h2, row _ ai ci I l1 r1 h3 b2 (fun x hx => KB_two.2 (Or.inr (Or.inl hx))), row _ at' ct T l2 r2 h4 b3 (fun x hx => KB_two.2 (Or.inr (Or.inr hx)))⟩
   rcases h1 with h1 | ⟨b, o, rfl, _, hlt, hc⟩
   ·exact Or.inl h1
   ·exact Or.inr ⟨b, o, rfl, KB_two.2 (Or.inl rfl), hlt, hc⟩
theorem KIn.within {P : Nat → Prop} {w : World} : ∀ (d : Nat) (cs : List Value) (t : Tm), KIn P w d cs t → KIn (fun x => P x ∧ x < w.heap.size) w d cs t := by
 intro d
 induction d with
 | zero => intro cs t h; exact h.elim
 | succ d ih =>
  intro cs t h
  cases t with
  | mk k num neg L s I T =>
   obtain ⟨g, gi, gt, c, ci, ct, rfl, h1, h2, h3, h4, h5, h6, h7⟩ := h
   have row : ∀ g c (I : List Tm), RowK P (KIn P w d) w g c I → RowK (fun x => P x ∧ x < w.heap.size) (KIn (fun x => P x ∧ x < w.heap.size) w d) w g c I := by
    intro g c I ⟨r1, r2, r3, r4, r5, r6⟩
    refine ⟨⟨r1, r2⟩, r2, r3, r4, fun i hi => ?_, r6⟩
    obtain ⟨cs, k1, k2, k3⟩ := r5 i hi
    exact ⟨cs, k1, k2, ih _ _ k3⟩
   refine ⟨g, gi, gt, c, ci, ct, rfl, ⟨h1, ?_⟩, h2, h3, h4, h5, row gi ci I h6, row gt ct T h7⟩
   rcases h2 with h2 | ⟨b, o, e, hlt, _⟩
   ·have : (L ++ marks).length = 0 := by rw [h2]; rfl
    rw [List.length_append] at this
    have m12 : marks.length = 12 := rfl
    omega
   ·cases e; exact hlt
def CopR (lo d : Nat) (t : Tm) (PX : Nat → Prop) (X : Array Value) (w : World) : Prop := ∃ (cs LB RB : List Value), X = cs.toArray ∧ InB (fun b => b ∈ KB LB RB) w d cs t ∧ BT 0 w d cs t LB RB ∧ Apt LB RB ∧ ∀ z, z ∈ KB LB RB → PX z ∧ lo ≤ z
theorem CopR.stay {lo d : Nat} {t : Tm} (PX : Nat → Prop) (X : Array Value) (w w' : World) (U : List Nat) (h : CopR lo d t PX X w) (hu : Upd U w w') (hP : ∀ z, PX z → z ∉ U) : CopR lo d t PX X w' := by
 obtain ⟨cs, LB, RB, e, h1, h2, h3, h4⟩ := h
 exact ⟨cs, LB, RB, e, InB.upd hu (fun b hb => hP b (h4 b hb).1) (fun b hb _ => hb) _ _ _ h1, BT.upd hu _ _ _ _ _ (fun x hx => hP x (h4 x hx).1) h2, h3, h4⟩
theorem row_oneB {w : World} {d A : Nat} {cs LB RB : List Value} {t : Tm} (hT : Tb w A cs.toArray) (h7 : cs.length = 7) (hb : BT 0 w d cs t LB RB) : RowBT 0 (BT 0 w d) w (.slice (some ⟨A, 0, none⟩) 1 1) [t] LB (.slice (some ⟨A, 0, none⟩) 1 1 :: RB) := by
 refine ⟨fun _ => LB, fun _ => RB, by simp [List.range_succ], by simp [List.range_succ], ⟨Or.inr ⟨A, 1, rfl, hT.lt, Nat.le_refl _, by unfold maxLen; omega, fun j hj => ⟨?_, frozen_of_row _ _ _ _ _ hT⟩⟩, Or.inl rfl⟩, fun i hi => ?_⟩
 ·rw [hT.cell (0 + j), Array.getElem?_eq_getElem (by simp; omega)]; rfl
 ·have e : i = 0 := by simp at hi; exact hi
  subst e
  refine ⟨cs, h7, fun g l c e j hj => ?_, hb⟩
  simp only [Value.slice.injEq, Option.some.injEq, Addr.mk.injEq, and_true] at e
  obtain ⟨rfl, _, _⟩ := e
  rw [Nat.zero_mul, Nat.zero_add, hT.cell j]
  simp
theorem Apt.cons {LB RB : List Value} {v : Value} (h : Apt LB RB) (hv : ∀ x, v.ownBlock = some x → x ∉ KB LB RB) : Apt LB (v :: RB) := by
 refine ⟨h.l, ?_, fun x hx hx2 => ?_⟩
 ·rw [bks_cons]
  refine List.nodup_append.2 ⟨by cases v.ownBlock <;> simp, h.r, fun a ha b hb e => ?_⟩
  subst e
  exact hv a (by simpa using ha) (mem_KB.2 (Or.inr hb))
 ·rw [bks_cons, List.mem_append] at hx2
  rcases hx2 with hx2 | hx2
  ·exact hv x (by simpa using hx2) (mem_KB.2 (Or.inl hx))
  ·exact h.lr x hx hx2
theorem Apt.tail {LB RB : List Value} {v : Value} (h : Apt LB (v :: RB)) : Apt LB RB := by
 obtain ⟨h1, h2, h3⟩ := h
 rw [bks_cons] at h2
 exact ⟨h1, (List.nodup_append.1 h2).2.1, fun x hx hx2 => h3 x hx (by rw [bks_cons, List.mem_append]; exact Or.inr hx2)⟩
theorem Apt.flat {m : Nat} {ls rs : Nat → List Value} (h1 : ∀ i, i < m → Apt (ls i) (rs i)) (h2 : ∀ i j x, i < m → j < m → i ≠ j → x ∈ KB (ls i) (rs i) → x ∉ KB (ls j) (rs j)) : Apt ((List.range m).flatMap ls) ((List.range m).flatMap rs) :=
 (Apt.of_row (v := .slice none 0 0) h1 h2 (fun i x _ e => by cases e)).tail
theorem KB_flat {m : Nat} {ls rs : Nat → List Value} {x : Nat} : x ∈ KB ((List.range m).flatMap ls) ((List.range m).flatMap rs) ↔ ∃ i, i < m ∧ x ∈ KB (ls i) (rs i) := by
 simp only [mem_KB, mem_bks_flat]
 constructor
 ·rintro (⟨i, hi, h⟩ | ⟨i, hi, h⟩)
  ·exact ⟨i, hi, Or.inl h⟩
  ·exact ⟨i, hi, Or.inr h⟩
 ·rintro ⟨i, hi, h | h⟩
  ·exact Or.inl ⟨i, hi, h⟩
  ·exact Or.inr ⟨i, hi, h⟩
theorem KB_cons {LB RB : List Value} {v : Value} {x : Nat} : x ∈ KB LB (v :: RB) ↔ v.ownBlock = some x ∨ x ∈ KB LB RB := by
 simp only [mem_KB, bks_cons, List.mem_append, Option.mem_toList]
 constructor
 ·rintro (h | h | h)
  ·exact Or.inr (Or.inl h)
  ·exact Or.inl h
  ·exact Or.inr (Or.inr h)
 ·rintro (h | h | h)
  ·exact Or.inr (Or.inl h)
  ·exact Or.inl h
  ·exact Or.inr (Or.inr h)
end Go.Proofs.YtalhbbabijlngaaGreatDoor
namespace Go.Proofs.YtalhbbabijlngaaGreatDoor
open Go.RowKit
mutual
theorem tsz_ok : ∀ t : Tm, okT' t = true → tsz t ≤ szT t
 | .mk k num neg L s I T, h => by
  rw [okT', Bool.and_eq_true, Bool.and_eq_true] at h
  have h1 := tszs_ok I h.1.2
  have h2 := tszs_ok T h.2
  have h3 : L.length / 26 ≤ ownZ k L.length I.length := by
   by_cases hk : k = 1
   ·unfold ownZ; rw [if_pos hk]; omega
   ·have h4 := h.1.1
    unfold okF at h4
    rw [if_neg hk, Bool.and_eq_true, decide_eq_true_eq] at h4
    rw [h4.1.2]
    simp
  rw [tsz, szT]
  omega
theorem tszs_ok : ∀ I : List Tm, okR I = true → tszs I ≤ szR I
 | [], _ => by simp [tszs, szR]
 | t :: r, h => by
  rw [okR, Bool.and_eq_true] at h
  have h1 := tsz_ok t h.1
  have h2 := tszs_ok r h.2
  have h3 := bel_le r
  have h4 := bel_lt t
  rw [tszs, szR]
  omega
end
theorem okS_tsz {t : Tm} (h : okS t = true) : tsz t ≤ 1353245080330 := by
 rw [okS_iff] at h
 have := tsz_ok t h.1
 omega
theorem zero_tsz : tsz zeroT ≤ 1353245080330 := by decide
theorem samT_self (t : Tm) : samT t t = true := (samT_eq t t).2 rfl
theorem sam_call {d : Nat} {w : World} {cs cs' : List Value} {t : Tm} (h : In w d cs t) (h' : In w d cs' t) (hz : tsz t ≤ 1353245080330) : Calls Tryz.prog 18 #[.agg cs.toArray, .agg cs'.toArray] w fun e w' => e = .returned (.bool true) ∧ Upd [] w w' := by
 have := SamG_all d w cs cs' t t h h' hz hz
 rw [samT_self] at this
 exact this
end Go.Proofs.YtalhbbabijlngaaGreatDoor
namespace Go.Proofs.YtalhbbabijlngaaGreatDoor
open Go.RowKit
theorem apart_many {W w : World} {d A m : Nat} {t : Nat → Tm} {c L R : Nat → List Value} (hm0 : 0 < m) (hm : m ≤ 10) (hA : ∀ k, k < m → Tb w (A + k) (c k).toArray) (hc : ∀ k, k < m → w.cell? ⟨A + m, k, none⟩ = some (.slice (some ⟨A + k, 0, none⟩) 1 1)) (hl : A + m < w.heap.size) (h7 : ∀ k, k < m → (c k).length = 7)
  (hb : ∀ k, k < m → BT 0 w d (c k) (t k) (L k) (R k)) (ha : ∀ k, k < m → Apt (L k) (R k)) (hx : ∀ k, k < m → ∀ z, z ∈ KB (L k) (R k) → W.heap.size ≤ z ∧ z < A) (hxy : ∀ i j z, i < m → j < m → i ≠ j → z ∈ KB (L i) (R i) → z ∉ KB (L j) (R j))
  (hs : ∀ k, k < m → tsz (t k) ≤ 1353245080330) (hbel : ∀ k, k < m → belT (t k) ≤ 15000) (hWA : W.heap.size ≤ A) (hU : Upd [] W w) :
  Calls Tryz.prog 19 #[.slice (some ⟨A + m, 0, none⟩) m m] w fun e w' => e = .returned (.bool true) ∧ Upd [] W w' := by
 have kk : ∀ k x, x ∈ KB (L k) (.slice (some ⟨A + k, 0, none⟩) 1 1 :: R k) → x = A + k ∨ x ∈ KB (L k) (R k) := fun k x hx => by
  rw [KB_cons] at hx
  rcases hx with hx | hx
  ·simp only [Value.ownBlock, Option.some.injEq] at hx; exact Or.inl hx.symm
  ·exact Or.inr hx
 have h := ApartTerms_in w (A + m) m m d (fun k => .slice (some ⟨A + k, 0, none⟩) 1 1) (fun k => [t k]) L (fun k => .slice (some ⟨A + k, 0, none⟩) 1 1 :: R k) hm0 hm hc hl (fun k hk => row_oneB (hA k hk) (h7 k hk) (hb k hk))
  (Apt.flat (fun i hi => (ha i hi).cons (fun x e hmm => by simp only [Value.ownBlock, Option.some.injEq] at e; have := (hx i hi x hmm).2; omega)) (fun i j x hi hj hij h1 h2 => by
   rcases kk i x h1 with e0 | e0 <;> rcases kk j x h2 with e1 | e1
   ·omega
   ·have := (hx j hj x e1).2; omega
   ·have := (hx i hi x e0).2; omega
   ·exact hxy i j x hi hj hij e0 e1)) (fun k hk => by have := hs k hk; simp only [tszs, List.length_nil]; omega) (fun k hk => by have := hbel k hk; simp only [belR, List.length_cons, List.length_nil]; omega) (by simp) (fun hmm => by
   obtain ⟨i, hi, hmm⟩ := KB_flat.1 hmm
   rcases kk i _ hmm with e | e
   ·omega
   ·have := (hx i hi _ e).2; omega)
 refine h.mono fun e w' ⟨he, hu⟩ => ⟨he, hU.then hu (fun x hmm => Or.inl ?_)⟩
 obtain ⟨i, hi, hmm⟩ := KB_flat.1 hmm
 rcases kk i _ hmm with e | e
 ·omega
 ·exact (hx i hi _ e).1
end Go.Proofs.YtalhbbabijlngaaGreatDoor
namespace Go.Proofs.YtalhbbabijlngaaGreatDoor
open Go.RowKit
structure Sl (a0 : Act) (ds : List (Option Nat)) (L : List Bool) (vs : List Value) (a : Act) : Prop where
 agr : Agr (ds.filterMap id) a0 a
 at' : ∀ i d, ds[i]? = some (some d) → L[i]? = some true → a.tmps.getD d undef = vs.getD i undef
theorem far_ne {ds : List (Option Nat)} (hd : ds.Pairwise fun a b => a = none ∨ a ≠ b) {i j d d' : Nat} (hi : ds[i]? = some (some d)) (hj : ds[j]? = some (some d')) (h : i ≠ j) : d ≠ d' := by
 intro e
 subst e
 obtain ⟨h1, e1⟩ := List.getElem?_eq_some_iff.1 hi
 obtain ⟨h2, e2⟩ := List.getElem?_eq_some_iff.1 hj
 rcases Nat.lt_or_gt_of_ne h with hlt | hlt
 ·have := List.pairwise_iff_getElem.1 hd i j h1 h2 hlt
  rw [e1, e2] at this
  simp at this
 ·have := List.pairwise_iff_getElem.1 hd j i h2 h1 hlt
  rw [e1, e2] at this
  simp at this
theorem Sl.put {a0 a : Act} {ds : List (Option Nat)} {L : List Bool} {vs : List Value} (h : Sl a0 ds L vs a) (hd : ds.Pairwise fun a b => a = none ∨ a ≠ b) (hl : vs.length = ds.length) {i : Nat} {o : Option Nat} (hi : ds[i]? = some o) (hz : ∀ d, o = some d → d < a0.tmps.size) (v : Value) :
  Sl a0 ds (L.set i true) (vs.set i v) (a.put o v) := by
 have hlt : i < ds.length := (List.getElem?_eq_some_iff.1 hi).1
 have oth : ∀ j d, j ≠ i → ds[j]? = some (some d) → (L.set i true)[j]? = some true → a.tmps.getD d undef = (vs.set i v).getD j undef := fun j d hj hdj hL => by
  rw [List.getElem?_set_ne (Ne.symm hj)] at hL
  rw [h.at' j d hdj hL, List.getD_eq_getElem?_getD, List.getD_eq_getElem?_getD, List.getElem?_set_ne (Ne.symm hj)]
 cases o with
 | none =>
  refine ⟨h.agr, fun j d hj hL => ?_⟩
  have hne : j ≠ i := fun e => by subst e; rw [hi] at hj; cases hj
  exact oth j d hne hj hL
 | some d =>
  refine ⟨h.agr.put (List.mem_filterMap.2 ⟨some d, List.mem_of_getElem? hi, rfl⟩) v, fun j d' hj hL => ?_⟩
  rw [ev_put]
  by_cases e : j = i
  ·subst e
   rw [hi] at hj
   cases hj
   rw [if_pos ⟨rfl, by rw [h.agr.size]; exact hz _ rfl⟩, List.getD_eq_getElem?_getD, List.getElem?_set_self (by omega)]
   rfl
  ·rw [if_neg (fun x => far_ne hd hi hj (Ne.symm e) x.1)]
   exact oth j d' e hj hL
def putAll : Act → List (Option Nat) → List Value → Act
 | a, [], _ => a
 | a, _ :: _, [] => a
 | a, d :: ds, v :: vs => putAll (a.put d v) ds vs
theorem putAll_def : ∀ (ds : List (Option Nat)) (vs : List Value) (a : Act), (putAll a ds vs).defers = a.defers
 | [], _, _ => rfl
 | _ :: _, [], _ => rfl
 | d :: ds, v :: vs, a => by
  rw [putAll, putAll_def ds vs]
  cases d <;> rfl
theorem putAll_size : ∀ (ds : List (Option Nat)) (vs : List Value) (a : Act), (putAll a ds vs).tmps.size = a.tmps.size
 | [], _, _ => rfl
 | _ :: _, [], _ => rfl
 | d :: ds, v :: vs, a => by
  rw [putAll, putAll_size ds vs]
  cases d with
  | none => rfl
  | some d => exact size_put a d v
theorem putAll_off : ∀ (ds : List (Option Nat)) (vs : List Value) (a : Act) (t : Nat), t ∉ ds.filterMap id → (putAll a ds vs).tmps.getD t undef = a.tmps.getD t undef
 | [], _, _, _, _ => rfl
 | _ :: _, [], _, _, _ => rfl
 | d :: ds, v :: vs, a, t, ht => by
  have h2 : t ∉ ds.filterMap id := fun h => ht (by
   obtain ⟨x, h1, h2⟩ := List.mem_filterMap.1 h
   exact List.mem_filterMap.2 ⟨x, List.mem_cons_of_mem _ h1, h2⟩)
  rw [putAll, putAll_off ds vs _ t h2]
  cases d with
  | none => rfl
  | some d =>
   rw [ev_put, if_neg]
   rintro ⟨rfl, _⟩
   exact ht (List.mem_filterMap.2 ⟨some d, List.mem_cons_self, rfl⟩)
theorem putAll_on : ∀ (ds : List (Option Nat)) (vs : List Value) (a : Act) (i t : Nat), vs.length = ds.length → (ds.Pairwise fun a b => a = none ∨ a ≠ b) → ds[i]? = some (some t) → t < a.tmps.size → (putAll a ds vs).tmps.getD t undef = vs.getD i undef
 | [], _, _, _, _, _, _, h, _ => by simp at h
 | _ :: _, [], _, _, _, h, _, _, _ => by simp at h
 | d :: ds, v :: vs, a, 0, t, hl, hd, hi, hz => by
  simp at hi
  subst hi
  rw [putAll, putAll_off, ev_put, if_pos ⟨rfl, hz⟩]
  ·rfl
  ·intro h
   obtain ⟨x, h1, h2⟩ := List.mem_filterMap.1 h
   have := (List.pairwise_cons.1 hd).1 x h1
   simp at h2
   rw [h2] at this
   simp at this
 | d :: ds, v :: vs, a, i + 1, t, hl, hd, hi, hz => by
  rw [putAll, putAll_on ds vs _ i t (by simpa using hl) (List.pairwise_cons.1 hd).2 (by simpa using hi) (by
   cases d with
   | none => exact hz
   | some d => rw [size_put]; exact hz)]
  simp
theorem Sl.fin {a0 a : Act} {ds : List (Option Nat)} {L : List Bool} {vs : List Value} (h : Sl a0 ds L vs a) (hd : ds.Pairwise fun a b => a = none ∨ a ≠ b) (hl : vs.length = ds.length) (hL : ∀ i, i < ds.length → L[i]? = some true) (hz : ∀ d, some d ∈ ds → d < a0.tmps.size) : a = putAll a0 ds vs := by
 refine Act.same (h.agr.def'.trans (putAll_def ds vs a0).symm) (h.agr.size.trans (putAll_size ds vs a0).symm) fun t => ?_
 by_cases ht : t ∈ ds.filterMap id
 ·obtain ⟨x, h1, h2⟩ := List.mem_filterMap.1 ht
  simp at h2
  subst h2
  obtain ⟨i, hi, e⟩ := List.mem_iff_getElem.1 h1
  have hi' : ds[i]? = some (some t) := List.getElem?_eq_some_iff.2 ⟨hi, e⟩
  rw [h.at' i t hi' (hL i hi), putAll_on ds vs a0 i t hl hd hi' (hz t h1)]
 ·rw [h.agr.ev t ht, putAll_off ds vs a0 t ht]
def lowOps (ops : Array Oper) : Bool := (List.range ops.size).all fun i => ((ops[i]?).map fun o => o.after.all fun e => !Region.binds .any e || decide (e.on < i)).getD true
theorem region_inv {id : Nat} {ops : Array Oper} {Q : Exit → Act → World → Prop} {a0 : Act} {w0 : World} (hm : Tryz.prog.follows .mixedOrders = true) (n : Nat) (hn : ops.size = n) (ds : List (Option Nat)) (hds : ops.toList.map (·.dst) = ds)
  (hd : ds.Pairwise fun a b => a = none ∨ a ≠ b) (hz : (ds.all fun o => o.all fun d => decide (d < a0.tmps.size)) = true) (hlow : lowOps ops = true)
  (Inv : List Bool → List Value → World → Prop) (h0 : Inv (List.replicate n false) (List.replicate n undef) { w0 with drawn := w0.drawn + 1 })
  (hstep : ∀ L vs a w i o, L.length = n → vs.length = n → Sl a0 ds L vs a → Inv L vs w → L[i]? = some false → ops[i]? = some o → (∀ e ∈ o.after, Region.binds .any e = true → L[e.on]? = some true) →
   wpOp Tryz.prog ops Q i (fun a' w' => ∃ v, a' = a.put o.dst v ∧ Inv (L.set i true) (vs.set i v) w') a w)
  (hend : ∀ vs w, vs.length = n → Inv (List.replicate n true) vs w → Q .normal (putAll a0 ds vs) w) :
  (Code.region id ops true).wp Tryz.prog Q a0 w0 := by
 have hdl : ds.length = n := by rw [← hds, List.length_map, Array.length_toList, hn]
 have hzz : ∀ d, some d ∈ ds → d < a0.tmps.size := fun d h => by
  have := List.all_eq_true.1 hz _ h
  simpa using this
 refine wp_region_any hm ?_
 refine wpAny_inv (fun L a w => ∃ vs, L.size = n ∧ vs.length = n ∧ Sl a0 ds L.toList vs a ∧ Inv L.toList vs w) ?_ ?_ _ _ _ _ ?_ ?_
 ·rintro L a w ⟨vs, hL, hv, hS, hI⟩ i hi
  obtain ⟨hun, o, ho, haf⟩ := mem_ready.1 hi
  have hin : i < n := by rw [← hn]; exact (Array.getElem?_eq_some_iff.1 ho).1
  have hun' : L.toList[i]? = some false := by
   rw [Array.getElem?_toList, Array.getElem?_eq_getElem (by omega)]
   rw [Array.getD_eq_getD_getElem?, Array.getElem?_eq_getElem (by omega)] at hun
   simpa using hun
  have hdi : ds[i]? = some o.dst := by
   rw [← hds, List.getElem?_map, Array.getElem?_toList, ho]; rfl
  refine wpOp_mono ?_ (hstep L.toList vs a w i o (by simpa using hL) hv hS hI hun' ho (fun e he hb => ?_))
  ·rintro a' w' ⟨v, rfl, hI'⟩
   refine ⟨vs.set i v, by simpa using hL, by simpa using hv, ?_, ?_⟩
   ·rw [Array.toList_setIfInBounds]
    exact hS.put hd (by omega) hdi (fun d e => hzz d (by rw [← e]; exact List.mem_of_getElem? hdi)) v
   ·rw [Array.toList_setIfInBounds]; exact hI'
  ·have := haf e he hb
   rw [Array.getElem?_toList]
   rw [Array.getD_eq_getD_getElem?] at this
   cases hx : L[e.on]? with
   | none => rw [hx] at this; simp at this
   | some b => rw [hx] at this; simp at this; rw [this]
 ·rintro L a w ⟨vs, hL, hv, hS, hI⟩ hr
  have hall : ∀ i, i < n → L.toList[i]? = some true := by
   intro i
   induction i using Nat.strongRecOn with
   | _ i ih =>
    intro hi
    have hlt : i < L.size := by omega
    cases hb : L[i] with
    | true => rw [Array.getElem?_toList, Array.getElem?_eq_getElem hlt, hb]
    | false =>
     exfalso
     have hio : i < ops.size := by omega
     have hmem : i ∈ Region.ready .any ops L := by
      refine mem_ready.2 ⟨by rw [Array.getD_eq_getD_getElem?, Array.getElem?_eq_getElem hlt, hb]; rfl, ops[i], Array.getElem?_eq_getElem hio, fun e he hbd => ?_⟩
      have hlo := List.all_eq_true.1 hlow i (List.mem_range.2 hio)
      rw [Array.getElem?_eq_getElem hio] at hlo
      simp only [Option.map_some, Option.getD_some, Array.all_eq_true_iff_forall_mem, Bool.or_eq_true, Bool.not_eq_true', decide_eq_true_eq] at hlo
      have hon := (hlo e he).resolve_left (by rw [hbd]; simp)
      have := ih e.on hon (by omega)
      rw [Array.getElem?_toList] at this
      rw [Array.getD_eq_getD_getElem?, this]; rfl
     rw [hr] at hmem
     cases hmem
  have hLe : L.toList = List.replicate n true := by
   refine List.ext_getElem? fun i => ?_
   by_cases hi : i < n
   ·rw [hall i hi, List.getElem?_replicate_of_lt hi]
   ·rw [List.getElem?_eq_none (by simpa using by omega), List.getElem?_eq_none (by simpa using by omega)]
  have ha := hS.fin hd (by omega) (fun i hi => hall i (by omega)) hzz
  rw [ha]
  refine hend vs w hv ?_
  rw [← hLe]; exact hI
 ·refine ⟨List.replicate n undef, by simp [hn], by simp, ⟨⟨rfl, rfl, fun _ _ => rfl⟩, fun i d hi hL => ?_⟩, by rw [Array.toList_replicate, hn]; exact h0⟩
  rw [Array.toList_replicate, List.getElem?_replicate] at hL
  split at hL <;> cases hL
 ·have : ∀ m, falses (List.replicate m false) = m := fun m => by
   induction m with
   | zero => rfl
   | succ m ih => rw [List.replicate_succ, falses, ih]; simp; omega
  rw [Array.toList_replicate, this]
  exact Nat.le_refl _
theorem region_res {rid : Nat} {ops : Array Oper} {Q : Exit → Act → World → Prop} {a0 : Act} {w0 : World} (hm : Tryz.prog.follows .mixedOrders = true) (n : Nat) (hn : ops.size = n) (ds : List (Option Nat)) (hds : ops.toList.map (·.dst) = ds)
  (hd : ds.Pairwise fun a b => a = none ∨ a ≠ b) (hz : (ds.all fun o => o.all fun d => decide (d < a0.tmps.size)) = true) (hlow : lowOps ops = true)
  (S : Nat → List Nat) (Base : World → Prop) (Res : Nat → Value → World → Prop) (h0 : Base { w0 with drawn := w0.drawn + 1 })
  (hstab : ∀ i j v w w', i ≠ j → Base w → Res j v w → Upd (S i) w w' → Res j v w')
  (hstep : ∀ (D : Nat → Prop) (vs : List Value) a w i o, Agr (ds.filterMap id) a0 a → Base w → (∀ j, D j → Res j (vs.getD j undef) w) → (∀ j d, ds[j]? = some (some d) → D j → a.tmps.getD d undef = vs.getD j undef) → i < n → ops[i]? = some o → (∀ e ∈ o.after, Region.binds .any e = true → D e.on) →
   wpOp Tryz.prog ops Q i (fun a' w' => ∃ v, a' = a.put o.dst v ∧ Base w' ∧ Res i v w' ∧ Upd (S i) w w') a w)
  (hend : ∀ vs w, vs.length = n → Base w → (∀ j, j < n → Res j (vs.getD j undef) w) → Q .normal (putAll a0 ds vs) w) :
  (Code.region rid ops true).wp Tryz.prog Q a0 w0 := by
 refine region_inv hm n hn ds hds hd hz hlow (fun L vs w => vs.length = n ∧ Base w ∧ ∀ j, L[j]? = some true → Res j (vs.getD j undef) w) ⟨by simp, h0, fun j hj => ?_⟩ ?_ ?_
 ·rw [List.getElem?_replicate] at hj
  split at hj <;> cases hj
 ·rintro L vs a w i o hL hv hS ⟨_, hB, hR⟩ hun ho haf
  have hin : i < n := by rw [← hn]; exact (Array.getElem?_eq_some_iff.1 ho).1
  refine wpOp_mono ?_ (hstep (fun j => L[j]? = some true) vs a w i o hS.agr hB hR hS.at' hin ho haf)
  rintro a' w' ⟨v, ha, hB', hr, hu⟩
  refine ⟨v, ha, by simpa using hv, hB', fun j hj => ?_⟩
  by_cases e : i = j
  ·subst e
   rw [List.getD_eq_getElem?_getD, List.getElem?_set_self (by omega)]
   exact hr
  ·rw [List.getElem?_set_ne e] at hj
   have := hstab i j _ w w' e hB (hR j hj) hu
   rw [List.getD_eq_getElem?_getD, List.getElem?_set_ne e, ← List.getD_eq_getElem?_getD]
   exact this
 ·rintro vs w hv ⟨_, hB, hR⟩
  exact hend vs w hv hB fun j hj => hR j (List.getElem?_replicate_of_lt hj)
theorem wp_pure {o : Oper} {a : Act} {w : World} {K : Act → World → Prop} {Q : Exit → Act → World → Prop} {v : Value} (h : (execOp a.eval o).run Tryz.prog w = .ok (.value v) w) (hk : K (a.put o.dst v) w) : o.wp Tryz.prog a w K Q := by
 unfold Oper.wp
 rw [h]
 exact hk
theorem list_cons {α : Type} {n : Nat} {l : List α} (h : l.length = n + 1) : ∃ x r, l = x :: r ∧ r.length = n := by
 cases l with
 | nil => simp at h
 | cons x r => exact ⟨x, r, rfl, by simpa using h⟩
end Go.Proofs.YtalhbbabijlngaaGreatDoor
namespace Go.Proofs.YtalhbbabijlngaaGreatDoor
open Go.RowKit
theorem wp_field5 {o : Oper} {a : Act} {w : World} {K : Act → World → Prop} {Q : Exit → Act → World → Prop} (x : Operand) (ho : o.op = .fieldAddr 26 x 5) (g : Nat) (hx : a.eval x = .pointer (some ⟨g, 0, none⟩)) (h : K (a.put o.dst (.pointer (some ⟨g, 5, none⟩))) w) : o.wp Tryz.prog a w K Q := by
 refine wp_pure ?_ h
 unfold execOp
 simp only [ho, hx]
 kernel_rfl
theorem wp_field6 {o : Oper} {a : Act} {w : World} {K : Act → World → Prop} {Q : Exit → Act → World → Prop} (x : Operand) (ho : o.op = .fieldAddr 26 x 6) (g : Nat) (hx : a.eval x = .pointer (some ⟨g, 0, none⟩)) (h : K (a.put o.dst (.pointer (some ⟨g, 6, none⟩))) w) : o.wp Tryz.prog a w K Q := by
 refine wp_pure ?_ h
 unfold execOp
 simp only [ho, hx]
 kernel_rfl
theorem wp_loadS {o : Oper} {a : Act} {w : World} {K : Act → World → Prop} {Q : Exit → Act → World → Prop} (x : Operand) (ho : o.op = .load 24 x) (p : Addr) (v : Value) (hx : a.eval x = .pointer (some p)) (hc : w.cell? p = some v) (h : K (a.put o.dst v) w) : o.wp Tryz.prog a w K Q := by
 refine wp_pure ?_ h
 unfold execOp
 simp only [ho, hx]
 simp [go_sem, hc]
theorem wp_slice1 {o : Oper} {a : Act} {w : World} {K : Act → World → Prop} {Q : Exit → Act → World → Prop} (x : Operand) (ho : o.op = .slice 24 x (some (.const (.int .i64 1))) none none) (b q n c : Nat) (hn : 1 ≤ n) (hc : n ≤ c) (hx : a.eval x = .slice (some ⟨b, q, none⟩) n c)
  (h : ∀ a1 c1, (2 ≤ n → a1 = some ⟨b, q + 7, none⟩) → K (a.put o.dst (.slice a1 (n - 1) c1)) w) : o.wp Tryz.prog a w K Q := by
 have hr : ∃ a1 c1, (execOp a.eval o).run Tryz.prog w = .ok (.value (.slice a1 (n - 1) c1)) w ∧ (2 ≤ n → a1 = some ⟨b, q + 7, none⟩) := by
  have he : a.eval (.const (.int .i64 1)) = .int .i64 1 := rfl
  have h1 : (1 : Int) ≤ (n : Int) := by omega
  unfold execOp
  simp only [ho, hx, Option.map_some, Option.map_none, he]
  simp [go_sem, Tryz.underlying24, h1]
  intros; omega
 obtain ⟨a1, c1, hr, ha⟩ := hr
 exact wp_pure hr (h a1 c1 ha)
theorem wp_build7 {o : Oper} {a : Act} {w : World} {K : Act → World → Prop} {Q : Exit → Act → World → Prop} (x y : Operand) (ho : o.op = .build 26 #[(0, .const (.int .u8 7)), (5, x), (6, y)]) (a1 a2 : Option Addr) (n1 c1 n2 c2 : Nat) (hx : a.eval x = .slice a1 n1 c1) (hy : a.eval y = .slice a2 n2 c2)
  (h : K (a.put o.dst (.agg #[.int .u8 7, .bool false, .slice none 0 0, .string ⟨#[]⟩, .int .i64 0, .slice a1 n1 c1, .slice a2 n2 c2])) w) : o.wp Tryz.prog a w K Q := by
 refine wp_pure ?_ h
 have hb : (Instr.build 26 #[(0, .int .u8 7), (5, .slice a1 n1 c1), (6, .slice a2 n2 c2)]).run Tryz.prog w = .ok (.agg #[.int .u8 7, .bool false, .slice none 0 0, .string ⟨#[]⟩, .int .i64 0, .slice a1 n1 c1, .slice a2 n2 c2]) w := run_build w 26 _ _ (by kernel_rfl)
 unfold execOp
 have he : a.eval (.const (.int .u8 7)) = .int .u8 7 := rfl
 simp only [ho, List.map_toArray, List.map_cons, List.map_nil, hx, hy, he, Sem.run_bind, Sem.run_pure, Result.andThen_ok, hb]
theorem wp_assign {o : Oper} {a : Act} {w : World} {K : Act → World → Prop} {Q : Exit → Act → World → Prop} (x : Operand) (ho : o.op = .assign x) (v : Value) (hx : a.eval x = v) (h : K (a.put o.dst v) w) : o.wp Tryz.prog a w K Q := by
 refine wp_pure ?_ h
 unfold execOp
 simp [ho, hx]
end Go.Proofs.YtalhbbabijlngaaGreatDoor
namespace Go.Proofs.YtalhbbabijlngaaGreatDoor
open Go.RowKit
set_option maxRecDepth 100000 in
theorem wp_call2 {o : Oper} {a : Act} {w : World} {K : Act → World → Prop} {Q : Exit → Act → World → Prop} {f s s' : Nat} {ats : Array TypeId} (ho : o.op = .call { callee := .value (.func f), args := #[.tmp s, .tmp s'], argTypes := ats })
  (eg : ∀ args w, (callFunc f args).run Tryz.prog w = .ok (.enter f args) w) {v v' : Value} (hv : a.tmps.getD s undef = v) (hv' : a.tmps.getD s' undef = v') {R : Value → World → Prop} (hc : Calls Tryz.prog f #[v, v'] w fun e w' => ∃ u, e = .returned u ∧ R u w') (h : ∀ u w', R u w' → K (a.put o.dst u) w') : o.wp Tryz.prog a w K Q := by
 unfold Oper.wp execOp
 simp [ho, resolve, Deferred.ofValue, invoke, Act.eval, hv, hv', eg, Oper.upon]
 refine hc.mono ?_
 rintro e w' ⟨u, rfl, hR⟩
 exact h u w' hR
def PairInv (w0 : World) (csA csB : Array Value) (R : (Nat → Prop) → Array Value → World → Prop) (L : List Bool) (vs : List Value) (w : World) : Prop :=
 (∃ b0 c0 b1 b2 c2 b3 b4 b5 v0 u0 v1 v2 u2 v3 v4 v5 x8 x9, L = [b0, c0, b1, b2, c2, b3, b4, b5, false, false] ∧ vs = [v0, u0, v1, v2, u2, v3, v4, v5, x8, x9] ∧ TwoW w0 csA csA R R b0 b1 b2 b3 b4 b5 v0 v1 v2 v3 v4 v5 w ∧ (c0 = true → u0 = .agg csB) ∧ (c2 = true → u2 = .agg csB) ∧ (b3 = true → c2 = true)) ∨
 (∃ v0 u0 v1 v2 u2 v3 v4 v5 x8 x9, L = [true, true, true, true, true, true, true, true, true, false] ∧ vs = [v0, u0, v1, v2, u2, v3, v4, v5, x8, x9] ∧ TwoT w0 csA csA R R v0 v1 v2 v3 v4 v5 w) ∨
 (∃ v0 u0 v2 u2 x8 x9 g h X Y PX PY, L = [true, true, true, true, true, true, true, true, true, true] ∧ vs = [v0, u0, .agg X, v2, u2, .agg Y, .pointer (some ⟨g, 0, none⟩), .pointer (some ⟨h, 0, none⟩), x8, x9] ∧ g ≠ h ∧ w0.heap.size ≤ g ∧ w0.heap.size ≤ h ∧ X.size = 7 ∧ Y.size = 7 ∧ Tb w g X ∧ Tb w h Y ∧ R PX X w ∧ R PY Y w ∧ Upd [] w0 w ∧ ∀ z, PX z → ¬ PY z)
set_option maxHeartbeats 4000000 in
set_option maxRecDepth 100000 in
theorem pair_region {rid : Nat} {Q : Exit → Act → World → Prop} {a0 : Act} {w0 : World} (hm : Tryz.prog.follows .mixedOrders = true) (hsz : ([some 34, some 35, some 36, some 37, some 38, some 39, some 9, some 10, none, none].all fun o => o.all fun d => decide (d < a0.tmps.size)) = true)
  (bA bB : Nat) (csA csB : Array Value) (hA : a0.tmps.getD 7 undef = .pointer (some ⟨bA, 0, none⟩)) (hB : a0.tmps.getD 8 undef = .pointer (some ⟨bB, 0, none⟩)) (tAb : Tb w0 bA csA) (tBb : Tb w0 bB csB) (hcA : csA.size = 7) (hcB : csB.size = 7)
  (R : (Nat → Prop) → Array Value → World → Prop) (st : ∀ PX X w w' U, R PX X w → Upd U w w' → (∀ z, PX z → z ∉ U) → R PX X w')
  (hF : ∀ V, Upd [] w0 V → Calls Tryz.prog 24 #[.agg csA, .agg csB] V fun e w' => ∃ u, e = .returned u ∧ Upd [] V w' ∧ ∃ X PX, u = .agg X ∧ X.size = 7 ∧ X.all (·.oneCell') = true ∧ R PX X w' ∧ ∀ z, PX z → V.heap.size ≤ z ∧ z < w'.heap.size)
  (hQ : ∀ v0 u0 v2 u2 x8 x9 g h X Y PX PY w', g ≠ h → w0.heap.size ≤ g → w0.heap.size ≤ h → X.size = 7 → Y.size = 7 → Tb w' g X → Tb w' h Y → R PX X w' → R PY Y w' → Upd [] w0 w' → (∀ z, PX z → ¬ PY z) →
   Q .normal (putAll a0 [some 34, some 35, some 36, some 37, some 38, some 39, some 9, some 10, none, none] [v0, u0, .agg X, v2, u2, .agg Y, .pointer (some ⟨g, 0, none⟩), .pointer (some ⟨h, 0, none⟩), x8, x9]) w') :
  (Code.region rid #[{ dst := some 34, op := .load 26 (.tmp 7), type := 26, pos := "law.go:74", after := #[], guard := none }, { dst := some 35, op := .load 26 (.tmp 8), type := 26, pos := "law.go:74", after := #[], guard := none }, { dst := some 36, op := .call { callee := .value (.func 24), args := #[.tmp 34, .tmp 35], argTypes := #[26, 26] }, type := 26, pos := "law.go:74", after := #[{ on := 0, ground := .data }, { on := 1, ground := .data }], guard := none }, { dst := some 37, op := .load 26 (.tmp 7), type := 26, pos := "law.go:74", after := #[], guard := none }, { dst := some 38, op := .load 26 (.tmp 8), type := 26, pos := "law.go:74", after := #[], guard := none }, { dst := some 39, op := .call { callee := .value (.func 24), args := #[.tmp 37, .tmp 38], argTypes := #[26, 26] }, type := 26, pos := "law.go:74", after := #[{ on := 3, ground := .data }, { on := 4, ground := .data }, { on := 2, ground := .chain }], guard := none }, { dst := some 9, op := .alloc 26, type := 0, pos := "law.go:74", after := #[], guard := none }, { dst := some 10, op := .alloc 26, type := 0, pos := "law.go:74", after := #[], guard := none }, { dst := none, op := .store 26 (.tmp 9) (.tmp 36), type := 0, pos := "law.go:74", after := #[{ on := 6, ground := .data }, { on := 2, ground := .data }, { on := 5, ground := .chain }, { on := 0, ground := .phase }, { on := 1, ground := .phase }, { on := 2, ground := .phase }, { on := 3, ground := .textOnly .lateStores }, { on := 4, ground := .textOnly .lateStores }, { on := 5, ground := .textOnly .lateStoresUnsure }, { on := 6, ground := .phase }, { on := 7, ground := .phase }], guard := none }, { dst := none, op := .store 26 (.tmp 10) (.tmp 39), type := 0, pos := "law.go:74", after := #[{ on := 7, ground := .data }, { on := 5, ground := .data }, { on := 8, ground := .chain }, { on := 0, ground := .phase }, { on := 1, ground := .phase }, { on := 2, ground := .phase }, { on := 3, ground := .phase }, { on := 4, ground := .phase }, { on := 5, ground := .phase }, { on := 6, ground := .phase }, { on := 7, ground := .phase }, { on := 8, ground := .phase }], guard := none }] true).wp Tryz.prog Q a0 w0 := by
 obtain ⟨fs, hdesc⟩ := term_desc
 refine region_inv hm 10 rfl [some 34, some 35, some 36, some 37, some 38, some 39, some 9, some 10, none, none] rfl (by decide) hsz (by kernel_rfl) (PairInv w0 csA csB R) ?_ ?_ ?_
 ·refine Or.inl ⟨false, false, false, false, false, false, false, false, undef, undef, undef, undef, undef, undef, undef, undef, undef, undef, rfl, rfl, ⟨(Upd.refl [] w0).drew, ?_, ?_, ?_, ?_, ?_, ?_, ?_, ?_, ?_⟩, ?_, ?_, ?_⟩ <;> intro h <;> cases h
 ·intro L vs a w i o hL hv hS hI hun ho haf
  have hi : i < 10 := (Array.getElem?_eq_some_iff.1 ho).1
  have hc : i = 0 ∨ i = 1 ∨ i = 2 ∨ i = 3 ∨ i = 4 ∨ i = 5 ∨ i = 6 ∨ i = 7 ∨ i = 8 ∨ i = 9 := by omega
  rcases hI with ⟨b0, c0, b1, b2, c2, b3, b4, b5, v0, u0, v1, v2, u2, v3, v4, v5, x8, x9, rfl, rfl, hV, hc0, hc2, hc3⟩ | ⟨v0, u0, v1, v2, u2, v3, v4, v5, x8, x9, rfl, rfl, hV⟩ | ⟨v0, u0, v2, u2, x8, x9, g, h, X, Y, PX, PY, rfl, _⟩
  ·rcases hc with rfl | rfl | rfl | rfl | rfl | rfl | rfl | rfl | rfl | rfl <;> cases ho
   ·exact ops_wp rfl rfl (wp_load_row 26 (.tmp 7) rfl bA ((hS.agr.ev 7 (by decide)).trans hA) 26 csA (0, 0) _ (tAb.mono hV.upd (by simp)) hdesc rfl (by rw [info_term, hcA]) ⟨_, rfl, Or.inl ⟨true, c0, b1, b2, c2, b3, b4, b5, _, _, _, _, _, _, _, _, _, _, rfl, rfl, hV.load0, hc0, hc2, hc3⟩⟩)
   ·exact ops_wp rfl rfl (wp_load_row 26 (.tmp 8) rfl bB ((hS.agr.ev 8 (by decide)).trans hB) 26 csB (0, 0) _ (tBb.mono hV.upd (by simp)) hdesc rfl (by rw [info_term, hcB]) ⟨_, rfl, Or.inl ⟨b0, true, b1, b2, c2, b3, b4, b5, _, _, _, _, _, _, _, _, _, _, rfl, rfl, hV, fun _ => rfl, hc2, hc3⟩⟩)
   ·have hb0 : b0 = true := by have := haf ⟨0, .data⟩ (by simp) rfl; simpa using this
    have hb1 : c0 = true := by have := haf ⟨1, .data⟩ (by simp) rfl; simpa using this
    refine ops_wp rfl rfl (wp_call2 rfl Tryz.call24 ((hS.at' 0 34 rfl (by simpa using hb0)).trans (hV.e0 hb0)) ((hS.at' 1 35 rfl (by simpa using hb1)).trans (hc0 hb1)) (hF w hV.upd) ?_)
    rintro u w' ⟨hu, X, PX, rfl, h7, h1, hR, hP⟩
    exact ⟨_, rfl, Or.inl ⟨b0, c0, true, b2, c2, b3, b4, b5, _, _, _, _, _, _, _, _, _, _, rfl, rfl, hV.call1 (by simpa using hun) hu h7 h1 hR hP, hc0, hc2, hc3⟩⟩
   ·exact ops_wp rfl rfl (wp_load_row 26 (.tmp 7) rfl bA ((hS.agr.ev 7 (by decide)).trans hA) 26 csA (0, 0) _ (tAb.mono hV.upd (by simp)) hdesc rfl (by rw [info_term, hcA]) ⟨_, rfl, Or.inl ⟨b0, c0, b1, true, c2, b3, b4, b5, _, _, _, _, _, _, _, _, _, _, rfl, rfl, hV.load2, hc0, hc2, hc3⟩⟩)
   ·exact ops_wp rfl rfl (wp_load_row 26 (.tmp 8) rfl bB ((hS.agr.ev 8 (by decide)).trans hB) 26 csB (0, 0) _ (tBb.mono hV.upd (by simp)) hdesc rfl (by rw [info_term, hcB]) ⟨_, rfl, Or.inl ⟨b0, c0, b1, b2, true, b3, b4, b5, _, _, _, _, _, _, _, _, _, _, rfl, rfl, hV, hc0, fun _ => rfl, fun _ => rfl⟩⟩)
   ·have hb2 : b2 = true := by have := haf ⟨3, .data⟩ (by simp) rfl; simpa using this
    have hb4 : c2 = true := by have := haf ⟨4, .data⟩ (by simp) rfl; simpa using this
    have hb1 : b1 = true := by have := haf ⟨2, .chain⟩ (by simp) rfl; simpa using this
    refine ops_wp rfl rfl (wp_call2 rfl Tryz.call24 ((hS.at' 3 37 rfl (by simpa using hb2)).trans (hV.e2 hb2)) ((hS.at' 4 38 rfl (by simpa using hb4)).trans (hc2 hb4)) (hF w hV.upd) ?_)
    rintro u w' ⟨hu, X, PX, rfl, h7, h1, hR, hP⟩
    exact ⟨_, rfl, Or.inl ⟨b0, c0, b1, b2, c2, true, b4, b5, _, _, _, _, _, _, _, _, _, _, rfl, rfl, hV.call3 st hb2 hb1 hu h7 h1 hR hP, hc0, hc2, fun _ => hb4⟩⟩
   ·exact ops_wp rfl rfl (wp_alloc' rfl ⟨_, rfl, Or.inl ⟨b0, c0, b1, b2, c2, b3, true, b5, _, _, _, _, _, _, _, _, _, _, rfl, rfl, hV.alloc4 st st, hc0, hc2, hc3⟩⟩)
   ·exact ops_wp rfl rfl (wp_alloc' rfl ⟨_, rfl, Or.inl ⟨b0, c0, b1, b2, c2, b3, b4, true, _, _, _, _, _, _, _, _, _, _, rfl, rfl, hV.alloc5 st st, hc0, hc2, hc3⟩⟩)
   ·have hb4 : b4 = true := by have := haf ⟨6, .data⟩ (by simp) rfl; simpa using this
    have hb1 : b1 = true := by have := haf ⟨2, .data⟩ (by simp) rfl; simpa using this
    have hb3 : b3 = true := by have := haf ⟨5, .chain⟩ (by simp) rfl; simpa using this
    have hb0 : b0 = true := by have := haf ⟨0, .phase⟩ (by simp) rfl; simpa using this
    have hb01 : c0 = true := by have := haf ⟨1, .phase⟩ (by simp) rfl; simpa using this
    have hb5 : b5 = true := by have := haf ⟨7, .phase⟩ (by simp) rfl; simpa using this
    subst hb4 hb1 hb3 hb0 hb01 hb5
    obtain ⟨X, PX, Y, PY, ⟨rfl, x7, x1, xR, xP, x4, x5⟩, ⟨rfl, y7, y1, yR, yP, y4, y5⟩, hdis⟩ := hV.e3 rfl
    obtain ⟨g, rfl, hg, tg⟩ := hV.e4 rfl
    obtain ⟨h, rfl, hh, th⟩ := hV.e5 rfl
    have hne : g ≠ h := fun e => hV.ne rfl rfl (by rw [e])
    have hb2 : b2 = true := hV.c3 rfl
    subst hb2
    refine ops_wp rfl rfl (wp_store_row 26 (.tmp 9) (.tmp 36) rfl g X (hS.at' 6 9 rfl rfl) (hS.at' 2 36 rfl rfl) 26 #[.int .u8 0, .bool false, .slice none 0 0, .string ⟨#[]⟩, .int .i64 0, .slice none 0 0, .slice none 0 0] tg (by rw [info_term, x7]) (by rw [x7]; rfl) x1 ?_)
    have hcc := hc3 rfl
    subst hcc
    refine ⟨undef, rfl, Or.inr (Or.inl ⟨_, _, _, _, _, _, _, _, _, _, rfl, rfl, hV.upd.then (setRow_upd w g X) (fun z hz => by simp at hz; subst hz; exact Or.inl hg), hV.e0 rfl, hV.e2 rfl, X, PX, Y, PY, g, h, rfl, x7, st _ _ _ _ _ xR (setRow_upd w g X) (fun z hz hm => ?_), rfl, y7, y1, st _ _ _ _ _ yR (setRow_upd w g X) (fun z hz hm => ?_), rfl, rfl, hg, hh, hne, setRow_tb tg X, th.mono (setRow_upd w g X) (by simp; exact fun e => hne e.symm), x5 rfl h rfl, y5 rfl h rfl, hdis⟩)⟩
    ·simp at hm; subst hm; exact x4 rfl _ rfl hz
    ·simp at hm; subst hm; exact y4 rfl _ rfl hz
   ·exfalso
    have := haf ⟨8, .chain⟩ (by simp) rfl
    simp at this
  ·have h9 : i = 9 := by rcases hc with rfl | rfl | rfl | rfl | rfl | rfl | rfl | rfl | rfl | rfl <;> simp at hun ⊢
   subst h9
   cases ho
   obtain ⟨hu, rfl, rfl, X, PX, Y, PY, g, h, rfl, x7, xR, rfl, y7, y1, yR, rfl, rfl, hg, hh, hne, tg, th, xh, yh, hdis⟩ := hV
   refine ops_wp rfl rfl (wp_store_row 26 (.tmp 10) (.tmp 39) rfl h Y (hS.at' 7 10 rfl rfl) (hS.at' 5 39 rfl rfl) 26 #[.int .u8 0, .bool false, .slice none 0 0, .string ⟨#[]⟩, .int .i64 0, .slice none 0 0, .slice none 0 0] th (by rw [info_term, y7]) (by rw [y7]; rfl) y1 ?_)
   exact ⟨undef, rfl, Or.inr (Or.inr ⟨_, _, _, _, _, _, g, h, X, Y, PX, PY, rfl, rfl, hne, hg, hh, x7, y7, tg.mono (setRow_upd w h Y) (by simp; exact hne), setRow_tb th Y, st _ _ _ _ _ xR (setRow_upd w h Y) (fun z hz hm => by simp at hm; subst hm; exact xh hz), st _ _ _ _ _ yR (setRow_upd w h Y) (fun z hz hm => by simp at hm; subst hm; exact yh hz), hu.then (setRow_upd w h Y) (fun z hz => by simp at hz; subst hz; exact Or.inl hh), hdis⟩)⟩
  ·exfalso
   rcases hc with rfl | rfl | rfl | rfl | rfl | rfl | rfl | rfl | rfl | rfl <;> simp at hun
 ·rintro vs w hv (⟨b0, c0, b1, b2, c2, b3, b4, b5, v0, u0, v1, v2, u2, v3, v4, v5, x8, x9, e, _⟩ | ⟨v0, u0, v1, v2, u2, v3, v4, v5, x8, x9, e, _⟩ | ⟨v0, u0, v2, u2, x8, x9, g, h, X, Y, PX, PY, _, rfl, h1, h2, h3, h4, h5, h6, h7, h8, h9, h10, h11⟩)
  ·simp [List.replicate] at e
  ·simp [List.replicate] at e
  ·exact hQ v0 u0 v2 u2 x8 x9 g h X Y PX PY w h1 h2 h3 h4 h5 h6 h7 h8 h9 h10 h11
end Go.Proofs.YtalhbbabijlngaaGreatDoor
