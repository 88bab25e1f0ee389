/- What is lent: each row in a block of its own, with its room. -/
import Derived.Test.YtabknipgbmdipaaGreatDoorJAX
import Derived.Test.YtabknipgbmdipaaGreatDoorJAZ
import Derived.Test.YtabknipgbmdipaaGreatDoorJAI

namespace Go.Proofs.YtabknipgbmdipaaGreatDoor
open Go.RowKit

theorem ou_there {w : World} {base g n cap : Nat} {X : List Nat} (h : OU w base (.slice (some ⟨g, 0, none⟩) n cap) X) : w.there g 0 cap ∧ g < w.heap.size := by
  obtain ⟨_, ⟨e, _⟩ | ⟨g', cap', cur, hv, _, hh, _, _, hcs, _⟩⟩ := h
  · cases e
  · simp only [Value.slice.injEq, Option.some.injEq, Addr.mk.injEq, and_true] at hv
    obtain ⟨rfl, _, rfl⟩ := hv
    refine ⟨fun j hj => ⟨?_, frozen_of_row _ _ _ _ _ hh⟩, lt_of_block hh⟩
    rw [cell_of_row _ _ _ _ _ _ hh, Array.getElem?_eq_getElem (by omega)]; rfl
theorem ot_there {w : World} {g k cap : Nat} {C : List (List Value)} (h : OT w g k cap C) : w.there g 0 (cap * 7) := by
  obtain ⟨_, ⟨e, _⟩ | ⟨g', cap', cur, hv, _, hh, _, _, hcs, _⟩⟩ := h
  · cases e
  · simp only [Value.slice.injEq, Option.some.injEq, Addr.mk.injEq, and_true] at hv
    obtain ⟨rfl, _, rfl⟩ := hv
    refine fun j hj => ⟨?_, frozen_of_row _ _ _ _ _ hh⟩
    rw [cell_of_row _ _ _ _ _ _ hh, Array.getElem?_eq_getElem (by omega)]; rfl
/-- Kids that lie apart, behind their row. -/
def KidsS (base : Nat) (wr : World) (d : Nat) (C : List (List Value)) (I : List Tm) : Prop := ∃ ls rs : Nat → List Value, (∀ j (hj : j < C.length) (hi : j < I.length), BT 12 wr d C[j] I[j] (ls j) (rs j) ∧ Apt (ls j) (rs j) ∧ ∀ x, x ∈ KB (ls j) (rs j) → base < x) ∧ ∀ i j x, i < C.length → j < C.length → i ≠ j → x ∈ KB (ls i) (rs i) → x ∉ KB (ls j) (rs j)
theorem KidsS.nil (base : Nat) (wr : World) (d : Nat) (I : List Tm) : KidsS base wr d [] I := ⟨fun _ => [], fun _ => [], fun j hj => by simp at hj, fun i j x hi => by simp at hi⟩
theorem KidsS.keep {base d : Nat} {w w' : World} {C : List (List Value)} {I : List Tm} (h : KidsS base w d C I) (_hC : C.length ≤ I.length) (hu : Upd [base] w w') : KidsS base w' d C I := by
  obtain ⟨ls, rs, h1, h2⟩ := h
  refine ⟨ls, rs, fun j hj hi => ?_, h2⟩
  obtain ⟨a1, a2, a3⟩ := h1 j hj hi
  exact ⟨BT.upd hu _ _ _ _ _ (fun x hx hm => by have := a3 x hx; simp at hm; omega) a1, a2, a3⟩
theorem KidsS.snoc {base d : Nat} {w w1 w' : World} {C : List (List Value)} {I : List Tm} {cs l r : List Value} (h : KidsS base w d C I) (hC : C.length < I.length) (hb : base < w.heap.size) (hu : Upd [base] w w') (hu1 : Upd [base] w1 w') (hbt : BT 12 w1 d cs I[C.length] l r) (ha : Apt l r) (hl : ∀ x, x ∈ KB l r → w.heap.size ≤ x) : KidsS base w' d (C ++ [cs]) I := by
  obtain ⟨ls, rs, h1, h2⟩ := h.keep (Nat.le_of_lt hC) hu
  obtain ⟨ls0, rs0, g1, g2⟩ := h
  refine ⟨fun j => if j < C.length then ls0 j else l, fun j => if j < C.length then rs0 j else r, fun j hj hi => ?_, fun i j x hi hj hij hx => ?_⟩
  · by_cases hjC : j < C.length
    · simp only [hjC, if_true]
      rw [List.getElem_append_left hjC]
      obtain ⟨a1, a2, a3⟩ := g1 j hjC hi
      exact ⟨BT.upd hu _ _ _ _ _ (fun x hx hm => by have := a3 x hx; simp at hm; omega) a1, a2, a3⟩
    · have e : j = C.length := by simp at hj; omega
      subst e
      simp only [Nat.lt_irrefl, if_false]
      rw [List.getElem_append_right (Nat.le_refl _)]
      simp only [Nat.sub_self, List.getElem_cons_zero]
      exact ⟨BT.upd hu1 _ _ _ _ _ (fun x hx hm => by have := hl x hx; simp at hm; omega) hbt, ha, fun x hx => by have := hl x hx; omega⟩
  · simp at hi hj
    by_cases hiC : i < C.length <;> by_cases hjC : j < C.length
    · simp only [hiC, hjC, if_true] at hx ⊢
      exact g2 i j x hiC hjC hij hx
    · simp only [hiC, hjC, if_true, if_false] at hx ⊢
      intro hx2
      have h3 := hl x hx2
      have h4 := BT.lt _ _ _ _ _ (g1 i hiC (by omega)).1 x hx
      omega
    · simp only [hiC, hjC, if_true, if_false] at hx ⊢
      intro hx2
      have h3 := hl x hx
      have h4 := BT.lt _ _ _ _ _ (g1 j hjC (by omega)).1 x hx2
      omega
    · omega

set_option maxHeartbeats 4000000 in
set_option maxRecDepth 100000 in
/-- LentLimbs: the same limbs in memory of their own, twelve marks behind them. -/
theorem LentLimbs_sep (a : Option Addr) (c : Nat) (L : List Nat) (w : World) (hL : L.length ≤ 35184372088700) (HL : At w a L) :
    Calls Tryz.prog 36 #[.slice a L.length c] w fun e w' => Upd [] w w' ∧ ∃ g cap, e = .returned (.slice (some ⟨g, 0, none⟩) L.length cap) ∧ w.heap.size ≤ g ∧ At w' (some ⟨g, 0, none⟩) (L ++ marks) ∧ L.length + 12 ≤ cap ∧ cap ≤ 9223372036854775807 ∧ w'.there g 0 cap ∧ g < w'.heap.size := by
  obtain ⟨i0, hi, hz0, hz1, hz2⟩ := info_parts info_u32
  go_enter Tryz.func36, Tryz.ntmps36
  go_wp2_with (first
    | (at_make; refine wpList_make_own _ rfl _ _ 23 rfl w.heap.size 47 i0 (.int .u32 0) 1 Tryz.underlying23 hi hz0 hz1 .i64 .i64 _ (L.length + 12) rfl rfl (by simp) (by rw [hz2]; omega) (by unfold maxLen; omega) (Nat.le_refl _) ?_; intro w0 hown0 hgr0; have hU0 : Upd [] w w0 := (Upd.refl [] w).grown hgr0 (fun k hk => by cases hk); have hO0 : OU w0 w.heap.size (.slice (some ⟨w.heap.size, 0, none⟩) 0 (L.length + 12)) [] := hown0)
    | (at_builtin; refine append_ou _ rfl _ _ rfl w.heap.size [] L (.slice (some ⟨w.heap.size, 0, none⟩) 0 (L.length + 12)) a c (by simp; omega) rfl hO0 (by simp) rfl (HL.mono hU0) hU0.size w hU0 (Nat.le_refl _) ?_; intro v1 w1 hO1 hv1 hU1))
  rw [List.nil_append] at hO1
  clear hown0 hgr0 hO0 hU0
  go_loopw [3, 4] (fun v i wr => ∃ j : Nat, j ≤ 12 ∧ i = .int .i64 j ∧ OU wr w.heap.size v (L ++ marks.take j) ∧ v ≠ .slice none 0 0 ∧ Upd [] w wr) (fun _ i _ => 12 - (intOf i).toNat)
  case atStart => exact ⟨0, by omega, rfl, by rw [List.take_zero, List.append_nil]; exact hO1, hv1, hU1⟩
  case round =>
    obtain ⟨j, hj, rfl, hO, hv, hU⟩ := hrel
    have hml : (marks.take j).length = j := by rw [List.length_take]; show min j 12 = j; omega
    obtain ⟨g, cap, hvv, hbg, hlt, hc1, hc2, hat⟩ := hO.form hv
    rw [List.length_append, hml] at hvv hc1
    subst hvv
    have HO : Hid (OU wr w.heap.size (.slice (some ⟨g, 0, none⟩) (L.length + j) cap) (L ++ marks.take j)) := hO
    have HML : Hid ((marks.take j).length = j) := hml
    have hszr := hU.size
    clear hO hv hml hO1 hv1 hU1
    by_cases hj2 : j < 12
    · go_wp2_with fail
      refine (mark_any j wr hj2).mono ?_
      rintro e w2 ⟨rfl, hw2⟩
      rw [hw2]
      clear hw2
      have hA1 : At (wr.alloc (.cells #[.int .u32 ((8000024 + j : Nat) : Int)] 47)) (some ⟨wr.heap.size, 0, none⟩) [8000024 + j] := by
        refine Or.inr ⟨wr.heap.size, 0, rfl, by simp, fun i hi => ?_⟩
        have : i = 0 := by simp at hi; omega
        subst this
        rw [cell_of_row _ wr.heap.size _ _ _ _ (heap_alloc_new wr _)]
        rfl
      go_wp2_with (at_builtin; refine append_ou _ rfl _ _ rfl w.heap.size (L ++ marks.take j) [8000024 + j] (.slice (some ⟨g, 0, none⟩) (L.length + j) cap) (some ⟨wr.heap.size, 0, none⟩) 1 (by rw [List.length_append, HML.out]; simp; omega) rfl ?_ (by simp) rfl hA1 (by simp; omega) w (hU.alloc _) (Nat.le_refl _) ?_; (exact World.ownsRow.alloc HO.out _); intro v3 w3 hO3 hv3 hU3)
      go_roundw
      case rel => exact ⟨j + 1, by omega, by go_num, by rw [marks_step j hj2, ← List.append_assoc]; exact hO3, hv3, hU3⟩
      case measure => simp [intOf]; omega
    · have hj12 : j = 12 := by omega
      subst hj12
      go_wp2
      go_ret
      exact ⟨hU, g, cap, rfl, hbg, hat, by omega, hc2, (ou_there HO.out).1, (ou_there HO.out).2⟩


/-- What LentTerm is to answer, of depth d. -/
def LentSaidS (d : Nat) : Prop := ∀ (w : World) (cs : List Value) (t : Tm), In w d cs t → tsz t ≤ 1353245080330 → Calls Tryz.prog 8 #[.agg cs.toArray] w fun e w' => Upd [] w w' ∧ ∃ cs', cs'.length = 7 ∧ e = .returned (.agg cs'.toArray) ∧ KIn (fun g => w.heap.size ≤ g) w' d cs' t ∧ ∃ LB RB, BT 12 w' d cs' t LB RB ∧ Apt LB RB ∧ ∀ x, x ∈ KB LB RB → w.heap.size ≤ x

def LentInvS (d : Nat) (w : World) (I : List Tm) (ov i : Value) (wr : World) : Prop := ∃ (k : Nat) (C : List (List Value)), k ≤ I.length ∧ i = .int .i64 k ∧ ov = .slice (some ⟨w.heap.size, 0, none⟩) k (I.length + 12) ∧ OT wr w.heap.size k (I.length + 12) C ∧ C.length = k ∧ (∀ j (hj : j < C.length) (hi : j < I.length), C[j].length = 7 ∧ KIn (fun g => w.heap.size < g) wr d C[j] I[j]) ∧ Upd [] w wr ∧ w.heap.size < wr.heap.size ∧ KidsS w.heap.size wr d C I

set_option maxHeartbeats 4000000 in
set_option maxRecDepth 100000 in
theorem LentTerms_sep (d : Nat) (ih : LentSaidS d) (w : World) (a : Option Addr) (c : Nat) (I : List Tm) (h : RowAt (In w d) w a I) (hs : tszs I ≤ 1353245080330) :
    Calls Tryz.prog 37 #[.slice a I.length c] w fun e w' => Upd [] w w' ∧ ∃ g cap, e = .returned (.slice (some ⟨g, 0, none⟩) I.length cap) ∧ RowK (fun g => w.heap.size ≤ g) (KIn (fun g => w.heap.size ≤ g) w' d) w' g cap I ∧ ∃ LB RB, RowBT 12 (BT 12 w' d) w' (.slice (some ⟨g, 0, none⟩) I.length cap) I LB RB ∧ Apt LB RB ∧ ∀ x, x ∈ KB LB RB → w.heap.size ≤ x := by
  obtain ⟨i0, hi, hz0, hz1, hz2⟩ := info_parts info_term3
  have hIl := tszs_len I
  have hlen : I.length ≤ 1353245080330 := by omega
  have HS : Hid (tszs I ≤ 1353245080330) := hs
  have HA : Hid (RowAt (In w d) w a I) := h
  have IH : Hid (LentSaidS d) := ih
  clear hIl hs h ih
  go_enter Tryz.func37, Tryz.ntmps37
  go_wp2_with (at_make; refine wpList_make_own _ rfl _ _ 24 rfl w.heap.size 26 i0 _ 7 Tryz.underlying24 hi hz0 hz1 .i64 .i64 _ (I.length + 12) rfl rfl (by simp) (by rw [hz2]; omega) (by unfold maxLen; omega) (Nat.le_refl _) ?_; intro w0 hown0 hgr0)
  have hU0 : Upd [] w w0 := (Upd.refl [] w).grown hgr0 (fun k hk => by cases hk)
  have hlt0 : w.heap.size < w0.heap.size := (World.ownsRow.lt hown0 w.heap.size rfl).2
  go_loopw [3, 4] (LentInvS d w I) (fun _ i _ => I.length - (intOf i).toNat)
  case atStart => exact ⟨0, [], Nat.zero_le _, rfl, rfl, hown0, rfl, fun j hj => (by simp at hj), hU0, hlt0, KidsS.nil _ _ _ _⟩
  case round =>
    obtain ⟨k, C, hk, rfl, rfl, hO, hC, hK, hU, hlt, hS⟩ := hrel
    have HSk : Hid (KidsS w.heap.size wr d C I) := hS
    clear hS
    by_cases hk2 : k < I.length
    · rcases HA.out with h0 | ⟨b, o, rfl, hltb, hc⟩
      · rw [h0] at hk2; simp at hk2
      obtain ⟨cs, hl7, hcell, hin⟩ := hc k hk2
      obtain ⟨q0, q1, q2, q3, q4, q5, q6, rfl⟩ := list7 hl7
      have HIN : Hid (In w d [q0, q1, q2, q3, q4, q5, q6] I[k]) := hin
      have HSZ : Hid (tsz I[k] ≤ 1353245080330) := Nat.le_trans (tszs_get I k hk2) HS.out
      have mc : ∀ j, j < 7 → wr.cell? ⟨b, o + (k * 7 + j), none⟩ = [q0, q1, q2, q3, q4, q5, q6][j]? := fun j hj => (hU.cell (p := ⟨b, o + (k * 7 + j), none⟩) hltb (by simp)).trans (hcell j hj)
      have x0 : wr.cell? ⟨b, o + k * 7, none⟩ = some q0 := mc 0 (by omega)
      have x1 : wr.cell? ⟨b, o + k * 7 + 1, none⟩ = some q1 := mc 1 (by omega)
      have x2 : wr.cell? ⟨b, o + k * 7 + 2, none⟩ = some q2 := mc 2 (by omega)
      have x3 : wr.cell? ⟨b, o + k * 7 + 3, none⟩ = some q3 := mc 3 (by omega)
      have x4 : wr.cell? ⟨b, o + k * 7 + 4, none⟩ = some q4 := mc 4 (by omega)
      have x5 : wr.cell? ⟨b, o + k * 7 + 5, none⟩ = some q5 := mc 5 (by omega)
      have x6 : wr.cell? ⟨b, o + k * 7 + 6, none⟩ = some q6 := mc 6 (by omega)
      have HO : Hid (OT wr w.heap.size k (I.length + 12) C) := hO
      have HK : Hid (∀ j (hj : j < C.length) (hi : j < I.length), C[j].length = 7 ∧ KIn (fun g => w.heap.size < g) wr d C[j] I[j]) := hK
      have HC : Hid (C.length = k) := hC
      clear hc hin hcell hl7 mc hO hK hC hown0 hgr0 hU0 hlt0
      go_wp2_with fail
      refine (IH.out wr [q0, q1, q2, q3, q4, q5, q6] I[k] (In.mono hU _ _ _ HIN.out) HSZ.out).mono ?_
      rintro e w1 ⟨hU1, cs', hl', rfl, hk', l1, r1, hb1, ha1, hl1⟩
      obtain ⟨k1, num1, neg1, s1, b1, b2, b3, n1, n2, n3, c1, c2, c3, rfl⟩ := hk'.shape
      have HKN : Hid (KIn (fun g => wr.heap.size ≤ g) w1 d [.int .u8 k1, .bool neg1, .slice b1 n1 c1, .string s1, .int .i64 num1, .slice b2 n2 c2, .slice b3 n3 c3] I[k]) := hk'
      have HBT : Hid (BT 12 w1 d [.int .u8 k1, .bool neg1, .slice b1 n1 c1, .string s1, .int .i64 num1, .slice b2 n2 c2, .slice b3 n3 c3] I[k] l1 r1 ∧ Apt l1 r1 ∧ ∀ x, x ∈ KB l1 r1 → wr.heap.size ≤ x) := ⟨hb1, ha1, hl1⟩
      clear hb1 ha1 hl1
      have hO1 := HO.out.upd hU1
      have hU01 := hU.trans hU1
      have hsz1 := hU1.size
      have hown2 : ((w1.alloc (.cells #[.int .u8 k1, .bool neg1, .slice b1 n1 c1, .string s1, .int .i64 num1, .slice b2 n2 c2, .slice b3 n3 c3] 26)).alloc (.cells #[.int .u8 k1, .bool neg1, .slice b1 n1 c1, .string s1, .int .i64 num1, .slice b2 n2 c2, .slice b3 n3 c3] 26)).ownsRow w.heap.size 26 7 (.slice (some ⟨w.heap.size, 0, none⟩) k (I.length + 12)) k C.flatten := World.ownsRow.alloc (World.ownsRow.alloc hO1 _) _
      have tn := Tb.new (w1.alloc (.cells #[.int .u8 k1, .bool neg1, .slice b1 n1 c1, .string s1, .int .i64 num1, .slice b2 n2 c2, .slice b3 n3 c3] 26)) #[.int .u8 k1, .bool neg1, .slice b1 n1 c1, .string s1, .int .i64 num1, .slice b2 n2 c2, .slice b3 n3 c3] (w1.heap.size + 1) (by simp)
      have hcl : ∀ j u, ([.int .u8 k1, .bool neg1, .slice b1 n1 c1, .string s1, .int .i64 num1, .slice b2 n2 c2, .slice b3 n3 c3] : List Value)[j]? = some u → ((w1.alloc (.cells #[.int .u8 k1, .bool neg1, .slice b1 n1 c1, .string s1, .int .i64 num1, .slice b2 n2 c2, .slice b3 n3 c3] 26)).alloc (.cells #[.int .u8 k1, .bool neg1, .slice b1 n1 c1, .string s1, .int .i64 num1, .slice b2 n2 c2, .slice b3 n3 c3] 26)).cell? ((⟨w1.heap.size + 1, 0, none⟩ : Addr).add j) = some u := fun j u hj => by
        rw [Addr.add_lit, Nat.zero_add, tn.cell j]
        simpa using hj
      have hone : ∀ u ∈ ([.int .u8 k1, .bool neg1, .slice b1 n1 c1, .string s1, .int .i64 num1, .slice b2 n2 c2, .slice b3 n3 c3] : List Value), u.oneCell' = true := by
        intro u hu
        simp only [List.mem_cons, List.not_mem_nil, or_false] at hu
        rcases hu with h | h | h | h | h | h | h <;> subst h <;> rfl
      have HCL : Hid (∀ j u, ([.int .u8 k1, .bool neg1, .slice b1 n1 c1, .string s1, .int .i64 num1, .slice b2 n2 c2, .slice b3 n3 c3] : List Value)[j]? = some u → ((w1.alloc (.cells #[.int .u8 k1, .bool neg1, .slice b1 n1 c1, .string s1, .int .i64 num1, .slice b2 n2 c2, .slice b3 n3 c3] 26)).alloc (.cells #[.int .u8 k1, .bool neg1, .slice b1 n1 c1, .string s1, .int .i64 num1, .slice b2 n2 c2, .slice b3 n3 c3] 26)).cell? ((⟨w1.heap.size + 1, 0, none⟩ : Addr).add j) = some u) := hcl
      clear hk' hl' tn x0 x1 x2 x3 x4 x5 x6 hcl
      go_wp2_with (at_builtin; refine wpList_append_fits _ rfl _ _ 24 rfl w.heap.size 26 i0 7 Tryz.underlying24 hi hz1 w.heap.size k (I.length + 12) C.flatten rfl hown2 ⟨w1.heap.size + 1, 0, none⟩ 1 1 [.int .u8 k1, .bool neg1, .slice b1 n1 c1, .string s1, .int .i64 num1, .slice b2 n2 c2, .slice b3 n3 c3] rfl rfl (Hid.out HCL) hone (by omega) ?_; intro w3 hown3 hgr3)
      have hV1 : Upd [w.heap.size] w1 w3 := (((Upd.refl [w.heap.size] w1).alloc _).alloc _).grown hgr3 (fun x hx => Or.inr (by cases hx; simp))
      have hV : Upd [w.heap.size] wr w3 := ((Upd.refl [w.heap.size] wr).then hU1 (by simp)).trans hV1
      refine ⟨⟨k + 1, C ++ [[.int .u8 k1, .bool neg1, .slice b1 n1 c1, .string s1, .int .i64 num1, .slice b2 n2 c2, .slice b3 n3 c3]], by omega, by simp, rfl, ?_, by rw [List.length_append, HC.out]; rfl, ?_, ((hU01.alloc _).alloc _).grown hgr3 (fun x hx => Or.inl (by cases hx; exact Nat.le_refl _)), by have := hV.size; omega, ?_⟩, by simp [intOf]; omega⟩
      · unfold OT
        rw [List.flatten_append]
        simpa using hown3
      · intro j hj hjI
        by_cases hjk : j < C.length
        · rw [List.getElem_append_left hjk]
          obtain ⟨h7, hKj⟩ := HK.out j hjk hjI
          exact ⟨h7, KIn.keep hV (fun x hx => by simp; omega) (fun x hx => hx) _ _ _ hKj⟩
        · have e : j = k := by have := HC.out; simp at hj; omega
          subst e
          rw [List.getElem_append_right (by have := HC.out; omega)]
          simp only [HC.out, Nat.sub_self, List.getElem_cons_zero]
          exact ⟨rfl, KIn.keep hV1 (fun x hx => by simp; omega) (fun x hx => by omega) _ _ _ HKN.out⟩
      · have hCk := HC.out
        subst hCk
        exact HSk.out.snoc hk2 hlt hV hV1 HBT.out.1 HBT.out.2.1 HBT.out.2.2
    · have hkk : k = I.length := by omega
      subst hkk
      rename World => wo
      have HC : Hid (C.length = I.length) := hC
      clear hC hown0 hgr0 hU0 hlt0
      go_wp2_with fail
      go_loopw [3, 6] (fun ov i wr => ∃ j : Nat, j ≤ 12 ∧ i = .int .i64 j ∧ ov = .slice (some ⟨w.heap.size, 0, none⟩) (I.length + j) (I.length + 12) ∧ OT wr w.heap.size (I.length + j) (I.length + 12) (C ++ (List.range j).map markCells) ∧ (∀ j (hj : j < C.length) (hi : j < I.length), C[j].length = 7 ∧ KIn (fun g => w.heap.size < g) wr d C[j] I[j]) ∧ Upd [] w wr ∧ w.heap.size < wr.heap.size ∧ KidsS w.heap.size wr d C I) (fun _ i _ => 12 - (intOf i).toNat)
      case atStart => exact ⟨0, by omega, rfl, rfl, by simpa using hO, hK, hU, hlt, HSk.out⟩
      case round =>
        obtain ⟨j, hj, rfl, rfl, hOr, hKr, hUr, hltr, hSr⟩ := hrel
        have HSr : Hid (KidsS w.heap.size wr d C I) := hSr
        clear hSr HSk
        have HKR : Hid (∀ j (hj : j < C.length) (hi : j < I.length), C[j].length = 7 ∧ KIn (fun g => w.heap.size < g) wr d C[j] I[j]) := hKr
        have HOR : Hid (OT wr w.heap.size (I.length + j) (I.length + 12) (C ++ (List.range j).map markCells)) := hOr
        clear hO hK hU hlt hKr hOr
        by_cases hj2 : j < 12
        · go_wp2_with fail
          refine (markTerm_any j wr hj2).mono ?_
          rintro e w1 ⟨rfl, hU1⟩
          rw [show (markCells j).toArray = #[.int .u8 0, .bool false, .slice none 0 0, .string ⟨#[]⟩, .int .i64 ((8000024 + j : Nat) : Int), .slice none 0 0, .slice none 0 0] from rfl]
          have hO1 := HOR.out.upd hU1
          have hU01 := hUr.trans hU1
          have hown2 : (w1.alloc (.cells #[.int .u8 0, .bool false, .slice none 0 0, .string ⟨#[]⟩, .int .i64 ((8000024 + j : Nat) : Int), .slice none 0 0, .slice none 0 0] 26)).ownsRow w.heap.size 26 7 (.slice (some ⟨w.heap.size, 0, none⟩) (I.length + j) (I.length + 12)) (I.length + j) (C ++ (List.range j).map markCells).flatten := World.ownsRow.alloc hO1 _
          have tn := Tb.new w1 #[.int .u8 0, .bool false, .slice none 0 0, .string ⟨#[]⟩, .int .i64 ((8000024 + j : Nat) : Int), .slice none 0 0, .slice none 0 0] _ rfl
          have hcl : ∀ i u, ([.int .u8 0, .bool false, .slice none 0 0, .string ⟨#[]⟩, .int .i64 ((8000024 + j : Nat) : Int), .slice none 0 0, .slice none 0 0] : List Value)[i]? = some u → (w1.alloc (.cells #[.int .u8 0, .bool false, .slice none 0 0, .string ⟨#[]⟩, .int .i64 ((8000024 + j : Nat) : Int), .slice none 0 0, .slice none 0 0] 26)).cell? ((⟨w1.heap.size, 0, none⟩ : Addr).add i) = some u := fun i u hi => by
            rw [Addr.add_lit, Nat.zero_add, tn.cell i]
            simpa using hi
          have hone : ∀ u ∈ ([.int .u8 0, .bool false, .slice none 0 0, .string ⟨#[]⟩, .int .i64 ((8000024 + j : Nat) : Int), .slice none 0 0, .slice none 0 0] : List Value), u.oneCell' = true := by
            intro u hu
            simp only [List.mem_cons, List.not_mem_nil, or_false] at hu
            rcases hu with h | h | h | h | h | h | h <;> subst h <;> rfl
          have HCL : Hid (∀ i u, ([.int .u8 0, .bool false, .slice none 0 0, .string ⟨#[]⟩, .int .i64 ((8000024 + j : Nat) : Int), .slice none 0 0, .slice none 0 0] : List Value)[i]? = some u → (w1.alloc (.cells #[.int .u8 0, .bool false, .slice none 0 0, .string ⟨#[]⟩, .int .i64 ((8000024 + j : Nat) : Int), .slice none 0 0, .slice none 0 0] 26)).cell? ((⟨w1.heap.size, 0, none⟩ : Addr).add i) = some u) := hcl
          have HOWN : Hid ((w1.alloc (.cells #[.int .u8 0, .bool false, .slice none 0 0, .string ⟨#[]⟩, .int .i64 ((8000024 + j : Nat) : Int), .slice none 0 0, .slice none 0 0] 26)).ownsRow w.heap.size 26 7 (.slice (some ⟨w.heap.size, 0, none⟩) (I.length + j) (I.length + 12)) (I.length + j) (C ++ (List.range j).map markCells).flatten) := hown2
          clear tn hcl hown2 hO1
          go_wp2_with (at_builtin; refine wpList_append_fits _ rfl _ _ 24 rfl w.heap.size 26 i0 7 Tryz.underlying24 hi hz1 w.heap.size (I.length + j) (I.length + 12) (C ++ (List.range j).map markCells).flatten rfl (Hid.out HOWN) ⟨w1.heap.size, 0, none⟩ 1 1 [.int .u8 0, .bool false, .slice none 0 0, .string ⟨#[]⟩, .int .i64 ((8000024 + j : Nat) : Int), .slice none 0 0, .slice none 0 0] rfl rfl (Hid.out HCL) hone (by omega) ?_; intro w3 hown3 hgr3)
          have hV : Upd [w.heap.size] wr w3 := (((Upd.refl [w.heap.size] wr).then hU1 (by simp)).alloc _).grown hgr3 (fun x hx => Or.inr (by cases hx; simp))
          refine ⟨⟨j + 1, by omega, by simp, rfl, ?_, fun i hi hiI => ?_, (hU01.alloc _).grown hgr3 (fun x hx => Or.inl (by cases hx; exact Nat.le_refl _)), by have := hV.size; omega, HSr.out.keep (by have := HC.out; omega) hV⟩, by simp [intOf]; omega⟩
          · unfold OT
            rw [List.range_succ, List.map_append, ← List.append_assoc, List.flatten_append]
            simpa [Nat.add_assoc, markCells] using hown3
          · obtain ⟨h7, hKi⟩ := HKR.out i hi hiI
            exact ⟨h7, KIn.keep hV (fun x hx => by simp; omega) (fun x hx => hx) _ _ _ hKi⟩
        · have hj12 : j = 12 := by omega
          subst hj12
          go_wp2
          go_ret
          have hCl := HC.out
          have h7 : ∀ c ∈ C ++ (List.range 12).map markCells, c.length = 7 := by
            intro c hc
            rcases List.mem_append.1 hc with h | h
            · obtain ⟨i, hi, rfl⟩ := List.mem_iff_getElem.1 h
              exact (HKR.out i hi (by omega)).1
            · obtain ⟨i, _, rfl⟩ := List.mem_map.1 h
              rfl
          have hlen12 : (C ++ (List.range 12).map markCells).length = I.length + 12 := by simp; omega
          have hcells : ∀ i (hi : i < I.length) (hiC : i < C.length) j, j < 7 → wr.cell? ⟨w.heap.size, i * 7 + j, none⟩ = C[i][j]? := fun i hi hiC j hj => by
            have := OT.cell HOR.out hlen12 h7 i j (by omega) hj
            rw [List.getElem_append_left hiC] at this
            exact this
          refine ⟨hUr, w.heap.size, I.length + 12, rfl, ⟨Nat.le_refl _, hltr, Nat.le_refl _, by omega, fun i hi => ?_, fun i hi j hj => ?_⟩, ?_⟩
          · have hiC : i < C.length := by omega
            obtain ⟨k7, kK⟩ := HKR.out i hiC hi
            refine ⟨C[i], k7, fun j hj => ?_, KIn.keep (Upd.refl [] wr) (fun x hx => by simp) (fun x hx => Nat.le_of_lt hx) _ _ _ kK⟩
            have := OT.cell HOR.out hlen12 h7 i j (by omega) hj
            rw [List.getElem_append_left hiC] at this
            exact this
          · have := OT.cell HOR.out hlen12 h7 (I.length + i) j (by omega) hj
            rw [List.getElem_append_right (by omega)] at this
            simpa [hCl] using this
          · obtain ⟨ls, rs, s1, s2⟩ := HSr.out
            refine ⟨_, _, ⟨ls, rs, rfl, rfl, ⟨Or.inr ⟨w.heap.size, I.length + 12, rfl, hltr, by omega, by unfold maxLen; omega, ot_there HOR.out⟩, Or.inr ⟨w.heap.size, I.length + 12, rfl, Nat.le_refl _⟩⟩, fun i hi => ?_⟩, ?_, fun x hx => ?_⟩
            · have hiC : i < C.length := by omega
              refine ⟨C[i], (HKR.out i hiC hi).1, fun g' l' c' e => ?_, (s1 i hiC hi).1⟩
              simp only [Value.slice.injEq, Option.some.injEq, Addr.mk.injEq, and_true] at e
              obtain ⟨rfl, _, _⟩ := e
              exact hcells i hi hiC
            · refine Apt.of_row (fun i hi => (s1 i (by omega) hi).2.1) (fun i j x hi hj hij hx => s2 i j x (by omega) (by omega) hij hx) (fun i x hi hx h2 => ?_)
              have := (s1 i (by omega) hi).2.2 x h2
              simp only [Value.ownBlock, Option.some.injEq] at hx
              omega
            · rcases KB_row.1 hx with hx | ⟨i, hi, hx⟩
              · simp only [Value.ownBlock, Option.some.injEq] at hx
                omega
              · have := (s1 i (by omega) hi).2.2 x hx
                omega

set_option maxHeartbeats 4000000 in
set_option maxRecDepth 100000 in
theorem LentTerm_stepS (d : Nat) (ih : LentSaidS d) : LentSaidS (d + 1) := by
  intro w cs t h hs
  cases t with
  | mk k num neg L s I T =>
    obtain ⟨a, ai, at', c, ci, ct, rfl, hA, hD, hI, hT⟩ := h
    simp only [tsz] at hs
    have HIt : Hid (∀ W, Upd [] w W → _) := fun W hu => LentTerms_sep d ih W ai ci I (hI.imp hu (In.mono hu d)) (by omega)
    have HTt : Hid (∀ W, Upd [] w W → _) := fun W hu => LentTerms_sep d ih W at' ct T (hT.imp hu (In.mono hu d)) (by omega)
    have HLm : Hid (∀ W, Upd [] w W → _) := fun W hu => LentLimbs_sep a c L W (by omega) (hA.mono hu)
    clear hA hI hT hs ih
    go_enter Tryz.func8, Tryz.ntmps8
    go_wp2_with fail
    have u0 := ((Upd.refl [] w).alloc (.cells #[.int .u8 k, .bool neg, .slice a L.length c, .string s, .int .i64 num, .slice ai I.length ci, .slice at' T.length ct] 26)).alloc (.cells #[.int .u8 0, .bool false, .slice none 0 0, .string ⟨#[]⟩, .int .i64 0, .slice none 0 0, .slice none 0 0] 26)
    have tX := (Tb.new w #[.int .u8 k, .bool neg, .slice a L.length c, .string s, .int .i64 num, .slice ai I.length ci, .slice at' T.length ct] _ rfl).old (.cells #[.int .u8 0, .bool false, .slice none 0 0, .string ⟨#[]⟩, .int .i64 0, .slice none 0 0, .slice none 0 0] 26)
    have tZ := Tb.new (w.alloc (.cells #[.int .u8 k, .bool neg, .slice a L.length c, .string s, .int .i64 num, .slice ai I.length ci, .slice at' T.length ct] 26)) #[.int .u8 0, .bool false, .slice none 0 0, .string ⟨#[]⟩, .int .i64 0, .slice none 0 0, .slice none 0 0] (w.heap.size + 1) (by simp)
    refine (HLm.out _ u0).mono ?_
    rintro e w1 ⟨hU1, g, cap, rfl, hg, hAt, hc1, hc2, hth, hgl⟩
    have HTH : Hid (w1.there g 0 cap ∧ g < w1.heap.size) := ⟨hth, hgl⟩
    have HW1 : Hid (w1.heap.size = w1.heap.size) := rfl
    obtain ⟨wL, hwL⟩ : ∃ wL, wL = w1 := ⟨_, rfl⟩
    have HwL : Hid (wL = w1) := hwL
    clear hwL HW1 hth hgl
    have hg' : w.heap.size + 2 ≤ g := by simp at hg; omega
    have tX1 := tX.mono hU1 (by simp)
    have tZ1 := tZ.mono hU1 (by simp)
    have u1 := u0.trans hU1
    have x2 : w1.cell? ⟨w.heap.size, 2, none⟩ = some (.slice a L.length c) := tX1.cell 2
    have x5 : w1.cell? ⟨w.heap.size, 5, none⟩ = some (.slice ai I.length ci) := tX1.cell 5
    have xf : w1.frozen? ⟨w.heap.size, 2, none⟩ = false := frozen_of_row w1 w.heap.size 2 _ _ tX1
    have v1 : Upd [w.heap.size] w1 (w1.setCell ⟨w.heap.size, 2, none⟩ (.slice (some ⟨g, 0, none⟩) L.length cap)) := (Upd.refl _ _).setCell (Or.inr (by simp)) _
    have tX2 := tX1.put2 (u2 := .slice (some ⟨g, 0, none⟩) L.length cap)
    have tZ2 := tZ1.mono v1 (by simp)
    have hAt2 := hAt.stay v1 (by simp; omega)
    have u2 := u1.then v1 (by simp)
    have hlz := tZ2.lt
    clear tX tZ u0 hU1 tX1 tZ1 hAt hg u1 v1
    go_wp2_with fail
    refine (HIt.out _ u2).mono ?_
    rintro e w3 ⟨hU3, g2, cap2, rfl, hR2, l1, r1, hB1, hP1, hX1⟩
    have HI3 : Hid (RowBT 12 (BT 12 w3 d) w3 (.slice (some ⟨g2, 0, none⟩) I.length cap2) I l1 r1 ∧ Apt l1 r1 ∧ ∀ x, x ∈ KB l1 r1 → w1.heap.size ≤ x) := ⟨hB1, hP1, fun x hx => by have := hX1 x hx; simpa using this⟩
    have HU3 : Hid (Upd [w.heap.size] w1 w3) := ((Upd.refl [w.heap.size] w1).setCell (Or.inr (by simp)) _).then hU3 (by simp)
    clear hB1 hP1 hX1
    have tX3 := tX2.mono hU3 (by simp)
    have tZ3 := tZ2.mono hU3 (by simp)
    have hAt3 := hAt2.mono hU3
    have u3 := u2.trans hU3
    have hR3 : RowK (fun x => w.heap.size + 2 ≤ x) (KIn (fun x => w.heap.size + 2 ≤ x) w3 d) w3 g2 cap2 I := hR2.stay (Upd.refl [] w3) (fun x _ => by simp) (fun x hx => by omega)
    have HR3 : Hid (RowK (fun x => w.heap.size + 2 ≤ x) (KIn (fun x => w.heap.size + 2 ≤ x) w3 d) w3 g2 cap2 I) := hR3
    have y5 : w3.cell? ⟨w.heap.size, 5, none⟩ = some (.slice ai I.length ci) := tX3.cell 5
    have y6 : w3.cell? ⟨w.heap.size, 6, none⟩ = some (.slice at' T.length ct) := tX3.cell 6
    have yf : w3.frozen? ⟨w.heap.size, 5, none⟩ = false := frozen_of_row w3 w.heap.size 5 _ _ tX3
    have v3 : Upd [w.heap.size] w3 (w3.setCell ⟨w.heap.size, 5, none⟩ (.slice (some ⟨g2, 0, none⟩) I.length cap2)) := (Upd.refl _ _).setCell (Or.inr (by simp)) _
    have tX4 := tX3.put5 (u5 := .slice (some ⟨g2, 0, none⟩) I.length cap2)
    have tZ4 := tZ3.mono v3 (by simp)
    have hAt4 := hAt3.stay v3 (by simp; omega)
    have u4 := u3.then v3 (by simp)
    have HR4 : Hid (RowK (fun x => w.heap.size + 2 ≤ x) (KIn (fun x => w.heap.size + 2 ≤ x) (w3.setCell ⟨w.heap.size, 5, none⟩ (.slice (some ⟨g2, 0, none⟩) I.length cap2)) d) (w3.setCell ⟨w.heap.size, 5, none⟩ (.slice (some ⟨g2, 0, none⟩) I.length cap2)) g2 cap2 I) := HR3.out.stay v3 (fun x hx => by simp; omega) (fun x hx => hx)
    have hlz4 := tZ4.lt
    clear hR2 hR3 tX2 tZ2 hAt2 u2 hU3 tX3 tZ3 hAt3 u3 v3 x2 x5 xf HR3
    go_wp2_with fail
    refine (HTt.out _ u4).mono ?_
    rintro e w5 ⟨hU5, g3, cap3, rfl, hR5, l2, r2, hB2, hP2, hX2⟩
    have HT5 : Hid (RowBT 12 (BT 12 w5 d) w5 (.slice (some ⟨g3, 0, none⟩) T.length cap3) T l2 r2 ∧ Apt l2 r2 ∧ ∀ x, x ∈ KB l2 r2 → w3.heap.size ≤ x) := ⟨hB2, hP2, fun x hx => by have := hX2 x hx; simpa using this⟩
    have HU5 : Hid (Upd [w.heap.size] w3 w5) := ((Upd.refl [w.heap.size] w3).setCell (Or.inr (by simp)) _).then hU5 (by simp)
    clear hB2 hP2 hX2
    have HRT5 : Hid (RowK (fun x => w.heap.size + 2 ≤ x) (KIn (fun x => w.heap.size + 2 ≤ x) w5 d) w5 g3 cap3 T) := hR5.stay (Upd.refl [] w5) (fun x _ => by simp) (fun x hx => by omega)
    have HRI5 : Hid (RowK (fun x => w.heap.size + 2 ≤ x) (KIn (fun x => w.heap.size + 2 ≤ x) w5 d) w5 g2 cap2 I) := HR4.out.stay hU5 (fun x _ => by simp) (fun x hx => hx)
    have tX5 := tX4.mono hU5 (by simp)
    have tZ5 := tZ4.mono hU5 (by simp)
    have hAt5 := hAt4.mono hU5
    have u5 := u4.trans hU5
    have z6 : w5.cell? ⟨w.heap.size, 6, none⟩ = some (.slice at' T.length ct) := tX5.cell 6
    have zf : w5.frozen? ⟨w.heap.size, 6, none⟩ = false := frozen_of_row w5 w.heap.size 6 _ _ tX5
    have v5 : Upd [w.heap.size] w5 (w5.setCell ⟨w.heap.size, 6, none⟩ (.slice (some ⟨g3, 0, none⟩) T.length cap3)) := (Upd.refl _ _).setCell (Or.inr (by simp)) _
    have tX6 := tX5.put6 (u6 := .slice (some ⟨g3, 0, none⟩) T.length cap3)
    have tZ6 := tZ5.mono v5 (by simp)
    have hAt6 := hAt5.stay v5 (by simp; omega)
    have u6 := u5.then v5 (by simp)
    have HV5 : Hid (Upd [w.heap.size] w5 (w5.setCell ⟨w.heap.size, 6, none⟩ (.slice (some ⟨g3, 0, none⟩) T.length cap3))) := v5
    clear hR5 tX4 tZ4 hAt4 u4 hU5 tX5 tZ5 hAt5 u5 y5 y6 yf HR4 v5
    go_wp2_with (first | (refine load_T _ rfl _ rfl _ _ rfl tX6 rfl ?_) | (refine store_V _ rfl _ _ rfl _ _ _ _ _ _ _ _ _ _ _ _ _ _ _ rfl rfl tZ6 rfl ?_; intro w7 hT7 hU7))
    have hI7 := (HRI5.out.stay HV5.out (fun x hx => by simp; omega) (fun x hx => hx)).stay (Q := fun x => w.heap.size ≤ x) hU7 (fun x hx => by simp; omega) (fun x hx => by omega)
    have hT7' := (HRT5.out.stay HV5.out (fun x hx => by simp; omega) (fun x hx => hx)).stay (Q := fun x => w.heap.size ≤ x) hU7 (fun x hx => by simp; omega) (fun x hx => by omega)
    refine ret_T Tryz.results8 rfl _ _ rfl hT7 rfl ⟨u6.then hU7 (by simp), [.int .u8 k, .bool neg, .slice (some ⟨g, 0, none⟩) L.length cap, .string s, .int .i64 num, .slice (some ⟨g2, 0, none⟩) I.length cap2, .slice (some ⟨g3, 0, none⟩) T.length cap3], rfl, rfl, ?_⟩
    have hw0 : w.heap.size + 2 ≤ w1.heap.size := by have := HTH.out.2; omega
    have hU57 : Upd [w.heap.size, w.heap.size + 1] w5 w7 := (((Upd.refl [w.heap.size, w.heap.size + 1] w5).then HV5.out (by simp)).trans (hU7.wide (by simp)))
    have hU37 : Upd [w.heap.size, w.heap.size + 1] w3 w7 := (HU5.out.wide (by simp)).trans hU57
    have hU17 : Upd [w.heap.size, w.heap.size + 1] w1 w7 := (HU3.out.wide (by simp)).trans hU37
    have s13 := HU3.out.size
    have s35 := HU5.out.size
    have hlt1 := HI3.out.1.lt (fun cs t LB RB h => BT.lt _ _ _ _ _ h)
    refine ⟨⟨g, g2, g3, cap, cap2, cap3, rfl, by omega, hAt6.stay hU7 (by simp; omega), hD, hc1, hc2, hI7, hT7'⟩, _, _, ⟨.slice (some ⟨g, 0, none⟩) L.length cap, .slice (some ⟨g2, 0, none⟩) I.length cap2, .slice (some ⟨g3, 0, none⟩) T.length cap3, l1, l2, r1, r2, rfl, ?_, ?_, ?_, rfl, rfl⟩, ?_, fun x hx => ?_⟩
    · refine ⟨Or.inr ⟨g, cap, rfl, Nat.lt_of_lt_of_le HTH.out.2 hU17.size, by omega, by unfold maxLen; omega, ?_⟩, Or.inr ⟨g, cap, rfl, hc1⟩⟩
      rw [Nat.mul_one]
      exact there_upd HTH.out.1 HTH.out.2 hU17 (by simp; omega)
    · exact HI3.out.1.upd hU37 (fun x hx hm => by have := HI3.out.2.2 x hx; simp at hm; omega) (fun cs t l q hx hR => BT.upd hU37 _ _ _ _ _ hx hR)
    · exact HT5.out.1.upd hU57 (fun x hx hm => by have := HT5.out.2.2 x hx; simp at hm; omega) (fun cs t l q hx hR => BT.upd hU57 _ _ _ _ _ hx hR)
    · refine Apt.of_two HI3.out.2.1 HT5.out.2.1 (fun x hx h2 => ?_) (fun x hx => ⟨fun h2 => ?_, fun h2 => ?_⟩)
      · have := hlt1 x hx; have := HT5.out.2.2 x h2; omega
      · simp only [Value.ownBlock, Option.some.injEq] at hx
        have := HI3.out.2.2 x h2; have := HTH.out.2; omega
      · simp only [Value.ownBlock, Option.some.injEq] at hx
        have := HT5.out.2.2 x h2; have := HTH.out.2; omega
    · rcases KB_two.1 hx with hx | hx | hx
      · simp only [Value.ownBlock, Option.some.injEq] at hx
        omega
      · have := HI3.out.2.2 x hx; omega
      · have := HT5.out.2.2 x hx; omega


/-- LentTerm: the same term in memory of its own, marks behind every row, all rows apart. -/
theorem LentTerm_sep : ∀ d, LentSaidS d
  | 0 => fun _ _ _ h => h.elim
  | d + 1 => LentTerm_stepS d (LentTerm_sep d)

end Go.Proofs.YtabknipgbmdipaaGreatDoor

/- Rows that are cloned one by one: each is named in one place alone. -/
namespace Go.Proofs.YtabknipgbmdipaaGreatDoor
open Go.RowKit

/-- The places above a block. -/
inductive Anc (par : Nat → Nat × Nat) : Nat → Nat × Nat → Prop
  | here (x : Nat) (h : (par x).1 < x) : Anc par x (par x)
  | up (x : Nat) (p : Nat × Nat) (h : (par x).1 < x) (k : Anc par (par x).1 p) : Anc par x p
theorem Anc.lt {par : Nat → Nat × Nat} {x : Nat} {p : Nat × Nat} (h : Anc par x p) : p.1 < x := by
  induction h with
  | here x h => exact h
  | up x p h _ ih => omega
theorem Anc.one {par : Nat → Nat × Nat} {x : Nat} {p : Nat × Nat} (h : Anc par x p) : ∀ {q : Nat × Nat}, Anc par x q → p.1 = q.1 → p = q := by
  induction h with
  | here x h =>
    intro q hq e
    cases hq with
    | here => rfl
    | up _ _ _ k => have := k.lt; omega
  | up x p h k ih =>
    intro q hq e
    cases hq with
    | here => have := k.lt; omega
    | up _ _ _ k2 => exact ih k2 e
theorem Anc.trans {par : Nat → Nat × Nat} {x : Nat} {p q : Nat × Nat} (h : Anc par x p) : Anc par p.1 q → Anc par x q := by
  induction h with
  | here x h => exact fun k => .up x q h k
  | up x p h _ ih => exact fun k => .up x q h (ih k)
theorem Anc.of_par {par : Nat → Nat × Nat} {x : Nat} {p : Nat × Nat} (h : par x = p) (hl : p.1 < x) : Anc par x p := by
  subst h
  exact .here x hl

/-- What stands in a place where a clone has been put. -/
def Good (lo bd : Nat) (NR : Nat → Nat → Prop) (par : Nat → Nat × Nat) (wr : World) (g p : Nat) : Prop :=
  ∃ a n c, wr.cell? ⟨g, p, none⟩ = some (.slice a n c) ∧ ((a = none ∧ n = 0 ∧ c = 0) ∨ ∃ g', a = some ⟨g', 0, none⟩ ∧ (lo ≤ g' ∧ g' < bd) ∧ g < g' ∧ par g' = (g, p) ∧ n ≤ c ∧ c ≤ maxLen ∧
    ((p % 7 = 2 ∧ ∃ cur, wr.heap[g']? = some (.cells cur 47 (0, 0)) ∧ cur.size = c) ∨ (p % 7 ≠ 2 ∧ NR g' n ∧ ∃ cur, wr.heap[g']? = some (.cells cur 26 (0, 0)) ∧ cur.size = c * 7)))
/-- How far rows have been cloned: W the places that are still to be gone through. -/
structure Sq (lo bd : Nat) (NR : Nat → Nat → Prop) (par : Nat → Nat × Nat) (W : Nat → Nat → Prop) (wr : World) : Prop where
  one : ∀ g n m, NR g n → NR g m → n = m
  bdw : bd ≤ wr.heap.size
  low : ∀ g n, NR g n → lo ≤ g ∧ g < bd
  pos : ∀ g n p, NR g n → p < n * 7 → (p % 7 = 2 ∨ p % 7 = 5 ∨ p % 7 = 6) → W g p ∨ Good lo bd NR par wr g p
theorem Sq.less {lo bd : Nat} {NR : Nat → Nat → Prop} {par : Nat → Nat × Nat} {W W' : Nat → Nat → Prop} {wr : World} (h : Sq lo bd NR par W wr) (hW : ∀ g n p, NR g n → p < n * 7 → (p % 7 = 2 ∨ p % 7 = 5 ∨ p % 7 = 6) → W g p → W' g p) : Sq lo bd NR par W' wr :=
  ⟨h.one, h.bdw, h.low, fun g n p hg hp hm => (h.pos g n p hg hp hm).imp (hW g n p hg hp hm) id⟩
/-- A step that keeps rows. -/
structure KeepR (w w' : World) : Prop where
  size : w.heap.size ≤ w'.heap.size
  blk : ∀ (g : Nat) (cur : Array Value) (T : TypeId), w.heap[g]? = some (.cells cur T (0, 0)) → (T = 26 ∨ T = 47) → w'.heap[g]? = some (.cells cur T (0, 0))
theorem KeepR.upd {S : List Nat} {w w' : World} (hu : Upd S w w') (hS : ∀ x ∈ S, ∃ cur T fr, w.heap[x]? = some (.cells cur T fr) ∧ T ≠ 26 ∧ T ≠ 47) : KeepR w w' :=
  ⟨hu.size, fun g cur T hg hT => (hu.block g (lt_of_block hg) (fun hm => by
    obtain ⟨cur', T', fr, hh, h1, h2⟩ := hS g hm
    rw [hh] at hg
    simp at hg
    rcases hT with h | h
    · exact h1 (hg.2.1.trans h)
    · exact h2 (hg.2.1.trans h))).trans hg⟩
theorem KeepR.new {w w' : World} (hu : Upd [] w w') : KeepR w w' := KeepR.upd hu (by simp)
theorem Sq.keep {lo bd : Nat} {NR : Nat → Nat → Prop} {par : Nat → Nat × Nat} {W : Nat → Nat → Prop} {w w' : World} (h : Sq lo bd NR par W w) (hT : ∀ g n, NR g n → ∃ cur, w.heap[g]? = some (.cells cur 26 (0, 0))) (k : KeepR w w') : Sq lo bd NR par W w' := by
  refine ⟨h.one, Nat.le_trans h.bdw k.size, h.low, fun g n p hg hp hm => ?_⟩
  rcases h.pos g n p hg hp hm with h1 | ⟨a, m, c, hc, h2⟩
  · exact Or.inl h1
  · refine Or.inr ⟨a, m, c, ?_, ?_⟩
    · obtain ⟨cur, hcur⟩ := hT g n hg
      rw [cell_of_row w' g p _ _ _ (k.blk g cur _ hcur (Or.inl rfl)), ← cell_of_row w g p _ _ _ hcur]
      exact hc
    · rcases h2 with h2 | ⟨g', e, h3, h4, h5, h6, h7, ⟨h8, cur, h9, h10⟩ | ⟨h8, h11, cur, h9, h10⟩⟩
      · exact Or.inl h2
      · exact Or.inr ⟨g', e, h3, h4, h5, h6, h7, Or.inl ⟨h8, cur, k.blk g' cur _ h9 (Or.inr rfl), h10⟩⟩
      · exact Or.inr ⟨g', e, h3, h4, h5, h6, h7, Or.inr ⟨h8, h11, cur, k.blk g' cur _ h9 (Or.inl rfl), h10⟩⟩

/-- A clone is put into its place. -/
theorem Sq.put {lo bd bs : Nat} {NR : Nat → Nat → Prop} {par : Nat → Nat × Nat} {W W' : Nat → Nat → Prop} {w : World} {g p n T sz : Nat} {v : Value} {cur : Array Value} {xs : List Value} (h : Sq lo bd NR par W w)
    (hg : w.heap[g]? = some (.cells cur 26 (0, 0))) (hp : (w.cell? ⟨g, p, none⟩).isSome = true) (hgb : g < bs) (hlo : lo ≤ bs) (hbs : bd ≤ bs)
    (ho : w.ownsRow bs T sz v n xs) (hT : (p % 7 = 2 ∧ T = 47 ∧ sz = 1) ∨ (p % 7 ≠ 2 ∧ T = 26 ∧ sz = 7))
    (hW : ∀ x q, W x q → ¬ (x = g ∧ q = p) → W' x q) (hW2 : p % 7 ≠ 2 → 0 < n → ∀ x q, v.ownBlock = some x → W' x q) :
    ∃ NR' par', (∀ x m, NR x m → NR' x m) ∧ (∀ x m, NR' x m → NR x m ∨ (p % 7 ≠ 2 ∧ v.ownBlock = some x ∧ m = n)) ∧ (∀ x, p % 7 ≠ 2 → v.ownBlock = some x → NR' x n) ∧ Sq lo w.heap.size NR' par' W' (w.setCell ⟨g, p, none⟩ v) := by
  have hsz : (w.setCell ⟨g, p, none⟩ v).heap.size = w.heap.size := by simp
  have hcs : ∀ (x : Nat) (cu : Array Value) (T' : TypeId), w.heap[x]? = some (.cells cu T' (0, 0)) → ∃ cu', (w.setCell ⟨g, p, none⟩ v).heap[x]? = some (.cells cu' T' (0, 0)) ∧ cu'.size = cu.size := fun x cu T' hx => by
    by_cases hxg : x = g
    · subst hxg
      rw [hg] at hx
      simp at hx
      obtain ⟨rfl, rfl⟩ := hx
      exact ⟨_, heap_setCell_same w x p _ _ _ hg, by simp⟩
    · exact ⟨cu, (heap_setCell_other _ _ _ _ (fun e => hxg e)).trans hx, rfl⟩
  have hcp : (w.setCell ⟨g, p, none⟩ v).cell? ⟨g, p, none⟩ = some v := by
    obtain ⟨u, hu⟩ := Option.isSome_iff_exists.1 hp
    exact cell_same hu
  have hco : ∀ x q, ¬ (x = g ∧ q = p) → (w.setCell ⟨g, p, none⟩ v).cell? ⟨x, q, none⟩ = w.cell? ⟨x, q, none⟩ := fun x q hne => cell_other (fun e => hne (by simp only [Addr.mk.injEq] at e; exact ⟨e.1.symm, e.2.1.symm⟩))
  have h' := ho
  obtain ⟨_, ⟨rfl, rfl⟩ | ⟨gv, cap, cu, rfl, hbv, hh, hc1, hc2, hc3, _⟩⟩ := ho
  · -- nothing
    refine ⟨NR, par, fun _ _ h => h, fun _ _ h => Or.inl h, fun x _ hx => (by cases hx), h.one, by rw [hsz]; exact Nat.le_refl _, fun x m hx => ⟨(h.low x m hx).1, Nat.lt_of_lt_of_le (h.low x m hx).2 h.bdw⟩, fun x m q hx hq hm => ?_⟩
    by_cases hxp : x = g ∧ q = p
    · obtain ⟨rfl, rfl⟩ := hxp
      exact Or.inr ⟨none, 0, 0, hcp, Or.inl ⟨rfl, rfl, rfl⟩⟩
    · rcases h.pos x m q hx hq hm with h1 | ⟨a, k, c, hc, h2⟩
      · exact Or.inl (hW x q h1 hxp)
      · refine Or.inr ⟨a, k, c, (hco x q hxp).trans hc, ?_⟩
        rcases h2 with h2 | ⟨g', e, h3, h4, h5, h6, h7, ⟨h8, cur2, h9, h10⟩ | ⟨h8, h11, cur2, h9, h10⟩⟩
        · exact Or.inl h2
        · obtain ⟨cu', k1, k2⟩ := hcs _ _ _ h9
          exact Or.inr ⟨g', e, ⟨h3.1, Nat.lt_of_lt_of_le h3.2 h.bdw⟩, h4, h5, h6, h7, Or.inl ⟨h8, cu', k1, k2.trans h10⟩⟩
        · obtain ⟨cu', k1, k2⟩ := hcs _ _ _ h9
          exact Or.inr ⟨g', e, ⟨h3.1, Nat.lt_of_lt_of_le h3.2 h.bdw⟩, h4, h5, h6, h7, Or.inr ⟨h8, h11, cu', k1, k2.trans h10⟩⟩
  · have hgvlt := lt_of_block hh
    obtain ⟨cu', hk1, hk2⟩ := hcs _ _ _ hh
    refine ⟨fun x m => NR x m ∨ (p % 7 ≠ 2 ∧ x = gv ∧ m = n), fun x => if x = gv then (g, p) else par x, fun _ _ h => Or.inl h, fun x m hx => hx.imp id (fun ⟨e1, e2, e3⟩ => ⟨e1, by rw [e2]; rfl, e3⟩), fun x hx e => Or.inr ⟨hx, by simpa [Value.ownBlock] using e.symm, rfl⟩, fun x m m' hx hx' => ?_, by rw [hsz]; exact Nat.le_refl _, fun x m hx => ?_, fun x m q hx hq hm => ?_⟩
    · rcases hx with hx | ⟨_, rfl, rfl⟩ <;> rcases hx' with hx' | ⟨_, e, rfl⟩
      · exact h.one x m m' hx hx'
      · have := (h.low x m hx).2; omega
      · have := (h.low _ _ hx').2; omega
      · rfl
    · rcases hx with hx | ⟨_, rfl, rfl⟩
      · exact ⟨(h.low x m hx).1, Nat.lt_of_lt_of_le (h.low x m hx).2 h.bdw⟩
      · exact ⟨by omega, hgvlt⟩
    · by_cases hxp : x = g ∧ q = p
      · obtain ⟨rfl, rfl⟩ := hxp
        refine Or.inr ⟨some ⟨gv, 0, none⟩, n, cap, hcp, Or.inr ⟨gv, rfl, ⟨by omega, hgvlt⟩, by omega, by simp, hc1, hc2, ?_⟩⟩
        rcases hT with ⟨hT1, rfl, rfl⟩ | ⟨hT1, rfl, rfl⟩
        · exact Or.inl ⟨hT1, cu', hk1, by rw [hk2, hc3]; omega⟩
        · exact Or.inr ⟨hT1, Or.inr ⟨hT1, rfl, rfl⟩, cu', hk1, by rw [hk2, hc3]⟩
      · rcases hx with hx | ⟨hne, rfl, rfl⟩
        · rcases h.pos x m q hx hq hm with h1 | hgd
          · exact Or.inl (hW x q h1 hxp)
          · obtain ⟨a, k, c, hc, h2⟩ := hgd
            refine Or.inr ⟨a, k, c, (hco x q hxp).trans hc, ?_⟩
            rcases h2 with h2 | ⟨g', e, h3, h4, h5, h6, h7, ⟨h8, cur2, h9, h10⟩ | ⟨h8, h11, cur2, h9, h10⟩⟩
            · exact Or.inl h2
            · obtain ⟨cu2, k1, k2⟩ := hcs _ _ _ h9
              exact Or.inr ⟨g', e, ⟨h3.1, Nat.lt_of_lt_of_le h3.2 h.bdw⟩, h4, (show (if g' = gv then (g, p) else par g') = _ by rw [if_neg (show ¬ g' = gv by have := h3.2; omega)]; exact h5), h6, h7, Or.inl ⟨h8, cu2, k1, k2.trans h10⟩⟩
            · obtain ⟨cu2, k1, k2⟩ := hcs _ _ _ h9
              exact Or.inr ⟨g', e, ⟨h3.1, Nat.lt_of_lt_of_le h3.2 h.bdw⟩, h4, (show (if g' = gv then (g, p) else par g') = _ by rw [if_neg (show ¬ g' = gv by have := h3.2; omega)]; exact h5), h6, h7, Or.inr ⟨h8, Or.inl h11, cu2, k1, k2.trans h10⟩⟩
        · exact Or.inl (hW2 hne (by omega) _ _ rfl)

/-- What has been cloned lies apart. -/
theorem Sq.row {lo bd : Nat} {NR : Nat → Nat → Prop} {par : Nat → Nat × Nat} {wr : World} {P : Nat → Prop} (h : Sq lo bd NR par (fun _ _ => False) wr) : ∀ (d : Nat) (g c : Nat) (I : List Tm), (I ≠ [] → NR g I.length) → RowG wr 7 (.slice (some ⟨g, 0, none⟩) I.length c) I.length → RowB P (InB P wr d) wr (some ⟨g, 0, none⟩) I →
    ∃ LB RB, RowBT 0 (BT 0 wr d) wr (.slice (some ⟨g, 0, none⟩) I.length c) I LB RB ∧ Apt LB RB ∧ ∀ x, x ∈ KB LB RB → x = g ∨ ∃ p, Anc par x (g, p) := by
  intro d
  induction d with
  | zero =>
    intro g c I hN hG hR
    have hI : I = [] := by
      rcases hR with h0 | ⟨b, o, _, _, _, hc⟩
      · exact h0
      · cases I with
        | nil => rfl
        | cons t r => obtain ⟨_, _, _, h3⟩ := hc 0 (by simp); exact h3.elim
    subst hI
    refine ⟨[], [.slice (some ⟨g, 0, none⟩) 0 c], ⟨fun _ => [], fun _ => [], rfl, rfl, ⟨hG, Or.inl rfl⟩, fun i hi => by simp at hi⟩, ⟨by simp [bks], by simp [bks, Value.ownBlock], by simp [bks]⟩, fun x hx => ?_⟩
    simp [KB, bks, Value.ownBlock] at hx
    exact Or.inl hx
  | succ d ih =>
    intro g c I hN hG hR
    -- each kid
    have kid : ∀ i (hi : i < I.length), ∃ (cs l r : List Value), cs.length = 7 ∧ (∀ j, j < 7 → wr.cell? ⟨g, i * 7 + j, none⟩ = cs[j]?) ∧ BT 0 wr (d + 1) cs I[i] l r ∧ Apt l r ∧ ∀ x, x ∈ KB l r → ∃ p, i * 7 ≤ p ∧ p < i * 7 + 7 ∧ Anc par x (g, p) := by
      intro i hi
      have hNg := hN (fun e => by rw [e] at hi; simp at hi)
      rcases hR with h0 | ⟨b, o, e, _, _, hc⟩
      · rw [h0] at hi; simp at hi
      simp only [Option.some.injEq, Addr.mk.injEq] at e
      obtain ⟨rfl, rfl, _⟩ := e
      obtain ⟨cs, k1, k2, k3⟩ := hc i hi
      have kc : ∀ j, j < 7 → wr.cell? ⟨g, i * 7 + j, none⟩ = cs[j]? := fun j hj => by have := k2 j hj; rw [Nat.zero_add] at this; exact this
      have good : ∀ f, f = 2 ∨ f = 5 ∨ f = 6 → Good lo bd NR par wr g (i * 7 + f) := fun f hf => by
        have hm := mul_room (sz := 7) hi
        have := h.pos g I.length (i * 7 + f) hNg (by omega) (by omega)
        exact this.elim False.elim id
      generalize hte : I[i] = te at k3
      cases te with
      | mk k num neg L s I' T' =>
        obtain ⟨a, ai, at', cl, ci, ct, rfl, q1, q2, q3, q4⟩ := k3
        -- limbs
        obtain ⟨a1, n1, c1, e1, g1⟩ := good 2 (Or.inl rfl)
        rw [kc 2 (by omega)] at e1
        simp only [List.getElem?_cons_succ, List.getElem?_cons_zero, Option.some.injEq, Value.slice.injEq] at e1
        obtain ⟨rfl, rfl, rfl⟩ := e1
        have hl : RowQ wr 0 1 (.slice a L.length cl) L.length ∧ ∀ x, (Value.slice a L.length cl).ownBlock = some x → Anc par x (g, i * 7 + 2) := by
          rcases g1 with ⟨rfl, h1, rfl⟩ | ⟨g', rfl, h1, h2, h3, h4, h5, ⟨h6, cur, h7, h8⟩ | ⟨h6, _⟩⟩
          · rw [h1]; exact ⟨⟨Or.inl ⟨rfl, rfl⟩, Or.inl rfl⟩, fun x hx => by cases hx⟩
          · refine ⟨⟨Or.inr ⟨g', cl, rfl, lt_of_block h7, h4, h5, fun j hj => ?_⟩, Or.inl rfl⟩, fun x hx => ?_⟩
            · refine ⟨?_, frozen_of_row _ _ _ _ _ h7⟩
              rw [cell_of_row _ _ _ _ _ _ h7, Array.getElem?_eq_getElem (by omega)]; rfl
            · simp only [Value.ownBlock, Option.some.injEq] at hx
              subst hx
              exact Anc.of_par h3 h2
          · omega
        -- rows
        have sub : ∀ f (hf : f = 5 ∨ f = 6) (a2 : Option Addr) (c2 : Nat) (I2 : List Tm), wr.cell? ⟨g, i * 7 + f, none⟩ = some (.slice a2 I2.length c2) → RowB P (InB P wr d) wr a2 I2 → ∃ LB RB, RowBT 0 (BT 0 wr d) wr (.slice a2 I2.length c2) I2 LB RB ∧ Apt LB RB ∧ ∀ x, x ∈ KB LB RB → Anc par x (g, i * 7 + f) := by
          intro f hf a2 c2 I2 hcell hrow
          obtain ⟨a3, n3, c3, e3, g3⟩ := good f (Or.inr hf)
          rw [hcell] at e3
          simp only [Option.some.injEq, Value.slice.injEq] at e3
          obtain ⟨rfl, rfl, rfl⟩ := e3
          rcases g3 with ⟨rfl, h1, rfl⟩ | ⟨g', rfl, h1, h2, h3, h4, h5, ⟨h6, _⟩ | ⟨h6, h7, cur, h8, h9⟩⟩
          · have hI2 : I2 = [] := List.eq_nil_of_length_eq_zero h1
            subst hI2
            refine ⟨[], [.slice none 0 0], ⟨fun _ => [], fun _ => [], rfl, rfl, ⟨Or.inl ⟨rfl, rfl⟩, Or.inl rfl⟩, fun i hi => by simp at hi⟩, ⟨by simp [bks], by simp [bks, Value.ownBlock], by simp [bks]⟩, fun x hx => ?_⟩
            simp [KB, bks, Value.ownBlock] at hx
          · omega
          · have hG2 : RowG wr 7 (.slice (some ⟨g', 0, none⟩) I2.length c2) I2.length := by
              refine Or.inr ⟨g', c2, rfl, lt_of_block h8, h4, h5, fun j hj => ?_⟩
              refine ⟨?_, frozen_of_row _ _ _ _ _ h8⟩
              rw [cell_of_row _ _ _ _ _ _ h8, Array.getElem?_eq_getElem (by omega)]; rfl
            obtain ⟨LB, RB, b1, b2, b3⟩ := ih g' c2 I2 (fun _ => h7) hG2 hrow
            refine ⟨LB, RB, b1, b2, fun x hx => ?_⟩
            rcases b3 x hx with rfl | ⟨p, hp⟩
            · exact Anc.of_par h3 h2
            · exact Anc.trans hp (Anc.of_par h3 h2)
        obtain ⟨l1, r1, i1, i2, i3⟩ := sub 5 (Or.inl rfl) ai ci I' (kc 5 (by omega)) q3
        obtain ⟨l2, r2, t1, t2, t3⟩ := sub 6 (Or.inr rfl) at' ct T' (kc 6 (by omega)) q4
        refine ⟨_, .slice a L.length cl :: (l1 ++ l2), r1 ++ r2, k1, kc, ⟨.slice a L.length cl, .slice ai I'.length ci, .slice at' T'.length ct, l1, l2, r1, r2, rfl, hl.1, i1, t1, rfl, rfl⟩, ?_, fun x hx => ?_⟩
        · refine Apt.of_two i2 t2 (fun x h1 h2 => ?_) (fun x hx => ⟨fun h1 => ?_, fun h1 => ?_⟩)
          · have := (i3 x h1).one (t3 x h2) rfl; simp at this
          · have := (hl.2 x hx).one (i3 x h1) rfl; simp at this
          · have := (hl.2 x hx).one (t3 x h1) rfl; simp at this
        · rcases KB_two.1 hx with hx | hx | hx
          · exact ⟨_, by omega, by omega, hl.2 x hx⟩
          · exact ⟨_, by omega, by omega, i3 x hx⟩
          · exact ⟨_, by omega, by omega, t3 x hx⟩
    have kid2 : ∀ i, ∃ (l r : List Value), ∀ (hi : i < I.length), ∃ cs : List Value, cs.length = 7 ∧ (∀ j, j < 7 → wr.cell? ⟨g, i * 7 + j, none⟩ = cs[j]?) ∧ BT 0 wr (d + 1) cs I[i] l r ∧ Apt l r ∧ ∀ x, x ∈ KB l r → ∃ p, i * 7 ≤ p ∧ p < i * 7 + 7 ∧ Anc par x (g, p) := by
      intro i
      by_cases hi : i < I.length
      · obtain ⟨cs, l, r, h1, h2, h3, h4, h5⟩ := kid i hi
        exact ⟨l, r, fun _ => ⟨cs, h1, h2, h3, h4, h5⟩⟩
      · exact ⟨[], [], fun h => absurd h hi⟩
    obtain ⟨ls, hls⟩ := Classical.axiomOfChoice kid2
    obtain ⟨rs, hrs⟩ := Classical.axiomOfChoice hls
    refine ⟨_, _, ⟨ls, rs, rfl, rfl, ⟨hG, Or.inl rfl⟩, fun i hi => ?_⟩, ?_, fun x hx => ?_⟩
    · obtain ⟨cs, h1, h2, h3, _⟩ := hrs i hi
      refine ⟨cs, h1, fun g2 l2 c2 e => ?_, h3⟩
      simp only [Value.slice.injEq, Option.some.injEq, Addr.mk.injEq, and_true] at e
      obtain ⟨rfl, _, _⟩ := e
      exact h2
    · refine Apt.of_row (fun i hi => ?_) (fun i j x hi hj hij h1 h2 => ?_) (fun i x hi hx h1 => ?_)
      · obtain ⟨_, _, _, _, h4, _⟩ := hrs i hi; exact h4
      · obtain ⟨_, _, _, _, _, h5⟩ := hrs i hi
        obtain ⟨_, _, _, _, _, h6⟩ := hrs j hj
        obtain ⟨p, p1, p2, p3⟩ := h5 x h1
        obtain ⟨q, q1, q2, q3⟩ := h6 x h2
        have := p3.one q3 rfl
        simp only [Prod.mk.injEq, true_and] at this
        omega
      · obtain ⟨_, _, _, _, _, h5⟩ := hrs i hi
        obtain ⟨p, _, _, p3⟩ := h5 x h1
        have := p3.lt
        simp only [Value.ownBlock, Option.some.injEq] at hx
        simp only at this
        omega
    · rcases KB_row.1 hx with hx | ⟨i, hi, hx⟩
      · simp only [Value.ownBlock, Option.some.injEq] at hx
        exact Or.inl hx.symm
      · obtain ⟨_, _, _, _, _, h5⟩ := hrs i hi
        obtain ⟨p, _, _, p3⟩ := h5 x hx
        exact Or.inr ⟨p, p3⟩

end Go.Proofs.YtabknipgbmdipaaGreatDoor
