/- Copy of package term: its answer's rows lie apart. -/
import Derived.Test.YtabknipgbmdipaaGreatDoorJAJ
import Derived.Test.YtabknipgbmdipaaGreatDoorBtF
import Derived.Test.YtabknipgbmdipaaGreatDoorJAV
import Derived.Test.YtabknipgbmdipaaGreatDoorJAW
import Derived.Test.YtabknipgbmdipaaGreatDoorJAZ
import Derived.Test.YtabknipgbmdipaaGreatDoorAwkT
import Derived.Test.YtabknipgbmdipaaGreatDoorJBC
import Derived.Test.YtabknipgbmdipaaGreatDoorJBD
import Derived.Test.YtabknipgbmdipaaGreatDoorJAN
import Derived.Test.YtabknipgbmdipaaGreatDoorJAB
import Derived.SizedLaws

namespace Go.Proofs.YtabknipgbmdipaaGreatDoor
open Go.RowKit

/-- A term is answered, that stands for this tree, its rows apart. -/
def TermS (B : Nat) (w : World) (d : Nat) (t : Tm) (e : Ending) (w' : World) : Prop := ∃ cs : List Value, cs.length = 7 ∧ e = .returned (.agg cs.toArray) ∧ InB (fun b => b < B ∨ w.heap.size ≤ b) w' d cs t ∧ Upd [] w w' ∧ ∃ LB RB, BT 0 w' d cs t LB RB ∧ Apt LB RB ∧ ∀ x, x ∈ KB LB RB → w.heap.size ≤ x

/-- fresh of one row. -/
theorem fresh_oneS (B b o c c' d : Nat) (Q : Nat → Prop) (a : Option Addr) (I : List Tm) (w : World) (hb : b < w.heap.size) (hB : B ≤ w.heap.size) (hc : w.cell? ⟨b, o, none⟩ = some (.slice a I.length c')) (hR : RowB Q (InB (fun b => b < B) w d) w a I) (hn : I.length + belR I ≤ 65536) (hsz : tszs I ≤ 1353245080330) :
    Calls Tryz.prog 50 #[.slice (some ⟨b, o, none⟩) 1 c] w (FreshS B w d I) := by
  obtain ⟨xs, hx, hxs⟩ := hR.rd (fun cs t h => InB.one cs t h)
  refine fresh_anyS B b o 1 c d [⟨a, I.length, c', xs⟩] I w rfl ⟨hb, fun i hi => ?_, fun i hi => ?_⟩ ⟨by simp [sumN], fun i hi => ?_⟩ hB (by simp) (by omega) (by omega) hsz
  · have e : i = 0 := by simp at hi; exact hi
    subst e
    exact hc
  · have e : i = 0 := by simp at hi; exact hi
    subst e
    exact hx
  · obtain ⟨cs, k1, k2, k3⟩ := hxs i hi
    exact ⟨cs, k1, fun j hj => by simpa [catX] using k2 j hj, k3⟩

set_option maxHeartbeats 4000000 in
set_option maxRecDepth 100000 in
theorem Copy_sep (B d : Nat) (w : World) (cs : List Value) (t : Tm) (hB : B ≤ w.heap.size) (h' : InB (fun b => b < B) w d cs t) (hs : tsz t ≤ 1353245080330) (hb : belT t ≤ 60000) :
    Calls Tryz.prog 12 #[.agg cs.toArray] w (TermS B w d t) := by
  have h := InB.plain _ _ _ h'
  have hone := h.one
  have hl7 := h.len
  obtain ⟨q0, q1, q2, q3, q4, q5, q6, rfl⟩ := list7 hl7
  have HIN : Hid (InB (fun b => b < B) w d [q0, q1, q2, q3, q4, q5, q6] t) := h'
  have tb0 : Tb ((w.alloc (.cells #[q0, q1, q2, q3, q4, q5, q6] 26)).alloc (.cells #[.int .u8 0, .bool false, .slice none 0 0, .string ⟨#[]⟩, .int .i64 0, .slice none 0 0, .slice none 0 0] 26)) w.heap.size #[q0, q1, q2, q3, q4, q5, q6] := (Tb.new _ _ _ rfl).old _
  have tbz : Tb ((w.alloc (.cells #[q0, q1, q2, q3, q4, q5, q6] 26)).alloc (.cells #[.int .u8 0, .bool false, .slice none 0 0, .string ⟨#[]⟩, .int .i64 0, .slice none 0 0, .slice none 0 0] 26)) (w.heap.size + 1) #[.int .u8 0, .bool false, .slice none 0 0, .string ⟨#[]⟩, .int .i64 0, .slice none 0 0, .slice none 0 0] := Tb.new _ _ _ (by simp)
  have hU0 : Upd [] w ((w.alloc (.cells #[q0, q1, q2, q3, q4, q5, q6] 26)).alloc (.cells #[.int .u8 0, .bool false, .slice none 0 0, .string ⟨#[]⟩, .int .i64 0, .slice none 0 0, .slice none 0 0] 26)) := ((Upd.refl [] w).alloc _).alloc _
  have HS : Hid (tszs [t] ≤ 1353245080330 ∧ belR [t] ≤ 60000) := ⟨by simp only [tszs, List.length_nil]; omega, by simp only [belR]; omega⟩
  have HONE : Hid _ := hone
  clear h h' hs hb hl7
  obtain ⟨W, hW⟩ : ∃ W, W = (w.alloc (.cells #[q0, q1, q2, q3, q4, q5, q6] 26)).alloc (.cells #[.int .u8 0, .bool false, .slice none 0 0, .string ⟨#[]⟩, .int .i64 0, .slice none 0 0, .slice none 0 0] 26) := ⟨_, rfl⟩
  go_enter Tryz.func12, Tryz.ntmps12
  go_wp2_with (first | (refine load_T _ rfl _ rfl _ _ rfl tb0 rfl ?_) | fail)
  rw [← hW] at tb0 tbz hU0 ⊢
  have hsW : W.heap.size = w.heap.size + 1 + 1 := by rw [hW]; simp
  have hU1 : Upd [] W ((W.alloc (.cells #[q0, q1, q2, q3, q4, q5, q6] 26)).alloc (.cells #[.slice (some ⟨w.heap.size + 1 + 1, 0, none⟩) 1 1] 24)) := ((Upd.refl [] W).alloc _).alloc _
  have tb1 : Tb ((W.alloc (.cells #[q0, q1, q2, q3, q4, q5, q6] 26)).alloc (.cells #[.slice (some ⟨w.heap.size + 1 + 1, 0, none⟩) 1 1] 24)) (w.heap.size + 1 + 1) #[q0, q1, q2, q3, q4, q5, q6] := (Tb.new _ _ _ hsW.symm).old _
  have hf := FunB.new (W.alloc (.cells #[q0, q1, q2, q3, q4, q5, q6] 26)) (.slice (some ⟨w.heap.size + 1 + 1, 0, none⟩) 1 1) 24 (w.heap.size + 1 + 1 + 1) (by simp [hsW])
  have hU2 := hU0.trans hU1
  have HSZ : Hid (((W.alloc (.cells #[q0, q1, q2, q3, q4, q5, q6] 26)).alloc (.cells #[.slice (some ⟨w.heap.size + 1 + 1, 0, none⟩) 1 1] 24)).heap.size = w.heap.size + 4) := by show _ = _; simp [hsW]
  have hrow := Tb.row (cs := [q0, q1, q2, q3, q4, q5, q6]) tb1 rfl (InB.upd hU2 (by simp) (fun b hb _ => hb) _ _ _ HIN.out)
  refine Calls.mono (fresh_oneS B (w.heap.size + 1 + 1 + 1) 0 1 1 d _ (some ⟨w.heap.size + 1 + 1, 0, none⟩) [t] _ hf.lt (Nat.le_trans hB hU2.size) hf.cell hrow (by have := HS.out.2; simp; omega) HS.out.1) ?_
  rintro e w3 ⟨a3, c3, rfl, hR3, hU3, _, _, LB3, RB3, hBT3, hAp3, hKB3⟩
  obtain ⟨ls3, rs3, rfl, rfl, hq3, hk3⟩ := hBT3
  have HAP : Hid (Apt (ls3 0) (rs3 0)) := hAp3.row.1 0 (by simp)
  have HKB : Hid (∀ x, x ∈ KB (ls3 0) (rs3 0) → w.heap.size + 4 ≤ x) := fun x hx => by rw [← HSZ.out]; exact hKB3 x (KB_row.2 (Or.inr ⟨0, by simp, hx⟩))
  have hg3 : ∀ ad, a3 = some ad → ∃ g, ad = ⟨g, 0, none⟩ := fun ad e => by
    rcases hq3.1 with ⟨e2, _⟩ | ⟨g, cap, e2, _⟩
    · rw [e] at e2; cases e2
    · rw [e] at e2; simp only [Value.slice.injEq, Option.some.injEq] at e2; exact ⟨g, e2.1⟩
  clear hAp3 hKB3
  simp only [List.length_cons, List.length_nil, Nat.zero_add]
  rcases hR3 with h0 | ⟨b3, o3, rfl, _, hlt3, hc3⟩
  · cases h0
  obtain ⟨g3, hgo⟩ := hg3 _ rfl
  simp only [Addr.mk.injEq, and_true] at hgo
  obtain ⟨rfl, rfl⟩ := hgo
  obtain ⟨cs3, k1, k2, k3⟩ := hc3 0 (by simp)
  obtain ⟨cs3', k1', k2', k3'⟩ := hk3 0 (by simp)
  have hcc : cs3' = cs3 := by
    apply List.ext_getElem (by omega)
    intro j h1 h2
    have e1 := k2 j (by omega)
    have e2 := k2' b3 _ _ rfl j (by omega)
    rw [Nat.zero_add] at e1
    rw [e1, List.getElem?_eq_getElem h2, List.getElem?_eq_getElem h1] at e2
    exact (Option.some.inj e2).symm
  subst hcc
  have HBT3 : Hid (BT 0 w3 d cs3' t (ls3 0) (rs3 0)) := k3'
  clear k3' k2' k1' hk3 hq3 hg3
  have hone3 := (InB.plain _ _ _ k3).one
  obtain ⟨p0, p1, p2, p3, p4, p5, p6, rfl⟩ := list7 k1
  have HIN3 : Hid (InB _ w3 d [p0, p1, p2, p3, p4, p5, p6] t) := k3
  have HU3 : Hid (Upd [] w w3) := hU2.trans hU3
  have tbz3 := (tbz.mono hU1 (by simp)).mono hU3 (by simp)
  have x0 : w3.cell? ⟨b3, 0, none⟩ = some p0 := by have := k2 0 (by omega); simpa using this
  have x1 : w3.cell? ⟨b3, 1, none⟩ = some p1 := by have := k2 1 (by omega); simpa using this
  have x2 : w3.cell? ⟨b3, 2, none⟩ = some p2 := by have := k2 2 (by omega); simpa using this
  have x3 : w3.cell? ⟨b3, 3, none⟩ = some p3 := by have := k2 3 (by omega); simpa using this
  have x4 : w3.cell? ⟨b3, 4, none⟩ = some p4 := by have := k2 4 (by omega); simpa using this
  have x5 : w3.cell? ⟨b3, 5, none⟩ = some p5 := by have := k2 5 (by omega); simpa using this
  have x6 : w3.cell? ⟨b3, 6, none⟩ = some p6 := by have := k2 6 (by omega); simpa using this
  clear hc3 k2 k3 hrow hf tb1 tb0 hU1 hU2 hU3 hU0 tbz hW hsW
  go_wp2_with (refine store_T _ rfl _ _ rfl _ #[p0, p1, p2, p3, p4, p5, p6] _ rfl rfl tbz3 rfl rfl hone3 ?_; intro w4 hT4 hU4)
  have hin4 : InB (fun b => b < B ∨ w.heap.size ≤ b) w4 d [p0, p1, p2, p3, p4, p5, p6] t := by
    refine InB.upd hU4 (fun b hb hm => ?_) (fun b hb _ => ?_) _ _ _ HIN3.out
    · simp at hm
      subst hm
      rcases hb with hb | ⟨hb, _⟩
      · simp only at hb; omega
      · rw [HSZ.out] at hb; simp only at hb; omega
    · rcases hb with hb | ⟨hb, _⟩
      · exact Or.inl hb
      · rw [HSZ.out] at hb; simp only at hb; exact Or.inr (by omega)
  exact ret_T Tryz.results12 rfl _ _ rfl hT4 rfl ⟨[p0, p1, p2, p3, p4, p5, p6], rfl, rfl, hin4, HU3.out.then hU4 (by simp), ls3 0, rs3 0, BT.upd hU4 _ _ _ _ _ (fun x hx hm => by have := HKB.out x hx; simp at hm; omega) HBT3.out, HAP.out, fun x hx => by have := HKB.out x hx; omega⟩

end Go.Proofs.YtabknipgbmdipaaGreatDoor

/- TermTells, walked. -/
namespace Go.Proofs.YtabknipgbmdipaaGreatDoor
open Go.RowKit

mutual
theorem bel_cnt : ∀ t : Tm, belT t + 1 ≤ cntT t
  | .mk _ _ _ L s I T => by
    have h1 := bels_cnt I
    have h2 := bels_cnt T
    rw [belT, cntT]
    omega
theorem bels_cnt : ∀ I : List Tm, I.length + belR I ≤ cntR I
  | [] => by simp [belR, cntR]
  | t :: r => by
    have h1 := bel_cnt t
    have h2 := bels_cnt r
    rw [belR, cntR, List.length_cons]
    omega
end
/-- What is copied lies in its own rows. -/
theorem InB.inKB {P : Nat → Prop} {w : World} : ∀ (d : Nat) (cs : List Value) (t : Tm) (LB RB : List Value), InB P w d cs t → BT 0 w d cs t LB RB → InB (fun b => b ∈ KB LB RB) w d cs t := by
  intro d
  induction d with
  | zero => intro cs t LB RB h; exact h.elim
  | succ d ih =>
    intro cs t LB RB h hb
    cases t with
    | mk k num neg L s I T =>
      obtain ⟨a, ai, at', c, ci, ct, rfl, h1, h2, h3, h4⟩ := h
      obtain ⟨vl, vi, vt, l1, l2, r1, r2, e, b1, b2, b3, rfl, rfl⟩ := hb
      simp only [List.cons.injEq, true_and, and_true] at e
      obtain ⟨rfl, rfl, rfl⟩ := e
      have row : ∀ (Q : Nat → Prop) (a : Option Addr) (c : Nat) (J : List Tm) (l r : List Value), RowB P (InB P w d) w a J → RowBT 0 (BT 0 w d) w (.slice a J.length c) J l r → (∀ x, x ∈ KB l r → Q x) → RowB Q (InB Q w d) w a J := by
        intro Q a c J l r hR hB hQ
        rcases hR with h0 | ⟨b, o, rfl, _, hlt, hc⟩
        · exact Or.inl h0
        by_cases h0 : J = []
        · exact Or.inl h0
        have hpos : 0 < J.length := by cases J with | nil => exact absurd rfl h0 | cons x t => simp
        obtain ⟨ls, rs, rfl, rfl, ⟨hG, _⟩, hk⟩ := hB
        have ho : o = 0 := by
          rcases hG with ⟨e, _⟩ | ⟨g, cap, e, _⟩
          · cases e
          · simp only [Value.slice.injEq, Option.some.injEq, Addr.mk.injEq] at e; exact e.1.2.1
        subst ho
        refine Or.inr ⟨b, 0, rfl, hQ b (KB_row.2 (Or.inl rfl)), hlt, fun i hi => ?_⟩
        obtain ⟨cs, k1, k2, k3⟩ := hc i hi
        obtain ⟨cs', k1', k2', k3'⟩ := hk i hi
        have hcc : cs' = cs := by
          apply List.ext_getElem (by omega)
          intro j h1 h2
          have e1 := k2 j (by omega)
          have e2 := k2' b _ _ rfl j (by omega)
          rw [Nat.zero_add] at e1
          rw [e1, List.getElem?_eq_getElem h2, List.getElem?_eq_getElem h1] at e2
          exact (Option.some.inj e2).symm
        subst hcc
        exact ⟨cs', k1, k2, InB.upd (Upd.refl [] w) (fun _ _ => by simp) (fun x hx _ => hQ x (KB_row.2 (Or.inr ⟨i, hi, hx⟩))) _ _ _ (ih _ _ _ _ k3 k3')⟩
      refine ⟨a, ai, at', c, ci, ct, rfl, ?_, h2, row _ ai ci I l1 r1 h3 b2 (fun x hx => KB_two.2 (Or.inr (Or.inl hx))), row _ at' ct T l2 r2 h4 b3 (fun x hx => KB_two.2 (Or.inr (Or.inr hx)))⟩
      rcases h1 with h1 | ⟨b, o, rfl, _, hlt, hc⟩
      · exact Or.inl h1
      · exact Or.inr ⟨b, o, rfl, KB_two.2 (Or.inl rfl), hlt, hc⟩

/-- The blocks of what is lent are there. -/
theorem KIn.within {P : Nat → Prop} {w : World} : ∀ (d : Nat) (cs : List Value) (t : Tm), KIn P w d cs t → KIn (fun x => P x ∧ x < w.heap.size) w d cs t := by
  intro d
  induction d with
  | zero => intro cs t h; exact h.elim
  | succ d ih =>
    intro cs t h
    cases t with
    | mk k num neg L s I T =>
      obtain ⟨g, gi, gt, c, ci, ct, rfl, h1, h2, h3, h4, h5, h6, h7⟩ := h
      have row : ∀ g c (I : List Tm), RowK P (KIn P w d) w g c I → RowK (fun x => P x ∧ x < w.heap.size) (KIn (fun x => P x ∧ x < w.heap.size) w d) w g c I := by
        intro g c I ⟨r1, r2, r3, r4, r5, r6⟩
        refine ⟨⟨r1, r2⟩, r2, r3, r4, fun i hi => ?_, r6⟩
        obtain ⟨cs, k1, k2, k3⟩ := r5 i hi
        exact ⟨cs, k1, k2, ih _ _ k3⟩
      refine ⟨g, gi, gt, c, ci, ct, rfl, ⟨h1, ?_⟩, h2, h3, h4, h5, row gi ci I h6, row gt ct T h7⟩
      rcases h2 with h2 | ⟨b, o, e, hlt, _⟩
      · have : (L ++ marks).length = 0 := by rw [h2]; rfl
        rw [List.length_append] at this
        have m12 : marks.length = 12 := rfl
        omega
      · cases e; exact hlt

/-- What Copy answers, as the drawn pair wants it. -/
def CopR (lo d : Nat) (t : Tm) (PX : Nat → Prop) (X : Array Value) (w : World) : Prop := ∃ (cs LB RB : List Value), X = cs.toArray ∧ InB (fun b => b ∈ KB LB RB) w d cs t ∧ BT 0 w d cs t LB RB ∧ Apt LB RB ∧ ∀ z, z ∈ KB LB RB → PX z ∧ lo ≤ z
theorem CopR.stay {lo d : Nat} {t : Tm} (PX : Nat → Prop) (X : Array Value) (w w' : World) (U : List Nat) (h : CopR lo d t PX X w) (hu : Upd U w w') (hP : ∀ z, PX z → z ∉ U) : CopR lo d t PX X w' := by
  obtain ⟨cs, LB, RB, e, h1, h2, h3, h4⟩ := h
  exact ⟨cs, LB, RB, e, InB.upd hu (fun b hb => hP b (h4 b hb).1) (fun b hb _ => hb) _ _ _ h1, BT.upd hu _ _ _ _ _ (fun x hx => hP x (h4 x hx).1) h2, h3, h4⟩
theorem CopR.call {d : Nat} {t : Tm} {w0 : World} {cs : List Value} (h : In w0 d cs t) (hs : tsz t ≤ 1353245080330) (hb : belT t ≤ 60000) (V : World) (hu : Upd [] w0 V) :
    Calls Tryz.prog 12 #[.agg cs.toArray] V fun e w' => ∃ u, e = .returned u ∧ Upd [] V w' ∧ ∃ X PX, u = .agg X ∧ X.size = 7 ∧ X.all (·.oneCell') = true ∧ CopR w0.heap.size d t PX X w' ∧ ∀ z, PX z → V.heap.size ≤ z ∧ z < w'.heap.size := by
  have hin : InB (fun b => b < V.heap.size) V d cs t := In.toB (P := fun b => b < V.heap.size) (fun b hb => Nat.lt_of_lt_of_le hb hu.size) hu d cs t h
  refine (Copy_sep V.heap.size d V cs t (Nat.le_refl _) hin hs hb).mono ?_
  rintro e w' ⟨cs', h7, rfl, hI, hU, LB, RB, hB, hA, hK⟩
  have hone := (InB.plain _ _ _ hI).one
  exact ⟨_, rfl, hU, cs'.toArray, fun x => V.heap.size ≤ x ∧ x < w'.heap.size, rfl, by simpa using h7, hone, ⟨cs', LB, RB, rfl, InB.inKB _ _ _ _ _ hI hB, hB, hA, fun z hz => ⟨⟨hK z hz, BT.lt _ _ _ _ _ hB z hz⟩, Nat.le_trans hu.size (hK z hz)⟩⟩, fun z hz => hz⟩

/-- One term in a row of its own. -/
theorem row_oneB {w : World} {d A : Nat} {cs LB RB : List Value} {t : Tm} (hT : Tb w A cs.toArray) (h7 : cs.length = 7) (hb : BT 0 w d cs t LB RB) : RowBT 0 (BT 0 w d) w (.slice (some ⟨A, 0, none⟩) 1 1) [t] LB (.slice (some ⟨A, 0, none⟩) 1 1 :: RB) := by
  refine ⟨fun _ => LB, fun _ => RB, by simp [List.range_succ], by simp [List.range_succ], ⟨Or.inr ⟨A, 1, rfl, hT.lt, Nat.le_refl _, by unfold maxLen; omega, fun j hj => ⟨?_, frozen_of_row _ _ _ _ _ hT⟩⟩, Or.inl rfl⟩, fun i hi => ?_⟩
  · rw [hT.cell (0 + j), Array.getElem?_eq_getElem (by simp; omega)]; rfl
  · have e : i = 0 := by simp at hi; exact hi
    subst e
    refine ⟨cs, h7, fun g l c e j hj => ?_, hb⟩
    simp only [Value.slice.injEq, Option.some.injEq, Addr.mk.injEq, and_true] at e
    obtain ⟨rfl, _, _⟩ := e
    rw [Nat.zero_mul, Nat.zero_add, hT.cell j]
    simp
theorem Apt.cons {LB RB : List Value} {v : Value} (h : Apt LB RB) (hv : ∀ x, v.ownBlock = some x → x ∉ KB LB RB) : Apt LB (v :: RB) := by
  refine ⟨h.l, ?_, fun x hx hx2 => ?_⟩
  · rw [bks_cons]
    refine List.nodup_append.2 ⟨by cases v.ownBlock <;> simp, h.r, fun a ha b hb e => ?_⟩
    subst e
    exact hv a (by simpa using ha) (mem_KB.2 (Or.inr hb))
  · rw [bks_cons, List.mem_append] at hx2
    rcases hx2 with hx2 | hx2
    · exact hv x (by simpa using hx2) (mem_KB.2 (Or.inl hx))
    · exact h.lr x hx hx2
theorem Apt.tail {LB RB : List Value} {v : Value} (h : Apt LB (v :: RB)) : Apt LB RB := by
  obtain ⟨h1, h2, h3⟩ := h
  rw [bks_cons] at h2
  exact ⟨h1, (List.nodup_append.1 h2).2.1, fun x hx hx2 => h3 x hx (by rw [bks_cons, List.mem_append]; exact Or.inr hx2)⟩
theorem Apt.flat {m : Nat} {ls rs : Nat → List Value} (h1 : ∀ i, i < m → Apt (ls i) (rs i)) (h2 : ∀ i j x, i < m → j < m → i ≠ j → x ∈ KB (ls i) (rs i) → x ∉ KB (ls j) (rs j)) : Apt ((List.range m).flatMap ls) ((List.range m).flatMap rs) :=
  (Apt.of_row (v := .slice none 0 0) h1 h2 (fun i x _ e => by cases e)).tail
theorem KB_flat {m : Nat} {ls rs : Nat → List Value} {x : Nat} : x ∈ KB ((List.range m).flatMap ls) ((List.range m).flatMap rs) ↔ ∃ i, i < m ∧ x ∈ KB (ls i) (rs i) := by
  simp only [mem_KB, mem_bks_flat]
  constructor
  · rintro (⟨i, hi, h⟩ | ⟨i, hi, h⟩)
    · exact ⟨i, hi, Or.inl h⟩
    · exact ⟨i, hi, Or.inr h⟩
  · rintro ⟨i, hi, h | h⟩
    · exact Or.inl ⟨i, hi, h⟩
    · exact Or.inr ⟨i, hi, h⟩
theorem KB_cons {LB RB : List Value} {v : Value} {x : Nat} : x ∈ KB LB (v :: RB) ↔ v.ownBlock = some x ∨ x ∈ KB LB RB := by
  simp only [mem_KB, bks_cons, List.mem_append, Option.mem_toList]
  constructor
  · rintro (h | h | h)
    · exact Or.inr (Or.inl h)
    · exact Or.inl h
    · exact Or.inr (Or.inr h)
  · rintro (h | h | h)
    · exact Or.inr (Or.inl h)
    · exact Or.inl h
    · exact Or.inr (Or.inr h)
/-- Two terms whose rows lie apart: ApartTerms is true of them. -/
theorem apart_two {W w : World} {d A : Nat} {t : Tm} {cx cy Lx Rx Ly Ry : List Value} (hA1 : Tb w A cx.toArray) (hA2 : Tb w (A + 1) cy.toArray) (hc0 : w.cell? ⟨A + 1 + 1, 0, none⟩ = some (.slice (some ⟨A, 0, none⟩) 1 1)) (hc1 : w.cell? ⟨A + 1 + 1, 1, none⟩ = some (.slice (some ⟨A + 1, 0, none⟩) 1 1)) (hl : A + 1 + 1 < w.heap.size) (h7x : cx.length = 7) (h7y : cy.length = 7) (hbx : BT 0 w d cx t Lx Rx) (hby : BT 0 w d cy t Ly Ry) (hax : Apt Lx Rx) (hay : Apt Ly Ry) (hx : ∀ z, z ∈ KB Lx Rx → W.heap.size ≤ z ∧ z < A) (hy : ∀ z, z ∈ KB Ly Ry → W.heap.size ≤ z ∧ z < A) (hxy : ∀ z, z ∈ KB Lx Rx → z ∉ KB Ly Ry) (hs : tsz t ≤ 1353245080330) (hb : belT t ≤ 6000) (hWA : W.heap.size ≤ A) (hU : Upd [] W w) :
    Calls Tryz.prog 19 #[.slice (some ⟨A + 1 + 1, 0, none⟩) 2 2] w fun e w' => e = .returned (.bool true) ∧ Upd [] W w' := by
  obtain ⟨v, hv⟩ : ∃ v : Nat → Value, v = fun k => if k = 0 then .slice (some ⟨A, 0, none⟩) 1 1 else .slice (some ⟨A + 1, 0, none⟩) 1 1 := ⟨_, rfl⟩
  obtain ⟨ls, hls⟩ : ∃ ls : Nat → List Value, ls = fun k => if k = 0 then Lx else Ly := ⟨_, rfl⟩
  obtain ⟨rs, hrs⟩ : ∃ rs : Nat → List Value, rs = fun k => if k = 0 then .slice (some ⟨A, 0, none⟩) 1 1 :: Rx else .slice (some ⟨A + 1, 0, none⟩) 1 1 :: Ry := ⟨_, rfl⟩
  have l0 : ls 0 = Lx := by rw [hls]; rfl
  have l1 : ls 1 = Ly := by rw [hls]; rfl
  have r0 : rs 0 = .slice (some ⟨A, 0, none⟩) 1 1 :: Rx := by rw [hrs]; rfl
  have r1 : rs 1 = .slice (some ⟨A + 1, 0, none⟩) 1 1 :: Ry := by rw [hrs]; rfl
  have v0 : v 0 = .slice (some ⟨A, 0, none⟩) 1 1 := by rw [hv]; rfl
  have v1 : v 1 = .slice (some ⟨A + 1, 0, none⟩) 1 1 := by rw [hv]; rfl
  have k0 : ∀ x, x ∈ KB (ls 0) (rs 0) → x = A ∨ x ∈ KB Lx Rx := fun x hx => by
    rw [l0, r0, KB_cons] at hx
    rcases hx with hx | hx
    · simp only [Value.ownBlock, Option.some.injEq] at hx; exact Or.inl hx.symm
    · exact Or.inr hx
  have k1 : ∀ x, x ∈ KB (ls 1) (rs 1) → x = A + 1 ∨ x ∈ KB Ly Ry := fun x hx => by
    rw [l1, r1, KB_cons] at hx
    rcases hx with hx | hx
    · simp only [Value.ownBlock, Option.some.injEq] at hx; exact Or.inl hx.symm
    · exact Or.inr hx
  have d01 : ∀ x, x ∈ KB (ls 0) (rs 0) → x ∉ KB (ls 1) (rs 1) := fun x h0 h1 => by
    rcases k0 x h0 with e0 | e0 <;> rcases k1 x h1 with e1 | e1
    · omega
    · have := (hy x e1).2; omega
    · have := (hx x e0).2; omega
    · exact hxy x e0 e1
  have two : ∀ k, k < 2 → k = 0 ∨ k = 1 := fun k hk => by omega
  have h := ApartTerms_in w (A + 1 + 1) 2 2 d v (fun _ => [t]) ls rs (by omega) (by omega) (fun k hk => by
    rcases two k hk with rfl | rfl
    · rw [v0]; exact hc0
    · rw [v1]; exact hc1) hl (fun k hk => by
    rcases two k hk with rfl | rfl
    · rw [v0, l0, r0]; exact row_oneB hA1 h7x hbx
    · rw [v1, l1, r1]; exact row_oneB hA2 h7y hby) (Apt.flat (fun i hi => by
    rcases two i hi with rfl | rfl
    · rw [l0, r0]; exact hax.cons (fun x e hm => by simp only [Value.ownBlock, Option.some.injEq] at e; have := (hx x hm).2; omega)
    · rw [l1, r1]; exact hay.cons (fun x e hm => by simp only [Value.ownBlock, Option.some.injEq] at e; have := (hy x hm).2; omega)) (fun i j x hi hj hij hm => by
    rcases two i hi with rfl | rfl <;> rcases two j hj with rfl | rfl
    · exact absurd rfl hij
    · exact d01 x hm
    · exact fun h2 => d01 x h2 hm
    · exact absurd rfl hij)) (fun k hk => by simp only [tszs, List.length_nil]; omega) (fun k hk => by simp only [belR, List.length_cons, List.length_nil]; omega) (by simp) (fun hm => by
    obtain ⟨i, hi, hm⟩ := KB_flat.1 hm
    rcases two i hi with rfl | rfl
    · rcases k0 _ hm with e | e
      · omega
      · have := (hx _ e).2; omega
    · rcases k1 _ hm with e | e
      · omega
      · have := (hy _ e).2; omega)
  refine h.mono fun e w' ⟨he, hu⟩ => ⟨he, hU.then hu (fun x hm => Or.inl ?_)⟩
  obtain ⟨i, hi, hm⟩ := KB_flat.1 hm
  rcases two i hi with rfl | rfl
  · rcases k0 _ hm with e | e
    · omega
    · exact (hx _ e).1
  · rcases k1 _ hm with e | e
    · omega
    · exact (hy _ e).1

set_option maxHeartbeats 16000000 in
set_option maxRecDepth 100000 in
theorem Tells_walk (W : World) (d : Nat) (t0 : Tm) (n0 c0 : Nat) (a0 : Option Addr) (q0 q1 q3 q4 q5 q6 : Value) (hG : Glb W) (iA : In W d [q0, q1, .slice a0 n0 c0, q3, q4, q5, q6] t0) (s0 : tsz t0 ≤ 1353245080330) (s1 : xsz t0 ≤ 140737488355328) :
    Calls Tryz.prog 3 #[.agg #[q0, q1, .slice a0 n0 c0, q3, q4, q5, q6]] W fun e w' => e = .returned (.bool true) ∧ Upd [] W w' := by
  have GR : Hid (∀ V g, Upd [] W V → Tb V g #[q0, q1, .slice a0 n0 c0, q3, q4, q5, q6] → Calls Tryz.prog 6 #[.slice (some ⟨g, 0, none⟩) 1 1] V fun e w' => GreatP [t0] e ∧ Upd [] V w') := fun V g hu hT => greatX d V _ 1 [t0] (Or.inr ⟨g, 0, rfl, hT.lt, fun i hi => by
    have e : i = 0 := by simp at hi; exact hi
    subst e
    exact ⟨[q0, q1, .slice a0 n0 c0, q3, q4, q5, q6], rfl, fun j hj => by rw [Nat.zero_mul, Nat.zero_add, Nat.zero_add, hT.cell j]; simp, In.mono hu _ _ _ iA⟩⟩) (by simp only [tszs, List.length_nil]; omega) (by simp only [xszs]; omega)
  have HI0 : Hid (In W d [q0, q1, .slice a0 n0 c0, q3, q4, q5, q6] t0) := iA
  have HZ0 : Hid (tsz t0 ≤ 1353245080330) := s0
  have HG : Hid (Glb W) := hG
  have hone0 := iA.one
  obtain ⟨ok, hok⟩ : ∃ z, okS t0 = z := ⟨_, rfl⟩
  obtain ⟨sz, hsz⟩ : ∃ z, szS t0 = z := ⟨_, rfl⟩
  obtain ⟨tx, htx⟩ : ∃ z, str (txS t0) = z := ⟨_, rfl⟩
  have HOK : Hid (okS t0 = ok) := hok
  have HSZ : Hid (szS t0 = sz) := hsz
  have HTX : Hid (str (txS t0) = tx) := htx
  have TA : Hid (Tb (W.alloc (.cells #[q0, q1, .slice a0 n0 c0, q3, q4, q5, q6] 26)) W.heap.size #[q0, q1, .slice a0 n0 c0, q3, q4, q5, q6]) := Tb.new _ _ _ rfl
  have HU0 : Hid (Upd [] W (W.alloc (.cells #[q0, q1, .slice a0 n0 c0, q3, q4, q5, q6] 26))) := (Upd.refl [] W).alloc _
  clear iA s0 s1 hG hok hsz htx
  have A1 := TA.out
  go_enter Tryz.func3, Tryz.ntmps3
  go_wp2_with (first | (refine load_T _ rfl _ rfl _ _ rfl A1 rfl ?_) | fail)
  refine Calls.mono (GR.out _ _ (HU0.out.alloc _) (Tb.new _ _ _ (by simp))) ?_
  rintro e w2 ⟨⟨gb, rfl, hcnt⟩, h2⟩
  have hv : Upd [] (W.alloc (.cells #[q0, q1, .slice a0 n0 c0, q3, q4, q5, q6] 26)) w2 := Upd.trans ((Upd.refl [] _).alloc _) h2
  have ta2 := A1.mono hv (by simp)
  have U2 : Hid (Upd [] W w2) := HU0.out.trans hv
  have HCT : Hid (gb = false → ∀ i (hi : i < [t0].length), cntT [t0][i] ≤ 6000) := hcnt
  have HWl : Hid (W.heap.size < w2.heap.size) := ta2.lt
  clear hv h2 hcnt A1 TA HU0 GR
  cases gb with
  | true =>
    go_wp2_with fail
    refine Calls.mono (awake_any _ (HG.out.mono U2.out)) ?_
    rintro e w3 ⟨rfl, h3⟩
    go_wp2
    go_ret
    exact ⟨rfl, U2.out.trans h3⟩
  | false =>
    have HC0 : Hid (cntT t0 ≤ 6000) := HCT.out rfl 0 (by simp)
    clear HCT
    go_wp2_with (first | (refine load_T _ rfl _ rfl _ _ rfl ta2 rfl ?_) | fail)
    refine Calls.mono (LentTerm_sep d w2 [q0, q1, .slice a0 n0 c0, q3, q4, q5, q6] t0 (In.mono U2.out _ _ _ HI0.out) HZ0.out) ?_
    rintro e w3 ⟨hU3, csx, hx7, rfl, hK3, Li, Ri, hB3, hA3, hL3⟩
    obtain ⟨x0, x1, x2, x3, x4, x5, x6, rfl⟩ := list7 hx7
    have honex : (#[x0, x1, x2, x3, x4, x5, x6] : Array Value).all (·.oneCell') = true := (KIn.plain _ _ _ hK3).one
    obtain ⟨g3, hg3⟩ : ∃ g3, g3 = w3.heap.size := ⟨_, rfl⟩
    have tz3 : Tb (w3.alloc (.cells #[.int .u8 0, .bool false, .slice none 0 0, .string ⟨#[]⟩, .int .i64 0, .slice none 0 0, .slice none 0 0] 26)) g3 #[.int .u8 0, .bool false, .slice none 0 0, .string ⟨#[]⟩, .int .i64 0, .slice none 0 0, .slice none 0 0] := Tb.new _ _ _ hg3
    have hUz : Upd [] w3 (w3.alloc (.cells #[.int .u8 0, .bool false, .slice none 0 0, .string ⟨#[]⟩, .int .i64 0, .slice none 0 0, .slice none 0 0] 26)) := (Upd.refl [] w3).alloc _
    have HKx : Hid (KIn (fun g => w2.heap.size ≤ g) w3 d [x0, x1, x2, x3, x4, x5, x6] t0) := hK3
    have HBx : Hid (BT 12 w3 d [x0, x1, x2, x3, x4, x5, x6] t0 Li Ri ∧ Apt Li Ri ∧ ∀ z, z ∈ KB Li Ri → w2.heap.size ≤ z ∧ z < w3.heap.size) := ⟨hB3, hA3, fun z hz => ⟨hL3 z hz, BT.lt _ _ _ _ _ hB3 z hz⟩⟩
    have HU3 : Hid (Upd [] w2 w3) := hU3
    have HG3 : Hid (g3 = w3.heap.size) := hg3
    clear hK3 hB3 hA3 hL3 hU3 hx7
    go_wp2_with (first | (refine store_T _ rfl _ _ rfl g3 #[x0, x1, x2, x3, x4, x5, x6] _ (by rw [hg3]; rfl) rfl tz3 rfl rfl honex ?_; intro w4 hT4 hU4) | fail)
    rw [← hg3]
    clear hg3
    have h34 : Upd [g3] w3 w4 := (hUz.wide (by simp)).trans hU4
    have U4 : Hid (Upd [] W w4) := (U2.out.trans HU3.out).then h34 (fun x hx => Or.inl (by simp at hx; subst hx; have h1 := U2.out.size; have h2 := HU3.out.size; have h3 := HG3.out; omega))
    have ta4 := (ta2.mono HU3.out (by simp)).mono h34 (by simp; have h1 := ta2.lt; have h2 := HU3.out.size; have h3 := HG3.out; omega)
    have HK4 : Hid (KIn (fun g => w2.heap.size ≤ g ∧ g < w3.heap.size) w4 d [x0, x1, x2, x3, x4, x5, x6] t0) := KIn.keep h34 (fun x hx => by simp; have h3 := HG3.out; omega) (fun x hx => hx) _ _ _ (KIn.within _ _ _ HKx.out)
    have HB4 : Hid (BT 12 w4 d [x0, x1, x2, x3, x4, x5, x6] t0 Li Ri) := BT.upd h34 _ _ _ _ _ (fun x hx hm => by have := (HBx.out.2.2 x hx).2; have h3 := HG3.out; simp at hm; omega) HBx.out.1
    clear tz3 hUz hU4 ta2 h34
    have hne : Nonempty (Ext w4) := ⟨⟨w4, Upd.refl [] w4⟩⟩
    have ccx0 : ∀ n : Ext w4, n.W.cell? ⟨g3, 0, none⟩ = some (x0) := fun n => n.cell (hT4.cell 0)
    have ccx1 : ∀ n : Ext w4, n.W.cell? ⟨g3, 1, none⟩ = some (x1) := fun n => n.cell (hT4.cell 1)
    have ccx2 : ∀ n : Ext w4, n.W.cell? ⟨g3, 2, none⟩ = some (x2) := fun n => n.cell (hT4.cell 2)
    have ccx3 : ∀ n : Ext w4, n.W.cell? ⟨g3, 3, none⟩ = some (x3) := fun n => n.cell (hT4.cell 3)
    have ccx4 : ∀ n : Ext w4, n.W.cell? ⟨g3, 4, none⟩ = some (x4) := fun n => n.cell (hT4.cell 4)
    have ccx5 : ∀ n : Ext w4, n.W.cell? ⟨g3, 5, none⟩ = some (x5) := fun n => n.cell (hT4.cell 5)
    have ccx6 : ∀ n : Ext w4, n.W.cell? ⟨g3, 6, none⟩ = some (x6) := fun n => n.cell (hT4.cell 6)
    have KX : Hid (∀ n : Ext w4, In n.W d [x0, x1, x2, x3, x4, x5, x6] t0) := fun n => KIn.plain _ _ _ (KIn.keep n.h (fun x _ => by simp) (fun x hx => hx) _ _ _ HK4.out)
    have H1 : Hid (∀ n : Ext w4, Calls Tryz.prog 9 #[.agg #[x0, x1, x2, x3, x4, x5, x6]] n.W fun e w' => e = .returned (.bool ok) ∧ Upd [] n.W w') := fun n => by rw [← HOK.out]; exact TRight_in d n.W _ t0 (KX.out n) HZ0.out
    have H2 : Hid (∀ n : Ext w4, Calls Tryz.prog 10 #[.agg #[x0, x1, x2, x3, x4, x5, x6]] n.W fun e w' => e = .returned (.int .i64 (sz : Nat)) ∧ Upd [] n.W w') := fun n => by rw [← HSZ.out]; exact Size_in d n.W _ t0 (KX.out n) HZ0.out
    have H3 : Hid (∀ n : Ext w4, Calls Tryz.prog 11 #[.agg #[x0, x1, x2, x3, x4, x5, x6]] n.W fun e w' => e = .returned (.string tx) ∧ Upd [] n.W w') := fun n => by rw [← HTX.out]; exact TText_any d n.W _ t0 (KX.out n) HZ0.out (HG.out.mono (U4.out.trans n.h))
    go_wp2_with fail
    simp only [Act.put]
    refine wp_region_ext (by kernel_rfl) (by kernel_rfl) ?_
    repeat (go_big_quiet_step (first | (go_at_call 9; exact Ext.call (H1.out _)) | (go_at_call 10; exact Ext.call (H2.out _)) | (go_at_call 11; exact Ext.call (H3.out _))))
    refine wpQuiet_nil ?_
    intro _ hw'
    obtain ⟨nx, hw''⟩ := hw'
    subst hw''
    obtain ⟨w5, hw5⟩ : ∃ w5, w5 = nx.W := ⟨_, rfl⟩
    have h45 : Upd [] w4 w5 := by rw [hw5]; exact nx.h
    rw [← hw5]
    clear hw5 ccx0 ccx1 ccx2 ccx3 ccx4 ccx5 ccx6 KX H1 H2 H3 nx hne
    have U5 : Hid (Upd [] W w5) := U4.out.trans h45
    have ta5 := ta4.mono h45 (by simp)
    have tx5 := hT4.mono h45 (by simp)
    have HK5 : Hid (KIn (fun g => w2.heap.size ≤ g ∧ g < w3.heap.size) w5 d [x0, x1, x2, x3, x4, x5, x6] t0) := KIn.keep h45 (fun x _ => by simp) (fun x hx => hx) _ _ _ HK4.out
    have HB5 : Hid (BT 12 w5 d [x0, x1, x2, x3, x4, x5, x6] t0 Li Ri) := BT.upd h45 _ _ _ _ _ (fun x _ => by simp) HB4.out
    have HW5 : Hid (w3.heap.size ≤ w5.heap.size ∧ g3 < w5.heap.size) := ⟨by have := tx5.lt; have := HG3.out; omega, tx5.lt⟩
    have hin5 := KIn.plain _ _ _ HK5.out
    have HBel : Hid (belT t0 ≤ 6000) := by have := bel_cnt t0; have h2 := HC0.out; show _ ≤ _; omega
    clear h45 ta4 hT4 HK4 HB4 U4
    go_wp2_with fail
    refine two_regionS (by kernel_rfl) (by decide) rfl g3 g3 #[x0, x1, x2, x3, x4, x5, x6] #[x0, x1, x2, x3, x4, x5, x6] rfl rfl tx5 tx5 rfl rfl Tryz.call12 Tryz.call12 (CopR w5.heap.size d t0) (CopR w5.heap.size d t0) CopR.stay CopR.stay (CopR.call hin5 HZ0.out (by have := HBel.out; omega)) (CopR.call hin5 HZ0.out (by have := HBel.out; omega)) ?_
    rintro g h Xa Ya PX PY w6 hgh hg hh hX7 hY7 tg6 th6 ⟨csy, Ly, Ry, rfl, iy, by', ay, py⟩ ⟨csz, Lz, Rz, rfl, iz, bz', az, pz⟩ h56 hdis
    simp only [Act.put, List.setIfInBounds_toArray, List.set_cons_succ, List.set_cons_zero]
    obtain ⟨y0, y1, y2, y3, y4, y5, y6, rfl⟩ := list7 (cs := csy) (by simpa using hX7)
    obtain ⟨z0, z1, z2, z3, z4, z5, z6, rfl⟩ := list7 (cs := csz) (by simpa using hY7)
    have ta6 := ta5.mono h56 (by simp)
    have tx6 := tx5.mono h56 (by simp)
    have U6 : Hid (Upd [] W w6) := U5.out.trans h56
    have HK6 : Hid (KIn (fun g => w2.heap.size ≤ g ∧ g < w3.heap.size) w6 d [x0, x1, x2, x3, x4, x5, x6] t0) := KIn.keep h56 (fun x _ => by simp) (fun x hx => hx) _ _ _ HK5.out
    have HB6 : Hid (BT 12 w6 d [x0, x1, x2, x3, x4, x5, x6] t0 Li Ri) := BT.upd h56 _ _ _ _ _ (fun x _ => by simp) HB5.out
    have HY : Hid (InB (fun b => b ∈ KB Ly Ry) w6 d [y0, y1, y2, y3, y4, y5, y6] t0 ∧ BT 0 w6 d [y0, y1, y2, y3, y4, y5, y6] t0 Ly Ry) := ⟨iy, by'⟩
    have HZ : Hid (InB (fun b => b ∈ KB Lz Rz) w6 d [z0, z1, z2, z3, z4, z5, z6] t0 ∧ BT 0 w6 d [z0, z1, z2, z3, z4, z5, z6] t0 Lz Rz) := ⟨iz, bz'⟩
    have HAY : Hid (Apt Ly Ry ∧ Apt Lz Rz ∧ (∀ z, z ∈ KB Ly Ry → w5.heap.size ≤ z ∧ z < w6.heap.size) ∧ (∀ z, z ∈ KB Lz Rz → w5.heap.size ≤ z ∧ z < w6.heap.size) ∧ ∀ z, z ∈ KB Ly Ry → z ∉ KB Lz Rz) := ⟨ay, az, fun z hz => ⟨(py z hz).2, BT.lt _ _ _ _ _ by' z hz⟩, fun z hz => ⟨(pz z hz).2, BT.lt _ _ _ _ _ bz' z hz⟩, fun z hz hz2 => hdis z (py z hz).1 (pz z hz2).1⟩
    have HGH : Hid (w5.heap.size ≤ g ∧ w5.heap.size ≤ h ∧ w5.heap.size ≤ w6.heap.size) := ⟨hg, hh, h56.size⟩
    clear h56 ta5 tx5 U5 HK5 HB5 iy by' ay py iz bz' az pz hdis hgh hg hh hX7 hY7 hin5
    go_wp2_with (first | (refine load_T _ rfl _ rfl _ _ rfl tx6 rfl ?_) | (refine load_T _ rfl _ rfl _ _ rfl ta6 rfl ?_) | fail)
    refine Calls.mono (KeptTerm_in d w6 [x0, x1, x2, x3, x4, x5, x6] [q0, q1, .slice a0 n0 c0, q3, q4, q5, q6] t0 _ HK6.out (In.mono U6.out _ _ _ HI0.out) HZ0.out) ?_
    rintro e w7 ⟨rfl, h67⟩
    have tx7 := tx6.mono h67 (by simp)
    have ta7 := ta6.mono h67 (by simp)
    have tg7 := tg6.mono h67 (by simp)
    have th7 := th6.mono h67 (by simp)
    have HS7 : Hid (Upd [] w6 w7) := h67
    clear h67 ta6 tx6 tg6 th6
    go_wp2_with (first | (refine load_T _ rfl _ rfl _ _ rfl tx7 rfl ?_) | fail)
    refine Calls.mono (OverTerm_in d w7 [x0, x1, x2, x3, x4, x5, x6] t0 Li Ri (BT.upd HS7.out _ _ _ _ _ (fun x _ => by simp) HB6.out) HBx.out.2.1) ?_
    rintro e w8 ⟨rfl, h78⟩
    have HN : Hid (∀ z, w5.heap.size ≤ z → z ∉ KB Li Ri) := fun z hz hm => by have := (HBx.out.2.2 z hm).2; have := HW5.out.1; omega
    have U8 : Hid (Upd [] W w8) := (U6.out.trans HS7.out).then h78 (fun x hx => Or.inl (by have h1 := (HBx.out.2.2 x hx).1; have h2 := U2.out.size; omega))
    have ta8 := ta7.mono h78 (fun hm => by have h1 := (HBx.out.2.2 _ hm).1; have h2 := HWl.out; omega)
    have tg8 := tg7.mono h78 (HN.out g HGH.out.1)
    have th8 := th7.mono h78 (HN.out h HGH.out.2.1)
    have h68 : Upd (KB Li Ri) w6 w8 := (HS7.out.wide (by simp)).trans h78
    have HY8 : Hid (InB (fun b => b ∈ KB Ly Ry) w8 d [y0, y1, y2, y3, y4, y5, y6] t0 ∧ BT 0 w8 d [y0, y1, y2, y3, y4, y5, y6] t0 Ly Ry) := ⟨InB.upd h68 (fun b hb => HN.out b (HAY.out.2.2.1 b hb).1) (fun b hb _ => hb) _ _ _ HY.out.1, BT.upd h68 _ _ _ _ _ (fun b hb => HN.out b (HAY.out.2.2.1 b hb).1) HY.out.2⟩
    have HZ8 : Hid (BT 0 w8 d [z0, z1, z2, z3, z4, z5, z6] t0 Lz Rz) := BT.upd h68 _ _ _ _ _ (fun b hb => HN.out b (HAY.out.2.2.2.1 b hb).1) HZ.out.2
    have HS8 : Hid (w6.heap.size ≤ w8.heap.size) := h68.size
    clear h78 h68 ta7 tg7 th7 tx7 HY HZ HK6 HB6
    go_wp2_with (first | (refine load_T _ rfl _ rfl _ _ rfl ta8 rfl ?_) | fail)
    refine Calls.mono (right2_in d w8 [q0, q1, .slice a0 n0 c0, q3, q4, q5, q6] t0 (In.mono U8.out _ _ _ HI0.out) HZ0.out HC0.out) ?_
    rintro e w9 ⟨rfl, h9⟩
    rw [HOK.out]
    have ta9 := ta8.mono h9 (by simp)
    have HV9 : Hid (Upd [] w8 w9) := h9
    clear h9
    go_wp2_with (first | (refine load_G _ _ rfl _ _ rfl ta9 rfl rfl ?_) | fail)
    refine Calls.mono (size3_in d w9 [q0, q1, .slice a0 n0 c0, q3, q4, q5, q6] t0 (In.mono (U8.out.trans HV9.out) _ _ _ HI0.out) HZ0.out HC0.out) ?_
    rintro e w10 ⟨rfl, h10⟩
    rw [HSZ.out]
    have ta10 := ta9.mono h10 (by simp)
    have HV10 : Hid (Upd [] w8 w10) := HV9.out.trans h10
    clear h10
    go_wp2_with (first | (refine load_G _ _ rfl _ _ rfl ta10 rfl rfl ?_) | fail)
    refine Calls.mono (text3_in d w10 [q0, q1, .slice a0 n0 c0, q3, q4, q5, q6] t0 (In.mono (U8.out.trans HV10.out) _ _ _ HI0.out) HZ0.out HC0.out) ?_
    rintro e w11 ⟨rfl, h11⟩
    rw [HTX.out]
    have ta11 := ta10.mono h11 (by simp)
    have HV11 : Hid (Upd [] w8 w11) := HV10.out.trans h11
    have tg11 := tg8.mono HV11.out (by simp)
    clear h11
    go_wp2_with (first | (refine load_G _ _ rfl _ _ rfl tg11 rfl rfl ?_) | (refine load_G _ _ rfl _ _ rfl ta11 rfl rfl ?_) | fail)
    have hsm := SamG_all d w11 [y0, y1, y2, y3, y4, y5, y6] [q0, q1, .slice a0 n0 c0, q3, q4, q5, q6] t0 t0 (In.mono HV11.out _ _ _ (InB.plain _ _ _ HY8.out.1)) (In.mono (U8.out.trans HV11.out) _ _ _ HI0.out) HZ0.out HZ0.out
    rw [(samT_eq t0 t0).2 rfl] at hsm
    refine Calls.mono hsm ?_
    rintro e w12 ⟨rfl, h12⟩
    clear hsm
    have HV12 : Hid (Upd [] w8 w12) := HV11.out.trans h12
    have tg12 := tg8.mono HV12.out (by simp)
    have th12 := (th8.mono HV12.out (by simp)).old (.cells #[y0, y1, y2, y3, y4, y5, y6] 26)
    have TA1 : Hid (Tb (((w12.alloc (.cells #[y0, y1, y2, y3, y4, y5, y6] 26)).alloc (.cells #[z0, z1, z2, z3, z4, z5, z6] 26)).alloc (.cells #[.slice (some ⟨w12.heap.size, 0, none⟩) 1 1, .slice (some ⟨w12.heap.size + 1, 0, none⟩) 1 1] 24)) w12.heap.size #[y0, y1, y2, y3, y4, y5, y6]) := ((Tb.new _ _ _ rfl).old _).old _
    have TA2 : Hid (Tb (((w12.alloc (.cells #[y0, y1, y2, y3, y4, y5, y6] 26)).alloc (.cells #[z0, z1, z2, z3, z4, z5, z6] 26)).alloc (.cells #[.slice (some ⟨w12.heap.size, 0, none⟩) 1 1, .slice (some ⟨w12.heap.size + 1, 0, none⟩) 1 1] 24)) (w12.heap.size + 1) #[z0, z1, z2, z3, z4, z5, z6]) := (Tb.new _ _ _ (by simp)).old _
    have TA3 : Hid (Bk (((w12.alloc (.cells #[y0, y1, y2, y3, y4, y5, y6] 26)).alloc (.cells #[z0, z1, z2, z3, z4, z5, z6] 26)).alloc (.cells #[.slice (some ⟨w12.heap.size, 0, none⟩) 1 1, .slice (some ⟨w12.heap.size + 1, 0, none⟩) 1 1] 24)) (w12.heap.size + 1 + 1) #[.slice (some ⟨w12.heap.size, 0, none⟩) 1 1, .slice (some ⟨w12.heap.size + 1, 0, none⟩) 1 1] 24) := by
      have := Bk.new ((w12.alloc (.cells #[y0, y1, y2, y3, y4, y5, y6] 26)).alloc (.cells #[z0, z1, z2, z3, z4, z5, z6] 26)) #[.slice (some ⟨w12.heap.size, 0, none⟩) 1 1, .slice (some ⟨w12.heap.size + 1, 0, none⟩) 1 1] 24
      show Bk _ _ _ _
      simpa using this
    clear h12
    go_wp2_with (first | (refine load_G _ _ rfl _ _ rfl tg12 rfl rfl ?_) | (refine load_G _ _ rfl _ _ rfl th12 rfl rfl ?_) | fail)
    have hUa : Upd [] w8 (((w12.alloc (.cells #[y0, y1, y2, y3, y4, y5, y6] 26)).alloc (.cells #[z0, z1, z2, z3, z4, z5, z6] 26)).alloc (.cells #[.slice (some ⟨w12.heap.size, 0, none⟩) 1 1, .slice (some ⟨w12.heap.size + 1, 0, none⟩) 1 1] 24)) := ((HV12.out.alloc _).alloc _).alloc _
    have hs12 := HV12.out.size
    have hs8 := HS8.out
    have hsW := U6.out.size
    have hW5 : W.heap.size ≤ w5.heap.size := by have h1 := HWl.out; have h2 := HU3.out.size; have h3 := HW5.out.1; omega
    refine Calls.mono (apart_two (W := W) (cx := [y0, y1, y2, y3, y4, y5, y6]) (cy := [z0, z1, z2, z3, z4, z5, z6]) TA1.out TA2.out (TA3.out.cell 0) (TA3.out.cell 1) TA3.out.lt rfl rfl (BT.upd hUa _ _ _ _ _ (fun x _ => by simp) HY8.out.2) (BT.upd hUa _ _ _ _ _ (fun x _ => by simp) HZ8.out) HAY.out.1 HAY.out.2.1 (fun z hz => by have := HAY.out.2.2.1 z hz; omega) (fun z hz => by have := HAY.out.2.2.2.1 z hz; omega) HAY.out.2.2.2.2 HZ0.out HBel.out (by omega) (U8.out.trans hUa)) ?_
    rintro e w13 ⟨rfl, h13⟩
    have HU13 : Hid (Upd [] W w13) := h13
    clear h13 hUa hs12 hs8 hsW hW5
    go_wp2_with fail
    refine Calls.mono (awake_any _ (HG.out.mono HU13.out)) ?_
    rintro e w14 ⟨rfl, h14⟩
    go_wp2
    go_ret
    exact ⟨rfl, HU13.out.trans h14⟩

end Go.Proofs.YtabknipgbmdipaaGreatDoor

/- A term that came in, opened to its depth. -/
namespace Go.Proofs.YtabknipgbmdipaaGreatDoor
open Go.ChangeShapes Go.WideShapes Go.ChangeAt Go.RowKit Go.Joins

theorem exists_list {P : Nat → Tm → Prop} : ∀ n, (∀ i, i < n → ∃ t, P i t) → ∃ I : List Tm, I.length = n ∧ ∀ i (hi : i < I.length), P i I[i] := by
  intro n
  induction n with
  | zero => intro _; exact ⟨[], rfl, fun i hi => by simp at hi⟩
  | succ n ih =>
    intro h
    obtain ⟨I, h1, h2⟩ := ih (fun i hi => h i (by omega))
    obtain ⟨t, ht⟩ := h n (by omega)
    refine ⟨I ++ [t], by simp [h1], fun i hi => ?_⟩
    by_cases hin : i < I.length
    · rw [List.getElem_append_left hin]; exact h2 i hin
    · have e : i = n := by simp at hi; omega
      subst e
      rw [List.getElem_append_right (by omega)]
      simp [h1]
      exact ht
theorem weights_all {H : Type} {P : Program} {e : TypeId} {l : List (DataW H)} {i : Nat} (hi : i < l.length) : ∀ n ∈ DataW.weights P e l[i], n ∈ DataW.weightsAll P e l := by
  induction l generalizing i with
  | nil => simp at hi
  | cons x r ih =>
    intro n hn
    simp only [DataW.weightsAll, List.mem_append]
    cases i with
    | zero => exact Or.inl hn
    | succ i => exact Or.inr (ih (by simpa using hi) n hn)
theorem bytes_u32 : Tryz.prog.bytesOf 47 = 4 := by kernel_rfl
theorem bytes_term : Tryz.prog.bytesOf 26 = 104 := by kernel_rfl

/-- The limbs that came in. -/
theorem limbs_open {H : Type} {enc : TypeId × Value → H} {W : World} {n : Nat} {v : Value} {y : DataW H × List MemPlace} (h : DataW.trod enc Tryz.prog W 0 (fun _ => true) true n 23 [v] = some y) (hw : ∀ n ∈ DataW.weights Tryz.prog 23 y.1, n ≤ reachBytes) :
    ∃ (a : Option Addr) (L : List Nat) (c : Nat), v = .slice a L.length c ∧ At W a L ∧ Dig L ∧ L.length / 26 ≤ 1353245080330 := by
  have hb : ∀ a len cap, v = .slice (some a) len cap → len ≤ 35184372087808 := by
    intro a len cap hv
    rcases DataW.trod_slice Tryz.underlying23 h with ⟨hcs, _⟩ | ⟨a', len', cap', elems, rest, m, _, hcs, rfl, _, _, _, he, _⟩
    · rw [hv] at hcs; simp at hcs
    · rw [hv] at hcs
      simp only [List.cons.injEq, Value.slice.injEq, and_true] at hcs
      have := hw ((elems.length + rest.length) * 4) (by simp [DataW.weights, Tryz.underlying23, bytes_u32])
      unfold reachBytes at this
      omega
  rcases open_ints Tryz.underlying23 Tryz.underlying47 cells_u32 h with ⟨hcs, _⟩ | ⟨a, len, cap, zs, hcs, _, hl, hm, hz, hx2, hcell, hwz⟩
  · simp only [List.cons.injEq, and_true] at hcs
    subst hcs
    exact ⟨none, [], 0, rfl, At.nil _ _, Dig.nil, by simp⟩
  · simp only [List.cons.injEq, and_true] at hcs
    have hbl := hb a len cap hcs
    subst hcs
    simp only [if_true] at hz
    have hwf : ∀ z ∈ zs, 0 ≤ z ∧ z < 4294967296 := fun z hz => by
      have := bounds_u32 (hwz z hz); omega
    have hlen2 : ((zs.take len).map Int.toNat).length = len := by simp; omega
    refine ⟨some a, (zs.take len).map Int.toNat, cap, by rw [hlen2], ?_, ?_, by rw [hlen2]; omega⟩
    · by_cases h0 : len = 0
      · exact Or.inl (by subst h0; simp)
      · obtain ⟨b, off, spot⟩ := a
        have hspot : spot = none := by simpa [Addr.add] using World.cell?_spot (hcell 0 (by omega))
        subst hspot
        refine Or.inr ⟨b, off, rfl, ?_, fun i hi => ?_⟩
        · have := World.block_lt_of_cell? _ _ (hcell 0 (by omega))
          simpa [Addr.add] using this
        · rw [hlen2] at hi
          have h1 := hcell i (by omega)
          rw [Addr.add_lit] at h1
          rw [h1]
          have h2 : i < zs.length := by omega
          have h3 := hwf zs[i] (List.getElem_mem h2)
          simp [List.getD, hi, h2]
          omega
    · intro z hz2
      obtain ⟨y, hy, rfl⟩ := List.mem_map.1 hz2
      have := hwf y (List.mem_of_mem_take hy)
      omega

end Go.Proofs.YtabknipgbmdipaaGreatDoor

/- A term that came in, to its depth: its texts too. -/
namespace Go.Proofs.YtabknipgbmdipaaGreatDoor
open Go.ChangeShapes Go.WideShapes Go.ChangeAt Go.RowKit Go.Joins

/-- A row of terms that came in, if each of them is opened. -/
theorem row_openX {H : Type} {enc : TypeId × Value → H} {W : World} {n : Nat} {v : Value} {y : DataW H × List MemPlace}
    (ih : ∀ m, m < n → ∀ cs x, DataW.trod enc Tryz.prog W 0 (fun _ => true) true m 26 cs = some x → (∀ n ∈ DataW.weights Tryz.prog 26 x.1, n ≤ reachBytes) → ∃ t, In W m cs t ∧ tsz t ≤ 1353245080330 ∧ xsz t ≤ 140737488355328)
    (h : DataW.trod enc Tryz.prog W 0 (fun _ => true) true n 24 [v] = some y) (hw : ∀ n ∈ DataW.weights Tryz.prog 24 y.1, n ≤ reachBytes) :
    ∃ (a : Option Addr) (I : List Tm) (c : Nat), v = .slice a I.length c ∧ RowAt (In W n) W a I ∧ tszs I ≤ 1353245080330 ∧ xszs I ≤ 140737488355328 := by
  rcases DataW.trod_slice Tryz.underlying24 h with ⟨hcs, _⟩ | ⟨a, len, cap, elems, rest, m, hm, hcs, rfl, hb, hl, hmx, hlen, hel, _, _⟩
  · simp only [List.cons.injEq, and_true] at hcs
    subst hcs
    exact ⟨none, [], 0, rfl, Or.inl rfl, by simp [tszs], by simp [xszs]⟩
  · simp only [List.cons.injEq, and_true] at hcs
    subst hcs
    rw [cells_term] at hel
    have hw0 := hw ((elems.length + rest.length) * 104) (by simp [DataW.weights, Tryz.underlying24, bytes_term])
    unfold reachBytes at hw0
    have hex : ∀ i, i < len → ∃ t, ∃ cs : List Value, cs.length = 7 ∧ (∀ j, j < 7 → W.cell? ((a.add (i * 7)).add j) = cs[j]?) ∧ In W m cs t ∧ tsz t ≤ 1353245080330 ∧ xsz t ≤ 140737488355328 := by
      intro i hi
      have h1 := hel i hi
      have hie : i < elems.length := by omega
      rw [List.getElem?_eq_getElem hie] at h1
      obtain ⟨cs, h2, h3⟩ := Option.bind_eq_some_iff.1 h1
      obtain ⟨_, h4, h5⟩ := World.cells?_some h2
      have hwi : ∀ n ∈ DataW.weights Tryz.prog 26 ((elems.map (·.1))[i]'(by simpa using hie)), n ≤ reachBytes := fun n hn => hw n (by
        have := weights_all (P := Tryz.prog) (e := 26) (l := elems.map (·.1)) (i := i) (by simpa using hie) n hn
        simp [DataW.weights, Tryz.underlying24, this])
      rw [List.getElem_map] at hwi
      obtain ⟨t, h6, h7⟩ := ih m (by omega) cs _ h3 hwi
      exact ⟨t, cs, h4, h5, h6, h7⟩
    obtain ⟨I, hI, hP⟩ := exists_list len hex
    refine ⟨some a, I, cap, by rw [hI], ?_, ?_, ?_⟩
    · by_cases h0 : len = 0
      · exact Or.inl (List.eq_nil_of_length_eq_zero (by omega))
      · obtain ⟨cs0, hc1, hc2, hc3, _⟩ := hP 0 (by omega)
        obtain ⟨b, off, spot⟩ := a
        have hsome : ∃ u, W.cell? (((⟨b, off, spot⟩ : Addr).add (0 * 7)).add 0) = some u := by
          rw [hc2 0 (by omega)]
          exact ⟨cs0[0], List.getElem?_eq_getElem (by omega)⟩
        obtain ⟨u, hu⟩ := hsome
        have hspot : spot = none := by simpa [Addr.add] using World.cell?_spot hu
        subst hspot
        have hlt := World.block_lt_of_cell? _ _ hu
        refine Or.inr ⟨b, off, rfl, by simpa [Addr.add] using hlt, fun i hi => ?_⟩
        obtain ⟨cs, h1, h2, h3, _⟩ := hP i hi
        refine ⟨cs, h1, fun j hj => ?_, ?_⟩
        · have := h2 j hj
          rw [Addr.add_lit, Addr.add_lit] at this
          rw [← this, Nat.add_assoc]
        · rw [hm]; exact In.more m cs _ h3
    · refine tszs_le _ I (by omega) (fun i hi => ?_)
      obtain ⟨cs, _, _, _, h4, _⟩ := hP i hi
      exact h4
    · refine xszs_le _ I (fun i hi => ?_)
      obtain ⟨cs, _, _, _, _, h4⟩ := hP i hi
      exact h4

set_option maxRecDepth 100000 in
/-- A term that came in, to its depth. -/
theorem in_openX {H : Type} {enc : TypeId × Value → H} {W : World} : ∀ (fuel : Nat) (cs : List Value) (x : DataW H × List MemPlace), DataW.trod enc Tryz.prog W 0 (fun _ => true) true fuel 26 cs = some x → (∀ n ∈ DataW.weights Tryz.prog 26 x.1, n ≤ reachBytes) → ∃ t, In W fuel cs t ∧ tsz t ≤ 1353245080330 ∧ xsz t ≤ 140737488355328 := by
  intro fuel
  induction fuel using Nat.strongRecOn with
  | ind fuel ih =>
    intro cs x h hw
    obtain ⟨xs, n, hn, hx, hcl, hlen, hfs⟩ := DataW.trod_struct Tryz.underlying26 h
    obtain ⟨c0, c1, c2, c3, c4, c5, c6, hcs⟩ := array7 (cs := cs.toArray) (by simpa using hcl.trans cells_term)
    have hcs2 : cs = [c0, c1, c2, c3, c4, c5, c6] := by have := congrArg Array.toList hcs; simpa using this
    subst hcs2
    have f0 : DataW.trod enc Tryz.prog W 0 (fun _ => true) true n 22 (List.take (Tryz.prog.cellsOf 22) (List.drop 0 [c0, c1, c2, c3, c4, c5, c6])) = xs[0]? := hfs 0 _ rfl
    have f1 : DataW.trod enc Tryz.prog W 0 (fun _ => true) true n 4 (List.take (Tryz.prog.cellsOf 4) (List.drop 1 [c0, c1, c2, c3, c4, c5, c6])) = xs[1]? := hfs 1 _ rfl
    have f2 : DataW.trod enc Tryz.prog W 0 (fun _ => true) true n 23 (List.take (Tryz.prog.cellsOf 23) (List.drop 2 [c0, c1, c2, c3, c4, c5, c6])) = xs[2]? := hfs 2 _ rfl
    have f3 : DataW.trod enc Tryz.prog W 0 (fun _ => true) true n 9 (List.take (Tryz.prog.cellsOf 9) (List.drop 3 [c0, c1, c2, c3, c4, c5, c6])) = xs[3]? := hfs 3 _ rfl
    have f4 : DataW.trod enc Tryz.prog W 0 (fun _ => true) true n 3 (List.take (Tryz.prog.cellsOf 3) (List.drop 4 [c0, c1, c2, c3, c4, c5, c6])) = xs[4]? := hfs 4 _ rfl
    have f5 : DataW.trod enc Tryz.prog W 0 (fun _ => true) true n 24 (List.take (Tryz.prog.cellsOf 24) (List.drop 5 [c0, c1, c2, c3, c4, c5, c6])) = xs[5]? := hfs 5 _ rfl
    have f6 : DataW.trod enc Tryz.prog W 0 (fun _ => true) true n 24 (List.take (Tryz.prog.cellsOf 24) (List.drop 6 [c0, c1, c2, c3, c4, c5, c6])) = xs[6]? := hfs 6 _ rfl
    have hl7 : xs.length = 7 := hlen
    simp only [cells_kind, cells_bool, cells_u32s, cells_str, cells_int, cells_terms, List.drop_succ_cons, List.drop_zero, List.take_succ_cons, List.take_zero] at f0 f1 f2 f3 f4 f5 f6
    match xs, hl7 with
    | [x0, x1, x2, x3, x4, x5, x6], _ =>
      simp only [List.getElem?_cons_zero, List.getElem?_cons_succ] at f0 f1 f2 f3 f4 f5 f6
      have hw2 : ∀ (j : Nat) (t : TypeId) (d : DataW H), [22, 4, 23, 9, 3, 24, 24][j]? = some t → ([x0, x1, x2, x3, x4, x5, x6].map (·.1))[j]? = some d → ∀ n ∈ DataW.weights Tryz.prog t d, n ≤ reachBytes := fun j t d ht hd n hn => hw n (by
        rw [hx]
        have := DataW.weights_mem_each (P := Tryz.prog) ht hd n hn
        simpa [DataW.weights, Tryz.underlying26] using this)
      obtain ⟨k, e0, _, _⟩ := DataW.trod_int Tryz.underlying22 f0
      obtain ⟨neg, e1, _⟩ := DataW.trod_bool Tryz.underlying4 f1
      obtain ⟨s, e3, e3', _⟩ := DataW.trod_string Tryz.underlying9 f3
      have hss : s.size ≤ 140737488355328 := by
        have := hw2 3 _ _ rfl rfl s.size (by rw [e3']; simp [DataW.weights])
        unfold reachBytes at this
        omega
      obtain ⟨num, e4, _, _⟩ := DataW.trod_int Tryz.underlying3 f4
      obtain ⟨a, L, c, e2, hA, hD, hL⟩ := limbs_open f2 (hw2 2 _ _ rfl rfl)
      obtain ⟨ai, I, ci, e5, hI, hIs, hIx⟩ := row_openX (fun m hm cs x hx => ih m (by omega) cs x hx) f5 (hw2 5 _ _ rfl rfl)
      obtain ⟨at', T, ct, e6, hT, hTs, hTx⟩ := row_openX (fun m hm cs x hx => ih m (by omega) cs x hx) f6 (hw2 6 _ _ rfl rfl)
      simp only [List.cons.injEq, and_true] at e0 e1 e3 e4
      subst e0 e1 e2 e3 e4 e5 e6 hn
      refine ⟨.mk k num neg L s I T, ⟨a, ai, at', c, ci, ct, rfl, hA, hD, hI, hT⟩, ?_, ?_⟩
      · simp only [tsz]
        omega
      · simp only [xsz]
        omega

end Go.Proofs.YtabknipgbmdipaaGreatDoor
