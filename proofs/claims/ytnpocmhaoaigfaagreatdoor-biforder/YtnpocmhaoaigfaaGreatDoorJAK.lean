/- Copy of package term: its answer's rows lie apart. -/
import Derived.Test.YtnpocmhaoaigfaaGreatDoorCopT
import Derived.Test.YtnpocmhaoaigfaaGreatDoorBtF
import Derived.Test.YtnpocmhaoaigfaaGreatDoorJAI

namespace Go.Proofs.YtnpocmhaoaigfaaGreatDoor
open Go.RowKit

/-- A term is answered, that stands for this tree, its rows apart. -/
def TermS (B : Nat) (w : World) (d : Nat) (t : Tm) (e : Ending) (w' : World) : Prop := ∃ cs : List Value, cs.length = 7 ∧ e = .returned (.agg cs.toArray) ∧ InB (fun b => b < B ∨ w.heap.size ≤ b) w' d cs t ∧ Upd [] w w' ∧ ∃ LB RB, BT 0 w' d cs t LB RB ∧ Apt LB RB ∧ ∀ x, x ∈ KB LB RB → w.heap.size ≤ x

/-- fresh of one row. -/
theorem fresh_oneS (B b o c c' d : Nat) (Q : Nat → Prop) (a : Option Addr) (I : List Tm) (w : World) (hb : b < w.heap.size) (hB : B ≤ w.heap.size) (hc : w.cell? ⟨b, o, none⟩ = some (.slice a I.length c')) (hR : RowB Q (InB (fun b => b < B) w d) w a I) (hn : I.length + belR I ≤ 65536) (hsz : tszs I ≤ 1353245080330) :
    Calls Tryz.prog 50 #[.slice (some ⟨b, o, none⟩) 1 c] w (FreshS B w d I) := by
  obtain ⟨xs, hx, hxs⟩ := hR.rd (fun cs t h => InB.one cs t h)
  refine fresh_anyS B b o 1 c d [⟨a, I.length, c', xs⟩] I w rfl ⟨hb, fun i hi => ?_, fun i hi => ?_⟩ ⟨by simp [sumN], fun i hi => ?_⟩ hB (by simp) (by omega) (by omega) hsz
  · have e : i = 0 := by simp at hi; exact hi
    subst e
    exact hc
  · have e : i = 0 := by simp at hi; exact hi
    subst e
    exact hx
  · obtain ⟨cs, k1, k2, k3⟩ := hxs i hi
    exact ⟨cs, k1, fun j hj => by simpa [catX] using k2 j hj, k3⟩

set_option maxHeartbeats 4000000 in
set_option maxRecDepth 100000 in
theorem Copy_sep (B d : Nat) (w : World) (cs : List Value) (t : Tm) (hB : B ≤ w.heap.size) (h' : InB (fun b => b < B) w d cs t) (hs : tsz t ≤ 1353245080330) (hb : belT t ≤ 60000) :
    Calls Tryz.prog 28 #[.agg cs.toArray] w (TermS B w d t) := by
  have h := InB.plain _ _ _ h'
  have hone := h.one
  have hl7 := h.len
  obtain ⟨q0, q1, q2, q3, q4, q5, q6, rfl⟩ := list7 hl7
  have HIN : Hid (InB (fun b => b < B) w d [q0, q1, q2, q3, q4, q5, q6] t) := h'
  have tb0 : Tb ((w.alloc (.cells #[q0, q1, q2, q3, q4, q5, q6] 26)).alloc (.cells #[.int .u8 0, .bool false, .slice none 0 0, .string ⟨#[]⟩, .int .i64 0, .slice none 0 0, .slice none 0 0] 26)) w.heap.size #[q0, q1, q2, q3, q4, q5, q6] := (Tb.new _ _ _ rfl).old _
  have tbz : Tb ((w.alloc (.cells #[q0, q1, q2, q3, q4, q5, q6] 26)).alloc (.cells #[.int .u8 0, .bool false, .slice none 0 0, .string ⟨#[]⟩, .int .i64 0, .slice none 0 0, .slice none 0 0] 26)) (w.heap.size + 1) #[.int .u8 0, .bool false, .slice none 0 0, .string ⟨#[]⟩, .int .i64 0, .slice none 0 0, .slice none 0 0] := Tb.new _ _ _ (by simp)
  have hU0 : Upd [] w ((w.alloc (.cells #[q0, q1, q2, q3, q4, q5, q6] 26)).alloc (.cells #[.int .u8 0, .bool false, .slice none 0 0, .string ⟨#[]⟩, .int .i64 0, .slice none 0 0, .slice none 0 0] 26)) := ((Upd.refl [] w).alloc _).alloc _
  have HS : Hid (tszs [t] ≤ 1353245080330 ∧ belR [t] ≤ 60000) := ⟨by simp only [tszs, List.length_nil]; omega, by simp only [belR]; omega⟩
  have HONE : Hid _ := hone
  clear h h' hs hb hl7
  obtain ⟨W, hW⟩ : ∃ W, W = (w.alloc (.cells #[q0, q1, q2, q3, q4, q5, q6] 26)).alloc (.cells #[.int .u8 0, .bool false, .slice none 0 0, .string ⟨#[]⟩, .int .i64 0, .slice none 0 0, .slice none 0 0] 26) := ⟨_, rfl⟩
  go_enter Tryz.func28, Tryz.ntmps28
  go_wp2_with (first | (refine load_T _ rfl _ rfl _ _ rfl tb0 rfl ?_) | fail)
  rw [← hW] at tb0 tbz hU0 ⊢
  have hsW : W.heap.size = w.heap.size + 1 + 1 := by rw [hW]; simp
  have hU1 : Upd [] W ((W.alloc (.cells #[q0, q1, q2, q3, q4, q5, q6] 26)).alloc (.cells #[.slice (some ⟨w.heap.size + 1 + 1, 0, none⟩) 1 1] 24)) := ((Upd.refl [] W).alloc _).alloc _
  have tb1 : Tb ((W.alloc (.cells #[q0, q1, q2, q3, q4, q5, q6] 26)).alloc (.cells #[.slice (some ⟨w.heap.size + 1 + 1, 0, none⟩) 1 1] 24)) (w.heap.size + 1 + 1) #[q0, q1, q2, q3, q4, q5, q6] := (Tb.new _ _ _ hsW.symm).old _
  have hf := FunB.new (W.alloc (.cells #[q0, q1, q2, q3, q4, q5, q6] 26)) (.slice (some ⟨w.heap.size + 1 + 1, 0, none⟩) 1 1) 24 (w.heap.size + 1 + 1 + 1) (by simp [hsW])
  have hU2 := hU0.trans hU1
  have HSZ : Hid (((W.alloc (.cells #[q0, q1, q2, q3, q4, q5, q6] 26)).alloc (.cells #[.slice (some ⟨w.heap.size + 1 + 1, 0, none⟩) 1 1] 24)).heap.size = w.heap.size + 4) := by show _ = _; simp [hsW]
  have hrow := Tb.row (cs := [q0, q1, q2, q3, q4, q5, q6]) tb1 rfl (InB.upd hU2 (by simp) (fun b hb _ => hb) _ _ _ HIN.out)
  refine Calls.mono (fresh_oneS B (w.heap.size + 1 + 1 + 1) 0 1 1 d _ (some ⟨w.heap.size + 1 + 1, 0, none⟩) [t] _ hf.lt (Nat.le_trans hB hU2.size) hf.cell hrow (by have := HS.out.2; simp; omega) HS.out.1) ?_
  rintro e w3 ⟨a3, c3, rfl, hR3, hU3, _, _, LB3, RB3, hBT3, hAp3, hKB3⟩
  obtain ⟨ls3, rs3, rfl, rfl, hq3, hk3⟩ := hBT3
  have HAP : Hid (Apt (ls3 0) (rs3 0)) := hAp3.row.1 0 (by simp)
  have HKB : Hid (∀ x, x ∈ KB (ls3 0) (rs3 0) → w.heap.size + 4 ≤ x) := fun x hx => by rw [← HSZ.out]; exact hKB3 x (KB_row.2 (Or.inr ⟨0, by simp, hx⟩))
  have hg3 : ∀ ad, a3 = some ad → ∃ g, ad = ⟨g, 0, none⟩ := fun ad e => by
    rcases hq3.1 with ⟨e2, _⟩ | ⟨g, cap, e2, _⟩
    · rw [e] at e2; cases e2
    · rw [e] at e2; simp only [Value.slice.injEq, Option.some.injEq] at e2; exact ⟨g, e2.1⟩
  clear hAp3 hKB3
  simp only [List.length_cons, List.length_nil, Nat.zero_add]
  rcases hR3 with h0 | ⟨b3, o3, rfl, _, hlt3, hc3⟩
  · cases h0
  obtain ⟨g3, hgo⟩ := hg3 _ rfl
  simp only [Addr.mk.injEq, and_true] at hgo
  obtain ⟨rfl, rfl⟩ := hgo
  obtain ⟨cs3, k1, k2, k3⟩ := hc3 0 (by simp)
  obtain ⟨cs3', k1', k2', k3'⟩ := hk3 0 (by simp)
  have hcc : cs3' = cs3 := by
    apply List.ext_getElem (by omega)
    intro j h1 h2
    have e1 := k2 j (by omega)
    have e2 := k2' b3 _ _ rfl j (by omega)
    rw [Nat.zero_add] at e1
    rw [e1, List.getElem?_eq_getElem h2, List.getElem?_eq_getElem h1] at e2
    exact (Option.some.inj e2).symm
  subst hcc
  have HBT3 : Hid (BT 0 w3 d cs3' t (ls3 0) (rs3 0)) := k3'
  clear k3' k2' k1' hk3 hq3 hg3
  have hone3 := (InB.plain _ _ _ k3).one
  obtain ⟨p0, p1, p2, p3, p4, p5, p6, rfl⟩ := list7 k1
  have HIN3 : Hid (InB _ w3 d [p0, p1, p2, p3, p4, p5, p6] t) := k3
  have HU3 : Hid (Upd [] w w3) := hU2.trans hU3
  have tbz3 := (tbz.mono hU1 (by simp)).mono hU3 (by simp)
  have x0 : w3.cell? ⟨b3, 0, none⟩ = some p0 := by have := k2 0 (by omega); simpa using this
  have x1 : w3.cell? ⟨b3, 1, none⟩ = some p1 := by have := k2 1 (by omega); simpa using this
  have x2 : w3.cell? ⟨b3, 2, none⟩ = some p2 := by have := k2 2 (by omega); simpa using this
  have x3 : w3.cell? ⟨b3, 3, none⟩ = some p3 := by have := k2 3 (by omega); simpa using this
  have x4 : w3.cell? ⟨b3, 4, none⟩ = some p4 := by have := k2 4 (by omega); simpa using this
  have x5 : w3.cell? ⟨b3, 5, none⟩ = some p5 := by have := k2 5 (by omega); simpa using this
  have x6 : w3.cell? ⟨b3, 6, none⟩ = some p6 := by have := k2 6 (by omega); simpa using this
  clear hc3 k2 k3 hrow hf tb1 tb0 hU1 hU2 hU3 hU0 tbz hW hsW
  go_wp2_with (refine store_T _ rfl _ _ rfl _ #[p0, p1, p2, p3, p4, p5, p6] _ rfl rfl tbz3 rfl rfl hone3 ?_; intro w4 hT4 hU4)
  have hin4 : InB (fun b => b < B ∨ w.heap.size ≤ b) w4 d [p0, p1, p2, p3, p4, p5, p6] t := by
    refine InB.upd hU4 (fun b hb hm => ?_) (fun b hb _ => ?_) _ _ _ HIN3.out
    · simp at hm
      subst hm
      rcases hb with hb | ⟨hb, _⟩
      · simp only at hb; omega
      · rw [HSZ.out] at hb; simp only at hb; omega
    · rcases hb with hb | ⟨hb, _⟩
      · exact Or.inl hb
      · rw [HSZ.out] at hb; simp only at hb; exact Or.inr (by omega)
  exact ret_T Tryz.results28 rfl _ _ rfl hT4 rfl ⟨[p0, p1, p2, p3, p4, p5, p6], rfl, rfl, hin4, HU3.out.then hU4 (by simp), ls3 0, rs3 0, BT.upd hU4 _ _ _ _ _ (fun x hx hm => by have := HKB.out x hx; simp at hm; omega) HBT3.out, HAP.out, fun x hx => by have := HKB.out x hx; omega⟩

end Go.Proofs.YtnpocmhaoaigfaaGreatDoor

/- Trees that stand, whatever is put into the boxes of terms that were there. -/
namespace Go.Proofs.YtnpocmhaoaigfaaGreatDoor
open Go.RowKit

/-- What is copied lies in its own rows. -/
theorem InB.inKB {P : Nat → Prop} {w : World} : ∀ (d : Nat) (cs : List Value) (t : Tm) (LB RB : List Value), InB P w d cs t → BT 0 w d cs t LB RB → InB (fun b => b ∈ KB LB RB) w d cs t := by
  intro d
  induction d with
  | zero => intro cs t LB RB h; exact h.elim
  | succ d ih =>
    intro cs t LB RB h hb
    cases t with
    | mk k num neg L s I T =>
      obtain ⟨a, ai, at', c, ci, ct, rfl, h1, h2, h3, h4⟩ := h
      obtain ⟨vl, vi, vt, l1, l2, r1, r2, e, b1, b2, b3, rfl, rfl⟩ := hb
      simp only [List.cons.injEq, true_and, and_true] at e
      obtain ⟨rfl, rfl, rfl⟩ := e
      have row : ∀ (Q : Nat → Prop) (a : Option Addr) (c : Nat) (J : List Tm) (l r : List Value), RowB P (InB P w d) w a J → RowBT 0 (BT 0 w d) w (.slice a J.length c) J l r → (∀ x, x ∈ KB l r → Q x) → RowB Q (InB Q w d) w a J := by
        intro Q a c J l r hR hB hQ
        rcases hR with h0 | ⟨b, o, rfl, _, hlt, hc⟩
        · exact Or.inl h0
        by_cases h0 : J = []
        · exact Or.inl h0
        have hpos : 0 < J.length := by cases J with | nil => exact absurd rfl h0 | cons x t => simp
        obtain ⟨ls, rs, rfl, rfl, ⟨hG, _⟩, hk⟩ := hB
        have ho : o = 0 := by
          rcases hG with ⟨e, _⟩ | ⟨g, cap, e, _⟩
          · cases e
          · simp only [Value.slice.injEq, Option.some.injEq, Addr.mk.injEq] at e; exact e.1.2.1
        subst ho
        refine Or.inr ⟨b, 0, rfl, hQ b (KB_row.2 (Or.inl rfl)), hlt, fun i hi => ?_⟩
        obtain ⟨cs, k1, k2, k3⟩ := hc i hi
        obtain ⟨cs', k1', k2', k3'⟩ := hk i hi
        have hcc : cs' = cs := by
          apply List.ext_getElem (by omega)
          intro j h1 h2
          have e1 := k2 j (by omega)
          have e2 := k2' b _ _ rfl j (by omega)
          rw [Nat.zero_add] at e1
          rw [e1, List.getElem?_eq_getElem h2, List.getElem?_eq_getElem h1] at e2
          exact (Option.some.inj e2).symm
        subst hcc
        exact ⟨cs', k1, k2, InB.upd (Upd.refl [] w) (fun _ _ => by simp) (fun x hx _ => hQ x (KB_row.2 (Or.inr ⟨i, hi, hx⟩))) _ _ _ (ih _ _ _ _ k3 k3')⟩
      refine ⟨a, ai, at', c, ci, ct, rfl, ?_, h2, row _ ai ci I l1 r1 h3 b2 (fun x hx => KB_two.2 (Or.inr (Or.inl hx))), row _ at' ct T l2 r2 h4 b3 (fun x hx => KB_two.2 (Or.inr (Or.inr hx)))⟩
      rcases h1 with h1 | ⟨b, o, rfl, _, hlt, hc⟩
      · exact Or.inl h1
      · exact Or.inr ⟨b, o, rfl, KB_two.2 (Or.inl rfl), hlt, hc⟩


/-- A box of a term, from that block on and ahead of that one. -/
def Bx (B n : Nat) (w : World) (x : Nat) : Prop := B ≤ x ∧ x < n ∧ ∃ (k num : Int) (neg : Bool) (s : ByteArray) (a1 a2 a3 : Option Addr) (n1 n2 n3 c1 c2 c3 : Nat), Tb w x #[.int .u8 k, .bool neg, .slice a1 n1 c1, .string s, .int .i64 num, .slice a2 n2 c2, .slice a3 n3 c3]
/-- The tree stands, whatever is put into such boxes. -/
def InU (B n : Nat) (w : World) (d : Nat) (cs : List Value) (t : Tm) : Prop := ∀ (l : List Nat) (w' : World), Upd l w w' → (∀ x ∈ l, Bx B n w x) → In w' d cs t

theorem Bx.back {B n : Nat} {w w' : World} {x : Nat} {l : List Nat} (hu : Upd l w w') (hn : x ∉ l) (hlt : x < w.heap.size) (h : Bx B n w' x) : Bx B n w x := by
  obtain ⟨h1, h2, k, num, neg, s, a1, a2, a3, n1, n2, n3, c1, c2, c3, h3⟩ := h
  refine ⟨h1, h2, k, num, neg, s, a1, a2, a3, n1, n2, n3, c1, c2, c3, ?_⟩
  have := hu.block x hlt hn
  exact this.symm.trans h3
theorem InU.plain {B n : Nat} {w : World} {d : Nat} {cs : List Value} {t : Tm} (h : InU B n w d cs t) : In w d cs t := h [] w (Upd.refl _ _) (by simp)
theorem InU.mono {B n : Nat} {w w' : World} {d : Nat} {cs : List Value} {t : Tm} (h : InU B n w d cs t) (hu : Upd [] w w') (hn : n ≤ w.heap.size) : InU B n w' d cs t := fun l w2 h2 hl =>
  h l w2 ⟨h2.os.trans hu.os, h2.tape.trans hu.tape, h2.output.trans hu.output, Nat.le_trans hu.size h2.size, fun k hk hkl => (h2.block k (Nat.lt_of_lt_of_le hk hu.size) hkl).trans (hu.block k hk (by simp))⟩ (fun x hx => Bx.back hu (by simp) (Nat.lt_of_lt_of_le (hl x hx).2.1 hn) (hl x hx))
theorem InU.step {B n m g : Nat} {w w' : World} {d : Nat} {cs : List Value} {t : Tm} (h : InU B n w d cs t) (hu : Upd [g] w w') (hg : Bx B n w g) (hm : m ≤ g) (hn : n ≤ w.heap.size) : InU B m w' d cs t := fun l w2 h2 hl => by
  have hgl : g ∉ l := fun h3 => by have := (hl g h3).2.1; omega
  refine h (g :: l) w2 ⟨h2.os.trans hu.os, h2.tape.trans hu.tape, h2.output.trans hu.output, Nat.le_trans hu.size h2.size, fun k hk hkl => (h2.block k (Nat.lt_of_lt_of_le hk hu.size) (fun h3 => hkl (by simp [h3]))).trans (hu.block k hk (fun h3 => hkl (by simp at h3; simp [h3])))⟩ (fun x hx => ?_)
  rcases List.mem_cons.1 hx with rfl | hx
  · exact hg
  · have h4 := hl x hx
    have h5 : x < g := Nat.lt_of_lt_of_le h4.2.1 hm
    have h6 := Bx.back hu (by simp; omega) (by have := hg.2.1; omega) h4
    exact ⟨h6.1, by have := hg.2.1; omega, h6.2.2⟩
theorem InU.steps {B n m : Nat} {gs : List Nat} {w w' : World} {d : Nat} {cs : List Value} {t : Tm} (h : InU B n w d cs t) (hu : Upd gs w w') (hg : ∀ g ∈ gs, Bx B n w g) (hm : ∀ g ∈ gs, m ≤ g) (hn : n ≤ w.heap.size) (hmn : m ≤ n := by omega) : InU B m w' d cs t := fun l w2 h2 hl => by
  have hgl : ∀ g ∈ gs, g ∉ l := fun g hg' h3 => by have := (hl g h3).2.1; have := hm g hg'; omega
  refine h (gs ++ l) w2 ⟨h2.os.trans hu.os, h2.tape.trans hu.tape, h2.output.trans hu.output, Nat.le_trans hu.size h2.size, fun k hk hkl => (h2.block k (Nat.lt_of_lt_of_le hk hu.size) (fun h3 => hkl (by simp [h3]))).trans (hu.block k hk (fun h3 => hkl (by simp [h3])))⟩ (fun x hx => ?_)
  rcases List.mem_append.1 hx with hx | hx
  · exact hg x hx
  · have h4 := hl x hx
    have h6 := Bx.back hu (fun h7 => hgl x h7 hx) (by have := h4.2.1; omega) h4
    exact ⟨h6.1, by have := h4.2.1; omega, h6.2.2⟩
theorem InU.less {B B' n m : Nat} {w : World} {d : Nat} {cs : List Value} {t : Tm} (h : InU B n w d cs t) (hB : B ≤ B') (hm : m ≤ n) : InU B' m w d cs t := fun l w2 h2 hl =>
  h l w2 h2 (fun x hx => ⟨Nat.le_trans hB (hl x hx).1, Nat.lt_of_lt_of_le (hl x hx).2.1 hm, (hl x hx).2.2⟩)
theorem InU.more {B n : Nat} {w : World} {d : Nat} {cs : List Value} {t : Tm} (h : InU B n w d cs t) : InU B n w (d + 1) cs t := fun l w2 h2 hl => In.more d cs t (h l w2 h2 hl)
theorem InB.low {B n : Nat} {w : World} {d : Nat} {cs : List Value} {t : Tm} (h : InB (fun b => b < B) w d cs t) : InU B n w d cs t := fun l w2 h2 hl =>
  InB.plain _ _ _ (InB.upd (Q := fun b => b < B) h2 (fun b hb hm => by have := (hl b hm).1; omega) (fun _ hb _ => hb) d cs t h)
theorem InB.new {n : Nat} {w : World} {d : Nat} {cs : List Value} {t : Tm} (h : InB (fun b => n ≤ b) w d cs t) : InU 0 n w d cs t := fun l w2 h2 hl =>
  InB.plain _ _ _ (InB.upd (Q := fun b => n ≤ b) h2 (fun b hb hm => by have := (hl b hm).2.1; omega) (fun _ hb _ => hb) d cs t h)
theorem InU.atom (B n : Nat) (w : World) (s : ByteArray) (d : Nat) : InU B n w (d + 1) [.int .u8 2, .bool false, .slice none 0 0, .string s, .int .i64 0, .slice none 0 0, .slice none 0 0] (tmA s) := fun _ _ _ _ =>
  ⟨none, none, none, 0, 0, 0, rfl, Or.inl rfl, Dig.nil, Or.inl rfl, Or.inl rfl⟩
/-- What is zero. -/
def tmZ : Tm := .mk 0 0 false [] ⟨#[]⟩ [] []
theorem InU.zero (B n : Nat) (w : World) (d : Nat) : InU B n w (d + 1) [.int .u8 0, .bool false, .slice none 0 0, .string ⟨#[]⟩, .int .i64 0, .slice none 0 0, .slice none 0 0] tmZ := fun _ _ _ _ =>
  ⟨none, none, none, 0, 0, 0, rfl, Or.inl rfl, Dig.nil, Or.inl rfl, Or.inl rfl⟩
theorem At.boxes {B n : Nat} {w w' : World} {a : Option Addr} {L : List Nat} {l : List Nat} (h : At w a L) (hu : Upd l w w') (hl : ∀ x ∈ l, Bx B n w x) : At w' a L := by
  rcases h with h | ⟨b, o, e, hlt, hc⟩
  · exact Or.inl h
  · by_cases hM : L = []
    · exact Or.inl hM
    · have hpos : 0 < L.length := by cases L with | nil => exact absurd rfl hM | cons x t => simp
      have hb : b ∉ l := fun hm => by
        obtain ⟨_, _, k, num, neg, s, a1, a2, a3, n1, n2, n3, c1, c2, c3, ht⟩ := hl b hm
        have h0 := hc 0 hpos
        rw [Nat.add_zero, ht.cell o] at h0
        match o, h0 with
        | 0, h0 => simp at h0
        | 1, h0 => simp at h0
        | 2, h0 => simp at h0
        | 3, h0 => simp at h0
        | 4, h0 => simp at h0
        | 5, h0 => simp at h0
        | 6, h0 => simp at h0
        | n + 7, h0 => simp at h0
      exact Or.inr ⟨b, o, e, Nat.lt_of_lt_of_le hlt hu.size, fun i hi => (hu.cell (p := ⟨b, o + i, none⟩) hlt hb).trans (hc i hi)⟩
theorem InU.int {w : World} {d : Nat} {cs : List Value} {t : Tm} {z : Int} (B n : Nat) (h : In w d cs t) (k : IntT z t) : InU B n w d cs t := fun l w2 h2 hl => by
  obtain ⟨L, rfl, _⟩ := k
  cases d with
  | zero => exact h.elim
  | succ d =>
    obtain ⟨a, ai, at', c, ci, ct, rfl, hA, hD, _, _⟩ := h
    exact ⟨a, ai, at', c, ci, ct, rfl, hA.boxes h2 hl, hD, Or.inl rfl, Or.inl rfl⟩
theorem In.bx {w w1 : World} {d B n g : Nat} {q0 q1 q2 q3 q4 q5 q6 : Value} {t : Tm} (h : In w d [q0, q1, q2, q3, q4, q5, q6] t) (hB : B ≤ g) (hn : g < n) (ht : Tb w1 g #[q0, q1, q2, q3, q4, q5, q6]) : Bx B n w1 g := by
  cases d with
  | zero => exact h.elim
  | succ d =>
    cases t with
    | mk k num neg L s I T =>
      obtain ⟨a, ai, at', c, ci, ct, e, _⟩ := h
      simp only [List.cons.injEq, and_true] at e
      obtain ⟨rfl, rfl, rfl, rfl, rfl, rfl, rfl⟩ := e
      exact ⟨hB, hn, k, num, neg, s, a, ai, at', _, _, _, _, _, _, ht⟩
theorem bx_zero {w : World} {B n g : Nat} (hB : B ≤ g) (hn : g < n) (ht : Tb w g #[.int .u8 0, .bool false, .slice none 0 0, .string ⟨#[]⟩, .int .i64 0, .slice none 0 0, .slice none 0 0]) : Bx B n w g := ⟨hB, hn, 0, 0, false, ⟨#[]⟩, none, none, none, 0, 0, 0, 0, 0, 0, ht⟩

/-- A term. -/
def OneQ (B d : Nat) (P : Tm → Prop) (w : World) (e : Ending) (w' : World) : Prop := ∃ (cs : List Value) (t : Tm), cs.length = 7 ∧ e = .returned (.agg cs.toArray) ∧ InU B w.heap.size w' d cs t ∧ P t ∧ Upd [] w w'
/-- A value and why there is none. -/
def MadeQ (B d : Nat) (P : Tm → Prop) (why : ByteArray) (w : World) (e : Ending) (w' : World) : Prop := ∃ (cs : List Value) (t : Tm), cs.length = 7 ∧ e = .returned (.tuple #[.agg cs.toArray, .string why]) ∧ InU B w.heap.size w' d cs t ∧ P t ∧ Upd [] w w'
/-- Two terms and a truth. -/
def TwoQ (d : Nat) (P Q : Tm → Prop) (ok : Bool) (w : World) (e : Ending) (w' : World) : Prop := ∃ (cs cr : List Value) (t u : Tm), cs.length = 7 ∧ cr.length = 7 ∧ e = .returned (.tuple #[.agg cs.toArray, .agg cr.toArray, .bool ok]) ∧ InU 0 w.heap.size w' d cs t ∧ P t ∧ InU 0 w.heap.size w' d cr u ∧ Q u ∧ Upd [] w w'
/-- A term and a truth. -/
def CalQ (d : Nat) (P : Tm → Prop) (ok : Bool) (w : World) (e : Ending) (w' : World) : Prop := ∃ (cs : List Value) (t : Tm), cs.length = 7 ∧ e = .returned (.tuple #[.agg cs.toArray, .bool ok]) ∧ InU 0 w.heap.size w' d cs t ∧ P t ∧ Upd [] w w'

/-- Copy: all in new memory. -/
theorem Copy_new {d : Nat} {w : World} {cs : List Value} {t : Tm} (h : In w d cs t) (hok : okS t = true) : Calls Tryz.prog 28 #[.agg cs.toArray] w (OneQ 0 d (fun u => u = t) w) := by
  refine (Copy_sep w.heap.size d w cs t (Nat.le_refl _) (In.toB (fun _ hb => hb) (Upd.refl [] w) d cs t h) (okS_tsz hok) (okS_bel hok)).mono ?_
  rintro e w' ⟨cs', h7, rfl, hin, hU, LB, RB, hBT, _, hK⟩
  refine ⟨cs', t, h7, rfl, InB.new (InB.upd (Upd.refl [] w') (by simp) (fun b hb _ => hK b hb) _ _ _ (InB.inKB _ _ _ _ _ hin hBT)), rfl, hU⟩

end Go.Proofs.YtnpocmhaoaigfaaGreatDoor

/- Small functions of package bif and of the statements, by their contracts. -/
namespace Go.Proofs.YtnpocmhaoaigfaaGreatDoor
open Go.RowKit

set_option maxHeartbeats 1000000 in
set_option maxRecDepth 100000 in
theorem number_any (n : Int) (d : Nat) (w : World) (hb : -9223372036854775808 ≤ n ∧ n ≤ 9223372036854775807) : Calls Tryz.prog 13 #[.int .i64 n] w (OneQ 0 (d + 1) (IntT n) w) := by
  have tbz : Tb (w.alloc (.cells #[.int .u8 0, .bool false, .slice none 0 0, .string ⟨#[]⟩, .int .i64 0, .slice none 0 0, .slice none 0 0] 26)) w.heap.size #[.int .u8 0, .bool false, .slice none 0 0, .string ⟨#[]⟩, .int .i64 0, .slice none 0 0, .slice none 0 0] := Tb.new _ _ _ rfl
  have HU0 : Hid (Upd [] w (w.alloc (.cells #[.int .u8 0, .bool false, .slice none 0 0, .string ⟨#[]⟩, .int .i64 0, .slice none 0 0, .slice none 0 0] 26))) := (Upd.refl [] w).alloc _
  have HB : Hid (-9223372036854775808 ≤ n ∧ n ≤ 9223372036854775807) := hb
  clear hb
  go_enter Tryz.func13, Tryz.ntmps13
  go_wp2_with fail
  refine Calls.mono (Of_any _ _ HB.out) ?_
  rintro e w1 ⟨hU1, neg, a, c, M, rfl, hT⟩
  have tb1 := tbz.mono hU1 (by simp)
  have HU1 : Hid (Upd [] w w1) := HU0.out.trans hU1
  obtain ⟨t, ht, hz⟩ := hT.tm c d
  have HT : Hid (InU 0 w1.heap.size w1 (d + 1) _ t) := InU.int 0 w1.heap.size ht hz
  have HZ : Hid (IntT n t) := hz
  have HTB : Hid (Tb w1 w.heap.size #[.int .u8 0, .bool false, .slice none 0 0, .string ⟨#[]⟩, .int .i64 0, .slice none 0 0, .slice none 0 0]) := tb1
  clear hU1 tbz hT ht hz
  go_wp2_with (refine store_V _ rfl _ _ rfl _ _ _ _ _ _ _ _ _ _ _ _ _ _ _ rfl rfl tb1 rfl ?_; intro w2 hT2 hU2)
  exact ret_T Tryz.results13 rfl _ _ rfl hT2 rfl ⟨_, t, rfl, rfl, HT.out.step hU2 (bx_zero (Nat.zero_le _) (Tb.lt HTB.out) HTB.out) (Nat.le_refl _) (Nat.le_refl _), HZ.out, HU1.out.then hU2 (by simp)⟩

theorem In.kdform {w : World} {d : Nat} {cs : List Value} {t : Tm} (h : In w d cs t) : ∃ l1 l2 l3 l4 l5 l6, cs = [.int .u8 t.kd, l1, l2, l3, l4, l5, l6] := by
  cases d with
  | zero => exact h.elim
  | succ d =>
    cases t with
    | mk k num neg L s I T =>
      obtain ⟨a, ai, at', c, ci, ct, rfl, _⟩ := h
      exact ⟨_, _, _, _, _, _, rfl⟩

set_option maxHeartbeats 1000000 in
set_option maxRecDepth 100000 in
theorem are_c1 {d : Nat} {t : Tm} (q : Nat) (kind : Int) (cs : List Value) (w : World) (hin : In w d cs t) (hF : FunB w q (.int .u8 kind) 22) :
    Calls Tryz.prog 127 #[.agg cs.toArray, .pointer (some ⟨q, 0, none⟩)] w fun e w' => e = .returned (.bool (t.kd == kind)) ∧ Upd [] w w' := by
  obtain ⟨l1, l2, l3, l4, l5, l6, rfl⟩ := hin.kdform
  obtain ⟨k, hk⟩ : ∃ k, k = t.kd := ⟨_, rfl⟩
  rw [← hk]
  rw [← hk] at hin
  have hU1 : Upd [] w (w.alloc (.cells #[.int .u8 k, l1, l2, l3, l4, l5, l6] 26)) := (Upd.refl [] w).alloc _
  have tb0 : Tb (w.alloc (.cells #[.int .u8 k, l1, l2, l3, l4, l5, l6] 26)) w.heap.size #[.int .u8 k, l1, l2, l3, l4, l5, l6] := Tb.new _ _ _ rfl
  have y0 : (w.alloc (.cells #[.int .u8 k, l1, l2, l3, l4, l5, l6] 26)).cell? ⟨w.heap.size, 0, none⟩ = some (.int .u8 k) := tb0.cell 0
  have x0 := (hF.mono hU1 (by simp)).cell
  have HU1 : Hid _ := hU1
  clear hF hU1 hin tb0 hk
  go_enter Tryz.func127, Tryz.ntmps127
  go_wp2
  go_ret
  exact ⟨rfl, HU1.out⟩

set_option maxHeartbeats 1000000 in
set_option maxRecDepth 100000 in
theorem are_in (kind : Int) (a : Option Addr) (c d : Nat) (I : List Tm) (w : World) (hz : I.length ≤ 1353245080330) (hI : RowAt (In w d) w a I) :
    Calls Tryz.prog 100 #[.int .u8 kind, .slice a I.length c] w fun e w' => e = .returned (.bool (I.all fun t => t.kd == kind)) ∧ Upd [] w w' := by
  have hU1 : Upd [] w (w.alloc (.cells #[.int .u8 kind] 22)) := (Upd.refl [] w).alloc _
  have hF : FunB (w.alloc (.cells #[.int .u8 kind] 22)) w.heap.size (.int .u8 kind) 22 := FunB.new _ _ _ _ rfl
  have H : Hid _ := all_gen a c d I 127 #[.pointer (some ⟨w.heap.size, 0, none⟩)] (fun t => t.kd == kind) (w.alloc (.cells #[.int .u8 kind] 22)) hz (hI.imp hU1 (fun cs t h => In.mono hU1 d cs t h)) Tryz.call127 (fun k hk cs W hu hin => are_c1 w.heap.size kind cs W hin (hF.mono hu (by simp)))
  have HU1 : Hid _ := hU1
  obtain ⟨R, hR⟩ : ∃ R, R = I.all fun t => t.kd == kind := ⟨_, rfl⟩
  rw [← hR] at H ⊢
  clear hI hR hU1 hF
  go_enter Tryz.func100, Tryz.ntmps100
  go_wp2_with fail
  refine Calls.mono H.out ?_
  rintro e w2 ⟨rfl, hU⟩
  have HU : Hid (Upd [] w w2) := HU1.out.trans hU
  clear hU
  go_wp2
  go_ret
  exact ⟨rfl, HU.out⟩

set_option maxHeartbeats 1000000 in
set_option maxRecDepth 100000 in
theorem isClass_no (s : ByteArray) (w : World) (h1 : (s.toList == [116, 104, 114, 111, 119]) = false) (h2 : (s.toList == [101, 114, 114, 111, 114]) = false) (h3 : (s.toList == [101, 120, 105, 116]) = false) :
    Calls Tryz.prog 24 #[.string s] w fun e w' => e = .returned (.bool false) ∧ Upd [] w w' := by
  go_enter Tryz.func24, Tryz.ntmps24
  go_wp2
  go_ret
  exact ⟨rfl, Upd.refl _ _⟩

set_option maxHeartbeats 1000000 in
set_option maxRecDepth 100000 in
theorem makes_any (s : ByteArray) (n : Int) (w : World) (hB : Blt w) (r : Bool) (hr : (decide (kindS s n = 1) || decide (kindS s n = 2)) = r) :
    Calls Tryz.prog 22 #[.string s, .int .i64 n] w fun e w' => e = .returned (.bool r) ∧ Upd [] w w' := by
  have H : Hid _ := Kind_any s n w hB
  obtain ⟨k, hk⟩ : ∃ k, k = kindS s n := ⟨_, rfl⟩
  rw [← hk] at H hr
  have HR : Hid ((decide (k = 1) || decide (k = 2)) = r) := hr
  clear hr hB hk
  by_cases h1 : k = 1
  · subst h1
    obtain rfl : r = true := by rw [← HR.out]; rfl
    go_enter Tryz.func22, Tryz.ntmps22
    go_wp2_with fail
    refine Calls.mono H.out ?_
    rintro e w2 ⟨rfl, rfl⟩
    go_wp2
    go_ret
    exact ⟨rfl, Upd.refl _ _⟩
  · have i1 : ((k : Int) == 1) = false := by simp; omega
    by_cases h2 : k = 2
    · subst h2
      obtain rfl : r = true := by rw [← HR.out]; rfl
      go_enter Tryz.func22, Tryz.ntmps22
      go_wp2_with fail
      refine Calls.mono H.out ?_
      rintro e w2 ⟨rfl, rfl⟩
      go_wp2
      go_ret
      exact ⟨rfl, Upd.refl _ _⟩
    · have i2 : ((k : Int) == 2) = false := by simp; omega
      obtain rfl : r = false := by rw [← HR.out]; simp [h1, h2]
      clear h1 h2
      go_enter Tryz.func22, Tryz.ntmps22
      go_wp2_with fail
      refine Calls.mono H.out ?_
      rintro e w2 ⟨rfl, rfl⟩
      go_wp2
      go_ret
      exact ⟨rfl, Upd.refl _ _⟩

set_option maxHeartbeats 1000000 in
set_option maxRecDepth 100000 in
/-- fitting of package bif. -/
theorem bfit_in {B d : Nat} {P : Tm → Prop} {t : Tm} (cs : List Value) (ok : Bool) (w : World) (hin : InU B w.heap.size w d cs t) (hP : P t) (hok : ok = true) :
    Calls Tryz.prog 101 #[.agg cs.toArray, .bool ok] w (MadeQ B d P ⟨#[]⟩ w) := by
  subst hok
  obtain ⟨q0, q1, q2, q3, q4, q5, q6, rfl⟩ := list7 hin.plain.len
  have hone := hin.plain.one
  have HIN : Hid (InU B w.heap.size w d [q0, q1, q2, q3, q4, q5, q6] t) := hin
  have HP : Hid (P t) := hP
  have tb0 : Tb ((w.alloc (.cells #[q0, q1, q2, q3, q4, q5, q6] 26)).alloc (.cells #[.int .u8 0, .bool false, .slice none 0 0, .string ⟨#[]⟩, .int .i64 0, .slice none 0 0, .slice none 0 0] 26)) w.heap.size #[q0, q1, q2, q3, q4, q5, q6] := (Tb.new _ _ _ rfl).old _
  have tbz : Tb ((w.alloc (.cells #[q0, q1, q2, q3, q4, q5, q6] 26)).alloc (.cells #[.int .u8 0, .bool false, .slice none 0 0, .string ⟨#[]⟩, .int .i64 0, .slice none 0 0, .slice none 0 0] 26)) (w.heap.size + 1) #[.int .u8 0, .bool false, .slice none 0 0, .string ⟨#[]⟩, .int .i64 0, .slice none 0 0, .slice none 0 0] := Tb.new _ _ _ (by simp)
  have HU0 : Hid (Upd [] w ((w.alloc (.cells #[q0, q1, q2, q3, q4, q5, q6] 26)).alloc (.cells #[.int .u8 0, .bool false, .slice none 0 0, .string ⟨#[]⟩, .int .i64 0, .slice none 0 0, .slice none 0 0] 26))) := ((Upd.refl [] w).alloc _).alloc _
  clear hin hP
  go_enter Tryz.func101, Tryz.ntmps101
  go_wp2_with (first | (refine load_T _ rfl _ rfl _ _ rfl tb0 rfl ?_) | (refine store_T _ rfl _ _ rfl _ #[q0, q1, q2, q3, q4, q5, q6] _ rfl rfl tbz rfl rfl hone ?_; intro w2 hT2 hU2))
  refine ret_Tb Tryz.results101 rfl _ _ _ rfl hT2 rfl rfl ⟨_, t, rfl, rfl, HIN.out.mono (HU0.out.then hU2 (by simp)) (Nat.le_refl _), HP.out, HU0.out.then hU2 (by simp)⟩

end Go.Proofs.YtnpocmhaoaigfaaGreatDoor
