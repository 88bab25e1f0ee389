/- Copy of package term: its answer's rows lie apart. -/
import Derived.Test.YtalhbbabijlngaaGreatDoorJAI
import Derived.Test.YtalhbbabijlngaaGreatDoorJAV
import Derived.Test.YtalhbbabijlngaaGreatDoorConI
namespace Go.Proofs.YtalhbbabijlngaaGreatDoor
open Go.RowKit
def TermS (B : Nat) (w : World) (d : Nat) (t : Tm) (e : Ending) (w' : World) : Prop := ∃ cs : List Value, cs.length = 7 ∧ e = .returned (.agg cs.toArray) ∧ InB (fun b => b < B ∨ w.heap.size ≤ b) w' d cs t ∧ Upd [] w w' ∧ ∃ LB RB, BT 0 w' d cs t LB RB ∧ Apt LB RB ∧ ∀ x, x ∈ KB LB RB → w.heap.size ≤ x
theorem fresh_oneS (B b o c c' d : Nat) (Q : Nat → Prop) (a : Option Addr) (I : List Tm) (w : World) (hb : b < w.heap.size) (hB : B ≤ w.heap.size) (hc : w.cell? ⟨b, o, none⟩ = some (.slice a I.length c')) (hR : RowB Q (InB (fun b => b < B) w d) w a I) (hn : I.length + belR I ≤ 65536) (hsz : tszs I ≤ 1353245080330) :
  Calls Tryz.prog 50 #[.slice (some ⟨b, o, none⟩) 1 c] w (FreshS B w d I) := by
 obtain ⟨xs, hx, hxs⟩ := hR.rd (fun cs t h => InB.one cs t h)
 refine fresh_anyS B b o 1 c d [⟨a, I.length, c', xs⟩] I w rfl ⟨hb, fun i hi => ?_, fun i hi => ?_⟩ ⟨by simp [sumN], fun i hi => ?_⟩ hB (by simp) (by omega) (by omega) hsz
 ·have e : i = 0 := by simp at hi; exact hi
  subst e
  exact hc
 ·have e : i = 0 := by simp at hi; exact hi
  subst e
  exact hx
 ·obtain ⟨cs, k1, k2, k3⟩ := hxs i hi
  exact ⟨cs, k1, fun j hj => by simpa [catX] using k2 j hj, k3⟩
set_option maxHeartbeats 4000000 in
set_option maxRecDepth 100000 in
theorem Copy_sep (B d : Nat) (w : World) (cs : List Value) (t : Tm) (hB : B ≤ w.heap.size) (h' : InB (fun b => b < B) w d cs t) (hs : tsz t ≤ 1353245080330) (hb : belT t ≤ 60000) :
  Calls Tryz.prog 12 #[.agg cs.toArray] w (TermS B w d t) := by
 have h := InB.plain _ _ _ h'
 have hone := h.one
 have hl7 := h.len
 obtain ⟨q0, q1, q2, q3, q4, q5, q6, rfl⟩ := list7 hl7
 have HIN : Hid (InB (fun b => b < B) w d [q0, q1, q2, q3, q4, q5, q6] t) := h'
 have tb0 : Tb ((w.alloc (.cells #[q0, q1, q2, q3, q4, q5, q6] 26)).alloc (.cells #[.int .u8 0, .bool false, .slice none 0 0, .string ⟨#[]⟩, .int .i64 0, .slice none 0 0, .slice none 0 0] 26)) w.heap.size #[q0, q1, q2, q3, q4, q5, q6] := (Tb.new _ _ _ rfl).old _
 have tbz : Tb ((w.alloc (.cells #[q0, q1, q2, q3, q4, q5, q6] 26)).alloc (.cells #[.int .u8 0, .bool false, .slice none 0 0, .string ⟨#[]⟩, .int .i64 0, .slice none 0 0, .slice none 0 0] 26)) (w.heap.size + 1) #[.int .u8 0, .bool false, .slice none 0 0, .string ⟨#[]⟩, .int .i64 0, .slice none 0 0, .slice none 0 0] := Tb.new _ _ _ (by simp)
 have hU0 : Upd [] w ((w.alloc (.cells #[q0, q1, q2, q3, q4, q5, q6] 26)).alloc (.cells #[.int .u8 0, .bool false, .slice none 0 0, .string ⟨#[]⟩, .int .i64 0, .slice none 0 0, .slice none 0 0] 26)) := ((Upd.refl [] w).alloc _).alloc _
 have HS : Hid (tszs [t] ≤ 1353245080330 ∧ belR [t] ≤ 60000) := ⟨by simp only [tszs, List.length_nil]; omega, by simp only [belR]; omega⟩
 have HONE : Hid _ := hone
 clear h h' hs hb hl7
 obtain ⟨W, hW⟩ : ∃ W, W = (w.alloc (.cells #[q0, q1, q2, q3, q4, q5, q6] 26)).alloc (.cells #[.int .u8 0, .bool false, .slice none 0 0, .string ⟨#[]⟩, .int .i64 0, .slice none 0 0, .slice none 0 0] 26) := ⟨_, rfl⟩
 go_enter Tryz.func12, Tryz.ntmps12
 go_wp2_with (first | (refine load_T _ rfl _ rfl _ _ rfl tb0 rfl ?_) | fail)
 rw [← hW] at tb0 tbz hU0 ⊢
 have hsW : W.heap.size = w.heap.size + 1 + 1 := by rw [hW]; simp
 have hU1 : Upd [] W ((W.alloc (.cells #[q0, q1, q2, q3, q4, q5, q6] 26)).alloc (.cells #[.slice (some ⟨w.heap.size + 1 + 1, 0, none⟩) 1 1] 24)) := ((Upd.refl [] W).alloc _).alloc _
 have tb1 : Tb ((W.alloc (.cells #[q0, q1, q2, q3, q4, q5, q6] 26)).alloc (.cells #[.slice (some ⟨w.heap.size + 1 + 1, 0, none⟩) 1 1] 24)) (w.heap.size + 1 + 1) #[q0, q1, q2, q3, q4, q5, q6] := (Tb.new _ _ _ hsW.symm).old _
 have hf := FunB.new (W.alloc (.cells #[q0, q1, q2, q3, q4, q5, q6] 26)) (.slice (some ⟨w.heap.size + 1 + 1, 0, none⟩) 1 1) 24 (w.heap.size + 1 + 1 + 1) (by simp [hsW])
 have hU2 := hU0.trans hU1
 have HSZ : Hid (((W.alloc (.cells #[q0, q1, q2, q3, q4, q5, q6] 26)).alloc (.cells #[.slice (some ⟨w.heap.size + 1 + 1, 0, none⟩) 1 1] 24)).heap.size = w.heap.size + 4) := by show _ = _; simp [hsW]
 have hrow := Tb.row (cs := [q0, q1, q2, q3, q4, q5, q6]) tb1 rfl (InB.upd hU2 (by simp) (fun b hb _ => hb) _ _ _ HIN.out)
 refine Calls.mono (fresh_oneS B (w.heap.size + 1 + 1 + 1) 0 1 1 d _ (some ⟨w.heap.size + 1 + 1, 0, none⟩) [t] _ hf.lt (Nat.le_trans hB hU2.size) hf.cell hrow (by have := HS.out.2; simp; omega) HS.out.1) ?_
 rintro e w3 ⟨a3, c3, rfl, hR3, hU3, _, _, LB3, RB3, hBT3, hAp3, hKB3⟩
 obtain ⟨ls3, rs3, rfl, rfl, hq3, hk3⟩ := hBT3
 have HAP : Hid (Apt (ls3 0) (rs3 0)) := hAp3.row.1 0 (by simp)
 have HKB : Hid (∀ x, x ∈ KB (ls3 0) (rs3 0) → w.heap.size + 4 ≤ x) := fun x hx => by rw [← HSZ.out]; exact hKB3 x (KB_row.2 (Or.inr ⟨0, by simp, hx⟩))
 have hg3 : ∀ ad, a3 = some ad → ∃ g, ad = ⟨g, 0, none⟩ := fun ad e => by
  rcases hq3.1 with ⟨e2, _⟩ | ⟨g, cap, e2, _⟩
  ·rw [e] at e2; cases e2
  ·rw [e] at e2; simp only [Value.slice.injEq, Option.some.injEq] at e2; exact ⟨g, e2.1⟩
 clear hAp3 hKB3
 simp only [List.length_cons, List.length_nil, Nat.zero_add]
 rcases hR3 with h0 | ⟨b3, o3, rfl, _, hlt3, hc3⟩
 ·cases h0
 obtain ⟨g3, hgo⟩ := hg3 _ rfl
 simp only [Addr.mk.injEq, and_true] at hgo
 obtain ⟨rfl, rfl⟩ := hgo
 obtain ⟨cs3, k1, k2, k3⟩ := hc3 0 (by simp)
 obtain ⟨cs3', k1', k2', k3'⟩ := hk3 0 (by simp)
 have hcc : cs3' = cs3 := by
  apply List.ext_getElem (by omega)
  intro j h1 h2
  have e1 := k2 j (by omega)
  have e2 := k2' b3 _ _ rfl j (by omega)
  rw [Nat.zero_add] at e1
  rw [e1, List.getElem?_eq_getElem h2, List.getElem?_eq_getElem h1] at e2
  exact (Option.some.inj e2).symm
 subst hcc
 have HBT3 : Hid (BT 0 w3 d cs3' t (ls3 0) (rs3 0)) := k3'
 clear k3' k2' k1' hk3 hq3 hg3
 have hone3 := (InB.plain _ _ _ k3).one
 obtain ⟨p0, p1, p2, p3, p4, p5, p6, rfl⟩ := list7 k1
 have HIN3 : Hid (InB _ w3 d [p0, p1, p2, p3, p4, p5, p6] t) := k3
 have HU3 : Hid (Upd [] w w3) := hU2.trans hU3
 have tbz3 := (tbz.mono hU1 (by simp)).mono hU3 (by simp)
 have x0 : w3.cell? ⟨b3, 0, none⟩ = some p0 := by have := k2 0 (by omega); simpa using this
 have x1 : w3.cell? ⟨b3, 1, none⟩ = some p1 := by have := k2 1 (by omega); simpa using this
 have x2 : w3.cell? ⟨b3, 2, none⟩ = some p2 := by have := k2 2 (by omega); simpa using this
 have x3 : w3.cell? ⟨b3, 3, none⟩ = some p3 := by have := k2 3 (by omega); simpa using this
 have x4 : w3.cell? ⟨b3, 4, none⟩ = some p4 := by have := k2 4 (by omega); simpa using this
 have x5 : w3.cell? ⟨b3, 5, none⟩ = some p5 := by have := k2 5 (by omega); simpa using this
 have x6 : w3.cell? ⟨b3, 6, none⟩ = some p6 := by have := k2 6 (by omega); simpa using this
 clear hc3 k2 k3 hrow hf tb1 tb0 hU1 hU2 hU3 hU0 tbz hW hsW
 go_wp2_with (refine store_T _ rfl _ _ rfl _ #[p0, p1, p2, p3, p4, p5, p6] _ rfl rfl tbz3 rfl rfl hone3 ?_; intro w4 hT4 hU4)
 have hin4 : InB (fun b => b < B ∨ w.heap.size ≤ b) w4 d [p0, p1, p2, p3, p4, p5, p6] t := by
  refine InB.upd hU4 (fun b hb hm => ?_) (fun b hb _ => ?_) _ _ _ HIN3.out
  ·simp at hm
   subst hm
   rcases hb with hb | ⟨hb, _⟩
   ·simp only at hb; omega
   ·rw [HSZ.out] at hb; simp only at hb; omega
  ·rcases hb with hb | ⟨hb, _⟩
   ·exact Or.inl hb
   ·rw [HSZ.out] at hb; simp only at hb; exact Or.inr (by omega)
 exact ret_T Tryz.results12 rfl _ _ rfl hT4 rfl ⟨[p0, p1, p2, p3, p4, p5, p6], rfl, rfl, hin4, HU3.out.then hU4 (by simp), ls3 0, rs3 0, BT.upd hU4 _ _ _ _ _ (fun x hx hm => by have := HKB.out x hx; simp at hm; omega) HBT3.out, HAP.out, fun x hx => by have := HKB.out x hx; omega⟩
end Go.Proofs.YtalhbbabijlngaaGreatDoor
namespace Go.Proofs.YtalhbbabijlngaaGreatDoor
open Go.RowKit
def SepR (lo hi : Nat) (w : World) (d : Nat) (v : Value) (J : List Tm) : Prop := ∃ LB RB, RowBT 0 (BT 0 w d) w v J LB RB ∧ Apt LB RB ∧ ∀ x, x ∈ KB LB RB → lo ≤ x ∧ x < hi
theorem SepR.mk' {lo lo' d : Nat} {w : World} {v : Value} {J LB RB : List _} (h : RowBT 0 (BT 0 w d) w v J LB RB) (ha : Apt LB RB) (hl : lo' ≤ lo) (hk : ∀ x, x ∈ KB LB RB → lo ≤ x) : SepR lo' w.heap.size w d v J :=
 ⟨LB, RB, h, ha, fun x hx => ⟨Nat.le_trans hl (hk x hx), h.lt (fun _cs _t _LB _RB h => BT.lt _ _ _ _ _ h) x hx⟩⟩
theorem SepR.upd {S : List Nat} {lo hi d : Nat} {w w' : World} {v : Value} {J : List Tm} (h : SepR lo hi w d v J) (hu : Upd S w w') (hS : ∀ x, x ∈ S → x < lo) : SepR lo hi w' d v J := by
 obtain ⟨LB, RB, h1, h2, h3⟩ := h
 have hn : ∀ x, x ∈ KB LB RB → x ∉ S := fun x hx hm => by have := hS x hm; have := h3 x hx; omega
 exact ⟨LB, RB, h1.upd hu hn (fun cs t l q hx hR => BT.upd hu _ _ _ _ _ hx hR), h2, h3⟩
def SepT (lo : Nat) (w : World) (d : Nat) (cs : List Value) (t : Tm) : Prop := ∃ LB RB, BT 0 w d cs t LB RB ∧ Apt LB RB ∧ ∀ x, x ∈ KB LB RB → lo ≤ x
theorem nilQ (w : World) (sz : Nat) : RowQ w 0 sz (.slice none 0 0) 0 := ⟨Or.inl ⟨rfl, rfl⟩, Or.inl rfl⟩
theorem nilR (w : World) (d : Nat) : RowBT 0 (BT 0 w d) w (.slice none 0 0) [] [] [.slice none 0 0] := ⟨fun _ => [], fun _ => [], rfl, rfl, nilQ w 7, fun i hi => by simp at hi⟩
theorem nilK (x : Nat) : x ∉ KB [] [.slice none 0 0] := fun h => by rw [mem_KB] at h; simp [bks, Value.ownBlock] at h
theorem nilA : Apt [] [.slice none 0 0] := ⟨by simp [bks], by simp [bks, Value.ownBlock], fun x hx => by simp [bks] at hx⟩
theorem zero_sep (lo : Nat) (w : World) (d : Nat) : SepT lo w (d + 1) zeroC zeroT :=
 ⟨_, _, ⟨.slice none 0 0, .slice none 0 0, .slice none 0 0, [], [], _, _, rfl, nilQ w 1, nilR w d, nilR w d, rfl, rfl⟩, Apt.of_two nilA nilA (fun x hx => (nilK x hx).elim) (fun x hx => by cases hx), fun x hx => by
  rcases KB_two.1 hx with h | h | h
  ·cases h
  ·exact (nilK x h).elim
  ·exact (nilK x h).elim⟩
theorem list_sep {lo mid hi d : Nat} {w : World} {vi vt : Value} {I T : List Tm} (h1 : SepR lo mid w d vi I) (h2 : SepR mid hi w d vt T) (hlm : lo ≤ mid) : SepT lo w (d + 1) [.int .u8 7, .bool false, .slice none 0 0, .string ⟨#[]⟩, .int .i64 0, vi, vt] (.mk 7 0 false [] ⟨#[]⟩ I T) := by
 obtain ⟨l1, r1, a1, a2, a3⟩ := h1
 obtain ⟨l2, r2, b1, b2, b3⟩ := h2
 refine ⟨_, _, ⟨.slice none 0 0, vi, vt, l1, l2, r1, r2, rfl, nilQ w 1, a1, b1, rfl, rfl⟩, Apt.of_two a2 b2 (fun x hx hx2 => by have := a3 x hx; have := b3 x hx2; omega) (fun x hx => by cases hx), fun x hx => ?_⟩
 rcases KB_two.1 hx with h | h | h
 ·cases h
 ·exact (a3 x h).1
 ·have := b3 x h; omega
theorem SepT.upd {S : List Nat} {lo d : Nat} {w w' : World} {cs : List Value} {t : Tm} (h : SepT lo w d cs t) (hu : Upd S w w') (hS : ∀ x, x ∈ S → x < lo) : SepT lo w' d cs t := by
 obtain ⟨LB, RB, h1, h2, h3⟩ := h
 exact ⟨LB, RB, BT.upd hu _ _ _ _ _ (fun x hx hm => by have := hS x hm; have := h3 x hx; omega) h1, h2, h3⟩
def ConsQ (w : World) (d : Nat) (t : Tm) (e : Ending) (w' : World) : Prop := ∃ cs : List Value, cs.length = 7 ∧ e = .returned (.agg cs.toArray) ∧ In w' d cs t ∧ CapC cs ∧ Upd [] w w' ∧ SepT w.heap.size w' d cs t
theorem fresh_twoS (B b c c0 c1 d : Nat) (a0 a1 : Option Addr) (h : Tm) (I : List Tm) (Q0 Q1 : Nat → Prop) (w : World) (hb : b < w.heap.size) (hB : B ≤ w.heap.size) (hc0 : w.cell? ⟨b, 0, none⟩ = some (.slice a0 1 c0)) (hc1 : w.cell? ⟨b, 1, none⟩ = some (.slice a1 I.length c1))
  (hR0 : RowB Q0 (InB (fun b => b < B) w d) w a0 [h]) (hR1 : RowB Q1 (InB (fun b => b < B) w d) w a1 I) (hn : (h :: I).length + belR (h :: I) ≤ 65536) (hsz : tszs (h :: I) ≤ 1353245080330) :
  Calls Tryz.prog 50 #[.slice (some ⟨b, 0, none⟩) 2 c] w (FreshS B w d (h :: I)) := by
 obtain ⟨xs, hx, hxs⟩ := hR0.rd (fun cs t h => InB.one cs t h)
 obtain ⟨ys, hy, hys⟩ := hR1.rd (fun cs t h => InB.one cs t h)
 have two : ∀ i, i < 2 → i = 0 ∨ i = 1 := fun i hi => by omega
 refine fresh_anyS B b 0 2 c d [⟨a0, 1, c0, xs⟩, ⟨a1, I.length, c1, ys⟩] (h :: I) w rfl ⟨hb, fun i hi => ?_, fun i hi => ?_⟩ ⟨by simp [sumN]; omega, fun i hi => ?_⟩ hB (by simp) (by omega) (by omega) hsz
 ·rcases two i hi with rfl | rfl
  ·exact hc0
  ·exact hc1
 ·rcases two i hi with rfl | rfl
  ·exact hx
  ·exact hy
 ·have hxl := hx.len
  simp only [List.length_cons, List.length_nil, Nat.zero_add, Nat.one_mul] at hxl
  cases i with
  | zero =>
   obtain ⟨cs, k1, k2, k3⟩ := hxs 0 (by simp)
   refine ⟨cs, k1, fun j hj => ?_, k3⟩
   have := k2 j hj
   simp only [catX, List.flatMap_cons, List.flatMap_nil, List.append_nil]
   rw [List.getElem?_append_left (by omega)]
   exact this
  | succ i =>
   obtain ⟨cs, k1, k2, k3⟩ := hys i (by simpa using hi)
   refine ⟨cs, k1, fun j hj => ?_, by simpa using k3⟩
   simp only [catX, List.flatMap_cons, List.flatMap_nil, List.append_nil]
   rw [List.getElem?_append_right (by omega), ← k2 j hj]
   congr 1
   omega
theorem cons_endS (B lo d g n3 c3 n4 c4 : Nat) (a3 a4 : Option Addr) (t : Tm) (b : Bool) (w w5 : World) (hg0 : w.heap.size ≤ g) (hg : g < lo) (hB : B ≤ w.heap.size) (mid hi : Nat) (J K : List Tm) (ht7 : t = .mk 7 0 false [] ⟨#[]⟩ J K) (hlm : lo ≤ mid) (hs3 : SepR lo mid w5 d (.slice a3 n3 c3) J) (hs4 : SepR mid hi w5 d (.slice a4 n4 c4) K) (hu : Upd [] w w5) (ht : Tb w5 g #[.int .u8 0, .bool false, .slice none 0 0, .string ⟨#[]⟩, .int .i64 0, .slice none 0 0, .slice none 0 0]) (h3 : n3 ≤ c3) (h3' : c3 ≤ 9223372036854775807) (hin : InB (Pl B lo) w5 (d + 1) [.int .u8 7, .bool false, .slice none 0 0, .string ⟨#[]⟩, .int .i64 0, .slice a3 n3 c3, .slice a4 n4 c4] t) :
  ∃ W5, W5 = ((((((w5.setCell ⟨g, 0, none⟩ (.int .u8 (fk b))).setCell ⟨g, 1, none⟩ (.bool false)).setCell ⟨g, 2, none⟩ (.slice none 0 0)).setCell ⟨g, 3, none⟩ (.string ⟨#[]⟩)).setCell ⟨g, 4, none⟩ (.int .i64 0)).setCell ⟨g, 5, none⟩ (.slice (fa b a3) (fn b n3) (fn b c3))).setCell ⟨g, 6, none⟩ (.slice (fa b a4) (fn b n4) (fn b c4)) ∧ Tb W5 g #[.int .u8 (fk b), .bool false, .slice none 0 0, .string ⟨#[]⟩, .int .i64 0, .slice (fa b a3) (fn b n3) (fn b c3), .slice (fa b a4) (fn b n4) (fn b c4)] ∧ ∀ S' : World, S' = W5 → ConsQ w (d + 1) (pickT b t) (.returned (.agg #[.int .u8 (fk b), .bool false, .slice none 0 0, .string ⟨#[]⟩, .int .i64 0, .slice (fa b a3) (fn b n3) (fn b c3), .slice (fa b a4) (fn b n4) (fn b c4)])) S' := by
 obtain ⟨W5, h1, h2, h3u⟩ := set7 w5 g #[.int .u8 0, .bool false, .slice none 0 0, .string ⟨#[]⟩, .int .i64 0, .slice none 0 0, .slice none 0 0] (.int .u8 (fk b)) (.bool false) (.slice none 0 0) (.string ⟨#[]⟩) (.int .i64 0) (.slice (fa b a3) (fn b n3) (fn b c3)) (.slice (fa b a4) (fn b n4) (fn b c4)) ht rfl
 refine ⟨W5, h1, h2, fun S' hS' => ?_⟩
 subst hS'
 have hU5 : Upd [] w S' := hu.then h3u (fun x hx => by simp at hx; subst hx; exact Or.inl hg0)
 refine ⟨_, rfl, rfl, ?_, ⟨_, _, _, rfl, ?_, ?_⟩, hU5, ?_⟩
 ·cases b with
  | false => exact zero_in _ _
  | true =>
   rw [pickT, if_pos rfl]
   refine InB.plain _ _ _ (InB.upd (Q := fun _ => True) h3u (fun b hb hm => ?_) (fun _ _ _ => trivial) _ _ _ hin)
   simp at hm
   subst hm
   rcases hb with hb | hb
   ·omega
   ·omega
 ·cases b <;> simp [fn]; exact h3
 ·cases b <;> simp [fn]; exact h3'
 ·have hl : w.heap.size ≤ lo := by omega
  cases b with
  | false => exact zero_sep _ _ _
  | true =>
   rw [pickT, if_pos rfl, ht7]
   obtain ⟨LB, RB, k1, k2, k3⟩ := (list_sep hs3 hs4 hlm).upd h3u (fun x hx => by simp at hx; omega)
   exact ⟨LB, RB, k1, k2, fun x hx => Nat.le_trans hl (k3 x hx)⟩
set_option maxHeartbeats 4000000 in
set_option maxRecDepth 100000 in
theorem Cons_badS (d : Nat) (w : World) (h t : Tm) (q0 q1 q2 q3 q4 q5 q6 p0 p1 p2 p3 p4 p5 p6 : Value) (hh : In w d [q0, q1, q2, q3, q4, q5, q6] h) (hin : In w d [p0, p1, p2, p3, p4, p5, p6] t) (hzh : tsz h ≤ 1353245080330) (hz : tsz t ≤ 1353245080330) (hok : (okS h && okS t) = false) :
  Calls Tryz.prog 24 #[.agg #[q0, q1, q2, q3, q4, q5, q6], .agg #[p0, p1, p2, p3, p4, p5, p6]] w (ConsQ w (d + 1) zeroT) := by
 obtain ⟨o0, ho0⟩ : ∃ o, okS h = o := ⟨_, rfl⟩
 obtain ⟨o1, ho1⟩ : ∃ o, okS t = o := ⟨_, rfl⟩
 have HR1 : Hid (∀ V, Upd [] w V → Calls Tryz.prog 9 #[.agg #[q0, q1, q2, q3, q4, q5, q6]] V fun e w' => e = .returned (.bool o0) ∧ Upd [] V w') := fun V hU => by
  have := TRight_in d V _ _ (In.mono hU _ _ _ hh) hzh
  rw [ho0] at this
  exact this
 have HR2 : Hid (∀ V, Upd [] w V → Calls Tryz.prog 9 #[.agg #[p0, p1, p2, p3, p4, p5, p6]] V fun e w' => e = .returned (.bool o1) ∧ Upd [] V w') := fun V hU => by
  have := TRight_in d V _ _ (In.mono hU _ _ _ hin) hz
  rw [ho1] at this
  exact this
 rw [ho0, ho1] at hok
 have hU0 : Upd [] w (((w.alloc (.cells #[q0, q1, q2, q3, q4, q5, q6] 26)).alloc (.cells #[p0, p1, p2, p3, p4, p5, p6] 26)).alloc (.cells #[.int .u8 0, .bool false, .slice none 0 0, .string ⟨#[]⟩, .int .i64 0, .slice none 0 0, .slice none 0 0] 26)) := (((Upd.refl [] w).alloc _).alloc _).alloc _
 have tb0 : Tb (((w.alloc (.cells #[q0, q1, q2, q3, q4, q5, q6] 26)).alloc (.cells #[p0, p1, p2, p3, p4, p5, p6] 26)).alloc (.cells #[.int .u8 0, .bool false, .slice none 0 0, .string ⟨#[]⟩, .int .i64 0, .slice none 0 0, .slice none 0 0] 26)) w.heap.size #[q0, q1, q2, q3, q4, q5, q6] := ((Tb.new _ _ _ rfl).old _).old _
 have tb1 : Tb (((w.alloc (.cells #[q0, q1, q2, q3, q4, q5, q6] 26)).alloc (.cells #[p0, p1, p2, p3, p4, p5, p6] 26)).alloc (.cells #[.int .u8 0, .bool false, .slice none 0 0, .string ⟨#[]⟩, .int .i64 0, .slice none 0 0, .slice none 0 0] 26)) (w.heap.size + 1) #[p0, p1, p2, p3, p4, p5, p6] := (Tb.new _ _ _ (by simp)).old _
 have tb2 : Tb (((w.alloc (.cells #[q0, q1, q2, q3, q4, q5, q6] 26)).alloc (.cells #[p0, p1, p2, p3, p4, p5, p6] 26)).alloc (.cells #[.int .u8 0, .bool false, .slice none 0 0, .string ⟨#[]⟩, .int .i64 0, .slice none 0 0, .slice none 0 0] 26)) (w.heap.size + 1 + 1) #[.int .u8 0, .bool false, .slice none 0 0, .string ⟨#[]⟩, .int .i64 0, .slice none 0 0, .slice none 0 0] := Tb.new _ _ _ (by simp)
 have ENDZ : Hid (∀ V1 V2, Upd [] w V1 → Upd [w.heap.size + 1 + 1] V1 V2 → ConsQ w (d + 1) zeroT (.returned (.agg #[.int .u8 0, .bool false, .slice none 0 0, .string ⟨#[]⟩, .int .i64 0, .slice none 0 0, .slice none 0 0])) V2) := fun V1 V2 h1 h2 => ⟨zeroC, rfl, rfl, zero_in _ _, ⟨none, 0, 0, rfl, Nat.le_refl _, by omega⟩, h1.then h2 (by simp; omega), zero_sep _ _ _⟩
 have HU0 : Hid _ := hU0
 clear hU0 hh hin hzh hz ho0 ho1
 go_enter Tryz.func24, Tryz.ntmps24
 go_wp2_with (first | (refine load_T _ rfl _ rfl _ _ rfl tb0 rfl ?_) | fail)
 refine Calls.mono (HR1.out _ HU0.out) ?_
 rintro e w1 ⟨rfl, hU1⟩
 have tc1 := tb1.mono hU1 (by simp)
 have tc2 := tb2.mono hU1 (by simp)
 have U1 : Hid (Upd [] w w1) := HU0.out.trans hU1
 clear hU1 tb0 tb1 tb2 HU0
 cases o0 with
 | false =>
  go_wp2_with (refine store_V _ rfl _ _ rfl _ _ _ _ _ _ _ _ _ _ _ _ _ _ _ rfl rfl tc2 rfl ?_; intro w2 hT2 hU2)
  exact ret_T Tryz.results24 rfl _ _ rfl hT2 rfl (ENDZ.out _ _ U1.out hU2)
 | true =>
  have h1 : o1 = false := by simpa using hok
  subst h1
  go_wp2_with (first | (refine load_G _ _ rfl _ _ rfl tc1 rfl rfl ?_) | fail)
  refine Calls.mono (HR2.out w1 U1.out) ?_
  rintro e w2 ⟨rfl, hU2⟩
  have td2 := tc2.mono hU2 (by simp)
  have U2 : Hid (Upd [] w w2) := U1.out.trans hU2
  clear hU2 tc1 tc2
  go_wp2_with (refine store_V _ rfl _ _ rfl _ _ _ _ _ _ _ _ _ _ _ _ _ _ _ rfl rfl td2 rfl ?_; intro w3 hT3 hU3)
  exact ret_T Tryz.results24 rfl _ _ rfl hT3 rfl (ENDZ.out _ _ U2.out hU3)
end Go.Proofs.YtalhbbabijlngaaGreatDoor
namespace Go.Proofs.YtalhbbabijlngaaGreatDoor
open Go.RowKit
set_option maxHeartbeats 8000000 in
set_option maxRecDepth 100000 in
theorem Cons_listS (B d ci ct c : Nat) (num : Int) (neg : Bool) (s : ByteArray) (L : List Nat) (a ai at' : Option Addr) (I T : List Tm) (h : Tm) (q0 q1 q2 q3 q4 q5 q6 : Value) (w : World) (hB : B ≤ w.heap.size) (hh : InB (fun b => b < B) w (d + 1) [q0, q1, q2, q3, q4, q5, q6] h) (hin : InB (fun b => b < B) w (d + 1) [.int .u8 7, .bool neg, .slice a L.length c, .string s, .int .i64 num, .slice ai I.length ci, .slice at' T.length ct] (Tm.mk 7 num neg L s I T))
  (hzh : tsz h ≤ 1353245080330) (hz : tsz (Tm.mk 7 num neg L s I T) ≤ 1353245080330) (hok : okS (Tm.mk 7 num neg L s I T) = true) (hokh : okS h = true) :
  Calls Tryz.prog 24 #[.agg #[q0, q1, q2, q3, q4, q5, q6], .agg #[.int .u8 7, .bool neg, .slice a L.length c, .string s, .int .i64 num, .slice ai I.length ci, .slice at' T.length ct]] w (ConsQ w (d + 2) (pickT (okS (consT h I T)) (consT h I T))) := by
 have HR1 : Hid (∀ V, Upd [] w V → Calls Tryz.prog 9 #[.agg #[q0, q1, q2, q3, q4, q5, q6]] V fun e w' => e = .returned (.bool true) ∧ Upd [] V w') := fun V hU => by
  have := TRight_in (d + 1) V _ _ (In.mono hU _ _ _ (InB.plain _ _ _ hh)) hzh
  rw [hokh] at this
  exact this
 have HR2 : Hid (∀ V, Upd [] w V → Calls Tryz.prog 9 #[.agg #[.int .u8 7, .bool neg, .slice a L.length c, .string s, .int .i64 num, .slice ai I.length ci, .slice at' T.length ct]] V fun e w' => e = .returned (.bool true) ∧ Upd [] V w') := fun V hU => by
  have := TRight_in (d + 1) V _ _ (In.mono hU _ _ _ (InB.plain _ _ _ hin)) hz
  rw [hok] at this
  exact this
 have hone := (InB.plain _ _ _ hh).one
 have hb1 : belT h ≤ 4096 := by
  rw [okS_iff] at hokh
  have := bel_lt h
  omega
 have hb2 : I.length + belR I + (T.length + belR T) ≤ 4096 := by
  rw [okS_iff] at hok
  have := bel_lt (Tm.mk 7 num neg L s I T)
  rw [belT] at this
  omega
 have hz' := hz
 simp only [tsz] at hz
 have hzI : tszs I ≤ 1353245080330 := by omega
 have hzT : tszs T ≤ 1353245080330 := by omega
 have hLl : L.length ≤ 35184372088700 := by omega
 have hIl : I.length ≤ 1353245080330 := Nat.le_trans (tszs_len I) hzI
 have hTl : T.length ≤ 1353245080330 := Nat.le_trans (tszs_len T) hzT
 obtain ⟨_, _, _, _, _, _, e, _, _, hI, hT⟩ := hin
 simp only [List.cons.injEq, Value.slice.injEq, true_and, and_true] at e
 obtain ⟨e2, ⟨e5, e5'⟩, e6, e6'⟩ := e
 rw [← e5] at hI
 rw [← e6] at hT
 clear e2 e5 e5' e6 e6' hz hok hokh
 have hbl : (h :: I).length + belR (h :: I) ≤ 65536 := by simp only [List.length_cons, belR]; omega
 have hblT : T.length + belR T ≤ 65536 := by omega
 have hzJ : tszs (h :: I) ≤ 1353245080330 := by simp only [tszs]; omega
 have HI : Hid (RowB (fun b => b < B) (InB (fun b => b < B) w (d + 1)) w ai I) := by
  rcases hI with h | ⟨b, o, e, hb, hlt, hc⟩
  ·exact Or.inl h
  ·refine Or.inr ⟨b, o, e, hb, hlt, fun i hi => ?_⟩
   obtain ⟨cs, k1, k2, k3⟩ := hc i hi
   exact ⟨cs, k1, k2, InB.more _ _ _ k3⟩
 have HT : Hid (RowB (fun b => b < B) (InB (fun b => b < B) w (d + 1)) w at' T) := by
  rcases hT with h | ⟨b, o, e, hb, hlt, hc⟩
  ·exact Or.inl h
  ·refine Or.inr ⟨b, o, e, hb, hlt, fun i hi => ?_⟩
   obtain ⟨cs, k1, k2, k3⟩ := hc i hi
   exact ⟨cs, k1, k2, InB.more _ _ _ k3⟩
 clear hI hT
 have hU0 : Upd [] w (((w.alloc (.cells #[q0, q1, q2, q3, q4, q5, q6] 26)).alloc (.cells #[.int .u8 7, .bool neg, .slice a L.length c, .string s, .int .i64 num, .slice ai I.length ci, .slice at' T.length ct] 26)).alloc (.cells #[.int .u8 0, .bool false, .slice none 0 0, .string ⟨#[]⟩, .int .i64 0, .slice none 0 0, .slice none 0 0] 26)) := (((Upd.refl [] w).alloc _).alloc _).alloc _
 have tb0 : Tb (((w.alloc (.cells #[q0, q1, q2, q3, q4, q5, q6] 26)).alloc (.cells #[.int .u8 7, .bool neg, .slice a L.length c, .string s, .int .i64 num, .slice ai I.length ci, .slice at' T.length ct] 26)).alloc (.cells #[.int .u8 0, .bool false, .slice none 0 0, .string ⟨#[]⟩, .int .i64 0, .slice none 0 0, .slice none 0 0] 26)) w.heap.size #[q0, q1, q2, q3, q4, q5, q6] := ((Tb.new _ _ _ rfl).old _).old _
 have tb1 : Tb (((w.alloc (.cells #[q0, q1, q2, q3, q4, q5, q6] 26)).alloc (.cells #[.int .u8 7, .bool neg, .slice a L.length c, .string s, .int .i64 num, .slice ai I.length ci, .slice at' T.length ct] 26)).alloc (.cells #[.int .u8 0, .bool false, .slice none 0 0, .string ⟨#[]⟩, .int .i64 0, .slice none 0 0, .slice none 0 0] 26)) (w.heap.size + 1) #[.int .u8 7, .bool neg, .slice a L.length c, .string s, .int .i64 num, .slice ai I.length ci, .slice at' T.length ct] := (Tb.new _ _ _ (by simp)).old _
 have tb2 : Tb (((w.alloc (.cells #[q0, q1, q2, q3, q4, q5, q6] 26)).alloc (.cells #[.int .u8 7, .bool neg, .slice a L.length c, .string s, .int .i64 num, .slice ai I.length ci, .slice at' T.length ct] 26)).alloc (.cells #[.int .u8 0, .bool false, .slice none 0 0, .string ⟨#[]⟩, .int .i64 0, .slice none 0 0, .slice none 0 0] 26)) (w.heap.size + 1 + 1) #[.int .u8 0, .bool false, .slice none 0 0, .string ⟨#[]⟩, .int .i64 0, .slice none 0 0, .slice none 0 0] := Tb.new _ _ _ (by simp)
 obtain ⟨W, hW⟩ : ∃ W, W = (((w.alloc (.cells #[q0, q1, q2, q3, q4, q5, q6] 26)).alloc (.cells #[.int .u8 7, .bool neg, .slice a L.length c, .string s, .int .i64 num, .slice ai I.length ci, .slice at' T.length ct] 26)).alloc (.cells #[.int .u8 0, .bool false, .slice none 0 0, .string ⟨#[]⟩, .int .i64 0, .slice none 0 0, .slice none 0 0] 26)) := ⟨_, rfl⟩
 have hsW : W.heap.size = w.heap.size + 3 := by rw [hW]; simp
 obtain ⟨bb, hbb⟩ : ∃ b, okS (consT h I T) = b := ⟨_, rfl⟩
 have hzC : tsz (consT h I T) ≤ 1353245080330 := by unfold consT; simp only [tsz, tszs, List.length_nil]; omega
 rw [hbb]
 have HX0 : Hid (InB (fun b => b < B) w (d + 1) [q0, q1, q2, q3, q4, q5, q6] h) := hh
 have HOC : Hid (okS (consT h I T) = bb) := hbb
 have HZC : Hid (tsz (consT h I T) ≤ 1353245080330) := hzC
 clear hh hbb hzC hz'
 go_enter Tryz.func24, Tryz.ntmps24
 go_wp2_with (first | (refine load_T _ rfl _ rfl _ _ rfl tb0 rfl ?_) | fail)
 rw [← hW] at hU0 tb0 tb1 tb2 ⊢
 clear hW
 refine Calls.mono (HR1.out W hU0) ?_
 rintro e w1 ⟨rfl, hU1⟩
 have tc1 := tb1.mono hU1 (by simp)
 go_wp2_with (first | (refine load_G _ _ rfl _ _ rfl tc1 rfl rfl ?_) | fail)
 refine Calls.mono (HR2.out w1 (hU0.trans hU1)) ?_
 rintro e w2 ⟨rfl, hU2⟩
 have hU3 : Upd [] W w2 := hU1.trans hU2
 have td0 := tb0.mono hU3 (by simp)
 have td1 := tb1.mono hU3 (by simp)
 have td2 := tb2.mono hU3 (by simp)
 have hUa : Upd [] w2 (w2.alloc (.cells #[q0, q1, q2, q3, q4, q5, q6] 26)) := (Upd.refl [] w2).alloc _
 have te1 := td1.old (.cells #[q0, q1, q2, q3, q4, q5, q6] 26)
 have te2 := td2.old (.cells #[q0, q1, q2, q3, q4, q5, q6] 26)
 have tef : Tb (w2.alloc (.cells #[q0, q1, q2, q3, q4, q5, q6] 26)) w2.heap.size #[q0, q1, q2, q3, q4, q5, q6] := Tb.new _ _ _ rfl
 have x0 : (w2.alloc (.cells #[q0, q1, q2, q3, q4, q5, q6] 26)).cell? ⟨w.heap.size + 1, 0, none⟩ = some (.int .u8 7) := te1.cell 0
 have hUW2 : Upd [] w w2 := hU0.trans hU3
 have hsz2 : w.heap.size + 3 ≤ w2.heap.size := by have := hU3.size; omega
 obtain ⟨X, hX⟩ : ∃ X, X = w2.alloc (.cells #[q0, q1, q2, q3, q4, q5, q6] 26) := ⟨_, rfl⟩
 have HSX : Hid (X.heap.size = w2.heap.size + 1) := by show _ = _; rw [hX]; simp
 go_wp2_with (first | (refine load_T _ rfl _ rfl _ _ rfl td0 rfl ?_) | fail)
 rw [← hX] at hUa te1 te2 tef x0 ⊢
 have HUX : Hid (Upd [] w X) := hUW2.trans hUa
 have HTE2 : Hid (Tb X _ _) := te2
 have HTF : Hid (Tb X w2.heap.size #[q0, q1, q2, q3, q4, q5, q6]) := tef
 have x5 : X.cell? ⟨w.heap.size + 1, 5, none⟩ = some (.slice ai I.length ci) := te1.cell 5
 have x6 : X.cell? ⟨w.heap.size + 1, 6, none⟩ = some (.slice at' T.length ct) := te1.cell 6
 have hl1 : w.heap.size + 1 < X.heap.size := te1.lt
 clear td0 td1 td2 tb0 tb1 tb2 tc1 hU1 hU2 hU3 hU0 hUa te1 te2 tef hX hUW2 x0
 have HF1 : Hid (∀ V g, Upd [] X V → V.cell? ⟨g, 0, none⟩ = some (.slice (some ⟨w2.heap.size, 0, none⟩) 1 1) → V.cell? ⟨g, 1, none⟩ = some (.slice ai I.length ci) → Calls Tryz.prog 50 #[.slice (some ⟨g, 0, none⟩) 2 2] V (FreshS B V (d + 1) (h :: I))) := fun V g hU hc0 hc1 => by
  have hUV := HUX.out.trans hU
  have hr0 := Tb.row (R := InB (fun b => b < B) V (d + 1)) (cs := [q0, q1, q2, q3, q4, q5, q6]) (HTF.out.mono hU (by simp)) rfl (InB.upd hUV (by simp) (fun b hb _ => hb) _ _ _ HX0.out)
  exact fresh_twoS B g 2 1 ci (d + 1) _ ai h I _ (fun b => b < B) V (World.block_lt_of_cell? _ _ hc0) (Nat.le_trans hB hUV.size) hc0 hc1 hr0 (RowB.upd hUV (by simp) (fun b hb _ => hb) HI.out) hbl hzJ
 have HF2 : Hid (∀ V g, Upd [] X V → V.cell? ⟨g, 0, none⟩ = some (.slice at' T.length ct) → Calls Tryz.prog 50 #[.slice (some ⟨g, 0, none⟩) 1 1] V (FreshS B V (d + 1) T)) := fun V g hU hc => by
  have hUV := HUX.out.trans hU
  exact fresh_oneS B g 0 1 ct (d + 1) (fun b => b < B) at' T V (World.block_lt_of_cell? _ _ hc) (Nat.le_trans hB hUV.size) hc (RowB.upd hUV (by simp) (fun b hb _ => hb) HT.out) hblT hzT
 have HF3 : Hid (∀ V a3 c3 a4 c4, InB (Pl B X.heap.size) V (d + 2) [.int .u8 7, .bool false, .slice none 0 0, .string ⟨#[]⟩, .int .i64 0, .slice a3 (I.length + 1) c3, .slice a4 T.length c4] (consT h I T) → Calls Tryz.prog 63 #[.agg #[.int .u8 7, .bool false, .slice none 0 0, .string ⟨#[]⟩, .int .i64 0, .slice a3 (I.length + 1) c3, .slice a4 T.length c4]] V fun e w' => e = .returned (.agg #[.int .u8 (fk bb), .bool false, .slice none 0 0, .string ⟨#[]⟩, .int .i64 0, .slice (fa bb a3) (fn bb (I.length + 1)) (fn bb c3), .slice (fa bb a4) (fn bb T.length) (fn bb c4)]) ∧ Upd [] V w') := fun V a3 c3 a4 c4 hin => fit_gen (d + 2) _ _ _ _ _ _ V _ bb HOC.out (InB.plain _ _ _ hin) HZC.out
 clear HR1 HR2
 go_wp2_with fail
 go_region_held3 (fun w' => w'.cell? ⟨w.heap.size + 1, 5, none⟩ = some (.slice ai I.length ci) ∧ w'.cell? ⟨w.heap.size + 1, 6, none⟩ = some (.slice at' T.length ct))
  (go_keep)
  (first
   | (go_at_call 63; go_loud (refine Calls.mono (HF3.out _ a3 c3 a4 c4 ?_) ?_); go_loud (exact ⟨none, a3, a4, 0, c3, c4, rfl, Or.inl rfl, Dig.nil, RowB.upd (S := []) (w := w3) (Upd.trans uw4.out (by repeat (first | with_reducible exact Upd.refl _ _ | with_reducible refine Upd.drew ?_ | with_reducible refine Upd.alloc ?_ _))) (by simp) (fun b hb _ => hb) HR3.out, RowB.upd (S := []) (w := w4) (by repeat (first | with_reducible exact Upd.refl _ _ | with_reducible refine Upd.drew ?_ | with_reducible refine Upd.alloc ?_ _)) (by simp) (fun b hb _ => hb) HR4.out⟩); rintro e w5 ⟨rfl, hU5⟩; have uw5 : Hid (Upd [] w4 w5) := Upd.trans (by repeat (first | with_reducible exact Upd.refl _ _ | with_reducible refine Upd.drew ?_ | with_reducible refine Upd.alloc ?_ _)) hU5; clear hU5; have mx5 : w5.cell? ⟨w.heap.size + 1, 5, none⟩ = some (.slice ai I.length ci) := (((uw3.out.trans uw4.out).trans uw5.out).cell (p := ⟨w.heap.size + 1, 5, none⟩) hl1 (by simp)).trans x5; have mx6 : w5.cell? ⟨w.heap.size + 1, 6, none⟩ = some (.slice at' T.length ct) := (((uw3.out.trans uw4.out).trans uw5.out).cell (p := ⟨w.heap.size + 1, 6, none⟩) hl1 (by simp)).trans x6; have tbx := ((HTE2.out.mono uw3.out (by simp)).mono uw4.out (by simp)).mono uw5.out (by simp); have z0 : w5.cell? ⟨w.heap.size + 1 + 1, 0, none⟩ = some (.int .u8 0) := tbx.cell 0; have f0 : w5.frozen? ⟨w.heap.size + 1 + 1, 0, none⟩ = false := tbx.free 0; have z1 : w5.cell? ⟨w.heap.size + 1 + 1, 1, none⟩ = some (.bool false) := tbx.cell 1; have f1 : w5.frozen? ⟨w.heap.size + 1 + 1, 1, none⟩ = false := tbx.free 1; have z2 : w5.cell? ⟨w.heap.size + 1 + 1, 2, none⟩ = some (.slice none 0 0) := tbx.cell 2; have f2 : w5.frozen? ⟨w.heap.size + 1 + 1, 2, none⟩ = false := tbx.free 2; have z3 : w5.cell? ⟨w.heap.size + 1 + 1, 3, none⟩ = some (.string ⟨#[]⟩) := tbx.cell 3; have f3 : w5.frozen? ⟨w.heap.size + 1 + 1, 3, none⟩ = false := tbx.free 3; have z4 : w5.cell? ⟨w.heap.size + 1 + 1, 4, none⟩ = some (.int .i64 0) := tbx.cell 4; have f4 : w5.frozen? ⟨w.heap.size + 1 + 1, 4, none⟩ = false := tbx.free 4; have z5 : w5.cell? ⟨w.heap.size + 1 + 1, 5, none⟩ = some (.slice none 0 0) := tbx.cell 5; have f5 : w5.frozen? ⟨w.heap.size + 1 + 1, 5, none⟩ = false := tbx.free 5; have z6 : w5.cell? ⟨w.heap.size + 1 + 1, 6, none⟩ = some (.slice none 0 0) := tbx.cell 6; have f6 : w5.frozen? ⟨w.heap.size + 1 + 1, 6, none⟩ = false := tbx.free 6; have HTX : Hid (Tb w5 _ _) := tbx; clear tbx)
   | (go_at_call 50; (have _hw := uw3); go_loud (refine Calls.mono (HF2.out _ _ (by repeat (first | with_reducible exact Upd.refl _ _ | with_reducible exact uw3.out | with_reducible refine Upd.drew ?_ | with_reducible refine Upd.alloc ?_ _)) ?_) ?_); go_loud (first | exact nw0 _ _ _ | exact (HU3.out.cell (nvl _ _ _ _ _ _) (by simp)).trans (nv _ _ _ _ _ _) | exact (HU3.out.cell (nyl _ _ _ _ _ _) (by simp)).trans (ny _ _ _ _ _ _)); rintro e w4 ⟨a4, c4, rfl, hR4, hU4, _, _, LB4, RB4, hB4, hA4, hK4⟩; have uw4 : Hid (Upd [] w3 w4) := Upd.trans (by repeat (first | with_reducible exact Upd.refl _ _ | with_reducible refine Upd.drew ?_ | with_reducible refine Upd.alloc ?_ _)) hU4; have HR4 : Hid (RowB (Pl B X.heap.size) (InB (Pl B X.heap.size) w4 (d + 1)) w4 a4 T) := hR4.weak (Nat.le_trans uw3.out.size (Upd.size (w := w3) (S := []) (by repeat (first | with_reducible exact Upd.refl _ _ | with_reducible refine Upd.drew ?_ | with_reducible refine Upd.alloc ?_ _)))); have HS4 : Hid (SepR w3.heap.size w4.heap.size w4 (d + 1) (.slice a4 (T).length c4) T) := SepR.mk' hB4 hA4 (Upd.size (w := w3) (S := []) (by repeat (first | with_reducible exact Upd.refl _ _ | with_reducible refine Upd.drew ?_ | with_reducible refine Upd.alloc ?_ _))) hK4; clear hR4 hU4 hB4 hA4 hK4; have lx5 : w4.cell? ⟨w.heap.size + 1, 5, none⟩ = some (.slice ai I.length ci) := ((uw3.out.trans uw4.out).cell (p := ⟨w.heap.size + 1, 5, none⟩) hl1 (by simp)).trans x5; have lx6 : w4.cell? ⟨w.heap.size + 1, 6, none⟩ = some (.slice at' T.length ct) := ((uw3.out.trans uw4.out).cell (p := ⟨w.heap.size + 1, 6, none⟩) hl1 (by simp)).trans x6)
   | (go_at_call 50; go_loud (refine Calls.mono (HF1.out _ _ (by repeat (first | with_reducible exact Upd.refl _ _ | with_reducible refine Upd.drew ?_ | with_reducible refine Upd.alloc ?_ _)) ?_ ?_) ?_); go_loud (first | exact nt0 _ _ _ _ | exact nu0 _ _ _ _ _ _ | exact ny0 _ _ _ _ _ _); go_loud (first | exact nt1 _ _ _ _ | exact nu1 _ _ _ _ _ _ | exact ny1 _ _ _ _ _ _); rintro e w3 ⟨a3, c3, rfl, hR3, hU3, hC3, hC3b, LB3, RB3, hB3, hA3, hK3⟩; have uw3 : Hid (Upd [] X w3) := Upd.trans (by repeat (first | with_reducible exact Upd.refl _ _ | with_reducible refine Upd.drew ?_ | with_reducible refine Upd.alloc ?_ _)) hU3; have HR3 : Hid (RowB (Pl B X.heap.size) (InB (Pl B X.heap.size) w3 (d + 1)) w3 a3 (h :: I)) := hR3.weak (Upd.size (w := X) (S := []) (by repeat (first | with_reducible exact Upd.refl _ _ | with_reducible refine Upd.drew ?_ | with_reducible refine Upd.alloc ?_ _))); have HU3 : Hid (Upd [] _ w3) := hU3; have HC3 : Hid ((I.length + 1) ≤ c3 ∧ c3 ≤ 9223372036854775807) := ⟨hC3, hC3b⟩; have HS3 : Hid (SepR X.heap.size w3.heap.size w3 (d + 1) (.slice a3 ((h :: I)).length c3) (h :: I)) := SepR.mk' hB3 hA3 (Upd.size (w := X) (S := []) (by repeat (first | with_reducible exact Upd.refl _ _ | with_reducible refine Upd.drew ?_ | with_reducible refine Upd.alloc ?_ _))) hK3; clear hR3 hU3 hC3 hC3b hB3 hA3 hK3; have kx5 : w3.cell? ⟨w.heap.size + 1, 5, none⟩ = some (.slice ai I.length ci) := (uw3.out.cell (p := ⟨w.heap.size + 1, 5, none⟩) hl1 (by simp)).trans x5; have kx6 : w3.cell? ⟨w.heap.size + 1, 6, none⟩ = some (.slice at' T.length ct) := (uw3.out.cell (p := ⟨w.heap.size + 1, 6, none⟩) hl1 (by simp)).trans x6))
 all_goals
  have hsX2 := HSX.out
  obtain ⟨W5, hW5, hT5, hE5⟩ := cons_endS B X.heap.size (d + 1) (w.heap.size + 1 + 1) (I.length + 1) c3 T.length c4 a3 a4 (consT h I T) bb w w5 (by omega) (by omega) hB w3.heap.size w4.heap.size (h :: I) T rfl uw3.out.size (HS3.out.upd (S := []) (Upd.trans uw4.out uw5.out) (by simp)) (HS4.out.upd (S := []) uw5.out (by simp)) (((HUX.out.trans uw3.out).trans uw4.out).trans uw5.out) HTX.out HC3.out.1 HC3.out.2 (⟨none, a3, a4, 0, c3, c4, rfl, Or.inl rfl, Dig.nil, RowB.upd (S := []) (w := w3) (Upd.trans uw4.out uw5.out) (by simp) (fun b hb _ => hb) HR3.out, RowB.upd (S := []) (w := w4) uw5.out (by simp) (fun b hb _ => hb) HR4.out⟩)
  rw [← hW5]
  have HE5 : Hid _ := hE5
  clear z0 z1 z2 z3 z4 z5 z6 f0 f1 f2 f3 f4 f5 f6 hW5 hE5 hsX2 x5 x6 kx5 kx6 lx5 lx6 mx5 mx6
  go_wp2
  exact ret_T Tryz.results24 rfl _ _ rfl hT5 rfl (HE5.out _ rfl)
end Go.Proofs.YtalhbbabijlngaaGreatDoor
