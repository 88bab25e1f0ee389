/- The reference's atom, by its contract. -/
import Derived.Test.YtalhbbabijlngaaGreatDoorR2J
import Derived.Test.YtalhbbabijlngaaGreatDoorJAR
import Derived.Test.YtalhbbabijlngaaGreatDoorJAE
import Derived.Deep.AppendLies
import Derived.Deep.RegionHeld3
import Derived.Test.YtalhbbabijlngaaGreatDoorJAJ
import Derived.Test.YtalhbbabijlngaaGreatDoorJAL
import Derived.Lib.ItoaLen
import Derived.Test.YtalhbbabijlngaaGreatDoorJAI
namespace Go.Proofs.YtalhbbabijlngaaGreatDoor
open Go.RowKit
theorem set7 (w : World) (g : Nat) (old : Array Value) (q0 q1 q2 q3 q4 q5 q6 : Value) (ht : Tb w g old) (h7 : old.size = 7) : ∃ W5, W5 = ((((((w.setCell ⟨g, 0, none⟩ q0).setCell ⟨g, 1, none⟩ q1).setCell ⟨g, 2, none⟩ q2).setCell ⟨g, 3, none⟩ q3).setCell ⟨g, 4, none⟩ q4).setCell ⟨g, 5, none⟩ q5).setCell ⟨g, 6, none⟩ q6 ∧ Tb W5 g #[q0, q1, q2, q3, q4, q5, q6] ∧ Upd [g] w W5 := by
 obtain ⟨a0, a1, a2, a3, a4, a5, a6, rfl⟩ : ∃ a0 a1 a2 a3 a4 a5 a6, old = #[a0, a1, a2, a3, a4, a5, a6] := by
  obtain ⟨l⟩ := old
  obtain ⟨a0, a1, a2, a3, a4, a5, a6, h⟩ := list7 (cs := l) (by simpa using h7)
  exact ⟨a0, a1, a2, a3, a4, a5, a6, by rw [h]⟩
 have t1 : Tb (w.setCell ⟨g, 0, none⟩ q0) g #[q0, a1, a2, a3, a4, a5, a6] := ht.set 0 _
 have u1 : Upd [g] w (w.setCell ⟨g, 0, none⟩ q0) := (Upd.refl [g] w).setCell (Or.inr (by simp)) _
 obtain ⟨x1, h1⟩ : ∃ x, x = w.setCell ⟨g, 0, none⟩ q0 := ⟨_, rfl⟩
 rw [← h1] at t1 u1 ⊢
 have t2 : Tb (x1.setCell ⟨g, 1, none⟩ q1) g #[q0, q1, a2, a3, a4, a5, a6] := t1.set 1 _
 have u2 := u1.setCell (p := ⟨g, 1, none⟩) (Or.inr (by simp)) q1
 obtain ⟨x2, h2⟩ : ∃ x, x = x1.setCell ⟨g, 1, none⟩ q1 := ⟨_, rfl⟩
 rw [← h2] at t2 u2 ⊢
 have t3 : Tb (x2.setCell ⟨g, 2, none⟩ q2) g #[q0, q1, q2, a3, a4, a5, a6] := t2.set 2 _
 have u3 := u2.setCell (p := ⟨g, 2, none⟩) (Or.inr (by simp)) q2
 obtain ⟨x3, h3⟩ : ∃ x, x = x2.setCell ⟨g, 2, none⟩ q2 := ⟨_, rfl⟩
 rw [← h3] at t3 u3 ⊢
 have t4 : Tb (x3.setCell ⟨g, 3, none⟩ q3) g #[q0, q1, q2, q3, a4, a5, a6] := t3.set 3 _
 have u4 := u3.setCell (p := ⟨g, 3, none⟩) (Or.inr (by simp)) q3
 obtain ⟨x4, h4⟩ : ∃ x, x = x3.setCell ⟨g, 3, none⟩ q3 := ⟨_, rfl⟩
 rw [← h4] at t4 u4 ⊢
 have t5 : Tb (x4.setCell ⟨g, 4, none⟩ q4) g #[q0, q1, q2, q3, q4, a5, a6] := t4.set 4 _
 have u5 := u4.setCell (p := ⟨g, 4, none⟩) (Or.inr (by simp)) q4
 obtain ⟨x5, h5⟩ : ∃ x, x = x4.setCell ⟨g, 4, none⟩ q4 := ⟨_, rfl⟩
 rw [← h5] at t5 u5 ⊢
 have t6 : Tb (x5.setCell ⟨g, 5, none⟩ q5) g #[q0, q1, q2, q3, q4, q5, a6] := t5.set 5 _
 have u6 := u5.setCell (p := ⟨g, 5, none⟩) (Or.inr (by simp)) q5
 obtain ⟨x6, h6⟩ : ∃ x, x = x5.setCell ⟨g, 5, none⟩ q5 := ⟨_, rfl⟩
 rw [← h6] at t6 u6 ⊢
 have t7 : Tb (x6.setCell ⟨g, 6, none⟩ q6) g #[q0, q1, q2, q3, q4, q5, q6] := t6.set 6 _
 have u7 := u6.setCell (p := ⟨g, 6, none⟩) (Or.inr (by simp)) q6
 exact ⟨_, rfl, t7, u7⟩
theorem InB.shape {P : Nat → Prop} {w : World} {d : Nat} {cs : List Value} {t : Tm} (h : InB P w d cs t) : ∃ (k num : Int) (neg : Bool) (s : ByteArray) (a1 a2 a3 : Option Addr) (n1 n2 n3 c1 c2 c3 : Nat), cs = [.int .u8 k, .bool neg, .slice a1 n1 c1, .string s, .int .i64 num, .slice a2 n2 c2, .slice a3 n3 c3] := by
 cases d with
 | zero => exact h.elim
 | succ d =>
  cases t
  obtain ⟨_, _, _, _, _, _, rfl, _⟩ := h
  exact ⟨_, _, _, _, _, _, _, _, _, _, _, _, _, rfl⟩
def SplitP (B : Nat) (w : World) (d : Nat) (h r : Tm) (e : Ending) (w' : World) : Prop := ∃ cs cs' : List Value, cs.length = 7 ∧ cs'.length = 7 ∧ e = .returned (.tuple #[.agg cs.toArray, .agg cs'.toArray, .bool true]) ∧ InB (fun b => b < B ∨ w.heap.size ≤ b) w' d cs h ∧ InB (fun b => b < B ∨ w.heap.size ≤ b) w' d cs' r ∧ Upd [] w w'
end Go.Proofs.YtalhbbabijlngaaGreatDoor
