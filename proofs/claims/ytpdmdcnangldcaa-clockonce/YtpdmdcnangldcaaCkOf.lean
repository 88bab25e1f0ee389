/- A piece of a function's code, by its number. -/
import Derived.Test.YtpdmdcnangldcaaCkOm
import Derived.Deep.Cut
import Derived.Deep.CutRange
import Derived.Deep.DeepCutAuto
import Derived.Deep.CutBlock
import Derived.Deep.RegionHeld3
import Derived.BigQuiet
import Derived.Deep.QuietTactic
namespace Go.Proofs.Ytpdmdcnangldcaa
open Go.RowKit Go.Maps

/-- The block of that number. -/
def findB (n : Nat) : Code → Option Code
  | .seq a b => match findB n a with
    | some c => some c
    | none => findB n b
  | .cond _ a b => match findB n a with
    | some c => some c
    | none => findB n b
  | .block i b => if i = n then some (.block i b) else findB n b
  | .loop b => findB n b
  | _ => none
/-- The region of that number. -/
def findR (n : Nat) : Code → Option Code
  | .seq a b => match findR n a with
    | some c => some c
    | none => findR n b
  | .cond _ a b => match findR n a with
    | some c => some c
    | none => findR n b
  | .block _ b => findR n b
  | .loop b => findR n b
  | .region i ops d => if i = n then some (.region i ops d) else none
  | _ => none
theorem code_is {P : Program} {o : Option Code} {c l : Code} {Q : Exit → Act → World → Prop} {a : Act} {w : World} (h : o = some c) (hl : o = some l) (hw : l.wp P Q a w) : c.wp P Q a w := by
  rw [hl] at h
  cases h
  exact hw

def OnceR (w wr : World) (c D m : Nat) (s6 s7 : Value) : Prop := ∃ (i n : Nat) (P : Nat → Prop) (now : Int) (T : TF), s7 = .int .i64 (i : Nat) ∧ i ≤ m ∧ n ≤ i ∧ s6 = .int .i64 now ∧ 0 ≤ now ∧ now ≤ 63 * i ∧ OnC w wr c D n P now T T
def OnceC (w wr : World) (c D i : Nat) (s6 : Value) : Prop := ∃ (n : Nat) (P : Nat → Prop) (now : Int) (T : TF), n ≤ i + 1 ∧ s6 = .int .i64 now ∧ 0 ≤ now ∧ now ≤ 63 * (i + 1 : Nat) ∧ OnC w wr c D n P now T T

end Go.Proofs.Ytpdmdcnangldcaa
