/- Tokens in memory; what is told of a source, step by step. -/
import Derived.Test.YtiapdapkklcliaaGreatDoorRd
import Derived.Test.YtiapdapkklcliaaGreatDoorCln
namespace Go.Proofs.YtiapdapkklcliaaGreatDoor
open Go.RowKit

/-- A token's cells. -/
def tokC (t : Sc.Tok) : List Value := [.int .u8 t.kind, .string (str t.text), .int .i64 t.place]
def toksC (l : List Sc.Tok) : List Value := l.flatMap tokC
/-- Tokens that the call has made itself. -/
def OT (w : World) (base : Nat) (v : Value) (l : List Sc.Tok) : Prop := Own w base 43 3 v l.length (toksC l)
theorem toksC_snoc (l : List Sc.Tok) (t : Sc.Tok) : toksC (l ++ [t]) = toksC l ++ tokC t := by simp [toksC]
theorem OT.snoc {w : World} {base : Nat} {v : Value} {l : List Sc.Tok} {t : Sc.Tok} (h : w.ownsRow base 43 3 v (l.length + 1) (toksC l ++ tokC t)) : OT w base v (l ++ [t]) := by
  unfold OT Own
  rw [List.length_append, toksC_snoc]; exact h

/-- These ahead of what is told. -/
def pre (l : List Sc.Tok) : Sc.Told → Sc.Told
  | .ok m => .ok (l ++ m)
  | .fault e k => .fault e k
theorem pre_nil (r : Sc.Told) : pre [] r = r := by cases r <;> rfl
theorem pre_cons (l : List Sc.Tok) (t : Sc.Tok) (r : Sc.Told) : pre l (r.cons t) = pre (l ++ [t]) r := by
  cases r with
  | ok m => simp [pre, Sc.Told.cons]
  | fault e k => rfl
theorem toks_end (place : Nat) (l : List UInt8) (h : l = []) : Sc.toks place l = .ok [⟨8, [], place⟩] := by rw [h, Sc.toks]
theorem toks_bad (place : Nat) (l : List UInt8) (h : l ≠ []) (e : Nat) (hr : Sc.read l = .bad e) : Sc.toks place l = .fault e place := by
  cases l with
  | nil => exact absurd rfl h
  | cons c r => rw [Sc.toks.eq_def]; simp only [hr]
theorem toks_tok (place : Nat) (l : List UInt8) (h : l ≠ []) (k n : Nat) (t : List UInt8) (hr : Sc.read l = .tok k t n) : Sc.toks place l = (Sc.toks (place + n + Sc.gap (l.drop n)) (l.drop (n + Sc.gap (l.drop n)))).cons ⟨k, t, place⟩ := by
  have hs := Sc.read_size _ _ _ _ hr
  cases l with
  | nil => exact absurd rfl h
  | cons c r =>
    rw [Sc.toks.eq_def]
    simp only [hr, hs.1, dif_pos, List.drop_drop]

end Go.Proofs.YtiapdapkklcliaaGreatDoor
