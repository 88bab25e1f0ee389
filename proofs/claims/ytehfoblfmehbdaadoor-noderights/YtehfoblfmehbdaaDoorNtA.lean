/- What has a role, role by role: mathematics. -/
import Derived.Test.YtehfoblfmehbdaaDoorJAG
namespace Go.Proofs.YtehfoblfmehbdaaDoor
open Go.RowKit

/-- Bare: neither text nor number, a place. -/
def plB (s : ByteArray) (num pos : Int) : Bool := decide (s.size = 0) && (num == 0) && decide (0 ≤ pos)
def Nd.tx : Nd → ByteArray
  | .mk _ s _ _ _ => s
def Nd.num : Nd → Int
  | .mk _ _ n _ _ => n
def Nd.pos : Nd → Int
  | .mk _ _ _ p _ => p
theorem isR_one (r : Int) : ∀ K : List Nd, isR [r] K = K.all (isB r)
  | [] => rfl
  | n :: K => by
    rw [isR, List.all_cons]
    have h1 : rol [r] 0 = r := rfl
    have h2 : nxt [r] = [r] := rfl
    rw [h1, h2, isR_one r K]
theorem isR_two (r q : Int) (n : Nd) (K : List Nd) : isR [r, q] (n :: K) = (isB r n && K.all (isB q)) := by
  rw [isR]
  have h1 : rol [r, q] 0 = r := rfl
  have h2 : nxt [r, q] = [q] := rfl
  rw [h1, h2, isR_one]
theorem isR_none (K : List Nd) (h : K.length = 0) : isR [] K = true := by
  rw [List.eq_nil_of_length_eq_zero h]; rfl
theorem isR_three (r q u : Int) (a b c : Nd) : isR [r, q, u] [a, b, c] = (isB r a && (isB q b && isB u c)) := by
  rw [isR, isR, isR, isR]
  have h1 : rol [r, q, u] 0 = r := rfl
  have h2 : nxt [r, q, u] = [q, u] := rfl
  have h3 : rol [q, u] 0 = q := rfl
  have h4 : nxt [q, u] = [u] := rfl
  have h5 : rol [u] 0 = u := rfl
  rw [h1, h2, h3, h4, h5, Bool.and_true]

theorem isB_eq (r k : Int) (s : ByteArray) (num pos : Int) (K : List Nd) (f : Fm) (h : formAt k r = some f) : isB r (.mk k s num pos K) = (kidsN f K.length && (isR f.ks K && fldB (.mk k s num pos K))) := by
  rw [isB, h]
theorem isB_none (r k : Int) (s : ByteArray) (num pos : Int) (K : List Nd) (h : formAt k r = none) : isB r (.mk k s num pos K) = false := by
  rw [isB, h]
theorem formAt_no (k r : Int) (h : ∀ f ∈ formsL, (f.ro == rr k r && f.kd == k) = false) : formAt k r = none := by
  unfold formAt
  rw [List.find?_eq_none]
  intro f hf
  have := h f hf
  unfold rr at this
  simp [this]
theorem fld19 (s : ByteArray) (num pos : Int) (K : List Nd) : fldB (.mk 19 s num pos K) = plB s num pos := by
  simp [fldB, txB, nmB, plB]
  cases decide (0 ≤ pos) <;> cases decide (s.size = 0) <;> simp
theorem fld20 (s : ByteArray) (num pos : Int) (K : List Nd) : fldB (.mk 20 s num pos K) = plB s num pos := by
  simp [fldB, txB, nmB, plB]
  cases decide (0 ≤ pos) <;> cases decide (s.size = 0) <;> simp

end Go.Proofs.YtehfoblfmehbdaaDoor
