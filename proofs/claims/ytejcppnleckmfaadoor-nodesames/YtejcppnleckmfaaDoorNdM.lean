/- Nodes as trees, how they stand in memory. -/
import Derived.Test.YtejcppnleckmfaaDoorNdB
namespace Go.Proofs.YtejcppnleckmfaaDoor
open Go.RowKit

/-- A node as a tree. -/
inductive Nd where
  | mk (k : Int) (s : ByteArray) (num pos : Int) (K : List Nd) : Nd

def Nd.kd : Nd → Int
  | .mk k _ _ _ _ => k
def Nd.kids : Nd → List Nd
  | .mk _ _ _ _ K => K

mutual
/-- How deep. -/
def depN : Nd → Nat
  | .mk _ _ _ _ K => 1 + depR K
def depR : List Nd → Nat
  | [] => 0
  | n :: r => max (depN n) (depR r)
end
mutual
/-- How many. -/
def manN : Nd → Nat
  | .mk _ _ _ _ K => 1 + manR K
def manR : List Nd → Nat
  | [] => 0
  | n :: r => manN n + manR r
end
mutual
/-- What NodesOf counts. -/
def cntN : Nd → Nat
  | .mk _ s _ _ K => 1 + s.size / 8 + cntL K
def cntL : List Nd → Nat
  | [] => 0
  | n :: r => cntN n + cntL r
end
mutual
/-- How long the longest row in a tree is. -/
def nsz : Nd → Nat
  | .mk _ _ _ _ K => nszs K
def nszs : List Nd → Nat
  | [] => 0
  | n :: r => max (r.length + 1) (max (nsz n) (nszs r))
end
mutual
/-- How long the longest text in a tree is. -/
def nxz : Nd → Nat
  | .mk _ s _ _ K => max s.size (nxzs K)
def nxzs : List Nd → Nat
  | [] => 0
  | n :: r => max (nxz n) (nxzs r)
end
theorem nszs_len (K : List Nd) : K.length ≤ nszs K := by
  cases K with
  | nil => simp
  | cons t r => simp only [nszs, List.length_cons]; omega
theorem nszs_get (K : List Nd) (i : Nat) (hi : i < K.length) : nsz K[i] ≤ nszs K := by
  induction K generalizing i with
  | nil => simp at hi
  | cons t r ih =>
    cases i with
    | zero => simp only [nszs, List.getElem_cons_zero]; omega
    | succ i =>
      simp only [nszs, List.getElem_cons_succ]
      have := ih i (by simpa using hi)
      omega
theorem nszs_le (N : Nat) (K : List Nd) (hl : K.length ≤ N) (h : ∀ i (hi : i < K.length), nsz K[i] ≤ N) : nszs K ≤ N := by
  induction K with
  | nil => simp [nszs]
  | cons t r ih =>
    have h0 := h 0 (by simp)
    have h1 := ih (by simp at hl; omega) (fun i hi => by have := h (i + 1) (by simpa using hi); simpa using this)
    simp only [nszs]
    simp at h0 hl
    omega
theorem nxzs_get (K : List Nd) (i : Nat) (hi : i < K.length) : nxz K[i] ≤ nxzs K := by
  induction K generalizing i with
  | nil => simp at hi
  | cons t r ih =>
    cases i with
    | zero => simp only [nxzs, List.getElem_cons_zero]; omega
    | succ i =>
      simp only [nxzs, List.getElem_cons_succ]
      have := ih i (by simpa using hi)
      omega
theorem nxzs_le (N : Nat) (K : List Nd) (h : ∀ i (hi : i < K.length), nxz K[i] ≤ N) : nxzs K ≤ N := by
  induction K with
  | nil => simp [nxzs]
  | cons t r ih =>
    have h0 := h 0 (by simp)
    have h1 := ih (fun i hi => by have := h (i + 1) (by simpa using hi); simpa using this)
    simp only [nxzs]
    simp at h0
    omega
theorem cntL_take (K : List Nd) (k : Nat) (hk : k < K.length) : cntL (K.take (k + 1)) = cntL (K.take k) + cntN K[k] := by
  induction K generalizing k with
  | nil => simp at hk
  | cons t r ih =>
    cases k with
    | zero => simp [cntL]
    | succ k => simp only [List.take_succ_cons, cntL, List.getElem_cons_succ]; rw [ih k (by simpa using hk), Nat.add_assoc]
theorem manR_take (K : List Nd) (k : Nat) (hk : k < K.length) : manR (K.take (k + 1)) = manR (K.take k) + manN K[k] := by
  induction K generalizing k with
  | nil => simp at hk
  | cons t r ih =>
    cases k with
    | zero => simp [manR]
    | succ k => simp only [List.take_succ_cons, manR, List.getElem_cons_succ]; rw [ih k (by simpa using hk), Nat.add_assoc]
theorem manR_le (K : List Nd) (k : Nat) : manR (K.take k) ≤ manR K := by
  induction K generalizing k with
  | nil => simp
  | cons t r ih =>
    cases k with
    | zero => simp [manR]
    | succ k => simp only [List.take_succ_cons, manR]; have := ih k; omega
theorem manR_get (K : List Nd) (k : Nat) (hk : k < K.length) : manN K[k] ≤ manR K := by
  induction K generalizing k with
  | nil => simp at hk
  | cons t r ih =>
    cases k with
    | zero => simp only [List.getElem_cons_zero, manR]; omega
    | succ k => simp only [List.getElem_cons_succ, manR]; have := ih k (by simpa using hk); omega
theorem man_pos (n : Nd) : 0 < manN n := by cases n; rw [manN]; omega
mutual
theorem man_cnt : ∀ n : Nd, manN n ≤ cntN n
  | .mk _ s _ _ K => by rw [manN, cntN]; have := man_cntL K; omega
theorem man_cntL : ∀ K : List Nd, manR K ≤ cntL K
  | [] => by simp [manR, cntL]
  | n :: r => by rw [manR, cntL]; have := man_cnt n; have := man_cntL r; omega
end
mutual
theorem dep_man : ∀ n : Nd, depN n ≤ manN n
  | .mk _ _ _ _ K => by rw [depN, manN]; have := dep_manR K; omega
theorem dep_manR : ∀ K : List Nd, depR K ≤ manR K
  | [] => by simp [depR]
  | n :: r => by rw [depR, manR]; have := dep_man n; have := dep_manR r; omega
end
theorem depR_get (K : List Nd) (k : Nat) (hk : k < K.length) : depN K[k] ≤ depR K := by
  induction K generalizing k with
  | nil => simp at hk
  | cons t r ih =>
    cases k with
    | zero => simp only [List.getElem_cons_zero, depR]; omega
    | succ k => simp only [List.getElem_cons_succ, depR]; have := ih k (by simpa using hk); omega

/-- A row of nodes in memory. -/
def RowN (R : List Value → Nd → Prop) (w : World) (a : Option Addr) (K : List Nd) : Prop :=
  K = [] ∨ ∃ b o, a = some ⟨b, o, none⟩ ∧ b < w.heap.size ∧ ∀ i (hi : i < K.length), ∃ cs : List Value, cs.length = 5 ∧ (∀ j, j < 5 → w.cell? ⟨b, o + (i * 5 + j), none⟩ = cs[j]?) ∧ R cs K[i]
/-- The five cells of a node stand for a tree; each row has the room that it is given. -/
def NIn (w : World) : Nat → List Value → Nd → Prop
  | 0, _, _ => False
  | d + 1, cs, .mk k s num pos K => ∃ (a : Option Addr) (c : Nat), cs = [.int .u8 k, .string s, .int .i64 num, .int .i64 pos, .slice a K.length c] ∧ RowN (NIn w d) w a K ∧ K.length ≤ c ∧ c ≤ 9223372036854775807

theorem RowN.imp {R S : List Value → Nd → Prop} {w w' : World} {a : Option Addr} {K : List Nd} (h : RowN R w a K) (hu : Upd [] w w') (himp : ∀ cs t, R cs t → S cs t) : RowN S w' a K := by
  rcases h with h | ⟨b, o, e, hlt, hc⟩
  · exact Or.inl h
  · refine Or.inr ⟨b, o, e, Nat.lt_of_lt_of_le hlt hu.size, fun i hi => ?_⟩
    obtain ⟨cs, h1, h2, h3⟩ := hc i hi
    exact ⟨cs, h1, fun j hj => (hu.cell (p := ⟨b, o + (i * 5 + j), none⟩) hlt (by simp)).trans (h2 j hj), himp _ _ h3⟩
theorem NIn.mono {w w' : World} (hu : Upd [] w w') : ∀ (d : Nat) (cs : List Value) (t : Nd), NIn w d cs t → NIn w' d cs t := by
  intro d
  induction d with
  | zero => intro cs t h; exact h.elim
  | succ d ih =>
    intro cs t h
    cases t with
    | mk k s num pos K =>
      obtain ⟨a, c, rfl, h1, hcp⟩ := h
      exact ⟨a, c, rfl, h1.imp hu ih, hcp⟩
theorem NIn.more {w : World} : ∀ (d : Nat) (cs : List Value) (t : Nd), NIn w d cs t → NIn w (d + 1) cs t := by
  intro d
  induction d with
  | zero => intro cs t h; exact h.elim
  | succ d ih =>
    intro cs t h
    cases t with
    | mk k s num pos K =>
      obtain ⟨a, c, rfl, h1, hcp⟩ := h
      exact ⟨a, c, rfl, h1.imp (Upd.refl [] w) ih, hcp⟩
theorem NIn.len {w : World} {d : Nat} {cs : List Value} {t : Nd} (h : NIn w d cs t) : cs.length = 5 := by
  cases d with
  | zero => exact h.elim
  | succ d =>
    cases t
    obtain ⟨_, _, rfl, _⟩ := h
    rfl
theorem NIn.five {w : World} {d : Nat} {cs : List Value} {t : Nd} (h : NIn w d cs t) : cs.toArray.size = 5 := by simpa using h.len
theorem NIn.one {w : World} {d : Nat} {cs : List Value} {t : Nd} (h : NIn w d cs t) : cs.toArray.all (·.oneCell') = true := by
  cases d with
  | zero => exact h.elim
  | succ d =>
    cases t
    obtain ⟨_, _, rfl, _⟩ := h
    simp [Value.oneCell']
theorem list5 {cs : List Value} (h : cs.length = 5) : ∃ c0 c1 c2 c3 c4, cs = [c0, c1, c2, c3, c4] := by
  match cs, h with
  | [c0, c1, c2, c3, c4], _ => exact ⟨c0, c1, c2, c3, c4, rfl⟩

end Go.Proofs.YtejcppnleckmfaaDoor
