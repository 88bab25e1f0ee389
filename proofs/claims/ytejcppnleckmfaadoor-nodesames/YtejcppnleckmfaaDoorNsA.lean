/- Nodes that are the same but for places; nodes that are lent: each row in a block of its own. -/
import Derived.Test.YtejcppnleckmfaaDoorNdF
namespace Go.Proofs.YtejcppnleckmfaaDoor
open Go.RowKit

mutual
/-- The same but for places. -/
def samN : Nd → Nd → Bool
  | .mk k s num _ K, .mk k' s' num' _ K' => (k == k' && num == num' && s.toList == s'.toList) && samR K K'
def samR : List Nd → List Nd → Bool
  | [], [] => true
  | a :: r, b :: r' => samN a b && samR r r'
  | [], _ :: _ => false
  | _ :: _, [] => false
end
/-- The same but for places and kids. -/
def heaN : Nd → Nd → Bool
  | .mk k s num _ _, .mk k' s' num' _ _ => k == k' && num == num' && s.toList == s'.toList
theorem samR_len : ∀ (K K' : List Nd), samR K K' = true → K.length = K'.length
  | [], [], _ => rfl
  | a :: r, b :: r', h => by
    rw [samR, Bool.and_eq_true] at h
    simp [samR_len r r' h.2]
  | [], _ :: _, h => by simp [samR] at h
  | _ :: _, [], h => by simp [samR] at h
theorem samR_iff : ∀ (K K' : List Nd), samR K K' = true ↔ K.length = K'.length ∧ ∀ i (h : i < K.length) (h' : i < K'.length), samN K[i] K'[i] = true
  | [], [] => by simp [samR]
  | a :: r, b :: r' => by
    rw [samR, Bool.and_eq_true, samR_iff r r']
    constructor
    · rintro ⟨h1, h2, h3⟩
      refine ⟨by simp [h2], fun i h h' => ?_⟩
      cases i with
      | zero => exact h1
      | succ i => exact h3 i (by simpa using h) (by simpa using h')
    · rintro ⟨h1, h2⟩
      refine ⟨h2 0 (by simp) (by simp), by simpa using h1, fun i h h' => ?_⟩
      exact h2 (i + 1) (by simpa using h) (by simpa using h')
  | [], _ :: _ => by simp [samR]
  | _ :: _, [] => by simp [samR]
theorem samN_eq (a b : Nd) : samN a b = (heaN a b && samR a.kids b.kids) := by
  cases a; cases b; rfl

/-- The cells of a mark among nodes. -/
def markN (i : Nat) : List Value := [.int .u8 0, .string ⟨#[]⟩, .int .i64 0, .int .i64 ((8000024 + i : Nat) : Int), .slice none 0 0]
def markT (i : Nat) : Nd := .mk 0 ⟨#[]⟩ 0 ((8000024 + i : Nat) : Int) []
theorem markN_in (w : World) (i : Nat) : NIn w 1 (markN i) (markT i) := ⟨none, 0, rfl, Or.inl rfl, by simp, by omega⟩

/-- A row of nodes in an unmarked block of its own, its kids' rows in others, all apart. -/
def RowS (R : List Value → Nd → (Nat → Prop) → Prop) (w : World) (g cap : Nat) (K : List Nd) (P : Nat → Prop) : Prop :=
  P g ∧ (∃ cur : Array Value, w.heap[g]? = some (.cells cur 25 (0, 0)) ∧ K.length * 5 ≤ cur.size) ∧ K.length ≤ cap ∧ cap ≤ 9223372036854775807 ∧
    ∃ Q : Nat → Nat → Prop, (∀ i x, i < K.length → Q i x → P x ∧ x ≠ g) ∧ (∀ i j x, i < K.length → j < K.length → i ≠ j → Q i x → ¬ Q j x) ∧
      ∀ i (hi : i < K.length), ∃ cs : List Value, cs.length = 5 ∧ (∀ j, j < 5 → w.cell? ⟨g, i * 5 + j, none⟩ = cs[j]?) ∧ R cs K[i] (Q i)
/-- The five cells of a node that is lent: its rows in blocks of which P holds, with marks behind them. -/
def NL (w : World) : Nat → List Value → Nd → (Nat → Prop) → Prop
  | 0, _, _, _ => False
  | d + 1, cs, .mk k s num pos K, P => ∃ (g cap : Nat), cs = [.int .u8 k, .string s, .int .i64 num, .int .i64 pos, .slice (some ⟨g, 0, none⟩) K.length cap] ∧ RowS (NL w d) w g cap K P ∧ K.length + 12 ≤ cap ∧
      ∀ i, i < 12 → ∀ j, j < 5 → w.cell? ⟨g, (K.length + i) * 5 + j, none⟩ = (markN i)[j]?

theorem RowS.lt {R : List Value → Nd → (Nat → Prop) → Prop} {w : World} {g cap : Nat} {K : List Nd} {P : Nat → Prop} (h : RowS R w g cap K P) : g < w.heap.size := by
  obtain ⟨_, ⟨cur, h1, _⟩, _⟩ := h
  exact lt_of_block h1
theorem RowS.upd {R R' : List Value → Nd → (Nat → Prop) → Prop} {S : List Nat} {w w' : World} {g cap : Nat} {K : List Nd} {P P' : Nat → Prop} (h : RowS R w g cap K P) (hu : Upd S w w') (hn : ∀ x, P x → x ∉ S) (hP : ∀ x, P x → P' x)
    (hR : ∀ cs t Q, (∀ x, Q x → x ∉ S) → R cs t Q → R' cs t Q) : RowS R' w' g cap K P' := by
  have hlt := h.lt
  obtain ⟨h1, ⟨cur, h2, h3⟩, h4, h5, Q, h6, h7, h8⟩ := h
  refine ⟨hP g h1, ⟨cur, (hu.block g hlt (hn g h1)).trans h2, h3⟩, h4, h5, Q, fun i x hi hx => ⟨hP x (h6 i x hi hx).1, (h6 i x hi hx).2⟩, h7, fun i hi => ?_⟩
  obtain ⟨cs, k1, k2, k3⟩ := h8 i hi
  exact ⟨cs, k1, fun j hj => (hu.cell (p := ⟨g, i * 5 + j, none⟩) hlt (hn g h1)).trans (k2 j hj), hR _ _ _ (fun x hx => hn x (h6 i x hi hx).1) k3⟩
theorem NL.upd {S : List Nat} {w w' : World} (hu : Upd S w w') : ∀ (d : Nat) (cs : List Value) (t : Nd) (P : Nat → Prop), (∀ x, P x → x ∉ S) → NL w d cs t P → NL w' d cs t P := by
  intro d
  induction d with
  | zero => intro cs t P _ h; exact h.elim
  | succ d ih =>
    intro cs t P hn h
    cases t with
    | mk k s num pos K =>
      obtain ⟨g, cap, rfl, h1, h2, h3⟩ := h
      exact ⟨g, cap, rfl, h1.upd hu hn (fun x hx => hx) (fun cs t Q hx hR => ih cs t Q hx hR), h2, fun i hi j hj => (hu.cell (p := ⟨g, (K.length + i) * 5 + j, none⟩) h1.lt (hn g h1.1)).trans (h3 i hi j hj)⟩
theorem NL.wide {w : World} {d : Nat} {cs : List Value} {t : Nd} {P P' : Nat → Prop} (h : NL w d cs t P) (hP : ∀ x, P x → P' x) : NL w d cs t P' := by
  cases d with
  | zero => exact h.elim
  | succ d =>
    cases t with
    | mk k s num pos K =>
      obtain ⟨g, cap, rfl, h1, h2, h3⟩ := h
      exact ⟨g, cap, rfl, h1.upd (S := []) (Upd.refl [] w) (fun x _ => by simp) hP (fun cs t Q _ hR => hR), h2, h3⟩
theorem RowS.plain {R : List Value → Nd → (Nat → Prop) → Prop} {Z : List Value → Nd → Prop} {w : World} {g cap : Nat} {K : List Nd} {P : Nat → Prop} (h : RowS R w g cap K P) (hR : ∀ cs t Q, R cs t Q → Z cs t) : RowN Z w (some ⟨g, 0, none⟩) K := by
  have hlt := h.lt
  obtain ⟨h1, _, h4, h5, Q, h6, h7, h8⟩ := h
  refine Or.inr ⟨g, 0, rfl, hlt, fun i hi => ?_⟩
  obtain ⟨cs, k1, k2, k3⟩ := h8 i hi
  exact ⟨cs, k1, fun j hj => by rw [Nat.zero_add]; exact k2 j hj, hR _ _ _ k3⟩
/-- What is lent is the node. -/
theorem NL.plain {w : World} : ∀ (d : Nat) (cs : List Value) (t : Nd) (P : Nat → Prop), NL w d cs t P → NIn w d cs t := by
  intro d
  induction d with
  | zero => intro cs t P h; exact h.elim
  | succ d ih =>
    intro cs t P h
    cases t with
    | mk k s num pos K =>
      obtain ⟨g, cap, rfl, h1, h2, h3⟩ := h
      exact ⟨_, cap, rfl, h1.plain ih, h1.2.2.1, h1.2.2.2.1⟩
theorem NIn.shape {w : World} {d : Nat} {cs : List Value} {t : Nd} (h : NIn w d cs t) : ∃ (k : Int) (s : ByteArray) (num pos : Int) (a : Option Addr) (n c : Nat), cs = [.int .u8 k, .string s, .int .i64 num, .int .i64 pos, .slice a n c] := by
  cases d with
  | zero => exact h.elim
  | succ d =>
    cases t with
    | mk k s num pos K =>
      obtain ⟨a, c, rfl, _⟩ := h
      exact ⟨k, s, num, pos, _, _, _, rfl⟩

end Go.Proofs.YtejcppnleckmfaaDoor
