/- What is still to be held against one another: pairs of rows. -/
import Derived.Test.YtejcppnleckmfaaDoorGnI
namespace Go.Proofs.YtejcppnleckmfaaDoor
open Go.RowKit

theorem NL.more {w : World} : ∀ (d : Nat) (cs : List Value) (t : Nd) (P : Nat → Prop), NL w d cs t P → NL w (d + 1) cs t P := by
  intro d
  induction d with
  | zero => intro cs t P h; exact h.elim
  | succ d ih =>
    intro cs t P h
    cases t with
    | mk k s num pos K =>
      obtain ⟨g, cap, rfl, h1, h2, h3⟩ := h
      exact ⟨g, cap, rfl, h1.upd (S := []) (Upd.refl [] w) (fun x _ => by simp) (fun x hx => hx) (fun cs t Q _ hR => ih cs t Q hR), h2, h3⟩
/-- A pair of rows. -/
structure Ent where
  ga : Nat
  ca : Nat
  gb : Nat
  cb : Nat
  K : List Nd
  J : List Nd
  PA : Nat → Prop
  PB : Nat → Prop
/-- Its cells. -/
def Ent.cells (e : Ent) : List Value := [.slice (some ⟨e.ga, 0, none⟩) e.K.length e.ca, .slice (some ⟨e.gb, 0, none⟩) e.J.length e.cb]
/-- Its rows stand. -/
structure Ent.Ok (w : World) (d : Nat) (A B : Nat → Prop) (e : Ent) : Prop where
  a : RowS (NL w d) w e.ga e.ca e.K e.PA
  b : RowS (NL w d) w e.gb e.cb e.J e.PB
  za : nszs e.K ≤ 20000
  zb : nszs e.J ≤ 20000
  sa : ∀ x, e.PA x → A x
  sb : ∀ x, e.PB x → B x
def Ent.sam (e : Ent) : Bool := samR e.K e.J
/-- How much is to be done. -/
def mass : List Ent → Nat
  | [] => 0
  | e :: r => (1 + 2 * manR e.K) + mass r
theorem mass_append : ∀ (E F : List Ent), mass (E ++ F) = mass E + mass F
  | [], F => by simp [mass]
  | e :: r, F => by simp only [List.cons_append, mass, mass_append r F]; omega
theorem exists_list {α : Type} {P : Nat → α → Prop} : ∀ n, (∀ i, i < n → ∃ t, P i t) → ∃ I : List α, I.length = n ∧ ∀ i (hi : i < I.length), P i I[i] := by
  intro n
  induction n with
  | zero => intro _; exact ⟨[], rfl, fun i hi => by simp at hi⟩
  | succ n ih =>
    intro h
    obtain ⟨I, h1, h2⟩ := ih (fun i hi => h i (by omega))
    obtain ⟨t, ht⟩ := h n (by omega)
    refine ⟨I ++ [t], by simp [h1], fun i hi => ?_⟩
    by_cases e : i < I.length
    · rw [List.getElem_append_left e]; exact h2 i e
    · have : i = n := by simp at hi; omega
      subst this
      rw [List.getElem_append_right (by omega)]
      simpa using ht
theorem alR_iff : ∀ (K J : List Nd), alR K J = true ↔ K.length = J.length ∧ ∀ i (h : i < K.length) (h' : i < J.length), heaN K[i] J[i] = true
  | [], [] => by simp [alR]
  | a :: r, b :: r' => by
    rw [alR, Bool.and_eq_true, alR_iff r r']
    constructor
    · rintro ⟨h1, h2, h3⟩
      refine ⟨by simp [h2], fun i h h' => ?_⟩
      cases i with
      | zero => exact h1
      | succ i => exact h3 i (by simpa using h) (by simpa using h')
    · rintro ⟨h1, h2⟩
      refine ⟨h2 0 (by simp) (by simp), by simpa using h1, fun i h h' => ?_⟩
      exact h2 (i + 1) (by simpa using h) (by simpa using h')
  | [], _ :: _ => by simp [alR]
  | _ :: _, [] => by simp [alR]
theorem samR_alR (K J : List Nd) (h : alR K J = false) : samR K J = false := by
  cases hs : samR K J with
  | false => rfl
  | true =>
    obtain ⟨h1, h2⟩ := (samR_iff K J).1 hs
    have : alR K J = true := (alR_iff K J).2 ⟨h1, fun i a b => by
      have := h2 i a b
      rw [samN_eq, Bool.and_eq_true] at this
      exact this.1⟩
    rw [this] at h
    cases h
/-- The kids' pairs. -/
structure Kids (w : World) (d : Nat) (A B : Nat → Prop) (e : Ent) (F : List Ent) : Prop where
  len : F.length = e.K.length
  ok : ∀ f ∈ F, f.Ok w d A B
  ca : ∀ i (hi : i < F.length), w.cell? ⟨e.ga, i * 5 + 4, none⟩ = some (.slice (some ⟨F[i].ga, 0, none⟩) F[i].K.length F[i].ca)
  cb : ∀ i (hi : i < F.length), w.cell? ⟨e.gb, i * 5 + 4, none⟩ = some (.slice (some ⟨F[i].gb, 0, none⟩) F[i].J.length F[i].cb)
  sub : ∀ f ∈ F, ∀ x, f.PA x → e.PA x ∧ x ≠ e.ga
  dis : F.Pairwise fun f f' => ∀ x, f.PA x → ¬ f'.PA x
  sam : alR e.K e.J = true → samR e.K e.J = F.all Ent.sam
  mass : mass F < 1 + 2 * manR e.K
theorem nsz_kids (t : Nd) : nszs t.kids = nsz t := by cases t; rfl
theorem man_kids (t : Nd) : manN t = 1 + manR t.kids := by cases t; rw [manN]; rfl
theorem RowS.kid {w : World} {d g cap : Nat} {K : List Nd} {P : Nat → Prop} (h : RowS (NL w d) w g cap K P) : ∃ Q : Nat → Nat → Prop, (∀ i x, i < K.length → Q i x → P x ∧ x ≠ g) ∧ (∀ i j x, i < K.length → j < K.length → i ≠ j → Q i x → ¬ Q j x) ∧ ∀ i (hi : i < K.length), ∃ g' c', w.cell? ⟨g, i * 5 + 4, none⟩ = some (.slice (some ⟨g', 0, none⟩) K[i].kids.length c') ∧ RowS (NL w d) w g' c' K[i].kids (Q i) := by
  obtain ⟨_, _, _, _, Q, h1, h2, h3⟩ := h
  refine ⟨Q, h1, h2, fun i hi => ?_⟩
  obtain ⟨cs, k1, k2, k3⟩ := h3 i hi
  cases d with
  | zero => exact k3.elim
  | succ d =>
    generalize hKi : K[i] = t at k3
    cases t with
    | mk k s num pos L =>
      obtain ⟨g', c', rfl, r1, r2, r3⟩ := k3
      exact ⟨g', c', k2 4 (by omega), r1.upd (S := []) (Upd.refl [] w) (fun x _ => by simp) (fun x hx => hx) (fun cs t Q _ hR => NL.more _ _ _ _ hR)⟩
theorem mass_kids : ∀ (K : List Nd) (F : List Ent), F.length = K.length → (∀ i (h : i < F.length) (h' : i < K.length), F[i].K = K[i].kids) → mass F ≤ 2 * manR K
  | [], F, hl, _ => by
    have : F = [] := List.eq_nil_of_length_eq_zero (by simpa using hl)
    subst this
    simp [mass]
  | t :: r, [], hl, _ => by simp at hl
  | t :: r, f :: F, hl, h => by
    have h0 : f.K = t.kids := h 0 (by simp) (by simp)
    have ih := mass_kids r F (by simpa using hl) (fun i a b => h (i + 1) (by simpa using a) (by simpa using b))
    rw [mass, manR, h0, man_kids]
    omega
theorem all_kids : ∀ (K J : List Nd) (F : List Ent), F.length = K.length → K.length = J.length → (∀ i (h : i < K.length) (h' : i < J.length), heaN K[i] J[i] = true) → (∀ i (h : i < F.length) (h1 : i < K.length) (h2 : i < J.length), F[i].K = K[i].kids ∧ F[i].J = J[i].kids) → samR K J = F.all Ent.sam
  | [], [], F, hl, _, _, _ => by
    have : F = [] := List.eq_nil_of_length_eq_zero (by simpa using hl)
    subst this
    simp [samR]
  | t :: r, [], _, _, h, _, _ => by simp at h
  | [], t :: r, _, _, h, _, _ => by simp at h
  | t :: r, u :: r', [], hl, _, _, _ => by simp at hl
  | t :: r, u :: r', f :: F, hl, hlJ, hh, h => by
    obtain ⟨a1, a2⟩ := h 0 (by simp) (by simp) (by simp)
    have a3 : heaN t u = true := hh 0 (by simp) (by simp)
    have ih := all_kids r r' F (by simpa using hl) (by simpa using hlJ) (fun i a b => hh (i + 1) (by simpa using a) (by simpa using b)) (fun i a b c => h (i + 1) (by simpa using a) (by simpa using b) (by simpa using c))
    have a1' : f.K = t.kids := a1
    have a2' : f.J = u.kids := a2
    rw [samR, List.all_cons, samN_eq, a3, Bool.true_and, ih, Ent.sam, a1', a2']
theorem kids_of {w : World} {d : Nat} {A B : Nat → Prop} {e : Ent} (h : e.Ok w d A B) (hl : e.K.length = e.J.length) : ∃ F, Kids w d A B e F := by
  obtain ⟨Q, q1, q2, q3⟩ := h.a.kid
  obtain ⟨R, r1, r2, r3⟩ := h.b.kid
  obtain ⟨F, hF, hP⟩ := exists_list (P := fun i (f : Ent) => ∃ (hi : i < e.K.length) (hj : i < e.J.length), w.cell? ⟨e.ga, i * 5 + 4, none⟩ = some (.slice (some ⟨f.ga, 0, none⟩) f.K.length f.ca) ∧ w.cell? ⟨e.gb, i * 5 + 4, none⟩ = some (.slice (some ⟨f.gb, 0, none⟩) f.J.length f.cb) ∧ f.K = e.K[i].kids ∧ f.J = e.J[i].kids ∧ f.PA = Q i ∧ f.PB = R i ∧ f.Ok w d A B) e.K.length (fun i hi => by
    obtain ⟨g', c', a1, a2⟩ := q3 i hi
    obtain ⟨g2, c2, b1, b2⟩ := r3 i (by omega)
    exact ⟨⟨g', c', g2, c2, e.K[i].kids, (e.J[i]'(by omega)).kids, Q i, R i⟩, hi, by omega, a1, b1, rfl, rfl, rfl, rfl, ⟨a2, b2, by rw [nsz_kids]; exact Nat.le_trans (nszs_get e.K i hi) h.za, by rw [nsz_kids]; exact Nat.le_trans (nszs_get e.J i (by omega)) h.zb, fun x hx => h.sa x (q1 i x hi hx).1, fun x hx => h.sb x (r1 i x (by omega) hx).1⟩⟩)
  refine ⟨F, hF, fun f hf => ?_, fun i hi => ?_, fun i hi => ?_, fun f hf x hx => ?_, ?_, fun ha => ?_, ?_⟩
  · obtain ⟨i, hi, rfl⟩ := List.mem_iff_getElem.1 hf
    obtain ⟨_, _, _, _, _, _, _, _, h9⟩ := hP i hi
    exact h9
  · obtain ⟨_, _, h3, _⟩ := hP i hi
    exact h3
  · obtain ⟨_, _, _, h4, _⟩ := hP i hi
    exact h4
  · obtain ⟨i, hi, rfl⟩ := List.mem_iff_getElem.1 hf
    obtain ⟨h1, _, _, _, _, _, h7, _⟩ := hP i hi
    rw [h7] at hx
    exact q1 i x h1 hx
  · rw [List.pairwise_iff_getElem]
    intro i j hi hj hij x hx hx2
    obtain ⟨h1, _, _, _, _, _, h7, _⟩ := hP i hi
    obtain ⟨k1, _, _, _, _, _, k7, _⟩ := hP j hj
    rw [h7] at hx
    rw [k7] at hx2
    exact q2 i j x h1 k1 (by omega) hx hx2
  · obtain ⟨_, hh⟩ := (alR_iff e.K e.J).1 ha
    refine all_kids e.K e.J F hF hl hh (fun i a b c => ?_)
    obtain ⟨_, _, _, _, h5, h6, _⟩ := hP i a
    exact ⟨h5, h6⟩
  · have := mass_kids e.K F hF (fun i a b => by
      obtain ⟨_, _, _, _, h5, _⟩ := hP i a
      exact h5)
    omega

end Go.Proofs.YtejcppnleckmfaaDoor
