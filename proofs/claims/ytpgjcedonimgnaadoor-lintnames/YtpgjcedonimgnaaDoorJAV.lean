/- A fault's number is never 0. -/
import Derived.Test.YtpgjcedonimgnaaDoorJBU

namespace Go.Proofs.YtpgjcedonimgnaaDoor
open Go.RowKit

def NzE {α : Type} (x : Except Flt α) : Prop := ∀ e, x = .error e → e.1 ≠ 0
def NzO (x : Option Flt) : Prop := ∀ e, x = some e → e.1 ≠ 0
theorem nz_ok {α : Type} (f : α) : NzE (.ok f) := fun _ h => by cases h
theorem nz_er {α : Type} {a b : Int} (h : a ≠ 0) : NzE (.error (a, b) : Except Flt α) := fun _ e => by cases e; exact h
theorem nz_no : NzO none := fun _ h => by cases h
theorem nz_so {a b : Int} (h : a ≠ 0) : NzO (some (a, b)) := fun _ e => by cases e; exact h
theorem nz_keep {α β : Type} {x : Except Flt α} {e : Flt} (h : NzE x) (hx : x = .error e) : NzE (.error e : Except Flt β) := fun e' he => by cases he; exact h e hx
theorem nz_var (ch : List Fr) (s : ByteArray) (pos : Int) : NzO (varF ch s pos) := by
  unfold varF
  split
  · exact nz_no
  · split
    · exact nz_so (by decide)
    · exact nz_so (by decide)
theorem nz_pats (r : List Fr) : ∀ (K : List Nd), (∀ t ∈ K, ∀ f, NzE (patF r t f)) → ∀ f, NzE (patsF r K f)
  | [], _, f => by rw [patsF]; exact nz_ok f
  | n :: K, h, f => by
    rw [patsF]
    cases hx : patF r n f with
    | error e => exact nz_keep (h n (by simp) f) hx
    | ok f' => exact nz_pats r K (fun t ht => h t (by simp [ht])) f'
theorem nz_pat (r : List Fr) : ∀ (n : Nat) (t : Nd), SizeOf.sizeOf t < n → ∀ f, NzE (patF r t f)
  | 0, _, h, _ => by omega
  | n + 1, .mk k s num pos K, h, f => by
    have hK : ∀ t ∈ K, ∀ f, NzE (patF r t f) := fun t ht => nz_pat r n t (by have := (Bel.kid (k := k) (num := num) (pos := pos) (s := s) ht).1; omega)
    rw [patF]
    split
    · exact nz_ok f
    split
    · split <;> exact nz_ok _
    split
    · exact nz_pats r K hK f
    split
    · exact nz_ok f
    · exact nz_er (by decide)
theorem nz_grds (ch : List Fr) : ∀ (K : List Nd), (∀ t ∈ K, NzO (grdF ch t)) → NzO (grdsF ch K)
  | [], _ => by rw [grdsF]; exact nz_no
  | n :: K, h => by
    rw [grdsF]
    cases hx : grdF ch n with
    | some e => exact fun e' he => by cases he; exact h n (by simp) e hx
    | none => exact nz_grds ch K (fun t ht => h t (by simp [ht]))
theorem nz_grd (ch : List Fr) : ∀ (n : Nat) (t : Nd), SizeOf.sizeOf t < n → NzO (grdF ch t)
  | 0, _, h => by omega
  | n + 1, .mk k s num pos K, h => by
    have hK : ∀ t ∈ K, NzO (grdF ch t) := fun t ht => nz_grd ch n t (by have := (Bel.kid (k := k) (num := num) (pos := pos) (s := s) ht).1; omega)
    rw [grdF]
    split
    · exact nz_grds ch K hK
    split
    · cases hx : varF ch s pos with
      | some e => exact fun e' he => by cases he; exact nz_var ch s pos e hx
      | none => exact nz_grds ch K hK
    split
    · split
      · exact nz_grds ch K hK
      · exact nz_so (by decide)
    split
    · split
      · cases K with
        | nil => rw [grdtF]; exact nz_no
        | cons c K => rw [grdtF]; exact nz_grds ch K (fun t ht => hK t (by simp [ht]))
      · exact nz_so (by decide)
    · exact nz_so (by decide)
theorem nz_rows (ch : List Fr) : ∀ (K : List Nd), NzO (rowsF ch K)
  | [] => by rw [rowsF]; exact nz_no
  | n :: K => by
    rw [rowsF]
    cases hx : grdsF ch n.kids with
    | some e => exact fun e' he => by cases he; exact nz_grds ch n.kids (fun t _ => nz_grd ch _ t (Nat.lt_succ_self _)) e hx
    | none => exact nz_rows ch K
theorem nz_alike (n : Int) : ∀ (K : List Nd), NzO (alikeF n K)
  | [] => by rw [alikeF]; exact nz_no
  | c :: K => by
    rw [alikeF]
    split
    · exact nz_so (by decide)
    split
    · exact nz_so (by decide)
    · exact nz_alike n K

section
variable (hs : ByteArray → Int → Bool)
def ZE (t : Nd) : Prop := ∀ md r f, NzE (exprF hs t md r f)
def ZB (t : Nd) : Prop := ∀ r f, NzE (bodyF hs t r f)
def ZC (t : Nd) : Prop := ∀ r f, NzE (clauseF hs t r f)
def ZA (t : Nd) : Prop := ∀ r f, NzE (afterF hs t r f)
theorem nz_exprs : ∀ (K : List Nd), (∀ t ∈ K, ZE hs t) → ∀ r f, NzE (exprsF hs K r f)
  | [], _, r, f => by rw [exprsF]; exact nz_ok f
  | n :: K, hK, r, f => by
    rw [exprsF]
    cases hx : exprF hs n 0 r f with
    | error e => exact nz_keep (hK n (by simp) _ _ _) hx
    | ok f' => exact nz_exprs K (fun t ht => hK t (by simp [ht])) _ _
theorem nz_items : ∀ (K : List Nd), (∀ t ∈ K, ZE hs t) → ∀ r f, NzE (itemsF hs K r f)
  | [], _, r, f => by rw [itemsF]; exact nz_ok f
  | n :: K, hK, r, f => by
    rw [itemsF]
    cases hx : exprF hs n 1 r f with
    | error e => exact nz_keep (hK n (by simp) _ _ _) hx
    | ok f' => exact nz_items K (fun t ht => hK t (by simp [ht])) _ _
theorem nz_steps : ∀ (K : List Nd), (∀ t ∈ K, ZE hs t) → ∀ r f, NzE (stepsF hs K r f)
  | [], _, r, f => by rw [stepsF]; exact nz_ok f
  | n :: K, hK, r, f => by
    rw [stepsF]
    cases hx : exprF hs n 2 r f with
    | error e => exact nz_keep (hK n (by simp) _ _ _) hx
    | ok f' => exact nz_steps K (fun t ht => hK t (by simp [ht])) _ _
theorem nz_body {t : Nd} (h : ∀ x ∈ t.kids, ZE hs x) : ZB hs t := by
  obtain ⟨k, s, num, pos, K⟩ := t
  intro r f
  rw [bodyF]
  exact nz_items hs K h r f
theorem nz_clause {t : Nd} (h : ∀ x ∈ t.kids, ZB hs x) : ZC hs t := by
  obtain ⟨k, s, num, pos, K⟩ := t
  intro r f
  match K, h with
  | [P, G, B], h =>
    rw [clauseF]
    cases hp : patsF r P.kids f with
    | error e => exact nz_keep (nz_pats r _ (fun t _ f => nz_pat r _ t (Nat.lt_succ_self _) f) f) hp
    | ok f' =>
      simp only
      cases hq : rowsF (f' :: r) G.kids with
      | some e => exact fun e' he => by cases he; exact nz_rows _ _ e hq
      | none => exact h B (by simp [Nd.kids]) _ _
  | [], _ => simpa [clauseF] using nz_ok f
  | [_], _ => simpa [clauseF] using nz_ok f
  | [_, _], _ => simpa [clauseF] using nz_ok f
  | _ :: _ :: _ :: _ :: _, _ => simpa [clauseF] using nz_ok f
theorem nz_heads : ∀ (K : List Nd), (∀ t ∈ K, ZC hs t) → ∀ r f, NzE (headsF hs K r f)
  | [], _, r, f => by rw [headsF]; exact nz_ok f
  | n :: K, hK, r, f => by
    rw [headsF]
    cases hx : clauseF hs n (f :: r) Fr0 with
    | error e => exact nz_keep (hK n (by simp) _ _) hx
    | ok f' => exact nz_heads K (fun t ht => hK t (by simp [ht])) _ _
theorem nz_choices : ∀ (K : List Nd), (∀ t ∈ K, ZC hs t) → ∀ r f, NzE (choicesF hs K r f)
  | [], _, r, f => by rw [choicesF]; exact nz_ok f
  | n :: K, hK, r, f => by
    rw [choicesF]
    cases hx : clauseF hs n (f :: r) Fr0 with
    | error e => exact nz_keep (hK n (by simp) _ _) hx
    | ok f' => exact nz_choices K (fun t ht => hK t (by simp [ht])) _ _
theorem nz_after {t : Nd} (h : ∀ x ∈ t.kids, ZE hs x ∧ ZB hs x) : ZA hs t := by
  obtain ⟨k, s, num, pos, K⟩ := t
  intro r f
  match K, h with
  | [e, B], h =>
    rw [afterF_eq]
    cases hx : exprF hs e 0 r f with
    | error e' => exact nz_keep ((h e (by simp [Nd.kids])).1 _ _ _) hx
    | ok f' =>
      simp only
      cases hy : bodyF hs B (f' :: r) Fr0 with
      | error e => exact nz_keep ((h B (by simp [Nd.kids])).2 _ _) hy
      | ok g' => exact nz_ok _
  | [], _ => simpa [afterF] using nz_ok f
  | [_], _ => simpa [afterF] using nz_ok f
  | _ :: _ :: _ :: _, _ => simpa [afterF] using nz_ok f
theorem nz_rcv : ∀ (m : Nat) (K : List Nd), (∀ t ∈ K, ZC hs t ∧ ZA hs t) → ∀ r f, NzE (rcvF hs m K r f)
  | _, [], _, r, f => by simpa [rcvF] using nz_ok f
  | 0, n :: K, hK, r, f => by
    rw [rcvF]
    cases hx : afterF hs n r f with
    | error e => exact nz_keep ((hK n (by simp)).2 _ _) hx
    | ok f' => exact nz_rcv 0 K (fun t ht => hK t (by simp [ht])) _ _
  | m + 1, n :: K, hK, r, f => by
    rw [rcvF]
    cases hx : clauseF hs n (f :: r) Fr0 with
    | error e => exact nz_keep ((hK n (by simp)).1 _ _) hx
    | ok f' => exact nz_rcv m K (fun t ht => hK t (by simp [ht])) _ _
theorem nz_step {t : Nd} (ih : ∀ x, Bel x t → ZE hs x) : ZE hs t := by
  have hE : ∀ x ∈ t.kids, ZE hs x := fun x hx => ih x (Bel.kids hx)
  have hB : ∀ x ∈ t.kids, ZB hs x := fun x hx => nz_body hs fun y hy => ih y ((Bel.kids hy).trans (Bel.kids hx))
  have hC : ∀ x ∈ t.kids, ZC hs x := fun x hx => nz_clause hs fun y hy => nz_body hs fun z hz => ih z ((Bel.kids hz).trans ((Bel.kids hy).trans (Bel.kids hx)))
  have hA : ∀ x ∈ t.kids, ZA hs x := fun x hx => nz_after hs fun y hy => ⟨ih y ((Bel.kids hy).trans (Bel.kids hx)), nz_body hs fun z hz => ih z ((Bel.kids hz).trans ((Bel.kids hy).trans (Bel.kids hx)))⟩
  obtain ⟨k, s, num, pos, K⟩ := t
  have hE : ∀ x ∈ K, ZE hs x := hE
  have hB : ∀ x ∈ K, ZB hs x := hB
  have hC : ∀ x ∈ K, ZC hs x := hC
  have hA : ∀ x ∈ K, ZA hs x := hA
  have hP : ∀ r p f, NzE (patF r p f) := fun r p f => nz_pat r _ p (Nat.lt_succ_self _) f
  intro md r f
  rw [exprF]
  by_cases hc : k = 18 ∧ md = 2
  · rw [if_pos hc]
    match K, hE with
    | [p, e], hE =>
      rw [genF]
      cases hx : exprF hs e 0 r f with
      | error e' => exact nz_keep (hE e (by simp) _ _ _) hx
      | ok f' => exact hP _ _ _
    | [], _ => simpa [genF] using nz_ok f
    | [_], _ => simpa [genF] using nz_ok f
    | _ :: _ :: _ :: _, _ => simpa [genF] using nz_ok f
  rw [if_neg hc]
  by_cases hc : k = 8
  · rw [if_pos hc]
    split
    · match K, hE with
      | [p, e], hE =>
        rw [matchF]
        cases hx : exprF hs e 1 r f with
        | error e' => exact nz_keep (hE e (by simp) _ _ _) hx
        | ok f' => exact hP _ _ _
      | [], _ => simpa [matchF] using nz_ok f
      | [_], _ => simpa [matchF] using nz_ok f
      | _ :: _ :: _ :: _, _ => simpa [matchF] using nz_ok f
    · exact nz_er (by decide)
  rw [if_neg hc]
  by_cases hc : k = 3
  · rw [if_pos hc]
    cases hx : varF (f :: r) s pos with
    | some e => exact fun e' he => by cases he; exact nz_var _ _ _ e hx
    | none => exact nz_ok f
  rw [if_neg hc]
  by_cases hc : k = 9
  · rw [if_pos hc]
    split
    · exact nz_er (by decide)
    split
    · exact nz_er (by decide)
    · exact nz_exprs hs K hE _ _
  rw [if_neg hc]
  by_cases hc : k = 11
  · rw [if_pos hc]
    split
    · exact nz_ok f
    · exact nz_er (by decide)
  rw [if_neg hc]
  by_cases hc : k = 10
  · rw [if_pos hc]
    cases hx : alikeF (headPat K : Nat) K with
    | some e => exact fun e' he => by cases he; exact nz_alike _ _ e hx
    | none => exact nz_heads hs K hC _ _
  rw [if_neg hc]
  by_cases hc : k = 12
  · rw [if_pos hc]
    match K, hE, hC with
    | [], _, _ => rw [caseF]; exact nz_ok f
    | n :: L, hE, hC =>
      rw [caseF]
      cases hx : exprF hs n 0 r f with
      | error e => exact nz_keep (hE n (by simp) _ _ _) hx
      | ok f' => exact nz_choices hs L (fun t ht => hC t (by simp [ht])) _ _
  rw [if_neg hc]
  by_cases hc : k = 13
  · rw [if_pos hc]
    exact nz_choices hs K hC _ _
  rw [if_neg hc]
  by_cases hc : k = 14
  · rw [if_pos hc]
    exact nz_rcv hs _ K (fun t ht => ⟨hC t ht, hA t ht⟩) _ _
  rw [if_neg hc]
  by_cases hc : k = 16
  · rw [if_pos hc]
    match K, hB, hC with
    | [], _, _ => rw [tryF]; exact nz_ok f
    | n :: L, hB, hC =>
      rw [tryF]
      cases hx : bodyF hs n (f :: r) Fr0 with
      | error e => exact nz_keep (hB n (by simp) _ _) hx
      | ok f' => exact nz_choices hs L (fun t ht => hC t (by simp [ht])) _ _
  rw [if_neg hc]
  by_cases hc : k = 17
  · rw [if_pos hc]
    cases hx : compF hs K (f :: r) Fr0 with
    | error e =>
      refine nz_keep ?_ hx
      match K, hE with
      | [], _ => rw [compF]; exact nz_ok _
      | n :: L, hE =>
        rw [compF]
        cases hy : stepsF hs L (f :: r) Fr0 with
        | error e => exact nz_keep (nz_steps hs L (fun t ht => hE t (by simp [ht])) _ _) hy
        | ok f' => exact hE n (by simp) _ _ _
    | ok _ => exact nz_ok f
  rw [if_neg hc]
  by_cases hc : k = 19
  · rw [if_pos hc]
    cases hx : itemsF hs K (f :: r) Fr0 with
    | error e => exact nz_keep (nz_items hs K hE _ _) hx
    | ok g => exact nz_ok _
  rw [if_neg hc]
  exact nz_exprs hs K hE _ _
theorem nz_all : ∀ (n : Nat) (t : Nd), SizeOf.sizeOf t < n → ZE hs t
  | 0, _, h => by omega
  | n + 1, t, h => nz_step hs fun x hx => nz_all n x (by have := hx.1; omega)
theorem nz_expr (t : Nd) : ZE hs t := nz_all hs _ t (Nat.lt_succ_self _)
end
theorem nz_headsT (hs : ByteArray → Int → Bool) : ∀ (K : List Nd), NzO (headsT hs K)
  | [] => by rw [headsT]; exact nz_no
  | n :: K => by
    rw [headsT]
    cases hx : clauseF hs n [] Fr0 with
    | error e => exact fun e' he => by cases he; exact nz_clause hs (fun x _ => nz_body hs fun y _ => nz_expr hs y) [] Fr0 e hx
    | ok f' => exact nz_headsT hs K
theorem nz_bods (hs : ByteArray → Int → Bool) : ∀ (K : List Nd), NzO (bodsF hs K)
  | [] => by rw [bodsF]; exact nz_no
  | n :: K => by
    rw [bodsF]
    cases hx : headsT hs n.kids with
    | some e => exact fun e' he => by cases he; exact nz_headsT hs _ e hx
    | none => exact nz_bods hs K
theorem nz_decls : ∀ (K : List Nd) (hs : ByteArray → Int → Bool), NzE (declsF K hs)
  | [], hs => by rw [declsF]; exact nz_ok hs
  | .mk k s num pos L :: K, hs => by
    rw [declsF]
    cases hx : declF hs s num pos L with
    | some e =>
      refine fun e' he => ?_
      cases he
      unfold declF at hx
      split at hx
      · cases hx; show (210 : Int) ≠ 0; decide
      · exact nz_alike num L e hx
    | none => exact nz_decls K _
theorem nz_check (K : List Nd) : NzO (checkF K) := by
  unfold checkF
  cases hx : declsF K (fun _ _ => false) with
  | error e => exact fun e' he => by cases he; exact nz_decls K _ e hx
  | ok h => exact nz_bods h K
/-- A program: what it is that Check tells nothing of. -/
theorem chk_ok {m : Nd} (h : (chkF m).1 = 0) : m.kd = 22 ∧ rgtB m = true ∧ checkF m.kids = none := by
  unfold chkF at h
  split at h
  · rename_i hh
    refine ⟨hh.1, hh.2, ?_⟩
    cases hc : checkF m.kids with
    | none => rfl
    | some x => rw [hc] at h; exact absurd h (nz_check _ x hc)
  · exact absurd h (by decide)
theorem chk_mod {s : ByteArray} {num pos : Int} {K : List Nd} (h : rgtB (.mk 22 s num pos K) = true) : chkF (.mk 22 s num pos K) = ansF (checkF K) := by
  rw [chkF, if_pos ⟨rfl, h⟩]; rfl
/-- A program without one of its functions. -/
theorem part_rest {s : ByteArray} {num pos : Int} {A B : List Nd} {f : Nd} (h : (chkF (.mk 22 s num pos (A ++ f :: B))).1 = 0) (hc : calBs f.txt f.num (A ++ B) = false) : chkF (.mk 22 ⟨#[]⟩ 0 pos (A ++ B)) = (0, 0) := by
  obtain ⟨_, h2, h3⟩ := chk_ok h
  simp only [Nd.kids] at h3
  rw [chk_mod (right_rest h2), check_rest h3 hc]
  rfl
theorem part_twice {s : ByteArray} {num pos : Int} {A : List Nd} {f : Nd} (h : (chkF (.mk 22 s num pos A)).1 = 0) (hf : f ∈ A) (hc : manR A ≤ 8000) : chkF (.mk 22 ⟨#[]⟩ 0 0 (A ++ [f])) = (210, f.pos) := by
  obtain ⟨_, h2, h3⟩ := chk_ok h
  simp only [Nd.kids] at h3
  rw [chk_mod (right_twice h2 hf hc), check_twice h3 hf]
  rfl
theorem part_both {s s' : ByteArray} {num pos num' pos' : Int} {A B : List Nd} (h : (chkF (.mk 22 s num pos A)).1 = 0) (h' : (chkF (.mk 22 s' num' pos' B)).1 = 0) (hc : manR A + manR B ≤ 16000) (hd : ∀ x ∈ A, ∀ y ∈ B, ¬ (x.txt = y.txt ∧ x.num = y.num)) : chkF (.mk 22 ⟨#[]⟩ 0 0 (A ++ B)) = (0, 0) := by
  obtain ⟨_, h2, h3⟩ := chk_ok h
  simp only [Nd.kids] at h3
  obtain ⟨_, g2, g3⟩ := chk_ok h'
  simp only [Nd.kids] at g3
  rw [chk_mod (right_both h2 g2 hc), check_both h3 g3 hd]
  rfl

end Go.Proofs.YtpgjcedonimgnaaDoor

/- The longest name of a variable. -/
namespace Go.Proofs.YtpgjcedonimgnaaDoor
open Go.RowKit

mutual
def lonN : Nd → Nat
  | .mk k s _ _ K => max (if k = 3 then s.size else 0) (lonR K)
def lonR : List Nd → Nat
  | [] => 0
  | n :: K => max (lonN n) (lonR K)
end
theorem lonR_at (K : List Nd) (q : Nat) (hq : q < K.length) : lonR (K.drop q) = max (lonN K[q]) (lonR (K.drop (q + 1))) := by
  rw [List.drop_eq_getElem_cons hq, lonR]
def LonS (d : Nat) : Prop := ∀ (w : World) (cs : List Value) (t : Nd), NIn w d cs t → nsz t ≤ 2199023255488 → nxz t ≤ 140737488355328 → Calls Tryd.prog 12 #[.agg cs.toArray] w fun e w' => e = .returned (.int .i64 (lonN t : Nat)) ∧ Upd [] w w'
theorem run_max (x y : Nat) (t : TypeId) (w : World) : (Builtin.max_ #[3, 3] t #[.int .i64 (x : Nat), .int .i64 (y : Nat)]).run Tryd.prog w = .ok (.int .i64 (max x y : Nat)) w := by
  have e : (if (y : Int) > (x : Int) then (y : Int) else (x : Int)) = ((max x y : Nat) : Int) := by
    split <;> omega
  unfold Builtin.max_
  simp only [List.foldlM, Builtin.max2, e]
  rfl

set_option maxHeartbeats 4000000 in
set_option maxRecDepth 100000 in
theorem lo_var (d : Nat) (IH : Hid (LonS d)) (w : World) (num pos : Int) (s : ByteArray) (_hsz : s.size ≤ 140737488355328) (K : List Nd) (a : Option Addr) (c : Nat) (HR : Hid (RowN (NIn w d) w a K)) (hs0 : K.length ≤ 2199023255488) (HS : Hid (∀ i (hi : i < K.length), nsz K[i] ≤ 2199023255488 ∧ nxz K[i] ≤ 140737488355328))  :
    Calls Tryd.prog 12 #[.agg #[.int .u8 3, .string s, .int .i64 num, .int .i64 pos, .slice a K.length c]] w fun e w' => e = .returned (.int .i64 (max s.size (lonR K) : Nat)) ∧ Upd [] w w' := by
  have U1 : Hid (Upd [] w (w.alloc (.cells #[.int .u8 3, .string s, .int .i64 num, .int .i64 pos, .slice a K.length c] 29))) := (Upd.refl [] w).alloc _
  have tN : Hid (Tb (w.alloc (.cells #[.int .u8 3, .string s, .int .i64 num, .int .i64 pos, .slice a K.length c] 29)) w.heap.size #[.int .u8 3, .string s, .int .i64 num, .int .i64 pos, .slice a K.length c]) := Tb.new _ _ _ rfl
  have hmx : ∀ (x y : Nat) (t : TypeId) (w : World), (Builtin.max_ #[3, 3] t #[.int .i64 (x : Nat), .int .i64 (y : Nat)]).run Tryd.prog w = .ok (.int .i64 (max x y : Nat)) w := run_max
  obtain ⟨R, hR⟩ : ∃ R : Nat, R = max s.size (lonR K) := ⟨_, rfl⟩
  rw [← hR]
  have HRR : Hid (R = max s.size (lonR K)) := hR
  clear hR
  go_enter Tryd.func12, Tryd.ntmps12
  go_wp2_with fail
  go_loopw [3, 4] (fun m i wr => ∃ (q M : Nat), q ≤ K.length ∧ i = .int .i64 q ∧ m = .int .i64 (M : Nat) ∧ Hid (max s.size (lonR K) = max M (lonR (K.drop q))) ∧ Upd [] (w.alloc (.cells #[.int .u8 3, .string s, .int .i64 num, .int .i64 pos, .slice a K.length c] 29)) wr) (fun _ i _ => K.length - (intOf i).toNat)
  case atStart => exact ⟨0, s.size, Nat.zero_le _, rfl, rfl, rfl, Upd.refl _ _⟩
  case round =>
    obtain ⟨q, M, hq, rfl, rfl, HP, hu⟩ := hrel
    have HU : Hid (Upd [] w wr) := U1.out.trans hu
    have z4 : wr.cell? ⟨w.heap.size, 4, none⟩ = some (.slice a K.length c) := (tN.out.mono hu (by simp)).cell 4
    have HUA : Hid (Upd [] (w.alloc (.cells #[.int .u8 3, .string s, .int .i64 num, .int .i64 pos, .slice a K.length c] 29)) wr) := hu
    clear hu
    by_cases hlt : q < K.length
    · have i1 : (q : Int) < (K.length : Int) := by omega
      obtain ⟨b3, o3, hae, cs, hl5, hcell, hin⟩ := HR.out.atK q hlt
      subst hae
      have hin' := NIn.mono HU.out _ _ _ hin
      have hc5 : ∀ j, j < 5 → wr.cell? ⟨b3, o3 + (q * 5 + j), none⟩ = cs[j]? := fun j hj => by
        have := hcell j hj
        rw [List.getElem?_eq_getElem (by omega)] at this ⊢
        exact (HU.out.cell (cell_lt this) (by simp)).trans this
      obtain ⟨q0, q1, q2, q3, q4, rfl⟩ := list5 hl5
      have x0 : wr.cell? ⟨b3, o3 + q * 5, none⟩ = some q0 := hc5 0 (by omega)
      have x1 : wr.cell? ⟨b3, o3 + q * 5 + 1, none⟩ = some q1 := hc5 1 (by omega)
      have x2 : wr.cell? ⟨b3, o3 + q * 5 + 2, none⟩ = some q2 := hc5 2 (by omega)
      have x3 : wr.cell? ⟨b3, o3 + q * 5 + 3, none⟩ = some q3 := hc5 3 (by omega)
      have x4 : wr.cell? ⟨b3, o3 + q * 5 + 4, none⟩ = some q4 := hc5 4 (by omega)
      have HIN : Hid (NIn wr d [q0, q1, q2, q3, q4] K[q]) := hin'
      clear hc5 hcell hin hin'
      go_wp2_with fail
      refine Calls.mono (IH.out wr _ _ HIN.out (HS.out q hlt).1 (HS.out q hlt).2) ?_
      rintro e w2 ⟨rfl, hu2⟩
      obtain ⟨N, hN⟩ : ∃ N, N = lonN K[q] := ⟨_, rfl⟩
      have U2 : Hid (Upd [] (w.alloc (.cells #[.int .u8 3, .string s, .int .i64 num, .int .i64 pos, .slice (some ⟨b3, o3, none⟩) K.length c] 29)) w2) := HUA.out.trans hu2
      have HP3 : Hid (max s.size (lonR K) = max (max M N) (lonR (K.drop (q + 1)))) := by
        have := HP.out
        rw [lonR_at K q hlt] at this
        rw [this, hN]
        show _ = _
        omega
      rw [← hN]
      clear hu2 x0 x1 x2 x3 x4 z4 HIN HP hN
      go_wp2_with fail
      go_roundw
      case rel => exact ⟨q + 1, max M N, by omega, by go_num, rfl, HP3, U2.out⟩
      case measure => simp [intOf]; omega
    · have hd : decide ((q : Int) < (K.length : Int)) = false := by simp; omega
      have hqe : q = K.length := by omega
      have HP3 : Hid (R = M) := by
        have := HP.out
        rw [hqe, List.drop_length, lonR, Nat.max_zero] at this
        exact HRR.out.trans this
      clear HP hqe
      go_wp2_with fail
      go_ret
      exact ⟨by rw [HP3.out]; rfl, HU.out⟩

set_option maxHeartbeats 4000000 in
set_option maxRecDepth 100000 in
theorem lo_oth (d : Nat) (IH : Hid (LonS d)) (w : World) (k : Int) (num pos : Int) (s : ByteArray) (_hsz : s.size ≤ 140737488355328) (K : List Nd) (a : Option Addr) (c : Nat) (HR : Hid (RowN (NIn w d) w a K)) (hs0 : K.length ≤ 2199023255488) (HS : Hid (∀ i (hi : i < K.length), nsz K[i] ≤ 2199023255488 ∧ nxz K[i] ≤ 140737488355328)) (hk : k ≠ 3) :
    Calls Tryd.prog 12 #[.agg #[.int .u8 k, .string s, .int .i64 num, .int .i64 pos, .slice a K.length c]] w fun e w' => e = .returned (.int .i64 (max 0 (lonR K) : Nat)) ∧ Upd [] w w' := by
  have U1 : Hid (Upd [] w (w.alloc (.cells #[.int .u8 k, .string s, .int .i64 num, .int .i64 pos, .slice a K.length c] 29))) := (Upd.refl [] w).alloc _
  have tN : Hid (Tb (w.alloc (.cells #[.int .u8 k, .string s, .int .i64 num, .int .i64 pos, .slice a K.length c] 29)) w.heap.size #[.int .u8 k, .string s, .int .i64 num, .int .i64 pos, .slice a K.length c]) := Tb.new _ _ _ rfl
  have hmx : ∀ (x y : Nat) (t : TypeId) (w : World), (Builtin.max_ #[3, 3] t #[.int .i64 (x : Nat), .int .i64 (y : Nat)]).run Tryd.prog w = .ok (.int .i64 (max x y : Nat)) w := run_max
  obtain ⟨R, hR⟩ : ∃ R : Nat, R = max 0 (lonR K) := ⟨_, rfl⟩
  rw [← hR]
  have HRR : Hid (R = max 0 (lonR K)) := hR
  clear hR
  have e3 : (k == 3) = false := by simp [hk]
  go_enter Tryd.func12, Tryd.ntmps12
  go_wp2_with fail
  go_loopw [3, 4] (fun m i wr => ∃ (q M : Nat), q ≤ K.length ∧ i = .int .i64 q ∧ m = .int .i64 (M : Nat) ∧ Hid (max 0 (lonR K) = max M (lonR (K.drop q))) ∧ Upd [] (w.alloc (.cells #[.int .u8 k, .string s, .int .i64 num, .int .i64 pos, .slice a K.length c] 29)) wr) (fun _ i _ => K.length - (intOf i).toNat)
  case atStart => exact ⟨0, 0, Nat.zero_le _, rfl, rfl, rfl, Upd.refl _ _⟩
  case round =>
    obtain ⟨q, M, hq, rfl, rfl, HP, hu⟩ := hrel
    have HU : Hid (Upd [] w wr) := U1.out.trans hu
    have z4 : wr.cell? ⟨w.heap.size, 4, none⟩ = some (.slice a K.length c) := (tN.out.mono hu (by simp)).cell 4
    have HUA : Hid (Upd [] (w.alloc (.cells #[.int .u8 k, .string s, .int .i64 num, .int .i64 pos, .slice a K.length c] 29)) wr) := hu
    clear hu
    by_cases hlt : q < K.length
    · have i1 : (q : Int) < (K.length : Int) := by omega
      obtain ⟨b3, o3, hae, cs, hl5, hcell, hin⟩ := HR.out.atK q hlt
      subst hae
      have hin' := NIn.mono HU.out _ _ _ hin
      have hc5 : ∀ j, j < 5 → wr.cell? ⟨b3, o3 + (q * 5 + j), none⟩ = cs[j]? := fun j hj => by
        have := hcell j hj
        rw [List.getElem?_eq_getElem (by omega)] at this ⊢
        exact (HU.out.cell (cell_lt this) (by simp)).trans this
      obtain ⟨q0, q1, q2, q3, q4, rfl⟩ := list5 hl5
      have x0 : wr.cell? ⟨b3, o3 + q * 5, none⟩ = some q0 := hc5 0 (by omega)
      have x1 : wr.cell? ⟨b3, o3 + q * 5 + 1, none⟩ = some q1 := hc5 1 (by omega)
      have x2 : wr.cell? ⟨b3, o3 + q * 5 + 2, none⟩ = some q2 := hc5 2 (by omega)
      have x3 : wr.cell? ⟨b3, o3 + q * 5 + 3, none⟩ = some q3 := hc5 3 (by omega)
      have x4 : wr.cell? ⟨b3, o3 + q * 5 + 4, none⟩ = some q4 := hc5 4 (by omega)
      have HIN : Hid (NIn wr d [q0, q1, q2, q3, q4] K[q]) := hin'
      clear hc5 hcell hin hin'
      go_wp2_with fail
      refine Calls.mono (IH.out wr _ _ HIN.out (HS.out q hlt).1 (HS.out q hlt).2) ?_
      rintro e w2 ⟨rfl, hu2⟩
      obtain ⟨N, hN⟩ : ∃ N, N = lonN K[q] := ⟨_, rfl⟩
      have U2 : Hid (Upd [] (w.alloc (.cells #[.int .u8 k, .string s, .int .i64 num, .int .i64 pos, .slice (some ⟨b3, o3, none⟩) K.length c] 29)) w2) := HUA.out.trans hu2
      have HP3 : Hid (max 0 (lonR K) = max (max M N) (lonR (K.drop (q + 1)))) := by
        have := HP.out
        rw [lonR_at K q hlt] at this
        rw [this, hN]
        show _ = _
        omega
      rw [← hN]
      clear hu2 x0 x1 x2 x3 x4 z4 HIN HP hN
      go_wp2_with fail
      go_roundw
      case rel => exact ⟨q + 1, max M N, by omega, by go_num, rfl, HP3, U2.out⟩
      case measure => simp [intOf]; omega
    · have hd : decide ((q : Int) < (K.length : Int)) = false := by simp; omega
      have hqe : q = K.length := by omega
      have HP3 : Hid (R = M) := by
        have := HP.out
        rw [hqe, List.drop_length, lonR, Nat.max_zero] at this
        exact HRR.out.trans this
      clear HP hqe
      go_wp2_with fail
      go_ret
      exact ⟨by rw [HP3.out]; rfl, HU.out⟩

theorem lon_step (d : Nat) (ih : LonS d) : LonS (d + 1) := by
  intro w cs t hin hz hx
  obtain ⟨k, s, num, pos, K⟩ := t
  obtain ⟨a, c, rfl, hR, hcp⟩ := hin
  have hz1 : nszs K ≤ 2199023255488 := by simpa [nsz] using hz
  simp only [nxz] at hx
  have hs0 : K.length ≤ 2199023255488 := Nat.le_trans (nszs_len K) hz1
  have HS : ∀ i (hi : i < K.length), nsz K[i] ≤ 2199023255488 ∧ nxz K[i] ≤ 140737488355328 := fun i hi => ⟨Nat.le_trans (nszs_get K i hi) hz1, Nat.le_trans (nxzs_get K i hi) (by omega)⟩
  by_cases hk : k = 3
  · subst hk
    rw [lonN, if_pos rfl]
    exact lo_var d ih w num pos s (by omega) K a c hR hs0 HS
  · rw [lonN, if_neg hk]
    exact lo_oth d ih w k num pos s (by omega) K a c hR hs0 HS hk
theorem longest_in : ∀ d, LonS d
  | 0 => fun _ _ _ h => absurd h (fun h => h)
  | d + 1 => lon_step d (longest_in d)

end Go.Proofs.YtpgjcedonimgnaaDoor
