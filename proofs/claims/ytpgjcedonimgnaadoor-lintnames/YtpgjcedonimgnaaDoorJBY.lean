/- More operations of the laws' regions. -/
import Derived.Test.YtpgjcedonimgnaaDoorJAX
import Derived.Deep.DeepCutAuto
import Derived.BigQuiet
import Derived.Test.YtpgjcedonimgnaaDoorJAV

namespace Go.Proofs.YtpgjcedonimgnaaDoor
open Go.RowKit

theorem wp_nf3 {o : Oper} {a : Act} {w : World} {K : Act → World → Prop} {Q : Exit → Act → World → Prop} (x : Operand) (ho : o.op = .fieldAddr 29 x 3) (g : Nat) (hx : a.eval x = .pointer (some ⟨g, 0, none⟩)) (h : K (a.put o.dst (.pointer (some ⟨g, 3, none⟩))) w) : o.wp Tryd.prog a w K Q := by
  refine wp_pure ?_ h
  unfold execOp
  simp only [ho, hx]
  kernel_rfl
theorem wp_add1 {o : Oper} {a : Act} {w : World} {K : Act → World → Prop} {Q : Exit → Act → World → Prop} (x : Operand) (ho : o.op = .binOp .add 3 x (.const (.int .i64 1)) 3) (n : Nat) (hn : n ≤ 2199023255488) (hx : a.eval x = .int .i64 (n : Nat)) (h : K (a.put o.dst (.int .i64 ((n + 1 : Nat) : Int))) w) : o.wp Tryd.prog a w K Q := by
  refine wp_pure ?_ h
  have hw : IntKind.i64.wrap ((n : Int) + 1) = ((n + 1 : Nat) : Int) := by rw [IntKind.wrap_i64]; omega
  have hc : a.eval (.const (.int .i64 1)) = .int .i64 1 := rfl
  unfold execOp
  simp only [ho, hx, hc]
  simp [go_sem, hw]
theorem wp_slo {o : Oper} {a : Act} {w : World} {K : Act → World → Prop} {Q : Exit → Act → World → Prop} (x y : Operand) (ho : o.op = .slice 27 x (some y) none none) (ad : Option Addr) (n c m : Nat) (hm : m ≤ n) (hc : n ≤ c) (hx : a.eval x = .slice ad n c) (hy : a.eval y = .int .i64 (m : Nat)) (h : K (a.put o.dst (.slice (if c = m then ad else ad.map (·.add (m * 5))) (n - m) (c - m))) w) : o.wp Tryd.prog a w K Q := by
  refine wp_pure ?_ h
  unfold execOp
  simp only [ho, hx, Option.map_some, Option.map_none, hy]
  simp only [Sem.run_bind, run_sll ad n c m hm hc, Result.andThen_ok, Sem.run_pure]
/-- A row put together is a row of its module. -/
theorem OwnK.nin {d : Nat} {W w : World} {ad : Option Addr} {m c : Nat} {K : List Nd} (h : OwnK d W w (.slice ad m c) K) (hu : Upd [] W w) (pos : Int) : NIn w (d + 1) [.int .u8 22, .string ⟨#[]⟩, .int .i64 0, .int .i64 pos, .slice ad m c] (.mk 22 ⟨#[]⟩ 0 pos K) := by
  obtain ⟨h1, h2, h3, h4⟩ := h.rowN hu
  subst h2
  exact ⟨ad, c, rfl, h1, h3, h4⟩
theorem sz_app {N : Nat} {A B : List Nd} {pos : Int} (hA : ∀ t ∈ A, nsz t ≤ N) (hB : ∀ t ∈ B, nsz t ≤ N) (hl : A.length + B.length ≤ N) : nsz (.mk 22 ⟨#[]⟩ 0 pos (A ++ B)) ≤ N := by
  rw [nsz]
  refine nszs_le N _ (by simpa using hl) fun i hi => ?_
  rcases List.mem_append.1 (List.getElem_mem hi) with h | h
  · exact hA _ h
  · exact hB _ h
theorem xz_app {N : Nat} {A B : List Nd} {pos : Int} (hA : ∀ t ∈ A, nxz t ≤ N) (hB : ∀ t ∈ B, nxz t ≤ N) : nxz (.mk 22 ⟨#[]⟩ 0 pos (A ++ B)) ≤ N := by
  rw [nxz]
  have : nxzs (A ++ B) ≤ N := nxzs_le N _ fun i hi => by
    rcases List.mem_append.1 (List.getElem_mem hi) with h | h
    · exact hA _ h
    · exact hB _ h
  have hs : (⟨#[]⟩ : ByteArray).size = 0 := rfl
  omega
theorem sz_mem {k num pos : Int} {s : ByteArray} {K : List Nd} {N : Nat} (h : nsz (.mk k s num pos K) ≤ N) : ∀ t ∈ K, nsz t ≤ N := fun t ht => by
  obtain ⟨i, hi, rfl⟩ := List.getElem_of_mem ht
  exact Nat.le_trans (nszs_get K i hi) h
theorem xz_mem {k num pos : Int} {s : ByteArray} {K : List Nd} {N : Nat} (h : nxz (.mk k s num pos K) ≤ N) : ∀ t ∈ K, nxz t ≤ N := fun t ht => by
  obtain ⟨i, hi, rfl⟩ := List.getElem_of_mem ht
  rw [nxz] at h
  exact Nat.le_trans (nxzs_get K i hi) (by omega)
theorem cnt_len {k num pos : Int} {s : ByteArray} {K : List Nd} {N : Nat} (h : cntN (.mk k s num pos K) ≤ N) : manR K ≤ N ∧ K.length ≤ N := by
  have h1 := man_cnt (.mk k s num pos K)
  rw [manN] at h1
  have h2 := len_man K
  omega
/-- What is known of a program's function. -/
theorem part_facts {ka na pa : Int} {sa : ByteArray} {KA : List Nd} {k : Nat} {kf nf pf : Int} {sf : ByteArray} {KF : List Nd} (hf : ∃ h : k < KA.length, Nd.mk kf sf nf pf KF = KA[k]) (h : (chkF (.mk ka sa na pa KA)).1 = 0) : (0 ≤ nf ∧ nf ≤ 4611686018427387904) ∧ (calBs sf nf (KA.take k ++ KA.drop (k + 1)) = false → chkF (.mk 22 ⟨#[]⟩ 0 pa (KA.take k ++ KA.drop (k + 1))) = (0, 0)) ∧ (manR KA ≤ 8000 → chkF (.mk 22 ⟨#[]⟩ 0 0 (KA ++ [Nd.mk kf sf nf pf KF])) = (210, pf)) := by
  obtain ⟨hk, hf⟩ := hf
  have hk22 : ka = 22 := (chk_ok h).1
  subst hk22
  have hmem : Nd.mk kf sf nf pf KF ∈ KA := by rw [hf]; exact List.getElem_mem hk
  refine ⟨?_, fun hc => ?_, fun hm => part_twice h hmem hm⟩
  · obtain ⟨⟨h1, h2⟩, _⟩ := right_mod.1 (chk_ok h).2.1
    have h3 := fun_num (h1 _ hmem).2
    have h4 := man_mem hmem
    have h5 : 0 ≤ nf ∧ nf ≤ (manN (.mk kf sf nf pf KF) : Nat) := h3
    omega
  · have hs := row_split hk
    rw [← hf] at hs
    have h' : (chkF (.mk 22 sa na pa (KA.take k ++ Nd.mk kf sf nf pf KF :: KA.drop (k + 1)))).1 = 0 := by rw [← hs]; exact h
    exact part_rest h' hc
/-- How many nodes were told. -/
def CXv (t : Nd) (v : Value) : Prop := ∃ z : Int, v = .int .i64 z ∧ 1 ≤ z ∧ z ≤ 60000000003000 ∧ (z ≤ 3000 → z = (cntN t : Nat))
def SXv (s t : Nd) (v : Value) : Prop := ∃ z : Int, v = .int .i64 z ∧ (z ≤ 2000 → cntN s + cntN t ≤ 2000)
theorem wp_addI {o : Oper} {a : Act} {w : World} {K : Act → World → Prop} {Q : Exit → Act → World → Prop} (x y : Operand) (ho : o.op = .binOp .add 3 x y 3) (n m : Int) (hn : 0 ≤ n ∧ n ≤ 4611686018427387904) (hm : 0 ≤ m ∧ m ≤ 4000000000000000000) (hx : a.eval x = .int .i64 n) (hy : a.eval y = .int .i64 m) (h : K (a.put o.dst (.int .i64 (n + m))) w) : o.wp Tryd.prog a w K Q := by
  refine wp_pure ?_ h
  have hw : IntKind.i64.wrap (n + m) = n + m := by rw [IntKind.wrap_i64]; omega
  unfold execOp
  simp only [ho, hx, hy]
  simp [go_sem, hw]
theorem wp_gtrI {o : Oper} {a : Act} {w : World} {K : Act → World → Prop} {Q : Exit → Act → World → Prop} (x : Operand) (m : Int) (ho : o.op = .binOp .gtr 3 x (.const (.int .i64 m)) 3) (n : Int) (hx : a.eval x = .int .i64 n) (h : K (a.put o.dst (.bool (decide (m < n)))) w) : o.wp Tryd.prog a w K Q := by
  refine wp_pure ?_ h
  have hc : a.eval (.const (.int .i64 m)) = .int .i64 m := rfl
  unfold execOp
  simp only [ho, hx, hc]
  simp [go_sem]
theorem part_both3 {ka na pa kb nb pb : Int} {sa sb : ByteArray} {A B : List Nd} (h : (chkF (.mk ka sa na pa A)).1 = 0) (h' : (chkF (.mk kb sb nb pb B)).1 = 0) (hc : manR A + manR B ≤ 16000) (hd : ∀ x ∈ A, ∀ y ∈ B, ¬ (x.txt = y.txt ∧ x.num = y.num)) : chkF (.mk 22 ⟨#[]⟩ 0 0 (A ++ B)) = (0, 0) := by
  have e1 : ka = 22 := (chk_ok h).1
  have e2 : kb = 22 := (chk_ok h').1
  subst e1
  subst e2
  exact part_both h h' hc hd

end Go.Proofs.YtpgjcedonimgnaaDoor

/- Variables with other names: what the check tells (mathematics). -/
namespace Go.Proofs.YtpgjcedonimgnaaDoor
open Go.RowKit

mutual
/-- A tree, each variable of which has another name. -/
def renN (wt : ByteArray) : Nd → Nd
  | .mk k s num pos K => .mk k (if k = 3 ∧ s ≠ ⟨#[95]⟩ then s ++ wt else s) num pos (renL wt K)
def renL (wt : ByteArray) : List Nd → List Nd
  | [] => []
  | n :: K => renN wt n :: renL wt K
end
/-- A variable's other name. -/
def nmW (wt s : ByteArray) : ByteArray := if s = ⟨#[95]⟩ then s else s ++ wt
section
variable {wt : ByteArray}
theorem renL_map : ∀ K : List Nd, renL wt K = K.map (renN wt)
  | [] => by rw [renL]; rfl
  | n :: K => by rw [renL, renL_map K]; rfl
theorem renL_len (K : List Nd) : (renL wt K).length = K.length := by rw [renL_map]; simp
theorem ren_3 {num pos : Int} {s : ByteArray} {K : List Nd} : renN wt (.mk 3 s num pos K) = .mk 3 (nmW wt s) num pos (renL wt K) := by
  rw [renN, nmW]
  by_cases h : s = ⟨#[95]⟩ <;> simp [h]
theorem ren_n {k num pos : Int} {s : ByteArray} {K : List Nd} (h : k ≠ 3) : renN wt (.mk k s num pos K) = .mk k s num pos (renL wt K) := by
  rw [renN]; simp [h]
theorem ren_kd (t : Nd) : (renN wt t).kd = t.kd := by obtain ⟨k, s, n, p, K⟩ := t; rw [renN]; rfl
theorem ren_pos (t : Nd) : (renN wt t).pos = t.pos := by obtain ⟨k, s, n, p, K⟩ := t; rw [renN]; rfl
theorem ren_num (t : Nd) : (renN wt t).num = t.num := by obtain ⟨k, s, n, p, K⟩ := t; rw [renN]; rfl
theorem ren_kids (t : Nd) : (renN wt t).kids = renL wt t.kids := by obtain ⟨k, s, n, p, K⟩ := t; rw [renN]; rfl
theorem ren_txt {t : Nd} (h : t.kd ≠ 3) : (renN wt t).txt = t.txt := by obtain ⟨k, s, n, p, K⟩ := t; rw [ren_n (show k ≠ 3 from h)]; rfl
theorem ren_patN (t : Nd) : patN (renN wt t) = patN t := by
  obtain ⟨k, s, n, p, K⟩ := t
  rw [renN]
  cases K with
  | nil => rw [renL]; rfl
  | cons P K => rw [renL]; simp only [patN, ren_kids, renL_len]
theorem ren_alike (n : Int) : ∀ K : List Nd, alikeF n (renL wt K) = alikeF n K
  | [] => by rw [renL]
  | c :: K => by rw [renL, alikeF, alikeF, ren_patN, ren_pos, ren_alike n K]
theorem ren_headAtom (K : List Nd) : headAtom (renL wt K) = headAtom K := by
  cases K with
  | nil => rw [renL]
  | cons c K => rw [renL, headAtom, headAtom, ren_kd]
theorem ren_headTxt {K : List Nd} (h : headAtom K = true) : headTxt (renL wt K) = headTxt K := by
  cases K with
  | nil => rw [renL]
  | cons c K =>
    rw [renL, headTxt, headTxt]
    have : c.kd = 2 := by simpa [headAtom] using h
    exact ren_txt (by omega)
theorem ren_headPat (K : List Nd) : headPat (renL wt K) = headPat K := by
  cases K with
  | nil => rw [renL]
  | cons c K => rw [renL, headPat, headPat, ren_patN]
theorem ren_callG (K : List Nd) : callG (renL wt K) = callG K := by
  cases K with
  | nil => rw [renL]
  | cons c K =>
    rw [renL, callG, callG, ren_kd, renL_len]
    by_cases h : c.kd = 2
    · rw [ren_txt (by omega)]
    · simp [h]
theorem ren_isNeg (t : Nd) : isNeg (renN wt t) = isNeg t := by
  unfold isNeg
  rw [ren_kd, ren_kids, renL_len]
  by_cases h : t.kd = 7
  · rw [ren_txt (by omega)]
    cases t.kids with
    | nil => rw [renL]
    | cons c K => rw [renL]; simp only [ren_kd]
  · simp [h]
end

/-- A name's ending that is no name's own. -/
structure OkW (wt : ByteArray) : Prop where
  pos : 0 < wt.size
  ne : wt ≠ ⟨#[95]⟩
theorem app_cancel {s t wt : ByteArray} (h : s ++ wt = t ++ wt) : s = t := by
  have h1 := congrArg (fun b => b.data.toList) h
  simp only [ByteArray.data_append, Array.toList_append] at h1
  have h2 := List.append_cancel_right h1
  cases s; cases t
  congr
  exact Array.toList_inj.1 h2
theorem app_und {s wt : ByteArray} (hw : OkW wt) : s ++ wt ≠ ⟨#[95]⟩ := by
  intro h
  have h1 := congrArg ByteArray.size h
  rw [ByteArray.size_append] at h1
  have h2 : (⟨#[95]⟩ : ByteArray).size = 1 := rfl
  have h3 := hw.pos
  have h4 : s.size = 0 := by omega
  have h5 : s = ⟨#[]⟩ := empty_is h4
  refine hw.ne ?_
  rw [← h, h5]
  cases wt
  congr
theorem nm_inj {wt s t : ByteArray} (hw : OkW wt) (h : nmW wt s = nmW wt t) : s = t := by
  unfold nmW at h
  split at h
  · rename_i h1
    split at h
    · exact h
    · exact absurd (h.symm.trans h1) (app_und hw)
  · rename_i h1
    split at h
    · rename_i h2
      exact absurd (h.trans h2) (app_und hw)
    · exact app_cancel h
theorem nm_und {wt s : ByteArray} (hw : OkW wt) : nmW wt s = ⟨#[95]⟩ ↔ s = ⟨#[95]⟩ := by
  have e : nmW wt ⟨#[95]⟩ = ⟨#[95]⟩ := by unfold nmW; simp
  constructor
  · intro h; exact nm_inj hw (h.trans e.symm)
  · rintro rfl; exact e

section
variable {wt : ByteArray} (hw : OkW wt)
/-- The same scope, but for the names. -/
def Rel (wt : ByteArray) (f f' : Fr) : Prop := ∀ s, f' (nmW wt s) = f s
def RelL (wt : ByteArray) : List Fr → List Fr → Prop
  | [], [] => True
  | f :: r, f' :: r' => Rel wt f f' ∧ RelL wt r r'
  | _, _ => False
def RelE (wt : ByteArray) : Except Flt Fr → Except Flt Fr → Prop
  | .ok f, .ok f' => Rel wt f f'
  | .error e, .error e' => e = e'
  | _, _ => False
theorem RelE.parts {x x' : Except Flt Fr} (h : RelE wt x x') : (∃ f f', x = .ok f ∧ x' = .ok f' ∧ Rel wt f f') ∨ ∃ e, x = .error e ∧ x' = .error e := by
  match x, x', h with
  | .ok f, .ok f', h => exact Or.inl ⟨f, f', rfl, rfl, h⟩
  | .error e, .error e', h => exact Or.inr ⟨e, rfl, by rw [show e = e' from h]⟩
theorem rel_0 : Rel wt Fr0 Fr0 := fun _ => rfl
theorem rel_ok {f f' : Fr} (h : Rel wt f f') : RelE wt (.ok f) (.ok f') := h
theorem rel_er (e : Flt) : RelE wt (.error e) (.error e) := rfl
theorem rel_of : ∀ {r r' : List Fr}, RelL wt r r' → ∀ s, ofF r' (nmW wt s) = ofF r s
  | [], [], _, s => rfl
  | f :: r, f' :: r', h, s => by rw [ofF, ofF, h.1 s, rel_of h.2 s]
theorem rel_gone {f f' g g' : Fr} (h : Rel wt f f') (k : Rel wt g g') : Rel wt (goneF f g) (goneF f' g') := fun s => by
  unfold goneF
  rw [h s, k s]
theorem rel_aside {f f' g g' : Fr} (h : Rel wt f f') (k : Rel wt g g') : Rel wt (asideF f g) (asideF f' g') := fun s => by
  unfold asideF
  rw [h s, k s]
include hw in
theorem rel_bind {r r' : List Fr} {f f' : Fr} (hr : RelL wt r r') (h : Rel wt f f') (s : ByteArray) : Rel wt (bindF r f s) (bindF r' f' (nmW wt s)) := fun x => by
  have e : ofF (f' :: r') (nmW wt s) = ofF (f :: r) s := rel_of (r := f :: r) (r' := f' :: r') ⟨h, hr⟩ s
  unfold bindF
  rw [e]
  split
  · exact h x
  · unfold Fr.put
    by_cases hx : x = s
    · rw [if_pos hx, if_pos (by rw [hx])]
    · rw [if_neg hx, if_neg (fun k => hx (nm_inj hw k))]
      exact h x
theorem rel_var {ch ch' : List Fr} (h : RelL wt ch ch') (s : ByteArray) (pos : Int) : varF ch' (nmW wt s) pos = varF ch s pos := by
  unfold varF
  rw [rel_of h s]

theorem patF_3 (r : List Fr) (s : ByteArray) (num pos : Int) (K : List Nd) (f : Fr) : patF r (.mk 3 s num pos K) f = .ok (if s = ⟨#[95]⟩ then f else bindF r f s) := by
  rw [patF, if_neg (by decide), if_pos rfl]
theorem exprF_3 (hs : ByteArray → Int → Bool) (s : ByteArray) (num pos : Int) (K : List Nd) (md : Nat) (r : List Fr) (f : Fr) : exprF hs (.mk 3 s num pos K) md r f = (match varF (f :: r) s pos with | some e => .error e | none => .ok f) := by
  rw [exprF, if_neg (by simp), if_neg (by decide), if_pos rfl]
  cases varF (f :: r) s pos <;> rfl
def RP (wt : ByteArray) (t : Nd) : Prop := ∀ r r' f f', RelL wt r r' → Rel wt f f' → RelE wt (patF r t f) (patF r' (renN wt t) f')
theorem rn_pats : ∀ (K : List Nd), (∀ t ∈ K, RP wt t) → ∀ r r' f f', RelL wt r r' → Rel wt f f' → RelE wt (patsF r K f) (patsF r' (renL wt K) f')
  | [], _, r, r', f, f', hr, hf => by rw [renL, patsF, patsF]; exact hf
  | n :: K, h, r, r', f, f', hr, hf => by
    rw [renL, patsF, patsF]
    rcases (h n (by simp) r r' f f' hr hf).parts with ⟨g, g', e1, e2, hg⟩ | ⟨e, e1, e2⟩
    · rw [e1, e2]; exact rn_pats K (fun t ht => h t (by simp [ht])) r r' g g' hr hg
    · rw [e1, e2]; exact rel_er e
include hw in
theorem rn_pat : ∀ (n : Nat) (t : Nd), SizeOf.sizeOf t < n → RP wt t
  | 0, _, h => by omega
  | n + 1, .mk k s num pos K, h => by
    intro r r' f f' hr hf
    have hK : ∀ t ∈ K, RP wt t := fun t ht => rn_pat n t (by have := (Bel.kid (k := k) (num := num) (pos := pos) (s := s) ht).1; omega)
    by_cases h3 : k = 3
    · subst h3
      rw [ren_3, patF_3, patF_3]
      by_cases hu : s = ⟨#[95]⟩
      · rw [if_pos hu, if_pos ((nm_und hw).2 hu)]; exact hf
      · rw [if_neg hu, if_neg (fun k => hu ((nm_und hw).1 k))]; exact rel_bind hw hr hf s
    · have hn := ren_isNeg (wt := wt) (.mk k s num pos K)
      rw [ren_n h3] at hn ⊢
      rw [patF, patF, hn]
      by_cases c1 : k = 1 ∨ k = 2 ∨ k = 4
      · rw [if_pos c1, if_pos c1]; exact hf
      rw [if_neg c1, if_neg c1, if_neg h3, if_neg h3]
      by_cases c2 : k = 5 ∨ k = 6 ∨ k = 8
      · rw [if_pos c2, if_pos c2]; exact rn_pats K hK r r' f f' hr hf
      rw [if_neg c2, if_neg c2]
      by_cases c4 : isNeg (.mk k s num pos K) = true
      · rw [if_pos c4, if_pos c4]; exact hf
      · rw [if_neg c4, if_neg c4]; exact rel_er _
def RG (wt : ByteArray) (t : Nd) : Prop := ∀ ch ch', RelL wt ch ch' → grdF ch' (renN wt t) = grdF ch t
theorem rn_grds : ∀ (K : List Nd), (∀ t ∈ K, RG wt t) → ∀ ch ch', RelL wt ch ch' → grdsF ch' (renL wt K) = grdsF ch K
  | [], _, ch, ch', h => by rw [renL, grdsF, grdsF]
  | n :: K, hK, ch, ch', h => by rw [renL, grdsF, grdsF, hK n (by simp) ch ch' h, rn_grds K (fun t ht => hK t (by simp [ht])) ch ch' h]
theorem rn_grd : ∀ (n : Nat) (t : Nd), SizeOf.sizeOf t < n → RG wt t
  | 0, _, h => by omega
  | n + 1, .mk k s num pos K, h => by
    intro ch ch' hr
    have hK : ∀ t ∈ K, RG wt t := fun t ht => rn_grd n t (by have := (Bel.kid (k := k) (num := num) (pos := pos) (s := s) ht).1; omega)
    have hg := rn_grds K hK ch ch' hr
    by_cases h3 : k = 3
    · subst h3
      rw [ren_3, grdF, grdF, rel_var hr, hg]
      simp
    · rw [ren_n h3, grdF, grdF, hg, renL_len, ren_callG]
      have ht : grdtF ch' (renL wt K) = grdtF ch K := by
        cases K with
        | nil => rw [renL]
                 rfl
        | cons c K => rw [renL, grdtF, grdtF]; exact rn_grds K (fun t ht => hK t (by simp [ht])) ch ch' hr
      rw [ht]
      simp [h3]
theorem rn_rows {ch ch' : List Fr} (h : RelL wt ch ch') : ∀ (K : List Nd), rowsF ch' (renL wt K) = rowsF ch K
  | [] => by rw [renL, rowsF, rowsF]
  | n :: K => by rw [renL, rowsF, rowsF, ren_kids, rn_grds n.kids (fun t _ => rn_grd _ t (Nat.lt_succ_self _)) ch ch' h, rn_rows h K]

variable (hs : ByteArray → Int → Bool)
def RE (wt : ByteArray) (hs : ByteArray → Int → Bool) (t : Nd) : Prop := ∀ md r r' f f', RelL wt r r' → Rel wt f f' → RelE wt (exprF hs t md r f) (exprF hs (renN wt t) md r' f')
def RB (wt : ByteArray) (hs : ByteArray → Int → Bool) (t : Nd) : Prop := ∀ r r' f f', RelL wt r r' → Rel wt f f' → RelE wt (bodyF hs t r f) (bodyF hs (renN wt t) r' f')
def RC (wt : ByteArray) (hs : ByteArray → Int → Bool) (t : Nd) : Prop := ∀ r r' f f', RelL wt r r' → Rel wt f f' → RelE wt (clauseF hs t r f) (clauseF hs (renN wt t) r' f')
def RA (wt : ByteArray) (hs : ByteArray → Int → Bool) (t : Nd) : Prop := ∀ r r' f f', RelL wt r r' → Rel wt f f' → RelE wt (afterF hs t r f) (afterF hs (renN wt t) r' f')
theorem rn_exprs : ∀ (K : List Nd), (∀ t ∈ K, RE wt hs t) → ∀ r r' f f', RelL wt r r' → Rel wt f f' → RelE wt (exprsF hs K r f) (exprsF hs (renL wt K) r' f')
  | [], _, r, r', f, f', hr, hf => by rw [renL, exprsF, exprsF]; exact hf
  | n :: K, h, r, r', f, f', hr, hf => by
    rw [renL, exprsF, exprsF]
    rcases (h n (by simp) 0 r r' f f' hr hf).parts with ⟨g, g', e1, e2, hg⟩ | ⟨e, e1, e2⟩
    · rw [e1, e2]; exact rn_exprs K (fun t ht => h t (by simp [ht])) r r' g g' hr hg
    · rw [e1, e2]; exact rel_er e
theorem rn_items : ∀ (K : List Nd), (∀ t ∈ K, RE wt hs t) → ∀ r r' f f', RelL wt r r' → Rel wt f f' → RelE wt (itemsF hs K r f) (itemsF hs (renL wt K) r' f')
  | [], _, r, r', f, f', hr, hf => by rw [renL, itemsF, itemsF]; exact hf
  | n :: K, h, r, r', f, f', hr, hf => by
    rw [renL, itemsF, itemsF]
    rcases (h n (by simp) 1 r r' f f' hr hf).parts with ⟨g, g', e1, e2, hg⟩ | ⟨e, e1, e2⟩
    · rw [e1, e2]; exact rn_items K (fun t ht => h t (by simp [ht])) r r' g g' hr hg
    · rw [e1, e2]; exact rel_er e
theorem rn_steps : ∀ (K : List Nd), (∀ t ∈ K, RE wt hs t) → ∀ r r' f f', RelL wt r r' → Rel wt f f' → RelE wt (stepsF hs K r f) (stepsF hs (renL wt K) r' f')
  | [], _, r, r', f, f', hr, hf => by rw [renL, stepsF, stepsF]; exact hf
  | n :: K, h, r, r', f, f', hr, hf => by
    rw [renL, stepsF, stepsF]
    rcases (h n (by simp) 2 r r' f f' hr hf).parts with ⟨g, g', e1, e2, hg⟩ | ⟨e, e1, e2⟩
    · rw [e1, e2]; exact rn_steps K (fun t ht => h t (by simp [ht])) r r' g g' hr hg
    · rw [e1, e2]; exact rel_er e
theorem rn_body {t : Nd} (h : ∀ x ∈ t.kids, RE wt hs x) : RB wt hs t := by
  obtain ⟨k, s, num, pos, K⟩ := t
  intro r r' f f' hr hf
  rw [renN, bodyF, bodyF]
  exact rn_items hs K h r r' f f' hr hf
include hw in
theorem rn_clause {t : Nd} (h : ∀ x ∈ t.kids, RB wt hs x) : RC wt hs t := by
  obtain ⟨k, s, num, pos, K⟩ := t
  intro r r' f f' hr hf
  rw [renN]
  match K, h with
  | [P, G, B], h =>
    rw [renL, renL, renL, renL, clauseF, clauseF, ren_kids, ren_kids]
    rcases (rn_pats P.kids (fun t _ => rn_pat hw _ t (Nat.lt_succ_self _)) r r' f f' hr hf).parts with ⟨g, g', e1, e2, hg⟩ | ⟨e, e1, e2⟩
    · rw [e1, e2]
      simp only
      have hrg : RelL wt (g :: r) (g' :: r') := ⟨hg, hr⟩
      rw [rn_rows hrg]
      cases rowsF (g :: r) G.kids with
      | some e => exact rel_er e
      | none => exact h B (by simp [Nd.kids]) r r' g g' hr hg
    · rw [e1, e2]; exact rel_er e
  | [], _ => simpa [clauseF, renL] using rel_ok hf
  | [_], _ => simpa [clauseF, renL] using rel_ok hf
  | [_, _], _ => simpa [clauseF, renL] using rel_ok hf
  | _ :: _ :: _ :: _ :: _, _ => simpa [clauseF, renL] using rel_ok hf
theorem rn_heads : ∀ (K : List Nd), (∀ t ∈ K, RC wt hs t) → ∀ r r' f f', RelL wt r r' → Rel wt f f' → RelE wt (headsF hs K r f) (headsF hs (renL wt K) r' f')
  | [], _, r, r', f, f', hr, hf => by rw [renL, headsF, headsF]; exact hf
  | n :: K, h, r, r', f, f', hr, hf => by
    rw [renL, headsF, headsF]
    rcases (h n (by simp) (f :: r) (f' :: r') Fr0 Fr0 ⟨hf, hr⟩ rel_0).parts with ⟨g, g', e1, e2, hg⟩ | ⟨e, e1, e2⟩
    · rw [e1, e2]; exact rn_heads K (fun t ht => h t (by simp [ht])) r r' f f' hr hf
    · rw [e1, e2]; exact rel_er e
theorem rn_choices : ∀ (K : List Nd), (∀ t ∈ K, RC wt hs t) → ∀ r r' f f', RelL wt r r' → Rel wt f f' → RelE wt (choicesF hs K r f) (choicesF hs (renL wt K) r' f')
  | [], _, r, r', f, f', hr, hf => by rw [renL, choicesF, choicesF]; exact hf
  | n :: K, h, r, r', f, f', hr, hf => by
    rw [renL, choicesF, choicesF]
    rcases (h n (by simp) (f :: r) (f' :: r') Fr0 Fr0 ⟨hf, hr⟩ rel_0).parts with ⟨g, g', e1, e2, hg⟩ | ⟨e, e1, e2⟩
    · rw [e1, e2]; exact rn_choices K (fun t ht => h t (by simp [ht])) r r' _ _ hr (rel_gone hf hg)
    · rw [e1, e2]; exact rel_er e
theorem rn_after {t : Nd} (h : ∀ x ∈ t.kids, RE wt hs x ∧ RB wt hs x) : RA wt hs t := by
  obtain ⟨k, s, num, pos, K⟩ := t
  intro r r' f f' hr hf
  rw [renN]
  match K, h with
  | [e, B], h =>
    rw [renL, renL, renL, afterF_eq, afterF_eq]
    rcases ((h e (by simp [Nd.kids])).1 0 r r' f f' hr hf).parts with ⟨g, g', e1, e2, hg⟩ | ⟨x, e1, e2⟩
    · rw [e1, e2]
      simp only
      rcases ((h B (by simp [Nd.kids])).2 (g :: r) (g' :: r') Fr0 Fr0 ⟨hg, hr⟩ rel_0).parts with ⟨j, j', e3, e4, hj⟩ | ⟨x, e3, e4⟩
      · rw [e3, e4]; exact rel_aside hg hj
      · rw [e3, e4]; exact rel_er x
    · rw [e1, e2]; exact rel_er x
  | [], _ => simpa [afterF, renL] using rel_ok hf
  | [_], _ => simpa [afterF, renL] using rel_ok hf
  | _ :: _ :: _ :: _, _ => simpa [afterF, renL] using rel_ok hf
theorem rn_rcv : ∀ (m : Nat) (K : List Nd), (∀ t ∈ K, RC wt hs t ∧ RA wt hs t) → ∀ r r' f f', RelL wt r r' → Rel wt f f' → RelE wt (rcvF hs m K r f) (rcvF hs m (renL wt K) r' f')
  | _, [], _, r, r', f, f', hr, hf => by simpa [rcvF, renL] using rel_ok hf
  | 0, n :: K, h, r, r', f, f', hr, hf => by
    rw [renL, rcvF, rcvF]
    rcases ((h n (by simp)).2 r r' f f' hr hf).parts with ⟨g, g', e1, e2, hg⟩ | ⟨e, e1, e2⟩
    · rw [e1, e2]; exact rn_rcv 0 K (fun t ht => h t (by simp [ht])) r r' g g' hr hg
    · rw [e1, e2]; exact rel_er e
  | m + 1, n :: K, h, r, r', f, f', hr, hf => by
    rw [renL, rcvF, rcvF]
    rcases ((h n (by simp)).1 (f :: r) (f' :: r') Fr0 Fr0 ⟨hf, hr⟩ rel_0).parts with ⟨g, g', e1, e2, hg⟩ | ⟨e, e1, e2⟩
    · rw [e1, e2]; exact rn_rcv m K (fun t ht => h t (by simp [ht])) r r' _ _ hr (rel_gone hf hg)
    · rw [e1, e2]; exact rel_er e
include hw in
theorem rn_step {t : Nd} (ih : ∀ x, Bel x t → RE wt hs x) : RE wt hs t := by
  have hE : ∀ x ∈ t.kids, RE wt hs x := fun x hx => ih x (Bel.kids hx)
  have hB : ∀ x ∈ t.kids, RB wt hs x := fun x hx => rn_body hs fun y hy => ih y ((Bel.kids hy).trans (Bel.kids hx))
  have hC : ∀ x ∈ t.kids, RC wt hs x := fun x hx => rn_clause hw hs fun y hy => rn_body hs fun z hz => ih z ((Bel.kids hz).trans ((Bel.kids hy).trans (Bel.kids hx)))
  have hA : ∀ x ∈ t.kids, RA wt hs x := fun x hx => rn_after hs fun y hy => ⟨ih y ((Bel.kids hy).trans (Bel.kids hx)), rn_body hs fun z hz => ih z ((Bel.kids hz).trans ((Bel.kids hy).trans (Bel.kids hx)))⟩
  obtain ⟨k, s, num, pos, K⟩ := t
  have hE : ∀ x ∈ K, RE wt hs x := hE
  have hB : ∀ x ∈ K, RB wt hs x := hB
  have hC : ∀ x ∈ K, RC wt hs x := hC
  have hA : ∀ x ∈ K, RA wt hs x := hA
  have hP : ∀ p, RP wt p := fun p => rn_pat hw _ p (Nat.lt_succ_self _)
  intro md r r' f f' hr hf
  have hrf : RelL wt (f :: r) (f' :: r') := ⟨hf, hr⟩
  by_cases hc3 : k = 3
  · subst hc3
    rw [ren_3, exprF_3, exprF_3, rel_var hrf]
    cases varF (f :: r) s pos with
    | some e => exact rel_er e
    | none => exact hf
  rw [ren_n hc3, exprF, exprF]
  by_cases hc : k = 18 ∧ md = 2
  · rw [if_pos hc, if_pos hc]
    match K, hE with
    | [p, e], hE =>
      rw [renL, renL, renL, genF, genF]
      rcases (hE e (by simp) 0 r r' f f' hr hf).parts with ⟨g, g', e1, e2, hg⟩ | ⟨x, e1, e2⟩
      · rw [e1, e2]; exact hP p r r' g g' hr hg
      · rw [e1, e2]; exact rel_er x
    | [], _ => simpa [genF, renL] using rel_ok hf
    | [_], _ => simpa [genF, renL] using rel_ok hf
    | _ :: _ :: _ :: _, _ => simpa [genF, renL] using rel_ok hf
  rw [if_neg hc, if_neg hc]
  by_cases hc : k = 8
  · rw [if_pos hc, if_pos hc]
    by_cases hm : md = 1
    · rw [if_pos hm, if_pos hm]
      match K, hE with
      | [p, e], hE =>
        rw [renL, renL, renL, matchF, matchF]
        rcases (hE e (by simp) 1 r r' f f' hr hf).parts with ⟨g, g', e1, e2, hg⟩ | ⟨x, e1, e2⟩
        · rw [e1, e2]; exact hP p r r' g g' hr hg
        · rw [e1, e2]; exact rel_er x
      | [], _ => simpa [matchF, renL] using rel_ok hf
      | [_], _ => simpa [matchF, renL] using rel_ok hf
      | _ :: _ :: _ :: _, _ => simpa [matchF, renL] using rel_ok hf
    · rw [if_neg hm, if_neg hm]; exact rel_er _
  rw [if_neg hc, if_neg hc, if_neg hc3, if_neg hc3]
  by_cases hc : k = 9
  · rw [if_pos hc, if_pos hc, renL_len]
    by_cases hl : 13 < K.length
    · rw [if_pos hl, if_pos hl]; exact rel_er _
    rw [if_neg hl, if_neg hl, ren_headAtom]
    have hh : (headAtom K && !clbB hs (headTxt (renL wt K)) ((K.length : Int) - 1)) = (headAtom K && !clbB hs (headTxt K) ((K.length : Int) - 1)) := by
      cases ha : headAtom K with
      | false => rfl
      | true => rw [ren_headTxt ha]
    rw [hh]
    split
    · exact rel_er _
    · exact rn_exprs hs K hE r r' f f' hr hf
  rw [if_neg hc, if_neg hc]
  by_cases hc : k = 11
  · rw [if_pos hc, if_pos hc]
    split
    · exact hf
    · exact rel_er _
  rw [if_neg hc, if_neg hc]
  by_cases hc : k = 10
  · rw [if_pos hc, if_pos hc, ren_headPat, ren_alike]
    cases alikeF (headPat K : Nat) K with
    | some e => exact rel_er e
    | none => exact rn_heads hs K hC r r' f f' hr hf
  rw [if_neg hc, if_neg hc]
  by_cases hc : k = 12
  · rw [if_pos hc, if_pos hc]
    match K, hE, hC with
    | [], _, _ => rw [renL, caseF, caseF]; exact hf
    | n :: L, hE, hC =>
      rw [renL, caseF, caseF]
      rcases (hE n (by simp) 0 r r' f f' hr hf).parts with ⟨g, g', e1, e2, hg⟩ | ⟨x, e1, e2⟩
      · rw [e1, e2]; exact rn_choices hs L (fun t ht => hC t (by simp [ht])) r r' g g' hr hg
      · rw [e1, e2]; exact rel_er x
  rw [if_neg hc, if_neg hc]
  by_cases hc : k = 13
  · rw [if_pos hc, if_pos hc]; exact rn_choices hs K hC r r' f f' hr hf
  rw [if_neg hc, if_neg hc]
  by_cases hc : k = 14
  · rw [if_pos hc, if_pos hc, renL_len]; exact rn_rcv hs _ K (fun t ht => ⟨hC t ht, hA t ht⟩) r r' f f' hr hf
  rw [if_neg hc, if_neg hc]
  by_cases hc : k = 16
  · rw [if_pos hc, if_pos hc]
    match K, hB, hC with
    | [], _, _ => rw [renL, tryF, tryF]; exact hf
    | n :: L, hB, hC =>
      rw [renL, tryF, tryF]
      rcases (hB n (by simp) (f :: r) (f' :: r') Fr0 Fr0 hrf rel_0).parts with ⟨g, g', e1, e2, hg⟩ | ⟨x, e1, e2⟩
      · rw [e1, e2]; exact rn_choices hs L (fun t ht => hC t (by simp [ht])) r r' _ _ hr (rel_gone hf hg)
      · rw [e1, e2]; exact rel_er x
  rw [if_neg hc, if_neg hc]
  by_cases hc : k = 17
  · rw [if_pos hc, if_pos hc]
    have hcp : RelE wt (compF hs K (f :: r) Fr0) (compF hs (renL wt K) (f' :: r') Fr0) := by
      match K, hE with
      | [], _ => rw [renL, compF, compF]; exact rel_0
      | n :: L, hE =>
        rw [renL, compF, compF]
        rcases (rn_steps hs L (fun t ht => hE t (by simp [ht])) (f :: r) (f' :: r') Fr0 Fr0 hrf rel_0).parts with ⟨g, g', e1, e2, hg⟩ | ⟨x, e1, e2⟩
        · rw [e1, e2]; exact hE n (by simp) 0 (f :: r) (f' :: r') g g' hrf hg
        · rw [e1, e2]; exact rel_er x
    rcases hcp.parts with ⟨g, g', e1, e2, hg⟩ | ⟨x, e1, e2⟩
    · rw [e1, e2]; exact hf
    · rw [e1, e2]; exact rel_er x
  rw [if_neg hc, if_neg hc]
  by_cases hc : k = 19
  · rw [if_pos hc, if_pos hc]
    rcases (rn_items hs K hE (f :: r) (f' :: r') Fr0 Fr0 hrf rel_0).parts with ⟨g, g', e1, e2, hg⟩ | ⟨x, e1, e2⟩
    · rw [e1, e2]; exact rel_gone hf hg
    · rw [e1, e2]; exact rel_er x
  rw [if_neg hc, if_neg hc]
  exact rn_exprs hs K hE r r' f f' hr hf
include hw in
theorem rn_all : ∀ (n : Nat) (t : Nd), SizeOf.sizeOf t < n → RE wt hs t
  | 0, _, h => by omega
  | n + 1, t, h => rn_step hw hs fun x hx => rn_all n x (by have := hx.1; omega)
include hw in
theorem rn_headsT : ∀ K : List Nd, headsT hs (renL wt K) = headsT hs K
  | [] => by rw [renL]
  | n :: K => by
    rw [renL, headsT, headsT]
    have hc : RC wt hs n := rn_clause hw hs fun x _ => rn_body hs fun y _ => rn_all hw hs _ y (Nat.lt_succ_self _)
    rcases (hc [] [] Fr0 Fr0 trivial rel_0).parts with ⟨g, g', e1, e2, _⟩ | ⟨e, e1, e2⟩
    · rw [e1, e2]; exact rn_headsT K
    · rw [e1, e2]
include hw in
theorem rn_bods : ∀ K : List Nd, bodsF hs (renL wt K) = bodsF hs K
  | [] => by rw [renL]
  | n :: K => by rw [renL, bodsF, bodsF, ren_kids, rn_headsT hw hs, rn_bods K]
end
theorem rn_decls {wt : ByteArray} : ∀ (K : List Nd) (hs : ByteArray → Int → Bool), (∀ t ∈ K, t.kd ≠ 3) → declsF (renL wt K) hs = declsF K hs
  | [], hs, _ => by rw [renL]
  | .mk k s num pos L :: K, hs, h => by
    have h3 : k ≠ 3 := h (.mk k s num pos L) (by simp)
    rw [renL, ren_n h3, declsF, declsF]
    unfold declF
    rw [ren_alike]
    split
    · rfl
    · exact rn_decls K _ (fun t ht => h t (by simp [ht]))
theorem rn_check {wt : ByteArray} (hw : OkW wt) (K : List Nd) (h : ∀ t ∈ K, t.kd ≠ 3) : checkF (renL wt K) = checkF K := by
  unfold checkF
  rw [rn_decls K _ h]
  cases declsF K (fun _ _ => false) with
  | error e => rfl
  | ok hs => exact rn_bods hw hs K

end Go.Proofs.YtpgjcedonimgnaaDoor

/- Variables with other names: the tree stays right (mathematics). -/
namespace Go.Proofs.YtpgjcedonimgnaaDoor
open Go.RowKit

mutual
theorem ren_dep {wt : ByteArray} : ∀ t : Nd, depN (renN wt t) = depN t
  | .mk k s num pos K => by rw [renN, depN, depN, ren_depR K]
theorem ren_depR {wt : ByteArray} : ∀ K : List Nd, depR (renL wt K) = depR K
  | [] => by rw [renL]
  | n :: K => by rw [renL, depR, depR, ren_dep n, ren_depR K]
end
mutual
theorem ren_man {wt : ByteArray} : ∀ t : Nd, manN (renN wt t) = manN t
  | .mk k s num pos K => by rw [renN, manN, manN, ren_manR K]
theorem ren_manR {wt : ByteArray} : ∀ K : List Nd, manR (renL wt K) = manR K
  | [] => by rw [renL]
  | n :: K => by rw [renL, manR, manR, ren_man n, ren_manR K]
end
mutual
theorem ren_nsz {wt : ByteArray} : ∀ t : Nd, nsz (renN wt t) = nsz t
  | .mk k s num pos K => by rw [renN, nsz, nsz, ren_nszs K]
theorem ren_nszs {wt : ByteArray} : ∀ K : List Nd, nszs (renL wt K) = nszs K
  | [] => by rw [renL]
  | n :: K => by rw [renL, nszs, nszs, ren_nsz n, ren_nszs K, renL_len]
end
mutual
theorem ren_nxz {wt : ByteArray} {N : Nat} (h40 : 40 ≤ N) : ∀ t : Nd, lonN t + wt.size ≤ 40 → nxz t ≤ N → nxz (renN wt t) ≤ N
  | .mk k s num pos K, hl, hn => by
    rw [lonN] at hl
    rw [nxz] at hn
    have h1 := ren_nxzs (wt := wt) h40 K (by omega) (by omega)
    rw [renN, nxz]
    split
    · rename_i h
      rw [if_pos h.1] at hl
      rw [ByteArray.size_append]
      omega
    · omega
theorem ren_nxzs {wt : ByteArray} {N : Nat} (h40 : 40 ≤ N) : ∀ K : List Nd, lonR K + wt.size ≤ 40 → nxzs K ≤ N → nxzs (renL wt K) ≤ N
  | [], _, _ => by rw [renL, nxzs]; omega
  | n :: K, hl, hn => by
    rw [lonR] at hl
    rw [nxzs] at hn
    rw [renL, nxzs]
    have h1 := ren_nxz (wt := wt) h40 n (by omega) (by omega)
    have h2 := ren_nxzs (wt := wt) h40 K (by omega) (by omega)
    omega
end
theorem lon_mem {t : Nd} : ∀ {K : List Nd}, t ∈ K → lonN t ≤ lonR K
  | n :: K, h => by
    rw [lonR]
    rcases List.mem_cons.1 h with rfl | h
    · omega
    · have := lon_mem h; omega
theorem ren_kdAll {wt : ByteArray} (k0 : Int) (K : List Nd) : kdAll k0 (K.map (renN wt)) = kdAll k0 K := by
  unfold kdAll
  rw [List.all_map]
  congr
  funext t
  simp [ren_kd]
theorem ren_brB {wt : ByteArray} (K : List Nd) (m : Nat) : brB (renL wt K) m = brB K m := by
  unfold brB
  rw [renL_map, ← List.map_take, ← List.map_drop, ren_kdAll, ren_kdAll]
theorem ren_parB {wt : ByteArray} (K : List Nd) : parB (renL wt K) = parB K := by
  match K with
  | [] => rw [renL]
  | .mk k s n p [] :: K => rw [renL, renN, renL]; rfl
  | .mk k s n p (x :: y) :: K =>
    rw [renL, renN, renL]
    simp only [parB]
    rw [ren_kids, renL_len]
theorem ren_nmB {wt : ByteArray} (k num pos : Int) (s s' : ByteArray) (K : List Nd) : nmB (.mk k s' num pos (renL wt K)) = nmB (.mk k s num pos K) := by
  unfold nmB
  simp only [renL_len, ren_brB, ren_parB]
/-- Letters a to z and digits alone. -/
def LowW (wt : ByteArray) : Prop := ∀ k (h : k < wt.size), (97 ≤ (wt[k]'h).toNat ∧ (wt[k]'h).toNat ≤ 122) ∨ (48 ≤ (wt[k]'h).toNat ∧ (wt[k]'h).toNat ≤ 57)
theorem LowW.ok {wt : ByteArray} (h : LowW wt) (hp : 0 < wt.size) : OkW wt := by
  refine ⟨hp, fun e => ?_⟩
  subst e
  have := h 0 (by decide)
  have e : (⟨#[95]⟩ : ByteArray)[0]'(by decide) = 95 := rfl
  rw [e] at this
  revert this
  decide
theorem var_app {s wt : ByteArray} (hw : LowW wt) (h : varS s = true) (hl : s.size + wt.size ≤ 40) : varS (s ++ wt) = true := by
  unfold varS at h ⊢
  simp only [Bool.and_eq_true, decide_eq_true_eq] at h ⊢
  obtain ⟨⟨h1, h2⟩, h3, h4⟩ := h
  have hsz : (s ++ wt).size = s.size + wt.size := ByteArray.size_append
  refine ⟨⟨by omega, by omega⟩, ?_, ?_⟩
  · unfold vhead at h3 ⊢
    have hp : 0 < s.size := by omega
    have hp2 : 0 < (s ++ wt).size := by omega
    rw [dif_pos hp] at h3
    rw [dif_pos hp2]
    have e : (s ++ wt)[0]'hp2 = s[0]'hp := ByteArray.getElem_append_left hp
    rw [e]
    exact h3
  · unfold allB at h4 ⊢
    rw [decide_eq_true_eq] at h4 ⊢
    intro k hk
    by_cases hks : k < s.size
    · have e : (s ++ wt)[k]'hk = s[k]'hks := ByteArray.getElem_append_left hks
      rw [e]
      exact h4 k hks
    · have e : (s ++ wt)[k]'hk = wt[k - s.size]'(by omega) := ByteArray.getElem_append_right (by omega)
      rw [e]
      rcases hw (k - s.size) (by omega) with hh | hh
      · unfold varC
        have e1 : decide ((97 : Int) ≤ ((wt[k - s.size]'(by omega)).toNat : Int)) = true := decide_eq_true (by omega)
        have e2 : decide (((wt[k - s.size]'(by omega)).toNat : Int) ≤ 122) = true := decide_eq_true (by omega)
        rw [e1, e2]
        simp
      · unfold varC digB
        have e1 : decide ((48 : Int) ≤ ((wt[k - s.size]'(by omega)).toNat : Int)) = true := decide_eq_true (by omega)
        have e2 : decide (((wt[k - s.size]'(by omega)).toNat : Int) ≤ 57) = true := decide_eq_true (by omega)
        rw [e1, e2]
        simp
theorem var_und : varS ⟨#[95]⟩ = true := by decide
theorem rn_isB {wt : ByteArray} (hw : LowW wt) : ∀ (n : Nat) (t : Nd), SizeOf.sizeOf t < n → lonN t + wt.size ≤ 40 → ∀ r, isB r t = true → isB r (renN wt t) = true
  | 0, _, h, _, _, _ => by omega
  | n + 1, .mk k s num pos K, h, hl, r, hb => by
    have hlk : lonR K + wt.size ≤ 40 := by rw [lonN] at hl; omega
    have hK : ∀ t ∈ K, ∀ r, isB r t = true → isB r (renN wt t) = true := fun t ht => rn_isB hw n t (by have := (Bel.kid (k := k) (num := num) (pos := pos) (s := s) ht).1; omega) (by have := lon_mem ht; omega)
    rw [isB] at hb
    obtain ⟨s', he, htx⟩ : ∃ s', renN wt (.mk k s num pos K) = .mk k s' num pos (renL wt K) ∧ (txB k s K.length = true → txB k s' K.length = true) := by
      by_cases h3 : k = 3
      · subst h3
        refine ⟨_, ren_3, fun ht => ?_⟩
        have ht' : varS s = true := by simpa [txB] using ht
        have : varS (nmW wt s) = true := by
          unfold nmW
          split
          · exact ht'
          · rw [lonN, if_pos rfl] at hl
            exact var_app hw ht' (by omega)
        simpa [txB] using this
      · exact ⟨s, ren_n h3, fun ht => ht⟩
    rw [he, isB]
    cases hf : formAt k r with
    | none => rw [hf] at hb; cases hb
    | some f =>
      rw [hf] at hb
      simp only [Bool.and_eq_true] at hb ⊢
      obtain ⟨h1, h2, h3⟩ := hb
      refine ⟨by rw [renL_len]; exact h1, ?_, ?_⟩
      · rw [isR_iff] at h2 ⊢
        intro i hi
        have hi' : i < K.length := by rw [renL_len] at hi; exact hi
        have e : (renL wt K)[i]'hi = renN wt (K[i]'hi') := by simp [renL_map]
        rw [e]
        exact hK _ (List.getElem_mem hi') _ (h2 i hi')
      · rw [fldB, Bool.and_eq_true, Bool.and_eq_true] at h3 ⊢
        refine ⟨h3.1, by rw [renL_len]; exact htx h3.2.1, ?_⟩
        rw [ren_nmB k num pos s]
        exact h3.2.2
theorem fun_kd {t : Nd} (h : isB 2 t = true) : t.kd ≠ 3 := by
  obtain ⟨k, s, num, pos, K⟩ := t
  rw [isB] at h
  cases hf : formAt k 2 with
  | none => rw [hf] at h; cases h
  | some g =>
    obtain ⟨hg1, hg2, hg3⟩ := form_of hf
    have h2 : g.ro = 2 := by rw [hg2]; simp
    have : ∀ g ∈ formsL, g.ro = 2 → g.kd = 21 := by decide
    have hk := this g hg1 h2
    show k ≠ 3
    rw [← hg3, hk]
    decide
/-- What variables are called makes no difference. -/
theorem chk_ren {wt : ByteArray} (hw : LowW wt) (hp : 0 < wt.size) (m : Nd) (hl : lonN m + wt.size ≤ 40) (h : (chkF m).1 ≠ 4) : chkF (renN wt m) = chkF m := by
  have hm : m.kd = 22 ∧ rgtB m = true := by
    unfold chkF at h
    split at h
    · assumption
    · exact absurd rfl h
  obtain ⟨k, s, num, pos, K⟩ := m
  have hk : k = 22 := hm.1
  subst hk
  have hr := hm.2
  obtain ⟨⟨h1, h2⟩, _⟩ := right_mod.1 hr
  have hr' : rgtB (renN wt (.mk 22 s num pos K)) = true := by
    unfold rgtB fitsN at hr ⊢
    rw [ren_dep, ren_man]
    rw [Bool.and_eq_true] at hr ⊢
    refine ⟨hr.1, ?_⟩
    rw [Bool.or_eq_true] at hr ⊢
    rcases hr.2 with hx | hx
    · exact Or.inl (rn_isB hw _ _ (Nat.lt_succ_self _) hl _ hx)
    · exact Or.inr (rn_isB hw _ _ (Nat.lt_succ_self _) hl _ hx)
  rw [ren_n (by decide)] at hr' ⊢
  rw [chk_mod hr', chk_mod hr, rn_check (hw.ok hp) K (fun t ht => fun_kd (h1 t ht).2)]

end Go.Proofs.YtpgjcedonimgnaaDoor

/- renamed: a tree, each variable of which has another name, in new memory. -/
namespace Go.Proofs.YtpgjcedonimgnaaDoor
open Go.RowKit

theorem wpList_appendG {w : World} {ops : Array Oper} {rest : List Oper} {o : Oper} {a : Act} {Q : Exit → Act → World → Prop} (hgd : o.guard = none) (s x : Operand) (t : TypeId) (ho : o.op = .call { callee := .builtin .append, args := #[s, x], argTypes := #[t, t] })
    {e : TypeId} {i : TypeInfo} {z : Value} {sz bytes : Nat} (ht : Tryd.prog.underlying t = some (.slice e)) (hi : Tryd.prog.info? e = some i) (hz : i.zero = some z) (hsize : i.size = sz) (hby : i.bytes = bytes) (hzs : z.cells.size = sz)
    {v : Value} {n : Nat} (hs : a.eval s = v) (hr : RowG w sz v n) (ad : Addr) (m c : Nat) (news : List Value) (hx : a.eval x = .slice (some ad) m c) (hl : news.length = m * sz) (hnews : ∀ j u, news[j]? = some u → w.cell? (ad.add j) = some u) (h1 : ∀ u ∈ news, u.oneCell' = true)
    (hm : 0 < m) (h63 : n + m ≤ 1000000000000000) (hbytes : (n + m) * bytes ≤ 140737488355328)
    (h : ∀ g' cap' w', RowG w' sz (.slice (some ⟨g', 0, none⟩) (n + m) cap') (n + m) → Grew sz w w' v n g' → (∀ j, j < m * sz → w'.cell? ⟨g', n * sz + j, none⟩ = news[j]?) → wpList Tryd.prog ops Q rest (a.put o.dst (.slice (some ⟨g', 0, none⟩) (n + m) cap')) w') : wpList Tryd.prog ops Q (o :: rest) a w := by
  refine wpList_plain hgd fun K hK => ?_
  obtain ⟨g', cap', w', hrun, h2, h3, h4⟩ := run_appendG (ty := o.type) ht hi hz hsize hby hzs hr ad m c news hl hnews h1 hm h63 hbytes
  unfold Oper.wp execOp
  simp only [ho, resolve, invoke, builtin, Sem.run_bind, Sem.run_pure, Result.andThen_ok, List.map_toArray, List.map_cons, List.map_nil, hs, hx, hrun]
  exact hK _ _ (h g' cap' w' h2 h3 h4)

theorem bs_T {w : World} {ops : Array Oper} {rest : List Oper} {o : Oper} {a : Act} {Q : Exit → Act → World → Prop} (hgd : o.guard = none) (x : Operand) (ho : o.op = .buildSlice 27 1 #[(0, x)]) (k num p : Int) (s : ByteArray) (a1 : Option Addr) (n1 c1 : Nat) (hx : a.eval x = .agg #[.int .u8 k, .string s, .int .i64 num, .int .i64 p, .slice a1 n1 c1]) (g : Nat) (hg : w.heap.size = g)
    (h : wpList Tryd.prog ops Q rest (a.put o.dst (.slice (some ⟨g, 0, none⟩) 1 1)) (w.alloc (.cells #[.int .u8 k, .string s, .int .i64 num, .int .i64 p, .slice a1 n1 c1] 29))) : wpList Tryd.prog ops Q (o :: rest) a w :=
  wpList_plain hgd fun _ hK => wp_bs1 x ho k num p s a1 n1 c1 hx (by rw [hg]; exact hK _ _ h)

/-- A row of nodes in a block of a kind. -/
def RowNP (P : Nat → Prop) (R : List Value → Nd → Prop) (w : World) (a : Option Addr) (K : List Nd) : Prop :=
  K = [] ∨ ∃ b o, a = some ⟨b, o, none⟩ ∧ P b ∧ b < w.heap.size ∧ ∀ i (hi : i < K.length), ∃ cs : List Value, cs.length = 5 ∧ (∀ j, j < 5 → w.cell? ⟨b, o + (i * 5 + j), none⟩ = cs[j]?) ∧ R cs K[i]
/-- A tree whose rows lie in blocks of a kind. -/
def NInP (P : Nat → Prop) (w : World) : Nat → List Value → Nd → Prop
  | 0, _, _ => False
  | d + 1, cs, .mk k s num pos K => ∃ (a : Option Addr) (c : Nat), cs = [.int .u8 k, .string s, .int .i64 num, .int .i64 pos, .slice a K.length c] ∧ RowNP P (NInP P w d) w a K ∧ K.length ≤ c ∧ c ≤ 9223372036854775807
theorem NInP.nin {P : Nat → Prop} {w : World} : ∀ (d : Nat) (cs : List Value) (t : Nd), NInP P w d cs t → NIn w d cs t := by
  intro d
  induction d with
  | zero => intro cs t h; exact h.elim
  | succ d ih =>
    intro cs t h
    obtain ⟨k, s, num, pos, K⟩ := t
    obtain ⟨a, c, rfl, h1, hcp⟩ := h
    refine ⟨a, c, rfl, ?_, hcp⟩
    rcases h1 with h | ⟨b, o, e, _, hlt, hc⟩
    · exact Or.inl h
    · exact Or.inr ⟨b, o, e, hlt, fun i hi => (hc i hi).imp fun cs k => ⟨k.1, k.2.1, ih _ _ k.2.2⟩⟩
theorem NInP.upd {P Q : Nat → Prop} {S : List Nat} {w w' : World} (hu : Upd S w w') (hP : ∀ b, b < w.heap.size → P b → b ∉ S ∧ Q b) : ∀ (d : Nat) (cs : List Value) (t : Nd), NInP P w d cs t → NInP Q w' d cs t := by
  intro d
  induction d with
  | zero => intro cs t h; exact h.elim
  | succ d ih =>
    intro cs t h
    obtain ⟨k, s, num, pos, K⟩ := t
    obtain ⟨a, c, rfl, h1, hcp⟩ := h
    refine ⟨a, c, rfl, ?_, hcp⟩
    rcases h1 with h | ⟨b, o, e, hp, hlt, hc⟩
    · exact Or.inl h
    · refine Or.inr ⟨b, o, e, (hP b hlt hp).2, Nat.lt_of_lt_of_le hlt hu.size, fun i hi => ?_⟩
      obtain ⟨cs, k1, k2, k3⟩ := hc i hi
      exact ⟨cs, k1, fun j hj => (hu.cell (p := ⟨b, o + (i * 5 + j), none⟩) hlt (hP b hlt hp).1).trans (k2 j hj), ih _ _ k3⟩

/-- What renamed answers. -/
def RenS (wt : ByteArray) (d : Nat) : Prop := ∀ (w : World) (cs : List Value) (t : Nd), NIn w d cs t → nsz t ≤ 2199023255488 → nxz t ≤ 140737488355328 → Calls Tryd.prog 13 #[.agg cs.toArray, .string wt] w fun e w' => Upd [] w w' ∧ ∃ cs' : List Value, e = .returned (.agg cs'.toArray) ∧ NInP (fun b => w.heap.size ≤ b) w' d cs' (renN wt t)
/-- How far the new row has come. -/
structure RnI (w : World) (d : Nat) (wt : ByteArray) (oc : Array Value) (k num pos : Int) (s' : ByteArray) (K : List Nd) (q : Nat) (v : Value) (wr : World) : Prop where
  u : Upd [] w wr
  bx : Tb wr w.heap.size oc
  rs : Tb wr (w.heap.size + 1) #[.int .u8 0, .string ⟨#[]⟩, .int .i64 0, .int .i64 0, .slice none 0 0]
  nd : Tb wr (w.heap.size + 1 + 1) #[.int .u8 k, .string s', .int .i64 num, .int .i64 pos, v]
  row : RowG wr 5 v q
  own : ∀ g, v.ownBlock = some g → w.heap.size + 3 ≤ g
  has : ∃ C : Nat → List Value, Hs wr 5 v q C ∧ ∀ i (hi : i < K.length), i < q → (C i).length = 5 ∧ NInP (fun b => w.heap.size + 3 ≤ b ∧ v.ownBlock ≠ some b) wr d (C i) (renN wt K[i])
variable {w : World} {d : Nat} {wt : ByteArray} {oc : Array Value} {k num pos : Int} {s' : ByteArray} {K : List Nd} {q : Nat} {v : Value} {wr : World}
theorem RnI.mono (h : RnI w d wt oc k num pos s' K q v wr) {w' : World} (hu : Upd [] wr w') : RnI w d wt oc k num pos s' K q v w' := by
  obtain ⟨C, hC, hK⟩ := h.has
  exact ⟨h.u.trans hu, h.bx.mono hu (by simp), h.rs.mono hu (by simp), h.nd.mono hu (by simp), h.row.upd hu (by simp), h.own, C, hC.upd h.row hu (by simp), fun i hi hq => ⟨(hK i hi hq).1, NInP.upd hu (fun b _ hb => ⟨by simp, hb⟩) _ _ _ (hK i hi hq).2⟩⟩
/-- One node more. -/
theorem RnI.step (h : RnI w d wt oc k num pos s' K q v wr) (hq : q < K.length) {cs : List Value} {wA wB : World} (h5 : cs.length = 5) (hin : NInP (fun b => w.heap.size + 3 ≤ b ∧ v.ownBlock ≠ some b) wr d cs (renN wt K[q])) {g' cap' : Nat} (hr : RowG wA 5 (.slice (some ⟨g', 0, none⟩) (q + 1) cap') (q + 1)) (hg : Grew 5 wr wA v q g') (hn : ∀ j, j < 1 * 5 → wA.cell? ⟨g', q * 5 + j, none⟩ = cs[j]?)
    (hB : wB = wA.setCell ⟨w.heap.size + 1 + 1, 4, none⟩ (.slice (some ⟨g', 0, none⟩) (q + 1) cap')) : RnI w d wt oc k num pos s' K (q + 1) (.slice (some ⟨g', 0, none⟩) (q + 1) cap') wB := by
  obtain ⟨C, hC, hK⟩ := h.has
  have l3 := h.nd.lt
  have hown : w.heap.size + 3 ≤ g' := by
    rcases hg.at' with e | e
    · exact h.own g' e
    · omega
  have hnd : Tb wA (w.heap.size + 1 + 1) #[.int .u8 k, .string s', .int .i64 num, .int .i64 pos, v] := h.nd.mono hg.upd (by simp; omega)
  have huB : Upd [w.heap.size + 1 + 1] wA wB := by rw [hB]; exact (Upd.refl _ wA).setCell (Or.inr (by simp)) _
  have huA : Upd [] w wA := h.u.then hg.upd (by simp; omega)
  have hgv : ∀ b, b < wr.heap.size → v.ownBlock ≠ some b → b ≠ g' := fun b hb hv e => by
    subst e
    rcases hg.at' with e | e
    · exact hv e
    · omega
  refine ⟨huA.then huB (by simp; omega), ?_, ?_, ?_, ?_, fun g e => by cases e; exact hown, ?_⟩
  · exact (h.bx.mono hg.upd (by simp; omega)).mono huB (by simp; omega)
  · exact (h.rs.mono hg.upd (by simp; omega)).mono huB (by simp)
  · rw [hB]
    have := hnd.set 4 (.slice (some ⟨g', 0, none⟩) (q + 1) cap')
    simpa using this
  · exact hr.upd huB (fun g e => by cases e; simp; omega)
  · refine ⟨fun i => if i = q then cs else C i, ?_, fun i hi hiq => ?_⟩
    · have h1 : Hs wA 5 (.slice (some ⟨g', 0, none⟩) (q + 1) cap') q C := hg.has hC (Nat.le_refl _) h.row
      have h2 : Hs wA 5 (.slice (some ⟨g', 0, none⟩) (q + 1) cap') (q + 1) (fun i => if i = q then cs else C i) := by
        intro g l c e i j hi hj
        cases e
        by_cases hiq : i = q
        · subst hiq
          simp only [if_true]
          exact hn j (by omega)
        · simp only [hiq, if_false]
          exact h1 g' (q + 1) cap' rfl i j (by omega) hj
      exact h2.upd hr huB (fun g e => by cases e; simp; omega)
    · have key : ∀ cs t, NInP (fun b => w.heap.size + 3 ≤ b ∧ v.ownBlock ≠ some b) wr d cs t → NInP (fun b => w.heap.size + 3 ≤ b ∧ (Value.slice (some ⟨g', 0, none⟩) (q + 1) cap').ownBlock ≠ some b) wB d cs t := fun cs t ht => by
        have ha := NInP.upd (Q := fun b => w.heap.size + 3 ≤ b ∧ b ≠ g') hg.upd (fun b hb hp => ⟨by simp; exact hgv b hb hp.2, hp.1, hgv b hb hp.2⟩) _ _ _ ht
        exact NInP.upd huB (fun b _ hp => ⟨by simp; omega, hp.1, fun e => hp.2 (by cases e; rfl)⟩) _ _ _ ha
      by_cases e : i = q
      · subst e
        simp only [if_true]
        exact ⟨h5, key _ _ hin⟩
      · simp only [e, if_false]
        exact ⟨(hK i hi (by omega)).1, key _ _ (hK i hi (by omega)).2⟩

end Go.Proofs.YtpgjcedonimgnaaDoor
