/- LentLimbs of the kit, by its contract. -/
import Derived.Test.YtalhbbabijlngaaGreatDoorJAB
import Derived.Test.YtalhbbabijlngaaGreatDoorJAQ
import Derived.Test.YtalhbbabijlngaaGreatDoorJAT
import Derived.Test.YtalhbbabijlngaaGreatDoorJAD
import Derived.Deep.RegionHeld3
import Derived.Deep.QuietTactic
import Derived.BigQuiet
namespace Go.Proofs.YtalhbbabijlngaaGreatDoor
open Go.RowKit
def marks : List Nat := [8000024, 8000025, 8000026, 8000027, 8000028, 8000029, 8000030, 8000031, 8000032, 8000033, 8000034, 8000035]
theorem OU.form {w : World} {base : Nat} {v : Value} {X : List Nat} (h : OU w base v X) (hv : v ≠ .slice none 0 0) : ∃ g cap, v = .slice (some ⟨g, 0, none⟩) X.length cap ∧ base ≤ g ∧ g < w.heap.size ∧ X.length ≤ cap ∧ cap ≤ 9223372036854775807 ∧ At w (some ⟨g, 0, none⟩) X := by
 have h' := h
 obtain ⟨hl, ⟨h1, h2⟩ | ⟨g, cap, cur, hv', hb, hh, hc1, hc2, hcs, hcu⟩⟩ := h
 ·exact absurd h1 hv
 ·obtain ⟨_, g', cap', e, _, _, _, hat⟩ := owns_at h' hv
  rw [hv'] at e
  cases e
  exact ⟨g, cap, hv', hb, lt_of_block hh, hc1, by unfold maxLen at hc2; omega, hat⟩
theorem append_ou (w : World) {ops : Array Oper} {rest : List Oper} {o : Oper} {a : Act} {Q : Exit → Act → World → Prop} (hgd : o.guard = none) (s x : Operand)
  (ho : o.op = .call { callee := .builtin .append, args := #[s, x], argTypes := #[23, 23] }) (base : Nat) (X M : List Nat) (v : Value) (a' : Option Addr) (c' : Nat) (hX : X.length + M.length ≤ 35184372088800)
  (hs : a.eval s = v) (hown : OU w base v X) (hv : v ≠ .slice none 0 0) (hx : a.eval x = .slice a' M.length c') (HM : At w a' M) (hbase : base ≤ w.heap.size) (W0 : World) (hU0 : Upd [] W0 w) (hb0 : W0.heap.size ≤ base)
  (h : ∀ v' w', OU w' base v' (X ++ M) → v' ≠ .slice none 0 0 → Upd [] W0 w' → wpList Tryz.prog ops Q rest (a.put o.dst v') w') :
  wpList Tryz.prog ops Q (o :: rest) a w := by
 obtain ⟨i0, hi, hz0, hz1, hz2⟩ := info_parts info_u32
 refine wpList_plain hgd fun K hK => ?_
 rcases a' with _ | ad
 ·have hM0 : M = [] := by
   rcases HM with h | ⟨b, o, e, _⟩
   ·exact h
   ·cases e
  subst hM0
  obtain ⟨g, cap, rfl, hbg, hlt, hc1, hc2, _⟩ := hown.form hv
  have hr := run_append_room_src (P := Tryz.prog) w 23 23 o.type 47 i0 Tryz.underlying23 hi g 0 X.length cap (.slice none 0 c') 0 [] (Src.ofNil w Tryz.underlying23 c') (by omega) (fun j hj => by simp at hj) (fun j hj => by simp at hj)
  have e0 : w.setCells g (0 + X.length * i0.size) [] = w := rfl
  rw [e0] at hr
  unfold Oper.wp execOp
  simp only [List.length_nil] at hx
  simp only [ho, resolve, invoke, builtin, Sem.run_bind, Sem.run_pure, Result.andThen_ok, List.map_toArray, List.map_cons, List.map_nil, hs, hx, hr]
  refine hK _ _ ?_
  exact h _ w (by rw [List.append_nil]; exact hown) hv hU0
 ·have hnews : ∀ j u, (M.map (fun n => Value.int .u32 (n : Nat)))[j]? = some u → w.cell? (ad.add j) = some u := fun j u hj => by
   obtain ⟨h1, h2⟩ := map_u32_get M j u hj
   rcases HM with h | ⟨b, o, e, _, hc⟩
   ·rw [h] at h1; simp at h1
   ·cases e
    rw [h2, Addr.add_lit]; exact hc j h1
  obtain ⟨v', w', hr, hown', hgr, hnil⟩ := run_append_own (P := Tryz.prog) w base 23 o.type 47 i0 (.int .u32 0) 1 4 Tryz.underlying23 hi hz0 hz1 hz2 rfl (by decide) _ X.length _ hown ad M.length c' (M.map (fun n => Value.int .u32 (n : Nat))) (by simp) hnews
   (fun u hu => by obtain ⟨_, _, rfl⟩ := List.mem_map.1 hu; rfl) (by unfold maxLen; omega) (by omega) hbase
  rw [← List.map_append] at hown'
  unfold Oper.wp execOp
  simp only [ho, resolve, invoke, builtin, Sem.run_bind, Sem.run_pure, Result.andThen_ok, List.map_toArray, List.map_cons, List.map_nil, hs, hx, hr]
  refine hK _ _ ?_
  refine h v' w' ?_ (fun e => hv (hnil.1 e).1) (hU0.grown hgr (fun k hk => Or.inl ?_))
  ·unfold OU; rw [List.length_append]; exact hown'
  ·have := (World.ownsRow.lt hown k hk).1
   omega
set_option maxHeartbeats 400000 in
set_option maxRecDepth 100000 in
theorem mark_any (i : Nat) (w : World) (hi : i < 12) : Calls Tryz.prog 69 #[.int .i64 1, .int .i64 i] w fun e w' => e = .returned (.int .i64 ((8000024 + i : Nat) : Int)) ∧ w' = w := by
 go_enter Tryz.func69, Tryz.ntmps69
 go_wp2
 go_ret
 exact ⟨by congr 2, rfl⟩
theorem marks_step (i : Nat) (hi : i < 12) : marks.take (i + 1) = marks.take i ++ [8000024 + i] := by
 unfold marks
 match i, hi with
 | 0, _ => rfl
 | 1, _ => rfl
 | 2, _ => rfl
 | 3, _ => rfl
 | 4, _ => rfl
 | 5, _ => rfl
 | 6, _ => rfl
 | 7, _ => rfl
 | 8, _ => rfl
 | 9, _ => rfl
 | 10, _ => rfl
 | 11, _ => rfl
 | n + 12, h => omega
end Go.Proofs.YtalhbbabijlngaaGreatDoor
namespace Go.Proofs.YtalhbbabijlngaaGreatDoor
open Go.RowKit
def markCells (i : Nat) : List Value := [.int .u8 0, .bool false, .slice none 0 0, .string ⟨#[]⟩, .int .i64 ((8000024 + i : Nat) : Int), .slice none 0 0, .slice none 0 0]
def RowK (P : Nat → Prop) (R : List Value → Tm → Prop) (w : World) (g c : Nat) (I : List Tm) : Prop :=
 P g ∧ g < w.heap.size ∧ I.length + 12 ≤ c ∧ c ≤ 9223372036854775807 ∧ (∀ i (hi : i < I.length), ∃ cs : List Value, cs.length = 7 ∧ (∀ j, j < 7 → w.cell? ⟨g, i * 7 + j, none⟩ = cs[j]?) ∧ R cs I[i]) ∧
  ∀ i, i < 12 → ∀ j, j < 7 → w.cell? ⟨g, (I.length + i) * 7 + j, none⟩ = (markCells i)[j]?
def KIn (P : Nat → Prop) (w : World) : Nat → List Value → Tm → Prop
 | 0, _, _ => False
 | d + 1, cs, .mk k num neg L s I T => ∃ (g gi gt c ci ct : Nat), cs = [.int .u8 k, .bool neg, .slice (some ⟨g, 0, none⟩) L.length c, .string s, .int .i64 num, .slice (some ⟨gi, 0, none⟩) I.length ci, .slice (some ⟨gt, 0, none⟩) T.length ct] ∧
   P g ∧ At w (some ⟨g, 0, none⟩) (L ++ marks) ∧ Dig L ∧ L.length + 12 ≤ c ∧ c ≤ 9223372036854775807 ∧ RowK P (KIn P w d) w gi ci I ∧ RowK P (KIn P w d) w gt ct T
theorem RowK.keep {P Q : Nat → Prop} {R S : List Value → Tm → Prop} {w w' : World} {U : List Nat} {g c : Nat} {I : List Tm} (h : RowK P R w g c I) (hu : Upd U w w') (hP : ∀ x, P x → x ∉ U) (hQ : ∀ x, P x → Q x) (himp : ∀ cs t, R cs t → S cs t) : RowK Q S w' g c I := by
 obtain ⟨h1, h2, h3, h4, h5, h6⟩ := h
 refine ⟨hQ g h1, Nat.lt_of_lt_of_le h2 hu.size, h3, h4, fun i hi => ?_, fun i hi j hj => ?_⟩
 ·obtain ⟨cs, k1, k2, k3⟩ := h5 i hi
  exact ⟨cs, k1, fun j hj => (hu.cell (p := ⟨g, i * 7 + j, none⟩) h2 (hP g h1)).trans (k2 j hj), himp _ _ k3⟩
 ·exact (hu.cell (p := ⟨g, (I.length + i) * 7 + j, none⟩) h2 (hP g h1)).trans (h6 i hi j hj)
theorem At.stay {w w' : World} {U : List Nat} {g : Nat} {L : List Nat} (h : At w (some ⟨g, 0, none⟩) L) (hu : Upd U w w') (hg : g ∉ U) : At w' (some ⟨g, 0, none⟩) L := by
 rcases h with h | ⟨b, o, e, hlt, hc⟩
 ·exact Or.inl h
 ·cases e
  exact Or.inr ⟨g, 0, rfl, Nat.lt_of_lt_of_le hlt hu.size, fun i hi => (hu.cell (p := ⟨g, 0 + i, none⟩) hlt hg).trans (hc i hi)⟩
theorem KIn.keep {P Q : Nat → Prop} {w w' : World} {U : List Nat} (hu : Upd U w w') (hP : ∀ x, P x → x ∉ U) (hQ : ∀ x, P x → Q x) : ∀ (d : Nat) (cs : List Value) (t : Tm), KIn P w d cs t → KIn Q w' d cs t := by
 intro d
 induction d with
 | zero => intro cs t h; exact h.elim
 | succ d ih =>
  intro cs t h
  cases t with
  | mk k num neg L s I T =>
   obtain ⟨g, gi, gt, c, ci, ct, rfl, h1, h2, h3, h4, h5, h6, h7⟩ := h
   exact ⟨g, gi, gt, c, ci, ct, rfl, hQ g h1, h2.stay hu (hP g h1), h3, h4, h5, h6.keep hu hP hQ ih, h7.keep hu hP hQ ih⟩
theorem KIn.plain {P : Nat → Prop} {w : World} : ∀ (d : Nat) (cs : List Value) (t : Tm), KIn P w d cs t → In w d cs t := by
 intro d
 induction d with
 | zero => intro cs t h; exact h.elim
 | succ d ih =>
  intro cs t h
  have row : ∀ g c (I : List Tm), RowK P (KIn P w d) w g c I → RowAt (In w d) w (some ⟨g, 0, none⟩) I := by
   intro g c I ⟨_, h2, _, _, h5, _⟩
   refine Or.inr ⟨g, 0, rfl, h2, fun i hi => ?_⟩
   obtain ⟨cs, k1, k2, k3⟩ := h5 i hi
   exact ⟨cs, k1, fun j hj => by rw [Nat.zero_add]; exact k2 j hj, ih _ _ k3⟩
  cases t with
  | mk k num neg L s I T =>
   obtain ⟨g, gi, gt, c, ci, ct, rfl, h1, h2, h3, h4, h5, h6, h7⟩ := h
   refine ⟨_, _, _, c, ci, ct, rfl, ?_, h3, row gi ci I h6, row gt ct T h7⟩
   have := h2.take L.length
   rwa [List.take_left' rfl] at this
end Go.Proofs.YtalhbbabijlngaaGreatDoor
namespace Go.Proofs.YtalhbbabijlngaaGreatDoor
open Go.RowKit
set_option maxHeartbeats 1000000 in
set_option maxRecDepth 100000 in
theorem markTerm_any (i : Nat) (w : World) (hi : i < 12) : Calls Tryz.prog 70 #[.int .i64 1, .int .i64 i] w fun e w' => e = .returned (.agg (markCells i).toArray) ∧ Upd [] w w' := by
 have u0 := (Upd.refl [] w).alloc (.cells #[.int .u8 0, .bool false, .slice none 0 0, .string ⟨#[]⟩, .int .i64 0, .slice none 0 0, .slice none 0 0] 26)
 have t0 := Tb.new w #[.int .u8 0, .bool false, .slice none 0 0, .string ⟨#[]⟩, .int .i64 0, .slice none 0 0, .slice none 0 0] _ rfl
 go_enter Tryz.func70, Tryz.ntmps70
 go_wp2_with fail
 refine (mark_any i _ hi).mono ?_
 rintro e w1 ⟨rfl, hw1⟩
 rw [hw1]
 clear hw1
 go_wp2_with (refine store_V _ rfl _ _ rfl _ _ _ _ _ _ _ _ _ _ _ _ _ _ _ rfl rfl t0 rfl ?_; intro w3 hT3 hU3)
 exact ret_T Tryz.results70 rfl _ _ rfl hT3 rfl ⟨rfl, u0.then hU3 (by simp)⟩
end Go.Proofs.YtalhbbabijlngaaGreatDoor
namespace Go.Proofs.YtalhbbabijlngaaGreatDoor
open Go.RowKit
def SameSaid (d : Nat) : Prop := ∀ (w : World) (cs cs' : List Value) (t : Tm), In w d cs t → In w d cs' t → tsz t ≤ 1353245080330 → Calls Tryz.prog 18 #[.agg cs.toArray, .agg cs'.toArray] w fun e w' => e = .returned (.bool true) ∧ Upd [] w w'
theorem SameTerm_in (d : Nat) : SameSaid d := fun w cs cs' t h h' hz => by
 have := SamG_all d w cs cs' t t h h' hz hz
 rw [(samT_eq t t).2 rfl] at this
 exact this
end Go.Proofs.YtalhbbabijlngaaGreatDoor
namespace Go.Proofs.YtalhbbabijlngaaGreatDoor
open Go.RowKit
theorem info_term3 : (Tryz.prog.info? 26).map (fun i => (i.zero, i.size, i.bytes)) = some (some ((.agg #[.int .u8 0, .bool false, .slice none 0 0, .string ⟨#[]⟩, .int .i64 0, .slice none 0 0, .slice none 0 0])), 7, 104) := by kernel_rfl
def OT (w : World) (g k cap : Nat) (C : List (List Value)) : Prop := w.ownsRow g 26 7 (.slice (some ⟨g, 0, none⟩) k cap) k C.flatten
theorem OT.upd {w w' : World} {g k cap : Nat} {C : List (List Value)} (h : OT w g k cap C) (hu : Upd [] w w') : OT w' g k cap C := by
 obtain ⟨h0, h1 | ⟨g', cap', cur, hv, hb, hh, h2⟩⟩ := h
 ·exact ⟨h0, Or.inl h1⟩
 ·exact ⟨h0, Or.inr ⟨g', cap', cur, hv, hb, (hu.block g' (lt_of_block hh) (by simp)).trans hh, h2⟩⟩
theorem KIn.shape {P : Nat → Prop} {w : World} {d : Nat} {cs : List Value} {t : Tm} (h : KIn P w d cs t) : ∃ (k num : Int) (neg : Bool) (s : ByteArray) (a1 a2 a3 : Option Addr) (n1 n2 n3 c1 c2 c3 : Nat), cs = [.int .u8 k, .bool neg, .slice a1 n1 c1, .string s, .int .i64 num, .slice a2 n2 c2, .slice a3 n3 c3] := by
 cases d with
 | zero => exact h.elim
 | succ d =>
  cases t with
  | mk k num neg L s I T =>
   obtain ⟨g, gi, gt, c, ci, ct, rfl, _⟩ := h
   exact ⟨k, num, neg, s, _, _, _, _, _, _, _, _, _, rfl⟩
theorem flat7 : ∀ (C : List (List Value)) (_ : ∀ c ∈ C, c.length = 7) (i j : Nat) (hi : i < C.length), j < 7 → C.flatten[i * 7 + j]? = C[i][j]? := by
 intro C
 induction C with
 | nil => intro _ i j hi; simp at hi
 | cons x r ih =>
  intro h i j hi hj
  have hx := h x List.mem_cons_self
  rw [List.flatten_cons]
  cases i with
  | zero => rw [List.getElem?_append_left (by omega)]; simp
  | succ i =>
   rw [List.getElem?_append_right (by omega)]
   rw [show (i + 1) * 7 + j - x.length = i * 7 + j by omega]
   simpa using ih (fun c hc => h c (List.mem_cons_of_mem _ hc)) i j (by simpa using hi) hj
theorem OT.cell {w : World} {g k cap : Nat} {C : List (List Value)} (h : OT w g k cap C) (hk : C.length = k) (h7 : ∀ c ∈ C, c.length = 7) (i j : Nat) (hi : i < C.length) (hj : j < 7) : w.cell? ⟨g, i * 7 + j, none⟩ = C[i][j]? := by
 obtain ⟨hl, ⟨h1, _⟩ | ⟨g', cap', cur, hv, hb, hh, hc1, hc2, hcs, hcu⟩⟩ := h
 ·cases h1
 ·simp only [Value.slice.injEq, Option.some.injEq, Addr.mk.injEq, and_true, true_and] at hv
  obtain ⟨rfl, rfl⟩ := hv
  rw [cell_of_row w g (i * 7 + j) _ _ _ hh, ← Array.getElem?_toList]
  have e : cur.toList[i * 7 + j]? = (cur.toList.take (k * 7))[i * 7 + j]? := by rw [List.getElem?_take_of_lt (by omega)]
  rw [e, hcu]
  exact flat7 C h7 i j hi hj
end Go.Proofs.YtalhbbabijlngaaGreatDoor
namespace Go.Proofs.YtalhbbabijlngaaGreatDoor
open Go.RowKit
theorem Tb.put5 {w : World} {n : Nat} {k num : Int} {neg : Bool} {v2 v5 v6 u5 : Value} {s : ByteArray} (h : Tb w n #[.int .u8 k, .bool neg, v2, .string s, .int .i64 num, v5, v6]) :
  Tb (w.setCell ⟨n, 5, none⟩ u5) n #[.int .u8 k, .bool neg, v2, .string s, .int .i64 num, u5, v6] := by
 unfold Tb
 rw [heap_setCell_same w n 5 _ _ _ h]
 simp
theorem Tb.put6 {w : World} {n : Nat} {k num : Int} {neg : Bool} {v2 v5 v6 u6 : Value} {s : ByteArray} (h : Tb w n #[.int .u8 k, .bool neg, v2, .string s, .int .i64 num, v5, v6]) :
  Tb (w.setCell ⟨n, 6, none⟩ u6) n #[.int .u8 k, .bool neg, v2, .string s, .int .i64 num, v5, u6] := by
 unfold Tb
 rw [heap_setCell_same w n 6 _ _ _ h]
 simp
theorem RowK.stay {P Q : Nat → Prop} {w w' : World} {U : List Nat} {d g c : Nat} {I : List Tm} (h : RowK P (KIn P w d) w g c I) (hu : Upd U w w') (hP : ∀ x, P x → x ∉ U) (hQ : ∀ x, P x → Q x) : RowK Q (KIn Q w' d) w' g c I :=
 h.keep hu hP hQ (KIn.keep hu hP hQ d)
end Go.Proofs.YtalhbbabijlngaaGreatDoor
namespace Go.Proofs.YtalhbbabijlngaaGreatDoor
open Go.RowKit
theorem marks_get (i : Nat) (hi : i < 12) : marks.getD i 0 = 8000024 + i := by
 match i, hi with
 | 0, _ => rfl
 | 1, _ => rfl
 | 2, _ => rfl
 | 3, _ => rfl
 | 4, _ => rfl
 | 5, _ => rfl
 | 6, _ => rfl
 | 7, _ => rfl
 | 8, _ => rfl
 | 9, _ => rfl
 | 10, _ => rfl
 | 11, _ => rfl
 | n + 12, h => omega
set_option maxHeartbeats 4000000 in
set_option maxRecDepth 100000 in
theorem KeptLimbs_any (g cap : Nat) (a : Option Addr) (c : Nat) (L : List Nat) (w : World) (hL : L.length ≤ 35184372088700) (hc : L.length + 12 ≤ cap) (hc2 : cap ≤ 9223372036854775807) (HG : At w (some ⟨g, 0, none⟩) (L ++ marks)) (HL : At w a L) (hD : Dig L) :
  Calls Tryz.prog 51 #[.slice (some ⟨g, 0, none⟩) L.length cap, .slice a L.length c] w fun e w' => e = .returned (.bool true) ∧ Upd [] w w' := by
 have HML : Hid ((L ++ marks).length = L.length + 12) := by show (L ++ marks).length = L.length + 12; rw [List.length_append]; rfl
 go_enter Tryz.func51, Tryz.ntmps51
 go_wp2
 go_loopw [6] (fun i wr => ∃ k : Nat, k ≤ L.length + 12 ∧ i = .int .i64 k ∧ Upd [] w wr) (fun i _ => L.length + 12 - (intOf i).toNat)
 case atStart => exact ⟨0, Nat.zero_le _, rfl, Upd.refl _ _⟩
 case round =>
  obtain ⟨k, hk, rfl, hU⟩ := hrel
  by_cases hk2 : k < L.length + 12
  ·rcases HG.mono hU with h | ⟨b, o, e, hlt, hcg⟩
   ·have := HML.out; rw [h] at this; simp at this
   cases e
   have hx := hcg k (by rw [HML.out]; exact hk2)
   rw [Nat.zero_add] at hx
   by_cases hkL : k < L.length
   ·rcases HL.mono hU with h | ⟨b2, o2, rfl, hlt2, hcl⟩
    ·rw [h] at hkL; simp at hkL
    have hy := hcl k hkL
    have e : (L ++ marks).getD k 0 = L.getD k 0 := by rw [List.getD_eq_getElem?_getD, List.getD_eq_getElem?_getD, List.getElem?_append_left hkL]
    rw [e] at hx
    obtain ⟨x, hxx⟩ : ∃ x, x = L.getD k 0 := ⟨_, rfl⟩
    have hxl : x < 4294967296 := by rw [hxx]; exact hD.getD _
    rw [← hxx] at hx hy
    have d1 : decide ((k : Int) < (L.length : Int)) = true := by simp; omega
    have d2 : decide ((k : Int) ≥ (L.length : Int)) = false := by simp; omega
    clear hcg hcl e hxx
    have d3 : decide (L.length ≤ k) = false := by simp; omega
    have i1 : (k : Int) < (L.length : Int) := by omega
    have i2 : (k : Int) < ((L.length + 12 : Nat) : Int) := by omega
    have i3 : (k : Int) < (L.length : Int) + 12 := by omega
    go_wp2
    go_quiet (fail)
    go_wp2
    go_roundw
    case rel => exact ⟨k + 1, by omega, by go_num, hU.drewN _⟩
    case measure => simp [intOf]; omega
   ·obtain ⟨j, hkj⟩ : ∃ j, k = L.length + j := ⟨k - L.length, by omega⟩
    have hj : j < 12 := by omega
    have e : (L ++ marks).getD k 0 = 8000024 + j := by
     rw [hkj, List.getD_eq_getElem?_getD, List.getElem?_append_right (by omega), Nat.add_sub_cancel_left, ← List.getD_eq_getElem?_getD]
     exact marks_get j hj
    rw [e] at hx
    have mk : (k : Int) - (L.length : Int) = (j : Int) := by omega
    have d1 : decide ((k : Int) < (L.length : Int)) = false := by simp; omega
    have d2 : decide (k < L.length) = false := by simp; omega
    have d3 : decide (L.length ≤ k) = true := by simp; omega
    have i2 : (k : Int) < ((L.length + 12 : Nat) : Int) := by omega
    have i3 : (k : Int) < (L.length : Int) + 12 := by omega
    have HKJ : Hid (k = L.length + j) := hkj
    clear hcg e hkj
    go_wp2
    go_quiet (first | (go_at_call 69; refine Calls.quiet_of_same (mark_any j _ hj)))
    go_wp2
    go_roundw
    case rel => exact ⟨k + 1, by omega, by go_num, hU.drewN _⟩
    case measure => simp [intOf]; omega
  ·have hkk : k = L.length + 12 := by omega
   have dd : decide ((k : Int) < (L.length : Int) + 12) = false := by simp; omega
   go_wp2
   go_ret
   exact ⟨rfl, hU⟩
end Go.Proofs.YtalhbbabijlngaaGreatDoor
