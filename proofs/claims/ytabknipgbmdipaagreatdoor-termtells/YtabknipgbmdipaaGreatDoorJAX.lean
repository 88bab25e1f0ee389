/- LentLimbs of the kit, by its contract. -/
import Derived.Test.YtabknipgbmdipaaGreatDoorJAB
import Derived.Test.YtabknipgbmdipaaGreatDoorJAP
import Derived.Test.YtabknipgbmdipaaGreatDoorJAT
import Derived.Test.YtabknipgbmdipaaGreatDoorJAD
import Derived.Deep.RegionHeld3

namespace Go.Proofs.YtabknipgbmdipaaGreatDoor
open Go.RowKit

/-- What stands behind limbs that are lent. -/
def marks : List Nat := [8000024, 8000025, 8000026, 8000027, 8000028, 8000029, 8000030, 8000031, 8000032, 8000033, 8000034, 8000035]

theorem OU.form {w : World} {base : Nat} {v : Value} {X : List Nat} (h : OU w base v X) (hv : v ≠ .slice none 0 0) : ∃ g cap, v = .slice (some ⟨g, 0, none⟩) X.length cap ∧ base ≤ g ∧ g < w.heap.size ∧ X.length ≤ cap ∧ cap ≤ 9223372036854775807 ∧ At w (some ⟨g, 0, none⟩) X := by
  have h' := h
  obtain ⟨hl, ⟨h1, h2⟩ | ⟨g, cap, cur, hv', hb, hh, hc1, hc2, hcs, hcu⟩⟩ := h
  · exact absurd h1 hv
  · obtain ⟨_, g', cap', e, _, _, _, hat⟩ := owns_at h' hv
    rw [hv'] at e
    cases e
    exact ⟨g, cap, hv', hb, lt_of_block hh, hc1, by unfold maxLen at hc2; omega, hat⟩

/-- 'append(out, l...)' onto limbs of the call's own. -/
theorem append_ou (w : World) {ops : Array Oper} {rest : List Oper} {o : Oper} {a : Act} {Q : Exit → Act → World → Prop} (hgd : o.guard = none) (s x : Operand)
    (ho : o.op = .call { callee := .builtin .append, args := #[s, x], argTypes := #[23, 23] }) (base : Nat) (X M : List Nat) (v : Value) (a' : Option Addr) (c' : Nat) (hX : X.length + M.length ≤ 35184372088800)
    (hs : a.eval s = v) (hown : OU w base v X) (hv : v ≠ .slice none 0 0) (hx : a.eval x = .slice a' M.length c') (HM : At w a' M) (hbase : base ≤ w.heap.size) (W0 : World) (hU0 : Upd [] W0 w) (hb0 : W0.heap.size ≤ base)
    (h : ∀ v' w', OU w' base v' (X ++ M) → v' ≠ .slice none 0 0 → Upd [] W0 w' → wpList Tryz.prog ops Q rest (a.put o.dst v') w') :
    wpList Tryz.prog ops Q (o :: rest) a w := by
  obtain ⟨i0, hi, hz0, hz1, hz2⟩ := info_parts info_u32
  refine wpList_plain hgd fun K hK => ?_
  rcases a' with _ | ad
  · have hM0 : M = [] := by
      rcases HM with h | ⟨b, o, e, _⟩
      · exact h
      · cases e
    subst hM0
    obtain ⟨g, cap, rfl, hbg, hlt, hc1, hc2, _⟩ := hown.form hv
    have hr := run_append_room_src (P := Tryz.prog) w 23 23 o.type 47 i0 Tryz.underlying23 hi g 0 X.length cap (.slice none 0 c') 0 [] (Src.ofNil w Tryz.underlying23 c') (by omega) (fun j hj => by simp at hj) (fun j hj => by simp at hj)
    have e0 : w.setCells g (0 + X.length * i0.size) [] = w := rfl
    rw [e0] at hr
    unfold Oper.wp execOp
    simp only [List.length_nil] at hx
    simp only [ho, resolve, invoke, builtin, Sem.run_bind, Sem.run_pure, Result.andThen_ok, List.map_toArray, List.map_cons, List.map_nil, hs, hx, hr]
    refine hK _ _ ?_
    exact h _ w (by rw [List.append_nil]; exact hown) hv hU0
  · have hnews : ∀ j u, (M.map (fun n => Value.int .u32 (n : Nat)))[j]? = some u → w.cell? (ad.add j) = some u := fun j u hj => by
      obtain ⟨h1, h2⟩ := map_u32_get M j u hj
      rcases HM with h | ⟨b, o, e, _, hc⟩
      · rw [h] at h1; simp at h1
      · cases e
        rw [h2, Addr.add_lit]; exact hc j h1
    obtain ⟨v', w', hr, hown', hgr, hnil⟩ := run_append_own (P := Tryz.prog) w base 23 o.type 47 i0 (.int .u32 0) 1 4 Tryz.underlying23 hi hz0 hz1 hz2 rfl (by decide) _ X.length _ hown ad M.length c' (M.map (fun n => Value.int .u32 (n : Nat))) (by simp) hnews
      (fun u hu => by obtain ⟨_, _, rfl⟩ := List.mem_map.1 hu; rfl) (by unfold maxLen; omega) (by omega) hbase
    rw [← List.map_append] at hown'
    unfold Oper.wp execOp
    simp only [ho, resolve, invoke, builtin, Sem.run_bind, Sem.run_pure, Result.andThen_ok, List.map_toArray, List.map_cons, List.map_nil, hs, hx, hr]
    refine hK _ _ ?_
    refine h v' w' ?_ (fun e => hv (hnil.1 e).1) (hU0.grown hgr (fun k hk => Or.inl ?_))
    · unfold OU; rw [List.length_append]; exact hown'
    · have := (World.ownsRow.lt hown k hk).1
      omega

set_option maxHeartbeats 400000 in
set_option maxRecDepth 100000 in
theorem mark_any (i : Nat) (w : World) (hi : i < 12) : Calls Tryz.prog 69 #[.int .i64 1, .int .i64 i] w fun e w' => e = .returned (.int .i64 ((8000024 + i : Nat) : Int)) ∧ w' = w := by
  go_enter Tryz.func69, Tryz.ntmps69
  go_wp2
  go_ret
  exact ⟨by congr 2, rfl⟩

theorem marks_step (i : Nat) (hi : i < 12) : marks.take (i + 1) = marks.take i ++ [8000024 + i] := by
  unfold marks
  match i, hi with
  | 0, _ => rfl
  | 1, _ => rfl
  | 2, _ => rfl
  | 3, _ => rfl
  | 4, _ => rfl
  | 5, _ => rfl
  | 6, _ => rfl
  | 7, _ => rfl
  | 8, _ => rfl
  | 9, _ => rfl
  | 10, _ => rfl
  | 11, _ => rfl
  | n + 12, h => omega

end Go.Proofs.YtabknipgbmdipaaGreatDoor

/- Terms that are lent: how they stand in memory. -/
namespace Go.Proofs.YtabknipgbmdipaaGreatDoor
open Go.RowKit

/-- The cells of a mark among terms. -/
def markCells (i : Nat) : List Value := [.int .u8 0, .bool false, .slice none 0 0, .string ⟨#[]⟩, .int .i64 ((8000024 + i : Nat) : Int), .slice none 0 0, .slice none 0 0]

/-- A row of terms that is lent: in a block of its own, twelve marks behind it. -/
def RowK (P : Nat → Prop) (R : List Value → Tm → Prop) (w : World) (g c : Nat) (I : List Tm) : Prop :=
  P g ∧ g < w.heap.size ∧ I.length + 12 ≤ c ∧ c ≤ 9223372036854775807 ∧ (∀ i (hi : i < I.length), ∃ cs : List Value, cs.length = 7 ∧ (∀ j, j < 7 → w.cell? ⟨g, i * 7 + j, none⟩ = cs[j]?) ∧ R cs I[i]) ∧
    ∀ i, i < 12 → ∀ j, j < 7 → w.cell? ⟨g, (I.length + i) * 7 + j, none⟩ = (markCells i)[j]?

/-- The seven cells of a term that is lent, in blocks of which P holds. -/
def KIn (P : Nat → Prop) (w : World) : Nat → List Value → Tm → Prop
  | 0, _, _ => False
  | d + 1, cs, .mk k num neg L s I T => ∃ (g gi gt c ci ct : Nat), cs = [.int .u8 k, .bool neg, .slice (some ⟨g, 0, none⟩) L.length c, .string s, .int .i64 num, .slice (some ⟨gi, 0, none⟩) I.length ci, .slice (some ⟨gt, 0, none⟩) T.length ct] ∧
      P g ∧ At w (some ⟨g, 0, none⟩) (L ++ marks) ∧ Dig L ∧ L.length + 12 ≤ c ∧ c ≤ 9223372036854775807 ∧ RowK P (KIn P w d) w gi ci I ∧ RowK P (KIn P w d) w gt ct T

theorem RowK.keep {P Q : Nat → Prop} {R S : List Value → Tm → Prop} {w w' : World} {U : List Nat} {g c : Nat} {I : List Tm} (h : RowK P R w g c I) (hu : Upd U w w') (hP : ∀ x, P x → x ∉ U) (hQ : ∀ x, P x → Q x) (himp : ∀ cs t, R cs t → S cs t) : RowK Q S w' g c I := by
  obtain ⟨h1, h2, h3, h4, h5, h6⟩ := h
  refine ⟨hQ g h1, Nat.lt_of_lt_of_le h2 hu.size, h3, h4, fun i hi => ?_, fun i hi j hj => ?_⟩
  · obtain ⟨cs, k1, k2, k3⟩ := h5 i hi
    exact ⟨cs, k1, fun j hj => (hu.cell (p := ⟨g, i * 7 + j, none⟩) h2 (hP g h1)).trans (k2 j hj), himp _ _ k3⟩
  · exact (hu.cell (p := ⟨g, (I.length + i) * 7 + j, none⟩) h2 (hP g h1)).trans (h6 i hi j hj)
theorem At.stay {w w' : World} {U : List Nat} {g : Nat} {L : List Nat} (h : At w (some ⟨g, 0, none⟩) L) (hu : Upd U w w') (hg : g ∉ U) : At w' (some ⟨g, 0, none⟩) L := by
  rcases h with h | ⟨b, o, e, hlt, hc⟩
  · exact Or.inl h
  · cases e
    exact Or.inr ⟨g, 0, rfl, Nat.lt_of_lt_of_le hlt hu.size, fun i hi => (hu.cell (p := ⟨g, 0 + i, none⟩) hlt hg).trans (hc i hi)⟩
theorem KIn.keep {P Q : Nat → Prop} {w w' : World} {U : List Nat} (hu : Upd U w w') (hP : ∀ x, P x → x ∉ U) (hQ : ∀ x, P x → Q x) : ∀ (d : Nat) (cs : List Value) (t : Tm), KIn P w d cs t → KIn Q w' d cs t := by
  intro d
  induction d with
  | zero => intro cs t h; exact h.elim
  | succ d ih =>
    intro cs t h
    cases t with
    | mk k num neg L s I T =>
      obtain ⟨g, gi, gt, c, ci, ct, rfl, h1, h2, h3, h4, h5, h6, h7⟩ := h
      exact ⟨g, gi, gt, c, ci, ct, rfl, hQ g h1, h2.stay hu (hP g h1), h3, h4, h5, h6.keep hu hP hQ ih, h7.keep hu hP hQ ih⟩
/-- What is lent is the term. -/
theorem KIn.plain {P : Nat → Prop} {w : World} : ∀ (d : Nat) (cs : List Value) (t : Tm), KIn P w d cs t → In w d cs t := by
  intro d
  induction d with
  | zero => intro cs t h; exact h.elim
  | succ d ih =>
    intro cs t h
    have row : ∀ g c (I : List Tm), RowK P (KIn P w d) w g c I → RowAt (In w d) w (some ⟨g, 0, none⟩) I := by
      intro g c I ⟨_, h2, _, _, h5, _⟩
      refine Or.inr ⟨g, 0, rfl, h2, fun i hi => ?_⟩
      obtain ⟨cs, k1, k2, k3⟩ := h5 i hi
      exact ⟨cs, k1, fun j hj => by rw [Nat.zero_add]; exact k2 j hj, ih _ _ k3⟩
    cases t with
    | mk k num neg L s I T =>
      obtain ⟨g, gi, gt, c, ci, ct, rfl, h1, h2, h3, h4, h5, h6, h7⟩ := h
      refine ⟨_, _, _, c, ci, ct, rfl, ?_, h3, row gi ci I h6, row gt ct T h7⟩
      have := h2.take L.length
      rwa [List.take_left' rfl] at this

end Go.Proofs.YtabknipgbmdipaaGreatDoor

/- markTerm of the kit. -/
namespace Go.Proofs.YtabknipgbmdipaaGreatDoor
open Go.RowKit

set_option maxHeartbeats 1000000 in
set_option maxRecDepth 100000 in
theorem markTerm_any (i : Nat) (w : World) (hi : i < 12) : Calls Tryz.prog 70 #[.int .i64 1, .int .i64 i] w fun e w' => e = .returned (.agg (markCells i).toArray) ∧ Upd [] w w' := by
  have u0 := (Upd.refl [] w).alloc (.cells #[.int .u8 0, .bool false, .slice none 0 0, .string ⟨#[]⟩, .int .i64 0, .slice none 0 0, .slice none 0 0] 26)
  have t0 := Tb.new w #[.int .u8 0, .bool false, .slice none 0 0, .string ⟨#[]⟩, .int .i64 0, .slice none 0 0, .slice none 0 0] _ rfl
  go_enter Tryz.func70, Tryz.ntmps70
  go_wp2_with fail
  refine (mark_any i _ hi).mono ?_
  rintro e w1 ⟨rfl, hw1⟩
  rw [hw1]
  clear hw1
  go_wp2_with (refine store_V _ rfl _ _ rfl _ _ _ _ _ _ _ _ _ _ _ _ _ _ _ rfl rfl t0 rfl ?_; intro w3 hT3 hU3)
  exact ret_T Tryz.results70 rfl _ _ rfl hT3 rfl ⟨rfl, u0.then hU3 (by simp)⟩

end Go.Proofs.YtabknipgbmdipaaGreatDoor

/- SameTerm, of two terms that stand for one tree. -/
namespace Go.Proofs.YtabknipgbmdipaaGreatDoor
open Go.RowKit

/-- What SameTerm is to answer, of depth d. -/
def SameSaid (d : Nat) : Prop := ∀ (w : World) (cs cs' : List Value) (t : Tm), In w d cs t → In w d cs' t → tsz t ≤ 1353245080330 → Calls Tryz.prog 18 #[.agg cs.toArray, .agg cs'.toArray] w fun e w' => e = .returned (.bool true) ∧ Upd [] w w'

set_option maxHeartbeats 4000000 in
set_option maxRecDepth 100000 in
theorem SameTerms_in (d : Nat) (ih : SameSaid d) (w : World) (a a' : Option Addr) (c c' : Nat) (I : List Tm) (h : RowAt (In w d) w a I) (h' : RowAt (In w d) w a' I) (hs : tszs I ≤ 1353245080330) :
    Calls Tryz.prog 58 #[.slice a I.length c, .slice a' I.length c'] w fun e w' => e = .returned (.bool true) ∧ Upd [] w w' := by
  have hIl := tszs_len I
  have hlen : I.length ≤ 1353245080330 := by omega
  have HS : Hid (tszs I ≤ 1353245080330) := hs
  have HA : Hid (RowAt (In w d) w a I) := h
  have HA' : Hid (RowAt (In w d) w a' I) := h'
  have IH : Hid (SameSaid d) := ih
  clear hIl hs h h' ih
  go_enter Tryz.func58, Tryz.ntmps58
  go_wp2
  go_loopw [5] (fun i wr => ∃ k : Nat, k ≤ I.length ∧ i = .int .i64 k ∧ Upd [] w wr) (fun i _ => I.length - (intOf i).toNat)
  case atStart => exact ⟨0, Nat.zero_le _, rfl, Upd.refl _ _⟩
  case round =>
    obtain ⟨k, hk, rfl, hU⟩ := hrel
    by_cases hk2 : k < I.length
    · rcases HA.out with h0 | ⟨b, o, rfl, hlt, hc⟩
      · rw [h0] at hk2; simp at hk2
      rcases HA'.out with h0 | ⟨b', o', rfl, hlt', hc'⟩
      · rw [h0] at hk2; simp at hk2
      obtain ⟨cs, hl7, hcell, hin⟩ := hc k hk2
      obtain ⟨cs', hl7', hcell', hin'⟩ := hc' k hk2
      obtain ⟨q0, q1, q2, q3, q4, q5, q6, rfl⟩ := list7 hl7
      obtain ⟨p0, p1, p2, p3, p4, p5, p6, rfl⟩ := list7 hl7'
      have HIN : Hid (In w d [q0, q1, q2, q3, q4, q5, q6] I[k]) := hin
      have HIN' : Hid (In w d [p0, p1, p2, p3, p4, p5, p6] I[k]) := hin'
      have hsz := tszs_get I k hk2
      have HSZ : Hid (tsz I[k] ≤ 1353245080330) := Nat.le_trans hsz HS.out
      have mc : ∀ j, j < 7 → wr.cell? ⟨b, o + (k * 7 + j), none⟩ = [q0, q1, q2, q3, q4, q5, q6][j]? := fun j hj => (hU.cell (p := ⟨b, o + (k * 7 + j), none⟩) hlt (by simp)).trans (hcell j hj)
      have mc' : ∀ j, j < 7 → wr.cell? ⟨b', o' + (k * 7 + j), none⟩ = [p0, p1, p2, p3, p4, p5, p6][j]? := fun j hj => (hU.cell (p := ⟨b', o' + (k * 7 + j), none⟩) hlt' (by simp)).trans (hcell' j hj)
      clear hc hc' hin hin' hsz hcell hcell' hl7 hl7'
      go_wp2_with fail
      have xq0 : wr.cell? ⟨b, o + k * 7, none⟩ = some q0 := mc 0 (by omega)
      have xq1 : wr.cell? ⟨b, o + k * 7 + 1, none⟩ = some q1 := mc 1 (by omega)
      have xq2 : wr.cell? ⟨b, o + k * 7 + 2, none⟩ = some q2 := mc 2 (by omega)
      have xq3 : wr.cell? ⟨b, o + k * 7 + 3, none⟩ = some q3 := mc 3 (by omega)
      have xq4 : wr.cell? ⟨b, o + k * 7 + 4, none⟩ = some q4 := mc 4 (by omega)
      have xq5 : wr.cell? ⟨b, o + k * 7 + 5, none⟩ = some q5 := mc 5 (by omega)
      have xq6 : wr.cell? ⟨b, o + k * 7 + 6, none⟩ = some q6 := mc 6 (by omega)
      have xp0 : wr.cell? ⟨b', o' + k * 7, none⟩ = some p0 := mc' 0 (by omega)
      have xp1 : wr.cell? ⟨b', o' + k * 7 + 1, none⟩ = some p1 := mc' 1 (by omega)
      have xp2 : wr.cell? ⟨b', o' + k * 7 + 2, none⟩ = some p2 := mc' 2 (by omega)
      have xp3 : wr.cell? ⟨b', o' + k * 7 + 3, none⟩ = some p3 := mc' 3 (by omega)
      have xp4 : wr.cell? ⟨b', o' + k * 7 + 4, none⟩ = some p4 := mc' 4 (by omega)
      have xp5 : wr.cell? ⟨b', o' + k * 7 + 5, none⟩ = some p5 := mc' 5 (by omega)
      have xp6 : wr.cell? ⟨b', o' + k * 7 + 6, none⟩ = some p6 := mc' 6 (by omega)
      clear mc mc'
      go_region_held3 (fun w' => w'.cell? ⟨b, o + k * 7, none⟩ = some q0 ∧ w'.cell? ⟨b, o + k * 7 + 1, none⟩ = some q1 ∧ w'.cell? ⟨b, o + k * 7 + 2, none⟩ = some q2 ∧ w'.cell? ⟨b, o + k * 7 + 3, none⟩ = some q3 ∧ w'.cell? ⟨b, o + k * 7 + 4, none⟩ = some q4 ∧ w'.cell? ⟨b, o + k * 7 + 5, none⟩ = some q5 ∧ w'.cell? ⟨b, o + k * 7 + 6, none⟩ = some q6 ∧ w'.cell? ⟨b', o' + k * 7, none⟩ = some p0 ∧ w'.cell? ⟨b', o' + k * 7 + 1, none⟩ = some p1 ∧ w'.cell? ⟨b', o' + k * 7 + 2, none⟩ = some p2 ∧ w'.cell? ⟨b', o' + k * 7 + 3, none⟩ = some p3 ∧ w'.cell? ⟨b', o' + k * 7 + 4, none⟩ = some p4 ∧ w'.cell? ⟨b', o' + k * 7 + 5, none⟩ = some p5 ∧ w'.cell? ⟨b', o' + k * 7 + 6, none⟩ = some p6)
        (go_keep)
        (first
          | (go_at_call 18; refine (Hid.out IH _ [q0, q1, q2, q3, q4, q5, q6] [p0, p1, p2, p3, p4, p5, p6] I[k] ?_ ?_ ?_).mono ?_; (exact In.mono (Upd.trans hU (by repeat (first | exact Upd.refl _ _ | refine Upd.drew ?_))) _ _ _ (Hid.out HIN)); (exact In.mono (Upd.trans hU (by repeat (first | exact Upd.refl _ _ | refine Upd.drew ?_))) _ _ _ (Hid.out HIN')); (exact HSZ.out); rintro e v1 ⟨rfl, hv1⟩; have uv1 : Hid (Upd [] wr v1) := Upd.trans (by repeat (first | exact Upd.refl _ _ | refine Upd.drew ?_)) hv1; have yq0 : v1.cell? ⟨b, o + k * 7, none⟩ = some q0 := ((Hid.out uv1).cell (p := ⟨b, o + k * 7, none⟩) (Nat.lt_of_lt_of_le hlt hU.size) (by simp)).trans xq0; have yq1 : v1.cell? ⟨b, o + k * 7 + 1, none⟩ = some q1 := ((Hid.out uv1).cell (p := ⟨b, o + k * 7 + 1, none⟩) (Nat.lt_of_lt_of_le hlt hU.size) (by simp)).trans xq1; have yq2 : v1.cell? ⟨b, o + k * 7 + 2, none⟩ = some q2 := ((Hid.out uv1).cell (p := ⟨b, o + k * 7 + 2, none⟩) (Nat.lt_of_lt_of_le hlt hU.size) (by simp)).trans xq2; have yq3 : v1.cell? ⟨b, o + k * 7 + 3, none⟩ = some q3 := ((Hid.out uv1).cell (p := ⟨b, o + k * 7 + 3, none⟩) (Nat.lt_of_lt_of_le hlt hU.size) (by simp)).trans xq3; have yq4 : v1.cell? ⟨b, o + k * 7 + 4, none⟩ = some q4 := ((Hid.out uv1).cell (p := ⟨b, o + k * 7 + 4, none⟩) (Nat.lt_of_lt_of_le hlt hU.size) (by simp)).trans xq4; have yq5 : v1.cell? ⟨b, o + k * 7 + 5, none⟩ = some q5 := ((Hid.out uv1).cell (p := ⟨b, o + k * 7 + 5, none⟩) (Nat.lt_of_lt_of_le hlt hU.size) (by simp)).trans xq5; have yq6 : v1.cell? ⟨b, o + k * 7 + 6, none⟩ = some q6 := ((Hid.out uv1).cell (p := ⟨b, o + k * 7 + 6, none⟩) (Nat.lt_of_lt_of_le hlt hU.size) (by simp)).trans xq6; have yp0 : v1.cell? ⟨b', o' + k * 7, none⟩ = some p0 := ((Hid.out uv1).cell (p := ⟨b', o' + k * 7, none⟩) (Nat.lt_of_lt_of_le hlt' hU.size) (by simp)).trans xp0; have yp1 : v1.cell? ⟨b', o' + k * 7 + 1, none⟩ = some p1 := ((Hid.out uv1).cell (p := ⟨b', o' + k * 7 + 1, none⟩) (Nat.lt_of_lt_of_le hlt' hU.size) (by simp)).trans xp1; have yp2 : v1.cell? ⟨b', o' + k * 7 + 2, none⟩ = some p2 := ((Hid.out uv1).cell (p := ⟨b', o' + k * 7 + 2, none⟩) (Nat.lt_of_lt_of_le hlt' hU.size) (by simp)).trans xp2; have yp3 : v1.cell? ⟨b', o' + k * 7 + 3, none⟩ = some p3 := ((Hid.out uv1).cell (p := ⟨b', o' + k * 7 + 3, none⟩) (Nat.lt_of_lt_of_le hlt' hU.size) (by simp)).trans xp3; have yp4 : v1.cell? ⟨b', o' + k * 7 + 4, none⟩ = some p4 := ((Hid.out uv1).cell (p := ⟨b', o' + k * 7 + 4, none⟩) (Nat.lt_of_lt_of_le hlt' hU.size) (by simp)).trans xp4; have yp5 : v1.cell? ⟨b', o' + k * 7 + 5, none⟩ = some p5 := ((Hid.out uv1).cell (p := ⟨b', o' + k * 7 + 5, none⟩) (Nat.lt_of_lt_of_le hlt' hU.size) (by simp)).trans xp5; have yp6 : v1.cell? ⟨b', o' + k * 7 + 6, none⟩ = some p6 := ((Hid.out uv1).cell (p := ⟨b', o' + k * 7 + 6, none⟩) (Nat.lt_of_lt_of_le hlt' hU.size) (by simp)).trans xp6))
      all_goals
        go_wp2
        go_roundw
        case rel => exact ⟨k + 1, by omega, by go_num, Upd.trans hU (Upd.trans (Hid.out uv1) (by repeat (first | exact Upd.refl _ _ | refine Upd.drew ?_)))⟩
        case measure => simp [intOf]; omega
    · go_wp2
      go_ret
      exact ⟨rfl, hU⟩

set_option maxHeartbeats 4000000 in
set_option maxRecDepth 100000 in
theorem SameTerm_step (d : Nat) (ih : SameSaid d) : SameSaid (d + 1) := by
  intro w cs cs' t h h' hs
  cases t with
  | mk k num neg L s I T =>
    obtain ⟨a, ai, at', c, ci, ct, rfl, hA, hD, hI, hT⟩ := h
    obtain ⟨b, bi, bt, cb, cbi, cbt, rfl, hA', hD', hI', hT'⟩ := h'
    simp only [tsz] at hs
    have HLm : Hid (∀ W, Upd [] w W → _) := fun W hu => SameLimbs_same a b c cb L W (by omega) (hA.mono hu) (hA'.mono hu)
    have HIt : Hid (∀ W, Upd [] w W → _) := fun W hu => SameTerms_in d ih W ai bi ci cbi I (hI.imp hu (In.mono hu d)) (hI'.imp hu (In.mono hu d)) (by omega)
    have HTt : Hid (∀ W, Upd [] w W → _) := fun W hu => SameTerms_in d ih W at' bt ct cbt T (hT.imp hu (In.mono hu d)) (hT'.imp hu (In.mono hu d)) (by omega)
    clear hA hA' hD hD' hI hI' hT hT' hs ih
    go_enter Tryz.func18, Tryz.ntmps18
    go_wp2_with fail
    have u0 := ((Upd.refl [] w).alloc (.cells #[.int .u8 k, .bool neg, .slice a L.length c, .string s, .int .i64 num, .slice ai I.length ci, .slice at' T.length ct] 26)).alloc (.cells #[.int .u8 k, .bool neg, .slice b L.length cb, .string s, .int .i64 num, .slice bi I.length cbi, .slice bt T.length cbt] 26)
    have tx := (Tb.new w #[.int .u8 k, .bool neg, .slice a L.length c, .string s, .int .i64 num, .slice ai I.length ci, .slice at' T.length ct] _ rfl).old (.cells #[.int .u8 k, .bool neg, .slice b L.length cb, .string s, .int .i64 num, .slice bi I.length cbi, .slice bt T.length cbt] 26)
    have ty := Tb.new (w.alloc (.cells #[.int .u8 k, .bool neg, .slice a L.length c, .string s, .int .i64 num, .slice ai I.length ci, .slice at' T.length ct] 26)) #[.int .u8 k, .bool neg, .slice b L.length cb, .string s, .int .i64 num, .slice bi I.length cbi, .slice bt T.length cbt] (w.heap.size + 1) (by simp)
    refine (HLm.out _ u0).mono ?_
    rintro e w1 ⟨rfl, hU1⟩
    have tx1 := tx.mono hU1 (by simp)
    have ty1 := ty.mono hU1 (by simp)
    have u1 := u0.trans hU1
    have x3 := tx1.cell 3
    have x4 := tx1.cell 4
    have x5 := tx1.cell 5
    have y3 := ty1.cell 3
    have y4 := ty1.cell 4
    have y5 := ty1.cell 5
    clear u0 tx ty hU1
    go_wp2_with fail
    refine (HIt.out _ u1).mono ?_
    rintro e w2 ⟨rfl, hU2⟩
    have tx2 := tx1.mono hU2 (by simp)
    have ty2 := ty1.mono hU2 (by simp)
    have u2 := u1.trans hU2
    have x6 := tx2.cell 6
    have y6 := ty2.cell 6
    clear tx1 ty1 hU2 x3 x4 x5 y3 y4 y5
    go_wp2_with fail
    refine (HTt.out _ u2).mono ?_
    rintro e w3 ⟨rfl, hU3⟩
    go_wp2
    go_ret
    exact ⟨rfl, u2.trans hU3⟩

/-- SameTerm, of two terms that stand for one tree: true. -/
theorem SameTerm_in : ∀ d, SameSaid d
  | 0 => fun _ _ _ _ h => h.elim
  | d + 1 => SameTerm_step d (SameTerm_in d)

end Go.Proofs.YtabknipgbmdipaaGreatDoor

/- LentTerms and LentTerm of the kit, by their contracts. -/
namespace Go.Proofs.YtabknipgbmdipaaGreatDoor
open Go.RowKit

theorem info_term3 : (Tryz.prog.info? 26).map (fun i => (i.zero, i.size, i.bytes)) = some (some ((.agg #[.int .u8 0, .bool false, .slice none 0 0, .string ⟨#[]⟩, .int .i64 0, .slice none 0 0, .slice none 0 0])), 7, 104) := by kernel_rfl

/-- The rows of cells, one behind the other. -/
def OT (w : World) (g k cap : Nat) (C : List (List Value)) : Prop := w.ownsRow g 26 7 (.slice (some ⟨g, 0, none⟩) k cap) k C.flatten

theorem OT.upd {w w' : World} {g k cap : Nat} {C : List (List Value)} (h : OT w g k cap C) (hu : Upd [] w w') : OT w' g k cap C := by
  obtain ⟨h0, h1 | ⟨g', cap', cur, hv, hb, hh, h2⟩⟩ := h
  · exact ⟨h0, Or.inl h1⟩
  · exact ⟨h0, Or.inr ⟨g', cap', cur, hv, hb, (hu.block g' (lt_of_block hh) (by simp)).trans hh, h2⟩⟩
theorem KIn.shape {P : Nat → Prop} {w : World} {d : Nat} {cs : List Value} {t : Tm} (h : KIn P w d cs t) : ∃ (k num : Int) (neg : Bool) (s : ByteArray) (a1 a2 a3 : Option Addr) (n1 n2 n3 c1 c2 c3 : Nat), cs = [.int .u8 k, .bool neg, .slice a1 n1 c1, .string s, .int .i64 num, .slice a2 n2 c2, .slice a3 n3 c3] := by
  cases d with
  | zero => exact h.elim
  | succ d =>
    cases t with
    | mk k num neg L s I T =>
      obtain ⟨g, gi, gt, c, ci, ct, rfl, _⟩ := h
      exact ⟨k, num, neg, s, _, _, _, _, _, _, _, _, _, rfl⟩

theorem flat7 : ∀ (C : List (List Value)) (_ : ∀ c ∈ C, c.length = 7) (i j : Nat) (hi : i < C.length), j < 7 → C.flatten[i * 7 + j]? = C[i][j]? := by
  intro C
  induction C with
  | nil => intro _ i j hi; simp at hi
  | cons x r ih =>
    intro h i j hi hj
    have hx := h x List.mem_cons_self
    rw [List.flatten_cons]
    cases i with
    | zero => rw [List.getElem?_append_left (by omega)]; simp
    | succ i =>
      rw [List.getElem?_append_right (by omega)]
      rw [show (i + 1) * 7 + j - x.length = i * 7 + j by omega]
      simpa using ih (fun c hc => h c (List.mem_cons_of_mem _ hc)) i j (by simpa using hi) hj
theorem OT.cell {w : World} {g k cap : Nat} {C : List (List Value)} (h : OT w g k cap C) (hk : C.length = k) (h7 : ∀ c ∈ C, c.length = 7) (i j : Nat) (hi : i < C.length) (hj : j < 7) : w.cell? ⟨g, i * 7 + j, none⟩ = C[i][j]? := by
  obtain ⟨hl, ⟨h1, _⟩ | ⟨g', cap', cur, hv, hb, hh, hc1, hc2, hcs, hcu⟩⟩ := h
  · cases h1
  · simp only [Value.slice.injEq, Option.some.injEq, Addr.mk.injEq, and_true, true_and] at hv
    obtain ⟨rfl, rfl⟩ := hv
    rw [cell_of_row w g (i * 7 + j) _ _ _ hh, ← Array.getElem?_toList]
    have e : cur.toList[i * 7 + j]? = (cur.toList.take (k * 7))[i * 7 + j]? := by rw [List.getElem?_take_of_lt (by omega)]
    rw [e, hcu]
    exact flat7 C h7 i j hi hj

end Go.Proofs.YtabknipgbmdipaaGreatDoor

/- LentTerm of the kit, by its contract. -/
namespace Go.Proofs.YtabknipgbmdipaaGreatDoor
open Go.RowKit

theorem Tb.put5 {w : World} {n : Nat} {k num : Int} {neg : Bool} {v2 v5 v6 u5 : Value} {s : ByteArray} (h : Tb w n #[.int .u8 k, .bool neg, v2, .string s, .int .i64 num, v5, v6]) :
    Tb (w.setCell ⟨n, 5, none⟩ u5) n #[.int .u8 k, .bool neg, v2, .string s, .int .i64 num, u5, v6] := by
  unfold Tb
  rw [heap_setCell_same w n 5 _ _ _ h]
  simp
theorem Tb.put6 {w : World} {n : Nat} {k num : Int} {neg : Bool} {v2 v5 v6 u6 : Value} {s : ByteArray} (h : Tb w n #[.int .u8 k, .bool neg, v2, .string s, .int .i64 num, v5, v6]) :
    Tb (w.setCell ⟨n, 6, none⟩ u6) n #[.int .u8 k, .bool neg, v2, .string s, .int .i64 num, v5, u6] := by
  unfold Tb
  rw [heap_setCell_same w n 6 _ _ _ h]
  simp
theorem RowK.stay {P Q : Nat → Prop} {w w' : World} {U : List Nat} {d g c : Nat} {I : List Tm} (h : RowK P (KIn P w d) w g c I) (hu : Upd U w w') (hP : ∀ x, P x → x ∉ U) (hQ : ∀ x, P x → Q x) : RowK Q (KIn Q w' d) w' g c I :=
  h.keep hu hP hQ (KIn.keep hu hP hQ d)

end Go.Proofs.YtabknipgbmdipaaGreatDoor
