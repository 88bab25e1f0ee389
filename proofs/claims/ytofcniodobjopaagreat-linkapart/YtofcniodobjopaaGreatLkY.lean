/- Links: Unlink, and the ways on which nothing is done. -/
import Derived.Test.YtofcniodobjopaaGreatLkX
namespace Go.Proofs.YtofcniodobjopaaGreat
open Go.RowKit Go.Maps

theorem take_nw {w : World} {g n : Nat} {F : Int → Int → Bool} {P : Nat → Prop} (h : Gr w g n F P) {a b : Int} (ha : I64 a) (hb : I64 b) :
    Calls Tryz.prog 64 #[.map (some g), .int .i64 a, .int .i64 b] w fun e w' => e = .returned (.tuple #[]) ∧ Gr w' g n (at2 F a b false) (Nw P w w') ∧ UpP P w w' := by
  refine (take_any h ha hb).mono ?_
  rintro e w' ⟨h1, h2, h3⟩
  exact ⟨h1, h2.weak (fun x hx => Or.inl hx) (fun x hx => by
    rcases hx with hx | hx
    · exact h2.bnd x hx
    · exact hx.2), h3⟩

set_option maxRecDepth 10000 in
theorem link_same {w : World} {l n : Nat} {P : Nat → Prop} {L : LF} {M : MF} (o : Lk w l n P L M) (a : Int) :
    Calls Tryz.prog 20 #[.pointer (some ⟨l, 0, none⟩), .int .i64 a, .int .i64 a] w fun e w' => e = .returned (.bool false) ∧ Upd [] w w' := by
  have hmade := o.made
  have he : (a == a) = true := by simp
  clear o
  go_enter Tryz.func20, Tryz.ntmps20
  go_wp2_with fail
  refine Calls.mono hmade ?_
  rintro e w' ⟨rfl, rfl⟩
  clear hmade
  go_wp2_with fail
  go_ret
  exact ⟨rfl, Upd.refl _ _⟩
set_option maxRecDepth 10000 in
theorem link_old {w : World} {l n : Nat} {P : Nat → Prop} {L : LF} {M : MF} (o : Lk w l n P L M) {a b : Int} (ha : I64 a) (hb : I64 b) (hab : a ≠ b) (hL : L a b = true) :
    Calls Tryz.prog 20 #[.pointer (some ⟨l, 0, none⟩), .int .i64 a, .int .i64 b] w fun e w' => e = .returned (.bool false) ∧ Upd [] w w' := by
  have hmade := o.made
  obtain ⟨g, m, h, Pg, Ph, o, hP⟩ := o
  have c1 : w.cell? ⟨l, 1, none⟩ = some (.map (some g)) := by rw [o.row.cell]; rfl
  have hhas := has_any o.linked ha hb
  rw [hL] at hhas
  have hne : (a == b) = false := by simpa using hab
  clear o hP hL hab
  go_enter Tryz.func20, Tryz.ntmps20
  go_wp2_with fail
  refine Calls.mono hmade ?_
  rintro e w' ⟨rfl, rfl⟩
  clear hmade
  go_wp2_with fail
  refine Calls.mono hhas ?_
  rintro e w1 ⟨rfl, hu1⟩
  go_wp2_with fail
  go_ret
  exact ⟨rfl, hu1⟩
set_option maxRecDepth 10000 in
theorem unlink_no {w : World} {l n : Nat} {P : Nat → Prop} {L : LF} {M : MF} (o : Lk w l n P L M) {a b : Int} (ha : I64 a) (hb : I64 b) (hL : L a b = false) :
    Calls Tryz.prog 26 #[.pointer (some ⟨l, 0, none⟩), .int .i64 a, .int .i64 b] w fun e w' => e = .returned (.bool false) ∧ Upd [] w w' := by
  have hmade := o.made
  obtain ⟨g, m, h, Pg, Ph, o, hP⟩ := o
  have c1 : w.cell? ⟨l, 1, none⟩ = some (.map (some g)) := by rw [o.row.cell]; rfl
  have hhas := has_any o.linked ha hb
  rw [hL] at hhas
  clear o hP hL
  go_enter Tryz.func26, Tryz.ntmps26
  go_wp2_with fail
  refine Calls.mono hmade ?_
  rintro e w' ⟨rfl, rfl⟩
  clear hmade
  go_wp2_with fail
  refine Calls.mono hhas ?_
  rintro e w1 ⟨rfl, hu1⟩
  go_wp2_with fail
  go_ret
  exact ⟨rfl, hu1⟩

set_option maxHeartbeats 2000000 in
set_option maxRecDepth 10000 in
theorem unlink_yes {w : World} {l n g m h : Nat} {Pg Ph : Nat → Prop} {L : LF} {M : MF} (o : LkO w l n g m h Pg Ph L M) {a b : Int} (ha : I64 a) (hb : I64 b) (hL : L a b = true) :
    Calls Tryz.prog 26 #[.pointer (some ⟨l, 0, none⟩), .int .i64 a, .int .i64 b] w fun e w' => e = .returned (.bool true) ∧ LkO w' l n g m h (Nw Pg w w') Ph (cutL L a b) M ∧ UpP Pg w w' := by
  have hmade := made_ok w l _ o.row rfl
  have c1 : w.cell? ⟨l, 1, none⟩ = some (.map (some g)) := by rw [o.row.cell]; rfl
  have hhas := has_any o.linked ha hb
  rw [hL] at hhas
  have O : Hid (LkO w l n g m h Pg Ph L M) := o
  have HA : Hid (I64 a ∧ I64 b) := ⟨ha, hb⟩
  clear o hL ha hb
  go_enter Tryz.func26, Tryz.ntmps26
  go_wp2_with fail
  refine Calls.mono hmade ?_
  rintro e w' ⟨rfl, rfl⟩
  clear hmade
  go_wp2_with fail
  refine Calls.mono hhas ?_
  rintro e w1 ⟨rfl, hu1⟩
  have U1 : Hid (Upd [] w' w1) := hu1
  clear hu1 hhas c1
  go_wp2_with fail
  refine Calls.mono (sides_any a b w1) ?_
  rintro e w2 ⟨rfl, hu2⟩
  have U2 : Hid (Upd [] w' w2) := U1.out.trans hu2
  clear hu2 U1
  have O2 : Hid (LkO w2 l n g m h Pg Ph L M) := O.out.mono (Q := fun _ => False) U2.out.toN (fun _ _ h => h)
  obtain ⟨W3, hW3⟩ : ∃ W3, W3 = w2.alloc (.cells #[.int .i64 a, .int .i64 b] 115) := ⟨_, rfl⟩
  have K3 : Hid (Upd [] w2 W3 ∧ Cl W3 w2.heap.size #[.int .i64 a, .int .i64 b] 115 ∧ W3.heap.size = w2.heap.size + 1) := by rw [hW3]; exact ⟨(Upd.refl [] w2).alloc _, Cl.new _ _ _ _ rfl, by simp⟩
  have O3 : Hid (LkO W3 l n g m h Pg Ph L M) := O2.out.mono (Q := fun _ => False) K3.out.1.toN (fun _ _ h => h)
  have c1 : W3.cell? ⟨l, 1, none⟩ = some (.map (some g)) := by rw [O3.out.row.cell]; rfl
  have q0 : W3.cell? ⟨w2.heap.size, 0, none⟩ = some (.int .i64 a) := by rw [K3.out.2.1.cell]; rfl
  have q1 : W3.cell? ⟨w2.heap.size, 1, none⟩ = some (.int .i64 b) := by rw [K3.out.2.1.cell]; rfl
  have HC : Hid (∀ w', UpP Pg W3 w' → w'.cell? ⟨l, 1, none⟩ = some (.map (some g)) ∧ w'.cell? ⟨w2.heap.size, 0, none⟩ = some (.int .i64 a) ∧ w'.cell? ⟨w2.heap.size, 1, none⟩ = some (.int .i64 b)) := fun w' hu => by
    have hb : ¬ Pg w2.heap.size := fun hx => by have := O2.out.pgl _ hx; omega
    have hk := K3.out.2.2
    exact ⟨(hu.cell (p := ⟨l, 1, none⟩) O3.out.row.lt O3.out.dgl).trans c1, (hu.cell (p := ⟨w2.heap.size, 0, none⟩) (by show w2.heap.size < _; omega) hb).trans q0, (hu.cell (p := ⟨w2.heap.size, 1, none⟩) (by show w2.heap.size < _; omega) hb).trans q1⟩
  have HP3 : Hid (∀ W, Upd [] W3 W → Calls Tryz.prog 64 #[.map (some g), .int .i64 a, .int .i64 b] W fun e w' => e = .returned (.tuple #[]) ∧ Gr w' g n (at2 L a b false) (Nw Pg W w') ∧ UpP Pg W w') := fun W hu => take_nw (O3.out.linked.upd hu) HA.out.1 HA.out.2
  have i0 := idx2_0 a b b a
  have i1 := idx2_1 a b b a
  go_wp2_with fail
  refine wp_loop_rounds 3 ?_
  rw [rounds_succ]
  subst hW3
  go_wp2_with fail
  rename_i K1 hK1
  go_region_held3 (fun w' => w'.cell? ⟨l, 1, none⟩ = some (.map (some g)) ∧ w'.cell? ⟨w2.heap.size, 0, none⟩ = some (.int .i64 a) ∧ w'.cell? ⟨w2.heap.size, 1, none⟩ = some (.int .i64 b))
    (go_keep)
    (first
      | (go_at_call 64; go_loud (refine Calls.mono (HP3.out _ (by repeat (first | exact Upd.refl _ _ | refine Upd.drew ?_))) ?_); rintro e w3 ⟨rfl, hG3, hU3⟩; have hU3' : UpP Pg (w2.alloc (.cells #[.int .i64 a, .int .i64 b] 115)) w3 := (Upd.toN (by repeat (first | exact Upd.refl _ _ | refine Upd.drew ?_))).trans hU3; obtain ⟨p1, p2, p3⟩ := HC.out w3 hU3'))
  have S2 := U2.out.size
  have U3 : Hid (UpP Pg w' w3) := (U2.out.trans ((Upd.refl [] w2).alloc _)).toN.trans hU3'
  have G3 : Hid (Gr w3 g n (at2 L a b false) (Nw Pg w' w3)) := hG3.weak (fun x hx => by
    rcases hx with hx | hx
    · exact Or.inl hx
    · exact Or.inr ⟨by have := hx.1; simp at this; omega, hx.2⟩) (fun x hx => by
    rcases hx with hx | hx
    · exact Nat.lt_of_lt_of_le (O.out.pgl x hx) U3.out.size
    · exact hx.2)
  have R3 : Hid (Cl w3 l #[.pointer (some ⟨l, 0, none⟩), .map (some g), .map (some m), .map (some h)] 49 ∧ ¬ Nw Pg w' w3 l) := ⟨O.out.row.mono U3.out O.out.dgl, fun hx => by
    rcases hx with hx | hx
    · exact O.out.dgl hx
    · have := O.out.row.lt; omega⟩
  clear hG3 hU3 hU3' p1 p2 p3 HC HP3 K3 O3 c1 q0 q1 U2 O2 S2
  obtain ⟨W4, hW4⟩ : ∃ W4, W4 = w3.alloc (.cells #[.int .i64 b, .int .i64 a] 115) := ⟨_, rfl⟩
  have K4 : Hid (Upd [] w3 W4 ∧ Cl W4 w3.heap.size #[.int .i64 b, .int .i64 a] 115 ∧ W4.heap.size = w3.heap.size + 1) := by rw [hW4]; exact ⟨(Upd.refl [] w3).alloc _, Cl.new _ _ _ _ rfl, by simp⟩
  have R4 : Hid (Cl W4 l #[.pointer (some ⟨l, 0, none⟩), .map (some g), .map (some m), .map (some h)] 49) := R3.out.1.upd K4.out.1 (by simp)
  have c1 : W4.cell? ⟨l, 1, none⟩ = some (.map (some g)) := by rw [R4.out.cell]; rfl
  have q0 : W4.cell? ⟨w3.heap.size, 0, none⟩ = some (.int .i64 b) := by rw [K4.out.2.1.cell]; rfl
  have q1 : W4.cell? ⟨w3.heap.size, 1, none⟩ = some (.int .i64 a) := by rw [K4.out.2.1.cell]; rfl
  have HC : Hid (∀ w5, UpP (Nw Pg w' w3) W4 w5 → w5.cell? ⟨l, 1, none⟩ = some (.map (some g)) ∧ w5.cell? ⟨w3.heap.size, 0, none⟩ = some (.int .i64 b) ∧ w5.cell? ⟨w3.heap.size, 1, none⟩ = some (.int .i64 a)) := fun w5 hu => by
    have hb : ¬ Nw Pg w' w3 w3.heap.size := fun hx => by
      have := G3.out.bnd _ hx
      omega
    have hk := K4.out.2.2
    exact ⟨(hu.cell (p := ⟨l, 1, none⟩) R4.out.lt R3.out.2).trans c1, (hu.cell (p := ⟨w3.heap.size, 0, none⟩) (by show w3.heap.size < _; omega) hb).trans q0, (hu.cell (p := ⟨w3.heap.size, 1, none⟩) (by show w3.heap.size < _; omega) hb).trans q1⟩
  have HP4 : Hid (∀ W, Upd [] W4 W → Calls Tryz.prog 64 #[.map (some g), .int .i64 b, .int .i64 a] W fun e w5 => e = .returned (.tuple #[]) ∧ Gr w5 g n (cutL L a b) (Nw (Nw Pg w' w3) W w5) ∧ UpP (Nw Pg w' w3) W w5) := fun W hu => take_nw ((G3.out.upd K4.out.1).upd hu) HA.out.2 HA.out.1
  go_wp2_with fail
  rw [rounds_succ]
  subst hW4
  go_wp2_with fail
  rename_i K2 hK2
  go_region_held3 (fun w5 => w5.cell? ⟨l, 1, none⟩ = some (.map (some g)) ∧ w5.cell? ⟨w3.heap.size, 0, none⟩ = some (.int .i64 b) ∧ w5.cell? ⟨w3.heap.size, 1, none⟩ = some (.int .i64 a))
    (go_keep)
    (first
      | (go_at_call 64; go_loud (refine Calls.mono (HP4.out _ (by repeat (first | exact Upd.refl _ _ | refine Upd.drew ?_))) ?_); rintro e w5 ⟨rfl, hG5, hU5⟩; have hU5' : UpP (Nw Pg w' w3) (w3.alloc (.cells #[.int .i64 b, .int .i64 a] 115)) w5 := (Upd.toN (by repeat (first | exact Upd.refl _ _ | refine Upd.drew ?_))).trans hU5; obtain ⟨p1, p2, p3⟩ := HC.out w5 hU5'))
  have U5 : Hid (UpP Pg w' w5) := U3.out.thenP ((Upd.toN ((Upd.refl [] w3).alloc _)).trans hU5') (fun x hx => by
    rcases hx with hx | hx
    · exact Or.inr hx
    · exact Or.inl hx.1)
  have S3 := U3.out.size
  have G5 : Hid (Gr w5 g n (cutL L a b) (Nw Pg w' w5)) := hG5.weak (fun x hx => by
    rcases hx with (hx | hx) | hx
    · exact Or.inl hx
    · exact Or.inr ⟨hx.1, Nat.lt_of_lt_of_le hx.2 (Nat.le_trans (by simp) hU5'.size)⟩
    · exact Or.inr ⟨by have := hx.1; simp at this; omega, hx.2⟩) (fun x hx => by
    rcases hx with hx | hx
    · exact Nat.lt_of_lt_of_le (O.out.pgl x hx) U5.out.size
    · exact hx.2)
  clear hG5 hU5 hU5' p1 p2 p3 HC HP4 K4 c1 q0 q1 R3 R4 G3 U3 S3
  go_wp2_with fail
  rw [rounds_succ]
  go_wp2_with fail
  go_ret
  refine ⟨rfl, O.out.turn (Nat.le_refl _) U5.out G5.out (fun x hx => ?_) (cutL_sym O.out.sym), U5.out⟩
  rcases hx with hx | hx
  · exact Or.inl hx
  · exact Or.inr hx.1

/-- The blocks of Links that have turned. -/
theorem Lk.of_turn {w w' : World} {l n : Nat} {P Pg Ph : Nat → Prop} {g m h : Nat} {L : LF} {M : MF} (hu : UpP Pg w w') (hP : ∀ x, P x ↔ (Pg x ∨ Ph x ∨ x = m ∨ x = l)) (o : LkO w' l n g m h (Nw Pg w w') Ph L M) : Lk w' l n (Nw P w w') L M ∧ UpP P w w' := by
  refine ⟨⟨g, m, h, _, _, o, fun x => ?_⟩, hu.mono (fun x hx => (hP x).2 (Or.inl hx))⟩
  unfold Nw
  rw [hP]
  constructor
  · rintro ((h1 | h1 | h1 | h1) | h1)
    · exact Or.inl (Or.inl h1)
    · exact Or.inr (Or.inl h1)
    · exact Or.inr (Or.inr (Or.inl h1))
    · exact Or.inr (Or.inr (Or.inr h1))
    · exact Or.inl (Or.inr h1)
  · rintro ((h1 | h1) | h1 | h1 | h1)
    · exact Or.inl (Or.inl h1)
    · exact Or.inr h1
    · exact Or.inl (Or.inr (Or.inl h1))
    · exact Or.inl (Or.inr (Or.inr (Or.inl h1)))
    · exact Or.inl (Or.inr (Or.inr (Or.inr h1)))
theorem Lk.grow {w w' : World} {l n : Nat} {P : Nat → Prop} {L : LF} {M : MF} (o : Lk w l n P L M) (hu : Upd [] w w') : ∃ P', Lk w' l n P' L M ∧ (∀ x, P' x → P x ∨ (w.heap.size ≤ x ∧ x < w'.heap.size)) ∧ UpP P w w' := ⟨P, o.upd hu, fun _x hx => Or.inl hx, hu.toN⟩

/-- What Link does. -/
def linkL (L : LF) (a b : Int) : LF := if a = b then L else addL L a b
theorem link_any {w : World} {l n : Nat} {P : Nat → Prop} {L : LF} {M : MF} (o : Lk w l n P L M) (hn : n + 3 ≤ 1073741824) {a b : Int} (ha : I64 a) (hb : I64 b) :
    Calls Tryz.prog 20 #[.pointer (some ⟨l, 0, none⟩), .int .i64 a, .int .i64 b] w fun e w' => e = .returned (.bool (!(a == b) && !(L a b))) ∧ (∃ P', Lk w' l (n + 2) P' (linkL L a b) M ∧ (∀ x, P' x → P x ∨ (w.heap.size ≤ x ∧ x < w'.heap.size)) ∧ UpP P w w') := by
  by_cases hab : a = b
  · subst hab
    refine (link_same o a).mono ?_
    rintro e w' ⟨rfl, hu⟩
    refine ⟨by simp, ?_⟩
    unfold linkL
    rw [if_pos rfl]
    exact (o.le (Nat.le_add_right _ _)).grow hu
  · have hne : (a == b) = false := by simpa using hab
    cases hL : L a b with
    | true =>
      refine (link_old o ha hb hab hL).mono ?_
      rintro e w' ⟨rfl, hu⟩
      refine ⟨by rw [hne]; rfl, ?_⟩
      have e1 : linkL L a b = L := by
        unfold linkL
        rw [if_neg hab]
        funext x y
        rw [addL_val]
        by_cases h1 : (x = a ∧ y = b) ∨ (x = b ∧ y = a)
        · rw [if_pos h1]
          rcases h1 with ⟨rfl, rfl⟩ | ⟨rfl, rfl⟩
          · exact hL.symm
          · exact (o.sym _ _ hL).1.symm
        · rw [if_neg h1]
      rw [e1]
      exact (o.le (Nat.le_add_right _ _)).grow hu
    | false =>
      obtain ⟨g, m, h, Pg, Ph, o, hP⟩ := o
      refine (link_new o hn ha hb hab hL).mono ?_
      rintro e w' ⟨rfl, ho, hu⟩
      refine ⟨by rw [hne]; rfl, Nw P w w', ?_⟩
      unfold linkL
      rw [if_neg hab]
      obtain ⟨h1, h2⟩ := Lk.of_turn hu hP ho
      exact ⟨h1, fun x hx => hx, h2⟩
theorem unlink_any {w : World} {l n : Nat} {P : Nat → Prop} {L : LF} {M : MF} (o : Lk w l n P L M) {a b : Int} (ha : I64 a) (hb : I64 b) :
    Calls Tryz.prog 26 #[.pointer (some ⟨l, 0, none⟩), .int .i64 a, .int .i64 b] w fun e w' => e = .returned (.bool (L a b)) ∧ (∃ P', Lk w' l n P' (cutL L a b) M ∧ (∀ x, P' x → P x ∨ (w.heap.size ≤ x ∧ x < w'.heap.size)) ∧ UpP P w w') := by
  cases hL : L a b with
  | false =>
    refine (unlink_no o ha hb hL).mono ?_
    rintro e w' ⟨rfl, hu⟩
    refine ⟨rfl, ?_⟩
    have e1 : cutL L a b = L := by
      funext x y
      rw [cutL_val]
      by_cases h1 : (x = a ∧ y = b) ∨ (x = b ∧ y = a)
      · rw [if_pos h1]
        rcases h1 with ⟨rfl, rfl⟩ | ⟨rfl, rfl⟩
        · exact hL.symm
        · cases h2 : L x y with
          | false => rfl
          | true => have := (o.sym _ _ h2).1; rw [hL] at this; cases this
      · rw [if_neg h1]
    rw [e1]
    exact o.grow hu
  | true =>
    obtain ⟨g, m, h, Pg, Ph, o, hP⟩ := o
    refine (unlink_yes o ha hb hL).mono ?_
    rintro e w' ⟨rfl, ho, hu⟩
    obtain ⟨h1, h2⟩ := Lk.of_turn hu hP ho
    exact ⟨rfl, Nw P w w', h1, fun x hx => hx, h2⟩

end Go.Proofs.YtofcniodobjopaaGreat
