/- Links: Of, Link. -/
import Derived.Test.YtofcniodobjopaaGreatLkL
import Derived.Deep.RegionHeld3
namespace Go.Proofs.YtofcniodobjopaaGreat
open Go.RowKit Go.Maps

set_option maxRecDepth 10000 in
theorem of_any {w : World} {l n : Nat} {P : Nat → Prop} {L : LF} {M : MF} (o : Lk w l n P L M) (hn : n ≤ 1073741824) {a : Int} (ha : I64 a) :
    Calls Tryz.prog 5 #[.pointer (some ⟨l, 0, none⟩), .int .i64 a] w fun e w' => ∃ v xs, e = .returned v ∧ IR w' w.heap.size v xs ∧ xs.Pairwise (· < ·) ∧ (∀ x, x ∈ xs ↔ L a x = true) ∧ Upd [] w w' := by
  have hmade := o.made
  obtain ⟨g, m, h, Pg, Ph, o, hP⟩ := o
  have c1 : w.cell? ⟨l, 1, none⟩ = some (.map (some g)) := by rw [o.row.cell]; rfl
  have hr := rising_any o.linked hn ha
  clear o hP
  go_enter Tryz.func5, Tryz.ntmps5
  go_wp2_with fail
  refine Calls.mono hmade ?_
  rintro e w' ⟨rfl, rfl⟩
  go_wp2_with fail
  refine Calls.mono hr ?_
  rintro e w2 ⟨v, xs, rfl, h1, h2, h3, _, _, hu⟩
  go_wp2
  go_ret
  exact ⟨v, xs, rfl, h1, h2, h3, hu⟩

/-- L, and the link of a and b. -/
def addL (L : LF) (a b : Int) : LF := at2 (at2 L a b true) b a true
/-- L, but for the link of a and b. -/
def cutL (L : LF) (a b : Int) : LF := at2 (at2 L a b false) b a false
theorem addL_val (L : LF) (a b x y : Int) : addL L a b x y = (if (x = a ∧ y = b) ∨ (x = b ∧ y = a) then true else L x y) := by
  unfold addL
  rw [at2_val, at2_val]
  by_cases h1 : x = b ∧ y = a
  · rw [if_pos h1, if_pos (Or.inr h1)]
  · rw [if_neg h1]
    by_cases h2 : x = a ∧ y = b
    · rw [if_pos h2, if_pos (Or.inl h2)]
    · rw [if_neg h2, if_neg (by rintro (h | h); exact h2 h; exact h1 h)]
theorem cutL_val (L : LF) (a b x y : Int) : cutL L a b x y = (if (x = a ∧ y = b) ∨ (x = b ∧ y = a) then false else L x y) := by
  unfold cutL
  rw [at2_val, at2_val]
  by_cases h1 : x = b ∧ y = a
  · rw [if_pos h1, if_pos (Or.inr h1)]
  · rw [if_neg h1]
    by_cases h2 : x = a ∧ y = b
    · rw [if_pos h2, if_pos (Or.inl h2)]
    · rw [if_neg h2, if_neg (by rintro (h | h); exact h2 h; exact h1 h)]
theorem addL_sym {L : LF} (hs : ∀ a b, L a b = true → L b a = true ∧ a ≠ b) {a b : Int} (hab : a ≠ b) : ∀ x y, addL L a b x y = true → addL L a b y x = true ∧ x ≠ y := by
  intro x y h
  rw [addL_val] at h ⊢
  by_cases h1 : (x = a ∧ y = b) ∨ (x = b ∧ y = a)
  · have h2 : (y = a ∧ x = b) ∨ (y = b ∧ x = a) := by rcases h1 with h1 | h1; exact Or.inr ⟨h1.2, h1.1⟩; exact Or.inl ⟨h1.2, h1.1⟩
    rw [if_pos h2]
    exact ⟨rfl, by omega⟩
  · have h2 : ¬ ((y = a ∧ x = b) ∨ (y = b ∧ x = a)) := by omega
    rw [if_neg h1] at h
    rw [if_neg h2]
    exact hs x y h
theorem cutL_sym {L : LF} (hs : ∀ a b, L a b = true → L b a = true ∧ a ≠ b) {a b : Int} : ∀ x y, cutL L a b x y = true → cutL L a b y x = true ∧ x ≠ y := by
  intro x y h
  rw [cutL_val] at h ⊢
  by_cases h1 : (x = a ∧ y = b) ∨ (x = b ∧ y = a)
  · rw [if_pos h1] at h; cases h
  · have h2 : ¬ ((y = a ∧ x = b) ∨ (y = b ∧ x = a)) := by omega
    rw [if_neg h1] at h
    rw [if_neg h2]
    exact hs x y h

theorem und_prs2 : Tryz.prog.underlying 116 = some (.array 2 115) := by kernel_rfl
theorem und_pr : Tryz.prog.underlying 115 = some (.array 2 3) := by kernel_rfl
theorem info_prs2 : (Tryz.prog.info? 116).map (·.size) = some 4 := by kernel_rfl
theorem info_pr : (Tryz.prog.info? 115).map (·.size) = some 2 := by kernel_rfl
theorem sides_any (a b : Int) (w : World) : Calls Tryz.prog 59 #[.int .i64 a, .int .i64 b] w fun e w' => e = .returned (.agg #[.int .i64 a, .int .i64 b, .int .i64 b, .int .i64 a]) ∧ Upd [] w w' := by
  have C : Hid (Cl (w.alloc (.cells #[.int .i64 a, .int .i64 b, .int .i64 b, .int .i64 a] 116)) w.heap.size #[.int .i64 a, .int .i64 b, .int .i64 b, .int .i64 a] 116) := Cl.new _ _ _ _ rfl
  go_enter Tryz.func59, Tryz.ntmps59
  go_wp2
  exact bodyPost_ret (results_cell_row rfl _ _ w.heap.size 116 _ (0, 0) _ rfl C.out und_prs2 rfl info_prs2) rfl ⟨rfl, (Upd.refl [] w).alloc _⟩

set_option maxRecDepth 100000 in
theorem idx2_0 (a b c d : Int) (w : World) : (Instr.index 116 (.agg #[.int .i64 a, .int .i64 b, .int .i64 c, .int .i64 d]) (.int .i64 0)).run Tryz.prog w = .ok (.agg #[.int .i64 a, .int .i64 b]) w := by rfl
set_option maxRecDepth 100000 in
theorem idx2_1 (a b c d : Int) (w : World) : (Instr.index 116 (.agg #[.int .i64 a, .int .i64 b, .int .i64 c, .int .i64 d]) (.int .i64 1)).run Tryz.prog w = .ok (.agg #[.int .i64 c, .int .i64 d]) w := by rfl
set_option maxRecDepth 100000 in
theorem idx1_0 (a b : Int) (w : World) : (Instr.index 115 (.agg #[.int .i64 a, .int .i64 b]) (.int .i64 0)).run Tryz.prog w = .ok (.int .i64 a) w := by rfl
set_option maxRecDepth 100000 in
theorem idx1_1 (a b : Int) (w : World) : (Instr.index 115 (.agg #[.int .i64 a, .int .i64 b]) (.int .i64 1)).run Tryz.prog w = .ok (.int .i64 b) w := by rfl

theorem UpP.cell {P : Nat → Prop} {w w' : World} (h : UpP P w w') {p : Addr} (hp : p.block < w.heap.size) (hn : ¬ P p.block) : w'.cell? p = w.cell? p := World.cell?_of_block (w := w) (h.block p.block hp hn)
theorem Gr.weak {w : World} {g n : Nat} {F : LF} {P Q : Nat → Prop} (h : Gr w g n F P) (hPQ : ∀ x, P x → Q x) (hQ : ∀ x, Q x → x < w.heap.size) : Gr w g n F Q := by
  obtain ⟨f, h⟩ := h
  exact ⟨f, h.out, hPQ _ h.pg, hQ, fun x k hx => by obtain ⟨h1, h2⟩ := h.set x k hx; exact ⟨hPQ _ h1, h2⟩, h.no, h.inj⟩
theorem LkO.pgl {w : World} {l n g m h : Nat} {Pg Ph : Nat → Prop} {L : LF} {M : MF} (o : LkO w l n g m h Pg Ph L M) : ∀ x, Pg x → x < w.heap.size := o.linked.bnd

/-- Links whose linked groups have turned. -/
theorem LkO.turn {w w' : World} {l n n' g m h : Nat} {Pg Pg' Ph : Nat → Prop} {L L' : LF} {M : MF} (o : LkO w l n g m h Pg Ph L M) (hn : n ≤ n') (hu : UpP Pg w w') (hG : Gr w' g n' L' Pg') (hP : ∀ x, Pg' x → Pg x ∨ w.heap.size ≤ x) (hs : ∀ a b, L' a b = true → L' b a = true ∧ a ≠ b) : LkO w' l n' g m h Pg' Ph L' M := by
  have hl := o.row.lt
  have hm : m < w.heap.size := MapB.lt o.mons
  refine ⟨o.row.mono hu o.dgl, hG, (MapB.upP o.mons hu o.dgm).le hn, (o.naming.mono hu (fun x hx hg => o.dgh x hg hx)).le hn, fun x hx hh => ?_, fun hx => ?_, o.dhm, fun hx => ?_, o.dhl, o.dml, hs, o.num⟩
  · rcases hP x hx with h1 | h1
    · exact o.dgh x h1 hh
    · have := o.naming.bnd x hh; omega
  · rcases hP m hx with h1 | h1
    · exact o.dgm h1
    · omega
  · rcases hP l hx with h1 | h1
    · exact o.dgl h1
    · omega

set_option maxHeartbeats 2000000 in
set_option maxRecDepth 10000 in
theorem link_new {w : World} {l n g m h : Nat} {Pg Ph : Nat → Prop} {L : LF} {M : MF} (o : LkO w l n g m h Pg Ph L M) (hn : n + 3 ≤ 1073741824) {a b : Int} (ha : I64 a) (hb : I64 b) (hab : a ≠ b) (hL : L a b = false) :
    Calls Tryz.prog 20 #[.pointer (some ⟨l, 0, none⟩), .int .i64 a, .int .i64 b] w fun e w' => e = .returned (.bool true) ∧ LkO w' l (n + 2) g m h (Nw Pg w w') Ph (addL L a b) M ∧ UpP Pg w w' := by
  have hmade := made_ok w l _ o.row rfl
  have c1 : w.cell? ⟨l, 1, none⟩ = some (.map (some g)) := by rw [o.row.cell]; rfl
  have hhas := has_any o.linked ha hb
  rw [hL] at hhas
  have hne : (a == b) = false := by simpa using hab
  have O : Hid (LkO w l n g m h Pg Ph L M) := o
  have HA : Hid (I64 a ∧ I64 b ∧ a ≠ b) := ⟨ha, hb, hab⟩
  have HN : Hid (n + 3 ≤ 1073741824) := hn
  clear o hL hab ha hb hn
  go_enter Tryz.func20, Tryz.ntmps20
  go_wp2_with fail
  refine Calls.mono hmade ?_
  rintro e w' ⟨rfl, rfl⟩
  clear hmade
  go_wp2_with fail
  refine Calls.mono hhas ?_
  rintro e w1 ⟨rfl, hu1⟩
  have U1 : Hid (Upd [] w' w1) := hu1
  clear hu1 hhas c1
  go_wp2_with fail
  refine Calls.mono (sides_any a b w1) ?_
  rintro e w2 ⟨rfl, hu2⟩
  have U2 : Hid (Upd [] w' w2) := U1.out.trans hu2
  clear hu2 U1
  have O2 : Hid (LkO w2 l n g m h Pg Ph L M) := O.out.mono (Q := fun _ => False) U2.out.toN (fun _ _ h => h)
  obtain ⟨W3, hW3⟩ : ∃ W3, W3 = w2.alloc (.cells #[.int .i64 a, .int .i64 b] 115) := ⟨_, rfl⟩
  have K3 : Hid (Upd [] w2 W3 ∧ Cl W3 w2.heap.size #[.int .i64 a, .int .i64 b] 115 ∧ W3.heap.size = w2.heap.size + 1) := by rw [hW3]; exact ⟨(Upd.refl [] w2).alloc _, Cl.new _ _ _ _ rfl, by simp⟩
  have O3 : Hid (LkO W3 l n g m h Pg Ph L M) := O2.out.mono (Q := fun _ => False) K3.out.1.toN (fun _ _ h => h)
  have c1 : W3.cell? ⟨l, 1, none⟩ = some (.map (some g)) := by rw [O3.out.row.cell]; rfl
  have q0 : W3.cell? ⟨w2.heap.size, 0, none⟩ = some (.int .i64 a) := by rw [K3.out.2.1.cell]; rfl
  have q1 : W3.cell? ⟨w2.heap.size, 1, none⟩ = some (.int .i64 b) := by rw [K3.out.2.1.cell]; rfl
  have HC : Hid (∀ w', UpP Pg W3 w' → w'.cell? ⟨l, 1, none⟩ = some (.map (some g)) ∧ w'.cell? ⟨w2.heap.size, 0, none⟩ = some (.int .i64 a) ∧ w'.cell? ⟨w2.heap.size, 1, none⟩ = some (.int .i64 b)) := fun w' hu => by
    have hb : ¬ Pg w2.heap.size := fun hx => by have := O2.out.pgl _ hx; omega
    have hk := K3.out.2.2
    exact ⟨(hu.cell (p := ⟨l, 1, none⟩) O3.out.row.lt O3.out.dgl).trans c1, (hu.cell (p := ⟨w2.heap.size, 0, none⟩) (by show w2.heap.size < _; omega) hb).trans q0, (hu.cell (p := ⟨w2.heap.size, 1, none⟩) (by show w2.heap.size < _; omega) hb).trans q1⟩
  have HP3 : Hid (∀ W, Upd [] W3 W → Calls Tryz.prog 60 #[.map (some g), .int .i64 a, .int .i64 b] W fun e w' => e = .returned (.tuple #[]) ∧ Gr w' g (n + 1) (at2 L a b true) (Nw Pg W w') ∧ UpP Pg W w') := fun W hu => put_any (O3.out.linked.upd hu) (by have := HN.out; unfold maxLen; omega) HA.out.1 HA.out.2.1
  have i0 := idx2_0 a b b a
  have i1 := idx2_1 a b b a
  go_wp2_with fail
  refine wp_loop_rounds 3 ?_
  rw [rounds_succ]
  subst hW3
  go_wp2_with fail
  rename_i K1 hK1
  go_region_held3 (fun w' => w'.cell? ⟨l, 1, none⟩ = some (.map (some g)) ∧ w'.cell? ⟨w2.heap.size, 0, none⟩ = some (.int .i64 a) ∧ w'.cell? ⟨w2.heap.size, 1, none⟩ = some (.int .i64 b))
    (go_keep)
    (first
      | (go_at_call 60; go_loud (refine Calls.mono (HP3.out _ (by repeat (first | exact Upd.refl _ _ | refine Upd.drew ?_))) ?_); rintro e w3 ⟨rfl, hG3, hU3⟩; have hU3' : UpP Pg (w2.alloc (.cells #[.int .i64 a, .int .i64 b] 115)) w3 := (Upd.toN (by repeat (first | exact Upd.refl _ _ | refine Upd.drew ?_))).trans hU3; obtain ⟨p1, p2, p3⟩ := HC.out w3 hU3'))
  have S2 := U2.out.size
  have U3 : Hid (UpP Pg w' w3) := (U2.out.trans ((Upd.refl [] w2).alloc _)).toN.trans hU3'
  have G3 : Hid (Gr w3 g (n + 1) (at2 L a b true) (Nw Pg w' w3)) := hG3.weak (fun x hx => by
    rcases hx with hx | hx
    · exact Or.inl hx
    · exact Or.inr ⟨by have := hx.1; simp at this; omega, hx.2⟩) (fun x hx => by
    rcases hx with hx | hx
    · exact Nat.lt_of_lt_of_le (O.out.pgl x hx) U3.out.size
    · exact hx.2)
  have R3 : Hid (Cl w3 l #[.pointer (some ⟨l, 0, none⟩), .map (some g), .map (some m), .map (some h)] 49 ∧ ¬ Nw Pg w' w3 l) := ⟨O.out.row.mono U3.out O.out.dgl, fun hx => by
    rcases hx with hx | hx
    · exact O.out.dgl hx
    · have := O.out.row.lt; omega⟩
  clear hG3 hU3 hU3' p1 p2 p3 HC HP3 K3 O3 c1 q0 q1 U2 O2 S2
  obtain ⟨W4, hW4⟩ : ∃ W4, W4 = w3.alloc (.cells #[.int .i64 b, .int .i64 a] 115) := ⟨_, rfl⟩
  have K4 : Hid (Upd [] w3 W4 ∧ Cl W4 w3.heap.size #[.int .i64 b, .int .i64 a] 115 ∧ W4.heap.size = w3.heap.size + 1) := by rw [hW4]; exact ⟨(Upd.refl [] w3).alloc _, Cl.new _ _ _ _ rfl, by simp⟩
  have R4 : Hid (Cl W4 l #[.pointer (some ⟨l, 0, none⟩), .map (some g), .map (some m), .map (some h)] 49) := R3.out.1.upd K4.out.1 (by simp)
  have c1 : W4.cell? ⟨l, 1, none⟩ = some (.map (some g)) := by rw [R4.out.cell]; rfl
  have q0 : W4.cell? ⟨w3.heap.size, 0, none⟩ = some (.int .i64 b) := by rw [K4.out.2.1.cell]; rfl
  have q1 : W4.cell? ⟨w3.heap.size, 1, none⟩ = some (.int .i64 a) := by rw [K4.out.2.1.cell]; rfl
  have HC : Hid (∀ w5, UpP (Nw Pg w' w3) W4 w5 → w5.cell? ⟨l, 1, none⟩ = some (.map (some g)) ∧ w5.cell? ⟨w3.heap.size, 0, none⟩ = some (.int .i64 b) ∧ w5.cell? ⟨w3.heap.size, 1, none⟩ = some (.int .i64 a)) := fun w5 hu => by
    have hb : ¬ Nw Pg w' w3 w3.heap.size := fun hx => by
      have := G3.out.bnd _ hx
      omega
    have hk := K4.out.2.2
    exact ⟨(hu.cell (p := ⟨l, 1, none⟩) R4.out.lt R3.out.2).trans c1, (hu.cell (p := ⟨w3.heap.size, 0, none⟩) (by show w3.heap.size < _; omega) hb).trans q0, (hu.cell (p := ⟨w3.heap.size, 1, none⟩) (by show w3.heap.size < _; omega) hb).trans q1⟩
  have HP4 : Hid (∀ W, Upd [] W4 W → Calls Tryz.prog 60 #[.map (some g), .int .i64 b, .int .i64 a] W fun e w5 => e = .returned (.tuple #[]) ∧ Gr w5 g (n + 2) (addL L a b) (Nw (Nw Pg w' w3) W w5) ∧ UpP (Nw Pg w' w3) W w5) := fun W hu => put_any (n := n + 1) ((G3.out.upd K4.out.1).upd hu) (by have := HN.out; unfold maxLen; omega) HA.out.2.1 HA.out.1
  go_wp2_with fail
  rw [rounds_succ]
  subst hW4
  go_wp2_with fail
  rename_i K2 hK2
  go_region_held3 (fun w5 => w5.cell? ⟨l, 1, none⟩ = some (.map (some g)) ∧ w5.cell? ⟨w3.heap.size, 0, none⟩ = some (.int .i64 b) ∧ w5.cell? ⟨w3.heap.size, 1, none⟩ = some (.int .i64 a))
    (go_keep)
    (first
      | (go_at_call 60; go_loud (refine Calls.mono (HP4.out _ (by repeat (first | exact Upd.refl _ _ | refine Upd.drew ?_))) ?_); rintro e w5 ⟨rfl, hG5, hU5⟩; have hU5' : UpP (Nw Pg w' w3) (w3.alloc (.cells #[.int .i64 b, .int .i64 a] 115)) w5 := (Upd.toN (by repeat (first | exact Upd.refl _ _ | refine Upd.drew ?_))).trans hU5; obtain ⟨p1, p2, p3⟩ := HC.out w5 hU5'))
  have U5 : Hid (UpP Pg w' w5) := U3.out.thenP ((Upd.toN ((Upd.refl [] w3).alloc _)).trans hU5') (fun x hx => by
    rcases hx with hx | hx
    · exact Or.inr hx
    · exact Or.inl hx.1)
  have S3 := U3.out.size
  have G5 : Hid (Gr w5 g (n + 2) (addL L a b) (Nw Pg w' w5)) := hG5.weak (fun x hx => by
    rcases hx with (hx | hx) | hx
    · exact Or.inl hx
    · exact Or.inr ⟨hx.1, Nat.lt_of_lt_of_le hx.2 (Nat.le_trans (by simp) hU5'.size)⟩
    · exact Or.inr ⟨by have := hx.1; simp at this; omega, hx.2⟩) (fun x hx => by
    rcases hx with hx | hx
    · exact Nat.lt_of_lt_of_le (O.out.pgl x hx) U5.out.size
    · exact hx.2)
  clear hG5 hU5 hU5' p1 p2 p3 HC HP4 K4 c1 q0 q1 R3 R4 G3 U3 S3
  go_wp2_with fail
  rw [rounds_succ]
  go_wp2_with fail
  go_ret
  refine ⟨rfl, O.out.turn (by omega) U5.out G5.out (fun x hx => ?_) (addL_sym O.out.sym HA.out.2.2), U5.out⟩
  rcases hx with hx | hx
  · exact Or.inl hx
  · exact Or.inr hx.1

end Go.Proofs.YtofcniodobjopaaGreat
