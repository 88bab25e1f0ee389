/- Links: Watch. -/
import Derived.Test.YtofcniodobjopaaGreatLkY
import Derived.RegionTactic
namespace Go.Proofs.YtofcniodobjopaaGreat
open Go.RowKit Go.Maps

theorem nam_put (M : MF) (r a b : Int) (hM : M r = none) : at2 (at2 (nam M) a r true) b r true = nam (at1 M r (some (a, b))) := by
  funext p x
  rw [at2_val, at2_val]
  unfold nam at1
  by_cases hx : x = r
  · subst hx
    rw [if_pos rfl, hM]
    by_cases h1 : p = b
    · subst h1; simp
    · by_cases h2 : p = a
      · subst h2; simp
      · simp [h1, h2, Ne.symm h1, Ne.symm h2]
  · simp [hx]
theorem nam_drop (M : MF) (r a b : Int) (hM : M r = some (a, b)) : at2 (at2 (nam M) a r false) b r false = nam (at1 M r none) := by
  funext p x
  rw [at2_val, at2_val]
  unfold nam at1
  by_cases hx : x = r
  · subst hx
    rw [if_pos rfl, hM]
    by_cases h1 : p = b
    · subst h1; simp
    · by_cases h2 : p = a
      · subst h2; simp
      · simp [h1, h2, Ne.symm h1, Ne.symm h2]
  · simp [hx]

/-- Links whose monitors have turned. -/
theorem LkO.turnM {w w' : World} {l n n' g m h : Nat} {Pg Ph Ph' : Nat → Prop} {L : LF} {M M' : MF} (o : LkO w l n g m h Pg Ph L M) (hn : n ≤ n') (hu : UpP (fun x => x = m ∨ Ph x) w w') (hB : MonB w' m n' (monF M')) (hG : Gr w' h n' (nam M') Ph') (hP : ∀ x, Ph' x → Ph x ∨ w.heap.size ≤ x) (hs : ∀ r a b, M' r = some (a, b) → I64 a ∧ I64 b) : LkO w' l n' g m h Pg Ph' L M' := by
  have hl := o.row.lt
  have hm : m < w.heap.size := MapB.lt o.mons
  refine ⟨o.row.mono hu (fun e => by rcases e with e | e; exact o.dml e.symm; exact o.dhl e), (o.linked.mono hu (fun x hx hg => by rcases hg with e | e; exact o.dgm (e ▸ hx); exact o.dgh x hx e)).le hn, hB, hG, fun x hx hh => ?_, o.dgm, fun hx => ?_, o.dgl, fun hx => ?_, o.dml, o.sym, hs⟩
  · rcases hP x hh with h1 | h1
    · exact o.dgh x hx h1
    · have := o.linked.bnd x hx; omega
  · rcases hP m hx with h1 | h1
    · exact o.dhm h1
    · omega
  · rcases hP l hx with h1 | h1
    · exact o.dhl h1
    · omega

theorem monSides_any (r a b : Int) (w : World) : Calls Tryz.prog 61 #[.agg #[.int .i64 r, .int .i64 a, .int .i64 b]] w fun e w' => e = .returned (.agg #[.int .i64 a, .int .i64 b]) ∧ Upd [] w w' := by
  have C : Hid (Cl ((w.alloc (.cells #[.int .i64 r, .int .i64 a, .int .i64 b] 33)).alloc (.cells #[.int .i64 a, .int .i64 b] 115)) (w.heap.size + 1) #[.int .i64 a, .int .i64 b] 115) := Cl.new _ _ _ _ (by simp)
  have U : Hid (Upd [] w ((w.alloc (.cells #[.int .i64 r, .int .i64 a, .int .i64 b] 33)).alloc (.cells #[.int .i64 a, .int .i64 b] 115))) := ((Upd.refl [] w).alloc _).alloc _
  go_enter Tryz.func61, Tryz.ntmps61
  go_wp2
  exact bodyPost_ret (results_cell_row rfl _ _ (w.heap.size + 1) 115 _ (0, 0) _ rfl C.out und_pr rfl info_pr) rfl ⟨rfl, U.out⟩

set_option maxRecDepth 10000 in
theorem watch_old {w : World} {l n : Nat} {P : Nat → Prop} {L : LF} {M : MF} (o : Lk w l n P L M) {r : Int} (hr : I64 r) (a b : Int) (hM : M r ≠ none) :
    Calls Tryz.prog 21 #[.pointer (some ⟨l, 0, none⟩), .int .i64 r, .int .i64 a, .int .i64 b] w fun e w' => e = .returned (.bool false) ∧ Upd [] w w' := by
  have hmade := o.made
  obtain ⟨g, m, h, Pg, Ph, o, hP⟩ := o
  have c1 : w.cell? ⟨l, 2, none⟩ = some (.map (some m)) := by rw [o.row.cell]; rfl
  have e1 := MonB.look2 o.mons hr
  obtain ⟨x, y, hx⟩ : ∃ x y, monF M r = some (r, x, y) := by
    cases hq : M r with
    | none => exact absurd hq hM
    | some p => exact ⟨p.1, p.2, (monF_some M r _ _).2 hq⟩
  rw [hx] at e1
  have e2 : (Instr.lookup 47 (.map (some m)) (.int .i64 r) true).run Tryz.prog w = .ok (.tuple #[.agg #[.int .i64 r, .int .i64 x, .int .i64 y], .bool true]) w := e1
  clear o hP hM hx e1
  go_enter Tryz.func21, Tryz.ntmps21
  go_wp2_with fail
  refine Calls.mono hmade ?_
  rintro e w' ⟨rfl, rfl⟩
  clear hmade
  go_wp2_with fail
  go_ret
  exact ⟨rfl, (Upd.refl [] _).alloc _⟩

set_option maxHeartbeats 2000000 in
set_option maxRecDepth 10000 in
theorem watch_new {w : World} {l n g m h : Nat} {Pg Ph : Nat → Prop} {L : LF} {M : MF} (o : LkO w l n g m h Pg Ph L M) (hn : n + 3 ≤ 1073741824) {r a b : Int} (hr : I64 r) (ha : I64 a) (hb : I64 b) (hM : M r = none) :
    Calls Tryz.prog 21 #[.pointer (some ⟨l, 0, none⟩), .int .i64 r, .int .i64 a, .int .i64 b] w fun e w' => e = .returned (.bool true) ∧ LkO w' l (n + 2) g m h Pg (Nw Ph w w') L (at1 M r (some (a, b))) ∧ UpP (fun x => x = m ∨ Ph x) w w' := by
  have hmade := made_ok w l _ o.row rfl
  have c2 : w.cell? ⟨l, 2, none⟩ = some (.map (some m)) := by rw [o.row.cell]; rfl
  have e1 := MonB.look2 o.mons hr
  have hx : monF M r = none := by unfold monF; rw [hM]; rfl
  rw [hx] at e1
  have e2 : (Instr.lookup 47 (.map (some m)) (.int .i64 r) true).run Tryz.prog w = .ok (.tuple #[.agg #[.int .i64 0, .int .i64 0, .int .i64 0], .bool false]) w := e1
  have O : Hid (LkO w l n g m h Pg Ph L M) := o
  have HA : Hid (I64 r ∧ I64 a ∧ I64 b ∧ M r = none) := ⟨hr, ha, hb, hM⟩
  have HN : Hid (n + 3 ≤ 1073741824) := hn
  obtain ⟨W2, hW2⟩ : ∃ W2, W2 = (w.alloc (.cells #[.int .i64 0, .int .i64 0, .int .i64 0] 33)).alloc (.cells #[.int .i64 r, .int .i64 a, .int .i64 b] 33) := ⟨_, rfl⟩
  have U2 : Hid (Upd [] w W2) := by rw [hW2]; exact ((Upd.refl [] w).alloc _).alloc _
  have C2 : Hid (Cl W2 (w.heap.size + 1) #[.int .i64 r, .int .i64 a, .int .i64 b] 33) := by rw [hW2]; exact Cl.new _ _ _ _ (by simp)
  have O2 : Hid (LkO W2 l n g m h Pg Ph L M) := o.mono (Q := fun _ => False) U2.out.toN (fun _ _ h => h)
  obtain ⟨w3, e3, hB3, ht3⟩ := MonB.put (w := W2.drew) (MapB.upP O2.out.mons ((UpP.refl (fun _ => False) _).drew) (fun h => h)) (by have := HN.out; unfold maxLen; omega) hr (r, a, b)
  have hu3 := turned_upP ht3
  have U3 : Hid (UpP (fun x => x = m) W2 w3) := (UpP.refl (fun x => x = m) W2).drew.trans hu3
  have B3 : Hid (MonB w3 m (n + 1) (monF (at1 M r (some (a, b))))) := by rw [← monF_put]; exact hB3
  have hml : ¬ (w.heap.size + 1 = m) := by have : m < w.heap.size := MapB.lt o.mons; omega
  have d1 : W2.cell? ⟨l, 2, none⟩ = some (.map (some m)) := by rw [O2.out.row.cell]; rfl
  have d0 : W2.cell? ⟨w.heap.size + 1, 0, none⟩ = some (.int .i64 r) := by rw [C2.out.cell]; rfl
  have d2 : W2.cell? ⟨w.heap.size + 1, 1, none⟩ = some (.int .i64 a) := by rw [C2.out.cell]; rfl
  have d3 : W2.cell? ⟨w.heap.size + 1, 2, none⟩ = some (.int .i64 b) := by rw [C2.out.cell]; rfl
  have f0 : w3.cell? ⟨w.heap.size + 1, 0, none⟩ = some (.int .i64 r) := (U3.out.cell (p := ⟨w.heap.size + 1, 0, none⟩) C2.out.lt hml).trans d0
  have f2 : w3.cell? ⟨w.heap.size + 1, 1, none⟩ = some (.int .i64 a) := (U3.out.cell (p := ⟨w.heap.size + 1, 1, none⟩) C2.out.lt hml).trans d2
  have f3 : w3.cell? ⟨w.heap.size + 1, 2, none⟩ = some (.int .i64 b) := (U3.out.cell (p := ⟨w.heap.size + 1, 2, none⟩) C2.out.lt hml).trans d3
  clear o hM ha hb hr hn hx e1 hB3 ht3 hu3 hml
  go_enter Tryz.func21, Tryz.ntmps21
  go_wp2_with fail
  refine Calls.mono hmade ?_
  rintro e w' ⟨rfl, rfl⟩
  clear hmade
  subst hW2
  go_wp2_with fail
  rename_i K1 hK1
  go_region
  have U13 : Hid (UpP (fun x => x = m ∨ Ph x) w' w3) := (Upd.toN (P := fun x => x = m ∨ Ph x) U2.out).trans (U3.out.mono (fun x hx => Or.inl hx))
  have G3 : Hid (Gr w3 h n (nam M) Ph) := O2.out.naming.mono U3.out (fun x hx e => O2.out.dhm (e ▸ hx))
  clear e3 d0 d1 d2 d3 c2 e2 O2 U2 C2 U3
  go_wp2_with fail
  refine Calls.mono (monSides_any r a b w3) ?_
  rintro e w4 ⟨rfl, hu4⟩
  have U4 : Hid (UpP (fun x => x = m ∨ Ph x) w' w4) := U13.out.trans hu4.toN
  have G4 : Hid (Gr w4 h n (nam M) Ph) := G3.out.upd hu4
  have B4 : Hid (MonB w4 m (n + 1) (monF (at1 M r (some (a, b))))) := MapB.upP B3.out hu4.toN (P := fun _ => False) (fun h => h)
  clear hu4 U13 G3 B3 f0 f2 f3
  have hlm : ¬ (l = m ∨ Ph l) := fun e => by
    rcases e with e | e
    · exact O.out.dml e.symm
    · exact O.out.dhl e
  have p1 : w4.cell? ⟨l, 3, none⟩ = some (.map (some h)) := by rw [(O.out.row.mono U4.out hlm).cell]; rfl
  have i0 := idx1_0 a b
  have i1 := idx1_1 a b
  have P4 := put_any G4.out (by have := HN.out; unfold maxLen; omega) HA.out.2.1 HA.out.1
  go_wp2_with fail
  refine wp_loop_rounds 3 ?_
  rw [rounds_succ]
  go_wp2_with fail
  refine Calls.mono P4 ?_
  rintro e w5 ⟨rfl, hG5, hu5⟩
  have U5 : Hid (UpP (fun x => x = m ∨ Ph x) w' w5) := U4.out.trans (hu5.mono (fun x hx => Or.inr hx))
  have G5 : Hid (Gr w5 h (n + 1) (at2 (nam M) a r true) (Nw Ph w' w5)) := hG5.weak (fun x hx => by
    rcases hx with hx | hx
    · exact Or.inl hx
    · exact Or.inr ⟨Nat.le_trans U4.out.size hx.1, hx.2⟩) (fun x hx => by
    rcases hx with hx | hx
    · exact Nat.lt_of_lt_of_le (O.out.naming.bnd x hx) U5.out.size
    · exact hx.2)
  have B5 : Hid (MonB w5 m (n + 1) (monF (at1 M r (some (a, b))))) := MapB.upP B4.out hu5 O.out.dhm
  clear hu5 hG5 P4 p1 U4 G4 B4
  have p1 : w5.cell? ⟨l, 3, none⟩ = some (.map (some h)) := by rw [(O.out.row.mono U5.out hlm).cell]; rfl
  have P5 := put_any G5.out (by have := HN.out; unfold maxLen; omega) HA.out.2.2.1 HA.out.1
  go_wp2_with fail
  rw [rounds_succ]
  go_wp2_with fail
  refine Calls.mono P5 ?_
  rintro e w6 ⟨rfl, hG6, hu6⟩
  have hm : m < w'.heap.size := MapB.lt O.out.mons
  have U6 : Hid (UpP (fun x => x = m ∨ Ph x) w' w6) := U5.out.thenP hu6 (fun x hx => by
    rcases hx with hx | hx
    · exact Or.inr (Or.inr hx)
    · exact Or.inl hx.1)
  have G6 : Hid (Gr w6 h (n + 2) (nam (at1 M r (some (a, b)))) (Nw Ph w' w6)) := by
    rw [← nam_put M r a b HA.out.2.2.2]
    refine hG6.weak (fun x hx => ?_) (fun x hx => ?_)
    · rcases hx with (hx | hx) | hx
      · exact Or.inl hx
      · exact Or.inr ⟨hx.1, Nat.lt_of_lt_of_le hx.2 hu6.size⟩
      · exact Or.inr ⟨Nat.le_trans U5.out.size hx.1, hx.2⟩
    · rcases hx with hx | hx
      · exact Nat.lt_of_lt_of_le (O.out.naming.bnd x hx) U6.out.size
      · exact hx.2
  have B6 : Hid (MonB w6 m (n + 2) (monF (at1 M r (some (a, b))))) := MapB.le (MapB.upP B5.out hu6 (fun hx => by
    rcases hx with hx | hx
    · exact O.out.dhm hx
    · omega)) (by omega)
  clear hu6 hG6 P5 p1 U5 G5 B5 hm
  go_wp2_with fail
  rw [rounds_succ]
  go_wp2_with fail
  go_ret
  refine ⟨rfl, O.out.turnM (by omega) U6.out B6.out G6.out (fun x hx => ?_) (fun r' a' b' h' => ?_), U6.out⟩
  · rcases hx with hx | hx
    · exact Or.inl hx
    · exact Or.inr hx.1
  · unfold at1 at h'
    by_cases hr : r' = r
    · rw [if_pos hr] at h'
      cases h'
      exact ⟨HA.out.2.1, HA.out.2.2.1⟩
    · rw [if_neg hr] at h'
      exact O.out.num r' a' b' h'

end Go.Proofs.YtofcniodobjopaaGreat
