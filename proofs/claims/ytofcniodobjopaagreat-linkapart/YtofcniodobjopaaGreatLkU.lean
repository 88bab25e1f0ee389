/- Links: forget, Unwatch. -/
import Derived.Test.YtofcniodobjopaaGreatLkW
namespace Go.Proofs.YtofcniodobjopaaGreat
open Go.RowKit Go.Maps

set_option maxHeartbeats 2000000 in
set_option maxRecDepth 10000 in
theorem forget_any {w : World} {l n g m h : Nat} {Pg Ph : Nat → Prop} {L : LF} {M : MF} (o : LkO w l n g m h Pg Ph L M) {r a b : Int} (hM : M r = some (a, b)) :
    Calls Tryz.prog 62 #[.pointer (some ⟨l, 0, none⟩), .agg #[.int .i64 r, .int .i64 a, .int .i64 b]] w fun e w' => e = .returned (.tuple #[]) ∧ LkO w' l n g m h Pg (Nw Ph w w') L (at1 M r none) ∧ UpP (fun x => x = m ∨ Ph x) w w' := by
  have O : Hid (LkO w l n g m h Pg Ph L M) := o
  have HA : Hid (I64 r ∧ I64 a ∧ I64 b ∧ M r = some (a, b)) := ⟨MapB.keys o.mons (by rw [(monF_some M r a b).2 hM]; simp), (o.num r a b hM).1, (o.num r a b hM).2, hM⟩
  obtain ⟨W2, hW2⟩ : ∃ W2, W2 = w.alloc (.cells #[.int .i64 r, .int .i64 a, .int .i64 b] 33) := ⟨_, rfl⟩
  have U2 : Hid (Upd [] w W2) := by rw [hW2]; exact (Upd.refl [] w).alloc _
  have C2 : Hid (Cl W2 w.heap.size #[.int .i64 r, .int .i64 a, .int .i64 b] 33) := by rw [hW2]; exact Cl.new _ _ _ _ rfl
  have O2 : Hid (LkO W2 l n g m h Pg Ph L M) := o.mono (Q := fun _ => False) U2.out.toN (fun _ _ h => h)
  obtain ⟨w3, e3, hB3, ht3⟩ := MonB.drop (w := W2.drew) (MapB.upP O2.out.mons ((UpP.refl (fun _ => False) _).drew) (fun h => h)) HA.out.1 0
  have hu3 := turned_upP ht3
  have U3 : Hid (UpP (fun x => x = m) W2 w3) := (UpP.refl (fun x => x = m) W2).drew.trans hu3
  have B3 : Hid (MonB w3 m n (monF (at1 M r none))) := by rw [← monF_drop]; exact hB3
  have hml : ¬ (w.heap.size = m) := by have : m < w.heap.size := MapB.lt o.mons; omega
  have d1 : W2.cell? ⟨l, 2, none⟩ = some (.map (some m)) := by rw [O2.out.row.cell]; rfl
  have d0 : W2.cell? ⟨w.heap.size, 0, none⟩ = some (.int .i64 r) := by rw [C2.out.cell]; rfl
  have d2 : W2.cell? ⟨w.heap.size, 1, none⟩ = some (.int .i64 a) := by rw [C2.out.cell]; rfl
  have d3 : W2.cell? ⟨w.heap.size, 2, none⟩ = some (.int .i64 b) := by rw [C2.out.cell]; rfl
  have f0 : w3.cell? ⟨w.heap.size, 0, none⟩ = some (.int .i64 r) := (U3.out.cell (p := ⟨w.heap.size, 0, none⟩) C2.out.lt hml).trans d0
  have f2 : w3.cell? ⟨w.heap.size, 1, none⟩ = some (.int .i64 a) := (U3.out.cell (p := ⟨w.heap.size, 1, none⟩) C2.out.lt hml).trans d2
  have f3 : w3.cell? ⟨w.heap.size, 2, none⟩ = some (.int .i64 b) := (U3.out.cell (p := ⟨w.heap.size, 2, none⟩) C2.out.lt hml).trans d3
  have C3 : Hid (Cl w3 w.heap.size #[.int .i64 r, .int .i64 a, .int .i64 b] 33) := C2.out.mono U3.out hml
  clear o hM hB3 ht3 hu3 hml
  go_enter Tryz.func62, Tryz.ntmps62
  subst hW2
  go_wp2_with fail
  rename_i K1 hK1
  go_region
  have U13 : Hid (UpP (fun x => x = m ∨ Ph x) w w3) := (Upd.toN (P := fun x => x = m ∨ Ph x) U2.out).trans (U3.out.mono (fun x hx => Or.inl hx))
  have G3 : Hid (Gr w3 h n (nam M) Ph) := O2.out.naming.mono U3.out (fun x hx e => O2.out.dhm (e ▸ hx))
  clear e3 d0 d1 d2 d3 O2 U2 C2 U3
  go_wp2_with fail
  refine Calls.mono (monSides_any r a b w3) ?_
  rintro e w4 ⟨rfl, hu4⟩
  have U4 : Hid (UpP (fun x => x = m ∨ Ph x) w w4) := U13.out.trans hu4.toN
  have G4 : Hid (Gr w4 h n (nam M) Ph) := G3.out.upd hu4
  have B4 : Hid (MonB w4 m n (monF (at1 M r none))) := MapB.upP B3.out hu4.toN (P := fun _ => False) (fun h => h)
  have C4 : Hid (Cl w4 w.heap.size #[.int .i64 r, .int .i64 a, .int .i64 b] 33) := C3.out.upd hu4 (by simp)
  clear hu4 U13 G3 B3 f0 f2 f3 C3
  have hlm : Hid (¬ (l = m ∨ Ph l)) := fun e => by
    rcases e with e | e
    · exact O.out.dml e.symm
    · exact O.out.dhl e
  have p1 : w4.cell? ⟨l, 3, none⟩ = some (.map (some h)) := by rw [(O.out.row.mono U4.out hlm.out).cell]; rfl
  have p2 : w4.cell? ⟨w.heap.size, 0, none⟩ = some (.int .i64 r) := by rw [C4.out.cell]; rfl
  have i0 := idx1_0 a b
  have i1 := idx1_1 a b
  have HC : Hid (∀ w5, UpP Ph w4 w5 → w5.cell? ⟨l, 3, none⟩ = some (.map (some h)) ∧ w5.cell? ⟨w.heap.size, 0, none⟩ = some (.int .i64 r)) := fun w5 hu =>
    ⟨(hu.cell (p := ⟨l, 3, none⟩) (Nat.lt_of_lt_of_le O.out.row.lt U4.out.size) O.out.dhl).trans p1, (hu.cell (p := ⟨w.heap.size, 0, none⟩) C4.out.lt (fun hx => absurd (O.out.naming.bnd _ hx) (Nat.lt_irrefl _))).trans p2⟩
  have HP4 : Hid (∀ W, Upd [] w4 W → Calls Tryz.prog 64 #[.map (some h), .int .i64 a, .int .i64 r] W fun e w' => e = .returned (.tuple #[]) ∧ Gr w' h n (at2 (nam M) a r false) Ph ∧ UpP Ph W w') := fun W hu => take_any (G4.out.upd hu) HA.out.2.1 HA.out.1
  go_wp2_with fail
  refine wp_loop_rounds 3 ?_
  rw [rounds_succ]
  go_wp2_with fail
  rename_i K2 hK2
  go_region_held3 (fun w' => w'.cell? ⟨l, 3, none⟩ = some (.map (some h)) ∧ w'.cell? ⟨w.heap.size, 0, none⟩ = some (.int .i64 r))
    (go_keep)
    (first
      | (go_at_call 64; go_loud (refine Calls.mono (HP4.out _ (by repeat (first | exact Upd.refl _ _ | refine Upd.drew ?_))) ?_); rintro e w5 ⟨rfl, hG5, hU5⟩; have hU5' : UpP Ph w4 w5 := (Upd.toN (by repeat (first | exact Upd.refl _ _ | refine Upd.drew ?_))).trans hU5; obtain ⟨v1, v2⟩ := HC.out w5 hU5'))
  have U5 : Hid (UpP (fun x => x = m ∨ Ph x) w w5) := U4.out.trans (hU5'.mono (fun x hx => Or.inr hx))
  have G5 : Hid (Gr w5 h n (at2 (nam M) a r false) Ph) := hG5
  have B5 : Hid (MonB w5 m n (monF (at1 M r none))) := MapB.upP B4.out hU5' O.out.dhm
  have C5 : Hid (Cl w5 w.heap.size #[.int .i64 r, .int .i64 a, .int .i64 b] 33) := C4.out.mono hU5' (fun hx => absurd (O.out.naming.bnd _ hx) (Nat.lt_irrefl _))
  clear hU5 hU5' hG5 p1 p2 HC HP4 U4 G4 B4 C4 v1 v2
  have p1 : w5.cell? ⟨l, 3, none⟩ = some (.map (some h)) := by rw [(O.out.row.mono U5.out hlm.out).cell]; rfl
  have p2 : w5.cell? ⟨w.heap.size, 0, none⟩ = some (.int .i64 r) := by rw [C5.out.cell]; rfl
  have HC : Hid (∀ w6, UpP Ph w5 w6 → w6.cell? ⟨l, 3, none⟩ = some (.map (some h)) ∧ w6.cell? ⟨w.heap.size, 0, none⟩ = some (.int .i64 r)) := fun w6 hu =>
    ⟨(hu.cell (p := ⟨l, 3, none⟩) (Nat.lt_of_lt_of_le O.out.row.lt U5.out.size) O.out.dhl).trans p1, (hu.cell (p := ⟨w.heap.size, 0, none⟩) C5.out.lt (fun hx => absurd (O.out.naming.bnd _ hx) (Nat.lt_irrefl _))).trans p2⟩
  have HP5 : Hid (∀ W, Upd [] w5 W → Calls Tryz.prog 64 #[.map (some h), .int .i64 b, .int .i64 r] W fun e w' => e = .returned (.tuple #[]) ∧ Gr w' h n (nam (at1 M r none)) Ph ∧ UpP Ph W w') := fun W hu => by
    rw [← nam_drop M r a b HA.out.2.2.2]
    exact take_any (G5.out.upd hu) HA.out.2.2.1 HA.out.1
  go_wp2_with fail
  rw [rounds_succ]
  go_wp2_with fail
  rename_i K3 hK3
  go_region_held3 (fun w' => w'.cell? ⟨l, 3, none⟩ = some (.map (some h)) ∧ w'.cell? ⟨w.heap.size, 0, none⟩ = some (.int .i64 r))
    (go_keep)
    (first
      | (go_at_call 64; go_loud (refine Calls.mono (HP5.out _ (by repeat (first | exact Upd.refl _ _ | refine Upd.drew ?_))) ?_); rintro e w6 ⟨rfl, hG6, hU6⟩; have hU6' : UpP Ph w5 w6 := (Upd.toN (by repeat (first | exact Upd.refl _ _ | refine Upd.drew ?_))).trans hU6; obtain ⟨v1, v2⟩ := HC.out w6 hU6'))
  have U6 : Hid (UpP (fun x => x = m ∨ Ph x) w w6) := U5.out.trans (hU6'.mono (fun x hx => Or.inr hx))
  have G6 : Hid (Gr w6 h n (nam (at1 M r none)) (Nw Ph w w6)) := hG6.weak (fun x hx => Or.inl hx) (fun x hx => by
    rcases hx with hx | hx
    · exact hG6.bnd x hx
    · exact hx.2)
  have B6 : Hid (MonB w6 m n (monF (at1 M r none))) := MapB.upP B5.out hU6' O.out.dhm
  clear hU6 hU6' hG6 p1 p2 HC HP5 U5 G5 B5 C5 v1 v2
  go_wp2_with fail
  rw [rounds_succ]
  go_wp2_with fail
  go_end0
  refine ⟨rfl, O.out.turnM (Nat.le_refl _) U6.out B6.out G6.out (fun x hx => ?_) (fun r' a' b' h' => ?_), U6.out⟩
  · rcases hx with hx | hx
    · exact Or.inl hx
    · exact Or.inr hx.1
  · unfold at1 at h'
    by_cases hr : r' = r
    · rw [if_pos hr] at h'; cases h'
    · rw [if_neg hr] at h'
      exact O.out.num r' a' b' h'

end Go.Proofs.YtofcniodobjopaaGreat
