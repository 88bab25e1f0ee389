/- Links: the object; made, New. -/
import Derived.Test.YtofcniodobjopaaGreatLkF
namespace Go.Proofs.YtofcniodobjopaaGreat
open Go.RowKit Go.Maps

abbrev LF := Int → Int → Bool
abbrev MF := Int → Option (Int × Int)
/-- Whether the monitor of Ref r names process p. -/
def nam (M : MF) (p r : Int) : Bool := match M r with
  | some (a, b) => a == p || b == p
  | none => false
def monF (M : MF) : Int → Option Mon := fun r => (M r).map fun x => (r, x.1, x.2)
theorem monF_ref (M : MF) : ∀ r m, monF M r = some m → m.1 = r := by
  intro r m h
  unfold monF at h
  cases hM : M r with
  | none => rw [hM] at h; cases h
  | some x => rw [hM] at h; cases h; rfl
theorem monF_some (M : MF) (r a b : Int) : monF M r = some (r, a, b) ↔ M r = some (a, b) := by
  unfold monF
  cases M r with
  | none => simp
  | some x => obtain ⟨x1, x2⟩ := x; simp
theorem monF_put (M : MF) (r a b : Int) : at1 (monF M) r (some (r, a, b)) = monF (at1 M r (some (a, b))) := by
  funext x
  unfold monF at1
  by_cases hx : x = r <;> simp [hx]
theorem monF_drop (M : MF) (r : Int) : at1 (monF M) r none = monF (at1 M r none) := by
  funext x
  unfold monF at1
  by_cases hx : x = r <;> simp [hx]

structure LkO (w : World) (l n : Nat) (g m h : Nat) (Pg Ph : Nat → Prop) (L : LF) (M : MF) : Prop where
  row : Cl w l #[.pointer (some ⟨l, 0, none⟩), .map (some g), .map (some m), .map (some h)] 49
  linked : Gr w g n L Pg
  mons : MonB w m n (monF M)
  naming : Gr w h n (nam M) Ph
  dgh : ∀ x, Pg x → ¬ Ph x
  dgm : ¬ Pg m
  dhm : ¬ Ph m
  dgl : ¬ Pg l
  dhl : ¬ Ph l
  dml : m ≠ l
  sym : ∀ a b, L a b = true → L b a = true ∧ a ≠ b
  num : ∀ r a b, M r = some (a, b) → I64 a ∧ I64 b
/-- At l lie Links by which L are linked, and M watch; all their blocks: P. -/
def Lk (w : World) (l n : Nat) (P : Nat → Prop) (L : LF) (M : MF) : Prop :=
  ∃ g m h Pg Ph, LkO w l n g m h Pg Ph L M ∧ (∀ x, P x ↔ (Pg x ∨ Ph x ∨ x = m ∨ x = l))

theorem LkO.mono {w w' : World} {l n g m h : Nat} {Pg Ph : Nat → Prop} {L : LF} {M : MF} {Q : Nat → Prop} (o : LkO w l n g m h Pg Ph L M) (hu : UpP Q w w') (hQ : ∀ x, (Pg x ∨ Ph x ∨ x = m ∨ x = l) → ¬ Q x) : LkO w' l n g m h Pg Ph L M :=
  ⟨o.row.mono hu (hQ l (by simp)), o.linked.mono hu (fun x hx => hQ x (Or.inl hx)), MapB.upP o.mons hu (hQ m (by simp)), o.naming.mono hu (fun x hx => hQ x (Or.inr (Or.inl hx))), o.dgh, o.dgm, o.dhm, o.dgl, o.dhl, o.dml, o.sym, o.num⟩
theorem Lk.mono {w w' : World} {l n : Nat} {P Q : Nat → Prop} {L : LF} {M : MF} (o : Lk w l n P L M) (hu : UpP Q w w') (hQ : ∀ x, P x → ¬ Q x) : Lk w' l n P L M := by
  obtain ⟨g, m, h, Pg, Ph, o, hP⟩ := o
  exact ⟨g, m, h, Pg, Ph, o.mono hu (fun x hx => hQ x ((hP x).2 hx)), hP⟩
theorem Lk.upd {w w' : World} {l n : Nat} {P : Nat → Prop} {L : LF} {M : MF} (o : Lk w l n P L M) (hu : Upd [] w w') : Lk w' l n P L M := o.mono (Q := fun _ => False) hu.toN (fun _ _ h => h)
theorem LkO.le {w : World} {l n n' g m h : Nat} {Pg Ph : Nat → Prop} {L : LF} {M : MF} (o : LkO w l n g m h Pg Ph L M) (hn : n ≤ n') : LkO w l n' g m h Pg Ph L M :=
  ⟨o.row, o.linked.le hn, MapB.le o.mons hn, o.naming.le hn, o.dgh, o.dgm, o.dhm, o.dgl, o.dhl, o.dml, o.sym, o.num⟩
theorem Lk.le {w : World} {l n n' : Nat} {P : Nat → Prop} {L : LF} {M : MF} (o : Lk w l n P L M) (hn : n ≤ n') : Lk w l n' P L M := by
  obtain ⟨g, m, h, Pg, Ph, o, hP⟩ := o
  exact ⟨g, m, h, Pg, Ph, o.le hn, hP⟩
theorem LkO.bnd {w : World} {l n g m h : Nat} {Pg Ph : Nat → Prop} {L : LF} {M : MF} (o : LkO w l n g m h Pg Ph L M) : ∀ x, (Pg x ∨ Ph x ∨ x = m ∨ x = l) → x < w.heap.size := by
  rintro x (hx | hx | rfl | rfl)
  · exact o.linked.bnd x hx
  · exact o.naming.bnd x hx
  · exact MapB.lt o.mons
  · exact o.row.lt
theorem Lk.bnd {w : World} {l n : Nat} {P : Nat → Prop} {L : LF} {M : MF} (o : Lk w l n P L M) : ∀ x, P x → x < w.heap.size := by
  obtain ⟨g, m, h, Pg, Ph, o, hP⟩ := o
  exact fun x hx => o.bnd x ((hP x).1 hx)
theorem Lk.sym {w : World} {l n : Nat} {P : Nat → Prop} {L : LF} {M : MF} (o : Lk w l n P L M) : ∀ a b, L a b = true → L b a = true ∧ a ≠ b := by
  obtain ⟨g, m, h, Pg, Ph, o, hP⟩ := o
  exact o.sym
theorem Lk.keys {w : World} {l n : Nat} {P : Nat → Prop} {L : LF} {M : MF} (o : Lk w l n P L M) {a b : Int} (hab : L a b = true) : I64 a ∧ I64 b := by
  obtain ⟨g, m, h, Pg, Ph, o, hP⟩ := o
  exact o.linked.keys hab
theorem Lk.num {w : World} {l n : Nat} {P : Nat → Prop} {L : LF} {M : MF} (o : Lk w l n P L M) {r a b : Int} (h : M r = some (a, b)) : I64 r ∧ I64 a ∧ I64 b := by
  obtain ⟨g, m, h', Pg, Ph, o, hP⟩ := o
  exact ⟨MapB.keys o.mons (by rw [(monF_some M r a b).2 h]; simp), o.num r a b h⟩

theorem und_plinks : Tryz.prog.underlying 23 = some (.pointer 49) := by kernel_rfl
theorem ptr_sameIn (w : World) (b o d : Nat) : (Op.equalIn (d + 1) 23 (.pointer (some ⟨b, o, none⟩)) (.pointer (some ⟨b, o, none⟩))).run Tryz.prog w = .ok true w := by
  simp [Op.equalIn, run_underlying und_plinks, sameAddr]
theorem ptr_nilIn (w : World) (b o d : Nat) : (Op.equalIn (d + 1) 23 (.pointer none) (.pointer (some ⟨b, o, none⟩))).run Tryz.prog w = .ok false w := by
  simp [Op.equalIn, run_underlying und_plinks]
theorem ptr_same (w : World) (b o : Nat) : (binOp .eql 23 (.pointer (some ⟨b, o, none⟩)) (.pointer (some ⟨b, o, none⟩))).run Tryz.prog w = .ok (.bool true) w := by
  simp only [binOp]
  simp [Op.equal, Op.maxDepth, ptr_sameIn w b o 9999]
theorem ptr_nil (w : World) (b o : Nat) : (binOp .eql 23 (.pointer none) (.pointer (some ⟨b, o, none⟩))).run Tryz.prog w = .ok (.bool false) w := by
  simp only [binOp]
  simp [Op.equal, Op.maxDepth, ptr_nilIn w b o 9999]

set_option maxRecDepth 10000 in
theorem made_ok (w : World) (b : Nat) (cs : Array Value) (h : Cl w b cs 49) (h0 : cs[0]? = some (.pointer (some ⟨b, 0, none⟩))) : Calls Tryz.prog 12 #[.pointer (some ⟨b, 0, none⟩)] w fun e w' => e = .returned (.bool true) ∧ w' = w := by
  have e0 : w.cell? ⟨b, 0, none⟩ = some (.pointer (some ⟨b, 0, none⟩)) := by rw [h.cell]; exact h0
  have e1 := ptr_same w b 0
  clear h h0
  go_enter Tryz.func12, Tryz.ntmps12
  go_wp2
  go_ret
  exact ⟨rfl, rfl⟩
theorem made_nil (w : World) : Calls Tryz.prog 12 #[.pointer none] w fun e w' => e = .returned (.bool false) ∧ w' = w := by
  go_enter Tryz.func12, Tryz.ntmps12
  go_wp2
  go_ret
  exact ⟨rfl, rfl⟩
theorem made_zero (w : World) (b : Nat) (e0 : w.cell? ⟨b, 0, none⟩ = some (.pointer none)) : Calls Tryz.prog 12 #[.pointer (some ⟨b, 0, none⟩)] w fun e w' => e = .returned (.bool false) ∧ w' = w := by
  have e1 := ptr_nil w b 0
  go_enter Tryz.func12, Tryz.ntmps12
  go_wp2
  go_ret
  exact ⟨rfl, rfl⟩
theorem Lk.made {w : World} {l n : Nat} {P : Nat → Prop} {L : LF} {M : MF} (o : Lk w l n P L M) : Calls Tryz.prog 12 #[.pointer (some ⟨l, 0, none⟩)] w fun e w' => e = .returned (.bool true) ∧ w' = w := by
  obtain ⟨g, m, h, Pg, Ph, o, hP⟩ := o
  exact made_ok w l _ o.row rfl

set_option maxRecDepth 10000 in
theorem new_any (w : World) : Calls Tryz.prog 10 #[] w fun e w' => ∃ l, e = .returned (.pointer (some ⟨l, 0, none⟩)) ∧ Lk w' l 0 (fun x => w.heap.size ≤ x ∧ x < w'.heap.size) (fun _ _ => false) (fun _ => none) ∧ Upd [] w w' := by
  have hmm := @run_makeMap Tryz.prog
  go_enter Tryz.func10, Tryz.ntmps10
  go_wp2
  go_ret
  obtain ⟨k, hk⟩ : ∃ k, k = w.heap.size := ⟨_, rfl⟩
  obtain ⟨w1, hw1⟩ : ∃ w1, w.alloc (.map #[] 0) = w1 := ⟨_, rfl⟩
  obtain ⟨w2, hw2⟩ : ∃ w2, w1.alloc (.map #[] 0) = w2 := ⟨_, rfl⟩
  obtain ⟨w3, hw3⟩ : ∃ w3, w2.alloc (.map #[] 0) = w3 := ⟨_, rfl⟩
  have s1 : w1.heap.size = k + 1 := by rw [← hw1, hk]; simp
  have s2 : w2.heap.size = k + 2 := by rw [← hw2]; simp [s1]
  have s3 : w3.heap.size = k + 3 := by rw [← hw3]; simp [s2]
  rw [hw1, hw2, hw3, ← hk]
  obtain ⟨w4, hw4⟩ : ∃ w4, w3.alloc (.cells #[.pointer (some ⟨k + 1 + 1 + 1, 0, none⟩), .map (some k), .map (some (k + 1)), .map (some (k + 1 + 1))] 49) = w4 := ⟨_, rfl⟩
  have s4 : w4.heap.size = k + 4 := by rw [← hw4]; simp [s3]
  rw [hw4]
  have G1 : Gr w1 k 0 (fun _ _ => false) (fun x => x = k) := by rw [← hw1]; exact Gr.new w k hk
  have M2 : MonB w2 (k + 1) 0 (monF fun _ => none) := by rw [← hw2]; exact MapB.new w1 (k + 1) s1.symm
  have G3 : Gr w3 (k + 2) 0 (fun _ _ => false) (fun x => x = k + 2) := by rw [← hw3]; exact Gr.new w2 (k + 2) s2.symm
  have R4 : Cl w4 (k + 3) #[.pointer (some ⟨k + 3, 0, none⟩), .map (some k), .map (some (k + 1)), .map (some (k + 2))] 49 := by rw [← hw4]; exact Cl.new _ _ _ _ s3.symm
  have u12 : Upd [] w1 w2 := by rw [← hw2]; exact (Upd.refl [] w1).alloc _
  have u23 : Upd [] w2 w3 := by rw [← hw3]; exact (Upd.refl [] w2).alloc _
  have u34 : Upd [] w3 w4 := by rw [← hw4]; exact (Upd.refl [] w3).alloc _
  have u01 : Upd [] w w1 := by rw [← hw1]; exact (Upd.refl [] w).alloc _
  refine ⟨k + 3, rfl, ⟨k, k + 1, k + 2, fun x => x = k, fun x => x = k + 2, ⟨R4, G1.upd ((u12.trans u23).trans u34), MapB.upP M2 (P := fun _ => False) ((u23.trans u34).toN) (fun h => h), ?_, fun x hx => by omega, by omega, by omega, by omega, by omega, by omega, fun a b h => (nomatch h), fun r a b h => (nomatch h)⟩, fun x => ?_⟩, (((u01.trans u12).trans u23).trans u34)⟩
  · exact G3.upd u34
  · rw [s4]; omega

end Go.Proofs.YtofcniodobjopaaGreat
