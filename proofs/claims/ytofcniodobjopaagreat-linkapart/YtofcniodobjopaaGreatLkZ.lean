/- Links: Watch and Unwatch, whatever there is; Monitors. -/
import Derived.Test.YtofcniodobjopaaGreatLkU
namespace Go.Proofs.YtofcniodobjopaaGreat
open Go.RowKit Go.Maps

theorem Lk.of_turnM {w w' : World} {l n : Nat} {P Pg Ph : Nat → Prop} {g m h : Nat} {L : LF} {M : MF} (hu : UpP (fun x => x = m ∨ Ph x) w w') (hP : ∀ x, P x ↔ (Pg x ∨ Ph x ∨ x = m ∨ x = l)) (o : LkO w' l n g m h Pg (Nw Ph w w') L M) : Lk w' l n (Nw P w w') L M ∧ UpP P w w' := by
  refine ⟨⟨g, m, h, _, _, o, fun x => ?_⟩, hu.mono (fun x hx => (hP x).2 (by rcases hx with hx | hx; exact Or.inr (Or.inr (Or.inl hx)); exact Or.inr (Or.inl hx)))⟩
  unfold Nw
  rw [hP]
  constructor
  · rintro ((h1 | h1 | h1 | h1) | h1)
    · exact Or.inl h1
    · exact Or.inr (Or.inl (Or.inl h1))
    · exact Or.inr (Or.inr (Or.inl h1))
    · exact Or.inr (Or.inr (Or.inr h1))
    · exact Or.inr (Or.inl (Or.inr h1))
  · rintro (h1 | (h1 | h1) | h1 | h1)
    · exact Or.inl (Or.inl h1)
    · exact Or.inl (Or.inr (Or.inl h1))
    · exact Or.inr h1
    · exact Or.inl (Or.inr (Or.inr (Or.inl h1)))
    · exact Or.inl (Or.inr (Or.inr (Or.inr h1)))

theorem LkO.weakH {w0 w w' : World} {l n n' g m h : Nat} {Pg Ph : Nat → Prop} {L L' : LF} {M M' : MF} (o0 : LkO w0 l n g m h Pg Ph L M) (hs : w0.heap.size ≤ w.heap.size) (o : LkO w' l n' g m h Pg (Nw Ph w w') L' M') : LkO w' l n' g m h Pg (Nw Ph w0 w') L' M' := by
  have hm : m < w0.heap.size := MapB.lt o0.mons
  have hl := o0.row.lt
  refine ⟨o.row, o.linked, o.mons, o.naming.weak (fun x hx => ?_) (fun x hx => ?_), fun x hx hh => ?_, o.dgm, fun hx => ?_, o.dgl, fun hx => ?_, o.dml, o.sym, o.num⟩
  · rcases hx with hx | hx
    · exact Or.inl hx
    · exact Or.inr ⟨Nat.le_trans hs hx.1, hx.2⟩
  · rcases hx with hx | hx
    · exact o.naming.bnd x (Or.inl hx)
    · exact hx.2
  · rcases hh with hh | hh
    · exact o.dgh x hx (Or.inl hh)
    · have := o0.linked.bnd x hx; omega
  · rcases hx with hx | hx
    · exact o.dhm (Or.inl hx)
    · omega
  · rcases hx with hx | hx
    · exact o.dhl (Or.inl hx)
    · omega

/-- What Watch does. -/
def watchM (M : MF) (r a b : Int) : MF := if M r = none then at1 M r (some (a, b)) else M
/-- What Unwatch does. -/
def unwatchB (M : MF) (r a : Int) : Bool := match M r with | some x => x.1 == a | none => false
def unwatchM (M : MF) (r a : Int) : MF := if unwatchB M r a then at1 M r none else M

theorem watch_any {w : World} {l n : Nat} {P : Nat → Prop} {L : LF} {M : MF} (o : Lk w l n P L M) (hn : n + 3 ≤ 1073741824) {r a b : Int} (hr : I64 r) (ha : I64 a) (hb : I64 b) :
    Calls Tryz.prog 21 #[.pointer (some ⟨l, 0, none⟩), .int .i64 r, .int .i64 a, .int .i64 b] w fun e w' => e = .returned (.bool (M r).isNone) ∧ (∃ P', Lk w' l (n + 2) P' L (watchM M r a b) ∧ (∀ x, P' x → P x ∨ (w.heap.size ≤ x ∧ x < w'.heap.size)) ∧ UpP P w w') := by
  cases hM : M r with
  | some x =>
    refine (watch_old o hr a b (by rw [hM]; simp)).mono ?_
    rintro e w' ⟨rfl, hu⟩
    refine ⟨rfl, ?_⟩
    unfold watchM
    rw [if_neg (by rw [hM]; simp)]
    exact (o.le (Nat.le_add_right _ _)).grow hu
  | none =>
    obtain ⟨g, m, h, Pg, Ph, o, hP⟩ := o
    refine (watch_new o hn hr ha hb hM).mono ?_
    rintro e w' ⟨rfl, ho, hu⟩
    refine ⟨rfl, Nw P w w', ?_⟩
    unfold watchM
    rw [if_pos hM]
    obtain ⟨h1, h2⟩ := Lk.of_turnM hu hP ho
    exact ⟨h1, fun x hx => hx, h2⟩

set_option maxRecDepth 10000 in
theorem unwatch_none {w : World} {l n : Nat} {P : Nat → Prop} {L : LF} {M : MF} (o : Lk w l n P L M) {r : Int} (hr : I64 r) (a : Int) (hM : M r = none) :
    Calls Tryz.prog 28 #[.pointer (some ⟨l, 0, none⟩), .int .i64 r, .int .i64 a] w fun e w' => e = .returned (.bool false) ∧ Upd [] w w' := by
  have hmade := o.made
  obtain ⟨g, m, h, Pg, Ph, o, hP⟩ := o
  have c1 : w.cell? ⟨l, 2, none⟩ = some (.map (some m)) := by rw [o.row.cell]; rfl
  have e1 := MonB.look2 o.mons hr
  have hx : monF M r = none := by unfold monF; rw [hM]; rfl
  rw [hx] at e1
  have e2 : (Instr.lookup 47 (.map (some m)) (.int .i64 r) true).run Tryz.prog w = .ok (.tuple #[.agg #[.int .i64 0, .int .i64 0, .int .i64 0], .bool false]) w := e1
  clear o hP hM hx e1
  go_enter Tryz.func28, Tryz.ntmps28
  go_wp2_with fail
  refine Calls.mono hmade ?_
  rintro e w' ⟨rfl, rfl⟩
  clear hmade
  go_wp2_with fail
  go_ret
  exact ⟨rfl, (Upd.refl [] _).alloc _⟩
set_option maxRecDepth 10000 in
theorem unwatch_other {w : World} {l n : Nat} {P : Nat → Prop} {L : LF} {M : MF} (o : Lk w l n P L M) {r : Int} (hr : I64 r) (a x y : Int) (hM : M r = some (x, y)) (hxa : (x == a) = false) :
    Calls Tryz.prog 28 #[.pointer (some ⟨l, 0, none⟩), .int .i64 r, .int .i64 a] w fun e w' => e = .returned (.bool false) ∧ Upd [] w w' := by
  have hmade := o.made
  obtain ⟨g, m, h, Pg, Ph, o, hP⟩ := o
  have c1 : w.cell? ⟨l, 2, none⟩ = some (.map (some m)) := by rw [o.row.cell]; rfl
  have e1 := MonB.look2 o.mons hr
  rw [(monF_some M r x y).2 hM] at e1
  have e2 : (Instr.lookup 47 (.map (some m)) (.int .i64 r) true).run Tryz.prog w = .ok (.tuple #[.agg #[.int .i64 r, .int .i64 x, .int .i64 y], .bool true]) w := e1
  have hne : (x != a) = true := by unfold bne; rw [hxa]; rfl
  clear o hP hM e1
  go_enter Tryz.func28, Tryz.ntmps28
  go_wp2_with fail
  refine Calls.mono hmade ?_
  rintro e w' ⟨rfl, rfl⟩
  clear hmade
  go_wp2_with fail
  go_ret
  exact ⟨rfl, (Upd.refl [] _).alloc _⟩
set_option maxRecDepth 10000 in
theorem unwatch_yes {w : World} {l n g m h : Nat} {Pg Ph : Nat → Prop} {L : LF} {M : MF} (o : LkO w l n g m h Pg Ph L M) {r : Int} (hr : I64 r) (x y : Int) (hM : M r = some (x, y)) :
    Calls Tryz.prog 28 #[.pointer (some ⟨l, 0, none⟩), .int .i64 r, .int .i64 x] w fun e w' => e = .returned (.bool true) ∧ LkO w' l n g m h Pg (Nw Ph w w') L (at1 M r none) ∧ UpP (fun x => x = m ∨ Ph x) w w' := by
  have hmade := made_ok w l _ o.row rfl
  have c1 : w.cell? ⟨l, 2, none⟩ = some (.map (some m)) := by rw [o.row.cell]; rfl
  have e1 := MonB.look2 o.mons hr
  rw [(monF_some M r x y).2 hM] at e1
  have e2 : (Instr.lookup 47 (.map (some m)) (.int .i64 r) true).run Tryz.prog w = .ok (.tuple #[.agg #[.int .i64 r, .int .i64 x, .int .i64 y], .bool true]) w := e1
  have hne : (x != x) = false := by simp
  have U0 : Hid (Upd [] w (w.alloc (.cells #[.int .i64 r, .int .i64 x, .int .i64 y] 33))) := (Upd.refl [] w).alloc _
  have HF : Hid (Calls Tryz.prog 62 #[.pointer (some ⟨l, 0, none⟩), .agg #[.int .i64 r, .int .i64 x, .int .i64 y]] (w.alloc (.cells #[.int .i64 r, .int .i64 x, .int .i64 y] 33)) fun e w' => e = .returned (.tuple #[]) ∧ LkO w' l n g m h Pg (Nw Ph (w.alloc (.cells #[.int .i64 r, .int .i64 x, .int .i64 y] 33)) w') L (at1 M r none) ∧ UpP (fun x => x = m ∨ Ph x) (w.alloc (.cells #[.int .i64 r, .int .i64 x, .int .i64 y] 33)) w') := forget_any (o.mono (Q := fun _ => False) U0.out.toN (fun _ _ h => h)) hM
  have hsz : Hid (w.heap.size ≤ (w.alloc (.cells #[.int .i64 r, .int .i64 x, .int .i64 y] 33)).heap.size) := U0.out.size
  have O : Hid (LkO w l n g m h Pg Ph L M) := o
  clear o hM e1
  go_enter Tryz.func28, Tryz.ntmps28
  go_wp2_with fail
  refine Calls.mono hmade ?_
  rintro e w' ⟨rfl, rfl⟩
  clear hmade
  go_wp2_with fail
  refine Calls.mono HF.out ?_
  rintro e w3 ⟨rfl, ho, hu⟩
  have HO : Hid (LkO w3 l n g m h Pg (Nw Ph w' w3) L (at1 M r none)) := O.out.weakH hsz.out ho
  have HU : Hid (UpP (fun x => x = m ∨ Ph x) w' w3) := U0.out.toN.trans hu
  clear ho hu
  go_wp2_with fail
  go_ret
  exact ⟨rfl, HO.out, HU.out⟩
theorem unwatch_any {w : World} {l n : Nat} {P : Nat → Prop} {L : LF} {M : MF} (o : Lk w l n P L M) {r a : Int} (hr : I64 r) :
    Calls Tryz.prog 28 #[.pointer (some ⟨l, 0, none⟩), .int .i64 r, .int .i64 a] w fun e w' => e = .returned (.bool (unwatchB M r a)) ∧ (∃ P', Lk w' l n P' L (unwatchM M r a) ∧ (∀ x, P' x → P x ∨ (w.heap.size ≤ x ∧ x < w'.heap.size)) ∧ UpP P w w') := by
  unfold unwatchM
  cases hM : M r with
  | none =>
    have e1 : unwatchB M r a = false := by unfold unwatchB; rw [hM]
    rw [e1]
    refine (unwatch_none o hr a hM).mono ?_
    rintro e w' ⟨rfl, hu⟩
    exact ⟨rfl, o.grow hu⟩
  | some x =>
    obtain ⟨x, y⟩ := x
    have e1 : unwatchB M r a = (x == a) := by unfold unwatchB; rw [hM]
    rw [e1]
    cases hxa : x == a with
    | false =>
      refine (unwatch_other o hr a x y hM hxa).mono ?_
      rintro e w' ⟨rfl, hu⟩
      exact ⟨rfl, o.grow hu⟩
    | true =>
      have hxa' : x = a := by simpa using hxa
      subst hxa'
      obtain ⟨g, m, h, Pg, Ph, o, hP⟩ := o
      refine (unwatch_yes o hr x y hM).mono ?_
      rintro e w' ⟨rfl, ho, hu⟩
      obtain ⟨h1, h2⟩ := Lk.of_turnM hu hP ho
      exact ⟨rfl, Nw P w w', h1, fun x hx => hx, h2⟩

/-- The monitors of a row are those of M, by rising Refs. -/
def MonsOf (M : MF) (ms : List Mon) : Prop := ms.Pairwise (fun a b => a.1 < b.1) ∧ ∀ r a b, (r, a, b) ∈ ms ↔ M r = some (a, b)
set_option maxRecDepth 10000 in
theorem monitors_any {w : World} {l n : Nat} {P : Nat → Prop} {L : LF} {M : MF} (o : Lk w l n P L M) (hn : n ≤ 1073741824) :
    Calls Tryz.prog 6 #[.pointer (some ⟨l, 0, none⟩)] w fun e w' => ∃ v ms, e = .returned v ∧ MR w' w.heap.size v ms ∧ MonsOf M ms ∧ Upd [] w w' := by
  have hmade := o.made
  obtain ⟨g, m, h, Pg, Ph, o, hP⟩ := o
  have c1 : w.cell? ⟨l, 2, none⟩ = some (.map (some m)) := by rw [o.row.cell]; rfl
  have U0 : Hid (Upd [] w (w.alloc (.cells #[.map (some m)] 47))) := (Upd.refl [] w).alloc _
  have C0 : Hid (Cl (w.alloc (.cells #[.map (some m)] 47)) w.heap.size #[.map (some m)] 47) := Cl.new _ _ _ _ rfl
  have HS : Hid (Calls Tryz.prog 14 #[.func (.func 36) #[] #[.pointer (some ⟨w.heap.size, 0, none⟩)], .func (.func 16) #[] #[]] (w.alloc (.cells #[.map (some m)] 47)) fun e w' => ∃ v ms, e = .returned v ∧ MR w' (w.alloc (.cells #[.map (some m)] 47)).heap.size v ms ∧ ms.Pairwise (fun a b => a.1 < b.1) ∧ (∀ m', m' ∈ ms ↔ monF M m'.1 = some m') ∧ Upd [] (w.alloc (.cells #[.map (some m)] 47)) w') :=
    sortedFunc_mon _ w.heap.size m n (monF M) (monF_ref M) C0.out.lt (by rw [C0.out.cell]; rfl) (MapB.upP o.mons U0.out.toN (P := fun _ => False) (fun h => h)) hn
  clear o hP hn
  go_enter Tryz.func6, Tryz.ntmps6
  go_wp2_with fail
  refine Calls.mono hmade ?_
  rintro e w' ⟨rfl, rfl⟩
  clear hmade
  go_wp2_with fail
  refine Calls.mono (values_call _ _) ?_
  rintro e w2 ⟨rfl, rfl⟩
  go_wp2_with fail
  refine Calls.mono HS.out ?_
  rintro e w3 ⟨v, ms, rfl, h1, h2, h3, hu⟩
  go_wp2
  go_ret
  refine ⟨v, ms, rfl, h1.base (by simp), ⟨h2, fun r a b => ?_⟩, U0.out.trans hu⟩
  rw [h3, monF_some]

end Go.Proofs.YtofcniodobjopaaGreat
