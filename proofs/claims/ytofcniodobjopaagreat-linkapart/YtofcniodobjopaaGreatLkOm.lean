/- LinkOnce: what is live, as mathematics; Links of one's own with a row beside them. -/
import Derived.Test.YtofcniodobjopaaGreatLkBa
import Derived.Maps.AppendAt
import Derived.Laws.StructEq
namespace Go.Proofs.YtofcniodobjopaaGreat
open Go.RowKit Go.Maps

theorem nodup_le {α : Type} [DecidableEq α] : ∀ (A B : List α), A.Nodup → (∀ x, x ∈ A → x ∈ B) → A.length ≤ B.length
  | [], _, _, _ => Nat.zero_le _
  | a :: A, B, hA, h => by
    have ha := List.nodup_cons.1 hA
    have hm : a ∈ B := h a List.mem_cons_self
    have h2 := nodup_le A (B.erase a) ha.2 (fun x hx => (List.mem_erase_of_ne (fun e => ha.1 (by rw [← e]; exact hx))).2 (h x (List.mem_cons_of_mem _ hx)))
    rw [List.length_erase_of_mem hm] at h2
    have := List.length_pos_of_mem hm
    simp
    omega
theorem same_len {α : Type} [DecidableEq α] {A B : List α} (hA : A.Nodup) (hB : B.Nodup) (h : ∀ x, x ∈ A ↔ x ∈ B) : A.length = B.length :=
  Nat.le_antisymm (nodup_le A B hA fun x hx => (h x).1 hx) (nodup_le B A hB fun x hx => (h x).2 hx)

/-- K is what M watches. -/
def Rl (M : MF) (K : List Mon) : Prop := K.Nodup ∧ ∀ r a b, (r, a, b) ∈ K ↔ M r = some (a, b)
theorem Rl.none : Rl (fun _ => none) [] := ⟨List.nodup_nil, by simp⟩
theorem refs_nodup {K : List Mon} (h : K.Pairwise (fun a b => a.1 < b.1)) : K.Nodup := h.imp (fun h e => by rw [e] at h; omega)
theorem Rl.mons {M : MF} {K ms : List Mon} (h : Rl M K) (hm : MonsOf M ms) : ms.length = K.length :=
  same_len (refs_nodup hm.1) h.1 (fun x => by rw [hm.2, h.2])
theorem Rl.watch {M : MF} {K : List Mon} (h : Rl M K) {r : Int} (hr : M r = Option.none) (a b : Int) : Rl (watchM M r a b) (K ++ [(r, a, b)]) := by
  refine ⟨?_, fun x y z => ?_⟩
  · rw [List.nodup_append]
    refine ⟨h.1, by simp, fun m hm m2 hm2 e => ?_⟩
    rw [List.mem_singleton] at hm2
    subst hm2
    subst e
    rw [h.2] at hm
    rw [hr] at hm
    cases hm
  · unfold watchM
    rw [if_pos hr, List.mem_append, List.mem_singleton, h.2]
    by_cases hx : x = r
    · subst hx
      rw [at1_same, hr]
      simp [Eq.comm]
    · rw [at1_other _ _ hx]
      simp [hx]
theorem Rl.unB {M : MF} {K : List Mon} (h : Rl M K) (r a : Int) : unwatchB M r a = K.any (fun m => m.1 == r && m.2.1 == a) := by
  unfold unwatchB
  cases hM : M r with
  | none =>
    symm
    rw [List.any_eq_false]
    intro m hm
    obtain ⟨x, y, z⟩ := m
    rw [h.2] at hm
    simp only [Bool.and_eq_true, beq_iff_eq, not_and]
    rintro rfl
    rw [hM] at hm
    cases hm
  | some p =>
    obtain ⟨y, z⟩ := p
    have hmem : (r, y, z) ∈ K := (h.2 _ _ _).2 hM
    show (y == a) = _
    cases hya : y == a with
    | true =>
      symm
      rw [List.any_eq_true]
      exact ⟨_, hmem, by simpa using hya⟩
    | false =>
      symm
      rw [List.any_eq_false]
      intro m hm
      obtain ⟨x', y', z'⟩ := m
      rw [h.2] at hm
      simp only [Bool.and_eq_true, beq_iff_eq, not_and]
      rintro rfl rfl
      rw [hM] at hm
      cases hm
      simp at hya
theorem Rl.unwatch {M : MF} {K : List Mon} (h : Rl M K) (r a : Int) : Rl (unwatchM M r a) (K.filter (fun m => !(m.1 == r && m.2.1 == a))) := by
  refine ⟨h.1.filter _, fun x y z => ?_⟩
  rw [List.mem_filter, h.2]
  unfold unwatchM unwatchB
  cases hM : M r with
  | none =>
    simp only [Bool.false_eq_true, if_false]
    constructor
    · exact fun h => h.1
    · intro hx
      refine ⟨hx, ?_⟩
      cases hxr : x == r with
      | false => rfl
      | true =>
        rw [beq_iff_eq] at hxr
        subst hxr
        rw [hM] at hx
        cases hx
  | some p =>
    obtain ⟨y', z'⟩ := p
    show M x = some (y, z) ∧ _ ↔ (if (y' == a) = true then at1 M r Option.none else M) x = _
    by_cases hya : (y' == a) = true
    · rw [if_pos hya]
      rw [beq_iff_eq] at hya
      subst hya
      by_cases hx : x = r
      · subst hx
        rw [at1_same, hM]
        simp
        intro e _
        exact e.symm
      · rw [at1_other _ _ hx]
        simp [hx]
    · rw [if_neg hya]
      constructor
      · exact fun h => h.1
      · intro hx
        refine ⟨hx, ?_⟩
        cases hxr : x == r with
        | false => rfl
        | true =>
          rw [beq_iff_eq] at hxr
          subst hxr
          rw [hM] at hx
          cases hx
          simp [hya]
theorem Rl.ended {M : MF} {K : List Mon} (h : Rl M K) {a : Int} {rs : List Int} (hr : ∀ x, x ∈ rs ↔ nam M a x = true) : Rl (endM M rs) (K.filter (fun m => !(m.2.2 == a) && !(m.2.1 == a))) := by
  refine ⟨h.1.filter _, fun x y z => ?_⟩
  rw [List.mem_filter, h.2]
  unfold endM
  by_cases hx : x ∈ rs
  · have hc : rs.contains x = true := List.contains_iff_mem.2 hx
    rw [if_pos hc]
    rw [hr] at hx
    unfold nam at hx
    constructor
    · rintro ⟨hM, hf⟩
      rw [hM] at hx
      simp only [Bool.and_eq_true, Bool.not_eq_true'] at hf
      simp [hf.1, hf.2] at hx
    · intro e
      cases e
  · have hc : ¬ rs.contains x = true := fun h => hx (List.contains_iff_mem.1 h)
    rw [if_neg hc]
    rw [hr] at hx
    unfold nam at hx
    constructor
    · exact fun h => h.1
    · intro hM
      refine ⟨hM, ?_⟩
      rw [hM] at hx
      have hx2 : ((y == a) || (z == a)) = false := by simpa using hx
      rw [Bool.or_eq_false_iff] at hx2
      simp only [hx2.1, hx2.2]
      rfl
theorem mem_selM {M : MF} {a : Int} {rs : List Int} (hr : ∀ x, x ∈ rs ↔ nam M a x = true) (x y z : Int) : (x, y, z) ∈ selM M a rs ↔ M x = some (y, z) ∧ z = a := by
  unfold selM
  rw [List.mem_filterMap]
  constructor
  · rintro ⟨r, _, he⟩
    cases hM : M r with
    | none => rw [hM] at he; cases he
    | some p =>
      rw [hM] at he
      simp only at he
      split at he
      · rename_i hp
        cases he
        exact ⟨hM, by simpa using hp⟩
      · cases he
  · rintro ⟨hM, rfl⟩
    refine ⟨x, (hr x).2 ?_, ?_⟩
    · unfold nam
      rw [hM]
      simp
    · rw [hM]
      simp
theorem selM_nodup {M : MF} {a : Int} {rs : List Int} (h : rs.Pairwise (· < ·)) : (selM M a rs).Nodup := by
  refine refs_nodup ?_
  unfold selM
  refine List.Pairwise.filterMap _ (fun r r' hlt m hm m' hm' => ?_) h
  have key : ∀ (r : Int) (m : Mon), (match M r with | some x => if x.2 == a then some (r, x.1, x.2) else none | none => (none : Option Mon)) = some m → m.1 = r := by
    intro r m e
    cases hM : M r with
    | none => rw [hM] at e; cases e
    | some p =>
      rw [hM] at e
      simp only at e
      split at e
      · cases e; rfl
      · cases e
  rw [key r m hm, key r' m' hm']
  exact hlt
theorem Rl.told {M : MF} {K : List Mon} (h : Rl M K) {a : Int} {rs : List Int} (hr : ∀ x, x ∈ rs ↔ nam M a x = true) (hp : rs.Pairwise (· < ·)) : (K.filter (fun m => m.2.2 == a)).length = (selM M a rs).length := by
  refine same_len (h.1.filter _) (selM_nodup hp) fun m => ?_
  obtain ⟨x, y, z⟩ := m
  rw [mem_selM hr, List.mem_filter, h.2]
  simp
theorem Rl.is_told {M : MF} {K : List Mon} (h : Rl M K) {a : Int} {rs : List Int} (hr : ∀ x, x ∈ rs ↔ nam M a x = true) {m : Mon} (hm : m ∈ K) (ha : (m.2.2 == a) = true) : m ∈ selM M a rs := by
  obtain ⟨x, y, z⟩ := m
  rw [mem_selM hr]
  exact ⟨(h.2 _ _ _).1 hm, by simpa using ha⟩
theorem filt_succ {α : Type} (p : α → Bool) (K : List α) {k : Nat} (hk : k < K.length) : (K.take (k + 1)).filter p = (K.take k).filter p ++ (if p K[k] then [K[k]] else []) := by
  rw [List.take_succ_eq_append_getElem hk, List.filter_append]
  congr 1
  simp [List.filter_cons]

/-! ### Links with a row beside them -/
structure On (w wr : World) (l n : Nat) (M : MF) (v : Value) (K : List Mon) : Prop where
  obj : ∃ L P, Lk wr l n P L M ∧ (∀ x, P x → w.heap.size ≤ x) ∧ ∀ g, v.ownBlock = some g → ¬ P g
  up : Upd [] w wr
  row : MR wr w.heap.size v K
theorem On.upd {w wr w2 : World} {l n : Nat} {M : MF} {v : Value} {K : List Mon} (h : On w wr l n M v K) (hu : Upd [] wr w2) : On w w2 l n M v K := by
  obtain ⟨L, P, o, h1, h2⟩ := h.obj
  exact ⟨⟨L, P, o.upd hu, h1, h2⟩, h.up.trans hu, h.row.upd hu⟩
theorem on_of {w wr w2 : World} {l n : Nat} {L : LF} {M : MF} {v : Value} {K : List Mon} {P : Nat → Prop} (h1 : ∀ x, P x → w.heap.size ≤ x) (h2 : ∀ g, v.ownBlock = some g → ¬ P g) (hup : Upd [] w wr) (hrow : MR wr w.heap.size v K)
    (h : ∃ P', Lk w2 l n P' L M ∧ (∀ x, P' x → P x ∨ (wr.heap.size ≤ x ∧ x < w2.heap.size)) ∧ UpP P wr w2) : On w w2 l n M v K := by
  obtain ⟨P', o, h3, hu⟩ := h
  refine ⟨⟨L, P', o, fun x hx => ?_, fun g hg hx => ?_⟩, (hup.toN (P := P)).trans hu |>.upd h1, hrow.upP hu h2⟩
  · rcases h3 x hx with h4 | h4
    · exact h1 x h4
    · exact Nat.le_trans hup.size h4.1
  · rcases h3 g hx with h4 | h4
    · exact h2 g hg h4
    · have := (hrow.own hg).2
      omega
theorem on_new (w w1 : World) (hu : Upd [] w w1) : Calls Tryz.prog 10 #[] w1 fun e w' => ∃ l, e = .returned (.pointer (some ⟨l, 0, none⟩)) ∧ On w w' l 0 (fun _ => none) (.slice none 0 0) [] := by
  refine (new_any w1).mono ?_
  rintro e w' ⟨l, rfl, o, hu2⟩
  exact ⟨l, rfl, ⟨_, _, o, fun x hx => Nat.le_trans hu.size hx.1, fun g hg => by cases hg⟩, hu.trans hu2, rfl, Or.inl ⟨rfl, rfl⟩⟩
theorem on_watch {w wr : World} {l n : Nat} {M : MF} {v : Value} {K : List Mon} (h : On w wr l n M v K) (hn : n + 3 ≤ 1073741824) {r a b : Int} (hr : I64 r) (ha : I64 a) (hb : I64 b) :
    Calls Tryz.prog 21 #[.pointer (some ⟨l, 0, none⟩), .int .i64 r, .int .i64 a, .int .i64 b] wr fun e w' => e = .returned (.bool (M r).isNone) ∧ On w w' l (n + 2) (watchM M r a b) v K := by
  obtain ⟨L, P, o, h1, h2⟩ := h.obj
  refine (watch_any o hn hr ha hb).mono ?_
  rintro e w' ⟨rfl, h3⟩
  exact ⟨rfl, on_of h1 h2 h.up h.row h3⟩
theorem on_unwatch {w wr : World} {l n : Nat} {M : MF} {v : Value} {K : List Mon} (h : On w wr l n M v K) {r a : Int} (hr : I64 r) :
    Calls Tryz.prog 28 #[.pointer (some ⟨l, 0, none⟩), .int .i64 r, .int .i64 a] wr fun e w' => e = .returned (.bool (unwatchB M r a)) ∧ On w w' l n (unwatchM M r a) v K := by
  obtain ⟨L, P, o, h1, h2⟩ := h.obj
  refine (unwatch_any o hr).mono ?_
  rintro e w' ⟨rfl, h3⟩
  exact ⟨rfl, on_of h1 h2 h.up h.row h3⟩
theorem on_monitors {w wr : World} {l n : Nat} {M : MF} {v : Value} {K : List Mon} (h : On w wr l n M v K) (hn : n ≤ 1073741824) :
    Calls Tryz.prog 6 #[.pointer (some ⟨l, 0, none⟩)] wr fun e w' => ∃ u ms, e = .returned u ∧ MR w' wr.heap.size u ms ∧ MonsOf M ms ∧ Upd [] wr w' := by
  obtain ⟨L, P, o, h1, h2⟩ := h.obj
  exact monitors_any o hn
theorem on_end {w wr : World} {l n : Nat} {M : MF} {v : Value} {K : List Mon} (h : On w wr l n M v K) (hn : n ≤ 1073741824) {a : Int} (ha : I64 a) :
    Calls Tryz.prog 22 #[.pointer (some ⟨l, 0, none⟩), .int .i64 a] wr fun e w' => ∃ s xs u rs, e = .returned (.tuple #[s, u]) ∧ IR w' wr.heap.size s xs ∧ MR w' wr.heap.size u (selM M a rs) ∧ rs.Pairwise (· < ·) ∧ (∀ x, x ∈ rs ↔ nam M a x = true) ∧ On w w' l n (endM M rs) v K := by
  obtain ⟨L, P, o, h1, h2⟩ := h.obj
  refine (end_any o hn ha).mono ?_
  rintro e w' ⟨s, xs, u, rs, rfl, h3, _, _, h6, h7, h8, P', h9, h10, h11, _, _⟩
  exact ⟨s, xs, u, rs, rfl, h3, h6, h7, h8, on_of h1 h2 h.up h.row ⟨P', h9, h10, h11⟩⟩
/-- Another row takes its place. -/
theorem On.swap {w W0 wr : World} {l n : Nat} {M : MF} {v u : Value} {K ks : List Mon} (h : On w W0 l n M v K) (hu : Upd [] W0 wr) (hr : MR wr W0.heap.size u ks) : On w wr l n M u ks := by
  obtain ⟨L, P, o, h1, h2⟩ := h.obj
  refine ⟨⟨L, P, o.upd hu, h1, fun g hg hP => ?_⟩, h.up.trans hu, hr.base h.up.size⟩
  have := (hr.own hg).1
  have := o.bnd g hP
  omega
theorem upP_grown {w w' : World} {row : Option Nat} (h : w.grownBy w' row) : UpP (fun x => row = some x) w w' := ⟨h.os, h.tape, h.output, h.size, fun k hk hn => h.block k hk (fun e => hn e.symm)⟩
/-- The row has grown. -/
theorem On.push {w wr w2 : World} {l n : Nat} {M : MF} {v v' : Value} {K K' : List Mon} (h : On w wr l n M v K) (hr : MR w2 w.heap.size v' K') (hg : wr.grownBy w2 v.ownBlock) (hat : v'.ownBlock = v.ownBlock ∨ v'.ownBlock = some wr.heap.size) : On w w2 l n M v' K' := by
  obtain ⟨L, P, o, h1, h2⟩ := h.obj
  have hu := upP_grown hg
  refine ⟨⟨L, P, o.mono hu (fun x hx e => h2 x e hx), h1, fun g hg2 hP => ?_⟩, ?_, hr⟩
  · rcases hat with e | e
    · exact h2 g (by rw [← e]; exact hg2) hP
    · rw [e] at hg2
      cases hg2
      have := o.bnd _ hP
      omega
  · exact ((h.up.toN (P := fun x => v.ownBlock = some x)).trans hu).upd (fun x hx => (h.row.own hx).1)

theorem MR.snoc {w : World} {B : Nat} {v : Value} {K : List Mon} {x y z : Int} (h : w.ownsRow B 33 3 v (K.length + 1) (K.flatMap cellsM ++ [.int .i64 x, .int .i64 y, .int .i64 z])) : MR w B v (K ++ [(x, y, z)]) := by
  unfold MR
  rw [List.flatMap_append]
  simpa using h
/-- Watch; a box that has been made since stays. -/
theorem on_watch2 {w w0 wr : World} {l n : Nat} {M : MF} {v : Value} {K : List Mon} (h0 : On w w0 l n M v K) (hu0 : Upd [] w0 wr) (hn : n + 3 ≤ 1073741824) {r a b : Int} (hr : I64 r) (ha : I64 a) (hb : I64 b) :
    Calls Tryz.prog 21 #[.pointer (some ⟨l, 0, none⟩), .int .i64 r, .int .i64 a, .int .i64 b] wr fun e w' => e = .returned (.bool (M r).isNone) ∧ On w w' l (n + 2) (watchM M r a b) v K ∧ ∀ p : Addr, w0.heap.size ≤ p.block → p.block < wr.heap.size → w'.cell? p = wr.cell? p := by
  have h := h0.upd hu0
  obtain ⟨L, P, o, h1, h2⟩ := h0.obj
  refine (watch_any (o.upd hu0) hn hr ha hb).mono ?_
  rintro e w' ⟨rfl, P', o', h3, h4⟩
  refine ⟨rfl, on_of h1 h2 h.up h.row ⟨P', o', h3, h4⟩, fun p hp hp2 => ?_⟩
  have hb := h4.block p.block hp2 (fun hP => by have := o.bnd _ hP; omega)
  exact World.cell?_of_block hb

theorem guard_mon : Tryz.prog.eqGuardType Tryz.prog.depth 33 = false := by kernel_rfl
theorem eqIn_mon (w : World) (x0 x1 x2 y0 y1 y2 : Int) : (Op.equalIn 10000 33 (.agg #[.int .i64 x0, .int .i64 x1, .int .i64 x2]) (.agg #[.int .i64 y0, .int .i64 y1, .int .i64 y2])).run Tryz.prog w = .ok (decide (x0 = y0) && (decide (x1 = y1) && decide (x2 = y2))) w := by
  have u3 := Tryz.underlying3
  have a3 := Tryz.isAgg3
  have z3 := Tryz.sizeOf3
  have hS : Tryz.prog.underlying 33 = some (.struct (Tryz.prog.fieldsOf 33)) := by kernel_rfl
  have hp : Tryz.prog.stoodInHeld 33 = false := by kernel_rfl
  rw [show (10000 : Nat) = 9999 + 1 from rfl, run_equalIn_agg w 9999 33 _ _ hS hp]
  simp only [Program.fieldsOf, Tryz.underlying33]
  go_simp
  by_cases h1 : x0 = y0 <;> by_cases h2 : x1 = y1 <;> by_cases h3 : x2 = y2 <;> simp [h1, h2, h3]
theorem eq_mon (w : World) (x0 x1 x2 y0 y1 y2 : Int) : (binOp .eql 33 (.agg #[.int .i64 x0, .int .i64 x1, .int .i64 x2]) (.agg #[.int .i64 y0, .int .i64 y1, .int .i64 y2])).run Tryz.prog w = .ok (.bool (decide (x0 = y0) && (decide (x1 = y1) && decide (x2 = y2)))) w := by
  rw [run_eql_struct, eqIn_mon]
  rfl

theorem one_has (x0 x1 x2 y0 y1 y2 : Int) : ([(x0, x1, x2)] : List Mon).contains (y0, y1, y2) = (decide (x0 = y0) && (decide (x1 = y1) && decide (x2 = y2))) := by
  rw [Bool.eq_iff_iff]
  simp
  constructor
  · rintro ⟨rfl, rfl, rfl⟩
    exact ⟨rfl, rfl, rfl⟩
  · rintro ⟨rfl, rfl, rfl⟩
    exact ⟨rfl, rfl, rfl⟩

end Go.Proofs.YtofcniodobjopaaGreat
