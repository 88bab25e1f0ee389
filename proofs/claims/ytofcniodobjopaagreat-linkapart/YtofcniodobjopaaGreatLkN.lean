/- Links: End. -/
import Derived.Test.YtofcniodobjopaaGreatLkZ
import Derived.Maps.AppendAt
namespace Go.Proofs.YtofcniodobjopaaGreat
open Go.RowKit Go.Maps

theorem forget_lk {w : World} {l n : Nat} {P : Nat → Prop} {L : LF} {M : MF} (o : Lk w l n P L M) {r a b : Int} (hM : M r = some (a, b)) :
    Calls Tryz.prog 62 #[.pointer (some ⟨l, 0, none⟩), .agg #[.int .i64 r, .int .i64 a, .int .i64 b]] w fun e w' => e = .returned (.tuple #[]) ∧ (∃ P', Lk w' l n P' L (at1 M r none) ∧ (∀ x, P' x → P x ∨ (w.heap.size ≤ x ∧ x < w'.heap.size)) ∧ UpP P w w') := by
  obtain ⟨g, m, h, Pg, Ph, o, hP⟩ := o
  refine (forget_any o hM).mono ?_
  rintro e w' ⟨rfl, ho, hu⟩
  obtain ⟨h1, h2⟩ := Lk.of_turnM hu hP ho
  exact ⟨rfl, Nw P w w', h1, fun x hx => hx, h2⟩

theorem IR.form {w : World} {B : Nat} {v : Value} {xs : List Int} (h : IR w B v xs) : ∃ p c, v = .slice p xs.length c := by
  rcases h.2 with ⟨h1, h2⟩ | ⟨g, cap, cur, h1, _⟩
  · exact ⟨none, 0, by rw [h1, h2]⟩
  · exact ⟨_, _, h1⟩
theorem MR.form {w : World} {B : Nat} {v : Value} {xs : List Mon} (h : MR w B v xs) : ∃ p c, v = .slice p xs.length c := by
  rcases h.2 with ⟨h1, h2⟩ | ⟨g, cap, cur, h1, _⟩
  · exact ⟨none, 0, by rw [h1, h2]⟩
  · exact ⟨_, _, h1⟩
theorem IR.cell {w : World} {B : Nat} {v : Value} {xs : List Int} (h : IR w B v xs) {k : Nat} (hk : k < xs.length) : ∃ g c, v = .slice (some ⟨g, 0, none⟩) xs.length c ∧ w.cell? ⟨g, k, none⟩ = some (.int .i64 xs[k]) := by
  rcases h.2 with ⟨h1, h2⟩ | ⟨g, cap, cur, h1, _, hg, _, _, _, ht⟩
  · omega
  · refine ⟨g, cap, h1, ?_⟩
    rw [cell_of_row w g k _ _ _ hg]
    have h3 : (cur.toList.take (xs.length * 1))[k]? = (xs.map encZ)[k]? := by rw [ht]
    rw [List.getElem?_take_of_lt (by omega), Array.getElem?_toList] at h3
    rw [h3, List.getElem?_map, List.getElem?_eq_getElem hk]
    rfl
/-- The row's block is none of P's. -/
def Off (P : Nat → Prop) (v : Value) : Prop := ∀ g, v.ownBlock = some g → ¬ P g

/-- L, but for whom a is linked with among xs. -/
def endL (L : LF) (a : Int) (xs : List Int) : LF := fun x y => L x y && !(x == a && xs.contains y) && !(y == a && xs.contains x)
theorem endL_nil (L : LF) (a : Int) : endL L a [] = L := by
  funext x y
  unfold endL
  simp
theorem endL_snoc (L : LF) (a b : Int) (xs : List Int) : cutL (endL L a xs) a b = endL L a (xs ++ [b]) := by
  funext x y
  rw [cutL_val]
  unfold endL
  by_cases h1 : x = a ∧ y = b
  · rw [if_pos (Or.inl h1)]
    simp [h1.1, h1.2]
  · by_cases h2 : x = b ∧ y = a
    · rw [if_pos (Or.inr h2)]
      simp [h2.1, h2.2]
    · rw [if_neg (by rintro (h | h); exact h1 h; exact h2 h)]
      congr 1
      · congr 1
        by_cases hx : x = a
        · have : y ≠ b := fun e => h1 ⟨hx, e⟩
          simp [this]
        · have : (x == a) = false := by simpa using hx
          simp [this]
      · by_cases hy : y = a
        · have : x ≠ b := fun e => h2 ⟨e, hy⟩
          simp [this]
        · have : (y == a) = false := by simpa using hy
          simp [this]

theorem unlink_loop_step {w wr w2 : World} {l n : Nat} {P P' P2 : Nat → Prop} {L : LF} {M : MF} {a b : Int} {xs : List Int} {v : Value} {B : Nat} {ys : List Int} (hu : UpP P w wr) (hw : ∀ x, P' x → P x ∨ w.heap.size ≤ x) (hR : IR wr B v ys) (hv : Off P' v) (ho : Lk w2 l n P2 (cutL (endL L a xs) a b) M) (hP2 : ∀ x, P2 x → P' x ∨ (wr.heap.size ≤ x ∧ x < w2.heap.size)) (hu2 : UpP P' wr w2) :
    Lk w2 l n P2 (endL L a (xs ++ [b])) M ∧ UpP P w w2 ∧ (∀ x, P2 x → P x ∨ w.heap.size ≤ x) ∧ IR w2 B v ys ∧ Off P2 v := by
  refine ⟨by rw [← endL_snoc]; exact ho, hu.thenP hu2 (fun x hx => (hw x hx).symm), fun x hx => ?_, hR.upP hu2 hv, fun g hg hx => ?_⟩
  · rcases hP2 x hx with h1 | h1
    · exact hw x h1
    · exact Or.inr (Nat.le_trans hu.size h1.1)
  · rcases hP2 g hx with h1 | h1
    · exact hv g hg h1
    · have := (hR.own hg).2; omega

/-- M, but for these Refs. -/
def endM (M : MF) (rs : List Int) : MF := fun r => if rs.contains r then none else M r
theorem endM_nil (M : MF) : endM M [] = M := by
  funext x
  simp [endM]
theorem endM_snoc (M : MF) (rs : List Int) (r : Int) : at1 (endM M rs) r none = endM M (rs ++ [r]) := by
  funext x
  unfold at1 endM
  by_cases hx : x = r
  · simp [hx]
  · simp [hx]
/-- The monitors of these Refs by which a is watched. -/
def selM (M : MF) (a : Int) (rs : List Int) : List Mon := rs.filterMap fun r => match M r with
  | some x => if x.2 == a then some (r, x.1, x.2) else none
  | none => none
theorem selM_snoc_yes (M : MF) (a : Int) (rs : List Int) {r x : Int} (h : M r = some (x, a)) : selM M a (rs ++ [r]) = selM M a rs ++ [(r, x, a)] := by
  unfold selM
  rw [List.filterMap_append]
  simp [h]
theorem selM_snoc_no (M : MF) (a : Int) (rs : List Int) {r x y : Int} (h : M r = some (x, y)) (hy : (y == a) = false) : selM M a (rs ++ [r]) = selM M a rs := by
  unfold selM
  rw [List.filterMap_append]
  have : y ≠ a := by simpa using hy
  simp [h, this]
theorem selM_len (M : MF) (a : Int) (rs : List Int) : (selM M a rs).length ≤ rs.length := List.length_filterMap_le _ _
theorem selM_mem (M : MF) (a : Int) (rs : List Int) (r x y : Int) : (r, x, y) ∈ selM M a rs ↔ r ∈ rs ∧ M r = some (x, y) ∧ y = a := by
  unfold selM
  rw [List.mem_filterMap]
  constructor
  · rintro ⟨q, hq, he⟩
    cases hM : M q with
    | none => rw [hM] at he; cases he
    | some p =>
      rw [hM] at he
      obtain ⟨p1, p2⟩ := p
      by_cases hp : p2 = a
      · simp [hp] at he
        obtain ⟨rfl, rfl, rfl⟩ := he
        exact ⟨hq, by rw [hM, hp], rfl⟩
      · simp [hp] at he
  · rintro ⟨hr, hM, rfl⟩
    exact ⟨r, hr, by rw [hM]; simp⟩
theorem selM_sorted (M : MF) (a : Int) : ∀ rs : List Int, rs.Pairwise (· < ·) → (selM M a rs).Pairwise (fun p q => p.1 < q.1) := by
  intro rs h
  unfold selM
  rw [List.pairwise_filterMap]
  refine h.imp ?_
  intro p q hpq b hb b' hb'
  have h1 : b.1 = p := by
    cases hM : M p with
    | none => rw [hM] at hb; cases hb
    | some x =>
      rw [hM] at hb
      by_cases hx : x.2 = a
      · simp [hx] at hb; rw [← hb]
      · simp [hx] at hb
  have h2 : b'.1 = q := by
    cases hM : M q with
    | none => rw [hM] at hb'; cases hb'
    | some x =>
      rw [hM] at hb'
      by_cases hx : x.2 = a
      · simp [hx] at hb'; rw [← hb']
      · simp [hx] at hb'
  omega

theorem Lk.cells {w : World} {l n : Nat} {P : Nat → Prop} {L : LF} {M : MF} (o : Lk w l n P L M) : ∃ g m h, w.cell? ⟨l, 1, none⟩ = some (.map (some g)) ∧ w.cell? ⟨l, 2, none⟩ = some (.map (some m)) ∧ w.cell? ⟨l, 3, none⟩ = some (.map (some h)) ∧
    (n ≤ 1073741824 → ∀ a, I64 a → Calls Tryz.prog 13 #[.map (some g), .int .i64 a] w fun e w' => ∃ v xs, e = .returned v ∧ IR w' w.heap.size v xs ∧ xs.Pairwise (· < ·) ∧ (∀ x, x ∈ xs ↔ L a x = true) ∧ xs.length ≤ n ∧ (v = .slice none 0 0 ↔ xs = []) ∧ Upd [] w w') ∧
    (n ≤ 1073741824 → ∀ a, I64 a → Calls Tryz.prog 13 #[.map (some h), .int .i64 a] w fun e w' => ∃ v xs, e = .returned v ∧ IR w' w.heap.size v xs ∧ xs.Pairwise (· < ·) ∧ (∀ x, x ∈ xs ↔ nam M a x = true) ∧ xs.length ≤ n ∧ (v = .slice none 0 0 ↔ xs = []) ∧ Upd [] w w') ∧
    (∀ r, I64 r → (Instr.lookup 47 (.map (some m)) (.int .i64 r) false).run Tryz.prog w = .ok (monAt (monF M r)) w) := by
  obtain ⟨g, m, h, Pg, Ph, o, hP⟩ := o
  exact ⟨g, m, h, by rw [o.row.cell]; rfl, by rw [o.row.cell]; rfl, by rw [o.row.cell]; rfl, fun hn a ha => rising_any o.linked hn ha, fun hn a ha => rising_any o.naming hn ha, fun r hr => MonB.look o.mons hr⟩

/-- Two rows lie apart. -/
def Ap (u v : Value) : Prop := ∀ g, u.ownBlock = some g → v.ownBlock ≠ some g
/-- What stands while the monitors that name a are gone through. -/
structure EndI (w wr : World) (l n : Nat) (a : Int) (xs rs : List Int) (v z u : Value) (LE : LF) (ME : MF) (ms : List Mon) (P P' : Nat → Prop) : Prop where
  lk : Lk wr l n P' LE ME
  up : UpP P w wr
  low : ∀ x, P' x → P x ∨ w.heap.size ≤ x
  rv : IR wr w.heap.size v xs
  ov : Off P' v
  rz : IR wr w.heap.size z rs
  oz : Off P' z
  ru : MR wr w.heap.size u ms
  ou : Off P' u
  av : Ap u v
  az : Ap u z
theorem EndI.upd {w wr w2 : World} {l n : Nat} {a : Int} {xs rs : List Int} {v z u : Value} {LE : LF} {ME : MF} {ms : List Mon} {P P' : Nat → Prop} (h : EndI w wr l n a xs rs v z u LE ME ms P P') (hu : Upd [] wr w2) : EndI w w2 l n a xs rs v z u LE ME ms P P' :=
  ⟨h.lk.upd hu, h.up.trans hu.toN, h.low, h.rv.upd hu, h.ov, h.rz.upd hu, h.oz, h.ru.upd hu, h.ou, h.av, h.az⟩
theorem grownBy_upP {w w' : World} {row : Option Nat} (h : w.grownBy w' row) : UpP (fun x => row = some x) w w' := ⟨h.os, h.tape, h.output, h.size, fun k hk hn => h.block k hk (fun e => hn e.symm)⟩
theorem EndI.app {w wr w2 : World} {l n : Nat} {a : Int} {xs rs : List Int} {v z u u' : Value} {LE : LF} {ME : MF} {ms ms' : List Mon} {P P' : Nat → Prop} (h : EndI w wr l n a xs rs v z u LE ME ms P P') (hg : wr.grownBy w2 u.ownBlock) (hr : MR w2 w.heap.size u' ms') (hat : u'.ownBlock = u.ownBlock ∨ u'.ownBlock = some wr.heap.size) : EndI w w2 l n a xs rs v z u' LE ME ms' P P' := by
  have hu := grownBy_upP hg
  refine ⟨h.lk.mono hu (fun x hx e => h.ou x e hx), h.up.thenP hu (fun x hx => Or.inl (h.ru.own hx).1), h.low, h.rv.upP hu (fun g hg hx => h.av g hx hg), h.ov, h.rz.upP hu (fun g hg hx => h.az g hx hg), h.oz, hr, fun g hg hx => ?_, fun g hg hx => ?_, fun g hg hx => ?_⟩
  · rcases hat with e | e
    · exact h.ou g (e ▸ hg) hx
    · rw [e] at hg; cases hg
      exact absurd (h.lk.bnd _ hx) (Nat.lt_irrefl _)
  · rcases hat with e | e
    · exact h.av g (e ▸ hg) hx
    · rw [e] at hg; cases hg
      exact absurd (h.rv.own hx).2 (Nat.lt_irrefl _)
  · rcases hat with e | e
    · exact h.az g (e ▸ hg) hx
    · rw [e] at hg; cases hg
      exact absurd (h.rz.own hx).2 (Nat.lt_irrefl _)
theorem EndI.step {w wr w2 : World} {l n : Nat} {a : Int} {xs rs : List Int} {v z u : Value} {LE : LF} {ME ME' : MF} {ms : List Mon} {P P' P2 : Nat → Prop} (h : EndI w wr l n a xs rs v z u LE ME ms P P') (ho : Lk w2 l n P2 LE ME') (hP2 : ∀ x, P2 x → P' x ∨ (wr.heap.size ≤ x ∧ x < w2.heap.size)) (hu : UpP P' wr w2) : EndI w w2 l n a xs rs v z u LE ME' ms P P2 := by
  have off : ∀ g, g < wr.heap.size → ¬ P' g → ¬ P2 g := fun g h1 h2 hx => by
    rcases hP2 g hx with h3 | h3
    · exact h2 h3
    · omega
  refine ⟨ho, h.up.thenP hu (fun x hx => (h.low x hx).symm), fun x hx => ?_, h.rv.upP hu h.ov, fun g hg => off g (h.rv.own hg).2 (h.ov g hg), h.rz.upP hu h.oz, fun g hg => off g (h.rz.own hg).2 (h.oz g hg), h.ru.upP hu h.ou, fun g hg => off g (h.ru.own hg).2 (h.ou g hg), h.av, h.az⟩
  rcases hP2 x hx with h1 | h1
  · exact h.low x h1
  · exact Or.inr (Nat.le_trans h.up.size h1.1)

theorem sorted_fresh {rs : List Int} (h : rs.Pairwise (· < ·)) {k : Nat} (hk : k < rs.length) : (rs.take k).contains rs[k] = false := by
  rw [Bool.eq_false_iff]
  intro hc
  simp only [List.contains_eq_mem, decide_eq_true_eq] at hc
  obtain ⟨j, hj, he⟩ := List.getElem_of_mem hc
  rw [List.getElem_take] at he
  have hj' : j < k := by rw [List.length_take] at hj; omega
  have := List.pairwise_iff_getElem.1 h j k (by omega) hk hj'
  omega
theorem cell_new3' (w : World) (a b c : Value) (t : TypeId) {k : Nat} (hk : k = w.heap.size) : ∀ j u, [a, b, c][j]? = some u → (w.alloc (.cells #[a, b, c] t)).cell? ((⟨k, 0, none⟩ : Addr).add j) = some u := by
  subst hk
  exact cell_new3 w a b c t
end Go.Proofs.YtofcniodobjopaaGreat
