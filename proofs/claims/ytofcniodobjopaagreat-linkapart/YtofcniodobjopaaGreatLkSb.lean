/- LinkLives: the program's object and the reference's side by side. -/
import Derived.Test.YtofcniodobjopaaGreatLkSa
import Derived.Test.YtofcniodobjopaaGreatLkRz
namespace Go.Proofs.YtofcniodobjopaaGreat
open Go.RowKit Go.Maps

/-- At l the program's Links, at b the reference's; all of it new since w. -/
structure LR (w wr : World) (l n b : Nat) (L : LF) (M : MF) (v u : Value) (ps : List (Int × Int)) (ms : List Mon) : Prop where
  obj : ∃ P, Lk wr l n P L M ∧ (∀ x, P x → w.heap.size ≤ x) ∧ ¬ P b ∧ (∀ g, v.ownBlock = some g → ¬ P g) ∧ (∀ g, u.ownBlock = some g → ¬ P g)
  box : Cl wr b #[v, u] 41
  hb : w.heap.size ≤ b
  pr : PR wr w.heap.size v ps
  nr : NR wr w.heap.size u ms
  up : Upd [] w wr
  siml : SimL L ps
  simm : MonsOf M ms
variable {w wr : World} {l n b : Nat} {L : LF} {M : MF} {v u : Value} {ps : List (Int × Int)} {ms : List Mon}
theorem LR.upd {w2 : World} (h : LR w wr l n b L M v u ps ms) (hu : Upd [] wr w2) : LR w w2 l n b L M v u ps ms := by
  obtain ⟨P, o, h1, h2, h3, h4⟩ := h.obj
  exact ⟨⟨P, o.upd hu, h1, h2, h3, h4⟩, h.box.upd hu (by simp), h.hb, h.pr.upd hu, h.nr.upd hu, h.up.trans hu, h.siml, h.simm⟩
theorem LR.le {m : Nat} (h : LR w wr l n b L M v u ps ms) (hm : n ≤ m) : LR w wr l m b L M v u ps ms := by
  obtain ⟨P, o, h1, h2, h3, h4⟩ := h.obj
  exact ⟨⟨P, o.le hm, h1, h2, h3, h4⟩, h.box, h.hb, h.pr, h.nr, h.up, h.siml, h.simm⟩
/-- The program's half turns; what the two say of one another is told later. -/
structure LH (w wr : World) (l n b : Nat) (L : LF) (M : MF) (v u : Value) (ps : List (Int × Int)) (ms : List Mon) (Bx : Nat → Array Value → Prop) : Prop where
  obj : ∃ P, Lk wr l n P L M ∧ (∀ x, P x → w.heap.size ≤ x) ∧ ¬ P b ∧ (∀ g, v.ownBlock = some g → ¬ P g) ∧ (∀ g, u.ownBlock = some g → ¬ P g) ∧ (∀ z cs, Bx z cs → ¬ P z)
  boxz : ∀ z cs, Bx z cs → Cl wr z cs 44
  box : Cl wr b #[v, u] 41
  hb : w.heap.size ≤ b
  pr : PR wr w.heap.size v ps
  nr : NR wr w.heap.size u ms
  up : Upd [] w wr
variable {Bx : Nat → Array Value → Prop}
/-- A box is laid. -/
theorem LH.lay (h : LH w wr l n b L M v u ps ms Bx) (c : Array Value) : LH w (wr.alloc (.cells c 44)) l n b L M v u ps ms (fun z cs => Bx z cs ∨ (z = wr.heap.size ∧ cs = c)) := by
  have hu : Upd [] wr (wr.alloc (.cells c 44)) := (Upd.refl [] wr).alloc _
  obtain ⟨P, o, h1, h2, h3, h4, h5⟩ := h.obj
  refine ⟨⟨P, o.upd hu, h1, h2, h3, h4, fun z cs hz hx => ?_⟩, fun z cs hz => ?_, h.box.upd hu (by simp), h.hb, h.pr.upd hu, h.nr.upd hu, h.up.trans hu⟩
  · rcases hz with hz | ⟨rfl, _⟩
    · exact h5 z cs hz hx
    · exact absurd (o.bnd _ hx) (Nat.lt_irrefl _)
  · rcases hz with hz | ⟨rfl, rfl⟩
    · exact (h.boxz z cs hz).upd hu (by simp)
    · exact Cl.new _ _ _ _ rfl
theorem LR.half (h : LR w wr l n b L M v u ps ms) : LH w wr l n b L M v u ps ms (fun _ _ => False) := by
  obtain ⟨P, o, h1, h2, h3, h4⟩ := h.obj
  exact ⟨⟨P, o, h1, h2, h3, h4, fun _ _ hz => hz.elim⟩, fun _ _ hz => hz.elim, h.box, h.hb, h.pr, h.nr, h.up⟩
theorem LH.less (h : LH w wr l n b L M v u ps ms Bx) {By : Nat → Array Value → Prop} (hs : ∀ z c, By z c → Bx z c) : LH w wr l n b L M v u ps ms By := by
  obtain ⟨P, o, h1, h2, h3, h4, h5⟩ := h.obj
  exact ⟨⟨P, o, h1, h2, h3, h4, fun z c hz => h5 z c (hs z c hz)⟩, fun z c hz => h.boxz z c (hs z c hz), h.box, h.hb, h.pr, h.nr, h.up⟩
/-- Both, and a box of the caller's beside them. -/
structure LX (w wr : World) (l n b : Nat) (L : LF) (M : MF) (v u : Value) (ps : List (Int × Int)) (ms : List Mon) (x : Nat) (c : Array Value) : Prop where
  half : LH w wr l n b L M v u ps ms (fun z cs => z = x ∧ cs = c)
  siml : SimL L ps
  simm : MonsOf M ms
theorem LX.whole {x : Nat} {c : Array Value} (h : LX w wr l n b L M v u ps ms x c) : LR w wr l n b L M v u ps ms := by
  obtain ⟨P, o, g1, g2, g3, g4, _⟩ := h.half.obj
  exact ⟨⟨P, o, g1, g2, g3, g4⟩, h.half.box, h.half.hb, h.half.pr, h.half.nr, h.half.up, h.siml, h.simm⟩
theorem LX.cl {x : Nat} {c : Array Value} (h : LX w wr l n b L M v u ps ms x c) : Cl wr x c 44 := h.half.boxz x c ⟨rfl, rfl⟩
theorem LR.boxed (h : LR w wr l n b L M v u ps ms) (c : Array Value) : LX w (wr.alloc (.cells c 44)) l n b L M v u ps ms wr.heap.size c :=
  ⟨(h.half.lay c).less (fun _ _ hz => Or.inr hz), h.siml, h.simm⟩
theorem LH.upd {w2 : World} (h : LH w wr l n b L M v u ps ms Bx) (hu : Upd [] wr w2) : LH w w2 l n b L M v u ps ms Bx := by
  obtain ⟨P, o, h1, h2, h3, h4, h5⟩ := h.obj
  exact ⟨⟨P, o.upd hu, h1, h2, h3, h4, h5⟩, fun z cs hz => (h.boxz z cs hz).upd hu (by simp), h.box.upd hu (by simp), h.hb, h.pr.upd hu, h.nr.upd hu, h.up.trans hu⟩
theorem LX.upd {w2 : World} {x : Nat} {c : Array Value} (h : LX w wr l n b L M v u ps ms x c) (hu : Upd [] wr w2) : LX w w2 l n b L M v u ps ms x c := ⟨h.half.upd hu, h.siml, h.simm⟩
theorem LH.le {m : Nat} (h : LH w wr l n b L M v u ps ms Bx) (hm : n ≤ m) : LH w wr l m b L M v u ps ms Bx := by
  obtain ⟨P, o, h1, h2, h3, h4, h5⟩ := h.obj
  exact ⟨⟨P, o.le hm, h1, h2, h3, h4, h5⟩, h.boxz, h.box, h.hb, h.pr, h.nr, h.up⟩
theorem PR.upP {P : Nat → Prop} {w w' : World} {B : Nat} {v : Value} {xs : List (Int × Int)} (h : PR w B v xs) (hu : UpP P w w') (hn : ∀ g, v.ownBlock = some g → ¬ P g) : PR w' B v xs := by
  obtain ⟨h1, h2⟩ := h
  refine ⟨h1, ?_⟩
  rcases h2 with h2 | ⟨g, cap, cur, rfl, hB, hg, r⟩
  · exact Or.inl h2
  · exact Or.inr ⟨g, cap, cur, rfl, hB, (hu.block g (Array.getElem?_eq_some_iff.1 hg).1 (hn g rfl)).trans hg, r⟩
/-- The program has done something. -/
theorem LH.prog {w2 : World} {n' : Nat} {L' : LF} {M' : MF} {P : Nat → Prop} (h : LH w wr l n b L M v u ps ms Bx) (h1 : ∀ x, P x → w.heap.size ≤ x) (h2 : ¬ P b) (h3 : ∀ g, v.ownBlock = some g → ¬ P g) (h4 : ∀ g, u.ownBlock = some g → ¬ P g) (h7 : ∀ z cs, Bx z cs → ¬ P z)
    (hd : ∃ P', Lk w2 l n' P' L' M' ∧ (∀ x, P' x → P x ∨ (wr.heap.size ≤ x ∧ x < w2.heap.size)) ∧ UpP P wr w2) : LH w w2 l n' b L' M' v u ps ms Bx := by
  obtain ⟨P', o', h5, hu⟩ := hd
  have hbl := h.box.lt
  refine ⟨⟨P', o', fun x hx => ?_, fun hx => ?_, fun g hg hx => ?_, fun g hg hx => ?_, fun z cs hz hx => ?_⟩, fun z cs hz => (h.boxz z cs hz).mono hu (h7 z cs hz), h.box.mono hu h2, h.hb, h.pr.upP hu h3, h.nr.upP hu h4, (h.up.toN (P := P)).trans hu |>.upd h1⟩
  · rcases h5 x hx with h6 | h6
    · exact h1 x h6
    · exact Nat.le_trans h.up.size h6.1
  · rcases h5 b hx with h6 | h6
    · exact h2 h6
    · omega
  · rcases h5 g hx with h6 | h6
    · exact h3 g hg h6
    · have := (h.pr.own hg).2; omega
  · rcases h5 g hx with h6 | h6
    · exact h4 g hg h6
    · have := (h.nr.own hg).2; omega
  · rcases h5 z hx with h6 | h6
    · exact h7 z cs hz h6
    · have := (h.boxz z cs hz).lt; omega
theorem lh_link (h : LH w wr l n b L M v u ps ms Bx) (hn : n + 3 ≤ 1073741824) {x y : Int} (hx : I64 x) (hy : I64 y) :
    Calls Tryz.prog 20 #[.pointer (some ⟨l, 0, none⟩), .int .i64 x, .int .i64 y] wr fun e w' => e = .returned (.bool (!(x == y) && !(L x y))) ∧ LH w w' l (n + 2) b (linkL L x y) M v u ps ms Bx := by
  obtain ⟨P, o, h1, h2, h3, h4, h5⟩ := h.obj
  refine (link_any o hn hx hy).mono ?_
  rintro e w' ⟨rfl, hd⟩
  exact ⟨rfl, h.prog h1 h2 h3 h4 h5 hd⟩
theorem lh_unlink (h : LH w wr l n b L M v u ps ms Bx) {x y : Int} (hx : I64 x) (hy : I64 y) :
    Calls Tryz.prog 26 #[.pointer (some ⟨l, 0, none⟩), .int .i64 x, .int .i64 y] wr fun e w' => e = .returned (.bool (L x y)) ∧ LH w w' l n b (cutL L x y) M v u ps ms Bx := by
  obtain ⟨P, o, h1, h2, h3, h4, h5⟩ := h.obj
  refine (unlink_any o hx hy).mono ?_
  rintro e w' ⟨rfl, hd⟩
  exact ⟨rfl, h.prog h1 h2 h3 h4 h5 hd⟩
theorem lh_watch (h : LH w wr l n b L M v u ps ms Bx) (hn : n + 3 ≤ 1073741824) {r x y : Int} (hr : I64 r) (hx : I64 x) (hy : I64 y) :
    Calls Tryz.prog 21 #[.pointer (some ⟨l, 0, none⟩), .int .i64 r, .int .i64 x, .int .i64 y] wr fun e w' => e = .returned (.bool (M r).isNone) ∧ LH w w' l (n + 2) b L (watchM M r x y) v u ps ms Bx := by
  obtain ⟨P, o, h1, h2, h3, h4, h5⟩ := h.obj
  refine (watch_any o hn hr hx hy).mono ?_
  rintro e w' ⟨rfl, hd⟩
  exact ⟨rfl, h.prog h1 h2 h3 h4 h5 hd⟩
theorem lh_unwatch (h : LH w wr l n b L M v u ps ms Bx) {r x : Int} (hr : I64 r) :
    Calls Tryz.prog 28 #[.pointer (some ⟨l, 0, none⟩), .int .i64 r, .int .i64 x] wr fun e w' => e = .returned (.bool (unwatchB M r x)) ∧ LH w w' l n b L (unwatchM M r x) v u ps ms Bx := by
  obtain ⟨P, o, h1, h2, h3, h4, h5⟩ := h.obj
  refine (unwatch_any o hr).mono ?_
  rintro e w' ⟨rfl, hd⟩
  exact ⟨rfl, h.prog h1 h2 h3 h4 h5 hd⟩
theorem lh_end (h : LH w wr l n b L M v u ps ms Bx) (hn : n ≤ 1073741824) {a : Int} (ha : I64 a) :
    Calls Tryz.prog 22 #[.pointer (some ⟨l, 0, none⟩), .int .i64 a] wr fun e w' => ∃ s xs t rs, e = .returned (.tuple #[s, t]) ∧ IR w' wr.heap.size s xs ∧ xs.Pairwise (· < ·) ∧ (∀ x, x ∈ xs ↔ L a x = true) ∧ MR w' wr.heap.size t (selM M a rs) ∧ rs.Pairwise (· < ·) ∧ (∀ x, x ∈ rs ↔ nam M a x = true) ∧ LH w w' l n b (endL L a xs) (endM M rs) v u ps ms Bx := by
  obtain ⟨P, o, h1, h2, h3, h4, h5⟩ := h.obj
  refine (end_any o hn ha).mono ?_
  rintro e w' ⟨s, xs, t, rs, rfl, g3, g4, g5, g6, g7, g8, P', g9, g10, g11, _, _⟩
  exact ⟨s, xs, t, rs, rfl, g3, g4, g5, g6, g7, g8, h.prog h1 h2 h3 h4 h5 ⟨P', g9, g10, g11⟩⟩
theorem pr_type {B : Nat} {v : Value} {xs : List (Int × Int)} {g : Nat} {c2 : Array Value} {T : TypeId} (h : PR wr B v xs) (hg : Cl wr g c2 T) (hT : T ≠ 115) : ¬ v.ownBlock = some g := by
  intro e
  rcases h.2 with ⟨e2, _⟩ | ⟨g5, cap, cur, e2, _, hg5, _⟩
  · rw [e2] at e; cases e
  · rw [e2] at e
    cases e
    exact hg.ne (T' := 115) hg5 hT rfl
/-- The reference has done something: its box, and the row of pairs, may have turned. -/
theorem LH.refd {w2 : World} {v' u' : Value} {ps' : List (Int × Int)} {ms' : List Mon} (h : LH w wr l n b L M v u ps ms Bx) (hu : UpP (fun x => x = b ∨ v.ownBlock = some x) wr w2) (hbx : Cl w2 b #[v', u'] 41) (hp : PR w2 w.heap.size v' ps') (hm : NR w2 w.heap.size u' ms')
    (hv : ∀ g, v'.ownBlock = some g → v.ownBlock = some g ∨ wr.heap.size ≤ g) (hn : ∀ g, u'.ownBlock = some g → u.ownBlock = some g ∨ wr.heap.size ≤ g) : LH w w2 l n b L M v' u' ps' ms' Bx := by
  obtain ⟨P, o, h1, h2, h3, h4, h5⟩ := h.obj
  have hP : ∀ x, P x → ¬ (x = b ∨ v.ownBlock = some x) := fun x hx e => by
    rcases e with e | e
    · exact h2 (e ▸ hx)
    · exact h3 x e hx
  have hzb : ∀ z cs, Bx z cs → ¬ (z = b ∨ v.ownBlock = some z) := by
    rintro z cs hz (e | e)
    · exact (h.boxz z cs hz).ne h.box (by decide) e
    · exact pr_type h.pr (h.boxz z cs hz) (by decide) e
  refine ⟨⟨P, o.mono hu hP, h1, h2, fun g hg hx => ?_, fun g hg hx => ?_, h5⟩, fun z cs hz => (h.boxz z cs hz).mono hu (hzb z cs hz), hbx, h.hb, hp, hm, ((h.up.toN (P := fun x => x = b ∨ v.ownBlock = some x)).trans hu).upd (fun x hx => ?_)⟩
  · rcases hv g hg with e | e
    · exact h3 g e hx
    · have := o.bnd g hx; omega
  · rcases hn g hg with e | e
    · exact h4 g e hx
    · have := o.bnd g hx; omega
  · rcases hx with rfl | hx
    · exact h.hb
    · exact (h.pr.own hx).1
theorem up_one {w2 : World} (h : Upd [b] wr w2) : UpP (fun x => x = b ∨ v.ownBlock = some x) wr w2 := h.toP.mono (fun x hx => Or.inl (by simpa using hx))

theorem lh_linkRef (h : LH w wr l n b L M v u ps ms Bx) {L0 : LF} (hs : SimL L0 ps) (hn : ps.length ≤ 1000) (x y : Int) :
    Calls Tryz.prog 31 #[.pointer (some ⟨b, 0, none⟩), .int .i64 x, .int .i64 y] wr fun e w' => e = .returned (.bool (!(x == y) && !(L0 x y))) ∧ ∃ v' ps', LH w w' l n b L M v' u ps' ms Bx ∧ SimL (linkL L0 x y) ps' ∧ ps'.length ≤ ps.length + 1 := by
  refine (linkRef_any wr w.heap.size b v u ps x y h.box h.pr h.up.size hn (pr_type h.pr h.box (by decide))).mono ?_
  rintro e w' (⟨hc, rfl, hu⟩ | ⟨hne, hc, rfl, v', h1, h2, h3, h4⟩)
  · have hb : (!(x == y) && !(L0 x y)) = false := by
      rcases hc with hc | hc
      · simp [hc]
      · by_cases hxy : x = y
        · simp [hxy]
        · rw [hs.has x y hxy] at hc
          simp [hc]
    rw [hb, hs.same hc]
    exact ⟨rfl, v, ps, h.upd hu, hs, Nat.le_succ _⟩
  · have hb : (!(x == y) && !(L0 x y)) = true := by
      rw [hs.has x y hne] at hc
      simp [hc, hne]
    rw [hb]
    refine ⟨rfl, v', _, h.refd h3 h1 h2 (h.nr.upP h3 (fun g hg => ?_)) (fun g hg => ?_) (fun g hg => Or.inl hg), hs.link hne hc, by simp⟩
    · rintro (e | e)
      · rcases h.nr.2 with ⟨e2, _⟩ | ⟨g5, cap, cur, e2, _, hg5, _⟩
        · rw [e2] at hg; cases hg
        · rw [e2] at hg
          cases hg
          exact h.box.ne (T' := 122) hg5 (by decide) e.symm
      · rcases h.nr.2 with ⟨e2, _⟩ | ⟨g5, cap, cur, e2, _, hg5, _⟩
        · rw [e2] at hg; cases hg
        · rw [e2] at hg
          cases hg
          exact pr_type h.pr hg5 (by decide) e
    · rcases h4 with e | ⟨g2, e, hl⟩
      · rw [e] at hg; exact Or.inl hg
      · rw [e] at hg; cases hg; exact Or.inr hl
theorem nr_type {B : Nat} {xs : List Mon} {g : Nat} {c2 : Array Value} {T : TypeId} (h : NR wr B v xs) (hg : Cl wr g c2 T) (hT : T ≠ 122) : ¬ v.ownBlock = some g := by
  intro e
  rcases h.2 with ⟨e2, _⟩ | ⟨g5, cap, cur, e2, _, hg5, _⟩
  · rw [e2] at e; cases e
  · rw [e2] at e
    cases e
    exact hg.ne (T' := 122) hg5 hT rfl
theorem LH.nr1 {w2 : World} (h : LH w wr l n b L M v u ps ms Bx) (hu : Upd [b] wr w2) : NR w2 w.heap.size u ms := h.nr.updS hu (fun g hg => by
  simp only [List.mem_singleton]
  exact fun e => nr_type h.nr h.box (by decide) (e ▸ hg))
theorem LH.pr1 {w2 : World} (h : LH w wr l n b L M v u ps ms Bx) (hu : Upd [b] wr w2) : PR w2 w.heap.size v ps := h.pr.updS hu (fun g hg => by
  simp only [List.mem_singleton]
  exact fun e => pr_type h.pr h.box (by decide) (e ▸ hg))
theorem lh_unlinkRef (h : LH w wr l n b L M v u ps ms Bx) {L0 : LF} (hs : SimL L0 ps) (hn : ps.length ≤ 1000) (x y : Int) :
    Calls Tryz.prog 27 #[.pointer (some ⟨b, 0, none⟩), .int .i64 x, .int .i64 y] wr fun e w' => e = .returned (.bool (L0 x y)) ∧ ∃ v' ps', LH w w' l n b L M v' u ps' ms Bx ∧ SimL (cutL L0 x y) ps' ∧ ps'.length ≤ ps.length + 1 := by
  refine (unlinkRef_any wr w.heap.size b v u ps x y h.box h.pr h.up.size hn).mono ?_
  rintro e w' (⟨hc, rfl, hu⟩ | ⟨k, hk, he, rfl, v', h1, h2, h3⟩)
  · obtain ⟨e1, e2⟩ := hs.cut_no hc
    rw [e1, e2]
    exact ⟨rfl, v, ps, h.upd hu, hs, Nat.le_succ _⟩
  · rw [hs.unlinked hk he]
    exact ⟨rfl, v', _, h.refd (up_one h3) h1 (h2.base h.up.size) (h.nr1 h3) (fun g hg => Or.inr (h2.own hg).1) (fun g hg => Or.inl hg), hs.unlink hk he, by simp; omega⟩
theorem lh_watchRef (h : LH w wr l n b L M v u ps ms Bx) {M0 : MF} (hs : MonsOf M0 ms) (hn : ms.length ≤ 1000) (r x y : Int) :
    Calls Tryz.prog 30 #[.pointer (some ⟨b, 0, none⟩), .int .i64 r, .int .i64 x, .int .i64 y] wr fun e w' => e = .returned (.bool (M0 r).isNone) ∧ ∃ u' ms', LH w w' l n b L M v u' ps ms' Bx ∧ MonsOf (watchM M0 r x y) ms' ∧ ms'.length ≤ ms.length + 1 := by
  refine (watchRef_any wr w.heap.size b v u ms r x y h.box h.nr h.up.size hs.1 hn).mono ?_
  rintro e w' ⟨t, ht, hlo, hhi, (⟨hj, he, rfl, hu⟩ | ⟨hne, rfl, u', h1, h2, h3⟩)⟩
  · obtain ⟨e1, e2⟩ := hs.watched (a := x) (b := y) hj he
    rw [e1, e2]
    exact ⟨rfl, u, ms, h.upd hu, hs, Nat.le_succ _⟩
  · obtain ⟨e1, e2⟩ := hs.watch (a := x) (b := y) ht hlo hhi hne
    rw [e1]
    exact ⟨rfl, u', _, h.refd (up_one h3) h1 (h.pr1 h3) (h2.base h.up.size) (fun g hg => Or.inl hg) (fun g hg => Or.inr (h2.own hg).1), e2, by simp; omega⟩
theorem lh_unwatchRef (h : LH w wr l n b L M v u ps ms Bx) {M0 : MF} (hs : MonsOf M0 ms) (hn : ms.length ≤ 1000) (r x : Int) :
    Calls Tryz.prog 29 #[.pointer (some ⟨b, 0, none⟩), .int .i64 r, .int .i64 x] wr fun e w' => e = .returned (.bool (unwatchB M0 r x)) ∧ ∃ u' ms', LH w w' l n b L M v u' ps ms' Bx ∧ MonsOf (unwatchM M0 r x) ms' ∧ ms'.length ≤ ms.length + 1 := by
  refine (unwatchRef_any wr w.heap.size b v u ms r x h.box h.nr h.up.size hn).mono ?_
  rintro e w' (⟨hno, rfl, hu⟩ | ⟨k, hk, h5, h6, rfl, u', h1, h2, h3⟩)
  · obtain ⟨e1, e2⟩ := hs.unwatch_no hno
    rw [e1, e2]
    exact ⟨rfl, u, ms, h.upd hu, hs, Nat.le_succ _⟩
  · obtain ⟨e1, e2⟩ := hs.unwatch hk h5 h6
    rw [e1]
    exact ⟨rfl, u', _, h.refd (up_one h3) h1 (h.pr1 h3) (h2.base h.up.size) (fun g hg => Or.inl hg) (fun g hg => Or.inr (h2.own hg).1), e2, by simp; omega⟩
theorem lh_endRef (h : LH w wr l n b L M v u ps ms Bx) {L0 : LF} {M0 : MF} (hs : SimL L0 ps) (hm : MonsOf M0 ms) (hn1 : ps.length ≤ 1000) (hn2 : ms.length ≤ 1000) (a : Int) :
    Calls Tryz.prog 24 #[.pointer (some ⟨b, 0, none⟩), .int .i64 a] wr fun e w' => ∃ s xs t v' u' ps' ms', e = .returned (.tuple #[s, t]) ∧ IR w' wr.heap.size s xs ∧ xs.Pairwise (· < ·) ∧ (∀ x, x ∈ xs ↔ L0 a x = true) ∧ NR w' wr.heap.size t (ms.filter fun m => m.2.2 == a) ∧ LH w w' l n b L M v' u' ps' ms' Bx ∧ SimL (endL L0 a xs) ps' ∧ (∀ rs : List Int, (∀ x, x ∈ rs ↔ nam M0 a x = true) → MonsOf (endM M0 rs) ms') ∧ ps'.length ≤ ps.length ∧ ms'.length ≤ ms.length ∧ Upd [b] wr w' := by
  refine (endRef_any wr w.heap.size b v u ps ms a h.box h.pr h.nr h.up.size hs.1 hn1 hn2).mono ?_
  rintro e w' ⟨s, xs, t, v', u', rfl, h1, h2, h3, h4, h5, h6, h7, h8⟩
  have hmem := hs.of h2
  exact ⟨s, xs, t, v', u', _, _, rfl, h1, h2.1, hmem, h3, h.refd (up_one h7) h4 h5 (h6.base h.up.size) h8 (fun g hg => Or.inr (h6.own hg).1), hs.ended hmem, fun rs hr => hm.ended hr, without_le _ _ _, List.length_filter_le _ _, h7⟩

end Go.Proofs.YtofcniodobjopaaGreat
