/- Names of one's own, the program's and the document's side by side. -/
import Derived.Test.YtpojkmpimnnjiaaGreatNrP
import Derived.Test.YtpojkmpimnnjiaaGreatNmK
namespace Go.Proofs.YtpojkmpimnnjiaaGreat
open Go.RowKit Go.Maps

theorem NmO.keepS {S : List Nat} {w w' : World} {l n b1 b2 : Nat} {F : NF} {G : PF} (o : NmO w l n b1 b2 F G) (hu : Upd S w w') (hl : l ∉ S) (h1 : b1 ∉ S) (h2 : b2 ∉ S) : NmO w' l n b1 b2 F G :=
  ⟨o.row.upd hu hl, MapB.upP o.byN hu.toP h1, MapB.upP o.byP hu.toP h2, o.ne, o.two⟩

/-- The caller's boxes and rows of texts stay. -/
def Kd (w w' : World) : Prop := (∀ z cs, Cl w z cs 33 → Cl w' z cs 33) ∧ ∀ v xs, TR w v xs → TR w' v xs
theorem Kd.refl (w : World) : Kd w w := ⟨fun _ _ h => h, fun _ _ h => h⟩
theorem Kd.upd {w w' : World} (hu : Upd [] w w') : Kd w w' := ⟨fun _ _ h => h.upd hu (by simp), fun _ _ h => h.upd hu⟩
theorem Kd.trans {a b c : World} (h : Kd a b) (k : Kd b c) : Kd a c := ⟨fun z cs h1 => k.1 z cs (h.1 z cs h1), fun v xs h1 => k.2 v xs (h.2 v xs h1)⟩
theorem Kd.of {S : List Nat} {w w' : World} (hu : Upd S w w') (h1 : ∀ z cs, Cl w z cs 33 → z ∉ S) (h2 : ∀ z cs, Cl w z cs 9 → z ∉ S) : Kd w w' :=
  ⟨fun z cs h => h.upd hu (h1 z cs h), fun v xs h => by
    rcases h with h | ⟨g, c, cs, e, hc, r⟩
    · exact Or.inl h
    · exact Or.inr ⟨g, c, cs, e, hc.upd hu (h2 g cs hc), r⟩⟩

/-- The program's half tells F and G, the document's row H. -/
structure LN (w wr : World) (l n b : Nat) (F : NF) (G : PF) (H : NF) (lv : Value) (L : List Nd) : Prop where
  obj : ∃ b1 b2, NmO wr l n b1 b2 F G ∧ w.heap.size ≤ b1 ∧ w.heap.size ≤ b2
  box : Cl wr b #[lv] 30
  row : MR wr w.heap.size lv L
  hb : w.heap.size ≤ b
  up : Upd [] w wr
  sim : SimN H L

variable {w wr : World} {l n b : Nat} {F : NF} {G : PF} {H : NF} {lv : Value} {L : List Nd}
theorem LN.upd (h : LN w wr l n b F G H lv L) {w2 : World} (hu : Upd [] wr w2) : LN w w2 l n b F G H lv L := by
  obtain ⟨b1, b2, o, h1, h2⟩ := h.obj
  exact ⟨⟨b1, b2, o.upd hu, h1, h2⟩, h.box.upd hu (by simp), h.row.upd hu, h.hb, h.up.trans hu, h.sim⟩
theorem LN.le (h : LN w wr l n b F G H lv L) {m : Nat} (hm : n ≤ m) : LN w wr l m b F G H lv L := by
  obtain ⟨b1, b2, o, h1, h2⟩ := h.obj
  exact ⟨⟨b1, b2, o.le hm, h1, h2⟩, h.box, h.row, h.hb, h.up, h.sim⟩
theorem LN.two (h : LN w wr l n b F G H lv L) : ∀ s p, F s = some p ↔ G p = some s := by
  obtain ⟨b1, b2, o, _⟩ := h.obj
  exact o.two
theorem mr_cl {w : World} {B : Nat} {v : Value} {L : List Nd} (h : MR w B v L) {g : Nat} (hg : v.ownBlock = some g) : ∃ cur, Cl w g cur 42 := by
  rcases h.2 with ⟨h2, _⟩ | ⟨g', cap, cur, rfl, _, hc, _⟩
  · rw [h2] at hg; cases hg
  · cases hg; exact ⟨cur, hc⟩
/-- The program's half has turned. -/
theorem LN.turn (h : LN w wr l n b F G H lv L) {w2 : World} {b1 b2 n' : Nat} {F' : NF} {G' : PF} (o : NmO wr l n b1 b2 F G) (h1 : w.heap.size ≤ b1) (h2 : w.heap.size ≤ b2) (o2 : NmO w2 l n' b1 b2 F' G') (hu : Upd [b1, b2] wr w2) : LN w w2 l n' b F' G' H lv L ∧ Kd wr w2 := by
  have e1 := MapB.ne o.byN h.box
  have e2 := MapB.ne o.byP h.box
  have hk : ∀ z cs U, Cl wr z cs U → z ∉ [b1, b2] := fun z cs U hz => by
    have e1 := MapB.ne o.byN hz
    have e2 := MapB.ne o.byP hz
    simp
    exact ⟨fun e => e1 e.symm, fun e => e2 e.symm⟩
  refine ⟨?_, Kd.of hu (fun z cs hz => hk z cs _ hz) (fun z cs hz => hk z cs _ hz)⟩
  refine ⟨⟨b1, b2, o2, h1, h2⟩, h.box.upd hu (by simp; exact ⟨fun e => e1 e.symm, fun e => e2 e.symm⟩), h.row.updS hu (fun g hg hm => ?_), h.hb, h.up.then hu (fun x hx => Or.inl ?_), h.sim⟩
  · obtain ⟨cur, hc⟩ := mr_cl h.row hg
    simp at hm
    rcases hm with rfl | rfl
    · exact MapB.ne o.byN hc rfl
    · exact MapB.ne o.byP hc rfl
  · simp at hx
    rcases hx with rfl | rfl <;> assumption
/-- The document's half has turned. -/
theorem LN.turnR (h : LN w wr l n b F G H lv L) {w2 : World} {H' : NF} {lv' : Value} {L' : List Nd} (hb : Cl w2 b #[lv'] 30) (hr : MR w2 wr.heap.size lv' L') (hu : Upd [b] wr w2) (hs : SimN H' L') : LN w w2 l n b F G H' lv' L' ∧ Kd wr w2 := by
  obtain ⟨b1, b2, o, h1, h2⟩ := h.obj
  have e1 := MapB.ne o.byN h.box
  have e2 := MapB.ne o.byP h.box
  have e3 : l ≠ b := fun e => (h.box.ne o.row (by decide)) e.symm
  refine ⟨?_, Kd.of hu (fun z cs hz => by have := hz.ne h.box (by decide); simpa using this) (fun z cs hz => by have := hz.ne h.box (by decide); simpa using this)⟩
  refine ⟨⟨b1, b2, o.keepS hu (by simpa using e3) (by simpa using e1) (by simpa using e2), h1, h2⟩, hb, hr.base h.up.size, h.hb, h.up.then hu (fun x hx => Or.inl ?_), hs⟩
  simp at hx
  subst hx
  exact h.hb

/-- Who ends has no name any more. -/
def endF (F : NF) (o : Option BS) : NF := match o with | some s => at1 F s none | none => F
theorem ln_end (h : LN w wr l n b F G H lv L) {p : Int} (hp : I64 p) :
    Calls Tryz.prog 14 #[.pointer (some ⟨l, 0, none⟩), .int .i64 p] wr fun e w' => ∃ v, e = .returned v ∧ TR w' v (G p).toList ∧ LN w w' l n b (endF F (G p)) (at1 G p none) H lv L ∧ Kd wr w' := by
  obtain ⟨b1, b2, o, h1, h2⟩ := h.obj
  refine (end_any o hp).mono ?_
  rintro e w' ⟨he, o2, hu⟩
  have ho := h.turn o h1 h2 o2 hu
  cases hG : G p with
  | none =>
    rw [hG] at he ho
    exact ⟨_, he, TR.nil w', ho.1, ho.2⟩
  | some s =>
    rw [hG] at he ho
    obtain ⟨g, hg, he, hc⟩ := he
    exact ⟨_, he, TR.one hc, ho.1, ho.2⟩
theorem ln_take (h : LN w wr l n b F G H lv L) {s : BS} (hs : okB s) :
    Calls Tryz.prog 18 #[.pointer (some ⟨l, 0, none⟩), encStr s] wr fun e w' => e = .returned (.bool (F s).isSome) ∧ ∃ G', LN w w' l n b (at1 F s none) G' H lv L ∧ Kd wr w' := by
  obtain ⟨b1, b2, o, h1, h2⟩ := h.obj
  refine (take_any o hs).mono ?_
  rintro e w' ⟨rfl, o2, hu⟩
  exact ⟨rfl, _, (h.turn o h1 h2 o2 hu).1, (h.turn o h1 h2 o2 hu).2⟩
theorem ln_put (h : LN w wr l n b F G H lv L) (hn : n < 1000000000) {s : BS} (hs : s.length ≤ 1000000000) {p : Int} (hp : I64 p) :
    Calls Tryz.prog 12 #[.pointer (some ⟨l, 0, none⟩), encStr s, .int .i64 p] wr fun e w' => e = .returned (.bool ((F s).isNone && (G p).isNone)) ∧ ∃ G', LN w w' l (n + 1) b (if ((F s).isNone && (G p).isNone) = true then at1 F s (some p) else F) G' H lv L ∧ Kd wr w' := by
  obtain ⟨b1, b2, o, h1, h2⟩ := h.obj
  cases hb : ((F s).isNone && (G p).isNone) with
  | true =>
    simp only [Bool.and_eq_true, Option.isNone_iff_eq_none] at hb
    refine (put_new o hn hs hp hb.1 hb.2).mono ?_
    rintro e w' ⟨rfl, o2, hu⟩
    have ht := h.turn o h1 h2 o2 hu
    exact ⟨rfl, _, by simpa using ht.1, ht.2⟩
  | false =>
    refine (put_old o (Nat.le_trans hs (by decide)) hp hb).mono ?_
    rintro e w' ⟨rfl, hu⟩
    exact ⟨rfl, _, by simpa using (h.upd hu).le (Nat.le_succ n), Kd.upd hu⟩
theorem ln_find (h : LN w wr l n b F G H lv L) {s : BS} (hs : okB s) :
    Calls Tryz.prog 13 #[.pointer (some ⟨l, 0, none⟩), encStr s] wr fun e w' => e = .returned (.tuple #[.int .i64 ((F s).getD 0), .bool (F s).isSome]) ∧ LN w w' l n b F G H lv L ∧ Kd wr w' := by
  obtain ⟨b1, b2, o, h1, h2⟩ := h.obj
  refine (find_any o hs).mono ?_
  rintro e w' ⟨rfl, hu⟩
  exact ⟨rfl, h.upd hu, Kd.upd hu⟩
theorem ln_findR (h : LN w wr l n b F G H lv L) (hn : L.length ≤ 1000) (s : BS) :
    Calls Tryz.prog 20 #[.pointer (some ⟨b, 0, none⟩), encStr s] wr fun e w' => e = .returned (.tuple #[.int .i64 ((H s).getD 0), .bool (H s).isSome]) ∧ w' = wr :=
  findRef_any wr w.heap.size b lv H L s h.box h.row h.sim hn
theorem ln_takeR (h : LN w wr l n b F G H lv L) (hn : L.length ≤ 1000) (s : BS) :
    Calls Tryz.prog 19 #[.pointer (some ⟨b, 0, none⟩), encStr s] wr fun e w' => e = .returned (.bool (H s).isSome) ∧ ∃ lv' L', L'.length ≤ L.length ∧ LN w w' l n b F G (at1 H s none) lv' L' ∧ Kd wr w' := by
  refine (takeRef_any wr w.heap.size b lv L s h.box h.row hn).mono ?_
  rintro e w' (⟨hno, rfl, rfl⟩ | ⟨k, hk, rfl, rfl, v', h1, h2, h3⟩)
  · have hH := h.sim.nope hno
    have e1 : at1 H s none = H := by
      funext t
      by_cases ht : t = s
      · subst ht; rw [at1_same, hH]
      · rw [at1_other _ _ ht]
    rw [e1, hH]
    exact ⟨rfl, lv, L, Nat.le_refl _, h, Kd.refl _⟩
  · refine ⟨by rw [h.sim.at hk]; rfl, v', _, ?_, (h.turnR h1 h2 h3 (h.sim.drop hk)).1, (h.turnR h1 h2 h3 (h.sim.drop hk)).2⟩
    simp
    omega
theorem ln_endR (h : LN w wr l n b F G H lv L) (hn : L.length ≤ 1000) {K : PF} (hK : ∀ s q, H s = some q ↔ K q = some s) (p : Int) :
    Calls Tryz.prog 17 #[.pointer (some ⟨b, 0, none⟩), .int .i64 p] wr fun e w' => ∃ v, e = .returned v ∧ TR w' v (K p).toList ∧ ∃ lv' L', L'.length ≤ L.length ∧ LN w w' l n b F G (endF H (K p)) lv' L' ∧ Kd wr w' := by
  refine (endRef_any wr w.heap.size b lv L p h.box h.row hn).mono ?_
  rintro e w' (⟨hno, rfl, rfl⟩ | ⟨s, k, hk, hm, rfl, ⟨vr, rfl, ht⟩, v', h1, h2, h3⟩)
  · have hKp : K p = none := (h.sim.pid hK).2 hno
    rw [hKp]
    exact ⟨_, rfl, TR.nil _, lv, L, Nat.le_refl _, h, Kd.refl _⟩
  · have hKp : K p = some L[k].1 := (hK _ _).1 ((h.sim.mem _ _).2 hm)
    rw [hKp]
    refine ⟨_, rfl, ht, v', _, ?_, (h.turnR h1 h2 h3 (h.sim.drop hk)).1, (h.turnR h1 h2 h3 (h.sim.drop hk)).2⟩
    simp
    omega
theorem ln_putR (h : LN w wr l n b F G H lv L) (hn : L.length ≤ 1000) {K : PF} (hK : ∀ s q, H s = some q ↔ K q = some s) (s : BS) (p : Int) :
    Calls Tryz.prog 21 #[.pointer (some ⟨b, 0, none⟩), encStr s, .int .i64 p] wr fun e w' => e = .returned (.bool ((H s).isNone && (K p).isNone)) ∧ ∃ lv' L', L'.length ≤ L.length + 1 ∧ LN w w' l n b F G (if ((H s).isNone && (K p).isNone) = true then at1 H s (some p) else H) lv' L' ∧ Kd wr w' := by
  refine (putRef_any wr w.heap.size b lv L s p h.box h.row h.sim.up hn).mono ?_
  rintro e w' (⟨⟨m, hm, hor⟩, rfl, rfl⟩ | ⟨hno, rfl, a, v', ha, h1, h2, h3⟩)
  · have hf : ((H s).isNone && (K p).isNone) = false := by
      have h0 := (h.sim.mem m.1 m.2).2 hm
      rcases hor with e | e
      · rw [← e, h0]; rfl
      · rw [← e, (hK _ _).1 h0]; simp
    rw [hf]
    exact ⟨rfl, lv, L, Nat.le_succ _, by simpa using h, Kd.refl _⟩
  · have hH := h.sim.nope (fun m hm => (hno m hm).1)
    have hKp : K p = none := (h.sim.pid hK).2 (fun m hm => (hno m hm).2)
    have hf : ((H s).isNone && (K p).isNone) = true := by rw [hH, hKp]; rfl
    rw [hf]
    refine ⟨rfl, v', _, ?_, by simpa using (h.turnR h1 h2 h3 (h.sim.put ha hH)).1, (h.turnR h1 h2 h3 (h.sim.put ha hH)).2⟩
    simp
    omega

end Go.Proofs.YtpojkmpimnnjiaaGreat
