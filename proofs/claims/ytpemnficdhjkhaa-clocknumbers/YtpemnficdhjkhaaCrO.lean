/- The program's clock and the document's, side by side. -/
import Derived.Test.YtpemnficdhjkhaaCrW
namespace Go.Proofs.Ytpemnficdhjkhaa
open Go.RowKit Go.Maps

/-- At c the program's clock (now, T), at b the document's (nr, U, the list L); all of it new since w. -/
structure LC (w wr : World) (c n b : Nat) (P : Nat → Prop) (now nr : Int) (T U : TF) (lv : Value) (L : List (Int × Int)) : Prop where
  own : Own w wr c n P now T
  box : Cl wr b #[.int .i64 nr, lv] 28
  row : PR wr w.heap.size lv L
  outb : ¬ P b
  outl : ∀ g, lv.ownBlock = some g → ¬ P g
  geb : w.heap.size ≤ b
  sim : SimC U L
  len : L.length ≤ n
/-- The caller's boxes stay, and stay outside. -/
def Kp (wr : World) (P : Nat → Prop) (w' : World) (P' : Nat → Prop) : Prop := ∀ z cs, Cl wr z cs 31 → ¬ P z → Cl w' z cs 31 ∧ ¬ P' z
theorem Kp.refl (w : World) (P : Nat → Prop) : Kp w P w P := fun _ _ h k => ⟨h, k⟩
theorem Kp.trans {a b c : World} {P Q R : Nat → Prop} (h : Kp a P b Q) (k : Kp b Q c R) : Kp a P c R := fun z cs h1 h2 => k z cs (h z cs h1 h2).1 (h z cs h1 h2).2
theorem Kp.upd {w w' : World} {P : Nat → Prop} (hu : Upd [] w w') : Kp w P w' P := fun _ _ h k => ⟨h.upd hu (by simp), k⟩

variable {w wr : World} {c n b : Nat} {P : Nat → Prop} {now nr : Int} {T U : TF} {lv : Value} {L : List (Int × Int)}
theorem LC.upd (h : LC w wr c n b P now nr T U lv L) {w2 : World} (hu : Upd [] wr w2) : LC w w2 c n b P now nr T U lv L :=
  ⟨h.own.upd hu, h.box.upd hu (by simp), h.row.upd hu, h.outb, h.outl, h.geb, h.sim, h.len⟩
theorem LC.le (h : LC w wr c n b P now nr T U lv L) {m : Nat} (hm : n ≤ m) : LC w wr c m b P now nr T U lv L :=
  ⟨h.own.le hm, h.box, h.row, h.outb, h.outl, h.geb, h.sim, Nat.le_trans h.len hm⟩
/-- The program's half has turned. -/
theorem LC.turn (h : LC w wr c n b P now nr T U lv L) {w2 : World} {m : Nat} {P' : Nat → Prop} {now' : Int} {T' : TF} (ho : Own w w2 c m P' now' T') (hu : UpP P wr w2) (hP : ∀ x, P' x → P x ∨ wr.heap.size ≤ x) (hm : n ≤ m) :
    LC w w2 c m b P' now' nr T' U lv L ∧ Kp wr P w2 P' := by
  refine ⟨⟨ho, h.box.mono hu h.outb, h.row.upP hu h.outl, fun hb => ?_, fun g hg hp => ?_, h.geb, h.sim, Nat.le_trans h.len hm⟩, fun z cs hz hn => ⟨hz.mono hu hn, fun hp => ?_⟩⟩
  · rcases hP b hb with h1 | h1
    · exact h.outb h1
    · have := h.box.lt; omega
  · rcases hP g hp with h1 | h1
    · exact h.outl g hg h1
    · have := (h.row.own hg).2; omega
  · rcases hP z hp with h1 | h1
    · exact hn h1
    · have := hz.lt; omega
theorem lc_set (h : LC w wr c n b P now nr T U lv L) (hn : n + 1 ≤ 1073741824) {pid : Int} (hp : I64 pid) (after : Int) :
    Calls Try.prog 13 #[.pointer (some ⟨c, 0, none⟩), .int .i64 pid, .int .i64 after] wr fun e w' => e = .returned (.bool (setB T pid after)) ∧ ∃ P', LC w w' c (n + 1) b P' now nr (setT T now pid after) U lv L ∧ Kp wr P w' P' := by
  refine (own_set h.own hn hp after).mono ?_
  rintro e w' ⟨rfl, P', h1, h2, h3⟩
  exact ⟨rfl, P', h.turn h1 h2 h3 (by omega)⟩
theorem lc_drop (h : LC w wr c n b P now nr T U lv L) (hn : n ≤ 1073741824) {pid : Int} (hp : I64 pid) :
    Calls Try.prog 14 #[.pointer (some ⟨c, 0, none⟩), .int .i64 pid] wr fun e w' => e = .returned (.bool (T pid).isSome) ∧ ∃ P', LC w w' c n b P' now nr (at1 T pid none) U lv L ∧ Kp wr P w' P' := by
  refine (own_drop h.own hn hp).mono ?_
  rintro e w' ⟨rfl, P', h1, h2, h3⟩
  exact ⟨rfl, P', h.turn h1 h2 h3 (Nat.le_refl _)⟩
theorem lc_tick (h : LC w wr c n b P now nr T U lv L) (hn : n ≤ 1073741824) {m : Int} (h0 : 0 ≤ m) (h1 : m ≤ 1099511627776 - now) :
    Calls Try.prog 15 #[.pointer (some ⟨c, 0, none⟩), .int .i64 m] wr fun e w' => ∃ v ys, e = .returned (.tuple #[v, .bool true]) ∧ AR w' wr.heap.size v ys ∧ Due T (now + m) ys ∧ LC w w' c n b P (now + m) nr (tickT T (now + m)) U lv L ∧ Kp wr P w' P ∧ b < wr.heap.size := by
  refine (own_tick h.own hn h0 h1).mono ?_
  rintro e w' ⟨v, ys, rfl, h2, h3, _, h5, h6⟩
  exact ⟨v, ys, rfl, h2, h3, (h.turn h5 h6 (fun x hx => Or.inl hx) (Nat.le_refl _)).1, (h.turn h5 h6 (fun x hx => Or.inl hx) (Nat.le_refl _)).2, h.box.lt⟩

/-! ### the document's half -/
/-- The document's half has turned. -/
theorem LC.turnR (h : LC w wr c n b P now nr T U lv L) {w2 : World} {nr' : Int} {U' : TF} {lv' : Value} {L' : List (Int × Int)} (hb : Cl w2 b #[.int .i64 nr', lv'] 28) (hr : PR w2 w.heap.size lv' L') (hu : UpP (fun z => z = b ∨ lv.ownBlock = some z) wr w2) (hf : ∀ g, lv'.ownBlock = some g → lv.ownBlock = some g ∨ wr.heap.size ≤ g) (hs : SimC U' L') (hl : L'.length ≤ n) :
    LC w w2 c n b P now nr' T U' lv' L' ∧ Kp wr P w2 P := by
  have hd : ∀ x, P x → ¬ (x = b ∨ lv.ownBlock = some x) := fun x hx hc => by
    rcases hc with rfl | hc
    · exact h.outb hx
    · exact h.outl x hc hx
  have hge : ∀ x, (x = b ∨ lv.ownBlock = some x) → w.heap.size ≤ x := fun x hx => by
    rcases hx with rfl | hx
    · exact h.geb
    · exact (h.row.own hx).1
  refine ⟨⟨h.own.past hu hd hge, hb, hr, h.outb, fun g hg hp => ?_, h.geb, hs, hl⟩, fun z cs hz hn => ⟨hz.mono hu (fun hc => ?_), hn⟩⟩
  · rcases hf g hg with h1 | h1
    · exact h.outl g h1 hp
    · have := h.own.ck.bnd g hp; omega
  · rcases hc with rfl | hc
    · exact hz.ne h.box (by decide) rfl
    · rcases h.row.2 with ⟨h1, _⟩ | ⟨g', cap', cur', e, _, hg', _⟩
      · rw [h1] at hc; cases hc
      · rw [e] at hc; cases hc
        exact hz.ne (T' := 50) hg' (by decide) rfl
theorem setB_ref {U : TF} {L : List (Int × Int)} (hs : SimC U L) (x af : Int) : setB U x af = true ↔ ¬ (af < 0 ∨ 1099511627776 < af) ∧ ∀ p ∈ L, p.2 ≠ x := by
  unfold setB
  simp only [Bool.and_eq_true, decide_eq_true_eq, Option.isNone_iff_eq_none]
  constructor
  · rintro ⟨h1, h2, h3⟩
    refine ⟨by omega, fun p hp e => ?_⟩
    have := (hs.mem p.2 p.1).2 hp
    rw [e, h1] at this; cases this
  · rintro ⟨h1, h2⟩
    exact ⟨hs.nope h2, by omega, by omega⟩
theorem lc_setR (h : LC w wr c (n + 1) b P now nr T U lv L) (hn : n ≤ 900) (hl : L.length ≤ n) (h0 : 0 ≤ nr) (h1 : nr ≤ 1099511627776) (x af : Int) :
    Calls Try.prog 19 #[.pointer (some ⟨b, 0, none⟩), .int .i64 x, .int .i64 af] wr fun e w' => e = .returned (.bool (setB U x af)) ∧ ∃ lv' L', LC w w' c (n + 1) b P now nr T (setT U nr x af) lv' L' ∧ Kp wr P w' P := by
  refine (setRef_any wr w.heap.size b nr lv L x af h.box h.row h.own.up.size (by omega) (h.row.neC h.box) h0 h1).mono ?_
  rintro e w' (⟨hno, rfl, rfl⟩ | ⟨ha, hno, rfl, lv', hb, hr, hu, hf⟩)
  · have hf : setB U x af = false := by
      cases hb : setB U x af
      · rfl
      · have := (setB_ref h.sim x af).1 hb
        rcases hno with h2 | ⟨p, hp, he⟩
        · exact absurd h2 this.1
        · exact absurd he (this.2 p hp)
    unfold setT
    rw [hf, if_neg (by decide)]
    exact ⟨rfl, lv, L, h, Kp.refl _ _⟩
  · have ht : setB U x af = true := (setB_ref h.sim x af).2 ⟨ha, hno⟩
    unfold setT
    rw [ht, if_pos rfl]
    exact ⟨rfl, lv', _, h.turnR hb hr hu (fun g hg => by
      rcases hf with e | ⟨g', e, hge⟩
      · exact Or.inl (e ▸ hg)
      · rw [e] at hg; cases hg; exact Or.inr hge) (h.sim.set (h.sim.nope hno)) (by simp; omega)⟩
theorem lc_dropR (h : LC w wr c n b P now nr T U lv L) (hn : n ≤ 900) (x : Int) :
    Calls Try.prog 18 #[.pointer (some ⟨b, 0, none⟩), .int .i64 x] wr fun e w' => e = .returned (.bool (U x).isSome) ∧ ∃ lv' L', LC w w' c n b P now nr T (at1 U x none) lv' L' ∧ Kp wr P w' P := by
  have hlen := h.len
  refine (dropRef_any wr w.heap.size b nr lv L x h.box h.row (by omega)).mono ?_
  rintro e w' (⟨hno, rfl, rfl⟩ | ⟨k, hk, hx, rfl, lv', hb, hr, hu⟩)
  · have hU := h.sim.nope hno
    have he : at1 U x none = U := by
      funext y
      by_cases e : y = x
      · subst e; rw [at1_same, hU]
      · rw [at1_other _ _ e]
    rw [hU, he]
    exact ⟨rfl, lv, L, h, Kp.refl _ _⟩
  · have hU : U x = some L[k].1 := by rw [← hx]; exact h.sim.at hk
    rw [hU]
    have hs := h.sim.drop hk (t := L[k].1) (x := x) (by rw [← hx])
    exact ⟨rfl, lv', _, h.turnR hb (hr.base h.own.up.size) (hu.toP.mono (fun z hz => Or.inl (by simpa using hz))) (fun g hg => Or.inr (hr.own hg).1) hs (by simp; omega)⟩
theorem lc_tickR (h : LC w wr c n b P now nr T U lv L) (hn : n ≤ 900) (h0 : 0 ≤ nr) (h1 : nr ≤ 1099511627776) (m : Int) :
    Calls Try.prog 17 #[.pointer (some ⟨b, 0, none⟩), .int .i64 m] wr fun e w' =>
      ((m < 0 ∨ 1099511627776 - nr < m) ∧ e = .returned (.tuple #[.slice none 0 0, .bool false]) ∧ w' = wr) ∨
      (¬ (m < 0 ∨ 1099511627776 - nr < m) ∧ ∃ v ys, e = .returned (.tuple #[v, .bool true]) ∧ AR w' 0 v ys ∧ Due U (nr + m) ys ∧ ∃ lv' L', LC w w' c n b P now (nr + m) T (tickT U (nr + m)) lv' L' ∧ Kp wr P w' P ∧ Upd [b] wr w') := by
  have hlen := h.len
  refine (tickRef_any wr w.heap.size b nr lv U L m h.box h.row h.own.up.size (by omega) h.sim h0 h1).mono ?_
  rintro e w' (h2 | ⟨ha, v, ys, lv', L', rfl, ⟨gb, hrow, _⟩, hd, hb, hr, hs, hl, hf, hu⟩)
  · exact Or.inl h2
  · have ht := h.turnR hb hr (hu.toP.mono (fun z hz => Or.inl (by simpa using hz))) hf hs (Nat.le_trans hl h.len)
    exact Or.inr ⟨ha, v, ys, rfl, hrow.ar, hd, lv', L', ht.1, ht.2, hu⟩
theorem lc_waitsR (h : LC w wr c n b P now nr T U lv L) (hn : n ≤ 900) :
    Calls Try.prog 10 #[.pointer (some ⟨b, 0, none⟩)] wr fun e w' => ∃ v ys, e = .returned v ∧ AR w' 0 v ys ∧ Srt U ys ∧ LC w w' c n b P now nr T U lv L ∧ Upd [] wr w' := by
  have hlen := h.len
  refine (waitsRef_any wr w.heap.size b nr lv U L h.box h.row (by omega) h.sim).mono ?_
  rintro e w' ⟨v, ys, rfl, ⟨gb, hrow, _⟩, hs, hu⟩
  exact ⟨v, ys, rfl, hrow.ar, hs, h.upd hu, hu⟩

end Go.Proofs.Ytpemnficdhjkhaa
