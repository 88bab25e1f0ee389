/- A clock of one's own beside a row of twelve times. -/
import Derived.Test.YtpdmdcnangldcaaCkA
namespace Go.Proofs.Ytpdmdcnangldcaa
open Go.RowKit Go.Maps

/-- The times that were written down for twelve processes. -/
def dv (U : TF) (p : Nat) : Int := (U p).getD (-1)
def Dw (w : World) (D : Nat) (U : TF) : Prop := ∃ cs, Cl w D cs 37 ∧ cs.size = 12 ∧ ∀ p : Nat, p < 12 → cs[p]? = some (.int .i64 (dv U p))
theorem Dw.lt {w : World} {D : Nat} {U : TF} (h : Dw w D U) : D < w.heap.size := by
  obtain ⟨cs, h, _⟩ := h
  exact h.lt
theorem Dw.mono {P : Nat → Prop} {w w' : World} {D : Nat} {U : TF} (h : Dw w D U) (hu : UpP P w w') (hn : ¬ P D) : Dw w' D U := by
  obtain ⟨cs, h, r⟩ := h
  exact ⟨cs, h.mono hu hn, r⟩
theorem Dw.cell {w : World} {D : Nat} {U : TF} (h : Dw w D U) {p : Nat} (hp : p < 12) : w.cell? ⟨D, p, none⟩ = some (.int .i64 (dv U p)) := by
  obtain ⟨cs, h, _, r⟩ := h
  rw [h.cell]; exact r p hp
theorem Dw.at {w : World} {D : Nat} {U : TF} (h : Dw w D U) {p : Nat} (hp : p < 12) {x : Int} (hx : dv U p = x) : w.cell? ⟨D, p, none⟩ = some (.int .i64 x) := hx ▸ h.cell hp
theorem Dw.free {w : World} {D : Nat} {U : TF} (h : Dw w D U) (p : Nat) : w.frozen? ⟨D, p, none⟩ = false := by
  obtain ⟨cs, h, _, r⟩ := h
  exact h.free p
theorem Dw.store {w : World} {D : Nat} {U V : TF} (h : Dw w D U) {p : Nat} (x : Int) (hx : x = dv V p) (ho : ∀ q : Nat, q ≠ p → V q = U q) : Dw (w.setCell ⟨D, p, none⟩ (.int .i64 x)) D V := by
  obtain ⟨cs, h, hs, r⟩ := h
  refine ⟨_, h.set p _, by simpa using hs, fun q hq => ?_⟩
  by_cases e : q = p
  · subst e
    rw [Array.getElem?_setIfInBounds_self_of_lt (by omega), hx]
  · rw [Array.getElem?_setIfInBounds_ne (fun h => e h.symm), r q hq]
    unfold dv
    rw [ho q e]
theorem Dw.conv {w : World} {D : Nat} {U V : TF} (h : Dw w D U) (ho : ∀ q : Nat, q < 12 → V q = U q) : Dw w D V := by
  obtain ⟨cs, h, hs, r⟩ := h
  exact ⟨cs, h, hs, fun q hq => by rw [r q hq]; unfold dv; rw [ho q hq]⟩
theorem dw_new (w : World) {D : Nat} (h : Cl w D #[.int .i64 (-1), .int .i64 (-1), .int .i64 (-1), .int .i64 (-1), .int .i64 (-1), .int .i64 (-1), .int .i64 (-1), .int .i64 (-1), .int .i64 (-1), .int .i64 (-1), .int .i64 (-1), .int .i64 (-1)] 37) : Dw w D (fun _ => none) := by
  refine ⟨_, h, rfl, fun p hp => ?_⟩
  match p, hp with
  | 0, _ => rfl
  | 1, _ => rfl
  | 2, _ => rfl
  | 3, _ => rfl
  | 4, _ => rfl
  | 5, _ => rfl
  | 6, _ => rfl
  | 7, _ => rfl
  | 8, _ => rfl
  | 9, _ => rfl
  | 10, _ => rfl
  | 11, _ => rfl

/-- A clock of one's own, and the row; T: who waits, U: what is written down. -/
structure OnC (w wr : World) (c D n : Nat) (P : Nat → Prop) (now : Int) (T U : TF) : Prop where
  own : Own w wr c n P now T
  due : Dw wr D U
  out : ¬ P D
  ge : w.heap.size ≤ D
  dom : ∀ x, T x ≠ none → 0 ≤ x ∧ x < 12
theorem OnC.upd {w wr w2 : World} {c D n : Nat} {P : Nat → Prop} {now : Int} {T U : TF} (h : OnC w wr c D n P now T U) (hu : Upd [] wr w2) : OnC w w2 c D n P now T U :=
  ⟨h.own.upd hu, h.due.mono (P := fun _ => False) hu.toN (fun h => h), h.out, h.ge, h.dom⟩
theorem OnC.store {w wr : World} {c D n : Nat} {P : Nat → Prop} {now : Int} {T U V : TF} (h : OnC w wr c D n P now T U) {p : Nat} (x : Int) (hx : x = dv V p) (ho : ∀ q : Nat, q ≠ p → V q = U q) : OnC w (wr.setCell ⟨D, p, none⟩ (.int .i64 x)) c D n P now T V := by
  have us : Upd [D] wr (wr.setCell ⟨D, p, none⟩ (.int .i64 x)) := (Upd.refl [D] wr).setCell (p := ⟨D, p, none⟩) (Or.inr (by simp)) _
  refine ⟨⟨h.own.ck.mono us.toP (fun y hy e => ?_), h.own.own, ?_⟩, h.due.store x hx ho, h.out, h.ge, h.dom⟩
  · have : y = D := by simpa using e
    exact h.out (this ▸ hy)
  · exact h.own.up.setCell (p := ⟨D, p, none⟩) (Or.inl h.ge) _
theorem OnC.conv {w wr : World} {c D n : Nat} {P : Nat → Prop} {now : Int} {T U V : TF} (h : OnC w wr c D n P now T U) (ho : ∀ q : Nat, q < 12 → V q = U q) : OnC w wr c D n P now T V := ⟨h.own, h.due.conv ho, h.out, h.ge, h.dom⟩

theorem setT_pos {T : TF} {now pid after : Int} (h : setB T pid after = true) : setT T now pid after = at1 T pid (some (now + after)) := by unfold setT; rw [if_pos h]
theorem dropL_in {T : TF} {ys : List Int} {q : Nat} (y : Int) (h : y = q) : dv (dropL T (ys ++ [y])) q = -1 := by unfold dv dropL; rw [if_pos (by rw [← h]; simp)]; rfl
theorem dropL_out {T : TF} {ys : List Int} {q r : Nat} (y : Int) (h : y = q) (hr : r ≠ q) : dropL T (ys ++ [y]) r = dropL T ys r := by
  unfold dropL
  have : (r : Int) ≠ y := by omega
  simp [this]
theorem i64_nat {p : Nat} (hp : p < 12) : I64 (p : Int) := i64_small (by omega) (by omega)
theorem setB_small {T : TF} {p a : Int} (h0 : 0 ≤ a) (h1 : a < 64) : setB T p a = (T p).isNone := by
  unfold setB
  rw [decide_eq_true h0, decide_eq_true (by omega)]
  simp
theorem on_set {w wr : World} {c D n : Nat} {P : Nat → Prop} {now : Int} {T U : TF} (h : OnC w wr c D n P now T U) (hn : n + 1 ≤ 1073741824) {p : Nat} (hp : p < 12) {a : Int} (h0 : 0 ≤ a) (h1 : a < 64) :
    Calls Try.prog 9 #[.pointer (some ⟨c, 0, none⟩), .int .i64 p, .int .i64 a] wr fun e w' => e = .returned (.bool (T p).isNone) ∧ ∃ P', OnC w w' c D (n + 1) P' now (setT T now p a) U := by
  refine (own_set h.own hn (i64_nat hp) a).mono ?_
  rintro e w' ⟨rfl, P', h2, h3, h4⟩
  refine ⟨by rw [setB_small h0 h1], P', h2, h.due.mono h3 h.out, fun hD => ?_, h.ge, fun x hx => ?_⟩
  · rcases h4 D hD with h5 | h5
    · exact h.out h5
    · have := h.due.lt; omega
  · unfold setT at hx
    split at hx
    · by_cases e : x = p
      · subst e; omega
      · rw [at1_other _ _ e] at hx; exact h.dom x hx
    · exact h.dom x hx
theorem on_drop {w wr : World} {c D n : Nat} {P : Nat → Prop} {now : Int} {T U : TF} (h : OnC w wr c D n P now T U) (hn : n ≤ 1073741824) {p : Nat} (hp : p < 12) :
    Calls Try.prog 10 #[.pointer (some ⟨c, 0, none⟩), .int .i64 p] wr fun e w' => e = .returned (.bool (T p).isSome) ∧ ∃ P', OnC w w' c D n P' now (at1 T p none) U := by
  refine (own_drop h.own hn (i64_nat hp)).mono ?_
  rintro e w' ⟨rfl, P', h2, h3, h4⟩
  refine ⟨rfl, P', h2, h.due.mono h3 h.out, fun hD => ?_, h.ge, fun x hx => ?_⟩
  · rcases h4 D hD with h5 | h5
    · exact h.out h5
    · have := h.due.lt; omega
  · by_cases e : x = p
    · subst e; rw [at1_same] at hx; exact absurd rfl hx
    · rw [at1_other _ _ e] at hx; exact h.dom x hx
theorem on_tick {w wr : World} {c D n : Nat} {P : Nat → Prop} {now : Int} {T U : TF} (h : OnC w wr c D n P now T U) (hn : n ≤ 1073741824) {m : Int} (h0 : 0 ≤ m) (h1 : m ≤ 1099511627776 - now) :
    Calls Try.prog 7 #[.pointer (some ⟨c, 0, none⟩), .int .i64 m] wr fun e w' => ∃ v ys, e = .returned (.tuple #[v, .bool true]) ∧ AR w' wr.heap.size v ys ∧ Due T (now + m) ys ∧ D < wr.heap.size ∧ OnC w w' c D n P (now + m) (tickT T (now + m)) U := by
  refine (own_tick h.own hn h0 h1).mono ?_
  rintro e w' ⟨v, ys, rfl, h2, h3, _, h5, h6⟩
  exact ⟨v, ys, rfl, h2, h3, h.due.lt, h5, h.due.mono h6 h.out, h.out, h.ge, fun x hx => by
    obtain ⟨t, ht⟩ := Option.ne_none_iff_exists'.1 hx
    exact h.dom x (by rw [(tickT_some.1 ht).1]; simp)⟩

/-! ### who is told -/
/-- Is p to be told? -/
def isDue (T : TF) (m : Int) (p : Nat) : Bool := decide (0 ≤ dv T p) && decide (dv T p ≤ m)
theorem isDue_iff {T : TF} {m : Int} (hr : ∀ x t, T x = some t → 0 ≤ t) {p : Nat} : isDue T m p = true ↔ ∃ t, T p = some t ∧ t ≤ m := by
  unfold isDue dv
  cases hT : T p with
  | none => simp
  | some t =>
    have := hr p t hT
    simp [this]
theorem due_count {T : TF} {m : Int} {ys : List Int} (h : Due T m ys) (hr : ∀ x t, T x = some t → 0 ≤ t) (hd : ∀ x, T x ≠ none → 0 ≤ x ∧ x < 12) : (List.range 12).countP (isDue T m) = ys.length := by
  have n1 : ys.Nodup := h.1.imp (fun {a b} h e => by subst e; exact bef_irr h)
  have n2 : (((List.range 12).filter (isDue T m)).map (fun p : Nat => (p : Int))).Nodup := by
    have : ((List.range 12).filter (isDue T m)).Nodup := List.nodup_range.sublist List.filter_sublist
    exact List.pairwise_map.2 (this.imp (fun {a b} hne e => hne (by omega)))
  have hp : ys.Perm (((List.range 12).filter (isDue T m)).map (fun p : Nat => (p : Int))) := (List.perm_ext_iff_of_nodup n1 n2).2 (fun x => by
    rw [h.2 x, List.mem_map]
    constructor
    · rintro ⟨t, ht, hle⟩
      obtain ⟨h0, h1⟩ := hd x (by rw [ht]; simp)
      refine ⟨x.toNat, List.mem_filter.2 ⟨List.mem_range.2 (by omega), ?_⟩, by omega⟩
      rw [isDue_iff hr, show ((x.toNat : Nat) : Int) = x by omega]
      exact ⟨t, ht, hle⟩
    · rintro ⟨p, hp, rfl⟩
      exact (isDue_iff hr).1 (List.mem_filter.1 hp).2)
  rw [hp.length_eq, List.length_map, List.countP_eq_length_filter]
theorem count_snoc {f : Nat → Bool} (k : Nat) : (List.range (k + 1)).countP f = (List.range k).countP f + (if f k = true then 1 else 0) := by
  rw [List.range_succ, List.countP_append]
  cases h : f k <;> simp [h]
/-- What is read of one who is told. -/
theorem due_at {T : TF} {m : Int} {ys : List Int} (h : Due T m ys) (hr : ∀ x t, T x = some t → 0 ≤ t) (hd : ∀ x, T x ≠ none → 0 ≤ x ∧ x < 12) {k : Nat} (hk : k < ys.length) :
    ∃ q : Nat, ∃ t : Int, ys[k] = q ∧ q < 12 ∧ dv T q = t ∧ 0 ≤ t ∧ t ≤ m ∧ T q = some t := by
  obtain ⟨t, ht, hle⟩ := (h.2 ys[k]).1 (List.getElem_mem hk)
  obtain ⟨h0, h1⟩ := hd ys[k] (by rw [ht]; simp)
  have e : ((ys[k].toNat : Nat) : Int) = ys[k] := by omega
  exact ⟨ys[k].toNat, t, e.symm, by omega, by unfold dv; rw [e, ht]; rfl, hr _ _ ht, hle, by rw [e, ht]⟩
theorem due_next {T : TF} {m : Int} {ys : List Int} (h : Due T m ys) {k : Nat} (hk : k + 1 < ys.length) {q r : Nat} {s t : Int} (hq : ys[k] = q) (hr : ys[k + 1] = r) (hs : T q = some s) (ht : T r = some t) : s < t ∨ s = t ∧ (q : Int) < r := by
  have := List.pairwise_iff_getElem.1 h.1 k (k + 1) (by omega) hk (by omega)
  obtain ⟨s', t', h1, h2, h3⟩ := this
  rw [hq, hs] at h1; cases h1
  rw [hr, ht] at h2; cases h2
  rw [hq, hr] at h3
  exact h3
theorem drop_tick {T : TF} {m : Int} {ys : List Int} (h : Due T m ys) : dropL T ys = tickT T m := by
  funext x
  unfold dropL tickT
  cases hT : T x with
  | none => simp
  | some t =>
    by_cases hle : t ≤ m
    · rw [if_pos ((h.2 x).2 ⟨t, hT, hle⟩)]; simp [hle]
    · rw [if_neg (fun hc => by
        obtain ⟨t', h1, h2⟩ := (h.2 x).1 hc
        rw [hT] at h1; cases h1
        omega)]
      simp [hle]

/-- The steps that came in. -/
def Steps (w : World) (a : Option Addr) (n : Nat) : Prop := ∀ i, i < n → ∃ gl ol op A B, a = some ⟨gl, ol, none⟩ ∧ gl < w.heap.size ∧ w.cell? ⟨gl, ol + i * 3, none⟩ = some (.int .i64 op) ∧ w.cell? ⟨gl, ol + i * 3 + 1, none⟩ = some (.int .i64 A) ∧ w.cell? ⟨gl, ol + i * 3 + 2, none⟩ = some (.int .i64 B) ∧ I64 op ∧ I64 A ∧ I64 B
theorem Steps.le {w : World} {a : Option Addr} {n m : Nat} (h : Steps w a n) (hm : m ≤ n) : Steps w a m := fun i hi => h i (by omega)

end Go.Proofs.Ytpdmdcnangldcaa
