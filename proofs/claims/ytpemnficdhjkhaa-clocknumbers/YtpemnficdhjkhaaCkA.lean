/- Clocks of one's own; the chapter's example: awake. -/
import Derived.Test.YtpemnficdhjkhaaCkK
namespace Go.Proofs.Ytpemnficdhjkhaa
open Go.RowKit Go.Maps

/-- A clock of one's own: all its blocks are new since w. -/
structure Own (w wr : World) (c n : Nat) (P : Nat → Prop) (now : Int) (T : TF) : Prop where
  ck : Ck wr c n P now T
  own : ∀ x, P x → w.heap.size ≤ x
  up : Upd [] w wr
theorem Own.upd {w wr w2 : World} {c n : Nat} {P : Nat → Prop} {now : Int} {T : TF} (h : Own w wr c n P now T) (hu : Upd [] wr w2) : Own w w2 c n P now T := ⟨h.ck.upd hu, h.own, h.up.trans hu⟩
theorem Own.le {w wr : World} {c n m : Nat} {P : Nat → Prop} {now : Int} {T : TF} (h : Own w wr c n P now T) (hm : n ≤ m) : Own w wr c m P now T := ⟨h.ck.le hm, h.own, h.up⟩
theorem own_new (w : World) : Calls Try.prog 5 #[] w fun e w' => ∃ c P, e = .returned (.pointer (some ⟨c, 0, none⟩)) ∧ Own w w' c 0 P 0 (fun _ => none) ∧ ∀ x, P x → x < w'.heap.size := by
  refine (new_any w).mono ?_
  rintro e w' ⟨c, rfl, h1, h2⟩
  exact ⟨c, _, rfl, ⟨h1, fun x hx => hx.1, h2⟩, fun x hx => hx.2⟩
theorem own_set {w wr : World} {c n : Nat} {P : Nat → Prop} {now : Int} {T : TF} (h : Own w wr c n P now T) (hn : n + 1 ≤ 1073741824) {pid : Int} (hp : I64 pid) (after : Int) :
    Calls Try.prog 13 #[.pointer (some ⟨c, 0, none⟩), .int .i64 pid, .int .i64 after] wr fun e w' => e = .returned (.bool (setB T pid after)) ∧ ∃ P', Own w w' c (n + 1) P' now (setT T now pid after) ∧ UpP P wr w' ∧ ∀ x, P' x → P x ∨ wr.heap.size ≤ x := by
  refine (set_any h.ck hn hp after).mono ?_
  rintro e w' ⟨rfl, P', h1, h2, h3⟩
  refine ⟨rfl, P', ⟨h1, fun x hx => ?_, (h.up.toN.trans h2).upd h.own⟩, h2, h3⟩
  rcases h3 x hx with h4 | h4
  · exact h.own x h4
  · exact Nat.le_trans h.up.size h4
theorem own_drop {w wr : World} {c n : Nat} {P : Nat → Prop} {now : Int} {T : TF} (h : Own w wr c n P now T) (hn : n ≤ 1073741824) {pid : Int} (hp : I64 pid) :
    Calls Try.prog 14 #[.pointer (some ⟨c, 0, none⟩), .int .i64 pid] wr fun e w' => e = .returned (.bool (T pid).isSome) ∧ ∃ P', Own w w' c n P' now (at1 T pid none) ∧ UpP P wr w' ∧ ∀ x, P' x → P x ∨ wr.heap.size ≤ x := by
  refine (drop_any h.ck hn hp).mono ?_
  rintro e w' ⟨rfl, P', h1, h2, h3⟩
  refine ⟨rfl, P', ⟨h1, fun x hx => ?_, (h.up.toN.trans h2).upd h.own⟩, h2, h3⟩
  rcases h3 x hx with h4 | h4
  · exact h.own x h4
  · exact Nat.le_trans h.up.size h4
theorem own_tick {w wr : World} {c n : Nat} {P : Nat → Prop} {now : Int} {T : TF} (h : Own w wr c n P now T) (hn : n ≤ 1073741824) {m : Int} (h0 : 0 ≤ m) (h1 : m ≤ 1099511627776 - now) :
    Calls Try.prog 15 #[.pointer (some ⟨c, 0, none⟩), .int .i64 m] wr fun e w' => ∃ v ys, e = .returned (.tuple #[v, .bool true]) ∧ AR w' wr.heap.size v ys ∧ Due T (now + m) ys ∧ ys.length ≤ n ∧ Own w w' c n P (now + m) (tickT T (now + m)) ∧ UpP P wr w' := by
  refine (tick_any h.ck hn h0 h1).mono ?_
  rintro e w' ⟨v, ys, rfl, h2, h3, h4, h5, h6⟩
  exact ⟨v, ys, rfl, h2, h3, h4, ⟨h5, h.own, (h.up.toN.trans h6).upd h.own⟩, h6⟩
theorem own_waits {w wr : World} {c n : Nat} {P : Nat → Prop} {now : Int} {T : TF} (h : Own w wr c n P now T) (hn : n ≤ 1073741824) :
    Calls Try.prog 9 #[.pointer (some ⟨c, 0, none⟩)] wr fun e w' => ∃ v xs, e = .returned v ∧ AR w' wr.heap.size v xs ∧ Srt T xs ∧ xs.length ≤ n ∧ Own w w' c n P now T ∧ Upd [] wr w' := by
  refine (waits_any h.ck hn).mono ?_
  rintro e w' ⟨v, ys, rfl, h2, h3, h4, h5⟩
  exact ⟨v, ys, rfl, h2, h3, h4, h.upd h5, h5⟩
/-- What was told stays told behind a later Tick. -/
theorem Own.told {w wr w1 : World} {c n : Nat} {P : Nat → Prop} {now : Int} {T : TF} (h : Own w wr c n P now T) {w2 : World} {v : Value} {xs : List Int} (ha : AR w1 wr.heap.size v xs) (hu : UpP P w1 w2) : AR w2 wr.heap.size v xs :=
  ha.mono hu (fun x hx => Or.inl (h.ck.bnd x hx))

theorem Due.one {T : TF} {m : Int} {xs ys : List Int} (h : Due T m xs) (k : Due T m ys) : xs = ys := srt_one h.1 k.1 (fun x => (h.2 x).trans (k.2 x).symm)

/-- Who waits in the example. -/
def exT : TF := fun x => if x = 2 then some 0 else if x = 1 then some 5 else if x = 3 then some 5 else none
def exU : TF := fun x => if x = 1 then some 5 else if x = 3 then some 5 else none
def ex1 : TF := at1 (fun _ => none) 3 (some (0 + 5))
def ex2 : TF := at1 ex1 1 (some (0 + 5))
theorem ex_1 : setB (fun _ => none) 3 5 = true ∧ setT (fun _ => none) 0 3 5 = ex1 := by
  have h : setB (fun _ => none) 3 5 = true := by decide
  exact ⟨h, by unfold setT; rw [if_pos h]; rfl⟩
theorem ex_2 : setB ex1 1 5 = true ∧ setT ex1 0 1 5 = ex2 := by
  have h : setB ex1 1 5 = true := by decide
  exact ⟨h, by unfold setT; rw [if_pos h]; rfl⟩
theorem ex_3 : setB ex2 2 0 = true ∧ setT ex2 0 2 0 = exT := by
  have h : setB ex2 2 0 = true := by decide
  refine ⟨h, ?_⟩
  unfold setT
  rw [if_pos h]
  funext x
  unfold exT ex2 ex1 at1
  rfl
theorem ex_4 : setB exT 3 1 = false ∧ setT exT 0 3 1 = exT := by
  have h : setB exT 3 1 = false := by decide
  exact ⟨h, by unfold setT; rw [if_neg (by rw [h]; decide)]⟩
theorem exT_mem (x : Int) : exT x ≠ none ↔ x ∈ [2, 1, 3] := by
  unfold exT
  by_cases h2 : x = 2
  · simp [h2]
  · by_cases h1 : x = 1
    · simp [h1]
    · by_cases h3 : x = 3
      · simp [h3]
      · simp [h1, h2, h3]
theorem exU_mem (x : Int) : exU x ≠ none ↔ x ∈ [1, 3] := by
  unfold exU
  by_cases h1 : x = 1
  · simp [h1]
  · by_cases h3 : x = 3
    · simp [h3]
    · simp [h1, h3]
theorem ex_bef : bef exT 2 1 ∧ bef exT 2 3 ∧ bef exT 1 3 ∧ bef exU 1 3 := ⟨⟨0, 5, rfl, rfl, by omega⟩, ⟨0, 5, rfl, rfl, by omega⟩, ⟨5, 5, rfl, rfl, by omega⟩, ⟨5, 5, rfl, rfl, by omega⟩⟩
theorem ex_waits {xs : List Int} (h : Srt exT xs) : xs = [2, 1, 3] := by
  obtain ⟨h1, h2, h3, _⟩ := ex_bef
  exact h.one ⟨by simp [h1, h2, h3], fun x => (exT_mem x).symm⟩
theorem exT_tick : tickT exT (0 + 0) = exU := by
  funext x
  unfold tickT exT exU
  by_cases h2 : x = 2
  · subst h2; simp
  · by_cases h1 : x = 1
    · subst h1; simp
    · by_cases h3 : x = 3
      · subst h3; simp
      · simp [h1, h2, h3]
theorem exU_tick : tickT exU (0 + 0 + 4) = exU := by
  funext x
  unfold tickT exU
  by_cases h1 : x = 1
  · subst h1; simp
  · by_cases h3 : x = 3
    · subst h3; simp
    · simp [h1, h3]
theorem ex_told0 {xs : List Int} (h : Due exT (0 + 0) xs) : xs = [2] := by
  refine h.one ⟨by simp, fun x => ?_⟩
  unfold exT
  by_cases h2 : x = 2
  · subst h2; simp
  · by_cases h1 : x = 1
    · subst h1; simp
    · by_cases h3 : x = 3
      · subst h3; simp
      · simp [h1, h2, h3]
theorem ex_told4 {xs : List Int} (h : Due exU (0 + 0 + 4) xs) : xs = [] := by
  refine h.one ⟨by simp, fun x => ?_⟩
  unfold exU
  by_cases h1 : x = 1
  · subst h1; simp
  · by_cases h3 : x = 3
    · subst h3; simp
    · simp [h1, h3]
theorem ex_told5 {xs : List Int} (h : Due exU (0 + 0 + 4 + 1) xs) : xs = [1, 3] := by
  refine h.one ⟨by simp [ex_bef.2.2.2], fun x => ?_⟩
  unfold exU
  by_cases h1 : x = 1
  · subst h1; simp
  · by_cases h3 : x = 3
    · subst h3; simp
    · simp [h1, h3]

set_option maxHeartbeats 4000000 in
set_option maxRecDepth 100000 in
theorem awake_any (w : World) : Calls Try.prog 12 #[] w fun e w' => e = .returned (.bool true) ∧ Upd [] w w' := by
  have HI : Hid (I64 1 ∧ I64 2 ∧ I64 3) := ⟨i64_small (by omega) (by omega), i64_small (by omega) (by omega), i64_small (by omega) (by omega)⟩
  go_enter Try.func12, Try.ntmps12
  go_wp2_with fail
  refine Calls.mono (own_new w) ?_
  rintro e w1 ⟨c, P0, rfl, o, _⟩
  have O1 : Hid (Own w w1 c 0 P0 0 (fun _ => none)) := o
  clear o
  go_wp2_with fail
  refine Calls.mono (own_set O1.out (by omega) HI.out.2.2 5) ?_
  rintro e w2 ⟨he, P1, o, _, _⟩
  rw [ex_1.1] at he
  subst he
  rw [ex_1.2] at o
  have O2 : Hid (Own w w2 c (0 + 1) P1 0 ex1) := o
  clear o O1
  go_wp2_with fail
  refine Calls.mono (own_set O2.out (by omega) HI.out.1 5) ?_
  rintro e w3 ⟨he, P2, o, _, _⟩
  rw [ex_2.1] at he
  subst he
  rw [ex_2.2] at o
  have O3 : Hid (Own w w3 c ((0 + 1) + 1) P2 0 ex2) := o
  clear o O2
  go_wp2_with fail
  refine Calls.mono (own_set O3.out (by omega) HI.out.2.1 0) ?_
  rintro e w4 ⟨he, P3, o, _, _⟩
  rw [ex_3.1] at he
  subst he
  rw [ex_3.2] at o
  have O4 : Hid (Own w w4 c ((0 + 1 + 1) + 1) P3 0 exT) := o
  clear o O3
  go_wp2_with fail
  refine Calls.mono (own_set O4.out (by omega) HI.out.2.2 1) ?_
  rintro e w5 ⟨he, P4, o, _, _⟩
  rw [ex_4.1] at he
  subst he
  rw [ex_4.2] at o
  have O5 : Hid (Own w w5 c ((0 + 1 + 1 + 1) + 1) P4 0 exT) := o
  clear o O4
  go_wp2_with fail
  refine Calls.mono (own_waits O5.out (by omega)) ?_
  rintro e w6 ⟨v, xs, rfl, h1, h2, _, o, _⟩
  obtain rfl := ex_waits h2
  have O6 : Hid (Own w w6 c (0 + 1 + 1 + 1 + 1) P4 0 exT) := o
  have A6 : Hid (AR w6 w5.heap.size v [2, 1, 3]) := h1
  obtain ⟨p, cp, hv⟩ := h1.form
  subst hv
  clear o O5 h1 h2
  have K6 : Hid (Upd [] w6 (w6.alloc (.cells #[.int .i64 2, .int .i64 1, .int .i64 3] 3)) ∧ AR (w6.alloc (.cells #[.int .i64 2, .int .i64 1, .int .i64 3] 3)) w6.heap.size (.slice (some ⟨w6.heap.size, 0, none⟩) 3 3) [2, 1, 3]) := ⟨(Upd.refl [] w6).alloc _, ar_lit w6 [2, 1, 3] _ rfl (by decide) (by decide) 3 rfl⟩
  go_wp2_with fail
  refine Calls.mono (sameInts_any _ _ _ _ _ _ _ (A6.out.upd K6.out.1) K6.out.2) ?_
  rintro e w7 ⟨he, hu7⟩
  obtain rfl : e = .returned (.bool true) := he
  have O7 : Hid (Own w w7 c (0 + 1 + 1 + 1 + 1) P4 0 exT) := O6.out.upd (K6.out.1.trans hu7)
  clear hu7 K6 A6 O6
  go_wp2_with fail
  refine Calls.mono (own_tick O7.out (by omega) (m := 0) (by omega) (by omega)) ?_
  rintro e w8 ⟨v8, ys8, rfl, h1, h2, _, o, _⟩
  obtain rfl := ex_told0 h2
  rw [exT_tick] at o
  obtain ⟨p8, c8, hv8⟩ := h1.form
  subst hv8
  have O8 : Hid (Own w w8 c (0 + 1 + 1 + 1 + 1) P4 (0 + 0) exU) := o
  have A8 : Hid (AR w8 w7.heap.size (.slice p8 [2].length c8) [2]) := h1
  clear o h1 h2
  go_wp2_with fail
  refine Calls.mono (own_tick O8.out (by omega) (m := 4) (by omega) (by omega)) ?_
  rintro e w9 ⟨v9, ys9, rfl, h1, h2, _, o, hu⟩
  obtain rfl := ex_told4 h2
  rw [exU_tick] at o
  obtain ⟨p9, c9, hv9⟩ := h1.form
  subst hv9
  have O9 : Hid (Own w w9 c (0 + 1 + 1 + 1 + 1) P4 (0 + 0 + 4) exU) := o
  have A9 : Hid (AR w9 w7.heap.size (.slice p8 [2].length c8) [2]) := O7.out.told A8.out hu
  clear o h1 h2 hu A8
  go_wp2_with fail
  refine Calls.mono (own_tick O9.out (by omega) (m := 1) (by omega) (by omega)) ?_
  rintro e w10 ⟨v10, ys10, rfl, h1, h2, _, o, hu⟩
  obtain rfl := ex_told5 h2
  obtain ⟨p10, c10, hv10⟩ := h1.form
  subst hv10
  have O10 : Hid (Own w w10 c (0 + 1 + 1 + 1 + 1) P4 (0 + 0 + 4 + 1) (tickT exU (0 + 0 + 4 + 1))) := o
  have A10 : Hid (AR w10 w7.heap.size (.slice p8 [2].length c8) [2] ∧ AR w10 w9.heap.size (.slice p10 [1, 3].length c10) [1, 3]) := ⟨O7.out.told A9.out hu, h1⟩
  clear o h1 h2 hu A9 O9 O7 O8
  go_wp2_with fail
  refine Calls.mono (tick_not O10.out.ck (m := -1) (Or.inl (by omega))) ?_
  rintro e w11 ⟨rfl, hu11⟩
  have O11 : Hid (Own w w11 c (0 + 1 + 1 + 1 + 1) P4 (0 + 0 + 4 + 1) (tickT exU (0 + 0 + 4 + 1))) := O10.out.upd hu11
  have A11 : Hid (AR w11 w7.heap.size (.slice p8 [2].length c8) [2] ∧ AR w11 w9.heap.size (.slice p10 [1, 3].length c10) [1, 3]) := ⟨A10.out.1.upd hu11, A10.out.2.upd hu11⟩
  clear hu11 O10 A10
  have K11 : Hid (Upd [] w11 (w11.alloc (.cells #[.int .i64 2] 3)) ∧ AR (w11.alloc (.cells #[.int .i64 2] 3)) w11.heap.size (.slice (some ⟨w11.heap.size, 0, none⟩) 1 1) [2]) := ⟨(Upd.refl [] w11).alloc _, ar_lit w11 [2] _ rfl (by decide) (by decide) 1 rfl⟩
  go_wp2_with fail
  refine Calls.mono (sameInts_any _ _ _ _ _ _ _ (A11.out.1.upd K11.out.1) K11.out.2) ?_
  rintro e w12 ⟨he, hu12⟩
  obtain rfl : e = .returned (.bool true) := he
  have U12 : Hid (Upd [] w11 w12) := K11.out.1.trans hu12
  clear hu12 K11
  have K12 : Hid (Upd [] w12 (w12.alloc (.cells #[.int .i64 1, .int .i64 3] 3)) ∧ AR (w12.alloc (.cells #[.int .i64 1, .int .i64 3] 3)) w12.heap.size (.slice (some ⟨w12.heap.size, 0, none⟩) 2 2) [1, 3]) := ⟨(Upd.refl [] w12).alloc _, ar_lit w12 [1, 3] _ rfl (by decide) (by decide) 2 rfl⟩
  go_wp2_with fail
  refine Calls.mono (sameInts_any _ _ _ _ _ _ _ ((A11.out.2.upd U12.out).upd K12.out.1) K12.out.2) ?_
  rintro e w13 ⟨he, hu13⟩
  obtain rfl : e = .returned (.bool true) := he
  have O13 : Hid (Own w w13 c (0 + 1 + 1 + 1 + 1) P4 (0 + 0 + 4 + 1) (tickT exU (0 + 0 + 4 + 1))) := O11.out.upd (U12.out.trans (K12.out.1.trans hu13))
  clear hu13 K12 U12
  go_wp2_with fail
  refine Calls.mono (now_any O13.out.ck) ?_
  rintro e w14 ⟨rfl, hw14⟩
  subst hw14
  go_wp2_with fail
  go_ret
  exact ⟨rfl, O13.out.up⟩

end Go.Proofs.Ytpemnficdhjkhaa
