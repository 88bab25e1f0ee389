/- The chapter's example: awake. -/
import Derived.Test.YtofcniodobjopaaGreatLkI
namespace Go.Proofs.YtofcniodobjopaaGreat
open Go.RowKit Go.Maps

theorem MR.cells {w : World} {B : Nat} {v : Value} {ms : List Mon} (h : MR w B v ms) {k : Nat} (hk : k < ms.length) : ∃ g c, v = .slice (some ⟨g, 0, none⟩) ms.length c ∧ w.cell? ⟨g, k * 3, none⟩ = some (.int .i64 ms[k].1) ∧ w.cell? ⟨g, k * 3 + 1, none⟩ = some (.int .i64 ms[k].2.1) ∧ w.cell? ⟨g, k * 3 + 2, none⟩ = some (.int .i64 ms[k].2.2) := by
  rcases h.2 with ⟨_, h2⟩ | ⟨g, cap, cur, h1, _, hg, _, _, _, ht⟩
  · omega
  · have hat : ∀ j, j < 3 → w.cell? ⟨g, k * 3 + j, none⟩ = (cellsM ms[k])[j]? := by
      intro j hj
      rw [cell_of_row w g _ _ _ _ hg]
      have h3 : (cur.toList.take (ms.length * 3))[k * 3 + j]? = (ms.flatMap cellsM)[k * 3 + j]? := by rw [ht]
      rw [List.getElem?_take_of_lt (by omega), Array.getElem?_toList] at h3
      rw [h3, ← flat_list, List.getElem?_map, List.getElem?_range (by omega)]
      have e1 : (k * 3 + j) / 3 = k := by omega
      have e2 : (k * 3 + j) % 3 = j := by omega
      simp only [Option.map_some]
      rw [e1, e2, getElem!_pos ms k hk]
      match j, hj with
      | 0, _ => rfl
      | 1, _ => rfl
      | 2, _ => rfl
    exact ⟨g, cap, h1, hat 0 (by omega), hat 1 (by omega), hat 2 (by omega)⟩

theorem linkL_val (L : LF) (a b x y : Int) : linkL L a b x y = (if a ≠ b ∧ ((x = a ∧ y = b) ∨ (x = b ∧ y = a)) then true else L x y) := by
  unfold linkL
  by_cases hab : a = b
  · rw [if_pos hab, if_neg (fun h => h.1 hab)]
  · rw [if_neg hab, addL_val]
    by_cases h : (x = a ∧ y = b) ∨ (x = b ∧ y = a)
    · rw [if_pos h, if_pos ⟨hab, h⟩]
    · rw [if_neg h, if_neg (fun h' => h h'.2)]

theorem i64_small {x : Int} (h1 : -9223372036854775808 ≤ x) (h2 : x ≤ 9223372036854775807) : I64 x := by
  show (decide ((-9223372036854775808 : Int) ≤ x) && decide (x ≤ (9223372036854775807 : Int))) = true
  simp [h1, h2]
theorem i64_le {x : Int} (h : I64 x) : -9223372036854775808 ≤ x ∧ x ≤ 9223372036854775807 := by
  have h' : (decide ((-9223372036854775808 : Int) ≤ x) && decide (x ≤ (9223372036854775807 : Int))) = true := h
  simpa using h'

/-- The links and the monitors of the example. -/
def exL : LF := linkL (linkL (linkL (fun _ _ => false) 1 2) 1 3) 2 1
def exM : MF := watchM (watchM (watchM (watchM (fun _ => none) 9 2 1) 5 3 1) 7 1 2) 9 3 3
theorem exL_val (x : Int) : exL 1 x = true ↔ x = 2 ∨ x = 3 := by
  unfold exL
  rw [linkL_val, linkL_val, linkL_val]
  constructor
  · intro h
    split at h
    · omega
    · split at h
      · omega
      · split at h
        · omega
        · cases h
  · rintro (rfl | rfl)
    · simp
    · simp
theorem exL_two (x : Int) : exL 2 x = true ↔ x = 1 := by
  unfold exL
  rw [linkL_val, linkL_val, linkL_val]
  constructor
  · intro h
    split at h
    · omega
    · split at h
      · omega
      · split at h
        · omega
        · cases h
  · rintro rfl
    simp
theorem exM_val (r : Int) : exM r = if r = 7 then some (1, 2) else if r = 5 then some (3, 1) else if r = 9 then some (2, 1) else none := by
  unfold exM watchM at1
  simp

theorem exM_nam (x : Int) : nam exM 1 x = true ↔ x = 5 ∨ x = 7 ∨ x = 9 := by
  unfold nam
  rw [exM_val]
  by_cases h7 : x = 7
  · subst h7; simp
  · by_cases h5 : x = 5
    · subst h5; simp
    · by_cases h9 : x = 9
      · subst h9; simp
      · simp [h7, h5, h9]
theorem ex_linked {xs : List Int} (h1 : xs.Pairwise (· < ·)) (h : ∀ x, x ∈ xs ↔ exL 1 x = true) : xs = [2, 3] :=
  sorted_one h1 (by simp) (fun x => by rw [h, exL_val]; simp)
theorem ex_watched {rs : List Int} (h1 : rs.Pairwise (· < ·)) (h : ∀ x, x ∈ rs ↔ nam exM 1 x = true) : selM exM 1 rs = [(5, 3, 1), (9, 2, 1)] := by
  have : rs = [5, 7, 9] := sorted_one h1 (by simp) (fun x => by rw [h, exM_nam]; simp)
  subst this
  unfold selM
  simp [exM_val]
theorem ex_none {rs : List Int} (h : ∀ x, x ∈ rs ↔ nam exM 1 x = true) {ms : List Mon} (hm : MonsOf (endM exM rs) ms) : ms = [] := by
  refine List.eq_nil_iff_forall_not_mem.2 fun m hmem => ?_
  obtain ⟨r, a, b⟩ := m
  have h1 := (hm.2 r a b).1 hmem
  unfold endM at h1
  split at h1
  · cases h1
  · rename_i hc
    have h2 : r ∉ rs := by simpa using hc
    rw [h, exM_nam] at h2
    rw [exM_val] at h1
    by_cases h7 : r = 7
    · omega
    · by_cases h5 : r = 5
      · omega
      · by_cases h9 : r = 9
        · omega
        · simp [h7, h5, h9] at h1
theorem ex_alone {ys : List Int} (h : ∀ x, x ∈ ys ↔ endL exL 1 [2, 3] 2 x = true) : ys = [] := by
  refine List.eq_nil_iff_forall_not_mem.2 fun x hmem => ?_
  have h1 := (h x).1 hmem
  unfold endL at h1
  have h2 : exL 2 x = true := by
    cases hq : exL 2 x
    · rw [hq] at h1; cases h1
    · rfl
  rw [exL_two] at h2
  subst h2
  simp at h1

/-- Links of one's own: all their blocks are new since w. -/
def Ow (w wr : World) (l n : Nat) (L : LF) (M : MF) : Prop := ∃ P, Lk wr l n P L M ∧ (∀ x, P x → w.heap.size ≤ x) ∧ Upd [] w wr
theorem Ow.upd {w wr w2 : World} {l n : Nat} {L : LF} {M : MF} (h : Ow w wr l n L M) (hu : Upd [] wr w2) : Ow w w2 l n L M := by
  obtain ⟨P, o, h1, h2⟩ := h
  exact ⟨P, o.upd hu, h1, h2.trans hu⟩
theorem Ow.up {w wr : World} {l n : Nat} {L : LF} {M : MF} (h : Ow w wr l n L M) : Upd [] w wr := by
  obtain ⟨P, o, h1, h2⟩ := h
  exact h2
theorem Ow.step {w wr w2 : World} {l n : Nat} {L : LF} {M : MF} {P : Nat → Prop} (h1 : ∀ x, P x → w.heap.size ≤ x) (h2 : Upd [] w wr) (h : ∃ P', Lk w2 l n P' L M ∧ (∀ x, P' x → P x ∨ (wr.heap.size ≤ x ∧ x < w2.heap.size)) ∧ UpP P wr w2) : Ow w w2 l n L M := by
  obtain ⟨P', o, h3, hu⟩ := h
  refine ⟨P', o, fun x hx => ?_, (h2.toN (P := P)).trans hu |>.upd h1⟩
  rcases h3 x hx with h4 | h4
  · exact h1 x h4
  · exact Nat.le_trans h2.size h4.1
theorem ow_new (w : World) : Calls Tryz.prog 10 #[] w fun e w' => ∃ l, e = .returned (.pointer (some ⟨l, 0, none⟩)) ∧ Ow w w' l 0 (fun _ _ => false) (fun _ => none) := by
  refine (new_any w).mono ?_
  rintro e w' ⟨l, rfl, o, hu⟩
  exact ⟨l, rfl, _, o, fun x hx => hx.1, hu⟩
theorem ow_link {w wr : World} {l n : Nat} {L : LF} {M : MF} (h : Ow w wr l n L M) (hn : n + 3 ≤ 1073741824) {a b : Int} (ha : I64 a) (hb : I64 b) :
    Calls Tryz.prog 20 #[.pointer (some ⟨l, 0, none⟩), .int .i64 a, .int .i64 b] wr fun e w' => e = .returned (.bool (!(a == b) && !(L a b))) ∧ Ow w w' l (n + 2) (linkL L a b) M := by
  obtain ⟨P, o, h1, h2⟩ := h
  refine (link_any o hn ha hb).mono ?_
  rintro e w' ⟨rfl, h3⟩
  exact ⟨rfl, Ow.step h1 h2 h3⟩
theorem ow_unlink {w wr : World} {l n : Nat} {L : LF} {M : MF} (h : Ow w wr l n L M) {a b : Int} (ha : I64 a) (hb : I64 b) :
    Calls Tryz.prog 26 #[.pointer (some ⟨l, 0, none⟩), .int .i64 a, .int .i64 b] wr fun e w' => e = .returned (.bool (L a b)) ∧ Ow w w' l n (cutL L a b) M := by
  obtain ⟨P, o, h1, h2⟩ := h
  refine (unlink_any o ha hb).mono ?_
  rintro e w' ⟨rfl, h3⟩
  exact ⟨rfl, Ow.step h1 h2 h3⟩
theorem ow_watch {w wr : World} {l n : Nat} {L : LF} {M : MF} (h : Ow w wr l n L M) (hn : n + 3 ≤ 1073741824) {r a b : Int} (hr : I64 r) (ha : I64 a) (hb : I64 b) :
    Calls Tryz.prog 21 #[.pointer (some ⟨l, 0, none⟩), .int .i64 r, .int .i64 a, .int .i64 b] wr fun e w' => e = .returned (.bool (M r).isNone) ∧ Ow w w' l (n + 2) L (watchM M r a b) := by
  obtain ⟨P, o, h1, h2⟩ := h
  refine (watch_any o hn hr ha hb).mono ?_
  rintro e w' ⟨rfl, h3⟩
  exact ⟨rfl, Ow.step h1 h2 h3⟩
theorem ow_unwatch {w wr : World} {l n : Nat} {L : LF} {M : MF} (h : Ow w wr l n L M) {r a : Int} (hr : I64 r) :
    Calls Tryz.prog 28 #[.pointer (some ⟨l, 0, none⟩), .int .i64 r, .int .i64 a] wr fun e w' => e = .returned (.bool (unwatchB M r a)) ∧ Ow w w' l n L (unwatchM M r a) := by
  obtain ⟨P, o, h1, h2⟩ := h
  refine (unwatch_any o hr).mono ?_
  rintro e w' ⟨rfl, h3⟩
  exact ⟨rfl, Ow.step h1 h2 h3⟩
theorem ow_of {w wr : World} {l n : Nat} {L : LF} {M : MF} (h : Ow w wr l n L M) (hn : n ≤ 1073741824) {a : Int} (ha : I64 a) :
    Calls Tryz.prog 5 #[.pointer (some ⟨l, 0, none⟩), .int .i64 a] wr fun e w' => ∃ v xs, e = .returned v ∧ IR w' wr.heap.size v xs ∧ xs.Pairwise (· < ·) ∧ (∀ x, x ∈ xs ↔ L a x = true) ∧ Upd [] wr w' := by
  obtain ⟨P, o, h1, h2⟩ := h
  exact of_any o hn ha
theorem ow_monitors {w wr : World} {l n : Nat} {L : LF} {M : MF} (h : Ow w wr l n L M) (hn : n ≤ 1073741824) :
    Calls Tryz.prog 6 #[.pointer (some ⟨l, 0, none⟩)] wr fun e w' => ∃ v ms, e = .returned v ∧ MR w' wr.heap.size v ms ∧ MonsOf M ms ∧ Upd [] wr w' := by
  obtain ⟨P, o, h1, h2⟩ := h
  exact monitors_any o hn
theorem ow_end {w wr : World} {l n : Nat} {L : LF} {M : MF} (h : Ow w wr l n L M) (hn : n ≤ 1073741824) {a : Int} (ha : I64 a) :
    Calls Tryz.prog 22 #[.pointer (some ⟨l, 0, none⟩), .int .i64 a] wr fun e w' => ∃ v xs u rs, e = .returned (.tuple #[v, u]) ∧ IR w' wr.heap.size v xs ∧ xs.Pairwise (· < ·) ∧ (∀ x, x ∈ xs ↔ L a x = true) ∧ MR w' wr.heap.size u (selM M a rs) ∧ rs.Pairwise (· < ·) ∧ (∀ x, x ∈ rs ↔ nam M a x = true) ∧ Ow w w' l n (endL L a xs) (endM M rs) := by
  obtain ⟨P, o, h1, h2⟩ := h
  refine (end_any o hn ha).mono ?_
  rintro e w' ⟨v, xs, u, rs, rfl, h3, h4, h5, h6, h7, h8, P', h9, h10, h11, _, _⟩
  exact ⟨v, xs, u, rs, rfl, h3, h4, h5, h6, h7, h8, Ow.step h1 h2 ⟨P', h9, h10, h11⟩⟩

theorem ir_lit (w : World) (a b : Int) : IR (w.alloc (.cells #[.int .i64 a, .int .i64 b] 3)) w.heap.size (.slice (some ⟨w.heap.size, 0, none⟩) 2 2) [a, b] :=
  ⟨rfl, Or.inr ⟨w.heap.size, 2, #[.int .i64 a, .int .i64 b], rfl, Nat.le_refl _, Cl.new _ _ _ _ rfl, by simp, by decide, rfl, rfl⟩⟩

set_option maxHeartbeats 4000000 in
set_option maxRecDepth 100000 in
theorem awake_any (w : World) : Calls Tryz.prog 9 #[] w fun e w' => e = .returned (.bool true) ∧ Upd [] w w' := by
  have I1 : I64 1 := i64_small (by omega) (by omega)
  have I2 : I64 2 := i64_small (by omega) (by omega)
  have I3 : I64 3 := i64_small (by omega) (by omega)
  have I5 : I64 5 := i64_small (by omega) (by omega)
  have I7 : I64 7 := i64_small (by omega) (by omega)
  have I9 : I64 9 := i64_small (by omega) (by omega)
  have HI : Hid (I64 1 ∧ I64 2 ∧ I64 3 ∧ I64 5 ∧ I64 7 ∧ I64 9) := ⟨I1, I2, I3, I5, I7, I9⟩
  clear I1 I2 I3 I5 I7 I9
  go_enter Tryz.func9, Tryz.ntmps9
  go_wp2_with fail
  refine Calls.mono (ow_new w) ?_
  rintro e w1 ⟨l, rfl, o⟩
  have O1 : Hid (Ow w w1 l 0 (fun _ _ => false) (fun _ => none)) := o
  clear o
  go_wp2_with fail
  refine Calls.mono (ow_link O1.out (by omega) HI.out.1 HI.out.2.1) ?_
  rintro e w2 ⟨he, o⟩
  obtain rfl : e = .returned (.bool true) := he
  have O2 : Hid (Ow w w2 l 2 (linkL (fun _ _ => false) 1 2) (fun _ => none)) := o
  clear o O1
  go_wp2_with fail
  refine Calls.mono (ow_link O2.out (by omega) HI.out.1 HI.out.2.2.1) ?_
  rintro e w3 ⟨he, o⟩
  obtain rfl : e = .returned (.bool true) := he
  have O3 : Hid (Ow w w3 l 4 (linkL (linkL (fun _ _ => false) 1 2) 1 3) (fun _ => none)) := o
  clear o O2
  go_wp2_with fail
  refine Calls.mono (ow_link O3.out (by omega) HI.out.2.1 HI.out.1) ?_
  rintro e w4 ⟨he, o⟩
  obtain rfl : e = .returned (.bool false) := he
  have O4 : Hid (Ow w w4 l 6 exL (fun _ => none)) := o
  clear o O3
  go_wp2_with fail
  refine Calls.mono (ow_watch O4.out (by omega) HI.out.2.2.2.2.2 HI.out.2.1 HI.out.1) ?_
  rintro e w5 ⟨he, o⟩
  obtain rfl : e = .returned (.bool true) := he
  have O5 : Hid (Ow w w5 l 8 exL (watchM (fun _ => none) 9 2 1)) := o
  clear o O4
  go_wp2_with fail
  refine Calls.mono (ow_watch O5.out (by omega) HI.out.2.2.2.1 HI.out.2.2.1 HI.out.1) ?_
  rintro e w6 ⟨he, o⟩
  obtain rfl : e = .returned (.bool true) := he
  have O6 : Hid (Ow w w6 l 10 exL (watchM (watchM (fun _ => none) 9 2 1) 5 3 1)) := o
  clear o O5
  go_wp2_with fail
  refine Calls.mono (ow_watch O6.out (by omega) HI.out.2.2.2.2.1 HI.out.1 HI.out.2.1) ?_
  rintro e w7 ⟨he, o⟩
  obtain rfl : e = .returned (.bool true) := he
  have O7 : Hid (Ow w w7 l 12 exL (watchM (watchM (watchM (fun _ => none) 9 2 1) 5 3 1) 7 1 2)) := o
  clear o O6
  go_wp2_with fail
  refine Calls.mono (ow_watch O7.out (by omega) HI.out.2.2.2.2.2 HI.out.2.2.1 HI.out.2.2.1) ?_
  rintro e w8 ⟨he, o⟩
  obtain rfl : e = .returned (.bool false) := he
  have O8 : Hid (Ow w w8 l 14 exL exM) := o
  clear o O7
  go_wp2_with fail
  refine Calls.mono (ow_end O8.out (by omega) HI.out.1) ?_
  rintro e w9 ⟨v, xs, u, rs, rfl, hv, hx1, hx2, hu, hr1, hr2, o⟩
  obtain rfl := ex_linked hx1 hx2
  rw [ex_watched hr1 hr2] at hu
  have O9 : Hid (Ow w w9 l 14 (endL exL 1 [2, 3]) (endM exM rs) ∧ IR w9 w8.heap.size v [2, 3] ∧ MR w9 w8.heap.size u [(5, 3, 1), (9, 2, 1)]) := ⟨o, hv, hu⟩
  have HR : Hid (∀ x, x ∈ rs ↔ nam exM 1 x = true) := hr2
  clear hx1 hx2 hr1 hr2 o O8
  obtain ⟨p, c, hvf⟩ := hv.form
  obtain ⟨p2, c2, huf⟩ := hu.form
  subst hvf
  subst huf
  clear hv hu
  have K9 : Hid (Upd [] w9 (w9.alloc (.cells #[.int .i64 2, .int .i64 3] 3)) ∧ IR (w9.alloc (.cells #[.int .i64 2, .int .i64 3] 3)) w9.heap.size (.slice (some ⟨w9.heap.size, 0, none⟩) 2 2) [2, 3]) := ⟨(Upd.refl [] w9).alloc _, ir_lit w9 2 3⟩
  go_wp2_with fail
  refine Calls.mono (sameInts_any _ _ _ _ _ _ _ (O9.out.2.1.upd K9.out.1) K9.out.2) ?_
  rintro e w10 ⟨he, hu10⟩
  obtain rfl : e = .returned (.bool true) := he
  have U10 : Hid (Upd [] w9 w10) := K9.out.1.trans hu10
  have M10 : Hid (MR w10 w8.heap.size (.slice p2 2 c2) [(5, 3, 1), (9, 2, 1)]) := O9.out.2.2.upd U10.out
  have O10 : Hid (Ow w w10 l 14 (endL exL 1 [2, 3]) (endM exM rs)) := O9.out.1.upd U10.out
  clear hu10 K9
  obtain ⟨g, c3, huf, m00, m01, m02⟩ := M10.out.cells (k := 0) (by simp)
  obtain ⟨g', c3', huf', m10, m11, m12⟩ := M10.out.cells (k := 1) (by simp)
  simp at huf huf'
  obtain ⟨rfl, rfl⟩ := huf
  simp at huf'
  obtain ⟨rfl, rfl⟩ := huf'
  simp at m00 m01 m02 m10 m11 m12
  go_wp2_with fail
  refine Calls.mono (ow_monitors O10.out (by omega)) ?_
  rintro e w11 ⟨v11, ms, rfl, h1, h2, h3⟩
  have hms := ex_none HR.out h2
  subst hms
  have O11 : Hid (Ow w w11 l 14 (endL exL 1 [2, 3]) (endM exM rs)) := O10.out.upd h3
  obtain ⟨p4, c4, hv4⟩ := h1.form
  subst hv4
  clear h1 h2 h3 m00 m01 m02 m10 m11 m12
  go_wp2_with fail
  refine Calls.mono (ow_of O11.out (by omega) HI.out.2.1) ?_
  rintro e w12 ⟨v12, ys, rfl, h1, h2, h3, h4⟩
  have hys := ex_alone h3
  subst hys
  have O12 : Hid (Ow w w12 l 14 (endL exL 1 [2, 3]) (endM exM rs)) := O11.out.upd h4
  obtain ⟨p5, c5, hv5⟩ := h1.form
  subst hv5
  clear h1 h2 h3 h4
  go_wp2_with fail
  go_ret
  exact ⟨rfl, O12.out.up⟩

end Go.Proofs.YtofcniodobjopaaGreat
