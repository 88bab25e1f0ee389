/- Names of one's own; the chapter's example: awake. -/
import Derived.Test.YtpojkmpimnnjiaaGreatNmG
namespace Go.Proofs.YtpojkmpimnnjiaaGreat
open Go.RowKit Go.Maps

/-- What All tells. -/
def AllSaid : Prop := ∀ (w : World) (l n b1 b2 : Nat) (F : NF) (G : PF), NmO w l n b1 b2 F G → n ≤ 1000000000 →
  Calls Tryz.prog 10 #[.pointer (some ⟨l, 0, none⟩)] w fun e w' => ∃ v ms, e = .returned v ∧ MR w' w.heap.size v ms ∧ ms.Pairwise (fun a b => a.1 < b.1) ∧ (∀ m : Nd, m ∈ ms ↔ F m.1 = some m.2) ∧ Upd [] w w'

/-- Names of one's own: all their blocks are new since w. -/
def Ow (w wr : World) (l n : Nat) (F : NF) (G : PF) : Prop := ∃ b1 b2, NmO wr l n b1 b2 F G ∧ w.heap.size ≤ b1 ∧ w.heap.size ≤ b2 ∧ Upd [] w wr
theorem Ow.upd {w wr w2 : World} {l n : Nat} {F : NF} {G : PF} (h : Ow w wr l n F G) (hu : Upd [] wr w2) : Ow w w2 l n F G := by
  obtain ⟨b1, b2, o, h1, h2, h3⟩ := h
  exact ⟨b1, b2, o.upd hu, h1, h2, h3.trans hu⟩
theorem Ow.up {w wr : World} {l n : Nat} {F : NF} {G : PF} (h : Ow w wr l n F G) : Upd [] w wr := by
  obtain ⟨b1, b2, o, h1, h2, h3⟩ := h
  exact h3
theorem Ow.le {w wr : World} {l n m : Nat} {F : NF} {G : PF} (h : Ow w wr l n F G) (hm : n ≤ m) : Ow w wr l m F G := by
  obtain ⟨b1, b2, o, h1, h2, h3⟩ := h
  exact ⟨b1, b2, o.le hm, h1, h2, h3⟩
theorem Ow.two {w wr : World} {l n : Nat} {F : NF} {G : PF} (h : Ow w wr l n F G) : ∀ s p, F s = some p ↔ G p = some s := by
  obtain ⟨b1, b2, o, h1, h2, h3⟩ := h
  exact o.two
theorem Ow.step {w wr w2 : World} {b1 b2 l n : Nat} {F : NF} {G : PF} (h1 : w.heap.size ≤ b1) (h2 : w.heap.size ≤ b2) (h3 : Upd [] w wr) (o : NmO w2 l n b1 b2 F G) (hu : Upd [b1, b2] wr w2) : Ow w w2 l n F G := by
  refine ⟨b1, b2, o, h1, h2, h3.then hu (fun x hx => Or.inl ?_)⟩
  simp at hx
  rcases hx with rfl | rfl <;> assumption
theorem ow_new (w wr : World) (hu : Upd [] w wr) : Calls Tryz.prog 7 #[] wr fun e w' => ∃ l, e = .returned (.pointer (some ⟨l, 0, none⟩)) ∧ Ow w w' l 0 (fun _ => none) (fun _ => none) := by
  refine (new_any wr).mono ?_
  rintro e w' ⟨l, b1, b2, rfl, o, h1, h2, _, hu2⟩
  exact ⟨l, rfl, b1, b2, o, Nat.le_trans hu.size h1, Nat.le_trans hu.size h2, hu.trans hu2⟩
theorem ow_put {w wr : World} {l n : Nat} {F : NF} {G : PF} (h : Ow w wr l n F G) (hn : n < 1000000000) {s : BS} (hs : s.length ≤ 1000000000) {p : Int} (hp : I64 p) (hF : F s = none) (hG : G p = none) :
    Calls Tryz.prog 12 #[.pointer (some ⟨l, 0, none⟩), encStr s, .int .i64 p] wr fun e w' => e = .returned (.bool true) ∧ Ow w w' l (n + 1) (at1 F s (some p)) (at1 G p (some s)) := by
  obtain ⟨b1, b2, o, h1, h2, h3⟩ := h
  refine (put_new o hn hs hp hF hG).mono ?_
  rintro e w' ⟨rfl, o2, hu⟩
  exact ⟨rfl, Ow.step h1 h2 h3 o2 hu⟩
theorem ow_put_no {w wr : World} {l n : Nat} {F : NF} {G : PF} (h : Ow w wr l n F G) {s : BS} (hs : okB s) {p : Int} (hp : I64 p) (hb : ((F s).isNone && (G p).isNone) = false) :
    Calls Tryz.prog 12 #[.pointer (some ⟨l, 0, none⟩), encStr s, .int .i64 p] wr fun e w' => e = .returned (.bool false) ∧ Ow w w' l n F G := by
  obtain ⟨b1, b2, o, h1, h2, h3⟩ := h
  refine (put_old o hs hp hb).mono ?_
  rintro e w' ⟨rfl, hu⟩
  exact ⟨rfl, b1, b2, o.upd hu, h1, h2, h3.trans hu⟩
theorem ow_take {w wr : World} {l n : Nat} {F : NF} {G : PF} (h : Ow w wr l n F G) {s : BS} (hs : okB s) :
    Calls Tryz.prog 18 #[.pointer (some ⟨l, 0, none⟩), encStr s] wr fun e w' => e = .returned (.bool (F s).isSome) ∧ Ow w w' l n (at1 F s none) (match F s with | some p => at1 G p none | none => G) := by
  obtain ⟨b1, b2, o, h1, h2, h3⟩ := h
  refine (take_any o hs).mono ?_
  rintro e w' ⟨rfl, o2, hu⟩
  exact ⟨rfl, Ow.step h1 h2 h3 o2 hu⟩
theorem ow_find {w wr : World} {l n : Nat} {F : NF} {G : PF} (h : Ow w wr l n F G) {s : BS} (hs : okB s) :
    Calls Tryz.prog 13 #[.pointer (some ⟨l, 0, none⟩), encStr s] wr fun e w' => e = .returned (.tuple #[.int .i64 ((F s).getD 0), .bool (F s).isSome]) ∧ Upd [] wr w' := by
  obtain ⟨b1, b2, o, h1, h2, h3⟩ := h
  exact find_any o hs
theorem ow_end {w wr : World} {l n : Nat} {F : NF} {G : PF} (h : Ow w wr l n F G) {p : Int} (hp : I64 p) :
    Calls Tryz.prog 14 #[.pointer (some ⟨l, 0, none⟩), .int .i64 p] wr fun e w' => ∃ v, e = .returned v ∧ TR w' v (G p).toList ∧ Ow w w' l n (match G p with | some s => at1 F s none | none => F) (at1 G p none) := by
  obtain ⟨b1, b2, o, h1, h2, h3⟩ := h
  refine (end_any o hp).mono ?_
  rintro e w' ⟨he, o2, hu⟩
  have ho := Ow.step h1 h2 h3 o2 hu
  cases hG : G p with
  | none =>
    rw [hG] at he ho
    exact ⟨_, he, TR.nil w', ho⟩
  | some s =>
    rw [hG] at he ho
    obtain ⟨g, hg, he, hc⟩ := he
    exact ⟨_, he, TR.one hc, ho⟩
theorem ow_all (HA : AllSaid) {w wr : World} {l n : Nat} {F : NF} {G : PF} (h : Ow w wr l n F G) (hn : n ≤ 1000000000) :
    Calls Tryz.prog 10 #[.pointer (some ⟨l, 0, none⟩)] wr fun e w' => ∃ v ms, e = .returned v ∧ MR w' wr.heap.size v ms ∧ ms.Pairwise (fun a b => a.1 < b.1) ∧ (∀ m : Nd, m ∈ ms ↔ F m.1 = some m.2) ∧ Upd [] wr w' := by
  obtain ⟨b1, b2, o, h1, h2, h3⟩ := h
  exact HA wr l n b1 b2 F G o hn

theorem nameds_one {xs ys : List Nd} (h1 : xs.Pairwise (fun a b => a.1 < b.1)) (h2 : ys.Pairwise (fun a b => a.1 < b.1)) (h : ∀ x, x ∈ xs ↔ x ∈ ys) : xs = ys := by
  have n1 : xs.Nodup := h1.imp (fun h e => by rw [e] at h; exact List.lt_irrefl _ h)
  have n2 : ys.Nodup := h2.imp (fun h e => by rw [e] at h; exact List.lt_irrefl _ h)
  have hp : xs.Perm ys := (List.perm_ext_iff_of_nodup n1 n2).2 h
  exact hp.eq_of_pairwise (le := fun a b => a.1 < b.1) (fun a b _ _ h3 h4 => absurd h4 (List.lt_asymm h3)) h1 h2

theorem nam_lit (w : World) (s : BS) (p : Int) : MR (w.alloc (.cells #[encStr s, .int .i64 p] 42)) w.heap.size (.slice (some ⟨w.heap.size, 0, none⟩) 1 1) [(s, p)] :=
  ⟨rfl, Or.inr ⟨w.heap.size, 1, #[encStr s, .int .i64 p], rfl, Nat.le_refl _, Cl.new _ _ _ _ rfl, by simp, by decide, rfl, rfl⟩⟩

set_option maxHeartbeats 4000000 in
set_option maxRecDepth 100000 in
theorem awake_any (HALL : AllSaid) (w : World) : Calls Tryz.prog 6 #[] w fun e w' => e = .returned (.bool true) ∧ Upd [] w w' := by
  have HA : Hid AllSaid := HALL
  have HI : Hid (I64 7 ∧ I64 8 ∧ okB [97] ∧ okB [98]) := ⟨i64_small (by omega) (by omega), i64_small (by omega) (by omega), by simp [okB, maxLen], by simp [okB, maxLen]⟩
  clear HALL
  go_enter Tryz.func6, Tryz.ntmps6
  go_wp2_with fail
  refine Calls.mono (ow_new w w (Upd.refl [] w)) ?_
  rintro e w1 ⟨l, rfl, o⟩
  have O1 : Hid (Ow w w1 l 0 (fun _ => none) (fun _ => none)) := o
  clear o
  go_wp2_with fail
  refine Calls.mono (ow_put (s := [97]) O1.out (by omega) (by simp) HI.out.1 rfl rfl) ?_
  rintro e w2 ⟨rfl, o⟩
  obtain ⟨F1, hF1⟩ : ∃ F1 : NF, F1 = at1 (fun _ => none) [97] (some 7) := ⟨_, rfl⟩
  obtain ⟨G1, hG1⟩ : ∃ G1 : PF, G1 = at1 (fun _ => none) 7 (some [97]) := ⟨_, rfl⟩
  have K1 : Hid (F1 [97] = some 7 ∧ F1 [98] = none ∧ G1 7 = some [97] ∧ G1 8 = none ∧ (∀ s, s ≠ [97] → F1 s = none)) := by
    rw [hF1, hG1]
    refine ⟨by simp [at1], by simp [at1], by simp [at1], by simp [at1], fun s hs => by simp [at1, hs]⟩
  have O2 : Hid (Ow w w2 l 1 F1 G1) := by rw [hF1, hG1]; exact o
  clear o O1 hF1 hG1
  go_wp2_with fail
  refine Calls.mono (ow_put_no (s := [97]) O2.out HI.out.2.2.1 HI.out.2.1 (by rw [K1.out.1]; rfl)) ?_
  rintro e w3 ⟨rfl, o⟩
  have O3 : Hid (Ow w w3 l 1 F1 G1) := o
  clear o O2
  go_wp2_with fail
  refine Calls.mono (ow_put_no (s := [98]) O3.out HI.out.2.2.2 HI.out.1 (by rw [K1.out.2.2.1]; simp)) ?_
  rintro e w4 ⟨rfl, o⟩
  have O4 : Hid (Ow w w4 l 1 F1 G1) := o
  clear o O3
  go_wp2_with fail
  refine Calls.mono (ow_find (s := [97]) O4.out HI.out.2.2.1) ?_
  rw [K1.out.1]
  rintro e w5 ⟨he, hu⟩
  obtain rfl : e = .returned (.tuple #[.int .i64 7, .bool true]) := he
  have O5 : Hid (Ow w w5 l 1 F1 G1) := O4.out.upd hu
  clear hu O4
  go_wp2_with fail
  refine Calls.mono (ow_end O5.out HI.out.1) ?_
  rw [K1.out.2.2.1]
  rintro e w6 ⟨v, rfl, ht, o⟩
  obtain ⟨F2, hF2⟩ : ∃ F2 : NF, F2 = at1 F1 [97] none := ⟨_, rfl⟩
  obtain ⟨G2, hG2⟩ : ∃ G2 : PF, G2 = at1 G1 7 none := ⟨_, rfl⟩
  have K2 : Hid (F2 [97] = none ∧ F2 [98] = none ∧ G2 7 = none ∧ ∀ s, F2 s = none) := by
    have h0 : ∀ s, F2 s = none := fun s => by
      rw [hF2]
      by_cases hs : s = [97]
      · subst hs; simp [at1]
      · rw [at1_other _ _ hs]; exact K1.out.2.2.2.2 s hs
    exact ⟨h0 _, h0 _, by rw [hG2, at1_same], h0⟩
  have O6 : Hid (Ow w w6 l 1 F2 G2 ∧ TR w6 v [[97]]) := by rw [hF2, hG2]; exact ⟨o, ht⟩
  clear o O5 hF2 hG2 K1 ht
  go_wp2_with fail
  refine Calls.mono (ow_find (s := [97]) O6.out.1 HI.out.2.2.1) ?_
  rw [K2.out.1]
  rintro e w7 ⟨he, hu⟩
  obtain rfl : e = .returned (.tuple #[.int .i64 0, .bool false]) := he
  have O7 : Hid (Ow w w7 l 1 F2 G2 ∧ TR w7 v [[97]]) := ⟨O6.out.1.upd hu, O6.out.2.upd hu⟩
  clear hu O6
  obtain ⟨pv, cv, hvf⟩ := O7.out.2.form
  subst hvf
  go_wp2_with fail
  refine Calls.mono (sameTexts_any _ _ _ _ _ (O7.out.2.upd ((Upd.refl [] w7).alloc _)) (TR.one (Cl.new w7 #[encStr [97]] _ _ rfl))) ?_
  rintro e w8 ⟨he, hu⟩
  obtain rfl : e = .returned (.bool true) := he
  have O8 : Hid (Ow w w8 l 1 F2 G2) := O7.out.1.upd (((Upd.refl [] w7).alloc _).trans hu)
  clear hu O7
  go_wp2_with fail
  refine Calls.mono (ow_put (s := [98]) O8.out (by omega) (by simp) HI.out.1 K2.out.2.1 K2.out.2.2.1) ?_
  rintro e w9 ⟨rfl, o⟩
  have O9 : Hid (Ow w w9 l 2 (at1 F2 [98] (some 7)) (at1 G2 7 (some [98]))) := o
  clear o O8
  go_wp2_with fail
  refine Calls.mono (ow_all HA.out O9.out (by omega)) ?_
  rintro e w10 ⟨u, ms, rfl, hm, hp, hmem, hu⟩
  have hms : ms = [([98], 7)] := nameds_one hp (List.pairwise_singleton _ _) (fun x => by
    rw [hmem, List.mem_singleton]
    obtain ⟨s, p⟩ := x
    by_cases hs : s = [98]
    · subst hs; simp [at1]; exact eq_comm
    · simp [at1_other _ _ hs, K2.out.2.2.2, hs])
  subst hms
  have O10 : Hid (Ow w w10 l 2 (at1 F2 [98] (some 7)) (at1 G2 7 (some [98])) ∧ MR w10 w9.heap.size u [([98], 7)]) := ⟨O9.out.upd hu, hm⟩
  clear hm hp hmem hu O9
  obtain ⟨p2, c2, huf⟩ := O10.out.2.form
  subst huf
  go_wp2_with fail
  refine Calls.mono (sameNameds_any _ _ _ _ _ _ _ (O10.out.2.upd ((Upd.refl [] w10).alloc _)) (nam_lit w10 [98] 7)) ?_
  rintro e w11 ⟨he, hu⟩
  obtain rfl : e = .returned (.bool true) := he
  have U : Hid (Upd [] w w11) := O10.out.1.up.trans (((Upd.refl [] w10).alloc _).trans hu)
  clear hu O10
  go_wp2_with fail
  go_ret
  exact ⟨rfl, U.out⟩

end Go.Proofs.YtpojkmpimnnjiaaGreat
