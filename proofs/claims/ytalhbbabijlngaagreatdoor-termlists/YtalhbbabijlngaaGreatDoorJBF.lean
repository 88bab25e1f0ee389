/- The kit's bag: do all rows of terms, and of limbs, lie apart? -/
import Derived.Test.YtalhbbabijlngaaGreatDoorFlL
import Derived.Test.YtalhbbabijlngaaGreatDoorFlE
import Derived.Test.YtalhbbabijlngaaGreatDoorJBE
import Derived.Test.YtalhbbabijlngaaGreatDoorFlN2
import Derived.Test.YtalhbbabijlngaaGreatDoorFlN3
import Derived.Test.YtalhbbabijlngaaGreatDoorFlN4
import Derived.Test.YtalhbbabijlngaaGreatDoorJAH
namespace Go.Proofs.YtalhbbabijlngaaGreatDoor
open Go.RowKit
theorem Low.upd {S : List Nat} {w w' : World} (h : Low w.heap.size (fun x => x ∈ S) w w') : Upd S w w' := ⟨h.os, h.tape, h.output, h.size, fun k hk hn => h.blk k hk hn⟩
theorem Rs.upd2 {S : List Nat} {w w' : World} {sz L m B : Nat} {v : Nat → Value} {n : Nat → Nat} (h : Rs w sz L m B v n) (hu : Upd S w w') (hL : L ∉ S) (hS : ∀ j g, j < m → (v j).ownBlock = some g → g ∉ S) : Rs w' sz L m B v n :=
 ⟨Nat.le_trans h.hB hu.size, h.hL, fun j hj => by rw [hu.cell (p := ⟨L, j, none⟩) (Nat.lt_of_lt_of_le h.hL h.hB) hL]; exact h.blk j hj, fun j hj => (h.row j hj).upd hu (fun g hg => hS j g hj hg), h.own, h.apart⟩
set_option maxHeartbeats 4000000 in
set_option maxRecDepth 100000 in
theorem apartT_in (w : World) (gb L1 m1 c1 L2 m2 c2 : Nat) (S1 S2 : List Nat) (v1 v2 : Nat → Value) (n1 n2 : Nat → Nat) (hB : Bk w gb (bagT (.slice (some ⟨L1, 0, none⟩) m1 c1) (.slice (some ⟨L2, 0, none⟩) m2 c2)) 90) (hR1 : Rs w 1 L1 m1 w.heap.size v1 n1) (hR2 : Rs w 7 L2 m2 w.heap.size v2 n2) (hm1 : m1 ≤ 1000000) (hm2 : m2 ≤ 1000000) (hn1 : ∀ k, k < m1 → n1 k ≤ 35184372088605) (hn2 : ∀ k, k < m2 → n2 k ≤ 1000000)
  (h1 : ∀ k g, k < m1 → (v1 k).ownBlock = some g → g ∈ S1) (h2 : ∀ k g, k < m2 → (v2 k).ownBlock = some g → g ∈ S2) (hg : gb ∉ S1 ∧ gb ∉ S2) (hL : L2 ∉ S1) (h12 : ∀ k g, k < m2 → (v2 k).ownBlock = some g → g ∉ S1) :
  Calls Tryz.prog 60 #[.pointer (some ⟨gb, 0, none⟩)] w fun e w' => e = .returned (.bool true) ∧ Upd (S1 ++ S2) w w' := by
 have y0 : w.cell? ⟨gb, 0, none⟩ = some (.slice (some ⟨L1, 0, none⟩) m1 c1) := hB.cell 0
 have HB : Hid (Bk w gb (bagT (.slice (some ⟨L1, 0, none⟩) m1 c1) (.slice (some ⟨L2, 0, none⟩) m2 c2)) 90) := hB
 have HFl : Hid (Calls Tryz.prog 92 #[.slice (some ⟨L1, 0, none⟩) m1 c1] w fun e w' => e = .returned (.bool true) ∧ Upd S1 w w') := (flatLimbs_in w L1 m1 c1 w.heap.size (fun x => x ∈ S1) v1 n1 hR1 hm1 hn1 (Nat.le_refl _) h1).mono fun _ _ ⟨e, hl⟩ => ⟨e, hl.upd⟩
 have HFt : Hid (∀ W, Upd S1 w W → Calls Tryz.prog 99 #[.slice (some ⟨L2, 0, none⟩) m2 c2] W fun e w' => e = .returned (.bool true) ∧ Upd S2 W w') := fun W hW => (flatTerms_in W L2 m2 c2 W.heap.size (fun x => x ∈ S2) v2 n2 ((hR2.upd2 hW hL h12).raise hW.size (Nat.le_refl _)) hm2 hn2 (Nat.le_refl _) h2).mono fun _ _ ⟨e, hl⟩ => ⟨e, hl.upd⟩
 have HG : Hid (gb ∉ S1 ∧ gb ∉ S2) := hg
 clear hB hR1 hR2 hn1 hn2 h1 h2 hg hL h12
 go_enter Tryz.func60, Tryz.ntmps60
 (try dsimp only [List.append])
 go_wp2_with (first
  | (go_at_call 92; refine HFl.out.mono ?_; rintro e w0 ⟨rfl, hU⟩; have HU0 : Hid (Upd S1 w w0) := hU; have HB0 : Hid (Bk w0 gb (bagT (.slice (some ⟨L1, 0, none⟩) m1 c1) (.slice (some ⟨L2, 0, none⟩) m2 c2)) 90) := HB.out.mono hU HG.out.1; clear hU; have y1 : w0.cell? ⟨gb, 1, none⟩ = some (.slice none 0 0) := HB0.out.cell 1)
  | (go_at_call 93; refine (flatWords_nil _).mono ?_; rintro e w1 ⟨rfl, hU⟩; have HU1 : Hid (Upd S1 w w1) := HU0.out.trans (hU.wide (by simp)); have HB1 : Hid (Bk w1 gb (bagT (.slice (some ⟨L1, 0, none⟩) m1 c1) (.slice (some ⟨L2, 0, none⟩) m2 c2)) 90) := HB0.out.mono hU (by simp); clear hU; have y2 : w1.cell? ⟨gb, 2, none⟩ = some (.slice none 0 0) := HB1.out.cell 2)
  | (go_at_call 94; refine (flatInts_nil _).mono ?_; rintro e w2 ⟨rfl, hU⟩; have HU2 : Hid (Upd S1 w w2) := HU1.out.trans (hU.wide (by simp)); have HB2 : Hid (Bk w2 gb (bagT (.slice (some ⟨L1, 0, none⟩) m1 c1) (.slice (some ⟨L2, 0, none⟩) m2 c2)) 90) := HB1.out.mono hU (by simp); clear hU; have y3 : w2.cell? ⟨gb, 3, none⟩ = some (.slice none 0 0) := HB2.out.cell 3)
  | (go_at_call 95; refine (flatLongs_nil _).mono ?_; rintro e w3 ⟨rfl, hU⟩; have HU3 : Hid (Upd S1 w w3) := HU2.out.trans (hU.wide (by simp)); have HB3 : Hid (Bk w3 gb (bagT (.slice (some ⟨L1, 0, none⟩) m1 c1) (.slice (some ⟨L2, 0, none⟩) m2 c2)) 90) := HB2.out.mono hU (by simp); clear hU; have y4 : w3.cell? ⟨gb, 4, none⟩ = some (.slice none 0 0) := HB3.out.cell 4)
  | (go_at_call 96; refine (flatTexts_nil _).mono ?_; rintro e w4 ⟨rfl, hU⟩; have HU4 : Hid (Upd S1 w w4) := HU3.out.trans (hU.wide (by simp)); have HB4 : Hid (Bk w4 gb (bagT (.slice (some ⟨L1, 0, none⟩) m1 c1) (.slice (some ⟨L2, 0, none⟩) m2 c2)) 90) := HB3.out.mono hU (by simp); clear hU; have y5 : w4.cell? ⟨gb, 5, none⟩ = some (.slice none 0 0) := HB4.out.cell 5)
  | (go_at_call 97; refine (flatBytes_nil _).mono ?_; rintro e w5 ⟨rfl, hU⟩; have HU5 : Hid (Upd S1 w w5) := HU4.out.trans (hU.wide (by simp)); have HB5 : Hid (Bk w5 gb (bagT (.slice (some ⟨L1, 0, none⟩) m1 c1) (.slice (some ⟨L2, 0, none⟩) m2 c2)) 90) := HB4.out.mono hU (by simp); clear hU; have y6 : w5.cell? ⟨gb, 6, none⟩ = some (.slice none 0 0) := HB5.out.cell 6)
  | (go_at_call 98; refine (flatFaults_nil _).mono ?_; rintro e w6 ⟨rfl, hU⟩; have HU6 : Hid (Upd S1 w w6) := HU5.out.trans (hU.wide (by simp)); have HB6 : Hid (Bk w6 gb (bagT (.slice (some ⟨L1, 0, none⟩) m1 c1) (.slice (some ⟨L2, 0, none⟩) m2 c2)) 90) := HB5.out.mono hU (by simp); clear hU; have y7 : w6.cell? ⟨gb, 7, none⟩ = some (.slice (some ⟨L2, 0, none⟩) m2 c2) := HB6.out.cell 7)
  | (go_at_call 99; refine (HFt.out _ HU6.out).mono ?_; rintro e w7 ⟨rfl, hU⟩; have HU7 : Hid (Upd (S1 ++ S2) w w7) := (HU6.out.wide (fun x hx => List.mem_append.2 (Or.inl hx))).trans (hU.wide (fun x hx => List.mem_append.2 (Or.inr hx))); have HB7 : Hid (Bk w7 gb (bagT (.slice (some ⟨L1, 0, none⟩) m1 c1) (.slice (some ⟨L2, 0, none⟩) m2 c2)) 90) := HB6.out.mono hU HG.out.2; clear hU; have y8 : w7.cell? ⟨gb, 8, none⟩ = some (.slice none 0 0) := HB7.out.cell 8)
  | (go_at_call 100; refine (flatTokens_nil _).mono ?_; rintro e w8 ⟨rfl, hU⟩; have HU8 : Hid (Upd (S1 ++ S2) w w8) := HU7.out.trans (hU.wide (by simp)); have HB8 : Hid (Bk w8 gb (bagT (.slice (some ⟨L1, 0, none⟩) m1 c1) (.slice (some ⟨L2, 0, none⟩) m2 c2)) 90) := HB7.out.mono hU (by simp); clear hU; have y9 : w8.cell? ⟨gb, 9, none⟩ = some (.slice none 0 0) := HB8.out.cell 9)
  | (go_at_call 101; refine (flatNodes_nil _).mono ?_; rintro e w9 ⟨rfl, hU⟩; have HU9 : Hid (Upd (S1 ++ S2) w w9) := HU8.out.trans (hU.wide (by simp)); have HB9 : Hid (Bk w9 gb (bagT (.slice (some ⟨L1, 0, none⟩) m1 c1) (.slice (some ⟨L2, 0, none⟩) m2 c2)) 90) := HB8.out.mono hU (by simp); clear hU; have y10 : w9.cell? ⟨gb, 10, none⟩ = some (.slice none 0 0) := HB9.out.cell 10)
  | (go_at_call 102; refine (flatCores_nil _).mono ?_; rintro e w10 ⟨rfl, hU⟩; have HU10 : Hid (Upd (S1 ++ S2) w w10) := HU9.out.trans (hU.wide (by simp)); have HB10 : Hid (Bk w10 gb (bagT (.slice (some ⟨L1, 0, none⟩) m1 c1) (.slice (some ⟨L2, 0, none⟩) m2 c2)) 90) := HB9.out.mono hU (by simp); clear hU; have y11 : w10.cell? ⟨gb, 11, none⟩ = some (.slice none 0 0) := HB10.out.cell 11)
  | (go_at_call 103; refine (flatFuncs_nil _).mono ?_; rintro e w11 ⟨rfl, hU⟩; have HU11 : Hid (Upd (S1 ++ S2) w w11) := HU10.out.trans (hU.wide (by simp)); have HB11 : Hid (Bk w11 gb (bagT (.slice (some ⟨L1, 0, none⟩) m1 c1) (.slice (some ⟨L2, 0, none⟩) m2 c2)) 90) := HB10.out.mono hU (by simp); clear hU; have y12 : w11.cell? ⟨gb, 12, none⟩ = some (.slice none 0 0) := HB11.out.cell 12)
  | (go_at_call 104; refine (flatPrograms_nil _).mono ?_; rintro e w12 ⟨rfl, hU⟩; have HU12 : Hid (Upd (S1 ++ S2) w w12) := HU11.out.trans (hU.wide (by simp)); have HB12 : Hid (Bk w12 gb (bagT (.slice (some ⟨L1, 0, none⟩) m1 c1) (.slice (some ⟨L2, 0, none⟩) m2 c2)) 90) := HB11.out.mono hU (by simp); clear hU; have y13 : w12.cell? ⟨gb, 13, none⟩ = some (.slice none 0 0) := HB12.out.cell 13)
  | (go_at_call 105; refine (flatInstrs_nil _).mono ?_; rintro e w13 ⟨rfl, hU⟩; have HU13 : Hid (Upd (S1 ++ S2) w w13) := HU12.out.trans (hU.wide (by simp)); have HB13 : Hid (Bk w13 gb (bagT (.slice (some ⟨L1, 0, none⟩) m1 c1) (.slice (some ⟨L2, 0, none⟩) m2 c2)) 90) := HB12.out.mono hU (by simp); clear hU; have y14 : w13.cell? ⟨gb, 14, none⟩ = some (.slice none 0 0) := HB13.out.cell 14)
  | (go_at_call 106; refine (flatEntries_nil _).mono ?_; rintro e w14 ⟨rfl, hU⟩; have HU14 : Hid (Upd (S1 ++ S2) w w14) := HU13.out.trans (hU.wide (by simp)); have HB14 : Hid (Bk w14 gb (bagT (.slice (some ⟨L1, 0, none⟩) m1 c1) (.slice (some ⟨L2, 0, none⟩) m2 c2)) 90) := HB13.out.mono hU (by simp); clear hU; have y15 : w14.cell? ⟨gb, 15, none⟩ = some (.slice none 0 0) := HB14.out.cell 15)
  | (go_at_call 107; refine (flatCodes_nil _).mono ?_; rintro e w15 ⟨rfl, hU⟩; have HU15 : Hid (Upd (S1 ++ S2) w w15) := HU14.out.trans (hU.wide (by simp)); have HB15 : Hid (Bk w15 gb (bagT (.slice (some ⟨L1, 0, none⟩) m1 c1) (.slice (some ⟨L2, 0, none⟩) m2 c2)) 90) := HB14.out.mono hU (by simp); clear hU; have y16 : w15.cell? ⟨gb, 16, none⟩ = some (.slice none 0 0) := HB15.out.cell 16)
  | (go_at_call 108; refine (flatSteps_nil _).mono ?_; rintro e w16 ⟨rfl, hU⟩; have HU16 : Hid (Upd (S1 ++ S2) w w16) := HU15.out.trans (hU.wide (by simp)); have HB16 : Hid (Bk w16 gb (bagT (.slice (some ⟨L1, 0, none⟩) m1 c1) (.slice (some ⟨L2, 0, none⟩) m2 c2)) 90) := HB15.out.mono hU (by simp); clear hU; have y17 : w16.cell? ⟨gb, 17, none⟩ = some (.slice none 0 0) := HB16.out.cell 17)
  | (go_at_call 109; refine (flatEndeds_nil _).mono ?_; rintro e w17 ⟨rfl, hU⟩; have HU17 : Hid (Upd (S1 ++ S2) w w17) := HU16.out.trans (hU.wide (by simp)); have HB17 : Hid (Bk w17 gb (bagT (.slice (some ⟨L1, 0, none⟩) m1 c1) (.slice (some ⟨L2, 0, none⟩) m2 c2)) 90) := HB16.out.mono hU (by simp); clear hU; have y18 : w17.cell? ⟨gb, 18, none⟩ = some (.slice none 0 0) := HB17.out.cell 18)
  | (go_at_call 110; refine (flatNameds_nil _).mono ?_; rintro e w18 ⟨rfl, hU⟩; have HU18 : Hid (Upd (S1 ++ S2) w w18) := HU17.out.trans (hU.wide (by simp)); have HB18 : Hid (Bk w18 gb (bagT (.slice (some ⟨L1, 0, none⟩) m1 c1) (.slice (some ⟨L2, 0, none⟩) m2 c2)) 90) := HB17.out.mono hU (by simp); clear hU; have y19 : w18.cell? ⟨gb, 19, none⟩ = some (.slice none 0 0) := HB18.out.cell 19)
  | (go_at_call 111; refine (flatSeens_nil _).mono ?_; rintro e w19 ⟨rfl, hU⟩; have HU19 : Hid (Upd (S1 ++ S2) w w19) := HU18.out.trans (hU.wide (by simp)); have HB19 : Hid (Bk w19 gb (bagT (.slice (some ⟨L1, 0, none⟩) m1 c1) (.slice (some ⟨L2, 0, none⟩) m2 c2)) 90) := HB18.out.mono hU (by simp); clear hU)
  | fail)
 go_ret
 exact ⟨rfl, HU19.out⟩
def lenV : Value → Nat
 | .slice _ n _ => n
 | _ => 0
theorem RowG.len {w : World} {sz n : Nat} {v : Value} (h : RowG w sz v n) : lenV v = n := by
 obtain ⟨a, c, rfl, _⟩ := h.form
 rfl
theorem bks_apart {l : List Value} (h : (bks l).Nodup) {i j g : Nat} (hi : i < l.length) (hj : j < l.length) (hij : i ≠ j) (h1 : l[i].ownBlock = some g) : l[j].ownBlock ≠ some g := by
 intro h2
 have hp := (List.pairwise_flatMap.1 h).2
 rcases Nat.lt_or_gt_of_ne hij with h3 | h3
 ·exact (List.pairwise_iff_getElem.1 hp i j hi hj h3) g (by rw [h1]; simp) g (by rw [h2]; simp) rfl
 ·exact (List.pairwise_iff_getElem.1 hp j i hj hi h3) g (by rw [h2]; simp) g (by rw [h1]; simp) rfl
theorem rs_of {w : World} {sz L c : Nat} {A : List Value} (hr : RowG w 1 (.slice (some ⟨L, 0, none⟩) A.length c) A.length) (hh : Hs w 1 (.slice (some ⟨L, 0, none⟩) A.length c) A.length (lst A)) (hrow : ∀ v, v ∈ A → RowG w sz v (lenV v)) (hnd : (bks A).Nodup) (hL : L ∉ bks A) :
  Rs w sz L A.length w.heap.size (fun j => A.getD j undef) (fun j => lenV (A.getD j undef)) := by
 have hg : ∀ j (hj : j < A.length), A.getD j undef = A[j] := fun j hj => by rw [List.getD_eq_getElem?_getD, List.getElem?_eq_getElem hj]; rfl
 refine ⟨Nat.le_refl _, hr.lt L rfl, fun j hj => ?_, fun j hj => hrow _ (by rw [hg j hj]; exact List.getElem_mem hj), fun j g hj e => ?_, fun i j g hi hj hij e => ?_⟩
 ·have := hh L A.length c rfl j 0 hj (by omega)
  rw [Nat.mul_one, Nat.add_zero] at this
  rw [this, hg j hj]
  unfold lst
  rw [List.getElem?_eq_getElem hj]
  rfl
 ·rw [hg j hj] at e
  have hm : A[j] ∈ A := List.getElem_mem hj
  exact ⟨(hrow _ hm).lt g e, fun h => hL (mem_bks.2 ⟨A[j], hm, by rw [e, h]⟩)⟩
 ·rw [hg i hi] at e
  rw [hg j hj]
  exact bks_apart hnd hi hj hij e
theorem belR_get (J : List Tm) : ∀ i (hi : i < J.length), belT J[i] ≤ belR J := by
 induction J with
 | nil => intro i hi; simp at hi
 | cons t r ih =>
  intro i hi
  simp only [belR]
  cases i with
  | zero => simp
  | succ i => have := ih i (by simpa using hi); simp only [List.getElem_cons_succ]; omega
theorem belR_take (J : List Tm) : ∀ n (hn : n < J.length), belR (J.take (n + 1)) = belR (J.take n) + belT J[n] := by
 induction J with
 | nil => intro n hn; simp at hn
 | cons t r ih =>
  intro n hn
  cases n with
  | zero => simp [belR]
  | succ n => simp only [List.take_succ_cons, belR, List.getElem_cons_succ]; rw [ih n (by simpa using hn)]; omega
theorem BT.rows {w : World} : ∀ (d : Nat) (cs : List Value) (t : Tm) (LB RB : List Value), BT 0 w d cs t LB RB → tsz t ≤ 1353245080330 → (∀ v, v ∈ LB → RowG w 1 v (lenV v) ∧ lenV v ≤ 35184372088605) ∧ (∀ v, v ∈ RB → RowG w 7 v (lenV v) ∧ lenV v ≤ belT t) ∧ LB.length = 1 + belT t ∧ RB.length = 2 * (1 + belT t) := by
 intro d
 induction d with
 | zero => intro cs t LB RB h; exact h.elim
 | succ d ih =>
  intro cs t LB RB h hs
  cases t with
  | mk k num neg L s I T =>
   obtain ⟨vl, vi, vt, l1, l2, r1, r2, rfl, h1, h2, h3, rfl, rfl⟩ := h
   simp only [tsz] at hs
   have row : ∀ (v : Value) (J : List Tm) (l r : List Value), RowBT 0 (BT 0 w d) w v J l r → tszs J ≤ 1353245080330 → (∀ v, v ∈ l → RowG w 1 v (lenV v) ∧ lenV v ≤ 35184372088605) ∧ (∀ v, v ∈ r → RowG w 7 v (lenV v) ∧ lenV v ≤ J.length + belR J) ∧ l.length = J.length + belR J ∧ r.length = 1 + 2 * (J.length + belR J) := by
    rintro v J l r ⟨ls, rs, rfl, rfl, hq, hk⟩ hsJ
    have each : ∀ i (hi : i < J.length), (∀ v, v ∈ ls i → RowG w 1 v (lenV v) ∧ lenV v ≤ 35184372088605) ∧ (∀ v, v ∈ rs i → RowG w 7 v (lenV v) ∧ lenV v ≤ belT J[i]) ∧ (ls i).length = 1 + belT J[i] ∧ (rs i).length = 2 * (1 + belT J[i]) := fun i hi => by
     obtain ⟨cs, _, _, hb⟩ := hk i hi
     exact ih cs J[i] _ _ hb (Nat.le_trans (tszs_get J i hi) hsJ)
    have le : ∀ i (hi : i < J.length), belT J[i] ≤ belR J := fun i hi => belR_get J i hi
    have sums : ∀ n, n ≤ J.length → ((List.range n).flatMap ls).length = n + belR (J.take n) ∧ ((List.range n).flatMap rs).length = 2 * (n + belR (J.take n)) := by
     intro n
     induction n with
     | zero => intro _; simp [belR]
     | succ n ihn =>
      intro hn
      obtain ⟨e1, e2⟩ := ihn (by omega)
      obtain ⟨_, _, e3, e4⟩ := each n (by omega)
      have e5 := belR_take J n (by omega)
      rw [flat_succ, flat_succ, List.length_append, List.length_append, e1, e2, e3, e4, e5]
      omega
    obtain ⟨e1, e2⟩ := sums J.length (Nat.le_refl _)
    rw [List.take_length] at e1 e2
    refine ⟨fun v hv => ?_, fun v hv => ?_, e1, by rw [List.length_cons, e2]; omega⟩
    ·obtain ⟨i, hi, hv⟩ := List.mem_flatMap.1 hv
     exact (each i (by simpa using hi)).1 v hv
    ·rcases List.mem_cons.1 hv with rfl | hv
     ·rw [hq.1.len]; exact ⟨hq.1, by omega⟩
     ·obtain ⟨i, hi, hv⟩ := List.mem_flatMap.1 hv
      have hi' : i < J.length := by simpa using hi
      obtain ⟨h5, h6⟩ := (each i hi').2.1 v hv
      exact ⟨h5, by have := le i hi'; omega⟩
   obtain ⟨a1, a2, a3, a4⟩ := row vi I l1 r1 h2 (by omega)
   obtain ⟨b1, b2, b3, b4⟩ := row vt T l2 r2 h3 (by omega)
   simp only [belT]
   refine ⟨fun v hv => ?_, fun v hv => ?_, by simp only [List.length_cons, List.length_append]; omega, by simp only [List.length_append]; omega⟩
   ·rcases List.mem_cons.1 hv with rfl | hv
    ·rw [h1.1.len]; exact ⟨h1.1, by omega⟩
    ·rcases List.mem_append.1 hv with hv | hv
     ·exact a1 v hv
     ·exact b1 v hv
   ·rcases List.mem_append.1 hv with hv | hv
    ·obtain ⟨h5, h6⟩ := a2 v hv; exact ⟨h5, by omega⟩
    ·obtain ⟨h5, h6⟩ := b2 v hv; exact ⟨h5, by omega⟩
end Go.Proofs.YtalhbbabijlngaaGreatDoor
namespace Go.Proofs.YtalhbbabijlngaaGreatDoor
open Go.RowKit
theorem RowBT.rows {d : Nat} {w : World} {v : Value} {I : List Tm} {l r : List Value} (h : RowBT 0 (BT 0 w d) w v I l r) (hs : tszs I ≤ 1353245080330) : (∀ v, v ∈ l → RowG w 1 v (lenV v) ∧ lenV v ≤ 35184372088605) ∧ (∀ v, v ∈ r → RowG w 7 v (lenV v) ∧ lenV v ≤ I.length + belR I) ∧ l.length = I.length + belR I ∧ r.length = 1 + 2 * (I.length + belR I) := by
 have hn : RowBT 0 (BT 0 w d) w (.slice none 0 0) [] [] [.slice none 0 0] := ⟨fun _ => [], fun _ => [], rfl, rfl, ⟨Or.inl ⟨rfl, rfl⟩, Or.inl rfl⟩, fun i hi => by simp at hi⟩
 have hb : BT 0 w (d + 1) [.int .u8 0, .bool false, .slice none 0 0, .string ⟨#[]⟩, .int .i64 0, v, .slice none 0 0] (.mk 0 0 false [] ⟨#[]⟩ I []) (.slice none 0 0 :: (l ++ [])) (r ++ [.slice none 0 0]) :=
  ⟨.slice none 0 0, v, .slice none 0 0, l, [], r, [.slice none 0 0], rfl, ⟨Or.inl ⟨rfl, rfl⟩, Or.inl rfl⟩, h, hn, rfl, rfl⟩
 obtain ⟨h1, h2, h3, h4⟩ := BT.rows _ _ _ _ _ hb (by simp only [tsz, tszs]; simp; exact hs)
 simp only [belT, belR, List.length_nil] at h2 h3 h4
 refine ⟨fun u hu => h1 u (by simp [hu]), fun u hu => ?_, by simp at h3; omega, by simp at h4; omega⟩
 obtain ⟨a, b⟩ := h2 u (by simp [hu])
 exact ⟨a, by omega⟩
set_option maxHeartbeats 4000000 in
set_option maxRecDepth 100000 in
theorem ApartTerms_in (w : World) (Lb m cL d : Nat) (v : Nat → Value) (I : Nat → List Tm) (ls rs : Nat → List Value) (hm0 : 0 < m) (hm : m ≤ 10) (hcell : ∀ k, k < m → w.cell? ⟨Lb, k, none⟩ = some (v k)) (hLl : Lb < w.heap.size)
  (hR : ∀ k, k < m → RowBT 0 (BT 0 w d) w (v k) (I k) (ls k) (rs k)) (hap : Apt ((List.range m).flatMap ls) ((List.range m).flatMap rs)) (hs : ∀ k, k < m → tszs (I k) ≤ 1353245080330) (hb : ∀ k, k < m → (I k).length + belR (I k) ≤ 20000) (h0 : 0 < (I 0).length)
  (_hlb : Lb ∉ KB ((List.range m).flatMap ls) ((List.range m).flatMap rs)) :
  Calls Tryz.prog 19 #[.slice (some ⟨Lb, 0, none⟩) m cL] w fun e w' => e = .returned (.bool true) ∧ Upd (KB ((List.range m).flatMap ls) ((List.range m).flatMap rs)) w w' := by
 obtain ⟨B, hBe⟩ : ∃ B, B = w.heap.size := ⟨_, rfl⟩
 obtain ⟨W1, hW1⟩ : ∃ W1, W1 = w.alloc (.cells (bagT (.slice none 0 0) (.slice none 0 0)) 90) := ⟨_, rfl⟩
 have hU1 : Upd [] w W1 := by rw [hW1]; exact (Upd.refl [] w).alloc _
 have hlt : ∀ k, k < m → ∀ z, z ∈ KB (ls k) (rs k) → z < B := fun k hk z hz => by rw [hBe]; exact (hR k hk).lt (fun cs t LB RB h => BT.lt _ _ _ _ _ h) z hz
 have hG1 : BagIs W1 B (.slice none 0 0) (.slice none 0 0) [] [] := by
  refine ⟨by rw [hW1, hBe]; exact Bk.new _ _ _, Or.inl ⟨rfl, rfl⟩, Hs.zero _ _ _ _, Or.inl ⟨rfl, rfl⟩, Hs.zero _ _ _ _, fun g hg => (by cases hg), fun g hg => (by cases hg), fun g hg => (by cases hg)⟩
 have hrow := fun k hk => (hR k hk).rows (hs k hk)
 have hlen : ∀ a, a ≤ m → ((List.range a).flatMap ls).length ≤ a * 20000 ∧ ((List.range a).flatMap rs).length ≤ a * 40001 := by
  intro a
  induction a with
  | zero => intro _; simp
  | succ a ih =>
   intro ha
   obtain ⟨e1, e2⟩ := ih (by omega)
   obtain ⟨_, _, e3, e4⟩ := hrow a (by omega)
   have := hb a (by omega)
   rw [flat_succ, flat_succ, List.length_append, List.length_append, e3, e4]
   omega
 have HP0 : Hid (Put W1 B (.slice none 0 0) (.slice none 0 0) [] [] (.returned (.tuple #[])) W1) := ⟨rfl, Upd.refl _ _, _, _, hG1, fun g hg => Or.inl hg, fun g hg => Or.inl hg⟩
 have HR : Hid (∀ k, k < m → RowBT 0 (BT 0 w d) w (v k) (I k) (ls k) (rs k)) := hR
 have HROW : Hid (∀ k, k < m → (∀ v, v ∈ ls k → RowG w 1 v (lenV v) ∧ lenV v ≤ 35184372088605) ∧ (∀ v, v ∈ rs k → RowG w 7 v (lenV v) ∧ lenV v ≤ 20000)) := fun k hk => by
  obtain ⟨a1, a2, _, _⟩ := hrow k hk
  exact ⟨a1, fun v hv => ⟨(a2 v hv).1, Nat.le_trans (a2 v hv).2 (hb k hk)⟩⟩
 have HLEN : Hid (∀ a, a ≤ m → ((List.range a).flatMap ls).length ≤ a * 20000 ∧ ((List.range a).flatMap rs).length ≤ a * 40001) := hlen
 have HPOS : Hid (0 < ((List.range m).flatMap ls).length ∧ 0 < ((List.range m).flatMap rs).length) := by
  obtain ⟨_, _, e3, e4⟩ := hrow 0 hm0
  have q1 := flat_take_len (show 1 ≤ m by omega) ls
  have q2 := flat_take_len (show 1 ≤ m by omega) rs
  rw [flat_succ, List.length_append] at q1 q2
  exact ⟨by omega, by omega⟩
 have HLT : Hid (∀ k, k < m → ∀ z, z ∈ KB (ls k) (rs k) → z < B) := hlt
 have HCL : Hid (∀ k, k < m → w.cell? ⟨Lb, k, none⟩ = some (v k)) := hcell
 have HAP : Hid (Apt ((List.range m).flatMap ls) ((List.range m).flatMap rs)) := hap
 have HU1 : Hid (Upd [] w W1) := hU1
 have HLb : Hid (Lb < B) := by show _ < _; rw [hBe]; exact hLl
 have HBw : Hid (B = w.heap.size) := hBe
 have HW1 : Hid (W1 = w.alloc (.cells #[.slice none 0 0, .slice none 0 0, .slice none 0 0, .slice none 0 0, .slice none 0 0, .slice none 0 0, .slice none 0 0, .slice none 0 0, .slice none 0 0, .slice none 0 0, .slice none 0 0, .slice none 0 0, .slice none 0 0, .slice none 0 0, .slice none 0 0, .slice none 0 0, .slice none 0 0, .slice none 0 0, .slice none 0 0, .slice none 0 0] 90)) := hW1
 clear hR hU1 hG1 hW1 hBe hlt hrow hlen hcell hap hs hb h0 hLl
 go_enter Tryz.func19, Tryz.ntmps19
 go_wp2_with fail
 rw [← HW1.out, ← HBw.out]
 clear HW1
 have HB1 : Hid (B < W1.heap.size ∨ True) := Or.inr trivial
 go_loopw [4] (fun k wr => ∃ a : Nat, a ≤ m ∧ k = .int .i64 a ∧ Put W1 B (.slice none 0 0) (.slice none 0 0) ((List.range a).flatMap ls) ((List.range a).flatMap rs) (.returned (.tuple #[])) wr) (fun k _ => m - (intOf k).toNat)
 case atStart => exact ⟨0, Nat.zero_le _, rfl, HP0.out⟩
 case round =>
  clear HP0
  obtain ⟨a, ha, rfl, hP⟩ := hrel
  have hUw : Upd [B] w wr := (HU1.out.wide (by simp)).trans (hP.upd.wide (fun x hx => by rcases mem_bset.1 hx with h | h | h <;> simp_all [Value.ownBlock]))
  by_cases hlt : a < m
  ·have i1 : (a : Int) < (m : Int) := by omega
   have hra := HR.out a hlt
   obtain ⟨ls', rs', e1, e2, hq, hk⟩ := id hra
   obtain ⟨va, vc, hv, _⟩ := hq.1.form
   have y0 : wr.cell? ⟨Lb, a, none⟩ = some (.slice va (I a).length vc) := by
    rw [hUw.cell (p := ⟨Lb, a, none⟩) (by rw [← HBw.out]; exact HLb.out) (by simp; have := HLb.out; omega), HCL.out a hlt, hv]
   obtain ⟨x1, y1, hb1, ox1, oy1⟩ := hP.bag
   have hl1 := HLEN.out a ha
   have hl2 := HLEN.out (a + 1) (by omega)
   rw [flat_succ, flat_succ, List.length_append, List.length_append] at hl2
   have HC : Hid (Calls Tryz.prog 59 #[.pointer (some ⟨B, 0, none⟩), .slice va (I a).length vc] wr (Put wr B x1 y1 (((List.range a).flatMap ls) ++ ls a) (((List.range a).flatMap rs) ++ rs a))) := by
    rw [← hv]
    refine putTerms_in d (oneTerm_in d) wr B x1 y1 _ _ (v a) (I a) (ls a) (rs a) (hra.upd hUw (fun z hz hm => by have := HLT.out a hlt z hz; simp at hm; omega) (fun cs t l q hx hR => BT.upd hUw _ _ _ _ _ hx hR)) (HLT.out a hlt) hb1 (by omega) (by omega)
   have HT : Hid (∀ e w2, Put wr B x1 y1 (((List.range a).flatMap ls) ++ ls a) (((List.range a).flatMap rs) ++ rs a) e w2 → Put W1 B (.slice none 0 0) (.slice none 0 0) (((List.range a).flatMap ls) ++ ls a) (((List.range a).flatMap rs) ++ rs a) e w2) := fun e w2 hp => Put.trans hP.upd ox1 oy1 hp
   clear hP hb1 ox1 oy1 hl1 hl2 hra e1 e2 hq hk hv hUw
   go_wp2_with fail
   refine Calls.mono HC.out ?_
   intro e w2 hp
   have hp2 := HT.out e w2 hp
   obtain rfl := hp2.ret
   have HP2 : Hid _ := hp2
   clear hp hp2 HT HC y0
   go_wp2
   go_roundw
   case rel => exact ⟨a + 1, by omega, by go_num, by rw [flat_succ, flat_succ]; exact HP2.out⟩
   case measure => simp [intOf]; omega
  ·have i1 : decide ((a : Int) < (m : Int)) = false := by simp; omega
   have ham : a = m := by omega
   rw [ham] at hP
   obtain ⟨A, hA⟩ : ∃ A, A = (List.range m).flatMap ls := ⟨_, rfl⟩
   obtain ⟨C, hC⟩ : ∃ C, C = (List.range m).flatMap rs := ⟨_, rfl⟩
   rw [← hA, ← hC] at hP HAP HPOS
   have HAC : Hid (A = (List.range m).flatMap ls ∧ C = (List.range m).flatMap rs) := ⟨hA, hC⟩
   obtain ⟨x1, y1, hb1, ox1, oy1⟩ := hP.bag
   obtain ⟨L1, c1, hx1⟩ : ∃ L1 c1, x1 = .slice (some ⟨L1, 0, none⟩) A.length c1 := by
    rcases hb1.rx with ⟨_, h0⟩ | ⟨g, cap, e, _⟩
    ·have := HPOS.out.1; omega
    ·exact ⟨g, cap, e⟩
   obtain ⟨L2, c2, hy1⟩ : ∃ L2 c2, y1 = .slice (some ⟨L2, 0, none⟩) C.length c2 := by
    rcases hb1.ry with ⟨_, h0⟩ | ⟨g, cap, e, _⟩
    ·have := HPOS.out.2; omega
    ·exact ⟨g, cap, e⟩
   subst hx1
   subst hy1
   have hLA : ∀ z, z ∈ bks A → z < B := fun z hz => by
    rw [hA, mem_bks_flat] at hz
    obtain ⟨i, hi, hz⟩ := hz
    exact HLT.out i hi z (mem_KB.2 (Or.inl hz))
   have hLC : ∀ z, z ∈ bks C → z < B := fun z hz => by
    rw [hC, mem_bks_flat] at hz
    obtain ⟨i, hi, hz⟩ := hz
    exact HLT.out i hi z (mem_KB.2 (Or.inr hz))
   have h1B := hb1.ox L1 rfl
   have h2B := hb1.oy L2 rfl
   have rA : ∀ u, u ∈ A → RowG wr 1 u (lenV u) ∧ lenV u ≤ 35184372088605 := fun u hu => by
    have hbu : ∀ g, u.ownBlock = some g → g ∉ [B] := fun g hg hm => by have := hLA g (mem_bks.2 ⟨u, hu, hg⟩); simp at hm; omega
    rw [hA] at hu
    obtain ⟨i, hi, hu⟩ := List.mem_flatMap.1 hu
    obtain ⟨q1, q2⟩ := (HROW.out i (by simpa using hi)).1 u hu
    exact ⟨q1.upd hUw hbu, q2⟩
   have rC : ∀ u, u ∈ C → RowG wr 7 u (lenV u) ∧ lenV u ≤ 1000000 := fun u hu => by
    have hbu : ∀ g, u.ownBlock = some g → g ∉ [B] := fun g hg hm => by have := hLC g (mem_bks.2 ⟨u, hu, hg⟩); simp at hm; omega
    rw [hC] at hu
    obtain ⟨i, hi, hu⟩ := List.mem_flatMap.1 hu
    obtain ⟨q1, q2⟩ := (HROW.out i (by simpa using hi)).2 u hu
    exact ⟨q1.upd hUw hbu, by omega⟩
   have gA : ∀ k, k < A.length → A.getD k undef ∈ A := fun k hk => by rw [List.getD_eq_getElem?_getD, List.getElem?_eq_getElem hk]; exact List.getElem_mem hk
   have gC : ∀ k, k < C.length → C.getD k undef ∈ C := fun k hk => by rw [List.getD_eq_getElem?_getD, List.getElem?_eq_getElem hk]; exact List.getElem_mem hk
   have hl1 := HLEN.out m (Nat.le_refl _)
   rw [← hA, ← hC] at hl1
   have HAp : Hid (Calls Tryz.prog 60 #[.pointer (some ⟨B, 0, none⟩)] wr fun e w' => e = .returned (.bool true) ∧ Upd (bks A ++ bks C) wr w') :=
    apartT_in wr B L1 A.length c1 L2 C.length c2 (bks A) (bks C) _ _ _ _ hb1.blk (rs_of hb1.rx hb1.hx (fun u hu => (rA u hu).1) HAP.out.l (fun h => by have := hLA _ h; omega)) (rs_of hb1.ry hb1.hy (fun u hu => (rC u hu).1) HAP.out.r (fun h => by have := hLC _ h; omega)) (by omega) (by omega) (fun k hk => (rA _ (gA k hk)).2) (fun k hk => (rC _ (gC k hk)).2)
     (fun k g hk hg => mem_bks.2 ⟨_, gA k hk, hg⟩) (fun k g hk hg => mem_bks.2 ⟨_, gC k hk, hg⟩) ⟨fun h => by have := hLA _ h; omega, fun h => by have := hLC _ h; omega⟩ (fun h => by have := hLA _ h; omega) (fun k g hk hg h => HAP.out.lr g h (mem_bks.2 ⟨_, gC k hk, hg⟩))
   have HUw : Hid (Upd [B] w wr) := hUw
   clear hP hb1 ox1 oy1 hLA hLC rA rC gA gC hl1 h1B h2B hUw ham hA hC
   go_wp2_with fail
   refine Calls.mono HAp.out ?_
   rintro e w2 ⟨rfl, hU2⟩
   have HU2 : Hid (Upd (KB A C) w w2) := by
    have h1 : Upd (KB A C) w wr := ((Upd.refl _ w).then HUw.out (fun x hx => by simp at hx; subst hx; exact Or.inl (by have := HBw.out; omega)))
    exact h1.trans (hU2.wide (fun x hx => by rw [mem_KB]; exact List.mem_append.1 hx))
   clear hU2
   go_wp2
   go_ret
   exact ⟨rfl, by rw [← HAC.out.1, ← HAC.out.2]; exact HU2.out⟩
end Go.Proofs.YtalhbbabijlngaaGreatDoor
