/- flatNameds of the kit, by its contract: rows that lie apart. -/
import Derived.Test.YtpojkmpimnnjiaaGreatNbI
import Derived.Deep.AppendLies
import Derived.Deep.RegionHeld3
import Derived.Laws.MakeOwn
namespace Go.Proofs.YtpojkmpimnnjiaaGreat
open Go.RowKit

/-- What is below base, but for the blocks z, has stayed. -/
structure Low (base : Nat) (z : Nat → Prop) (w w' : World) : Prop where
  os : w'.os = w.os
  tape : w'.tape = w.tape
  output : w'.output = w.output
  size : w.heap.size ≤ w'.heap.size
  block : ∀ k, k < base → ¬ z k → w'.heap[k]? = w.heap[k]?
theorem Low.b {base : Nat} {z : Nat → Prop} {w w' : World} (h : Low base z w w') : Low base z w w' := h
theorem Low.refl (base : Nat) (z : Nat → Prop) (w : World) : Low base z w w := ⟨rfl, rfl, rfl, Nat.le_refl _, fun _ _ _ => rfl⟩
theorem Low.trans {base : Nat} {z : Nat → Prop} {a b c : World} (h : Low base z a b) (k : Low base z b c) : Low base z a c :=
  ⟨k.os.trans h.os, k.tape.trans h.tape, k.output.trans h.output, Nat.le_trans h.size k.size, fun i hi hn => (k.block i hi hn).trans (h.block i hi hn)⟩
theorem Low.of_upd {S : List Nat} {base : Nat} {z : Nat → Prop} {B : Nat} {w w' : World} (hB : base ≤ B ∧ True) (h : Upd S w w') (hb : B ≤ w.heap.size) (hS : ∀ x, x ∈ S → B ≤ x ∨ z x) : Low base z w w' :=
  ⟨h.os, h.tape, h.output, h.size, fun k hk hn => h.block k (Nat.lt_of_lt_of_le hk (Nat.le_trans hB.1 hb)) (fun hm => by
    rcases hS k hm with h1 | h1
    · have := hB.1; omega
    · exact hn h1)⟩
theorem Low.of_upd0 {base : Nat} {z : Nat → Prop} {w w' : World} (h : Upd [] w w') (hb : base ≤ w.heap.size) : Low base z w w' := Low.of_upd (B := base) ⟨Nat.le_refl _, trivial⟩ h hb (fun x hx => by simp at hx)

theorem info_namB : (Tryz.prog.info? 42).map (fun i => (i.zero, i.size, i.bytes)) = some (some (.agg #[.string ⟨#[]⟩, .int .i64 0]), 2, 24) := by kernel_rfl
theorem info_namsB : (Tryz.prog.info? 28).map (fun i => (i.zero, i.size, i.bytes)) = some (some (.slice none 0 0), 1, 24) := by kernel_rfl
theorem there_alloc (w : World) (cs : Array Value) (t : TypeId) (k : Nat) (h : k ≤ cs.size) : (w.alloc (.cells cs t)).there w.heap.size 0 k := fun j hj => by
  have hb : (w.alloc (.cells cs t)).heap[w.heap.size]? = some (.cells cs t (0, 0)) := heap_alloc_new w _
  refine ⟨?_, frozen_of_row _ _ _ _ _ hb⟩
  rw [cell_of_row _ _ _ _ _ _ hb, Nat.zero_add, Array.getElem?_eq_getElem (by omega)]
  rfl
theorem setCells2 (w : World) (g o : Nat) (u0 u1 : Value) : (w.setCell ⟨g, o, none⟩ u0).setCell ⟨g, o + 1, none⟩ u1 = w.setCells g o [u0, u1] := rfl
theorem there2 {w : World} {g o : Nat} (h : w.there g o 2) : ∃ c0 c1, w.cell? ⟨g, o, none⟩ = some c0 ∧ w.cell? ⟨g, o + 1, none⟩ = some c1 ∧ w.frozen? ⟨g, o, none⟩ = false ∧ w.frozen? ⟨g, o + 1, none⟩ = false := by
  obtain ⟨c0, h0⟩ := Option.isSome_iff_exists.1 (h 0 (by omega)).1
  obtain ⟨c1, h1⟩ := Option.isSome_iff_exists.1 (h 1 (by omega)).1
  exact ⟨c0, c1, h0, h1, (h 0 (by omega)).2, (h 1 (by omega)).2⟩
theorem room_at {w : World} {sz L m B : Nat} {v : Nat → Value} {n : Nat → Nat} (h : Rs w sz L m B v n) {k : Nat} (hk : k < m) {g cap : Nat} (hv : v k = .slice (some ⟨g, 0, none⟩) (n k) cap) {i : Nat} (hi : i < n k) : w.there g (i * sz) sz := by
  have hrr := h.row k hk
  rw [hv] at hrr
  exact hrr.room hi

/-- Marks of many elements. -/
def nmsM (k : Nat) : List Value := (List.range 64).flatMap (mkNm k)
theorem flat_len (k m : Nat) : ((List.range m).flatMap (mkNm k)).length = m * 2 := by
  induction m with
  | zero => rfl
  | succ m ih => rw [List.range_succ, List.flatMap_append, List.length_append, ih]; simp [mkNm]; omega
theorem flat_get (k : Nat) : ∀ (m i j : Nat), i < m → j < 2 → ((List.range m).flatMap (mkNm k))[i * 2 + j]? = (mkNm k i)[j]? := by
  intro m
  induction m with
  | zero => intro i j hi; omega
  | succ m ih =>
    intro i j hi hj
    have hl := flat_len k m
    rw [List.range_succ, List.flatMap_append]
    by_cases him : i < m
    · rw [List.getElem?_append_left (by rw [hl]; have := mul_room (sz := 2) him; omega)]
      exact ih i j him hj
    · have : i = m := by omega
      subst this
      rw [List.getElem?_append_right (by rw [hl]; omega), hl]
      simp
theorem nmsM_len (k : Nat) : (nmsM k).length = 64 * 2 := flat_len k 64
theorem nmsM_one (k : Nat) : ∀ x ∈ nmsM k, x.oneCell' = true := by
  intro x hx
  obtain ⟨i, _, hi⟩ := List.mem_flatMap.1 hx
  simp [mkNm] at hi
  rcases hi with rfl | rfl <;> rfl
theorem nmsM_at {w : World} {g l c k : Nat} (h : Hs w 2 (.slice (some ⟨g, 0, none⟩) l c) 64 (mkNm k)) (j : Nat) (x : Value) (hx : (nmsM k)[j]? = some x) : w.cell? ⟨g, j, none⟩ = some x := by
  have hj : j < 128 := by have := (List.getElem?_eq_some_iff.1 hx).1; rw [nmsM_len] at this; omega
  have e := flat_get k 64 (j / 2) (j % 2) (by omega) (by omega)
  have hjj : j / 2 * 2 + j % 2 = j := by omega
  rw [hjj] at e
  have := h g l c rfl (j / 2) (j % 2) (by omega) (by omega)
  rw [hjj] at this
  rw [this, ← e]
  exact hx
theorem own_form {w : World} {sz n : Nat} {x : Option Addr} {c g : Nat} (h : RowG w sz (.slice x n c) n) (hg : oB (Value.slice x n c) = some g) : ∃ l c', (Value.slice x n c) = .slice (some ⟨g, 0, none⟩) l c' := by
  rcases h with ⟨⟨p, e⟩, _⟩ | ⟨g2, c2, e, _⟩
  · rw [e, oB_zero] at hg; cases hg
  · rw [e] at hg ⊢
    have := oB_some hg
    subst this
    exact ⟨_, _, rfl⟩

set_option maxHeartbeats 8000000 in
set_option maxRecDepth 100000 in
theorem flatNameds_in (w : World) (L m cL base : Nat) (z : Nat → Prop) (v : Nat → Value) (n : Nat → Nat) (hR : Rs w 2 L m w.heap.size v n) (hm : m ≤ 1000) (hn : ∀ k, k < m → n k ≤ 1000000) (hb1 : base ≤ w.heap.size ∧ True) (hb2 : ∀ k g, k < m → oB (v k) = some g → z g) :
    Calls Tryz.prog 55 #[.slice (some ⟨L, 0, none⟩) m cL] w fun e w' => e = .returned (.bool true) ∧ Low base z w w' := by
  obtain ⟨i0, hi, hz0, hz1, hz2⟩ := info_parts info_namB
  obtain ⟨B, hBe⟩ : ∃ B, B = w.heap.size := ⟨_, rfl⟩
  rw [← hBe] at hR
  have HR0 : Hid (Rs w 2 L m B v n) := hR
  have HN : Hid (∀ k, k < m → n k ≤ 1000000) := hn
  have HB1 : Hid (base ≤ B ∧ True) := by show _ ∧ _; rw [hBe]; exact hb1
  have HB2 : Hid (∀ k g, k < m → oB (v k) = some g → z g) := hb2
  have HBw : Hid (B = w.heap.size) := hBe
  obtain ⟨i1', hi1, hw0, hw1, hw2⟩ := info_parts info_namsB
  obtain ⟨M0, hM0⟩ : ∃ M0, M0 = madeCells (Value.slice none 0 0).cells (((m : Nat) : Int).toNat * i1'.size) := ⟨_, rfl⟩
  have HM0 : Hid (M0.size = m) := by show _ = _; rw [hM0, size_madeCells, hw1]; simp
  have HMK : Hid (∀ W : World, (Instr.makeSlice 37 (.int .i64 (m : Int)) (.int .i64 (m : Int))).run Tryz.prog W = .ok (.slice (some ⟨W.heap.size, 0, none⟩) m m) (W.alloc (.cells M0 28))) := fun W => by
    have h := run_make (P := Tryz.prog) W 37 28 i1' (.slice none 0 0) Tryz.underlying37 hi1 hw0 .i64 .i64 (m : Int) (m : Int) (by omega) (by omega) (by rw [hw2]; omega) (by omega)
    rw [← hM0] at h
    simpa using h
  obtain ⟨M1, hM1⟩ : ∃ M1, M1 = madeCells (Value.agg #[.string ⟨#[]⟩, .int .i64 0]).cells ((64 : Int).toNat * i0.size) := ⟨_, rfl⟩
  have HM1 : Hid (M1.size = 128) := by show _ = _; rw [hM1, size_madeCells, hz1]; rfl
  have HMK2 : Hid (∀ W : World, (Instr.makeSlice 28 (.int .i64 64) (.int .i64 64)).run Tryz.prog W = .ok (.slice (some ⟨W.heap.size, 0, none⟩) 64 64) (W.alloc (.cells M1 42))) := fun W => by
    have h := run_make (P := Tryz.prog) W 28 42 i0 (.agg #[.string ⟨#[]⟩, .int .i64 0]) Tryz.underlying28 hi hz0 .i64 .i64 64 64 (by omega) (by omega) (by rw [hz2]; omega) (by omega)
    rw [← hM1] at h
    simpa using h
  clear hM0 hw0 hw1 hw2 hi1 hM1
  clear hR hn hb1 hb2 hBe
  go_enter Tryz.func55, Tryz.ntmps55
  go_wp2_with fail
  go_loopw [3, 4] (fun k _ wr => ∃ a : Nat, a ≤ m ∧ k = .int .i64 a ∧ Low base z w wr ∧ Rs wr 2 L m B v n ∧ ∀ j, j < a → Hs wr 2 (v j) (n j) (mkNm j)) (fun k _ _ => m - (intOf k).toNat)
  case atStart => exact ⟨0, Nat.zero_le _, rfl, Low.refl _ _ _, HR0.out, fun j hj => by omega⟩
  case round =>
    obtain ⟨a, ha, rfl, hb, hR, hH⟩ := hrel
    have HBl : Hid (Low base z w wr) := hb
    have HR : Hid (Rs wr 2 L m B v n) := hR
    have HH : Hid (∀ j, j < a → Hs wr 2 (v j) (n j) (mkNm j)) := hH
    by_cases hlt : a < m
    · have i1 : (a : Int) < (m : Int) := by omega
      have hna := HN.out a hlt
      clear hb hR hH
      go_wp2_with fail
      go_loopw [4] (fun i wq => ∃ b : Nat, b ≤ n a ∧ i = .int .i64 b ∧ Low base z w wq ∧ Rs wq 2 L m B v n ∧ (∀ j, j < a → Hs wq 2 (v j) (n j) (mkNm j)) ∧ Hs wq 2 (v a) b (mkNm a)) (fun i _ => n a - (intOf i).toNat)
      case atStart => exact ⟨0, Nat.zero_le _, rfl, HBl.out, HR.out, HH.out, Hs.zero _ _ _ _⟩
      case round =>
        obtain ⟨b, hbn, rfl, hb, hRq, hHq, hHa⟩ := hrel
        have HBl2 : Hid (Low base z w wr) := hb
        have HR2 : Hid (Rs wr 2 L m B v n) := hRq
        have HH2 : Hid (∀ j, j < a → Hs wr 2 (v j) (n j) (mkNm j)) := hHq
        have HHa : Hid (Hs wr 2 (v a) b (mkNm a)) := hHa
        clear hb hHq hHa HBl HR HH
        by_cases hlt2 : b < n a
        · have i2 : (b : Int) < (n a : Int) := by omega
          obtain ⟨g, cap, hv, hgB, hgL, hcap⟩ := hRq.form hlt hlt2
          have y0 := hRq.blk a hlt
          rw [hv] at y0
          have HV : Hid (v a = .slice (some ⟨g, 0, none⟩) (n a) cap) := hv
          clear hRq hv
          go_wp2_with fail
          go_region_held3 (fun w' => w'.cell? ⟨L, a, none⟩ = some (.slice (some ⟨g, 0, none⟩) (n a) cap))
            (go_keep)
            (first
              | (go_at_call 85; refine (markNamed_any a b _).mono ?_; rintro e w3 ⟨rfl, hU3⟩; have HU3 : Hid (Upd [] wr w3) := Upd.trans (by repeat (first | exact Upd.refl _ _ | refine Upd.drew ?_)) hU3; clear hU3; have R3 : Rs w3 2 L m B v n := HR2.out.upd HU3.out (by simp); have d0 : w3.cell? ⟨L, a, none⟩ = some (.slice (some ⟨g, 0, none⟩) (n a) cap) := (R3.blk a hlt).trans (by rw [HV.out]); have HR3 : Hid (Rs w3 2 L m B v n) := R3; clear R3; obtain ⟨c0, c1, hc0, hc1, hf0, hf1⟩ := there2 (room_at HR3.out hlt HV.out hlt2)))
          all_goals
            go_wp2
            go_roundw
            case rel =>
              rw [setCells2]
              have hrr := HR3.out.row a hlt
              have hhh : Hs w3 2 (v a) b (mkNm a) := HHa.out.upd (HR2.out.row a hlt) hbn HU3.out (by simp)
              rw [HV.out] at hrr hhh
              have hset := Hs.set hhh hrr hlt2 (by rfl)
              rw [← HV.out] at hset
              exact ⟨b + 1, by omega, by go_num, HBl2.out.trans ((Low.of_upd HB1.out HU3.out HR2.out.hB (by simp)).trans (Low.of_upd HB1.out (setCells_Upd w3 g (b * 2) (mkNm a b)) HR3.out.hB (fun x hx => by simp at hx; subst hx; exact Or.inr (HB2.out a x hlt (by rw [HV.out]; exact oB_pos hcap))))), HR3.out.set hlt HV.out hcap (b * 2) (mkNm a b), fun j hj => HR3.out.hasOther hlt (by omega) (by omega) (Nat.le_refl _) HV.out hcap (b * 2) (mkNm a b) ((HH2.out j hj).upd (HR2.out.row j (by omega)) (Nat.le_refl _) HU3.out (by simp)), hset⟩
            case measure => simp [intOf]; omega
        · have i2 : decide ((b : Int) < (n a : Int)) = false := by simp; omega
          obtain ⟨xa, xc, hv, _⟩ := (hRq.row a hlt).form
          have y0 := hRq.blk a hlt
          rw [hv] at y0
          have hbb : b = n a := by omega
          have HHb : Hid (Hs wr 2 (v a) (n a) (mkNm a)) := by have := HHa.out; rw [hbb] at this; exact this
          clear hRq hv hbb
          go_wp2
          go_roundw
          case rel => exact ⟨a + 1, by omega, by go_num, HBl2.out, HR2.out, fun j hj => by
            by_cases h : j = a
            · subst h; exact HHb.out
            · exact HH2.out j (by omega)⟩
          case measure => simp [intOf]; omega
    · have i1 : decide ((a : Int) < (m : Int)) = false := by simp; omega
      have ham : a = m := by omega
      subst ham
      have y0 : True := trivial
      obtain ⟨W1, hW1⟩ : ∃ W1, W1 = wr.alloc (.cells M0 28) := ⟨_, rfl⟩
      obtain ⟨G, hG⟩ : ∃ G, G = wr.heap.size := ⟨_, rfl⟩
      have hPs : Ps W1 2 L G a 0 W1.heap.size v v n (fun j => n j + 64) mkNm := by
        have hU : Upd [] wr W1 := by rw [hW1]; exact (Upd.refl [] wr).alloc _
        have hGB : B ≤ G := by rw [hG]; exact hR.hB
        have hsz : W1.heap.size = G + 1 := by rw [hW1, hG]; simp
        refine ⟨(hR.upd hU (by simp)).raise (by omega) (Nat.le_refl _), fun j hj => (hH j hj).upd (hR.row j hj) (Nat.le_refl _) hU (by simp), ⟨by omega, fun e => by have := hR.hL; omega⟩, fun j hj e => by have := (hR.own j G hj e).1; omega, ?_, fun j hj => by omega, fun j hj => by omega⟩
        rw [hW1, hG]
        exact there_alloc _ _ _ _ (by rw [HM0.out]; exact Nat.le_refl _)
      have hBl1 : Low base z w W1 := by rw [hW1]; exact hb.trans (Low.of_upd HB1.out ((Upd.refl [] wr).alloc _) hR.hB (by simp))
      have HP1 : Hid (Ps W1 2 L G a 0 W1.heap.size v v n (fun j => n j + 64) mkNm) := hPs
      have HBl1 : Hid (Low base z w W1) := hBl1
      have HW1 : Hid (W1 = wr.alloc (.cells M0 28)) := hW1
      have HG : Hid (G = wr.heap.size) := hG
      have hmk1 := HMK.out wr
      have HRB : Hid (B ≤ wr.heap.size) := hR.hB
      clear hb hR hH i1 hlt ha hPs hBl1 hW1 hG HBl HR HH y0
      go_wp2_with fail
      rw [← HW1.out, ← HG.out]
      have HGb : Hid (B ≤ G) := by show _ ≤ _; rw [HG.out]; exact HRB.out
      clear HW1 HG hmk1 HRB
      go_loopw [6, 7, 8] (fun k _ _ wr => ∃ (b : Nat) (u : Nat → Value) (Bk : Nat), b ≤ a ∧ k = .int .i64 b ∧ Low base z w wr ∧ Ps wr 2 L G a b Bk v u n (fun j => n j + 64) mkNm) (fun k _ _ _ => a - (intOf k).toNat)
      case atStart => exact ⟨0, v, _, Nat.zero_le _, rfl, HBl1.out, HP1.out⟩
      case round =>
        obtain ⟨b, u, Bk, hba, rfl, hbl, hP⟩ := hrel
        clear HP1 HBl1
        by_cases hlt : b < a
        · have hP := hP.raise
          have hna := HN.out b hlt
          have i1 : (b : Int) < (a : Int) := by omega
          obtain ⟨xa, xc, hv, _⟩ := (hP.rs.row b hlt).form
          have y0 := hP.rs.blk b hlt
          have HV : Hid (v b = .slice xa (n b) xc) := hv
          rw [hv] at y0
          obtain ⟨Hk, hHk⟩ : ∃ Hk, Hk = wr.heap.size := ⟨_, rfl⟩
          rw [← hHk] at hP
          have HP : Hid (Ps wr 2 L G a b Hk v u n (fun j => n j + 64) mkNm) := hP
          have HBl : Hid (Low base z w wr) := hbl
          have HHk : Hid (B ≤ Hk) := by show _ ≤ _; rw [hHk, HBw.out]; exact hbl.b.size
          clear hP hbl hv hHk
          go_wp2_with fail
          go_loopw [7, 8] (fun gv i wq => ∃ c : Nat, c ≤ 64 ∧ i = .int .i64 c ∧ Low base z w wq ∧ Ps wq 2 L G a b Hk v u n (fun j => n j + 64) mkNm ∧ RowG wq 2 gv (n b + c) ∧ Hs wq 2 gv (n b + c) (mkNm b) ∧ ∀ g, oB gv = some g → oB (v b) = some g ∨ Hk ≤ g) (fun _ i _ => 64 - (intOf i).toNat)
          case atStart => exact ⟨0, by omega, rfl, HBl.out, HP.out, by rw [← HV.out]; exact HP.out.rs.row b hlt, by rw [← HV.out]; exact HP.out.has b hlt, fun g hg => Or.inl (by rw [HV.out]; exact hg)⟩
          case round =>
            obtain ⟨c, hc, rfl, hbl, hP, hrow, hhas, hown⟩ := hrel
            clear HP HBl y0
            obtain ⟨xg, xgc, hgv, _⟩ := hrow.form
            subst hgv
            have HP : Hid (Ps wr 2 L G a b Hk v u n (fun j => n j + 64) mkNm) := hP
            have HBl : Hid (Low base z w wr) := hbl
            have HRow : Hid (RowG wr 2 (.slice xg (n b + c) xgc) (n b + c)) := hrow
            have HHas : Hid (Hs wr 2 (.slice xg (n b + c) xgc) (n b + c) (mkNm b)) := hhas
            have HOwn : Hid (∀ g, oB (Value.slice xg (n b + c) xgc) = some g → oB (v b) = some g ∨ Hk ≤ g) := hown
            by_cases hlt2 : c < 64
            · have i2 : (c : Int) < 64 := by omega
              have y1 : wr.cell? ⟨L, b, none⟩ = some (.slice xa (n b) xc) := (hP.rs.blk b hlt).trans (by rw [HV.out])
              obtain ⟨N1, hN1⟩ : ∃ N1, N1 = n b + c := ⟨_, rfl⟩
              have hmkn : mkN (b : Int) ((n b : Int) + (c : Int)) = mkN (b : Int) (N1 : Int) := by congr 1; omega
              have hN1l : N1 ≤ 2000000 := by omega
              rw [← hN1] at HRow HHas HOwn
              rw [← hN1]
              have HN1 : Hid (N1 = n b + c) := hN1
              clear hP hbl hrow hhas hown hN1
              go_wp2_with (first
                | (go_at_call 85; refine (markNamed_any _ _ _).mono ?_; rintro e w3 ⟨rfl, hU3⟩; rw [hmkn])
                | (at_builtin; refine wpList_appendG (v := .slice xg N1 xgc) (n := N1) rfl _ _ 28 rfl Tryz.underlying28 hi hz0 hz1 hz2 rfl rfl (HRow.out.upd (hU3.alloc _) (by simp)) ⟨w3.heap.size, 0, none⟩ 1 1 (mkNm b N1) rfl rfl (World.news_of_block (heap_alloc_new _ _)) (by intro x hx; simp [mkNm] at hx; rcases hx with rfl | rfl <;> rfl) (by omega) (by omega) (by omega) ?_; intro g' cap' w5 hr5 hg5 hn5))
              have hUa : Upd [] wr (w3.alloc (.cells #[.string ⟨#[]⟩, .int .i64 (mkN b N1)] 42)) := hU3.alloc _
              have hrow3 := HRow.out.upd hUa (by simp)
              have hhas3 := HHas.out.upd HRow.out (Nat.le_refl _) hUa (by simp)
              obtain ⟨hP5, hgk⟩ := (HP.out.far hUa (by simp)).grow hlt hg5 HOwn.out (by rw [HN1.out]; omega) (fun g _ hg => own_form hrow3 hg)
              have hh5 : Hs w5 2 (.slice (some ⟨g', 0, none⟩) (N1 + 1) cap') (N1 + 1) (mkNm b) := hg5.has1 hhas3 hrow3 (fun j hj => by have := hn5 j (by omega); exact this)
              have hbase5 : Low base z w w5 := HBl.out.trans ((Low.of_upd HB1.out hUa (by rw [HBw.out]; exact HBl.out.b.size) (by simp)).trans (Low.of_upd HB1.out hg5.upd (Nat.le_trans (by rw [HBw.out]; exact HBl.out.b.size) hUa.size) (fun x hx => by
                simp at hx
                subst hx
                rcases hgk with h1 | h1
                · exact Or.inr (HB2.out b x hlt h1)
                · exact Or.inl (Nat.le_trans HHk.out h1))))
              go_roundw
              case rel => exact ⟨c + 1, by omega, by go_num, hbase5, hP5, by rw [show n b + (c + 1) = N1 + 1 by rw [HN1.out]; omega]; exact hr5, by rw [show n b + (c + 1) = N1 + 1 by rw [HN1.out]; omega]; exact hh5, fun g hg => by have := oB_some hg; subst this; exact hgk⟩
              case measure => simp [intOf]; omega
            · have i2 : decide ((c : Int) < 64) = false := by simp; omega
              have hc64 : c = 64 := by omega
              subst hc64
              obtain ⟨g, hxg, hgl, hxc⟩ : ∃ g, xg = some ⟨g, 0, none⟩ ∧ g < wr.heap.size ∧ 0 < xgc := by
                rcases hrow with ⟨e, h0⟩ | ⟨g2, c2, e, h1, h2, _⟩
                · omega
                · simp only [Value.slice.injEq] at e
                  exact ⟨g2, e.1, h1, by omega⟩
              subst hxg
              obtain ⟨zc, hzc⟩ := Option.isSome_iff_exists.1 (hP.room b hlt).1
              have hzf := (hP.room b hlt).2
              rw [Nat.zero_add] at hzc hzf
              clear hP hbl hrow hhas hown i2 hlt2
              go_wp2
              go_roundw
              case rel => exact ⟨b + 1, _, _, by omega, by go_num, HBl.out.trans (Low.of_upd HB1.out ((Upd.refl [G] wr).setCell (Or.inr (by simp)) _) (by rw [HBw.out]; exact HBl.out.b.size) (fun x hx => by simp at hx; subst hx; exact Or.inl HGb.out)), HP.out.next hlt hgl (HOwn.out g (oB_pos hxc)) HHas.out⟩
              case measure => simp [intOf]; omega
        · have i1 : decide ((b : Int) < (a : Int)) = false := by simp; omega
          have hba2 : b = a := by omega
          subst hba2
          clear i1 hlt hba
          obtain ⟨W4, hW4⟩ : ∃ W4, W4 = wr := ⟨_, rfl⟩
          rw [← hW4] at hP hbl
          rw [← hW4]
          clear hW4
          have HP4 : Hid (Ps W4 2 L G b b Bk v u n (fun j => n j + 64) mkNm) := hP
          have HB4 : Hid (Low base z w W4) := hbl
          clear hP hbl
          go_wp2_with fail
          go_loopw [9, 10] (fun k _ wq => ∃ c : Nat, c ≤ b ∧ k = .int .i64 c ∧ Upd [] W4 wq) (fun k _ _ => b - (intOf k).toNat)
          case atStart => exact ⟨0, Nat.zero_le _, rfl, Upd.refl _ _⟩
          case round =>
            obtain ⟨c, hcb, rfl, hU⟩ := hrel
            by_cases hlt : c < b
            · have hPq := HP4.out.far hU (by simp)
              obtain ⟨xa, xc, hv, _⟩ := (hPq.rs.row c hlt).form
              obtain ⟨g, cg, hu, hgB, hgL, hgG, _⟩ := hPq.ugs c hlt
              have y0 := hPq.rs.blk c hlt
              have y1 := (hPq.gs c hlt).1
              have hna := HN.out c hlt
              obtain ⟨N2, hN2⟩ : ∃ N2, N2 = n c + 64 := ⟨_, rfl⟩
              rw [hu, ← hN2] at y1
              rw [hv] at y0
              have HV : Hid (v c = .slice xa (n c) xc) := hv
              have HUc : Hid (u c = .slice (some ⟨g, 0, none⟩) N2 cg) := by rw [hN2]; exact hu
              have HN2 : Hid (N2 = n c + 64) := hN2
              have HU : Hid (Upd [] W4 wr) := hU
              have hN2l : N2 ≤ 2000000 := by omega
              have i1 : (c : Int) < (b : Int) := by omega
              clear hPq hv hu hN2 hU hgB hgL hgG
              go_wp2_with fail
              go_loopw [10] (fun i wz => ∃ d : Nat, d ≤ N2 ∧ i = .int .i64 d ∧ Upd [] W4 wz) (fun i _ => N2 - (intOf i).toNat)
              case atStart => exact ⟨0, Nat.zero_le _, rfl, HU.out⟩
              case round =>
                obtain ⟨d, hd, rfl, hUz⟩ := hrel
                have zL : ∀ e : Ext wr, e.W.cell? ⟨L, c, none⟩ = some (.slice xa (n c) xc) := fun e => ((HP4.out.far (hUz.trans e.h) (by simp)).rs.blk c hlt).trans (by rw [HV.out])
                have zG : ∀ e : Ext wr, e.W.cell? ⟨G, c, none⟩ = some (.slice (some ⟨g, 0, none⟩) N2 cg) := fun e => ((HP4.out.far (hUz.trans e.h) (by simp)).gs c hlt).1.trans (by rw [HUc.out])
                have zG0 : wr.cell? ⟨G, c, none⟩ = some (.slice (some ⟨g, 0, none⟩) N2 cg) := zG ⟨wr, Upd.refl [] wr⟩
                clear y0 y1
                by_cases hlt2 : d < N2
                · have i2 : (d : Int) < (N2 : Int) := by omega
                  have hz : ∀ (e : Ext wr) j, j < 2 → e.W.cell? ⟨g, d * 2 + j, none⟩ = (mkNm c d)[j]? := fun e j hj => by
                    have hh := ((HP4.out.far (hUz.trans e.h) (by simp)).gs c hlt).2
                    rw [HUc.out] at hh
                    exact hh g N2 cg rfl d j (by rw [← HN2.out]; exact hlt2) hj
                  have z1 : ∀ e : Ext wr, e.W.cell? ⟨g, d * 2, none⟩ = some (.string ⟨#[]⟩) := fun e => hz e 0 (by omega)
                  have z2 : ∀ e : Ext wr, e.W.cell? ⟨g, d * 2 + 1, none⟩ = some (.int .i64 (mkN c d)) := fun e => hz e 1 (by omega)
                  have HU2 : Hid (Upd [] W4 wr) := hUz
                  by_cases hlt3 : d < n c
                  · obtain ⟨g2, hxa⟩ : ∃ g2, xa = some ⟨g2, 0, none⟩ := by
                      obtain ⟨g2, cap2, hv2, _⟩ := HP4.out.rs.form hlt hlt3
                      rw [HV.out] at hv2
                      simp only [Value.slice.injEq] at hv2
                      exact ⟨g2, hv2.1⟩
                    subst hxa
                    have hq : ∀ (e : Ext wr) j, j < 2 → e.W.cell? ⟨g2, d * 2 + j, none⟩ = (mkNm c d)[j]? := fun e j hj => by
                      have hh := (HP4.out.far (hUz.trans e.h) (by simp)).has c hlt
                      rw [HV.out] at hh
                      exact hh g2 (n c) xc rfl d j hlt3 hj
                    have q1 : ∀ e : Ext wr, e.W.cell? ⟨g2, d * 2, none⟩ = some (.string ⟨#[]⟩) := fun e => hq e 0 (by omega)
                    have q2 : ∀ e : Ext wr, e.W.cell? ⟨g2, d * 2 + 1, none⟩ = some (.int .i64 (mkN c d)) := fun e => hq e 1 (by omega)
                    have i3 : (d : Int) < (n c : Int) := by omega
                    have d1 : decide ((d : Int) < (n c : Int)) = true := by simp; omega
                    have d2 : decide (d < n c) = true := by simp; omega
                    clear hz hq hUz
                    go_wp2_with fail
                    refine rNam24a zL zG z1 z2 q1 q2 (fun W => markNamed_any _ _ W) i1 i2 i3 d1 d2 ?_
                    intro y88 y89 y90 y91 y92 y93 y94 y95 y96 y97 y98 y99 y100 y101 y102 y103 y104 y105 y106 y107 y108 y109 y110 y111 y112 y113 y114 y115 y116 y117 y118 y119 y120 y121 W hUW
                    clear zL zG z1 z2 q1 q2
                    go_wp2
                    go_roundw
                    case rel => exact ⟨d + 1, by omega, by go_num, HU2.out.trans hUW⟩
                    case measure => simp [intOf]; omega
                  · have d1 : decide ((d : Int) < (n c : Int)) = false := by simp; omega
                    have d2 : decide (d < n c) = false := by simp; omega
                    clear hz hUz
                    go_wp2_with fail
                    refine rNam24b zL zG z1 z2 (fun W => markNamed_any _ _ W) i1 i2 d1 d2 ?_
                    intro y88 y89 y90 y91 y92 y93 y94 y95 y96 y97 y98 y99 y100 y101 y102 y103 y104 y105 y106 y107 y108 y109 y110 y111 y112 y113 y114 y115 y116 y117 y118 y119 y120 y121 W hUW
                    clear zL zG z1 z2
                    go_wp2
                    go_roundw
                    case rel => exact ⟨d + 1, by omega, by go_num, HU2.out.trans hUW⟩
                    case measure => simp [intOf]; omega
                · have i2 : decide ((d : Int) < (N2 : Int)) = false := by simp; omega
                  have HU2 : Hid (Upd [] W4 wr) := hUz
                  clear hUz
                  go_wp2
                  go_roundw
                  case rel => exact ⟨c + 1, by omega, by go_num, HU2.out⟩
                  case measure => simp [intOf]; omega
            · have i1 : decide ((c : Int) < (b : Int)) = false := by simp; omega
              have hP5 : Ps wr 2 L G b 0 wr.heap.size v u n n mkNm := ((HP4.out.far hU (by simp)).anew).raise
              have HP5 : Hid (Ps wr 2 L G b 0 wr.heap.size v u n n mkNm) := hP5
              have HB5 : Hid (Low base z w wr) := HB4.out.trans (Low.of_upd HB1.out hU (by rw [HBw.out]; exact HB4.out.b.size) (by simp))
              clear HP4 HB4 hP5 hU
              go_wp2_with fail
              go_loopw [11, 12, 13] (fun k _ _ wr => ∃ (c : Nat) (u : Nat → Value) (Bk : Nat), c ≤ b ∧ k = .int .i64 c ∧ Low base z w wr ∧ Ps wr 2 L G b c Bk v u n n mkNm) (fun k _ _ _ => b - (intOf k).toNat)
              case atStart => exact ⟨0, u, _, Nat.zero_le _, rfl, HB5.out, HP5.out⟩
              case round =>
                clear HP5 HB5 i1
                obtain ⟨f, u', Bk', hfb, rfl, hbl, hP⟩ := hrel
                by_cases hlt : f < b
                · have hP := hP.raise
                  have hna := HN.out f hlt
                  have i1 : (f : Int) < (b : Int) := by omega
                  obtain ⟨xa, xc, hv, _⟩ := (hP.rs.row f hlt).form
                  have HV : Hid (v f = .slice xa (n f) xc) := hv
                  have HHk : Hid (B ≤ wr.heap.size) := by show _ ≤ _; rw [HBw.out]; exact hbl.b.size
                  obtain ⟨W1, hW1⟩ : ∃ W1, W1 = wr.alloc (.cells M1 42) := ⟨_, rfl⟩
                  obtain ⟨Mb, hMb⟩ : ∃ Mb, Mb = wr.heap.size := ⟨_, rfl⟩
                  have hUa : Upd [] wr W1 := by rw [hW1]; exact (Upd.refl [] wr).alloc _
                  have HP : Hid (Ps W1 2 L G b f Mb v u' n n mkNm) := by
                    show Ps W1 2 L G b f Mb v u' n n mkNm
                    rw [hMb]; exact hP.far hUa (by simp)
                  have HBl : Hid (Low base z w W1) := hbl.trans (Low.of_upd HB1.out hUa HHk.out (by simp))
                  have HMr : Hid (RowG W1 2 (.slice (some ⟨Mb, 0, none⟩) 64 64) 64) := Or.inr ⟨Mb, 64, rfl, by rw [hW1, hMb]; simp, Nat.le_refl _, by unfold maxLen; omega, by rw [hW1, hMb]; exact there_alloc _ _ _ _ (by rw [HM1.out]; omega), by omega⟩
                  have HbM : Hid (B ≤ Mb) := by show _ ≤ _; rw [hMb]; exact HHk.out
                  have HW1 : Hid (W1 = wr.alloc (.cells M1 42)) := hW1
                  have HMb : Hid (Mb = wr.heap.size) := hMb
                  have hmk2 := HMK2.out wr
                  clear hP hbl hv hUa hW1 hMb HHk
                  go_wp2_with fail
                  rw [← HW1.out, ← HMb.out]
                  clear HW1 HMb hmk2
                  go_loopw [13] (fun i wq => ∃ d : Nat, d ≤ 64 ∧ i = .int .i64 d ∧ Low base z w wq ∧ Ps wq 2 L G b f Mb v u' n n mkNm ∧ RowG wq 2 (.slice (some ⟨Mb, 0, none⟩) 64 64) 64 ∧ Hs wq 2 (.slice (some ⟨Mb, 0, none⟩) 64 64) d (mkNm (f + b))) (fun i _ => 64 - (intOf i).toNat)
                  case atStart => exact ⟨0, by omega, rfl, HBl.out, HP.out, HMr.out, Hs.zero _ _ _ _⟩
                  case round =>
                    clear HP HBl HMr
                    obtain ⟨d, hd, rfl, hbl, hP, hmr, hmh⟩ := hrel
                    have HP : Hid (Ps wr 2 L G b f Mb v u' n n mkNm) := hP
                    have HBl : Hid (Low base z w wr) := hbl
                    have HMr : Hid (RowG wr 2 (.slice (some ⟨Mb, 0, none⟩) 64 64) 64) := hmr
                    have HMh : Hid (Hs wr 2 (.slice (some ⟨Mb, 0, none⟩) 64 64) d (mkNm (f + b))) := hmh
                    by_cases hlt2 : d < 64
                    · have i2 : (d : Int) < 64 := by omega
                      obtain ⟨N3, hN3⟩ : ∃ N3, N3 = f + b := ⟨_, rfl⟩
                      have hmkn : mkN ((f : Int) + (b : Int)) (d : Int) = mkN (N3 : Int) (d : Int) := by congr 1; omega
                      have HN3 : Hid (N3 = f + b) := hN3
                      clear hP hbl hmr hmh hN3
                      go_wp2_with (first
                        | (go_at_call 85; refine (markNamed_any _ _ _).mono ?_; rintro e w3 ⟨rfl, hU3⟩; rw [hmkn]; have hmr3 : RowG w3 2 (.slice (some ⟨Mb, 0, none⟩) 64 64) 64 := HMr.out.upd hU3 (by simp))
                        | (refine wpList_store_mid rfl 42 _ _ rfl Mb (d * 2) #[.string ⟨#[]⟩, .int .i64 (mkN N3 d)] rfl rfl (hmr3.room hlt2) info_nam2 (by simp [Value.oneCell']) ?_))
                      have hmh3 : Hs w3 2 (.slice (some ⟨Mb, 0, none⟩) 64 64) d (mkNm N3) := by rw [HN3.out]; exact HMh.out.upd HMr.out hd hU3 (by simp)
                      go_roundw
                      case rel => exact ⟨d + 1, by omega, by go_num, HBl.out.trans ((Low.of_upd HB1.out hU3 (by rw [HBw.out]; exact HBl.out.b.size) (by simp)).trans (Low.of_upd HB1.out (setCells_Upd w3 Mb (d * 2) (mkNm N3 d)) (Nat.le_trans (by rw [HBw.out]; exact HBl.out.b.size) hU3.size) (fun x hx => by simp at hx; subst hx; exact Or.inl HbM.out))), (HP.out.far hU3 (by simp)).far (setCells_Upd w3 Mb (d * 2) (mkNm N3 d)) (fun x hx => by simp at hx; subst hx; exact Nat.le_refl _), hmr3.set (d * 2) (mkNm N3 d), by rw [← HN3.out]; exact Hs.set hmh3 hmr3 hlt2 rfl⟩
                      case measure => simp [intOf]; omega
                    · have i2 : decide ((d : Int) < 64) = false := by simp; omega
                      have hd64 : d = 64 := by omega
                      have y0 : wr.cell? ⟨L, f, none⟩ = some (.slice xa (n f) xc) := (hP.rs.blk f hlt).trans (by rw [HV.out])
                      have hnews : ∀ j x, (nmsM (f + b))[j]? = some x → wr.cell? ((⟨Mb, 0, none⟩ : Addr).add j) = some x := fun j x hx => by
                        rw [Addr.add_lit, Nat.zero_add]
                        rw [hd64] at hmh
                        exact nmsM_at hmh j x hx
                      have hrow : RowG wr 2 (.slice xa (n f) xc) (n f) := by have := hP.rs.row f hlt; rw [HV.out] at this; exact this
                      have hhas : Hs wr 2 (.slice xa (n f) xc) (n f) (mkNm f) := by have := hP.has f hlt; rw [HV.out] at this; exact this
                      have HRow : Hid (RowG wr 2 (.slice xa (n f) xc) (n f)) := hrow
                      have HHas : Hid (Hs wr 2 (.slice xa (n f) xc) (n f) (mkNm f)) := hhas
                      have HNews : Hid (∀ j x, (nmsM (f + b))[j]? = some x → wr.cell? ((⟨Mb, 0, none⟩ : Addr).add j) = some x) := hnews
                      clear hP hbl hmr hmh hrow hhas hnews hd64
                      go_wp2_with (first
                        | (at_builtin; refine wpList_appendG (v := .slice xa (n f) xc) (n := n f) rfl _ _ 28 rfl Tryz.underlying28 hi hz0 hz1 hz2 rfl rfl HRow.out ⟨Mb, 0, none⟩ 64 64 (nmsM (f + b)) rfl (nmsM_len _) HNews.out (nmsM_one _) (by omega) (by omega) (by omega) ?_; intro g' cap' w5 hr5 hg5 hn5; clear hn5 y0; obtain ⟨hP5, hgk⟩ := HP.out.grow hlt hg5 (fun g hg => Or.inl (by rw [HV.out]; exact hg)) (Nat.le_refl _) (fun g hg _ => by rw [HV.out] at hg; exact own_form HRow.out hg); obtain ⟨zc, hzc⟩ := Option.isSome_iff_exists.1 (hP5.room f hlt).1; have hzf := (hP5.room f hlt).2; rw [Nat.zero_add] at hzc hzf)
                        | fail)
                      have hh5 : Hs w5 2 (.slice (some ⟨g', 0, none⟩) (n f + 64) cap') (n f) (mkNm f) := hg5.has HHas.out (Nat.le_refl _) HRow.out
                      have hgl : g' < w5.heap.size := hr5.lt g' (oB_pos (by rcases hr5 with ⟨_, h0⟩ | ⟨_, _, e, _, h2, _⟩ <;> first | omega | (simp only [Value.slice.injEq] at e; omega)))
                      have hbase5 : Low base z w w5 := HBl.out.trans (Low.of_upd HB1.out hg5.upd (by rw [HBw.out]; exact HBl.out.b.size) (fun x hx => by
                        simp at hx
                        subst hx
                        rcases hgk with h1 | h1
                        · exact Or.inr (HB2.out f x hlt h1)
                        · exact Or.inl (Nat.le_trans HbM.out h1)))
                      go_roundw
                      case rel => exact ⟨f + 1, _, _, by omega, by go_num, hbase5.trans (Low.of_upd HB1.out ((Upd.refl [G] w5).setCell (Or.inr (by simp)) _) (by rw [HBw.out]; exact hbase5.b.size) (fun x hx => by simp at hx; subst hx; exact Or.inl HGb.out)), hP5.next hlt hgl hgk hh5⟩
                      case measure => simp [intOf]; omega
                · have i1 : decide ((f : Int) < (b : Int)) = false := by simp; omega
                  have hfb2 : f = b := by omega
                  rw [hfb2] at hP
                  obtain ⟨W6, hW6⟩ : ∃ W6, W6 = wr := ⟨_, rfl⟩
                  rw [← hW6] at hP hbl
                  rw [← hW6]
                  have HP6 : Hid (Ps W6 2 L G b b Bk' v u' n n mkNm) := hP
                  have HB6 : Hid (Low base z w W6) := hbl
                  clear hP hbl hW6
                  go_wp2_with fail
                  go_loopw [14, 15] (fun k _ wq => ∃ c : Nat, c ≤ b ∧ k = .int .i64 c ∧ Upd [] W6 wq) (fun k _ _ => b - (intOf k).toNat)
                  case atStart => exact ⟨0, Nat.zero_le _, rfl, Upd.refl _ _⟩
                  case round =>
                    clear i1
                    obtain ⟨c, hcb, rfl, hU⟩ := hrel
                    by_cases hlt : c < b
                    · have i1 : (c : Int) < (b : Int) := by omega
                      obtain ⟨xa, xc, hv, _⟩ := (HP6.out.rs.row c hlt).form
                      obtain ⟨g, cg, hu, hgB, hgL, hgG, _⟩ := HP6.out.ugs c hlt
                      have hna := HN.out c hlt
                      obtain ⟨N2, hN2⟩ : ∃ N2, N2 = n c + 64 := ⟨_, rfl⟩
                      have HV : Hid (v c = .slice xa (n c) xc) := hv
                      have HUc : Hid (u' c = .slice (some ⟨g, 0, none⟩) N2 cg) := by rw [hN2]; exact hu
                      have HN2 : Hid (N2 = n c + 64) := hN2
                      have y0 := (HP6.out.far hU (by simp)).rs.blk c hlt
                      rw [hv] at y0
                      have HU : Hid (Upd [] W6 wr) := hU
                      clear hv hu hN2 hU hgB hgL hgG
                      go_wp2_with fail
                      go_loopw [15] (fun i wz => ∃ d : Nat, d ≤ n c ∧ i = .int .i64 d ∧ Upd [] W6 wz) (fun i _ => n c - (intOf i).toNat)
                      case atStart => exact ⟨0, Nat.zero_le _, rfl, HU.out⟩
                      case round =>
                        obtain ⟨d, hd, rfl, hUz⟩ := hrel
                        have zL : ∀ e : Ext wr, e.W.cell? ⟨L, c, none⟩ = some (.slice xa (n c) xc) := fun e => ((HP6.out.far (hUz.trans e.h) (by simp)).rs.blk c hlt).trans (by rw [HV.out])
                        have zL0 : wr.cell? ⟨L, c, none⟩ = some (.slice xa (n c) xc) := zL ⟨wr, Upd.refl [] wr⟩
                        have HU2 : Hid (Upd [] W6 wr) := hUz
                        clear y0
                        by_cases hlt3 : d < n c
                        · have zG : ∀ e : Ext wr, e.W.cell? ⟨G, c, none⟩ = some (.slice (some ⟨g, 0, none⟩) N2 cg) := fun e => ((HP6.out.far (hUz.trans e.h) (by simp)).gs c hlt).1.trans (by rw [HUc.out])
                          have hz : ∀ (e : Ext wr) j, j < 2 → e.W.cell? ⟨g, d * 2 + j, none⟩ = (mkNm c d)[j]? := fun e j hj => by
                            have hh := ((HP6.out.far (hUz.trans e.h) (by simp)).gs c hlt).2
                            rw [HUc.out] at hh
                            exact hh g N2 cg rfl d j hlt3 hj
                          have z1 : ∀ e : Ext wr, e.W.cell? ⟨g, d * 2, none⟩ = some (.string ⟨#[]⟩) := fun e => hz e 0 (by omega)
                          have z2 : ∀ e : Ext wr, e.W.cell? ⟨g, d * 2 + 1, none⟩ = some (.int .i64 (mkN c d)) := fun e => hz e 1 (by omega)
                          obtain ⟨g2, hxa⟩ : ∃ g2, xa = some ⟨g2, 0, none⟩ := by
                            obtain ⟨g2, cap2, hv2, _⟩ := HP6.out.rs.form hlt hlt3
                            rw [HV.out] at hv2
                            simp only [Value.slice.injEq] at hv2
                            exact ⟨g2, hv2.1⟩
                          subst hxa
                          have hq : ∀ (e : Ext wr) j, j < 2 → e.W.cell? ⟨g2, d * 2 + j, none⟩ = (mkNm c d)[j]? := fun e j hj => by
                            have hh := (HP6.out.far (hUz.trans e.h) (by simp)).has c hlt
                            rw [HV.out] at hh
                            exact hh g2 (n c) xc rfl d j hlt3 hj
                          have q1 : ∀ e : Ext wr, e.W.cell? ⟨g2, d * 2, none⟩ = some (.string ⟨#[]⟩) := fun e => hq e 0 (by omega)
                          have q2 : ∀ e : Ext wr, e.W.cell? ⟨g2, d * 2 + 1, none⟩ = some (.int .i64 (mkN c d)) := fun e => hq e 1 (by omega)
                          have i3 : (d : Int) < (n c : Int) := by omega
                          have i2 : (d : Int) < (N2 : Int) := by have := HN2.out; omega
                          have d1 : decide ((d : Int) < (n c : Int)) = true := by simp; omega
                          have d2 : decide (d < n c) = true := by simp; omega
                          clear hz hq hUz
                          go_wp2_with fail
                          refine rNam41 zL zG z1 z2 q1 q2 (fun W => markNamed_any _ _ W) i1 i2 i3 d1 d2 ?_
                          intro y167 y168 y169 y170 y171 y172 y173 y174 y175 y176 y177 y178 y179 y180 y181 y182 y183 y184 y185 y186 y187 y188 y189 y190 y191 W hUW
                          clear zL zG z1 z2 q1 q2
                          go_wp2
                          go_roundw
                          case rel => exact ⟨d + 1, by omega, by go_num, HU2.out.trans hUW⟩
                          case measure => simp [intOf]; omega
                        · have i2 : decide ((d : Int) < (n c : Int)) = false := by simp; omega
                          clear hUz zL
                          go_wp2
                          go_roundw
                          case rel => exact ⟨c + 1, by omega, by go_num, HU2.out⟩
                          case measure => simp [intOf]; omega
                    · have i1 : decide ((c : Int) < (b : Int)) = false := by simp; omega
                      go_wp2
                      go_ret
                      exact ⟨rfl, HB6.out.trans (Low.of_upd HB1.out hU (by rw [HBw.out]; exact HB6.out.b.size) (by simp))⟩

end Go.Proofs.YtpojkmpimnnjiaaGreat
