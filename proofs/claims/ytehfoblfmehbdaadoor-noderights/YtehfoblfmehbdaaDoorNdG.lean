/- fits of package node, by its contract. -/
import Derived.Test.YtehfoblfmehbdaaDoorJAA
namespace Go.Proofs.YtehfoblfmehbdaaDoor
open Go.RowKit

theorem depR_take (K : List Nd) (k : Nat) (hk : k < K.length) : depR (K.take (k + 1)) = max (depR (K.take k)) (depN K[k]) := by
  induction K generalizing k with
  | nil => simp at hk
  | cons t r ih =>
    cases k with
    | zero => simp [depR]
    | succ k => simp only [List.take_succ_cons, depR, List.getElem_cons_succ]; rw [ih k (by simpa using hk)]; omega

/-- Is there room for it? -/
def fitB (dp lf : Int) (t : Nd) : Bool := decide (dp + (depN t : Nat) ≤ 50) && decide (((manN t : Nat) : Int) ≤ lf)
/-- What the closure enter is to answer. -/
def FitP (w : World) (b1 b2 : Nat) (dp lf : Int) (t : Nd) (e : Ending) (w' : World) : Prop := ∃ x y : Int, e = .returned (.bool (fitB dp lf t)) ∧ IntB w' b1 x ∧ IntB w' b2 y ∧ Upd [b1, b2] w w' ∧ (fitB dp lf t = true → x = dp ∧ y = lf - (manN t : Nat))
def FitSaid (d : Nat) : Prop := ∀ (w : World) (b1 b2 q : Nat) (dp lf : Int) (cs : List Value) (t : Nd), NIn w d cs t → nsz t ≤ 2199023255488 → IntB w b1 dp → IntB w b2 lf → b1 ≠ b2 → 0 ≤ dp → dp ≤ 50 → 0 ≤ lf → lf ≤ 16384 → FunB w q (.func (.func 41) #[] #[.pointer (some ⟨b1, 0, none⟩), .pointer (some ⟨b2, 0, none⟩), .pointer (some ⟨q, 0, none⟩)]) 26 →
  Calls Tryd.prog 41 #[.agg cs.toArray, .pointer (some ⟨b1, 0, none⟩), .pointer (some ⟨b2, 0, none⟩), .pointer (some ⟨q, 0, none⟩)] w (FitP w b1 b2 dp lf t)

/-- While kids are entered. -/
structure FitI (w : World) (b1 b2 q : Nat) (dp lf : Int) (K : List Nd) (k : Nat) (W : World) : Prop where
  upd : Upd [b1, b2] w W
  deep : IntB W b1 dp
  left : IntB W b2 (lf - (manR (K.take k) : Nat))
  fn : FunB W q (.func (.func 41) #[] #[.pointer (some ⟨b1, 0, none⟩), .pointer (some ⟨b2, 0, none⟩), .pointer (some ⟨q, 0, none⟩)]) 26
  d50 : dp + (depR (K.take k) : Nat) ≤ 50
  many : ((manR (K.take k) : Nat) : Int) ≤ lf
def FitF (w : World) (b1 b2 : Nat) (dp lf : Int) (K : List Nd) (W : World) : Prop := ¬ (dp + (depR K : Nat) ≤ 50 ∧ ((manR K : Nat) : Int) ≤ lf) ∧ ∃ x y : Int, IntB W b1 x ∧ IntB W b2 y ∧ Upd [b1, b2] w W

theorem depR_le (K : List Nd) (k : Nat) : depR (K.take k) ≤ depR K := by
  induction K generalizing k with
  | nil => simp
  | cons t r ih =>
    cases k with
    | zero => simp [depR]
    | succ k => simp only [List.take_succ_cons, depR]; have := ih k; omega

theorem fit_kids (d : Nat) (ih : FitSaid d) (w : World) (b1 b2 q : Nat) (dp lf : Int) (a : Option Addr) (c : Nat) (K : List Nd) (hK : RowN (NIn w d) w a K) (hz : nszs K ≤ 2199023255488) (h1 : IntB w b1 dp) (h2 : IntB w b2 lf) (hne : b1 ≠ b2) (hd0 : 0 ≤ dp) (hd1 : dp ≤ 50) (hl0 : 0 ≤ lf) (hl1 : lf ≤ 16384)
    (hf : FunB w q (.func (.func 41) #[] #[.pointer (some ⟨b1, 0, none⟩), .pointer (some ⟨b2, 0, none⟩), .pointer (some ⟨q, 0, none⟩)]) 26) :
    Calls Tryd.prog 42 #[.slice a K.length c, .func (.func 41) #[] #[.pointer (some ⟨b1, 0, none⟩), .pointer (some ⟨b2, 0, none⟩), .pointer (some ⟨q, 0, none⟩)]] w (AllP (FitI w b1 b2 q dp lf K K.length) (FitF w b1 b2 dp lf K)) := by
  have hS : ∀ b ∈ [b1, b2], ∃ n, IntB w b n := fun b hb => by
    simp only [List.mem_cons, List.not_mem_nil, or_false] at hb
    rcases hb with rfl | rfl
    · exact ⟨_, h1⟩
    · exact ⟨_, h2⟩
  have hq1 : q ∉ [b1, b2] := fun hm => by
    simp only [List.mem_cons, List.not_mem_nil, or_false] at hm
    rcases hm with rfl | rfl
    · have := hf.symm.trans h1; simp at this
    · have := hf.symm.trans h2; simp at this
  refine all_gen a c d K 41 _ (FitI w b1 b2 q dp lf K) (FitF w b1 b2 dp lf K) w (Nat.le_trans (nszs_len K) hz) Tryd.call41 ⟨Upd.refl _ _, h1, by simpa [manR] using h2, hf, by simpa [depR] using hd1, by simpa [manR] using hl0⟩ (fun k W h => RowN.upd h.upd hS _ _ _ hK) (fun k W V h hu => ⟨h.upd.then hu (by simp), h.deep.mono hu (by simp), h.left.mono hu (by simp), h.fn.mono hu (by simp), h.d50, h.many⟩) (fun k hk cs W h hin => ?_)
  have hb1 := manR_take K k hk
  have hb2 := manR_le K (k + 1)
  have hb3 := depR_take K k hk
  have hb4 := depR_le K (k + 1)
  refine (ih W b1 b2 q dp (lf - (manR (K.take k) : Nat)) cs K[k] hin (Nat.le_trans (nszs_get K k hk) hz) h.deep h.left hne hd0 hd1 (by have := h.many; omega) (by omega) h.fn).mono ?_
  rintro e w' ⟨x, y, rfl, g1, g2, g3, g4⟩
  refine ⟨_, rfl, fun hy => ?_, fun hn => ?_⟩
  · obtain ⟨rfl, rfl⟩ := g4 hy
    unfold fitB at hy
    rw [Bool.and_eq_true, decide_eq_true_eq, decide_eq_true_eq] at hy
    have hm := h.many
    have hd := h.d50
    refine ⟨h.upd.trans g3, g1, ?_, h.fn.mono g3 hq1, by omega, by omega⟩
    have e : lf - ((manR (K.take k) : Nat) : Int) - ((manN K[k] : Nat) : Int) = lf - ((manR (K.take (k + 1)) : Nat) : Int) := by omega
    rw [e] at g2
    exact g2
  · refine ⟨fun hh => ?_, x, y, g1, g2, h.upd.trans g3⟩
    unfold fitB at hn
    rw [Bool.and_eq_false_iff, decide_eq_false_iff_not, decide_eq_false_iff_not] at hn
    omega

set_option maxHeartbeats 4000000 in
set_option maxRecDepth 100000 in
theorem Fit_step (d : Nat) (ih : FitSaid d) : FitSaid (d + 1) := by
  intro w b1 b2 q dp lf cs t h hs h1 h2 hne hd0 hd1 hl0 hl1 hf
  obtain ⟨k, s, num, pos, K⟩ := t
  obtain ⟨a, c, rfl, hK, -⟩ := h
  simp only [nsz] at hs
  have hS : ∀ b ∈ [b1, b2], ∃ n, IntB w b n := fun b hb => by
    simp only [List.mem_cons, List.not_mem_nil, or_false] at hb
    rcases hb with rfl | rfl
    · exact ⟨_, h1⟩
    · exact ⟨_, h2⟩
  have hqS : q ∉ [b1, b2] := fun hm => by
    simp only [List.mem_cons, List.not_mem_nil, or_false] at hm
    rcases hm with rfl | rfl
    · have := hf.symm.trans h1; simp at this
    · have := hf.symm.trans h2; simp at this
  have hn12 : ¬ b1 = b2 := hne
  have hn21 : ¬ b2 = b1 := fun e => hne e.symm
  have hq1 : ¬ b1 = q := fun e => hqS (by rw [← e]; simp)
  have hq2 : ¬ b2 = q := fun e => hqS (by rw [← e]; simp)
  have l1 := h1.lt
  have l2 := h2.lt
  have lq := hf.lt
  have nw1 : ¬ b1 = w.heap.size := by omega
  have nw2 : ¬ b2 = w.heap.size := by omega
  have nw1' : ¬ w.heap.size = b1 := by omega
  have nw2' : ¬ w.heap.size = b2 := by omega
  have hl : K.length ≤ 2199023255488 := Nat.le_trans (nszs_len K) hs
  have hw1 : IntKind.i64.wrap (dp + 1) = dp + 1 := by rw [IntKind.wrap_i64]; omega
  have hw2 : IntKind.i64.wrap (lf - 1) = lf - 1 := by rw [IntKind.wrap_i64]; omega
  have hw4 : wrap64 (dp + 1) = dp + 1 := by unfold wrap64; omega
  have hw5 : wrap64 (lf - 1) = lf - 1 := by unfold wrap64; omega
  have y1 : w.cell? ⟨b1, 0, none⟩ = some (.int .i64 dp) := h1.cell
  have f1 : w.frozen? ⟨b1, 0, none⟩ = false := h1.free
  have y2 : w.cell? ⟨b2, 0, none⟩ = some (.int .i64 lf) := h2.cell
  have f2 : w.frozen? ⟨b2, 0, none⟩ = false := h2.free
  have yq := hf.cell
  have j1 : IntB ((w.setCell ⟨b1, 0, none⟩ (.int .i64 (dp + 1))).setCell ⟨b2, 0, none⟩ (.int .i64 (lf - 1))) b1 (dp + 1) := (h1.set (dp + 1)).mono ((Upd.refl [b2] _).setCell (Or.inr (by simp)) _) (by simp [hn12])
  have j2 : IntB ((w.setCell ⟨b1, 0, none⟩ (.int .i64 (dp + 1))).setCell ⟨b2, 0, none⟩ (.int .i64 (lf - 1))) b2 (lf - 1) := (h2.mono ((Upd.refl [b1] _).setCell (Or.inr (by simp)) _) (by simp [hn21])).set (lf - 1)
  have u2 : Upd [b1, b2] w ((w.setCell ⟨b1, 0, none⟩ (.int .i64 (dp + 1))).setCell ⟨b2, 0, none⟩ (.int .i64 (lf - 1))) := ((Upd.refl [b1, b2] w).setCell (Or.inr (by simp)) _).setCell (Or.inr (by simp)) _
  have k2 : IntB (((w.setCell ⟨b1, 0, none⟩ (.int .i64 (dp + 1))).setCell ⟨b2, 0, none⟩ (.int .i64 (lf - 1))).setCell ⟨b1, 0, none⟩ (.int .i64 dp)) b2 (lf - 1) := j2.mono ((Upd.refl [b1] _).setCell (Or.inr (by simp)) _) (by simp [hn21])
  have BAD : Hid (fitB dp lf (.mk k s num pos K) = false → FitP w b1 b2 dp lf (.mk k s num pos K) (.returned (.bool false)) ((((w.setCell ⟨b1, 0, none⟩ (.int .i64 (dp + 1))).setCell ⟨b2, 0, none⟩ (.int .i64 (lf - 1))).setCell ⟨b1, 0, none⟩ (.int .i64 dp)).alloc (.cells #[.int .u8 k, .string s, .int .i64 num, .int .i64 pos, .slice a K.length c] 25))) := fun hb => ⟨dp, lf - 1, by rw [hb], (j1.set dp).mono ((Upd.refl [] _).alloc _) (by simp), k2.mono ((Upd.refl [] _).alloc _) (by simp), (u2.setCell (Or.inr (by simp)) _).alloc _, fun h => by rw [hb] at h; cases h⟩
  have HFB : Hid (fitB dp lf (.mk k s num pos K) = (decide (dp + 1 + (depR K : Nat) ≤ 50) && decide (((manR K : Nat) : Int) ≤ lf - 1))) := by
    show _ = _
    unfold fitB
    rw [depN, manN]
    congr 1
    · congr 1; exact propext ⟨fun h => by omega, fun h => by omega⟩
    · congr 1; exact propext ⟨fun h => by omega, fun h => by omega⟩
  have HKX : Hid (RowN (NIn (((w.setCell ⟨b1, 0, none⟩ (.int .i64 (dp + 1))).setCell ⟨b2, 0, none⟩ (.int .i64 (lf - 1))).alloc (.cells #[.int .u8 k, .string s, .int .i64 num, .int .i64 pos, .slice a K.length c] 25)) d) (((w.setCell ⟨b1, 0, none⟩ (.int .i64 (dp + 1))).setCell ⟨b2, 0, none⟩ (.int .i64 (lf - 1))).alloc (.cells #[.int .u8 k, .string s, .int .i64 num, .int .i64 pos, .slice a K.length c] 25)) a K) := RowN.imp (RowN.upd u2 hS _ _ _ hK) ((Upd.refl [] _).alloc _) (fun cs t h => NIn.mono ((Upd.refl [] _).alloc _) _ _ _ h)
  have HX1 : Hid (IntB (((w.setCell ⟨b1, 0, none⟩ (.int .i64 (dp + 1))).setCell ⟨b2, 0, none⟩ (.int .i64 (lf - 1))).alloc (.cells #[.int .u8 k, .string s, .int .i64 num, .int .i64 pos, .slice a K.length c] 25)) b1 (dp + 1)) := j1.mono ((Upd.refl [] _).alloc _) (by simp)
  have HX2 : Hid (IntB (((w.setCell ⟨b1, 0, none⟩ (.int .i64 (dp + 1))).setCell ⟨b2, 0, none⟩ (.int .i64 (lf - 1))).alloc (.cells #[.int .u8 k, .string s, .int .i64 num, .int .i64 pos, .slice a K.length c] 25)) b2 (lf - 1)) := j2.mono ((Upd.refl [] _).alloc _) (by simp)
  have HXQ : Hid (FunB (((w.setCell ⟨b1, 0, none⟩ (.int .i64 (dp + 1))).setCell ⟨b2, 0, none⟩ (.int .i64 (lf - 1))).alloc (.cells #[.int .u8 k, .string s, .int .i64 num, .int .i64 pos, .slice a K.length c] 25)) q (.func (.func 41) #[] #[.pointer (some ⟨b1, 0, none⟩), .pointer (some ⟨b2, 0, none⟩), .pointer (some ⟨q, 0, none⟩)]) 26) := (hf.mono u2 hqS).mono ((Upd.refl [] _).alloc _) (by simp)
  have UX : Hid (Upd [b1, b2] w (((w.setCell ⟨b1, 0, none⟩ (.int .i64 (dp + 1))).setCell ⟨b2, 0, none⟩ (.int .i64 (lf - 1))).alloc (.cells #[.int .u8 k, .string s, .int .i64 num, .int .i64 pos, .slice a K.length c] 25))) := u2.alloc _
  have HZ : Hid (nszs K ≤ 2199023255488) := hs
  have IH : Hid (FitSaid d) := ih
  clear j1 j2 u2 k2 hS hK h1 h2 hf ih hs
  by_cases hA : dp + 1 ≤ 50
  · by_cases hB : 1 ≤ lf
    · have hA' : decide (dp + 1 ≤ 50) = true := by simp; omega
      have hB' : 0 ≤ lf - 1 := by omega
      have HALL : Hid (Calls Tryd.prog 42 #[.slice a K.length c, .func (.func 41) #[] #[.pointer (some ⟨b1, 0, none⟩), .pointer (some ⟨b2, 0, none⟩), .pointer (some ⟨q, 0, none⟩)]] (((w.setCell ⟨b1, 0, none⟩ (.int .i64 (dp + 1))).setCell ⟨b2, 0, none⟩ (.int .i64 (lf - 1))).alloc (.cells #[.int .u8 k, .string s, .int .i64 num, .int .i64 pos, .slice a K.length c] 25)) (AllP (FitI (((w.setCell ⟨b1, 0, none⟩ (.int .i64 (dp + 1))).setCell ⟨b2, 0, none⟩ (.int .i64 (lf - 1))).alloc (.cells #[.int .u8 k, .string s, .int .i64 num, .int .i64 pos, .slice a K.length c] 25)) b1 b2 q (dp + 1) (lf - 1) K K.length) (FitF (((w.setCell ⟨b1, 0, none⟩ (.int .i64 (dp + 1))).setCell ⟨b2, 0, none⟩ (.int .i64 (lf - 1))).alloc (.cells #[.int .u8 k, .string s, .int .i64 num, .int .i64 pos, .slice a K.length c] 25)) b1 b2 (dp + 1) (lf - 1) K))) := fit_kids d IH.out _ b1 b2 q (dp + 1) (lf - 1) a c K HKX.out HZ.out HX1.out HX2.out hne (by omega) (by omega) (by omega) (by omega) HXQ.out
      go_enter Tryd.func41, Tryd.ntmps41
      go_wp2_with fail
      refine Calls.mono HALL.out ?_
      rintro e w2 ⟨bb, rfl, hy, hn⟩
      cases bb with
      | true =>
        obtain ⟨g0, g1, g2, g3, g4, g5⟩ := hy rfl
        have v1 : w2.cell? ⟨b1, 0, none⟩ = some (.int .i64 (dp + 1)) := g1.cell
        have v2 : w2.frozen? ⟨b1, 0, none⟩ = false := g1.free
        have GOOD : Hid (FitP w b1 b2 dp lf (.mk k s num pos K) (.returned (.bool true)) (w2.setCell ⟨b1, 0, none⟩ (.int .i64 dp))) := by
          rw [List.take_of_length_le (Nat.le_refl _)] at g2 g4 g5
          have hb : fitB dp lf (.mk k s num pos K) = true := by rw [HFB.out, decide_eq_true g4, decide_eq_true g5]; rfl
          refine ⟨dp, lf - 1 - (manR K : Nat), by rw [hb], g1.set dp, g2.mono ((Upd.refl [b1] _).setCell (Or.inr (by simp)) _) (by simp [hn21]), (UX.out.trans g0).setCell (Or.inr (by simp)) _, fun _ => ⟨rfl, by rw [manN]; omega⟩⟩
        clear g0 g1 g2 g3 g4 g5 hy hn
        go_wp2
        go_ret
        exact GOOD.out
      | false =>
        obtain ⟨g0, x, y, g1, g2, g3⟩ := hn rfl
        have v1 : w2.cell? ⟨b1, 0, none⟩ = some (.int .i64 x) := g1.cell
        have v2 : w2.frozen? ⟨b1, 0, none⟩ = false := g1.free
        have NO : Hid (∀ z : Int, FitP w b1 b2 dp lf (.mk k s num pos K) (.returned (.bool false)) (w2.setCell ⟨b1, 0, none⟩ (.int .i64 z))) := fun z => by
          have hb : fitB dp lf (.mk k s num pos K) = false := by
            rw [HFB.out, Bool.and_eq_false_iff, decide_eq_false_iff_not, decide_eq_false_iff_not]
            omega
          exact ⟨z, y, by rw [hb], g1.set z, g2.mono ((Upd.refl [b1] _).setCell (Or.inr (by simp)) _) (by simp [hn21]), (UX.out.trans g3).setCell (Or.inr (by simp)) _, fun h => by rw [hb] at h; cases h⟩
        clear g0 g1 g2 g3 hy hn
        go_wp2
        go_ret
        exact NO.out _
    · have hdB : decide (0 ≤ lf - 1) = false := by simp; omega
      have hdB' : decide (1 ≤ lf) = false := by simp; omega
      go_enter Tryd.func41, Tryd.ntmps41
      go_wp2
      go_ret
      exact BAD.out (by rw [HFB.out, Bool.and_eq_false_iff, decide_eq_false_iff_not, decide_eq_false_iff_not]; omega)
  · have hdA : decide (dp + 1 ≤ 50) = false := by simp; omega
    go_enter Tryd.func41, Tryd.ntmps41
    go_wp2
    go_ret
    exact BAD.out (by rw [HFB.out, Bool.and_eq_false_iff, decide_eq_false_iff_not, decide_eq_false_iff_not]; omega)
theorem Fit_all : ∀ d, FitSaid d
  | 0 => fun _ _ _ _ _ _ _ _ h => h.elim
  | d + 1 => Fit_step d (Fit_all d)

/-- Is it within the limits? -/
def fitsN (t : Nd) : Bool := decide (depN t ≤ 50) && decide (manN t ≤ 16384)
theorem fitB_top (t : Nd) : fitB 0 16384 t = fitsN t := by
  unfold fitB fitsN
  congr 1
  · congr 1; exact propext ⟨fun h => by omega, fun h => by omega⟩
  · congr 1; exact propext ⟨fun h => by omega, fun h => by omega⟩

set_option maxHeartbeats 4000000 in
set_option maxRecDepth 100000 in
theorem fits_in (d : Nat) (w : World) (cs : List Value) (t : Nd) (h : NIn w d cs t) (hs : nsz t ≤ 2199023255488) :
    Calls Tryd.prog 23 #[.agg cs.toArray] w fun e w' => e = .returned (.bool (fitsN t)) ∧ Upd [] w w' := by
  have hsev := h.five
  obtain ⟨C, hC⟩ : ∃ C, C = cs.toArray := ⟨_, rfl⟩
  have HF : Hid (∀ W, Upd [] w W → ∀ b1 b2 q, IntB W b1 0 → IntB W b2 16384 → b1 ≠ b2 → FunB W q (.func (.func 41) #[] #[.pointer (some ⟨b1, 0, none⟩), .pointer (some ⟨b2, 0, none⟩), .pointer (some ⟨q, 0, none⟩)]) 26 → w.heap.size ≤ b1 → w.heap.size ≤ b2 → Calls Tryd.prog 41 #[.agg C, .pointer (some ⟨b1, 0, none⟩), .pointer (some ⟨b2, 0, none⟩), .pointer (some ⟨q, 0, none⟩)] W fun e w' => e = .returned (.bool (fitsN t)) ∧ Upd [] w w') := fun W hu b1 b2 q h1 h2 hne hf n1 n2 => by
    rw [hC]
    refine (Fit_all d W b1 b2 q 0 16384 cs t (NIn.mono hu _ _ _ h) hs h1 h2 hne (by omega) (by omega) (by omega) (by omega) hf).mono ?_
    rintro e w' ⟨x, y, rfl, _, _, hu2, _⟩
    exact ⟨by rw [fitB_top], hu.then hu2 (by simp; omega)⟩
  rw [← hC] at hsev ⊢
  clear h hs hC
  have tb0 : Tb (w.alloc (.cells C 25)) w.heap.size C := Tb.new _ _ _ rfl
  go_enter Tryd.func23, Tryd.ntmps23
  go_wp2_with (first | (refine load_T _ rfl _ rfl _ _ rfl (((tb0.old _).old _).old _) hsev ?_) | fail)
  refine Calls.mono (HF.out _ ((((Upd.refl [] w).alloc _).alloc _).alloc _ |>.alloc _) (w.heap.size + 1) (w.heap.size + 1 + 1) (w.heap.size + 1 + 1 + 1) (((IntB.new _ _ _ (by simp)).mono ((Upd.refl [] _).alloc _) (by simp)).mono ((Upd.refl [] _).alloc _) (by simp)) ((IntB.new _ _ _ (by simp)).mono ((Upd.refl [] _).alloc _) (by simp)) (by omega) (FunB.new _ _ _ _ (by simp)) (by omega) (by omega)) ?_
  rintro e w1 ⟨rfl, u1⟩
  go_wp2
  go_ret
  exact ⟨rfl, u1⟩

end Go.Proofs.YtehfoblfmehbdaaDoor
