/- Split of package term, of whatever term: by its contract. -/
import Derived.Test.YtalhbbabijlngaaGreatDoorConI
import Derived.Test.YtalhbbabijlngaaGreatDoorJAW
namespace Go.Proofs.YtalhbbabijlngaaGreatDoor
open Go.RowKit
def SplitQ (w : World) (d : Nat) (t : Tm) (e : Ending) (w' : World) : Prop := ∃ cs cs' : List Value, cs.length = 7 ∧ cs'.length = 7 ∧ e = .returned (.tuple #[.agg cs.toArray, .agg cs'.toArray, .bool (splits t && okS t)]) ∧ In w' d cs (pickT (splits t && okS t) (headT t)) ∧ In w' d cs' (pickT (splits t && okS t) (restT t)) ∧ Upd [] w w'
end Go.Proofs.YtalhbbabijlngaaGreatDoor
namespace Go.Proofs.YtalhbbabijlngaaGreatDoor
open Go.RowKit
def SepTB (lo hi : Nat) (w : World) (d : Nat) (cs : List Value) (t : Tm) : Prop := ∃ LB RB, BT 0 w d cs t LB RB ∧ Apt LB RB ∧ ∀ x, x ∈ KB LB RB → lo ≤ x ∧ x < hi
theorem SepTB.of {lo lo' d : Nat} {w : World} {cs : List Value} {t : Tm} (h : SepT lo w d cs t) (hl : lo' ≤ lo) : SepTB lo' w.heap.size w d cs t := by
 obtain ⟨LB, RB, h1, h2, h3⟩ := h
 exact ⟨LB, RB, h1, h2, fun x hx => ⟨Nat.le_trans hl (h3 x hx), BT.lt _ _ _ _ _ h1 x hx⟩⟩
theorem SepTB.upd {S : List Nat} {lo hi d : Nat} {w w' : World} {cs : List Value} {t : Tm} (h : SepTB lo hi w d cs t) (hu : Upd S w w') (hS : ∀ x, x ∈ S → x < lo) : SepTB lo hi w' d cs t := by
 obtain ⟨LB, RB, h1, h2, h3⟩ := h
 exact ⟨LB, RB, BT.upd hu _ _ _ _ _ (fun x hx hm => by have := hS x hm; have := h3 x hx; omega) h1, h2, h3⟩
theorem SepTB.low {lo lo' hi d : Nat} {w : World} {cs : List Value} {t : Tm} (h : SepTB lo hi w d cs t) (hl : lo' ≤ lo) : SepTB lo' hi w d cs t := by
 obtain ⟨LB, RB, h1, h2, h3⟩ := h
 exact ⟨LB, RB, h1, h2, fun x hx => ⟨Nat.le_trans hl (h3 x hx).1, (h3 x hx).2⟩⟩
theorem SepT.low {lo lo' d : Nat} {w : World} {cs : List Value} {t : Tm} (h : SepT lo w d cs t) (hl : lo' ≤ lo) : SepT lo' w d cs t := by
 obtain ⟨LB, RB, h1, h2, h3⟩ := h
 exact ⟨LB, RB, h1, h2, fun x hx => Nat.le_trans hl (h3 x hx)⟩
theorem zero_sepB (lo hi : Nat) (w : World) (d : Nat) : SepTB lo hi w (d + 1) zeroC zeroT :=
 ⟨_, _, ⟨.slice none 0 0, .slice none 0 0, .slice none 0 0, [], [], _, _, rfl, nilQ w 1, nilR w d, nilR w d, rfl, rfl⟩, Apt.of_two nilA nilA (fun x hx => (nilK x hx).elim) (fun x hx => by cases hx), fun x hx => by
  rcases KB_two.1 hx with h | h | h
  ·cases h
  ·exact (nilK x h).elim
  ·exact (nilK x h).elim⟩
theorem RowBT.more {r : Nat} {R R' : List Value → Tm → List Value → List Value → Prop} {w : World} {v : Value} {I : List Tm} {LB RB : List Value} (h : RowBT r R w v I LB RB) (hR : ∀ cs t l q, R cs t l q → R' cs t l q) : RowBT r R' w v I LB RB := by
 obtain ⟨ls, rs, h1, h2, h3, h4⟩ := h
 refine ⟨ls, rs, h1, h2, h3, fun i hi => ?_⟩
 obtain ⟨cs, k1, k2, k3⟩ := h4 i hi
 exact ⟨cs, k1, k2, hR _ _ _ _ k3⟩
theorem BT.more {r : Nat} {w : World} : ∀ (d : Nat) (cs : List Value) (t : Tm) (LB RB : List Value), BT r w d cs t LB RB → BT r w (d + 1) cs t LB RB := by
 intro d
 induction d with
 | zero => intro cs t LB RB h; exact h.elim
 | succ d ih =>
  intro cs t LB RB h
  cases t with
  | mk k num neg L s I T =>
   obtain ⟨vl, vi, vt, l1, l2, r1, r2, e1, h1, h2, h3, e2, e3⟩ := h
   exact ⟨vl, vi, vt, l1, l2, r1, r2, e1, h1, h2.more ih, h3.more ih, e2, e3⟩
theorem SepTB.more {lo hi d : Nat} {w : World} {cs : List Value} {t : Tm} (h : SepTB lo hi w d cs t) : SepTB lo hi w (d + 1) cs t := by
 obtain ⟨LB, RB, h1, h2, h3⟩ := h
 exact ⟨LB, RB, BT.more _ _ _ _ _ h1, h2, h3⟩
theorem list_endS (B lo d g n3 c3 n4 c4 : Nat) (a3 a4 : Option Addr) (I T : List Tm) (w w4 : World) (e3 : n3 = I.length) (e4 : n4 = T.length) (hg0 : w.heap.size ≤ g) (hg : g < lo) (hB : B ≤ w.heap.size) (hu : Upd [] w w4) (ht : Tb w4 g #[.int .u8 0, .bool false, .slice none 0 0, .string ⟨#[]⟩, .int .i64 0, .slice none 0 0, .slice none 0 0]) (hI : RowB (Pl B lo) (InB (Pl B lo) w4 d) w4 a3 I) (hT : RowB (Pl B lo) (InB (Pl B lo) w4 d) w4 a4 T) (mid hi : Nat) (hlm : lo ≤ mid) (hs3 : SepR lo mid w4 d (.slice a3 I.length c3) I) (hs4 : SepR mid hi w4 d (.slice a4 T.length c4) T) :
  ∃ W5, W5 = ((((((w4.setCell ⟨g, 0, none⟩ (.int .u8 7)).setCell ⟨g, 1, none⟩ (.bool false)).setCell ⟨g, 2, none⟩ (.slice none 0 0)).setCell ⟨g, 3, none⟩ (.string ⟨#[]⟩)).setCell ⟨g, 4, none⟩ (.int .i64 0)).setCell ⟨g, 5, none⟩ (.slice a3 n3 c3)).setCell ⟨g, 6, none⟩ (.slice a4 n4 c4) ∧ Tb W5 g #[.int .u8 7, .bool false, .slice none 0 0, .string ⟨#[]⟩, .int .i64 0, .slice a3 n3 c3, .slice a4 n4 c4] ∧ InB (fun b => b < B ∨ w.heap.size ≤ b) W5 (d + 1) [.int .u8 7, .bool false, .slice none 0 0, .string ⟨#[]⟩, .int .i64 0, .slice a3 n3 c3, .slice a4 n4 c4] (.mk 7 0 false [] ⟨#[]⟩ I T) ∧ Upd [] w W5 ∧ SepT w.heap.size W5 (d + 1) [.int .u8 7, .bool false, .slice none 0 0, .string ⟨#[]⟩, .int .i64 0, .slice a3 n3 c3, .slice a4 n4 c4] (.mk 7 0 false [] ⟨#[]⟩ I T) := by
 obtain ⟨W5, h1, h2, h3, h4⟩ := list_end B lo d g n3 c3 n4 c4 a3 a4 I T w w4 e3 e4 hg0 hg hB hu ht hI hT
 have hU : Upd [g] w4 W5 := by
  rw [h1]
  repeat (first | with_reducible exact Upd.refl _ _ | with_reducible refine Upd.setCell ?_ (Or.inr (by simp)) _)
 refine ⟨W5, h1, h2, h3, h4, ?_⟩
 subst e3 e4
 exact ((list_sep hs3 hs4 hlm).upd hU (fun x hx => by simp at hx; omega)).low (by omega)
set_option maxHeartbeats 4000000 in
set_option maxRecDepth 100000 in
theorem rest_oneS (d c n ci ct : Nat) (num : Int) (neg : Bool) (s : ByteArray) (a ai at' : Option Addr) (T : List Tm) (w V : World) (hUV : Upd [] w V) (hT : RowAt (In w d) w at' T) (hd : 0 < d) (hzT : tszs T ≤ 1353245080330) (hb : belR T ≤ 60000) :
  Calls Tryz.prog 64 #[.agg #[.int .u8 7, .bool neg, .slice a n c, .string s, .int .i64 num, .slice ai 1 ci, .slice at' T.length ct]] V (TermS w.heap.size V d (T.headD nilT)) := by
 have hl : T.length ≤ 1353245080330 := Nat.le_trans (tszs_len T) hzT
 obtain ⟨X, hX7, hXone, hXin, hXc⟩ := tailOf_in 7 num neg a ai at' n c 1 ci ct d s T w hT hl
 have hzu : tsz (T.headD nilT) ≤ 1353245080330 := by
  cases T with
  | nil => simp [nilT, tsz, tszs]
  | cons u r => simp only [tszs] at hzT; simp only [List.headD_cons]; omega
 have hbu : belT (T.headD nilT) ≤ 60000 := by
  cases T with
  | nil => simp [nilT, belT, belR]
  | cons u r => rw [belR] at hb; simp only [List.headD_cons]; omega
 obtain ⟨x0, x1, x2, x3, x4, x5, x6, rfl⟩ := list7 hX7
 have HC : Hid (∀ W, Upd [] V W → Calls Tryz.prog 123 #[.agg #[.int .u8 7, .bool neg, .slice a n c, .string s, .int .i64 num, .slice ai 1 ci, .slice at' T.length ct]] W fun e w' => e = .returned (.agg #[x0, x1, x2, x3, x4, x5, x6]) ∧ Upd [] W w') := fun W hU => hXc W (hUV.trans hU)
 have HCp : Hid (∀ W, Upd [] V W → Calls Tryz.prog 12 #[.agg #[x0, x1, x2, x3, x4, x5, x6]] W (TermS w.heap.size W d (T.headD nilT))) := fun W hU => Copy_sep w.heap.size d W [x0, x1, x2, x3, x4, x5, x6] _ (Nat.le_trans hUV.size hU.size) (In.toB (P := fun b => b < w.heap.size) (fun b hb => hb) (hUV.trans hU) _ _ _ (hXin hd)) hzu hbu
 have hsz : w.heap.size ≤ V.heap.size := hUV.size
 have tb0 : Tb ((V.alloc (.cells #[.int .u8 7, .bool neg, .slice a n c, .string s, .int .i64 num, .slice ai 1 ci, .slice at' T.length ct] 26)).alloc (.cells #[.int .u8 0, .bool false, .slice none 0 0, .string ⟨#[]⟩, .int .i64 0, .slice none 0 0, .slice none 0 0] 26)) V.heap.size #[.int .u8 7, .bool neg, .slice a n c, .string s, .int .i64 num, .slice ai 1 ci, .slice at' T.length ct] := (Tb.new _ _ _ rfl).old _
 have tbz : Tb ((V.alloc (.cells #[.int .u8 7, .bool neg, .slice a n c, .string s, .int .i64 num, .slice ai 1 ci, .slice at' T.length ct] 26)).alloc (.cells #[.int .u8 0, .bool false, .slice none 0 0, .string ⟨#[]⟩, .int .i64 0, .slice none 0 0, .slice none 0 0] 26)) (V.heap.size + 1) #[.int .u8 0, .bool false, .slice none 0 0, .string ⟨#[]⟩, .int .i64 0, .slice none 0 0, .slice none 0 0] := Tb.new _ _ _ (by simp)
 have HU0 : Hid (Upd [] V ((V.alloc (.cells #[.int .u8 7, .bool neg, .slice a n c, .string s, .int .i64 num, .slice ai 1 ci, .slice at' T.length ct] 26)).alloc (.cells #[.int .u8 0, .bool false, .slice none 0 0, .string ⟨#[]⟩, .int .i64 0, .slice none 0 0, .slice none 0 0] 26))) := ((Upd.refl [] V).alloc _).alloc _
 have HSZ : Hid (((V.alloc (.cells #[.int .u8 7, .bool neg, .slice a n c, .string s, .int .i64 num, .slice ai 1 ci, .slice at' T.length ct] 26)).alloc (.cells #[.int .u8 0, .bool false, .slice none 0 0, .string ⟨#[]⟩, .int .i64 0, .slice none 0 0, .slice none 0 0] 26)).heap.size = V.heap.size + 2) := by show _ = _; simp
 obtain ⟨X0, hX0⟩ : ∃ X0, X0 = (V.alloc (.cells #[.int .u8 7, .bool neg, .slice a n c, .string s, .int .i64 num, .slice ai 1 ci, .slice at' T.length ct] 26)).alloc (.cells #[.int .u8 0, .bool false, .slice none 0 0, .string ⟨#[]⟩, .int .i64 0, .slice none 0 0, .slice none 0 0] 26) := ⟨_, rfl⟩
 have y5 : X0.cell? ⟨V.heap.size, 5, none⟩ = some (.slice ai 1 ci) := by rw [hX0]; exact tb0.cell 5
 clear hXc hXin hT hUV hX7 hXone hzT hb hzu hbu hl
 have HX0 : Hid (X0 = _) := hX0
 rw [← hX0] at tb0 tbz HU0 HSZ
 clear hX0
 go_enter Tryz.func64, Tryz.ntmps64
 go_wp2_with fail
 rw [← HX0.out]
 go_wp2_with (first | (refine load_T _ rfl _ rfl _ _ rfl tb0 rfl ?_) | fail)
 refine Calls.mono (HC.out _ HU0.out) ?_
 rintro e w1 ⟨rfl, hU1⟩
 have tz1 := tbz.mono hU1 (by simp)
 have U1 : Hid (Upd [] V w1) := HU0.out.trans hU1
 have hs1 : V.heap.size + 2 ≤ w1.heap.size := by have := hU1.size; have := HSZ.out; omega
 clear hU1 tb0 tbz y5 HU0
 go_wp2_with fail
 refine Calls.mono (HCp.out _ U1.out) ?_
 rintro e w2 ⟨cs, h7, rfl, hin2, hU2, hS2⟩
 have hone := (InB.plain _ _ _ hin2).one
 obtain ⟨p0, p1, p2, p3, p4, p5, p6, rfl⟩ := list7 h7
 have tz2 := tz1.mono hU2 (by simp)
 have U2 : Hid (Upd [] V w2) := U1.out.trans hU2
 have HIN : Hid (InB (fun b => b < w.heap.size ∨ w1.heap.size ≤ b) w2 d [p0, p1, p2, p3, p4, p5, p6] (T.headD nilT)) := hin2
 have HS2 : Hid (SepT w1.heap.size w2 d [p0, p1, p2, p3, p4, p5, p6] (T.headD nilT)) := hS2
 clear hU2 tz1 hin2 hS2
 go_wp2_with (refine store_T _ rfl _ _ rfl _ #[p0, p1, p2, p3, p4, p5, p6] _ rfl rfl tz2 rfl rfl hone ?_; intro w4 hT4 hU4)
 refine ret_T Tryz.results64 rfl _ _ rfl hT4 rfl ⟨[p0, p1, p2, p3, p4, p5, p6], rfl, rfl, ?_, U2.out.then hU4 (by simp), (HS2.out.upd hU4 (fun x hx => by simp at hx; omega)).low (by omega)⟩
 refine InB.upd hU4 (fun b hb hm => ?_) (fun b hb _ => ?_) _ _ _ HIN.out
 ·simp at hm
  subst hm
  rcases hb with hb | hb
  ·omega
  ·omega
 ·rcases hb with hb | hb
  ·exact Or.inl hb
  ·exact Or.inr (by omega)
set_option maxHeartbeats 4000000 in
set_option maxRecDepth 100000 in
theorem rest_manyS (B d b o ci ct n c : Nat) (num : Int) (neg : Bool) (s : ByteArray) (a at' : Option Addr) (I T : List Tm) (w : World) (hB : B ≤ w.heap.size) (hI : RowB (fun b => b < B) (InB (fun b => b < B) w d) w (some ⟨b, o, none⟩) I) (hT : RowB (fun b => b < B) (InB (fun b => b < B) w d) w at' T)
  (h2 : 2 ≤ I.length) (hz : tszs I ≤ 1353245080330) (hzT : tszs T ≤ 1353245080330) (hbl : I.length + belR I + (T.length + belR T) ≤ 60000) (hcap : I.length ≤ ci) (_hci : ci ≤ 9223372036854775807) :
  Calls Tryz.prog 64 #[.agg #[.int .u8 7, .bool neg, .slice a n c, .string s, .int .i64 num, .slice (some ⟨b, o, none⟩) I.length ci, .slice at' T.length ct]] w (TermS B w (d + 1) (.mk 7 0 false [] ⟨#[]⟩ (I.drop 1) T)) := by
 have tb0 : Tb ((w.alloc (.cells #[.int .u8 7, .bool neg, .slice a n c, .string s, .int .i64 num, .slice (some ⟨b, o, none⟩) I.length ci, .slice at' T.length ct] 26)).alloc (.cells #[.int .u8 0, .bool false, .slice none 0 0, .string ⟨#[]⟩, .int .i64 0, .slice none 0 0, .slice none 0 0] 26)) w.heap.size #[.int .u8 7, .bool neg, .slice a n c, .string s, .int .i64 num, .slice (some ⟨b, o, none⟩) I.length ci, .slice at' T.length ct] := (Tb.new _ _ _ rfl).old _
 have tbz : Tb ((w.alloc (.cells #[.int .u8 7, .bool neg, .slice a n c, .string s, .int .i64 num, .slice (some ⟨b, o, none⟩) I.length ci, .slice at' T.length ct] 26)).alloc (.cells #[.int .u8 0, .bool false, .slice none 0 0, .string ⟨#[]⟩, .int .i64 0, .slice none 0 0, .slice none 0 0] 26)) (w.heap.size + 1) #[.int .u8 0, .bool false, .slice none 0 0, .string ⟨#[]⟩, .int .i64 0, .slice none 0 0, .slice none 0 0] := Tb.new _ _ _ (by simp)
 have hU0 : Upd [] w ((w.alloc (.cells #[.int .u8 7, .bool neg, .slice a n c, .string s, .int .i64 num, .slice (some ⟨b, o, none⟩) I.length ci, .slice at' T.length ct] 26)).alloc (.cells #[.int .u8 0, .bool false, .slice none 0 0, .string ⟨#[]⟩, .int .i64 0, .slice none 0 0, .slice none 0 0] 26)) := ((Upd.refl [] w).alloc _).alloc _
 obtain ⟨W, hW⟩ : ∃ W, W = ((w.alloc (.cells #[.int .u8 7, .bool neg, .slice a n c, .string s, .int .i64 num, .slice (some ⟨b, o, none⟩) I.length ci, .slice at' T.length ct] 26)).alloc (.cells #[.int .u8 0, .bool false, .slice none 0 0, .string ⟨#[]⟩, .int .i64 0, .slice none 0 0, .slice none 0 0] 26)) := ⟨_, rfl⟩
 have i1 : ((I.length : Int) == 1) = false := by simp; omega
 have i2 : (1 : Int) ≤ (I.length : Int) := by omega
 have hIl : I.length ≤ 1353245080330 := Nat.le_trans (tszs_len I) hz
 have hTl : T.length ≤ 1353245080330 := Nat.le_trans (tszs_len T) hzT
 have HI : Hid (RowB (fun b => b < B) (InB (fun b => b < B) w d) w (some ⟨b, o, none⟩) I) := hI
 have HT : Hid (RowB (fun b => b < B) (InB (fun b => b < B) w d) w at' T) := hT
 clear hI hT
 go_enter Tryz.func64, Tryz.ntmps64
 go_wp2_with fail
 rw [← hW] at tb0 tbz hU0 ⊢
 have x5 : W.cell? ⟨w.heap.size, 5, none⟩ = some (.slice (some ⟨b, o, none⟩) I.length ci) := tb0.cell 5
 have x6 : W.cell? ⟨w.heap.size, 6, none⟩ = some (.slice at' T.length ct) := tb0.cell 6
 have HW : Hid (W = _) := hW
 have HTB0 : Hid (Tb W _ _) := tb0
 have HTBZ : Hid (Tb W _ _) := tbz
 have HU0 : Hid (Upd [] w W) := hU0
 clear hW tb0 tbz hU0
 have hc1 : ¬ ci = 1 := by omega
 have hlt0 : w.heap.size < W.heap.size := HTB0.out.lt
 have HF1 : Hid (∀ V g, Upd [] W V → g < V.heap.size → V.cell? ⟨g, 0, none⟩ = some (.slice (some ⟨b, o + 7, none⟩) (I.length - 1) (ci - 1)) → Calls Tryz.prog 50 #[.slice (some ⟨g, 0, none⟩) 1 1] V (FreshS B V d (I.drop 1))) := fun V g hU hg hc => by
  have hUV := HU0.out.trans hU
  have hR := (HI.out.drop 1)
  rw [Nat.one_mul] at hR
  refine fresh_oneS B g 0 1 (ci - 1) d (fun b => b < B) (some ⟨b, o + 7, none⟩) (I.drop 1) V hg (Nat.le_trans hB hUV.size) (by rw [hc, List.length_drop]) ?_ ?_ ?_
  ·rcases hR with h | ⟨b', o', e, hp, hlt, hcc⟩
   ·exact Or.inl h
   ·refine Or.inr ⟨b', o', e, hp, Nat.lt_of_lt_of_le hlt hUV.size, fun i hi => ?_⟩
    obtain ⟨cs, k1, k2, k3⟩ := hcc i hi
    exact ⟨cs, k1, fun j hj => (hUV.cell (p := ⟨b', o' + (i * 7 + j), none⟩) hlt (by simp)).trans (k2 j hj), InB.upd hUV (by simp) (fun b hb _ => hb) _ _ _ k3⟩
  ·have h1 := belR_drop1 I
   rw [List.length_drop]; omega
  ·exact Nat.le_trans (tszs_drop I 1) hz
 have HF2 : Hid (∀ V g, Upd [] W V → g < V.heap.size → V.cell? ⟨g, 0, none⟩ = some (.slice at' T.length ct) → Calls Tryz.prog 50 #[.slice (some ⟨g, 0, none⟩) 1 1] V (FreshS B V d T)) := fun V g hU hg hc => by
  have hUV := HU0.out.trans hU
  refine fresh_oneS B g 0 1 ct d (fun b => b < B) at' T V hg (Nat.le_trans hB hUV.size) hc ?_ (by omega) hzT
  rcases HT.out with h | ⟨b', o', e, hp, hlt, hcc⟩
  ·exact Or.inl h
  ·refine Or.inr ⟨b', o', e, hp, Nat.lt_of_lt_of_le hlt hUV.size, fun i hi => ?_⟩
   obtain ⟨cs, k1, k2, k3⟩ := hcc i hi
   exact ⟨cs, k1, fun j hj => (hUV.cell (p := ⟨b', o' + (i * 7 + j), none⟩) hlt (by simp)).trans (k2 j hj), InB.upd hUV (by simp) (fun b hb _ => hb) _ _ _ k3⟩
 go_region_held3 (fun w' => w'.cell? ⟨w.heap.size, 5, none⟩ = some (.slice (some ⟨b, o, none⟩) I.length ci) ∧ w'.cell? ⟨w.heap.size, 6, none⟩ = some (.slice at' T.length ct))
  (go_keep)
  (first
   | (go_at_call 50; refine Calls.mono (HF1.out _ _ (by repeat (first | exact Upd.refl _ _ | refine Upd.drew ?_ | refine Upd.alloc ?_ _)) ?_ ?_) ?_; go_loud (first | exact nw0l _ _ _ | exact nw1l _ _ _ _ _ | exact nw2l _ _ _ _ _); go_loud (first | exact nw0 _ _ _ | exact nw1 _ _ _ _ _ | exact nw2 _ _ _ _ _); rintro e w3 ⟨a3, c3, rfl, hR3, hU3, _, _, LB3, RB3, hB3, hA3, hK3⟩; have uw3 : Hid (Upd [] W w3) := Upd.trans (by repeat (first | exact Upd.refl _ _ | refine Upd.drew ?_ | refine Upd.alloc ?_ _)) hU3; have HR3 : Hid (RowB (Pl B W.heap.size) (InB (Pl B W.heap.size) w3 d) w3 a3 (I.drop 1)) := hR3.weak (Upd.size (w := W) (S := []) (by repeat (first | exact Upd.refl _ _ | refine Upd.drew ?_ | refine Upd.alloc ?_ _))); have HU3 : Hid (Upd [] _ w3) := hU3; have HS3 : Hid (SepR W.heap.size w3.heap.size w3 d (.slice a3 ((I.drop 1)).length c3) (I.drop 1)) := SepR.mk' hB3 hA3 (Upd.size (w := W) (S := []) (by repeat (first | exact Upd.refl _ _ | refine Upd.drew ?_ | refine Upd.alloc ?_ _))) hK3; clear hR3 hU3 hB3 hA3 hK3; have y5 : w3.cell? ⟨w.heap.size, 5, none⟩ = some (.slice (some ⟨b, o, none⟩) I.length ci) := (uw3.out.cell (p := ⟨w.heap.size, 5, none⟩) hlt0 (by simp)).trans x5; have y6 : w3.cell? ⟨w.heap.size, 6, none⟩ = some (.slice at' T.length ct) := (uw3.out.cell (p := ⟨w.heap.size, 6, none⟩) hlt0 (by simp)).trans x6)
   | (go_at_call 50; go_loud (refine Calls.mono (HF2.out _ _ (by repeat (first | exact Upd.refl _ _ | exact uw3.out | refine Upd.drew ?_ | refine Upd.alloc ?_ _)) ?_ ?_) ?_); go_loud (first | exact nw0l _ _ _ | exact Nat.lt_of_lt_of_le (nw1l _ _ _ _ _) HU3.out.size | exact Nat.lt_of_lt_of_le (nw2l _ _ _ _ _) HU3.out.size); go_loud (first | exact nw0 _ _ _ | exact (HU3.out.cell (nw1l _ _ _ _ _) (by simp)).trans (nw1 _ _ _ _ _) | exact (HU3.out.cell (nw2l _ _ _ _ _) (by simp)).trans (nw2 _ _ _ _ _)); rintro e w4 ⟨a4, c4, rfl, hR4, hU4, _, _, LB4, RB4, hB4, hA4, hK4⟩; have uw4 : Hid (Upd [] w3 w4) := Upd.trans (by repeat (first | exact Upd.refl _ _ | refine Upd.drew ?_ | refine Upd.alloc ?_ _)) hU4; have HR4 : Hid (RowB (Pl B W.heap.size) (InB (Pl B W.heap.size) w4 d) w4 a4 T) := hR4.weak (Nat.le_trans uw3.out.size (Upd.size (w := w3) (S := []) (by repeat (first | exact Upd.refl _ _ | refine Upd.drew ?_ | refine Upd.alloc ?_ _)))); have HS4 : Hid (SepR w3.heap.size w4.heap.size w4 d (.slice a4 (T).length c4) T) := SepR.mk' hB4 hA4 (Upd.size (w := w3) (S := []) (by repeat (first | exact Upd.refl _ _ | refine Upd.drew ?_ | refine Upd.alloc ?_ _))) hK4; clear hR4 hU4 hB4 hA4 hK4; have q5 : w4.cell? ⟨w.heap.size, 5, none⟩ = some (.slice (some ⟨b, o, none⟩) I.length ci) := ((uw3.out.trans uw4.out).cell (p := ⟨w.heap.size, 5, none⟩) hlt0 (by simp)).trans x5; have q6 : w4.cell? ⟨w.heap.size, 6, none⟩ = some (.slice at' T.length ct) := ((uw3.out.trans uw4.out).cell (p := ⟨w.heap.size, 6, none⟩) hlt0 (by simp)).trans x6; have tb4 := (HTBZ.out.mono uw3.out (by simp)).mono uw4.out (by simp); have z0 : w4.cell? ⟨w.heap.size + 1, 0, none⟩ = some (.int .u8 0) := tb4.cell 0; have f0 : w4.frozen? ⟨w.heap.size + 1, 0, none⟩ = false := tb4.free 0; have z1 : w4.cell? ⟨w.heap.size + 1, 1, none⟩ = some (.bool false) := tb4.cell 1; have f1 : w4.frozen? ⟨w.heap.size + 1, 1, none⟩ = false := tb4.free 1; have z2 : w4.cell? ⟨w.heap.size + 1, 2, none⟩ = some (.slice none 0 0) := tb4.cell 2; have f2 : w4.frozen? ⟨w.heap.size + 1, 2, none⟩ = false := tb4.free 2; have z3 : w4.cell? ⟨w.heap.size + 1, 3, none⟩ = some (.string ⟨#[]⟩) := tb4.cell 3; have f3 : w4.frozen? ⟨w.heap.size + 1, 3, none⟩ = false := tb4.free 3; have z4 : w4.cell? ⟨w.heap.size + 1, 4, none⟩ = some (.int .i64 0) := tb4.cell 4; have f4 : w4.frozen? ⟨w.heap.size + 1, 4, none⟩ = false := tb4.free 4; have z5 : w4.cell? ⟨w.heap.size + 1, 5, none⟩ = some (.slice none 0 0) := tb4.cell 5; have f5 : w4.frozen? ⟨w.heap.size + 1, 5, none⟩ = false := tb4.free 5; have z6 : w4.cell? ⟨w.heap.size + 1, 6, none⟩ = some (.slice none 0 0) := tb4.cell 6; have f6 : w4.frozen? ⟨w.heap.size + 1, 6, none⟩ = false := tb4.free 6; have HTB4 : Hid (Tb w4 _ _) := tb4; clear tb4))
 all_goals
  have hsW : W.heap.size = w.heap.size + 2 := by rw [HW.out]; simp
  obtain ⟨W5, hW5, hT5, hin5, hU5, hS5⟩ := list_endS B W.heap.size d (w.heap.size + 1) (I.length - 1) c3 T.length c4 a3 a4 (I.drop 1) T w w4 (by rw [List.length_drop]) rfl (by omega) (by omega) hB ((HU0.out.trans uw3.out).trans uw4.out) HTB4.out (RowB.upd uw4.out (by simp) (fun b hb _ => hb) HR3.out) HR4.out w3.heap.size w4.heap.size uw3.out.size (HS3.out.upd (S := []) uw4.out (by simp)) HS4.out
  rw [← hW5]
  have HIN5 : Hid _ := hin5
  have HS5 : Hid _ := hS5
  have HU5 : Hid (Upd [] w W5) := hU5
  clear z0 z1 z2 z3 z4 z5 z6 f0 f1 f2 f3 f4 f5 f6 hW5 hin5 hU5 hS5 x5 x6 y5 y6 q5 q6
  go_wp2
  exact ret_T Tryz.results64 rfl _ _ rfl hT5 rfl ⟨_, rfl, rfl, HIN5.out, HU5.out, HS5.out⟩
end Go.Proofs.YtalhbbabijlngaaGreatDoor
