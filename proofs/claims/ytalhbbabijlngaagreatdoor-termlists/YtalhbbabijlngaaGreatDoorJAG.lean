/- slices.CompareFunc over terms, tailOf: by their contracts. -/
import Derived.Test.YtalhbbabijlngaaGreatDoorJAF
import Derived.Test.YtalhbbabijlngaaGreatDoorJAA
import Derived.Deep.QuietTactic
import Derived.BigQuiet
namespace Go.Proofs.YtalhbbabijlngaaGreatDoor
open Go.RowKit
def OrdSaid (d : Nat) : Prop := ∀ (w : World) (cs cs' : List Value) (t u : Tm), In w d cs t → In w d cs' u → okT' t = true → okT' u = true → tsz t ≤ 1353245080330 → tsz u ≤ 1353245080330 →
 Calls Tryz.prog 61 #[.agg cs.toArray, .agg cs'.toArray] w fun e w' => e = .returned (.int .i64 (ordT t u)) ∧ Upd [] w w'
theorem okR_get (I : List Tm) (k : Nat) (hk : k < I.length) (h : okR I = true) : okT' I[k] = true := by
 cases ho : okT' I[k] with
 | true => rfl
 | false => rw [okR_bad I k hk ho] at h; cases h
theorem ordR_more (I I' : List Tm) (h : 0 < I.length) (h' : I' = []) : ordR I I' = 1 := by
 subst h'
 cases I with
 | nil => simp at h
 | cons t r => rfl
theorem ordR_less (I I' : List Tm) (h : I = []) (h' : 0 < I'.length) : ordR I I' = -1 := by
 subst h
 cases I' with
 | nil => simp at h'
 | cons t r => rfl
theorem ordR_end (I I' : List Tm) (h : I = []) (h' : I' = []) : ordR I I' = 0 := by subst h h'; rfl
theorem ordR_next (I I' : List Tm) (k : Nat) (hk : k < I.length) (hk' : k < I'.length) : ordR (I.drop k) (I'.drop k) = th (ordT I[k] I'[k]) (ordR (I.drop (k + 1)) (I'.drop (k + 1))) := by
 rw [List.drop_eq_getElem_cons hk, List.drop_eq_getElem_cons hk', ordR]
set_option maxHeartbeats 4000000 in
set_option maxRecDepth 100000 in
theorem cmpf_in (d : Nat) (ih : OrdSaid d) (w : World) (a a' : Option Addr) (c c' : Nat) (I I' : List Tm) (h : RowAt (In w d) w a I) (h' : RowAt (In w d) w a' I') (ho : okR I = true) (ho' : okR I' = true) (hs : tszs I ≤ 1353245080330) (hs' : tszs I' ≤ 1353245080330) :
    Calls Tryz.prog 117 #[.slice a I.length c, .slice a' I'.length c', .func (.func 61) #[] #[]] w fun e w' => e = .returned (.int .i64 (ordR I I')) ∧ Upd [] w w' := by
  have hlen : I.length ≤ 1353245080330 := Nat.le_trans (tszs_len I) hs
  have hlen' : I'.length ≤ 1353245080330 := Nat.le_trans (tszs_len I') hs'
  have HS : Hid (tszs I ≤ 1353245080330) := hs
  have HS' : Hid (tszs I' ≤ 1353245080330) := hs'
  have HA : Hid (RowAt (In w d) w a I) := h
  have HA' : Hid (RowAt (In w d) w a' I') := h'
  have HO : Hid (okR I = true) := ho
  have HO' : Hid (okR I' = true) := ho'
  have IH : Hid (OrdSaid d) := ih
  clear hs hs' h h' ho ho' ih
  have hcall : ∀ args w, (callFunc 61 args).run Tryz.prog w = .ok (.enter 61 args) w := Tryz.call61
  go_enter Tryz.func117, Tryz.ntmps117
  go_wp2
  go_loopw [13] (fun i wr => ∃ k : Nat, k ≤ I.length ∧ k ≤ I'.length ∧ i = .int .i64 k ∧ ordR I I' = ordR (I.drop k) (I'.drop k) ∧ Upd [] w wr) (fun i _ => I.length - (intOf i).toNat)
  case atStart => exact ⟨0, Nat.zero_le _, Nat.zero_le _, rfl, rfl, Upd.refl _ _⟩
  case round =>
    obtain ⟨k, hk, hk', rfl, hr, hU⟩ := hrel
    have HR : Hid (ordR I I' = ordR (I.drop k) (I'.drop k)) := hr
    have HU : Hid (Upd [] w wr) := hU
    have HA2 := HA.out.imp hU (fun cs t h => In.mono hU d cs t h)
    have HB2 := HA'.out.imp hU (fun cs t h => In.mono hU d cs t h)
    clear hr hU
    by_cases hlt : k < I.length
    · rcases HA2 with h0 | ⟨b0, o, rfl, hb0, hc⟩
      · rw [h0] at hlt; simp at hlt
      obtain ⟨cs, hl7, hcell, hin⟩ := hc k hlt
      have hone := hin.one
      obtain ⟨q0, q1, q2, q3, q4, q5, q6, rfl⟩ := list7 hl7
      have HIN : Hid (In wr d [q0, q1, q2, q3, q4, q5, q6] I[k]) := hin
      have xq0 : wr.cell? ⟨b0, o + k * 7, none⟩ = some q0 := hcell 0 (by omega)
      have xq1 : wr.cell? ⟨b0, o + k * 7 + 1, none⟩ = some q1 := hcell 1 (by omega)
      have xq2 : wr.cell? ⟨b0, o + k * 7 + 2, none⟩ = some q2 := hcell 2 (by omega)
      have xq3 : wr.cell? ⟨b0, o + k * 7 + 3, none⟩ = some q3 := hcell 3 (by omega)
      have xq4 : wr.cell? ⟨b0, o + k * 7 + 4, none⟩ = some q4 := hcell 4 (by omega)
      have xq5 : wr.cell? ⟨b0, o + k * 7 + 5, none⟩ = some q5 := hcell 5 (by omega)
      have xq6 : wr.cell? ⟨b0, o + k * 7 + 6, none⟩ = some q6 := hcell 6 (by omega)
      have i1 : (k : Int) < (I.length : Int) := by omega
      have tbz : Tb (wr.alloc (.cells #[.int .u8 0, .bool false, .slice none 0 0, .string ⟨#[]⟩, .int .i64 0, .slice none 0 0, .slice none 0 0] 26)) wr.heap.size #[.int .u8 0, .bool false, .slice none 0 0, .string ⟨#[]⟩, .int .i64 0, .slice none 0 0, .slice none 0 0] := Tb.new _ _ _ rfl
      clear hc hcell hin
      by_cases hlt' : k < I'.length
      · rcases HB2 with h0 | ⟨b1, o', rfl, hb1, hc'⟩
        · rw [h0] at hlt'; simp at hlt'
        obtain ⟨cs', hl7', hcell', hin'⟩ := hc' k hlt'
        have hone' := hin'.one
        obtain ⟨p0, p1, p2, p3, p4, p5, p6, rfl⟩ := list7 hl7'
        have HIN' : Hid (In wr d [p0, p1, p2, p3, p4, p5, p6] I'[k]) := hin'
        have i2 : (k : Int) < (I'.length : Int) := by omega
        clear hc' hin'
        have HC1 : Hid (∀ w1, Upd [] wr w1 → ∀ j, j < 7 → w1.cell? ⟨b1, o' + (k * 7 + j), none⟩ = [p0, p1, p2, p3, p4, p5, p6][j]?) := fun w1 hu j hj => (hu.cell (p := ⟨b1, o' + (k * 7 + j), none⟩) hb1 (by simp)).trans (hcell' j hj)
        go_wp2_with (first
          | (refine store_T _ rfl _ _ rfl _ #[q0, q1, q2, q3, q4, q5, q6] _ rfl rfl tbz rfl rfl hone ?_; intro w1 hT1 hU1; have HW1 : Hid (Upd [] wr w1) := ((Upd.refl [] wr).alloc _).then hU1 (by simp); clear hU1
             have xp0 : w1.cell? ⟨b1, o' + k * 7, none⟩ = some p0 := HC1.out w1 HW1.out 0 (by omega); have xp1 : w1.cell? ⟨b1, o' + k * 7 + 1, none⟩ = some p1 := HC1.out w1 HW1.out 1 (by omega); have xp2 : w1.cell? ⟨b1, o' + k * 7 + 2, none⟩ = some p2 := HC1.out w1 HW1.out 2 (by omega); have xp3 : w1.cell? ⟨b1, o' + k * 7 + 3, none⟩ = some p3 := HC1.out w1 HW1.out 3 (by omega); have xp4 : w1.cell? ⟨b1, o' + k * 7 + 4, none⟩ = some p4 := HC1.out w1 HW1.out 4 (by omega); have xp5 : w1.cell? ⟨b1, o' + k * 7 + 5, none⟩ = some p5 := HC1.out w1 HW1.out 5 (by omega); have xp6 : w1.cell? ⟨b1, o' + k * 7 + 6, none⟩ = some p6 := HC1.out w1 HW1.out 6 (by omega)
             have tby : Tb (w1.alloc (.cells #[.int .u8 0, .bool false, .slice none 0 0, .string ⟨#[]⟩, .int .i64 0, .slice none 0 0, .slice none 0 0] 26)) w1.heap.size #[.int .u8 0, .bool false, .slice none 0 0, .string ⟨#[]⟩, .int .i64 0, .slice none 0 0, .slice none 0 0] := Tb.new _ _ _ rfl)
          | (refine store_T _ rfl _ _ rfl _ #[p0, p1, p2, p3, p4, p5, p6] _ rfl rfl tby rfl rfl hone' ?_; intro w2 hT2 hU2; have HW2 : Hid (Upd [] w1 w2) := ((Upd.refl [] w1).alloc _).then hU2 (by simp); clear hU2; have hT3 := hT1.mono HW2.out (by simp))
          | (refine load_T _ rfl _ rfl _ _ rfl hT3 rfl ?_)
          | (refine load_T _ rfl _ rfl _ _ rfl hT2 rfl ?_))
        have hw2 : Upd [] wr w2 := HW1.out.trans HW2.out
        have HO1 := okR_get I k hlt HO.out
        have HO2 := okR_get I' k hlt' HO'.out
        refine (IH.out w2 [q0, q1, q2, q3, q4, q5, q6] [p0, p1, p2, p3, p4, p5, p6] I[k] I'[k] (In.mono hw2 _ _ _ HIN.out) (In.mono hw2 _ _ _ HIN'.out) HO1 HO2 (Nat.le_trans (tszs_get I k hlt) HS.out) (Nat.le_trans (tszs_get I' k hlt') HS'.out)).mono ?_
        rintro e w3 ⟨rfl, hU3⟩
        have hU4 : Upd [] w w3 := (HU.out.trans hw2).trans hU3
        have HN : Hid _ := ordR_next I I' k hlt hlt'
        obtain ⟨z, hz⟩ : ∃ z, z = ordT I[k] I'[k] := ⟨_, rfl⟩
        rw [← hz] at HN ⊢
        clear hz HO1 HO2 hw2 hU3 xq0 xq1 xq2 xq3 xq4 xq5 xq6 xp0 xp1 xp2 xp3 xp4 xp5 xp6 tbz tby hT1 hT2 hT3
        by_cases hz0 : z = 0
        · have hzb : (z != 0) = false := by simp [hz0]
          have HZ : Hid (z = 0) := hz0
          clear hz0
          go_wp2
          go_roundw
          case rel => exact ⟨k + 1, by omega, by omega, by go_num, by rw [HR.out, HN.out, HZ.out, th_z], hU4⟩
          case measure => simp [intOf]; omega
        · have hzb : (z != 0) = true := by simp [hz0]
          have HZ : Hid (¬ z = 0) := hz0
          clear hz0
          go_wp2
          go_ret
          rw [HR.out, HN.out]
          unfold th
          rw [if_neg HZ.out]
          exact ⟨rfl, hU4⟩
      · have i2 : decide ((k : Int) ≥ (I'.length : Int)) = true := by simp; omega
        have i3 : (I'.length : Int) ≤ (k : Int) := by omega
        have HE : Hid (ordR I I' = 1) := by show ordR I I' = 1; rw [HR.out]; exact ordR_more _ _ (by rw [List.length_drop]; omega) (List.drop_of_length_le (by omega))
        go_wp2_with (refine store_T _ rfl _ _ rfl _ #[q0, q1, q2, q3, q4, q5, q6] _ rfl rfl tbz rfl rfl hone ?_; intro w1 hT1 hU1)
        go_ret
        rw [HE.out]
        exact ⟨rfl, (HU.out.alloc _).then hU1 (by simp; have := HU.out.size; omega)⟩
    · have hd : decide ((k : Int) < (I.length : Int)) = false := by simp; omega
      by_cases hl : I.length < I'.length
      · have hl2 : (I.length : Int) < (I'.length : Int) := by omega
        have HE : Hid (ordR I I' = -1) := by show ordR I I' = -1; rw [HR.out]; exact ordR_less _ _ (List.drop_of_length_le (by omega)) (by rw [List.length_drop]; omega)
        go_wp2
        go_ret
        rw [HE.out]
        exact ⟨rfl, HU.out⟩
      · have hl2 : decide ((I.length : Int) < (I'.length : Int)) = false := by simp; omega
        have HE : Hid (ordR I I' = 0) := by show ordR I I' = 0; rw [HR.out]; exact ordR_end _ _ (List.drop_of_length_le (by omega)) (List.drop_of_length_le (by omega))
        go_wp2
        go_ret
        rw [HE.out]
        exact ⟨rfl, HU.out⟩
end Go.Proofs.YtalhbbabijlngaaGreatDoor
namespace Go.Proofs.YtalhbbabijlngaaGreatDoor
open Go.RowKit
structure Ext (w : World) where
 W : World
 h : Upd [] w W
theorem Ext.call {f : FuncId} {args : Array Value} {w : World} {v : Value} {n : Ext w} (h : Calls Tryz.prog f args n.W fun e w' => e = .returned v ∧ Upd [] n.W w') :
  Calls Tryz.prog f args n.W fun e w'' => e = .returned v ∧ ∃ m : Ext w, w'' = m.W :=
 h.mono fun _ w'' ⟨he, hu⟩ => ⟨he, ⟨w'', n.h.trans hu⟩, rfl⟩
theorem Ext.cell {w : World} (n : Ext w) {p : Addr} {v : Value} (h : w.cell? p = some v) : n.W.cell? p = some v :=
 (n.h.cell (World.block_lt_of_cell? _ _ h) (by simp)).trans h
theorem wp_region_ext {id : Nat} {Q : Exit → Act → World → Prop} {a : Act} {w : World} {l : List Oper} (hm : Tryz.prog.follows .mixedOrders = true) (hB : Region.lexB .any l.toArray = true)
  (h : wpQuiet Tryz.prog l.toArray (fun w' => ∃ n : Ext w, w' = n.W) (fun a' => ∀ w', (∃ n : Ext w, w' = n.W) → Q .normal a' w') l a) : (Code.region id l.toArray true).wp Tryz.prog Q a w :=
 wp_region_quiet (C := fun w' => ∃ n : Ext w, w' = n.W) hm hB ⟨⟨w.drew, (Upd.refl [] w).drew⟩, rfl⟩ (by simpa using h)
end Go.Proofs.YtalhbbabijlngaaGreatDoor
namespace Go.Proofs.YtalhbbabijlngaaGreatDoor
open Go.RowKit
def nilT : Tm := .mk 7 0 false [] ⟨#[]⟩ [] []
def nilC : List Value := [.int .u8 7, .bool false, .slice none 0 0, .string ⟨#[]⟩, .int .i64 0, .slice none 0 0, .slice none 0 0]
theorem nil_in (w : World) (d : Nat) : In w (d + 1) nilC nilT := ⟨none, none, none, 0, 0, 0, rfl, At.nil _ _, Dig.nil, Or.inl rfl, Or.inl rfl⟩
def TailP (w : World) (d : Nat) (cs : List Value) (T : List Tm) (X : List Value) : Prop := X.length = 7 ∧ X.toArray.all (·.oneCell') = true ∧ (0 < d → In w d X (T.headD nilT)) ∧ ∀ W, Upd [] w W → Calls Tryz.prog 123 #[.agg cs.toArray] W fun e w' => e = .returned (.agg X.toArray) ∧ Upd [] W w'
set_option maxHeartbeats 4000000 in
set_option maxRecDepth 100000 in
theorem tailOf_nil (k num : Int) (neg : Bool) (a ai at' : Option Addr) (n c ni ci ct : Nat) (s : ByteArray) (w : World) :
  Calls Tryz.prog 123 #[.agg #[.int .u8 k, .bool neg, .slice a n c, .string s, .int .i64 num, .slice ai ni ci, .slice at' 0 ct]] w fun e w' => e = .returned (.agg nilC.toArray) ∧ Upd [] w w' := by
 have tbz : Tb ((w.alloc (.cells #[.int .u8 k, .bool neg, .slice a n c, .string s, .int .i64 num, .slice ai ni ci, .slice at' 0 ct] 26)).alloc (.cells #[.int .u8 0, .bool false, .slice none 0 0, .string ⟨#[]⟩, .int .i64 0, .slice none 0 0, .slice none 0 0] 26)) (w.heap.size + 1) #[.int .u8 0, .bool false, .slice none 0 0, .string ⟨#[]⟩, .int .i64 0, .slice none 0 0, .slice none 0 0] := Tb.new _ _ _ (by simp)
 have HU0 : Hid (Upd [] w ((w.alloc (.cells #[.int .u8 k, .bool neg, .slice a n c, .string s, .int .i64 num, .slice ai ni ci, .slice at' 0 ct] 26)).alloc (.cells #[.int .u8 0, .bool false, .slice none 0 0, .string ⟨#[]⟩, .int .i64 0, .slice none 0 0, .slice none 0 0] 26))) := ((Upd.refl [] w).alloc _).alloc _
 go_enter Tryz.func123, Tryz.ntmps123
 go_wp2_with (refine store_V _ rfl _ _ rfl _ _ _ _ _ _ _ _ _ _ _ _ _ _ _ rfl rfl tbz rfl ?_; intro w1 hT1 hU1)
 exact ret_T Tryz.results123 rfl _ _ rfl hT1 rfl ⟨rfl, HU0.out.then hU1 (by simp)⟩
set_option maxHeartbeats 4000000 in
set_option maxRecDepth 100000 in
theorem tailOf_one (k num : Int) (neg : Bool) (a ai : Option Addr) (n c ni ci m ct b o : Nat) (s : ByteArray) (w : World) (q0 q1 q2 q3 q4 q5 q6 : Value) (hm : 0 < m) (hm2 : m ≤ 1353245080330) (hb : b < w.heap.size) (hone : #[q0, q1, q2, q3, q4, q5, q6].all (·.oneCell') = true) (hc : ∀ j, j < 7 → w.cell? ⟨b, o + j, none⟩ = [q0, q1, q2, q3, q4, q5, q6][j]?) :
  Calls Tryz.prog 123 #[.agg #[.int .u8 k, .bool neg, .slice a n c, .string s, .int .i64 num, .slice ai ni ci, .slice (some ⟨b, o, none⟩) m ct]] w fun e w' => e = .returned (.agg #[q0, q1, q2, q3, q4, q5, q6]) ∧ Upd [] w w' := by
 have hU0 : Upd [] w ((w.alloc (.cells #[.int .u8 k, .bool neg, .slice a n c, .string s, .int .i64 num, .slice ai ni ci, .slice (some ⟨b, o, none⟩) m ct] 26)).alloc (.cells #[.int .u8 0, .bool false, .slice none 0 0, .string ⟨#[]⟩, .int .i64 0, .slice none 0 0, .slice none 0 0] 26)) := ((Upd.refl [] w).alloc _).alloc _
 have tbz : Tb ((w.alloc (.cells #[.int .u8 k, .bool neg, .slice a n c, .string s, .int .i64 num, .slice ai ni ci, .slice (some ⟨b, o, none⟩) m ct] 26)).alloc (.cells #[.int .u8 0, .bool false, .slice none 0 0, .string ⟨#[]⟩, .int .i64 0, .slice none 0 0, .slice none 0 0] 26)) (w.heap.size + 1) #[.int .u8 0, .bool false, .slice none 0 0, .string ⟨#[]⟩, .int .i64 0, .slice none 0 0, .slice none 0 0] := Tb.new _ _ _ (by simp)
 have HU0 : Hid (Upd [] w _) := hU0
 have cc : ∀ j, j < 7 → ((w.alloc (.cells #[.int .u8 k, .bool neg, .slice a n c, .string s, .int .i64 num, .slice ai ni ci, .slice (some ⟨b, o, none⟩) m ct] 26)).alloc (.cells #[.int .u8 0, .bool false, .slice none 0 0, .string ⟨#[]⟩, .int .i64 0, .slice none 0 0, .slice none 0 0] 26)).cell? ⟨b, o + j, none⟩ = [q0, q1, q2, q3, q4, q5, q6][j]? := fun j hj => (hU0.cell (p := ⟨b, o + j, none⟩) hb (by simp)).trans (hc j hj)
 have x0 : ((w.alloc (.cells #[.int .u8 k, .bool neg, .slice a n c, .string s, .int .i64 num, .slice ai ni ci, .slice (some ⟨b, o, none⟩) m ct] 26)).alloc (.cells #[.int .u8 0, .bool false, .slice none 0 0, .string ⟨#[]⟩, .int .i64 0, .slice none 0 0, .slice none 0 0] 26)).cell? ⟨b, o, none⟩ = some q0 := cc 0 (by omega)
 have x1 : ((w.alloc (.cells #[.int .u8 k, .bool neg, .slice a n c, .string s, .int .i64 num, .slice ai ni ci, .slice (some ⟨b, o, none⟩) m ct] 26)).alloc (.cells #[.int .u8 0, .bool false, .slice none 0 0, .string ⟨#[]⟩, .int .i64 0, .slice none 0 0, .slice none 0 0] 26)).cell? ⟨b, o + 1, none⟩ = some q1 := cc 1 (by omega)
 have x2 : ((w.alloc (.cells #[.int .u8 k, .bool neg, .slice a n c, .string s, .int .i64 num, .slice ai ni ci, .slice (some ⟨b, o, none⟩) m ct] 26)).alloc (.cells #[.int .u8 0, .bool false, .slice none 0 0, .string ⟨#[]⟩, .int .i64 0, .slice none 0 0, .slice none 0 0] 26)).cell? ⟨b, o + 2, none⟩ = some q2 := cc 2 (by omega)
 have x3 : ((w.alloc (.cells #[.int .u8 k, .bool neg, .slice a n c, .string s, .int .i64 num, .slice ai ni ci, .slice (some ⟨b, o, none⟩) m ct] 26)).alloc (.cells #[.int .u8 0, .bool false, .slice none 0 0, .string ⟨#[]⟩, .int .i64 0, .slice none 0 0, .slice none 0 0] 26)).cell? ⟨b, o + 3, none⟩ = some q3 := cc 3 (by omega)
 have x4 : ((w.alloc (.cells #[.int .u8 k, .bool neg, .slice a n c, .string s, .int .i64 num, .slice ai ni ci, .slice (some ⟨b, o, none⟩) m ct] 26)).alloc (.cells #[.int .u8 0, .bool false, .slice none 0 0, .string ⟨#[]⟩, .int .i64 0, .slice none 0 0, .slice none 0 0] 26)).cell? ⟨b, o + 4, none⟩ = some q4 := cc 4 (by omega)
 have x5 : ((w.alloc (.cells #[.int .u8 k, .bool neg, .slice a n c, .string s, .int .i64 num, .slice ai ni ci, .slice (some ⟨b, o, none⟩) m ct] 26)).alloc (.cells #[.int .u8 0, .bool false, .slice none 0 0, .string ⟨#[]⟩, .int .i64 0, .slice none 0 0, .slice none 0 0] 26)).cell? ⟨b, o + 5, none⟩ = some q5 := cc 5 (by omega)
 have x6 : ((w.alloc (.cells #[.int .u8 k, .bool neg, .slice a n c, .string s, .int .i64 num, .slice ai ni ci, .slice (some ⟨b, o, none⟩) m ct] 26)).alloc (.cells #[.int .u8 0, .bool false, .slice none 0 0, .string ⟨#[]⟩, .int .i64 0, .slice none 0 0, .slice none 0 0] 26)).cell? ⟨b, o + 6, none⟩ = some q6 := cc 6 (by omega)
 have i0 : ((m : Int) == 0) = false := by simp; omega
 have i1 : (0 : Int) < (m : Int) := by omega
 clear cc hc hU0
 go_enter Tryz.func123, Tryz.ntmps123
 go_wp2_with (refine store_T _ rfl _ _ rfl _ #[q0, q1, q2, q3, q4, q5, q6] _ rfl rfl tbz rfl rfl hone ?_; intro w1 hT1 hU1)
 exact ret_T Tryz.results123 rfl _ _ rfl hT1 rfl ⟨rfl, HU0.out.then hU1 (by simp)⟩
theorem tailOf_in (k num : Int) (neg : Bool) (a ai at' : Option Addr) (n c ni ci ct d : Nat) (s : ByteArray) (T : List Tm) (w : World) (h : RowAt (In w d) w at' T) (hl : T.length ≤ 1353245080330) :
  ∃ X, TailP w d [.int .u8 k, .bool neg, .slice a n c, .string s, .int .i64 num, .slice ai ni ci, .slice at' T.length ct] T X := by
 match T, h, hl with
 | [], _, _ =>
  refine ⟨nilC, rfl, by simp [nilC, Value.oneCell'], fun hd => ?_, fun W hU => tailOf_nil k num neg a ai at' n c ni ci ct s W⟩
  obtain ⟨d, rfl⟩ : ∃ e, d = e + 1 := ⟨d - 1, by omega⟩
  exact nil_in w d
 | t :: r, h, hl =>
  rcases h with h | ⟨b, o, rfl, hb, hc⟩
  ·cases h
  obtain ⟨cs, h7, hcell, hin⟩ := hc 0 (by simp)
  have hone := hin.one
  obtain ⟨q0, q1, q2, q3, q4, q5, q6, rfl⟩ := list7 h7
  refine ⟨_, h7, hone, fun _ => hin, fun W hU => ?_⟩
  refine tailOf_one k num neg a ai n c ni ci _ ct b o s W q0 q1 q2 q3 q4 q5 q6 (by simp) hl (Nat.lt_of_lt_of_le hb hU.size) hone fun j hj => ?_
  refine (hU.cell (p := ⟨b, o + j, none⟩) hb (by simp)).trans ?_
  have := hcell j hj
  rwa [Nat.zero_mul, Nat.zero_add] at this
theorem ordE_tail (T T' : List Tm) (h : T = [] ∨ ∃ u, T = [u] ∧ u.kd ≠ 7) (h' : T' = [] ∨ ∃ u, T' = [u] ∧ u.kd ≠ 7) (hne : ¬ (T = [] ∧ T' = [])) : ordE T T' = ordT (T.headD nilT) (T'.headD nilT) := by
 rcases h with rfl | ⟨u, rfl, hu⟩
 ·rcases h' with rfl | ⟨u', rfl, hu'⟩
  ·exact absurd ⟨rfl, rfl⟩ hne
  ·cases u'
   simp only [Tm.kd] at hu'
   simp only [ordE, List.headD, Tm.kd, nilT]
   rw [ordT, if_neg (fun e => hu' e.symm)]
 ·rcases h' with rfl | ⟨u', rfl, hu'⟩
  ·cases u
   simp only [Tm.kd] at hu
   simp only [ordE, List.headD, Tm.kd, nilT]
   rw [ordT, if_neg hu]
  ·rfl
theorem head_ok (T : List Tm) (h : okR T = true) : okT' (T.headD nilT) = true := by
 cases T with
 | nil => decide +kernel
 | cons t r => rw [okR, Bool.and_eq_true] at h; exact h.1
theorem head_sz (T : List Tm) (h : tszs T ≤ 1353245080330) : tsz (T.headD nilT) ≤ 1353245080330 := by
 cases T with
 | nil => simp [nilT, tsz, tszs]
 | cons t r => simp only [tszs] at h; simp only [List.headD]; omega
theorem row_pos {w : World} {d : Nat} {a : Option Addr} {T : List Tm} (h : RowAt (In w d) w a T) (hne : T ≠ []) : 0 < d := by
 rcases h with h | ⟨b, o, _, _, hc⟩
 ·exact absurd h hne
 ·obtain ⟨cs, _, _, hin⟩ := hc 0 (by cases T with | nil => exact absurd rfl hne | cons t r => simp)
  cases d with
  | zero => exact hin.elim
  | succ d => omega
set_option maxHeartbeats 8000000 in
set_option maxRecDepth 100000 in
theorem orderLists_in (d : Nat) (ih : OrdSaid d) (num0 : Int) (neg0 : Bool) (a0 ai0 at0 : Option Addr) (L0 : List Nat) (c0 ci0 ct0 : Nat) (s0 : ByteArray) (I0 T0 : List Tm) (num1 : Int) (neg1 : Bool) (a1 ai1 at1 : Option Addr) (L1 : List Nat) (c1 ci1 ct1 : Nat) (s1 : ByteArray) (I1 T1 : List Tm) (w : World) (hI0 : RowAt (In w d) w ai0 I0) (hT0 : RowAt (In w d) w at0 T0) (hI1 : RowAt (In w d) w ai1 I1) (hT1 : RowAt (In w d) w at1 T1)
  (oI0 : okR I0 = true) (oI1 : okR I1 = true) (oT0 : okR T0 = true) (oT1 : okR T1 = true) (t0 : T0 = [] ∨ ∃ u, T0 = [u] ∧ u.kd ≠ 7) (t1 : T1 = [] ∨ ∃ u, T1 = [u] ∧ u.kd ≠ 7)
  (zI0 : tszs I0 ≤ 1353245080330) (zI1 : tszs I1 ≤ 1353245080330) (zT0 : tszs T0 ≤ 1353245080330) (zT1 : tszs T1 ≤ 1353245080330) :
  Calls Tryz.prog 115 #[.agg #[.int .u8 7, .bool neg0, .slice a0 L0.length c0, .string s0, .int .i64 num0, .slice ai0 I0.length ci0, .slice at0 T0.length ct0], .agg #[.int .u8 7, .bool neg1, .slice a1 L1.length c1, .string s1, .int .i64 num1, .slice ai1 I1.length ci1, .slice at1 T1.length ct1]] w fun e w' => e = .returned (.int .i64 (th (ordR I0 I1) (ordE T0 T1))) ∧ Upd [] w w' := by
 have hl0 : T0.length ≤ 1353245080330 := Nat.le_trans (tszs_len T0) zT0
 have hl1 : T1.length ≤ 1353245080330 := Nat.le_trans (tszs_len T1) zT1
 have hl2 : I0.length ≤ 1353245080330 := Nat.le_trans (tszs_len I0) zI0
 have hl3 : I1.length ≤ 1353245080330 := Nat.le_trans (tszs_len I1) zI1
 have hU0 : Upd [] w ((w.alloc (.cells #[.int .u8 7, .bool neg0, .slice a0 L0.length c0, .string s0, .int .i64 num0, .slice ai0 I0.length ci0, .slice at0 T0.length ct0] 26)).alloc (.cells #[.int .u8 7, .bool neg1, .slice a1 L1.length c1, .string s1, .int .i64 num1, .slice ai1 I1.length ci1, .slice at1 T1.length ct1] 26)) := ((Upd.refl [] w).alloc _).alloc _
 have tb0 : Tb ((w.alloc (.cells #[.int .u8 7, .bool neg0, .slice a0 L0.length c0, .string s0, .int .i64 num0, .slice ai0 I0.length ci0, .slice at0 T0.length ct0] 26)).alloc (.cells #[.int .u8 7, .bool neg1, .slice a1 L1.length c1, .string s1, .int .i64 num1, .slice ai1 I1.length ci1, .slice at1 T1.length ct1] 26)) w.heap.size #[.int .u8 7, .bool neg0, .slice a0 L0.length c0, .string s0, .int .i64 num0, .slice ai0 I0.length ci0, .slice at0 T0.length ct0] := (Tb.new _ _ _ rfl).old _
 have tb1 : Tb ((w.alloc (.cells #[.int .u8 7, .bool neg0, .slice a0 L0.length c0, .string s0, .int .i64 num0, .slice ai0 I0.length ci0, .slice at0 T0.length ct0] 26)).alloc (.cells #[.int .u8 7, .bool neg1, .slice a1 L1.length c1, .string s1, .int .i64 num1, .slice ai1 I1.length ci1, .slice at1 T1.length ct1] 26)) (w.heap.size + 1) #[.int .u8 7, .bool neg1, .slice a1 L1.length c1, .string s1, .int .i64 num1, .slice ai1 I1.length ci1, .slice at1 T1.length ct1] := Tb.new _ _ _ (by simp)
 have HCF : Hid (∀ W, Upd [] w W → Calls Tryz.prog 117 #[.slice ai0 I0.length ci0, .slice ai1 I1.length ci1, .func (.func 61) #[] #[]] W fun e w' => e = .returned (.int .i64 (ordR I0 I1)) ∧ Upd [] W w') := fun W hU =>
  cmpf_in d ih W ai0 ai1 ci0 ci1 I0 I1 (hI0.imp hU (fun cs t h => In.mono hU d cs t h)) (hI1.imp hU (fun cs t h => In.mono hU d cs t h)) oI0 oI1 zI0 zI1
 obtain ⟨X, x7, xone, xin, xcall⟩ := tailOf_in 7 num0 neg0 a0 ai0 at0 L0.length c0 I0.length ci0 ct0 d s0 T0 w hT0 hl0
 obtain ⟨Y, y7, yone, yin, ycall⟩ := tailOf_in 7 num1 neg1 a1 ai1 at1 L1.length c1 I1.length ci1 ct1 d s1 T1 w hT1 hl1
 have HOR : Hid (¬ (T0 = [] ∧ T1 = []) → ordE T0 T1 = ordT (T0.headD nilT) (T1.headD nilT) ∧ ∀ W, Upd [] w W → Calls Tryz.prog 61 #[.agg X.toArray, .agg Y.toArray] W fun e w' => e = .returned (.int .i64 (ordT (T0.headD nilT) (T1.headD nilT))) ∧ Upd [] W w') := fun hne => by
  refine ⟨ordE_tail T0 T1 t0 t1 hne, fun W hU => ?_⟩
  have hd : 0 < d := by
   by_cases h0 : T0 = []
   ·exact row_pos hT1 (fun h1 => hne ⟨h0, h1⟩)
   ·exact row_pos hT0 h0
  exact ih W X Y _ _ (In.mono hU _ _ _ (xin hd)) (In.mono hU _ _ _ (yin hd)) (head_ok T0 oT0) (head_ok T1 oT1) (head_sz T0 zT0) (head_sz T1 zT1)
 have HXC : Hid (∀ W, Upd [] w W → Calls Tryz.prog 123 #[.agg #[.int .u8 7, .bool neg0, .slice a0 L0.length c0, .string s0, .int .i64 num0, .slice ai0 I0.length ci0, .slice at0 T0.length ct0]] W fun e w' => e = .returned (.agg X.toArray) ∧ Upd [] W w') := xcall
 have HYC : Hid (∀ W, Upd [] w W → Calls Tryz.prog 123 #[.agg #[.int .u8 7, .bool neg1, .slice a1 L1.length c1, .string s1, .int .i64 num1, .slice ai1 I1.length ci1, .slice at1 T1.length ct1]] W fun e w' => e = .returned (.agg Y.toArray) ∧ Upd [] W w') := ycall
 have HT : Hid (T0.length = 0 ↔ T0 = []) := List.length_eq_zero_iff
 have HT' : Hid (T1.length = 0 ↔ T1 = []) := List.length_eq_zero_iff
 obtain ⟨r, hr⟩ : ∃ r, r = ordR I0 I1 := ⟨_, rfl⟩
 obtain ⟨g, hg⟩ : ∃ g, g = ordE T0 T1 := ⟨_, rfl⟩
 have HGE : Hid (T0 = [] ∧ T1 = [] → g = 0) := fun h => by rw [hg, h.1, h.2]; rfl
 rw [← hr] at HCF ⊢
 rw [← hg] at HOR ⊢
 obtain ⟨W, hW⟩ : ∃ W, W = ((w.alloc (.cells #[.int .u8 7, .bool neg0, .slice a0 L0.length c0, .string s0, .int .i64 num0, .slice ai0 I0.length ci0, .slice at0 T0.length ct0] 26)).alloc (.cells #[.int .u8 7, .bool neg1, .slice a1 L1.length c1, .string s1, .int .i64 num1, .slice ai1 I1.length ci1, .slice at1 T1.length ct1] 26)) := ⟨_, rfl⟩
 have HU0 : Hid (Upd [] w _) := hU0
 clear hr hg xcall ycall xin yin ih hI0 hI1 hT0 hT1 oI0 oI1 oT0 oT1 t0 t1 zI0 zI1 zT0 zT1 hU0
 go_enter Tryz.func115, Tryz.ntmps115
 go_wp2_with fail
 rw [← hW] at HU0 tb0 tb1 ⊢
 clear hW
 refine Calls.mono (HCF.out W HU0.out) ?_
 rintro e w1 ⟨rfl, hU1⟩
 have tb2 := tb0.mono hU1 (by simp)
 have tb3 := tb1.mono hU1 (by simp)
 have HU1 : Hid (Upd [] w w1) := HU0.out.trans hU1
 clear hU1 HU0 tb0 tb1 HCF
 by_cases hr0 : r = 0
 ·have hrb : (r != 0) = false := by simp [hr0]
  have HR0 : Hid (r = 0) := hr0
  have x6 : w1.cell? ⟨w.heap.size, 6, none⟩ = some (.slice at0 T0.length ct0) := tb2.cell 6
  have y6 : w1.cell? ⟨w.heap.size + 1, 6, none⟩ = some (.slice at1 T1.length ct1) := tb3.cell 6
  clear hr0
  by_cases hb : T0 = [] ∧ T1 = []
  ·have n0 : ((T0.length : Int) == 0) = true := by rw [hb.1]; rfl
   have n1 : ((T1.length : Int) == 0) = true := by rw [hb.2]; rfl
   have HG0 : Hid (g = 0) := HGE.out hb
   clear hb
   go_wp2
   go_ret
   rw [HR0.out, HG0.out]
   exact ⟨rfl, HU1.out⟩
  ·obtain ⟨hgo, hord⟩ := HOR.out hb
   have HGO : Hid _ := hgo
   have HORD : Hid _ := hord
   have hnot : ((T0.length : Int) == 0) = false ∨ (((T0.length : Int) == 0) = true ∧ ((T1.length : Int) == 0) = false) := by
    by_cases h0 : T0 = []
    ·refine Or.inr ⟨by rw [h0]; rfl, ?_⟩
     have : ¬ T1.length = 0 := fun h1 => hb ⟨h0, HT'.out.1 h1⟩
     exact beq_eq_false_iff_ne.2 (by omega)
    ·have : ¬ T0.length = 0 := fun h1 => h0 (HT.out.1 h1)
     exact Or.inl (beq_eq_false_iff_ne.2 (by omega))
   clear hgo hord HOR HGE hb HT HT'
   have hne : Nonempty (Ext w1) := ⟨⟨w1, Upd.refl [] w1⟩⟩
   have u0 : ∀ n : Ext w1, n.W.cell? ⟨w.heap.size, 0, none⟩ = some (.int .u8 7) := fun n => n.cell (tb2.cell 0)
   have u1 : ∀ n : Ext w1, n.W.cell? ⟨w.heap.size, 1, none⟩ = some (.bool neg0) := fun n => n.cell (tb2.cell 1)
   have u2 : ∀ n : Ext w1, n.W.cell? ⟨w.heap.size, 2, none⟩ = some (.slice a0 L0.length c0) := fun n => n.cell (tb2.cell 2)
   have u3 : ∀ n : Ext w1, n.W.cell? ⟨w.heap.size, 3, none⟩ = some (.string s0) := fun n => n.cell (tb2.cell 3)
   have u4 : ∀ n : Ext w1, n.W.cell? ⟨w.heap.size, 4, none⟩ = some (.int .i64 num0) := fun n => n.cell (tb2.cell 4)
   have u5 : ∀ n : Ext w1, n.W.cell? ⟨w.heap.size, 5, none⟩ = some (.slice ai0 I0.length ci0) := fun n => n.cell (tb2.cell 5)
   have u6 : ∀ n : Ext w1, n.W.cell? ⟨w.heap.size, 6, none⟩ = some (.slice at0 T0.length ct0) := fun n => n.cell (tb2.cell 6)
   have v0 : ∀ n : Ext w1, n.W.cell? ⟨w.heap.size + 1, 0, none⟩ = some (.int .u8 7) := fun n => n.cell (tb3.cell 0)
   have v1 : ∀ n : Ext w1, n.W.cell? ⟨w.heap.size + 1, 1, none⟩ = some (.bool neg1) := fun n => n.cell (tb3.cell 1)
   have v2 : ∀ n : Ext w1, n.W.cell? ⟨w.heap.size + 1, 2, none⟩ = some (.slice a1 L1.length c1) := fun n => n.cell (tb3.cell 2)
   have v3 : ∀ n : Ext w1, n.W.cell? ⟨w.heap.size + 1, 3, none⟩ = some (.string s1) := fun n => n.cell (tb3.cell 3)
   have v4 : ∀ n : Ext w1, n.W.cell? ⟨w.heap.size + 1, 4, none⟩ = some (.int .i64 num1) := fun n => n.cell (tb3.cell 4)
   have v5 : ∀ n : Ext w1, n.W.cell? ⟨w.heap.size + 1, 5, none⟩ = some (.slice ai1 I1.length ci1) := fun n => n.cell (tb3.cell 5)
   have v6 : ∀ n : Ext w1, n.W.cell? ⟨w.heap.size + 1, 6, none⟩ = some (.slice at1 T1.length ct1) := fun n => n.cell (tb3.cell 6)
   have HXN : Hid (∀ n : Ext w1, Calls Tryz.prog 123 #[.agg #[.int .u8 7, .bool neg0, .slice a0 L0.length c0, .string s0, .int .i64 num0, .slice ai0 I0.length ci0, .slice at0 T0.length ct0]] n.W fun e w' => e = .returned (.agg X.toArray) ∧ Upd [] n.W w') := fun n => HXC.out _ (HU1.out.trans n.h)
   have HYN : Hid (∀ n : Ext w1, Calls Tryz.prog 123 #[.agg #[.int .u8 7, .bool neg1, .slice a1 L1.length c1, .string s1, .int .i64 num1, .slice ai1 I1.length ci1, .slice at1 T1.length ct1]] n.W fun e w' => e = .returned (.agg Y.toArray) ∧ Upd [] n.W w') := fun n => HYC.out _ (HU1.out.trans n.h)
   have HZN : Hid (∀ n : Ext w1, Calls Tryz.prog 61 #[.agg X.toArray, .agg Y.toArray] n.W fun e w' => e = .returned (.int .i64 (ordT (T0.headD nilT) (T1.headD nilT))) ∧ Upd [] n.W w') := fun n => HORD.out _ (HU1.out.trans n.h)
   obtain ⟨z, hz⟩ : ∃ z, z = ordT (T0.headD nilT) (T1.headD nilT) := ⟨_, rfl⟩
   obtain ⟨X1, hX1⟩ : ∃ X1, X1 = X.toArray := ⟨_, rfl⟩
   obtain ⟨Y1, hY1⟩ : ∃ Y1, Y1 = Y.toArray := ⟨_, rfl⟩
   rw [← hz] at HZN HGO
   rw [← hX1] at HXN HZN
   rw [← hY1] at HYN HZN
   clear hz hX1 hY1 HXC HYC HORD
   rcases hnot with n0 | ⟨n0, n1⟩
   all_goals
    go_wp2_with fail
    refine wp_region_ext (by kernel_rfl) (by kernel_rfl) ?_
    repeat (go_big_quiet_step (first | (go_at_call_of 123 (Value.slice ai0 I0.length ci0); exact Ext.call (HXN.out _)) | (go_at_call_of 123 (Value.slice ai1 I1.length ci1); exact Ext.call (HYN.out _)) | (go_at_call 61; exact Ext.call (HZN.out _))))
    refine wpQuiet_nil ?_
    intro _ hw'
    obtain ⟨nx, hw''⟩ := hw'
    subst hw''
    go_wp2
    go_ret
    rw [HR0.out, HGO.out]
    exact ⟨by rw [th_z]; rfl, HU1.out.trans nx.h⟩
 ·have hrb : (r != 0) = true := by simp [hr0]
  have HR0 : Hid (¬ r = 0) := hr0
  clear hr0
  go_wp2
  go_ret
  unfold th
  rw [if_neg HR0.out]
  exact ⟨rfl, HU1.out⟩
end Go.Proofs.YtalhbbabijlngaaGreatDoor
namespace Go.Proofs.YtalhbbabijlngaaGreatDoor
open Go.RowKit
theorem okF_int {num : Int} {neg : Bool} {L : List Nat} {s : ByteArray} {ni : Nat} {T : List Tm} (h : okF 1 num neg L s ni T = true) : okL neg L = true ∧ s = ⟨#[]⟩ ∧ num = 0 ∧ ni = 0 ∧ T = [] := by
 unfold okF at h
 rw [if_pos rfl, Bool.and_eq_true, decide_eq_true_eq] at h
 exact ⟨h.1, bz_empty h.2.1, h.2.2.1, h.2.2.2.1, List.eq_nil_of_length_eq_zero h.2.2.2.2⟩
theorem TI.of {w : World} {neg : Bool} {a : Option Addr} {L : List Nat} (h : okL neg L = true) (hd : Dig L) (hA : At w a L) : TI w neg a L (zv neg L) := by
 obtain ⟨h1, h2, h3⟩ := okL_top h
 have top : ∀ x, L.getLast? = some x → x ≠ 0 := fun x hx e => h1 (by rw [hx, e])
 refine ⟨⟨hd, ?_, top⟩, hA, h3, ?_⟩
 ·unfold zv; split <;> omega
 ·by_cases h0 : L = []
  ·rw [h2 h0]; subst h0; rfl
  ·have hp := val_pos_of_top h0 top
   unfold zv
   cases neg <;> simp <;> omega
set_option maxHeartbeats 8000000 in
set_option maxRecDepth 100000 in
theorem Ord_step (d : Nat) (ih : OrdSaid d) : OrdSaid (d + 1) := by
 intro w cs cs' t u h h' ok ok' hs hs'
 obtain ⟨k, num0, neg0, L0, s0, I0, T0⟩ := t
 obtain ⟨k', num1, neg1, L1, s1, I1, T1⟩ := u
 obtain ⟨a0, ai0, at0, c0, ci0, ct0, rfl, hA0, hD0, hI0, hT0⟩ := h
 obtain ⟨a1, ai1, at1, c1, ci1, ct1, rfl, hA1, hD1, hI1, hT1⟩ := h'
 rw [okT', Bool.and_eq_true, Bool.and_eq_true] at ok ok'
 obtain ⟨⟨f0, oI0⟩, oT0⟩ := ok
 obtain ⟨⟨f1, oI1⟩, oT1⟩ := ok'
 simp only [tsz] at hs hs'
 have zI0 : tszs I0 ≤ 1353245080330 := by omega
 have zT0 : tszs T0 ≤ 1353245080330 := by omega
 have zI1 : tszs I1 ≤ 1353245080330 := by omega
 have zT1 : tszs T1 ≤ 1353245080330 := by omega
 have hl2 : I0.length ≤ 1353245080330 := Nat.le_trans (tszs_len I0) zI0
 have hl3 : I1.length ≤ 1353245080330 := Nat.le_trans (tszs_len I1) zI1
 have tl0 := okF_tail2 f0
 have tl1 := okF_tail2 f1
 have hU0 : Upd [] w ((w.alloc (.cells #[.int .u8 k, .bool neg0, .slice a0 L0.length c0, .string s0, .int .i64 num0, .slice ai0 I0.length ci0, .slice at0 T0.length ct0] 26)).alloc (.cells #[.int .u8 k', .bool neg1, .slice a1 L1.length c1, .string s1, .int .i64 num1, .slice ai1 I1.length ci1, .slice at1 T1.length ct1] 26)) := ((Upd.refl [] w).alloc _).alloc _
 have tb0 : Tb ((w.alloc (.cells #[.int .u8 k, .bool neg0, .slice a0 L0.length c0, .string s0, .int .i64 num0, .slice ai0 I0.length ci0, .slice at0 T0.length ct0] 26)).alloc (.cells #[.int .u8 k', .bool neg1, .slice a1 L1.length c1, .string s1, .int .i64 num1, .slice ai1 I1.length ci1, .slice at1 T1.length ct1] 26)) w.heap.size #[.int .u8 k, .bool neg0, .slice a0 L0.length c0, .string s0, .int .i64 num0, .slice ai0 I0.length ci0, .slice at0 T0.length ct0] := (Tb.new _ _ _ rfl).old _
 have tb1 : Tb ((w.alloc (.cells #[.int .u8 k, .bool neg0, .slice a0 L0.length c0, .string s0, .int .i64 num0, .slice ai0 I0.length ci0, .slice at0 T0.length ct0] 26)).alloc (.cells #[.int .u8 k', .bool neg1, .slice a1 L1.length c1, .string s1, .int .i64 num1, .slice ai1 I1.length ci1, .slice at1 T1.length ct1] 26)) (w.heap.size + 1) #[.int .u8 k', .bool neg1, .slice a1 L1.length c1, .string s1, .int .i64 num1, .slice ai1 I1.length ci1, .slice at1 T1.length ct1] := Tb.new _ _ _ (by simp)
 by_cases hk : k = k'
 ·subst hk
  have hkk : (k != k) = false := by simp
  by_cases h1 : k = 1
  ·subst h1
   have e : ordT (.mk 1 num0 neg0 L0 s0 I0 T0) (.mk 1 num1 neg1 L1 s1 I1 T1) = cmpZ (zv neg0 L0) (zv neg1 L1) := by rw [ordT, if_pos rfl, if_pos rfl]
   rw [e]
   obtain ⟨p1, rfl, rfl, p4, rfl⟩ := okF_int f0
   obtain ⟨r1, rfl, rfl, r4, rfl⟩ := okF_int f1
   have p5 := List.eq_nil_of_length_eq_zero p4
   have r5 := List.eq_nil_of_length_eq_zero r4
   subst p5 r5
   have HC : Hid (∀ W, Upd [] w W → _) := fun W hU => Compare_any a0 ai0 at0 a1 ai1 at1 c0 ci0 ct0 c1 ci1 ct1 neg0 neg1 L0 L1 _ _ W (TI.of p1 hD0 (hA0.mono hU)) (TI.of r1 hD1 (hA1.mono hU))
   clear e p1 r1 p4 r4 hA0 hA1 hD0 hD1 hI0 hI1 hT0 hT1 f0 f1 oI0 oT0 oI1 oT1 tl0 tl1 ih hs hs'
   simp only [List.length_nil] at tb0 tb1 hU0
   have HU0 : Hid _ := hU0
   clear hU0
   go_enter Tryz.func61, Tryz.ntmps61
   go_wp2_with (first | (refine load_T _ rfl _ rfl _ _ rfl tb0 rfl ?_) | (refine load_T _ rfl _ rfl _ _ rfl tb1 rfl ?_) | fail)
   refine Calls.mono (HC.out _ HU0.out) ?_
   rintro e w2 ⟨rfl, hU2⟩
   go_wp2
   go_ret
   exact ⟨rfl, HU0.out.trans hU2⟩
  ·have k1 : (k == 1) = false := by simp [h1]
   by_cases h2 : k = 2
   ·subst h2
    have e : ordT (.mk 2 num0 neg0 L0 s0 I0 T0) (.mk 2 num1 neg1 L1 s1 I1 T1) = lexZ (bz s0) (bz s1) := by rw [ordT, if_pos rfl, if_neg (by decide), if_pos rfl]
    rw [e]
    have HC : Hid (∀ W, _) := fun W => cmpS_any s0 s1 W
    have HU0 : Hid _ := hU0
    clear e hU0 hA0 hA1 hD0 hD1 hI0 hI1 hT0 hT1 f0 f1 oI0 oT0 oI1 oT1 tl0 tl1 ih hs hs' k1 h1 hkk
    go_enter Tryz.func61, Tryz.ntmps61
    go_wp2_with (first | (refine load_T _ rfl _ rfl _ _ rfl tb0 rfl ?_) | (refine load_T _ rfl _ rfl _ _ rfl tb1 rfl ?_) | fail)
    refine Calls.mono (HC.out _) ?_
    rintro e w2 ⟨rfl, rfl⟩
    go_wp2
    go_ret
    exact ⟨rfl, HU0.out⟩
   ·have k2 : (k == 2) = false := by simp [h2]
    by_cases h7 : k = 7
    ·subst h7
     have e : ordT (.mk 7 num0 neg0 L0 s0 I0 T0) (.mk 7 num1 neg1 L1 s1 I1 T1) = th (ordR I0 I1) (ordE T0 T1) := by rw [ordT, if_pos rfl, if_neg (by decide), if_neg (by decide), if_pos rfl]
     rw [e]
     have HC : Hid (∀ W, Upd [] w W → _) := fun W hU => orderLists_in d ih num0 neg0 a0 ai0 at0 L0 c0 ci0 ct0 s0 I0 T0 num1 neg1 a1 ai1 at1 L1 c1 ci1 ct1 s1 I1 T1 W (hI0.imp hU (fun cs t h => In.mono hU d cs t h)) (hT0.imp hU (fun cs t h => In.mono hU d cs t h)) (hI1.imp hU (fun cs t h => In.mono hU d cs t h)) (hT1.imp hU (fun cs t h => In.mono hU d cs t h)) oI0 oI1 oT0 oT1 tl0 tl1 zI0 zI1 zT0 zT1
     have HU0 : Hid _ := hU0
     clear e hU0 hA0 hA1 hD0 hD1 hI0 hI1 hT0 hT1 f0 f1 oI0 oT0 oI1 oT1 tl0 tl1 ih hs hs' k1 h1 hkk k2 h2
     go_enter Tryz.func61, Tryz.ntmps61
     go_wp2_with (first | (refine load_T _ rfl _ rfl _ _ rfl tb0 rfl ?_) | (refine load_T _ rfl _ rfl _ _ rfl tb1 rfl ?_) | fail)
     refine Calls.mono (HC.out _ HU0.out) ?_
     rintro e w2 ⟨rfl, hU2⟩
     go_wp2
     go_ret
     exact ⟨rfl, HU0.out.trans hU2⟩
    ·have k7 : (k == 7) = false := by simp [h7]
     have e : ordT (.mk k num0 neg0 L0 s0 I0 T0) (.mk k num1 neg1 L1 s1 I1 T1) = th (cmpZ num0 num1) (th (cmpZ I0.length I1.length) (ordR I0 I1)) := by rw [ordT, if_pos rfl, if_neg h1, if_neg h2, if_neg h7]
     rw [e]
     have HC : Hid (∀ W, Upd [] w W → _) := fun W hU => cmpf_in d ih W ai0 ai1 ci0 ci1 I0 I1 (hI0.imp hU (fun cs t h => In.mono hU d cs t h)) (hI1.imp hU (fun cs t h => In.mono hU d cs t h)) oI0 oI1 zI0 zI1
     have HU0 : Hid _ := hU0
     clear e hU0 hA0 hA1 hD0 hD1 hI0 hI1 hT0 hT1 f0 f1 oI0 oT0 oI1 oT1 tl0 tl1 ih hs hs' h1 h2 h7
     by_cases hn : num0 = num1
     ·subst hn
      have hnn : (num0 != num0) = false := by simp
      by_cases hl : I0.length = I1.length
      ·have hll : ((I0.length : Int) != (I1.length : Int)) = false := by simp; omega
       have HL : Hid (cmpZ (I0.length : Int) (I1.length : Int) = 0) := cmpZ_zero.2 (by omega)
       clear hl
       go_enter Tryz.func61, Tryz.ntmps61
       go_wp2_with fail
       refine Calls.mono (HC.out _ HU0.out) ?_
       rintro e w2 ⟨rfl, hU2⟩
       go_wp2
       go_ret
       rw [cmpZ_self, HL.out, th_z, th_z]
       exact ⟨rfl, HU0.out.trans hU2⟩
      ·have hll : ((I0.length : Int) != (I1.length : Int)) = true := by simp; omega
       have HL : Hid (¬ cmpZ (I0.length : Int) (I1.length : Int) = 0) := fun e => hl (by have := cmpZ_zero.1 e; omega)
       have HCI : Hid (∀ W, _) := fun W => cmpI_any (I0.length : Int) (I1.length : Int) W
       clear hl
       go_enter Tryz.func61, Tryz.ntmps61
       go_wp2_with fail
       refine Calls.mono (HCI.out _) ?_
       rintro e w2 ⟨rfl, rfl⟩
       go_wp2
       go_ret
       rw [cmpZ_self, th_z]
       unfold th
       rw [if_neg HL.out]
       exact ⟨rfl, HU0.out⟩
     ·have hnn : (num0 != num1) = true := by simp [hn]
      have HL : Hid (¬ cmpZ num0 num1 = 0) := fun e => hn (cmpZ_zero.1 e)
      have HCI : Hid (∀ W, _) := fun W => cmpI_any num0 num1 W
      clear hn
      go_enter Tryz.func61, Tryz.ntmps61
      go_wp2_with fail
      refine Calls.mono (HCI.out _) ?_
      rintro e w2 ⟨rfl, rfl⟩
      go_wp2
      go_ret
      unfold th
      rw [if_neg HL.out]
      exact ⟨rfl, HU0.out⟩
 ·have hkk : (k != k') = true := by simp [hk]
  have e : ordT (.mk k num0 neg0 L0 s0 I0 T0) (.mk k' num1 neg1 L1 s1 I1 T1) = cmpZ k k' := by rw [ordT, if_neg hk]
  rw [e]
  have HC : Hid (∀ W, _) := fun W => cmpK_any k k' W
  have HU0 : Hid _ := hU0
  clear e hU0 hA0 hA1 hD0 hD1 hI0 hI1 hT0 hT1 f0 f1 oI0 oT0 oI1 oT1 tl0 tl1 ih hs hs' hk
  go_enter Tryz.func61, Tryz.ntmps61
  go_wp2_with fail
  refine Calls.mono (HC.out _) ?_
  rintro e w2 ⟨rfl, rfl⟩
  go_wp2
  go_ret
  exact ⟨rfl, HU0.out⟩
theorem Ord_all (d : Nat) : OrdSaid d := by
 induction d with
 | zero => intro w cs cs' t u h; exact h.elim
 | succ d ih => exact Ord_step d ih
theorem ret_int {k : IntKind} {a b : Int} (h : a = b) : Ending.returned (.int k a) = .returned (.int k b) := by rw [h]
theorem okS_ok {t : Tm} (h : okS t = true) : okT' t = true := by unfold okS at h; rw [Bool.and_eq_true] at h; exact h.1
def cmpS (t u : Tm) : Int := if okS t && okS u then ordT t u else 0
set_option maxHeartbeats 8000000 in
set_option maxRecDepth 100000 in
theorem TCompare_in (d : Nat) (w : World) (cs cs' : List Value) (t u : Tm) (h : In w d cs t) (h' : In w d cs' u) (hs : tsz t ≤ 1353245080330) (hs' : tsz u ≤ 1353245080330) :
  Calls Tryz.prog 20 #[.agg cs.toArray, .agg cs'.toArray] w fun e w' => e = .returned (.int .i64 (cmpS t u)) ∧ Upd [] w w' := by
 have h7 := h.seven
 have h7' := h'.seven
 have HR : Hid (∀ W, Upd [] w W → Calls Tryz.prog 9 #[.agg cs.toArray] W fun e w' => e = .returned (.bool (okS t)) ∧ Upd [] W w') := fun W hu => TRight_in d W cs t (In.mono hu _ _ _ h) hs
 have HR' : Hid (∀ W, Upd [] w W → Calls Tryz.prog 9 #[.agg cs'.toArray] W fun e w' => e = .returned (.bool (okS u)) ∧ Upd [] W w') := fun W hu => TRight_in d W cs' u (In.mono hu _ _ _ h') hs'
 have HO : Hid (okS t = true → okS u = true → ∀ W, Upd [] w W → Calls Tryz.prog 61 #[.agg cs.toArray, .agg cs'.toArray] W fun e w' => e = .returned (.int .i64 (ordT t u)) ∧ Upd [] W w') := fun ht hu W hU =>
  Ord_all d W cs cs' t u (In.mono hU _ _ _ h) (In.mono hU _ _ _ h') (okS_ok ht) (okS_ok hu) hs hs'
 obtain ⟨C, hC⟩ : ∃ C, C = cs.toArray := ⟨_, rfl⟩
 obtain ⟨C', hC'⟩ : ∃ C', C' = cs'.toArray := ⟨_, rfl⟩
 rw [← hC] at h7 HR HO ⊢
 rw [← hC'] at h7' HR' HO ⊢
 clear hC hC' h h' hs hs'
 have hU0 : Upd [] w ((w.alloc (.cells C 26)).alloc (.cells C' 26)) := ((Upd.refl [] w).alloc _).alloc _
 have tb0 : Tb ((w.alloc (.cells C 26)).alloc (.cells C' 26)) w.heap.size C := (Tb.new _ _ _ rfl).old _
 have tb1 : Tb ((w.alloc (.cells C 26)).alloc (.cells C' 26)) (w.heap.size + 1) C' := Tb.new _ _ _ (by simp)
 have HU0 : Hid _ := hU0
 clear hU0
 go_enter Tryz.func20, Tryz.ntmps20
 go_wp2_with (first | (refine load_T _ rfl _ rfl _ _ rfl tb0 h7 ?_) | fail)
 refine Calls.mono (HR.out _ HU0.out) ?_
 rintro e w1 ⟨rfl, hU1⟩
 have tb2 := tb0.mono hU1 (by simp)
 have tb3 := tb1.mono hU1 (by simp)
 have HU1 : Hid (Upd [] w w1) := HU0.out.trans hU1
 clear hU1 tb0 tb1 HU0
 cases ht : okS t with
 | false =>
  go_wp2
  go_ret
  exact ⟨ret_int (by unfold cmpS; rw [ht]; rfl), HU1.out⟩
 | true =>
  go_wp2_with (first | (refine load_G _ _ rfl _ _ rfl tb3 h7' rfl ?_) | fail)
  refine Calls.mono (HR'.out _ HU1.out) ?_
  rintro e w2 ⟨rfl, hU2⟩
  have tb4 := tb2.mono hU2 (by simp)
  have tb5 := tb3.mono hU2 (by simp)
  have HU2 : Hid (Upd [] w w2) := HU1.out.trans hU2
  clear hU2 tb2 tb3 HU1
  cases hu : okS u with
  | false =>
   go_wp2
   go_ret
   exact ⟨ret_int (by unfold cmpS; rw [ht, hu]; rfl), HU2.out⟩
  | true =>
   have HO2 : Hid _ := HO.out ht hu
   go_wp2_with (first | (refine load_T _ rfl _ rfl _ _ rfl tb4 h7 ?_) | (refine load_T _ rfl _ rfl _ _ rfl tb5 h7' ?_) | fail)
   refine Calls.mono (HO2.out _ HU2.out) ?_
   rintro e w3 ⟨rfl, hU3⟩
   go_wp2
   go_ret
   exact ⟨ret_int (by unfold cmpS; rw [ht, hu]; rfl), HU2.out.trans hU3⟩
def samS (t u : Tm) : Bool := okS t && okS u && (ordT t u == 0)
set_option maxHeartbeats 8000000 in
set_option maxRecDepth 100000 in
theorem TSame_in (d : Nat) (w : World) (cs cs' : List Value) (t u : Tm) (h : In w d cs t) (h' : In w d cs' u) (hs : tsz t ≤ 1353245080330) (hs' : tsz u ≤ 1353245080330) :
  Calls Tryz.prog 22 #[.agg cs.toArray, .agg cs'.toArray] w fun e w' => e = .returned (.bool (samS t u)) ∧ Upd [] w w' := by
 have h7 := h.seven
 have h7' := h'.seven
 have HR : Hid (∀ W, Upd [] w W → Calls Tryz.prog 9 #[.agg cs.toArray] W fun e w' => e = .returned (.bool (okS t)) ∧ Upd [] W w') := fun W hu => TRight_in d W cs t (In.mono hu _ _ _ h) hs
 have HR' : Hid (∀ W, Upd [] w W → Calls Tryz.prog 9 #[.agg cs'.toArray] W fun e w' => e = .returned (.bool (okS u)) ∧ Upd [] W w') := fun W hu => TRight_in d W cs' u (In.mono hu _ _ _ h') hs'
 have HO : Hid (okS t = true → okS u = true → ∀ W, Upd [] w W → Calls Tryz.prog 61 #[.agg cs.toArray, .agg cs'.toArray] W fun e w' => e = .returned (.int .i64 (ordT t u)) ∧ Upd [] W w') := fun ht hu W hU =>
  Ord_all d W cs cs' t u (In.mono hU _ _ _ h) (In.mono hU _ _ _ h') (okS_ok ht) (okS_ok hu) hs hs'
 obtain ⟨C, hC⟩ : ∃ C, C = cs.toArray := ⟨_, rfl⟩
 obtain ⟨C', hC'⟩ : ∃ C', C' = cs'.toArray := ⟨_, rfl⟩
 rw [← hC] at h7 HR HO ⊢
 rw [← hC'] at h7' HR' HO ⊢
 clear hC hC' h h' hs hs'
 have hU0 : Upd [] w ((w.alloc (.cells C 26)).alloc (.cells C' 26)) := ((Upd.refl [] w).alloc _).alloc _
 have tb0 : Tb ((w.alloc (.cells C 26)).alloc (.cells C' 26)) w.heap.size C := (Tb.new _ _ _ rfl).old _
 have tb1 : Tb ((w.alloc (.cells C 26)).alloc (.cells C' 26)) (w.heap.size + 1) C' := Tb.new _ _ _ (by simp)
 have HU0 : Hid _ := hU0
 clear hU0
 go_enter Tryz.func22, Tryz.ntmps22
 go_wp2_with (first | (refine load_T _ rfl _ rfl _ _ rfl tb0 h7 ?_) | fail)
 refine Calls.mono (HR.out _ HU0.out) ?_
 rintro e w1 ⟨rfl, hU1⟩
 have tb2 := tb0.mono hU1 (by simp)
 have tb3 := tb1.mono hU1 (by simp)
 have HU1 : Hid (Upd [] w w1) := HU0.out.trans hU1
 clear hU1 tb0 tb1 HU0
 cases ht : okS t with
 | false =>
  go_wp2
  go_ret
  exact ⟨ret_bool (by unfold samS; rw [ht]; rfl), HU1.out⟩
 | true =>
  go_wp2_with (first | (refine load_G _ _ rfl _ _ rfl tb3 h7' rfl ?_) | fail)
  refine Calls.mono (HR'.out _ HU1.out) ?_
  rintro e w2 ⟨rfl, hU2⟩
  have tb4 := tb2.mono hU2 (by simp)
  have tb5 := tb3.mono hU2 (by simp)
  have HU2 : Hid (Upd [] w w2) := HU1.out.trans hU2
  clear hU2 tb2 tb3 HU1
  cases hu : okS u with
  | false =>
   go_wp2
   go_ret
   exact ⟨ret_bool (by unfold samS; rw [ht, hu]; rfl), HU2.out⟩
  | true =>
   have HO2 : Hid _ := HO.out ht hu
   go_wp2_with (first | (refine load_G _ _ rfl _ _ rfl tb4 h7 rfl ?_) | (refine load_G _ _ rfl _ _ rfl tb5 h7' rfl ?_) | fail)
   refine Calls.mono (HO2.out _ HU2.out) ?_
   rintro e w3 ⟨rfl, hU3⟩
   go_wp2
   go_ret
   exact ⟨ret_bool (by unfold samS; rw [ht, hu]; rfl), HU2.out.trans hU3⟩
end Go.Proofs.YtalhbbabijlngaaGreatDoor
