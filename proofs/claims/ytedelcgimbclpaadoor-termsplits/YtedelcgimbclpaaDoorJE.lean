/- cmp.Compare, strings.Compare, by their contracts. -/
import Derived.Test.YtedelcgimbclpaaDoorSizD
import Derived.Lib.Bytealg
import Derived.Laws.Externs
import Derived.Test.YtedelcgimbclpaaDoorBase
import Derived.Deep.QuietTactic
import Derived.BigQuiet

namespace Go.Proofs.YtedelcgimbclpaaDoor
open Go.RowKit

theorem cmpZ_lt {x y : Int} (h : x < y) : cmpZ x y = -1 := by unfold cmpZ; rw [if_pos h]
theorem cmpZ_gt {x y : Int} (h : y < x) : cmpZ x y = 1 := by unfold cmpZ; rw [if_neg (by omega), if_pos h]

set_option maxHeartbeats 400000 in
theorem cmpI_any (x y : Int) (w : World) :
    Calls Tryd.prog 46 #[.int .i64 x, .int .i64 y] w fun e w' => e = .returned (.int .i64 (cmpZ x y)) ∧ w' = w := by
  rcases Int.lt_trichotomy x y with h | h | h
  · rw [cmpZ_lt h]
    go_enter Tryd.func46, Tryd.ntmps46
    go_wp2
    go_ret
    exact ⟨rfl, rfl⟩
  · subst h
    rw [cmpZ_self]
    go_enter Tryd.func46, Tryd.ntmps46
    go_wp2
    go_ret
    exact ⟨rfl, rfl⟩
  · rw [cmpZ_gt h]
    go_enter Tryd.func46, Tryd.ntmps46
    go_wp2
    go_ret
    exact ⟨rfl, rfl⟩

set_option maxHeartbeats 400000 in
theorem cmpK_any (x y : Int) (w : World) :
    Calls Tryd.prog 42 #[.int .u8 x, .int .u8 y] w fun e w' => e = .returned (.int .i64 (cmpZ x y)) ∧ w' = w := by
  rcases Int.lt_trichotomy x y with h | h | h
  · rw [cmpZ_lt h]
    go_enter Tryd.func42, Tryd.ntmps42
    go_wp2
    go_ret
    exact ⟨rfl, rfl⟩
  · subst h
    rw [cmpZ_self]
    go_enter Tryd.func42, Tryd.ntmps42
    go_wp2
    go_ret
    exact ⟨rfl, rfl⟩
  · rw [cmpZ_gt h]
    go_enter Tryd.func42, Tryd.ntmps42
    go_wp2
    go_ret
    exact ⟨rfl, rfl⟩

theorem compare_lex (a b : List UInt8) : Lib.compareBytes a b = lexZ (a.map fun c => (c.toNat : Int)) (b.map fun c => (c.toNat : Int)) := by
  induction a generalizing b with
  | nil => cases b <;> rfl
  | cons x r ih =>
    cases b with
    | nil => rfl
    | cons y s =>
      simp only [Lib.compareBytes, List.map_cons, lexZ]
      by_cases h : x = y
      · subst h
        rw [if_neg (UInt8.lt_irrefl x), if_neg (UInt8.lt_irrefl x), if_pos rfl, ih]
      · have h2 : ¬ (x.toNat : Int) = (y.toNat : Int) := fun e => h (UInt8.toNat_inj.1 (by omega))
        rw [if_neg h2]
        by_cases hl : x < y
        · have := UInt8.lt_iff_toNat_lt.1 hl
          rw [if_pos hl, cmpZ_lt (by omega)]
        · have h3 : ¬ x.toNat < y.toNat := fun e => hl (UInt8.lt_iff_toNat_lt.2 e)
          rw [if_neg hl, if_pos (UInt8.lt_iff_toNat_lt.2 (by omega)), cmpZ_gt (by omega)]

theorem f_cmps : Tryd.prog.funcs[83]? = some Tryd.f83 := by kernel_rfl
theorem n_cmps : (Tryd.f83.name == "runtime.NumGoroutine") = false := by kernel_rfl
theorem b_cmps : Tryd.f83.body.isNone = true := by kernel_rfl
theorem x_cmps : Extern.findNext Tryd.f83 = none := by kernel_rfl
theorem e_cmps : Extern.find Tryd.f83 = some Extern.BytealgCompare.compare := by kernel_rfl
theorem run_cmps (a b : ByteArray) (w : World) : (callFunc 83 #[.string a, .string b]).run Tryd.prog w = .ok (.value (.int .i64 (lexZ (bz a) (bz b)))) w := by
  rw [run_callFunc_extern f_cmps n_cmps b_cmps x_cmps e_cmps, Lib.run_compareString, compare_lex]
  rfl

set_option maxHeartbeats 400000 in
theorem cmpS_any (a b : ByteArray) (w : World) :
    Calls Tryd.prog 44 #[.string a, .string b] w fun e w' => e = .returned (.int .i64 (lexZ (bz a) (bz b))) ∧ w' = w := by
  have hr := run_cmps a b w
  go_enter Tryd.func44, Tryd.ntmps44
  go_wp2
  go_ret
  exact ⟨rfl, rfl⟩

end Go.Proofs.YtedelcgimbclpaaDoor

/- slices.CompareFunc over terms, tailOf: by their contracts. -/
namespace Go.Proofs.YtedelcgimbclpaaDoor
open Go.RowKit

/-- What order is to answer, of depth d. -/
def OrdSaid (d : Nat) : Prop := ∀ (w : World) (cs cs' : List Value) (t u : Tm), In w d cs t → In w d cs' u → okT' t = true → okT' u = true → tsz t ≤ 1353245080330 → tsz u ≤ 1353245080330 →
  Calls Tryd.prog 24 #[.agg cs.toArray, .agg cs'.toArray] w fun e w' => e = .returned (.int .i64 (ordT t u)) ∧ Upd [] w w'

theorem okR_get (I : List Tm) (k : Nat) (hk : k < I.length) (h : okR I = true) : okT' I[k] = true := by
  cases ho : okT' I[k] with
  | true => rfl
  | false => rw [okR_bad I k hk ho] at h; cases h
theorem ordR_more (I I' : List Tm) (h : 0 < I.length) (h' : I' = []) : ordR I I' = 1 := by
  subst h'
  cases I with
  | nil => simp at h
  | cons t r => rfl
theorem ordR_less (I I' : List Tm) (h : I = []) (h' : 0 < I'.length) : ordR I I' = -1 := by
  subst h
  cases I' with
  | nil => simp at h'
  | cons t r => rfl
theorem ordR_end (I I' : List Tm) (h : I = []) (h' : I' = []) : ordR I I' = 0 := by subst h h'; rfl
theorem ordR_next (I I' : List Tm) (k : Nat) (hk : k < I.length) (hk' : k < I'.length) : ordR (I.drop k) (I'.drop k) = th (ordT I[k] I'[k]) (ordR (I.drop (k + 1)) (I'.drop (k + 1))) := by
  rw [List.drop_eq_getElem_cons hk, List.drop_eq_getElem_cons hk', ordR]
theorem ordT_bound (t u : Tm) (h : okT' t = true) (h' : okT' u = true) : -1 ≤ ordT t u ∧ ordT t u ≤ 1 := by
  rcases ordT_range t u h h' with e | e | e <;> rw [e] <;> omega

set_option maxHeartbeats 4000000 in
set_option maxRecDepth 100000 in
theorem cmpf_in (d : Nat) (ih : OrdSaid d) (w : World) (a a' : Option Addr) (c c' : Nat) (I I' : List Tm) (h : RowAt (In w d) w a I) (h' : RowAt (In w d) w a' I') (ho : okR I = true) (ho' : okR I' = true) (hs : tszs I ≤ 1353245080330) (hs' : tszs I' ≤ 1353245080330) :
    Calls Tryd.prog 47 #[.slice a I.length c, .slice a' I'.length c', .func (.func 24) #[] #[]] w fun e w' => e = .returned (.int .i64 (ordR I I')) ∧ Upd [] w w' := by
  have hlen : I.length ≤ 1353245080330 := Nat.le_trans (tszs_len I) hs
  have hlen' : I'.length ≤ 1353245080330 := Nat.le_trans (tszs_len I') hs'
  have HS : Hid (tszs I ≤ 1353245080330) := hs
  have HS' : Hid (tszs I' ≤ 1353245080330) := hs'
  have HA : Hid (RowAt (In w d) w a I) := h
  have HA' : Hid (RowAt (In w d) w a' I') := h'
  have HO : Hid (okR I = true) := ho
  have HO' : Hid (okR I' = true) := ho'
  have IH : Hid (OrdSaid d) := ih
  clear hs hs' h h' ho ho' ih
  have hcall : ∀ args w, (callFunc 24 args).run Tryd.prog w = .ok (.enter 24 args) w := Tryd.call24
  go_enter Tryd.func47, Tryd.ntmps47
  go_wp2
  go_loopw [13] (fun i wr => ∃ k : Nat, k ≤ I.length ∧ k ≤ I'.length ∧ i = .int .i64 k ∧ ordR I I' = ordR (I.drop k) (I'.drop k) ∧ Upd [] w wr) (fun i _ => I.length - (intOf i).toNat)
  case atStart => exact ⟨0, Nat.zero_le _, Nat.zero_le _, rfl, rfl, Upd.refl _ _⟩
  case round =>
    obtain ⟨k, hk, hk', rfl, hr, hU⟩ := hrel
    have HR : Hid (ordR I I' = ordR (I.drop k) (I'.drop k)) := hr
    have HU : Hid (Upd [] w wr) := hU
    have HA2 := HA.out.imp hU (fun cs t h => In.mono hU d cs t h)
    have HB2 := HA'.out.imp hU (fun cs t h => In.mono hU d cs t h)
    clear hr hU
    by_cases hlt : k < I.length
    · rcases HA2 with h0 | ⟨b0, o, rfl, hb0, hc⟩
      · rw [h0] at hlt; simp at hlt
      obtain ⟨cs, hl7, hcell, hin⟩ := hc k hlt
      have hone := hin.one
      obtain ⟨q0, q1, q2, q3, q4, q5, q6, rfl⟩ := list7 hl7
      have HIN : Hid (In wr d [q0, q1, q2, q3, q4, q5, q6] I[k]) := hin
      have xq0 : wr.cell? ⟨b0, o + k * 7, none⟩ = some q0 := hcell 0 (by omega)
      have xq1 : wr.cell? ⟨b0, o + k * 7 + 1, none⟩ = some q1 := hcell 1 (by omega)
      have xq2 : wr.cell? ⟨b0, o + k * 7 + 2, none⟩ = some q2 := hcell 2 (by omega)
      have xq3 : wr.cell? ⟨b0, o + k * 7 + 3, none⟩ = some q3 := hcell 3 (by omega)
      have xq4 : wr.cell? ⟨b0, o + k * 7 + 4, none⟩ = some q4 := hcell 4 (by omega)
      have xq5 : wr.cell? ⟨b0, o + k * 7 + 5, none⟩ = some q5 := hcell 5 (by omega)
      have xq6 : wr.cell? ⟨b0, o + k * 7 + 6, none⟩ = some q6 := hcell 6 (by omega)
      have i1 : (k : Int) < (I.length : Int) := by omega
      have tbz : Tb (wr.alloc (.cells #[.int .u8 0, .bool false, .slice none 0 0, .string ⟨#[]⟩, .int .i64 0, .slice none 0 0, .slice none 0 0] 26)) wr.heap.size #[.int .u8 0, .bool false, .slice none 0 0, .string ⟨#[]⟩, .int .i64 0, .slice none 0 0, .slice none 0 0] := Tb.new _ _ _ rfl
      clear hc hcell hin
      by_cases hlt' : k < I'.length
      · rcases HB2 with h0 | ⟨b1, o', rfl, hb1, hc'⟩
        · rw [h0] at hlt'; simp at hlt'
        obtain ⟨cs', hl7', hcell', hin'⟩ := hc' k hlt'
        have hone' := hin'.one
        obtain ⟨p0, p1, p2, p3, p4, p5, p6, rfl⟩ := list7 hl7'
        have HIN' : Hid (In wr d [p0, p1, p2, p3, p4, p5, p6] I'[k]) := hin'
        have i2 : (k : Int) < (I'.length : Int) := by omega
        clear hc' hin'
        have HC1 : Hid (∀ w1, Upd [] wr w1 → ∀ j, j < 7 → w1.cell? ⟨b1, o' + (k * 7 + j), none⟩ = [p0, p1, p2, p3, p4, p5, p6][j]?) := fun w1 hu j hj => (hu.cell (p := ⟨b1, o' + (k * 7 + j), none⟩) hb1 (by simp)).trans (hcell' j hj)
        go_wp2_with (first
          | (refine store_T _ rfl _ _ rfl _ #[q0, q1, q2, q3, q4, q5, q6] _ rfl rfl tbz rfl rfl hone ?_; intro w1 hT1 hU1; have HW1 : Hid (Upd [] wr w1) := ((Upd.refl [] wr).alloc _).then hU1 (by simp); clear hU1
             have xp0 : w1.cell? ⟨b1, o' + k * 7, none⟩ = some p0 := HC1.out w1 HW1.out 0 (by omega); have xp1 : w1.cell? ⟨b1, o' + k * 7 + 1, none⟩ = some p1 := HC1.out w1 HW1.out 1 (by omega); have xp2 : w1.cell? ⟨b1, o' + k * 7 + 2, none⟩ = some p2 := HC1.out w1 HW1.out 2 (by omega); have xp3 : w1.cell? ⟨b1, o' + k * 7 + 3, none⟩ = some p3 := HC1.out w1 HW1.out 3 (by omega); have xp4 : w1.cell? ⟨b1, o' + k * 7 + 4, none⟩ = some p4 := HC1.out w1 HW1.out 4 (by omega); have xp5 : w1.cell? ⟨b1, o' + k * 7 + 5, none⟩ = some p5 := HC1.out w1 HW1.out 5 (by omega); have xp6 : w1.cell? ⟨b1, o' + k * 7 + 6, none⟩ = some p6 := HC1.out w1 HW1.out 6 (by omega)
             have tby : Tb (w1.alloc (.cells #[.int .u8 0, .bool false, .slice none 0 0, .string ⟨#[]⟩, .int .i64 0, .slice none 0 0, .slice none 0 0] 26)) w1.heap.size #[.int .u8 0, .bool false, .slice none 0 0, .string ⟨#[]⟩, .int .i64 0, .slice none 0 0, .slice none 0 0] := Tb.new _ _ _ rfl)
          | (refine store_T _ rfl _ _ rfl _ #[p0, p1, p2, p3, p4, p5, p6] _ rfl rfl tby rfl rfl hone' ?_; intro w2 hT2 hU2; have HW2 : Hid (Upd [] w1 w2) := ((Upd.refl [] w1).alloc _).then hU2 (by simp); clear hU2; have hT3 := hT1.mono HW2.out (by simp))
          | (refine load_T _ rfl _ rfl _ _ rfl hT3 rfl ?_)
          | (refine load_T _ rfl _ rfl _ _ rfl hT2 rfl ?_))
        have hw2 : Upd [] wr w2 := HW1.out.trans HW2.out
        have HO1 := okR_get I k hlt HO.out
        have HO2 := okR_get I' k hlt' HO'.out
        refine (IH.out w2 [q0, q1, q2, q3, q4, q5, q6] [p0, p1, p2, p3, p4, p5, p6] I[k] I'[k] (In.mono hw2 _ _ _ HIN.out) (In.mono hw2 _ _ _ HIN'.out) HO1 HO2 (Nat.le_trans (tszs_get I k hlt) HS.out) (Nat.le_trans (tszs_get I' k hlt') HS'.out)).mono ?_
        rintro e w3 ⟨rfl, hU3⟩
        have hU4 : Upd [] w w3 := (HU.out.trans hw2).trans hU3
        have HN : Hid _ := ordR_next I I' k hlt hlt'
        obtain ⟨z, hz⟩ : ∃ z, z = ordT I[k] I'[k] := ⟨_, rfl⟩
        rw [← hz] at HN ⊢
        clear hz HO1 HO2 hw2 hU3 xq0 xq1 xq2 xq3 xq4 xq5 xq6 xp0 xp1 xp2 xp3 xp4 xp5 xp6 tbz tby hT1 hT2 hT3
        by_cases hz0 : z = 0
        · have hzb : (z != 0) = false := by simp [hz0]
          have HZ : Hid (z = 0) := hz0
          clear hz0
          go_wp2
          go_roundw
          case rel => exact ⟨k + 1, by omega, by omega, by go_num, by rw [HR.out, HN.out, HZ.out, th_z], hU4⟩
          case measure => simp [intOf]; omega
        · have hzb : (z != 0) = true := by simp [hz0]
          have HZ : Hid (¬ z = 0) := hz0
          clear hz0
          go_wp2
          go_ret
          rw [HR.out, HN.out]
          unfold th
          rw [if_neg HZ.out]
          exact ⟨rfl, hU4⟩
      · have i2 : decide ((k : Int) ≥ (I'.length : Int)) = true := by simp; omega
        have i3 : (I'.length : Int) ≤ (k : Int) := by omega
        have HE : Hid (ordR I I' = 1) := by show ordR I I' = 1; rw [HR.out]; exact ordR_more _ _ (by rw [List.length_drop]; omega) (List.drop_of_length_le (by omega))
        go_wp2_with (refine store_T _ rfl _ _ rfl _ #[q0, q1, q2, q3, q4, q5, q6] _ rfl rfl tbz rfl rfl hone ?_; intro w1 hT1 hU1)
        go_ret
        rw [HE.out]
        exact ⟨rfl, (HU.out.alloc _).then hU1 (by simp; have := HU.out.size; omega)⟩
    · have hd : decide ((k : Int) < (I.length : Int)) = false := by simp; omega
      by_cases hl : I.length < I'.length
      · have hl2 : (I.length : Int) < (I'.length : Int) := by omega
        have HE : Hid (ordR I I' = -1) := by show ordR I I' = -1; rw [HR.out]; exact ordR_less _ _ (List.drop_of_length_le (by omega)) (by rw [List.length_drop]; omega)
        go_wp2
        go_ret
        rw [HE.out]
        exact ⟨rfl, HU.out⟩
      · have hl2 : decide ((I.length : Int) < (I'.length : Int)) = false := by simp; omega
        have HE : Hid (ordR I I' = 0) := by show ordR I I' = 0; rw [HR.out]; exact ordR_end _ _ (List.drop_of_length_le (by omega)) (List.drop_of_length_le (by omega))
        go_wp2
        go_ret
        rw [HE.out]
        exact ⟨rfl, HU.out⟩

end Go.Proofs.YtedelcgimbclpaaDoor

/- A region that draws its order, whose own operations only read, and whose callees may make memory: walked once, in the order of the text. -/
namespace Go.Proofs.YtedelcgimbclpaaDoor
open Go.RowKit

/-- A world in which nothing of an elder one has turned. -/
structure Ext (w : World) where
  W : World
  h : Upd [] w W

theorem Ext.call {f : FuncId} {args : Array Value} {w : World} {v : Value} {n : Ext w} (h : Calls Tryd.prog f args n.W fun e w' => e = .returned v ∧ Upd [] n.W w') :
    Calls Tryd.prog f args n.W fun e w'' => e = .returned v ∧ ∃ m : Ext w, w'' = m.W :=
  h.mono fun _ w'' ⟨he, hu⟩ => ⟨he, ⟨w'', n.h.trans hu⟩, rfl⟩
theorem Ext.cell {w : World} (n : Ext w) {p : Addr} {v : Value} (h : w.cell? p = some v) : n.W.cell? p = some v :=
  (n.h.cell (World.block_lt_of_cell? _ _ h) (by simp)).trans h

theorem wp_region_ext {id : Nat} {Q : Exit → Act → World → Prop} {a : Act} {w : World} {l : List Oper} (hm : Tryd.prog.follows .mixedOrders = true) (hB : Region.lexB .any l.toArray = true)
    (h : wpQuiet Tryd.prog l.toArray (fun w' => ∃ n : Ext w, w' = n.W) (fun a' => ∀ w', (∃ n : Ext w, w' = n.W) → Q .normal a' w') l a) : (Code.region id l.toArray true).wp Tryd.prog Q a w :=
  wp_region_quiet (C := fun w' => ∃ n : Ext w, w' = n.W) hm hB ⟨⟨w.drew, (Upd.refl [] w).drew⟩, rfl⟩ (by simpa using h)

end Go.Proofs.YtedelcgimbclpaaDoor
