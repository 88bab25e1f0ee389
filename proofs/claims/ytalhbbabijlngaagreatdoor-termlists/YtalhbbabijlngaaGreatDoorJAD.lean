/- Size and Right of package term, by their contracts. -/
import Derived.Test.YtalhbbabijlngaaGreatDoorSizB
import Derived.Deep.RegionWith
import Derived.Laws.EntriesVeiled
namespace Go.Proofs.YtalhbbabijlngaaGreatDoor
open Go.RowKit
def IntB (w : World) (b : Nat) (n : Int) : Prop := w.heap[b]? = some (.cells #[.int .i64 n] 3 (0, 0))
theorem IntB.lt {w : World} {b : Nat} {n : Int} (h : IntB w b n) : b < w.heap.size := lt_of_block h
theorem IntB.cell {w : World} {b : Nat} {n : Int} (h : IntB w b n) : w.cell? ⟨b, 0, none⟩ = some (.int .i64 n) := cell_of_row w b 0 _ _ _ h
theorem IntB.free {w : World} {b : Nat} {n : Int} (h : IntB w b n) : w.frozen? ⟨b, 0, none⟩ = false := frozen_of_row w b 0 _ _ h
theorem IntB.set {w : World} {b : Nat} {n : Int} (h : IntB w b n) (m : Int) : IntB (w.setCell ⟨b, 0, none⟩ (.int .i64 m)) b m := by
 unfold IntB
 rw [heap_setCell_same w b 0 _ _ _ h]
 rfl
theorem IntB.mono {S : List Nat} {w w' : World} {b : Nat} {n : Int} (h : IntB w b n) (hu : Upd S w w') (hn : b ∉ S) : IntB w' b n := (hu.block b h.lt hn).trans h
def FunB (w : World) (b : Nat) (v : Value) (T : TypeId) : Prop := w.heap[b]? = some (.cells #[v] T (0, 0))
theorem FunB.lt {w : World} {b : Nat} {v : Value} {T : TypeId} (h : FunB w b v T) : b < w.heap.size := lt_of_block h
theorem FunB.cell {w : World} {b : Nat} {v : Value} {T : TypeId} (h : FunB w b v T) : w.cell? ⟨b, 0, none⟩ = some v := cell_of_row w b 0 _ _ _ h
theorem FunB.mono {S : List Nat} {w w' : World} {b : Nat} {v : Value} {T : TypeId} (h : FunB w b v T) (hu : Upd S w w') (hn : b ∉ S) : FunB w' b v T := (hu.block b h.lt hn).trans h
theorem In.upd {S : List Nat} {w w' : World} (hu : Upd S w w') (hS : ∀ b ∈ S, ∃ n, IntB w b n) : ∀ (d : Nat) (cs : List Value) (t : Tm), In w d cs t → In w' d cs t := by
 intro d
 induction d with
 | zero => intro cs t h; exact h.elim
 | succ d ih =>
  intro cs t h
  cases t with
  | mk k num neg L s I T =>
   obtain ⟨a, ai, at', c, ci, ct, rfl, h1, h2, h3, h4⟩ := h
   have row : ∀ (a : Option Addr) (I : List Tm), RowAt (In w d) w a I → RowAt (In w' d) w' a I := by
    intro a I h
    rcases h with h | ⟨b, o, e, hlt, hc⟩
    ·exact Or.inl h
    ·by_cases hI : I = []
     ·exact Or.inl hI
     have hpos : 0 < I.length := by cases I with | nil => exact absurd rfl hI | cons x t => simp
     have hb : b ∉ S := fun hm => by
      obtain ⟨n, hn⟩ := hS b hm
      obtain ⟨cs, k1, k2, k3⟩ := hc 0 hpos
      have hk := k2 0 (by omega)
      rw [k3.kd] at hk
      have := cell_of_row w b (o + (0 * 7 + 0)) _ _ _ hn
      rw [this] at hk
      cases ho : o + (0 * 7 + 0) with
      | zero => rw [ho] at hk; simp at hk
      | succ m => rw [ho] at hk; simp at hk
     refine Or.inr ⟨b, o, e, Nat.lt_of_lt_of_le hlt hu.size, fun i hi => ?_⟩
     obtain ⟨cs, k1, k2, k3⟩ := hc i hi
     exact ⟨cs, k1, fun j hj => (hu.cell (p := ⟨b, o + (i * 7 + j), none⟩) hlt hb).trans (k2 j hj), ih _ _ k3⟩
   refine ⟨a, ai, at', c, ci, ct, rfl, ?_, h2, row ai I h3, row at' T h4⟩
   rcases h1 with h | ⟨b, o, e, hlt, hc⟩
   ·exact Or.inl h
   ·by_cases hL : L = []
    ·exact Or.inl hL
    have hpos : 0 < L.length := by cases L with | nil => exact absurd rfl hL | cons x t => simp
    have hb : b ∉ S := fun hm => by
     obtain ⟨n, hn⟩ := hS b hm
     have hk := hc 0 hpos
     have := cell_of_row w b (o + 0) _ _ _ hn
     rw [this] at hk
     cases ho : o + 0 with
     | zero => rw [ho] at hk; simp at hk
     | succ m => rw [ho] at hk; simp at hk
    exact Or.inr ⟨b, o, e, Nat.lt_of_lt_of_le hlt hu.size, fun i hi => (hu.cell (p := ⟨b, o + i, none⟩) hlt hb).trans (hc i hi)⟩
theorem RowAt.upd {S : List Nat} {w w' : World} (hu : Upd S w w') (hS : ∀ b ∈ S, ∃ n, IntB w b n) (d : Nat) (a : Option Addr) (I : List Tm) (h : RowAt (In w d) w a I) : RowAt (In w' d) w' a I := by
 have h1 : In w (d + 1) [.int .u8 0, .bool false, .slice none 0 0, .string ⟨#[]⟩, .int .i64 0, .slice a I.length 0, .slice none 0 0] (.mk 0 0 false [] ⟨#[]⟩ I []) := ⟨none, a, none, 0, 0, 0, rfl, At.nil _ _, Dig.nil, h, Or.inl rfl⟩
 obtain ⟨_, _, _, _, _, _, e, _, _, h2, _⟩ := In.upd hu hS _ _ _ h1
 simp only [List.cons.injEq, Value.slice.injEq] at e
 rw [← e.2.2.2.2.2.1.1] at h2
 exact h2
def CntP (w : World) (b : Nat) (n : Nat) (ok : Bool) (z : Nat) (e : Ending) (w' : World) : Prop := ∃ m : Int, e = .returned (.bool (ok && decide (n + z ≤ 4096))) ∧ IntB w' b m ∧ Upd [b] w w' ∧ ((ok && decide (n + z ≤ 4096)) = true → m = (n + z : Nat))
def CntSaid (d : Nat) : Prop := ∀ (w : World) (b q : Nat) (n : Nat) (cs : List Value) (t : Tm), In w d cs t → tsz t ≤ 1353245080330 → IntB w b n → n ≤ 4096 → FunB w q (.func (.func 38) #[] #[.pointer (some ⟨b, 0, none⟩), .pointer (some ⟨q, 0, none⟩)]) 30 →
 Calls Tryz.prog 38 #[.agg cs.toArray, .pointer (some ⟨b, 0, none⟩), .pointer (some ⟨q, 0, none⟩)] w (CntP w b n (okT' t) (szT t))
theorem okR_take (I : List Tm) (k : Nat) (hk : k < I.length) : okR (I.take (k + 1)) = (okR (I.take k) && okT' I[k]) := by
 induction I generalizing k with
 | nil => simp at hk
 | cons t r ih =>
  cases k with
  | zero => simp [okR]
  | succ k => simp only [List.take_succ_cons, okR, List.getElem_cons_succ]; rw [ih k (by simpa using hk), Bool.and_assoc]
theorem szR_take (I : List Tm) (k : Nat) (hk : k < I.length) : szR (I.take (k + 1)) = szR (I.take k) + szT I[k] := by
 induction I generalizing k with
 | nil => simp at hk
 | cons t r ih =>
  cases k with
  | zero => simp [szR]
  | succ k => simp only [List.take_succ_cons, szR, List.getElem_cons_succ]; rw [ih k (by simpa using hk), Nat.add_assoc]
theorem okR_bad (I : List Tm) (k : Nat) (hk : k < I.length) (h : okT' I[k] = false) : okR I = false := by
 induction I generalizing k with
 | nil => simp at hk
 | cons t r ih =>
  cases k with
  | zero => simp only [List.getElem_cons_zero] at h; simp [okR, h]
  | succ k => simp only [List.getElem_cons_succ] at h; simp [okR, ih k (by simpa using hk) h]
theorem szR_le (I : List Tm) (k : Nat) : szR (I.take k) ≤ szR I := by
 induction I generalizing k with
 | nil => simp
 | cons t r ih =>
  cases k with
  | zero => simp [szR]
  | succ k => simp only [List.take_succ_cons, szR]; have := ih k; omega
theorem list7 {cs : List Value} (h : cs.length = 7) : ∃ c0 c1 c2 c3 c4 c5 c6, cs = [c0, c1, c2, c3, c4, c5, c6] := by
 match cs, h with
 | [c0, c1, c2, c3, c4, c5, c6], _ => exact ⟨c0, c1, c2, c3, c4, c5, c6, rfl⟩
theorem In.one {w : World} {d : Nat} {cs : List Value} {t : Tm} (h : In w d cs t) : cs.toArray.all (·.oneCell') = true := by
 cases d with
 | zero => exact h.elim
 | succ d =>
  cases t
  obtain ⟨_, _, _, _, _, _, rfl, _⟩ := h
  simp [Value.oneCell']
set_option maxHeartbeats 4000000 in
set_option maxRecDepth 100000 in
theorem all_in (d : Nat) (ih : CntSaid d) (w : World) (b q n : Nat) (a : Option Addr) (c : Nat) (I : List Tm) (h : RowAt (In w d) w a I) (hs : tszs I ≤ 1353245080330) (hB : IntB w b n) (hn : n ≤ 4096)
  (hF : FunB w q (.func (.func 38) #[] #[.pointer (some ⟨b, 0, none⟩), .pointer (some ⟨q, 0, none⟩)]) 30) :
  Calls Tryz.prog 41 #[.slice a I.length c, .func (.func 38) #[] #[.pointer (some ⟨b, 0, none⟩), .pointer (some ⟨q, 0, none⟩)]] w (CntP w b n (okR I) (szR I)) := by
 have hlen : I.length ≤ 1353245080330 := Nat.le_trans (tszs_len I) hs
 have HS : Hid (tszs I ≤ 1353245080330) := hs
 have HA : Hid (RowAt (In w d) w a I) := h
 have IH : Hid (CntSaid d) := ih
 have HF : Hid (FunB w q _ _) := hF
 have HIB : Hid (IntB w b n) := hB
 have hbq : q ≠ b := fun e => by
  subst e
  have h1 := hF.symm.trans hB
  simp at h1
 have hblt := hB.lt
 clear hs h ih hF hB
 have hcall : ∀ args w, (callFunc 38 args).run Tryz.prog w = .ok (.enter 38 args) w := Tryz.call38
 go_enter Tryz.func41, Tryz.ntmps41
 go_wp2
 go_loopw [9] (fun i wr => ∃ k : Nat, k ≤ I.length ∧ i = .int .i64 k ∧ okR (I.take k) = true ∧ n + szR (I.take k) ≤ 4096 ∧ IntB wr b (n + szR (I.take k) : Nat) ∧ Upd [b] w wr) (fun i _ => I.length - (intOf i).toNat)
 case atStart => exact ⟨0, Nat.zero_le _, rfl, rfl, by simp [szR]; omega, by simpa [szR] using HIB.out, Upd.refl _ _⟩
 case round =>
  obtain ⟨k, hk, rfl, hok, hle, hB, hU⟩ := hrel
  have HK : Hid (okR (I.take k) = true ∧ n + szR (I.take k) ≤ 4096) := ⟨hok, hle⟩
  have HB : Hid (IntB wr b (n + szR (I.take k) : Nat)) := hB
  have HU : Hid (Upd [b] w wr) := hU
  have HA2 := RowAt.upd hU (fun x hx => by simp at hx; subst hx; exact ⟨_, HIB.out⟩) d a I HA.out
  clear hok hle hB hU
  by_cases hlt : k < I.length
  ·rcases HA2 with h0 | ⟨b0, o, rfl, hb0, hc⟩
   ·rw [h0] at hlt; simp at hlt
   obtain ⟨cs, hl7, hcell, hin⟩ := hc k hlt
   have hone := hin.one
   obtain ⟨q0, q1, q2, q3, q4, q5, q6, rfl⟩ := list7 hl7
   have HIN : Hid (In wr d [q0, q1, q2, q3, q4, q5, q6] I[k]) := hin
   have HSZ : Hid (tsz I[k] ≤ 1353245080330) := Nat.le_trans (tszs_get I k hlt) HS.out
   have xq0 : wr.cell? ⟨b0, o + k * 7, none⟩ = some q0 := hcell 0 (by omega)
   have xq1 : wr.cell? ⟨b0, o + k * 7 + 1, none⟩ = some q1 := hcell 1 (by omega)
   have xq2 : wr.cell? ⟨b0, o + k * 7 + 2, none⟩ = some q2 := hcell 2 (by omega)
   have xq3 : wr.cell? ⟨b0, o + k * 7 + 3, none⟩ = some q3 := hcell 3 (by omega)
   have xq4 : wr.cell? ⟨b0, o + k * 7 + 4, none⟩ = some q4 := hcell 4 (by omega)
   have xq5 : wr.cell? ⟨b0, o + k * 7 + 5, none⟩ = some q5 := hcell 5 (by omega)
   have xq6 : wr.cell? ⟨b0, o + k * 7 + 6, none⟩ = some q6 := hcell 6 (by omega)
   have i1 : (k : Int) < (I.length : Int) := by omega
   have tbz : Tb (wr.alloc (.cells #[.int .u8 0, .bool false, .slice none 0 0, .string ⟨#[]⟩, .int .i64 0, .slice none 0 0, .slice none 0 0] 26)) wr.heap.size #[.int .u8 0, .bool false, .slice none 0 0, .string ⟨#[]⟩, .int .i64 0, .slice none 0 0, .slice none 0 0] := Tb.new _ _ _ rfl
   clear hc hcell hin
   go_wp2_with (first
    | (refine store_T _ rfl _ _ rfl _ #[q0, q1, q2, q3, q4, q5, q6] _ rfl rfl tbz rfl rfl hone ?_; intro w1 hT1 hU1)
    | (refine load_T _ rfl _ rfl _ _ rfl hT1 rfl ?_))
   have hw1 : Upd [] wr w1 := ((Upd.refl [] wr).alloc _).then hU1 (by simp)
   have hF1 := (HF.out.mono HU.out (by simp; exact hbq)).mono hw1 (by simp)
   refine (IH.out w1 b q (n + szR (I.take k)) [q0, q1, q2, q3, q4, q5, q6] I[k] (In.mono hw1 _ _ _ HIN.out) HSZ.out (HB.out.mono hw1 (by simp)) HK.out.2 hF1).mono ?_
   rintro e w2 ⟨m, rfl, hB2, hU2, hm⟩
   have HU2 : Hid (Upd [b] w w2) := (HU.out.then hw1 (by simp)).trans hU2
   have HB2 : Hid (IntB w2 b m) := hB2
   have HM : Hid _ := hm
   have HV : Hid ((okT' I[k] && decide (n + szR (I.take k) + szT I[k] ≤ 4096)) = false → (okR I && decide (n + szR I ≤ 4096)) = false) := fun hv => by
    cases ho : okT' I[k] with
    | false => rw [okR_bad I k hlt ho]; rfl
    | true =>
     rw [ho, Bool.true_and, decide_eq_false_iff_not] at hv
     have h1 := szR_take I k hlt
     have h2 := szR_le I (k + 1)
     rw [decide_eq_false (by omega), Bool.and_false]
   clear hw1 hF1 hU1 hT1 hU2 hB2 hm xq0 xq1 xq2 xq3 xq4 xq5 xq6 tbz
   cases hv : (okT' I[k] && decide (n + szR (I.take k) + szT I[k] ≤ 4096)) with
   | true =>
    go_wp2
    go_roundw
    case rel =>
     have hv2 := hv
     rw [Bool.and_eq_true, decide_eq_true_eq] at hv2
     have e1 : n + szR (I.take (k + 1)) = n + szR (I.take k) + szT I[k] := by rw [szR_take I k hlt]; omega
     refine ⟨k + 1, by omega, by go_num, by rw [okR_take I k hlt, HK.out.1, hv2.1]; rfl, by omega, ?_, HU2.out⟩
     have := HM.out hv
     rw [e1, ← this]
     exact HB2.out
    case measure => simp [intOf]; omega
   | false =>
    go_wp2
    go_ret
    exact ⟨m, by rw [HV.out hv]; rfl, HB2.out, HU2.out, fun h => by rw [HV.out hv] at h; cases h⟩
  ·have hd : decide ((k : Int) < (I.length : Int)) = false := by simp; omega
   have e1 : I.take k = I := List.take_of_length_le (by omega)
   have HE : Hid (I.take k = I) := e1
   clear e1
   go_wp2
   go_ret
   have h1 := HK.out
   have h2 := HB.out
   rw [HE.out] at h1 h2
   have h3 : (okR I && decide (n + szR I ≤ 4096)) = true := by rw [h1.1, decide_eq_true h1.2]; rfl
   exact ⟨_, by rw [h3]; rfl, h2, HU.out, fun _ => rfl⟩
end Go.Proofs.YtalhbbabijlngaaGreatDoor
namespace Go.Proofs.YtalhbbabijlngaaGreatDoor
open Go.RowKit
set_option maxHeartbeats 4000000 in
set_option maxRecDepth 100000 in
theorem Cnt_step (d : Nat) (ih : CntSaid d) : CntSaid (d + 1) := by
  intro w b q n cs t h hs hB hn hF
  obtain ⟨k, num, neg, L, s, I, T⟩ := t
  obtain ⟨a, ai, at', c, ci, ct, rfl, hA, hD, hI, hT⟩ := h
  simp only [tsz] at hs
  have hL : L.length ≤ 35184372088700 := by omega
  have hsI : tszs I ≤ 1353245080330 := by omega
  have hsT : tszs T ≤ 1353245080330 := by omega
  have hlI : I.length ≤ 1353245080330 := Nat.le_trans (tszs_len I) hsI
  have hlT : T.length ≤ 1353245080330 := Nat.le_trans (tszs_len T) hsT
  obtain ⟨v, hv⟩ : ∃ v, v = ownZ k L.length I.length := ⟨_, rfl⟩
  have hvle : v ≤ 35184372088800 := by rw [hv]; unfold ownZ; repeat' split
                                       all_goals omega
  have HO : Hid (∀ W, Calls Tryz.prog 39 #[.agg #[.int .u8 k, .bool neg, .slice a L.length c, .string s, .int .i64 num, .slice ai I.length ci, .slice at' T.length ct]] W fun e w' => e = .returned (.int .i64 v) ∧ Upd [] W w') := fun W => by
    rw [hv]; exact ownSize_any _ _ _ _ _ _ _ _ _ _ _ _ _ W (by omega) (by omega)
  have hsz : szT (.mk k num neg L s I T) = v + szR I + szR T := by rw [szT, hv]
  have hok : okT' (.mk k num neg L s I T) = (okF k num neg L s I.length T && okR I && okR T) := by rw [okT']
  rw [hsz, hok]
  have HIB : Hid (IntB w b n) := hB
  have HF : Hid (FunB w q _ _) := hF
  have HI : Hid (RowAt (In w d) w ai I) := hI
  have HT : Hid (RowAt (In w d) w at' T) := hT
  have HA : Hid (At w a L) := hA
  have IH : Hid (CntSaid d) := ih
  have hbq : q ≠ b := fun e => by
    subst e
    have h1 := hF.symm.trans hB
    simp at h1
  have hU1 : Upd [] w (w.alloc (.cells #[.int .u8 k, .bool neg, .slice a L.length c, .string s, .int .i64 num, .slice ai I.length ci, .slice at' T.length ct] 26)) := (Upd.refl [] w).alloc _
  have tb0 : Tb (w.alloc (.cells #[.int .u8 k, .bool neg, .slice a L.length c, .string s, .int .i64 num, .slice ai I.length ci, .slice at' T.length ct] 26)) w.heap.size #[.int .u8 k, .bool neg, .slice a L.length c, .string s, .int .i64 num, .slice ai I.length ci, .slice at' T.length ct] := Tb.new _ _ _ rfl
  have hblt := hB.lt
  have hB1 := hB.mono hU1 (by simp)
  obtain ⟨W, hW⟩ : ∃ W, W = w.alloc (.cells #[.int .u8 k, .bool neg, .slice a L.length c, .string s, .int .i64 num, .slice ai I.length ci, .slice at' T.length ct] 26) := ⟨_, rfl⟩
  have HD : Hid (Dig L) := hD
  clear hv hsz hok hI hT hA ih hF hB hD hs
  go_enter Tryz.func38, Tryz.ntmps38
  go_wp2
  rw [← hW] at hU1 tb0 hB1 ⊢
  clear hW
  have x0 : W.cell? ⟨w.heap.size, 0, none⟩ = some (.int .u8 k) := tb0.cell 0
  have x1 : W.cell? ⟨w.heap.size, 1, none⟩ = some (.bool neg) := tb0.cell 1
  have x2 : W.cell? ⟨w.heap.size, 2, none⟩ = some (.slice a L.length c) := tb0.cell 2
  have x3 : W.cell? ⟨w.heap.size, 3, none⟩ = some (.string s) := tb0.cell 3
  have x4 : W.cell? ⟨w.heap.size, 4, none⟩ = some (.int .i64 num) := tb0.cell 4
  have x5 : W.cell? ⟨w.heap.size, 5, none⟩ = some (.slice ai I.length ci) := tb0.cell 5
  have x6 : W.cell? ⟨w.heap.size, 6, none⟩ = some (.slice at' T.length ct) := tb0.cell 6
  have y0 : W.cell? ⟨b, 0, none⟩ = some (.int .i64 n) := hB1.cell
  have z0 : W.frozen? ⟨b, 0, none⟩ = false := hB1.free
  go_region_with (go_at_call 39; refine (HO.out _).mono ?_; rintro e w2 ⟨rfl, hU2⟩; have hU3 : Upd [] W w2 := Upd.trans (by repeat (first | exact Upd.refl _ _ | refine Upd.drew ?_)) hU2; have hB2 := hB1.mono hU3 (by simp); have y1 : w2.cell? ⟨b, 0, none⟩ = some (.int .i64 n) := hB2.cell; have z1 : w2.frozen? ⟨b, 0, none⟩ = false := hB2.free)
  all_goals
    have hwr : IntKind.i64.wrap ((n : Int) + (v : Int)) = ((n + v : Nat) : Int) := by rw [IntKind.wrap_i64]; omega
    rw [hwr]
    obtain ⟨N, hN⟩ : ∃ N, N = n + v := ⟨_, rfl⟩
    rw [← hN]
    have hB3 : IntB (w2.setCell ⟨b, 0, none⟩ (.int .i64 (N : Int))) b (N : Int) := hB2.set _
    have tb3 : Tb (w2.setCell ⟨b, 0, none⟩ (.int .i64 (N : Int))) w.heap.size #[.int .u8 k, .bool neg, .slice a L.length c, .string s, .int .i64 num, .slice ai I.length ci, .slice at' T.length ct] := (tb0.mono hU3 (by simp)).other _ (by simp; omega) _
    have hU4 : Upd [b] w (w2.setCell ⟨b, 0, none⟩ (.int .i64 (N : Int))) := (((Upd.refl [b] w).then hU1 (by simp)).then hU3 (by simp)).setCell (Or.inr (by simp)) _
    obtain ⟨W3, hW3⟩ : ∃ W3, W3 = w2.setCell ⟨b, 0, none⟩ (.int .i64 (N : Int)) := ⟨_, rfl⟩
    rw [← hW3] at hB3 tb3 hU4 ⊢
    clear hW3 hwr x0 x1 x2 x3 x4 x5 x6 y0 z0 y1 z1 hB2 hU3 hU2 hB1 tb0 hU1 HO
    have hF3 := HF.out.mono hU4 (by simp; exact hbq)
    have hS : ∀ x ∈ [b], ∃ m, IntB w x m := fun x hx => by simp at hx; subst hx; exact ⟨_, HIB.out⟩
    have hI3 := RowAt.upd hU4 hS d ai I HI.out
    have hT3 := RowAt.upd hU4 hS d at' T HT.out
    have hA3 : At W3 a L := by
      have h1 : In w (d + 1) [.int .u8 0, .bool false, .slice a L.length 0, .string ⟨#[]⟩, .int .i64 0, .slice none 0 0, .slice none 0 0] (.mk 0 0 false L ⟨#[]⟩ [] []) := ⟨a, none, none, 0, 0, 0, rfl, HA.out, HD.out, Or.inl rfl, Or.inl rfl⟩
      obtain ⟨_, _, _, _, _, _, e, h2, _⟩ := In.upd hU4 hS _ _ _ h1
      simp only [List.cons.injEq, Value.slice.injEq] at e
      rw [← e.2.2.1.1] at h2
      exact h2
    have HB3 : Hid (IntB W3 b (N : Int)) := hB3
    have HU4 : Hid (Upd [b] w W3) := hU4
    have HF3 : Hid (FunB W3 q _ _) := hF3
    have HI3 : Hid (RowAt (In W3 d) W3 ai I) := hI3
    have HT3 : Hid (RowAt (In W3 d) W3 at' T) := hT3
    have HA3 : Hid (At W3 a L) := hA3
    have y0 : W3.cell? ⟨b, 0, none⟩ = some (.int .i64 (N : Int)) := hB3.cell
    clear hF3 hI3 hT3 hA3 hS hU4 hB3
    have HN : Hid (N = n + v) := hN
    clear hN
    by_cases hgo : N ≤ 4096
    · have hd : (N : Int) ≤ 4096 := by omega
      obtain ⟨f, hf⟩ : ∃ f, f = okF k num neg L s I.length T := ⟨_, rfl⟩
      have HR : Hid (∀ W, Upd [] W3 W → Calls Tryz.prog 40 #[.agg #[.int .u8 k, .bool neg, .slice a L.length c, .string s, .int .i64 num, .slice ai I.length ci, .slice at' T.length ct]] W fun e w' => e = .returned (.bool f) ∧ Upd [] W w') := fun W hU => by
        rw [hf]
        exact rightFields_any k num neg L s a ai at' c I.length ci ct d T W (by omega) (by omega) (by omega) (HA3.out.mono hU) (HT3.out.imp hU (fun cs t h => In.mono hU d cs t h))
      have HFd : Hid (okF k num neg L s I.length T = f) := hf.symm
      clear hf
      go_wp2_with (first | (refine load_G _ _ rfl _ _ rfl tb3 rfl rfl ?_) | fail)
      refine (HR.out W3 (Upd.refl [] W3)).mono ?_
      rintro e W4 ⟨rfl, hU5⟩
      have tb4 := tb3.mono hU5 (by simp)
      have hB4 := HB3.out.mono hU5 (by simp)
      have hF4 := HF3.out.mono hU5 (by simp)
      have hI4 := HI3.out.imp hU5 (fun cs t h => In.mono hU5 d cs t h)
      have hT4 := HT3.out.imp hU5 (fun cs t h => In.mono hU5 d cs t h)
      have hU6 : Upd [b] w W4 := HU4.out.then hU5 (by simp)
      cases f with
      | false =>
        go_wp2
        go_ret
        exact ⟨_, by rw [HFd.out]; rfl, hB4, hU6, fun h => by rw [HFd.out] at h; simp at h⟩
      | true =>
        have x5 : W4.cell? ⟨w.heap.size, 5, none⟩ = some (.slice ai I.length ci) := tb4.cell 5
        have y4 : W4.cell? ⟨q, 0, none⟩ = some (.func (.func 38) #[] #[.pointer (some ⟨b, 0, none⟩), .pointer (some ⟨q, 0, none⟩)]) := hF4.cell
        have HU6 : Hid (Upd [b] w W4) := hU6
        have HT4 : Hid (RowAt (In W4 d) W4 at' T) := hT4
        have HIB4 : Hid (IntB W4 b (N : Int)) := hB4
        have HF4 : Hid (FunB W4 q _ _) := hF4
        have HAL : Hid _ := all_in d IH.out W4 b q N ai ci I hI4 hsI hB4 hgo hF4
        clear hU6 hT4 hB4 hF4 hI4 hU5 HR
        go_wp2_with fail
        refine Calls.mono HAL.out ?_
        rintro e W5 ⟨m, rfl, hB5, hU7, hm⟩
        have HM : Hid _ := hm
        have HB5 : Hid (IntB W5 b m) := hB5
        have HU7 : Hid (Upd [b] w W5) := HU6.out.trans hU7
        have tb5 := tb4.mono hU7 (by simp; have := tb3.lt; omega)
        have hS4 : ∀ x ∈ [b], ∃ m, IntB W4 x m := fun x hx => by simp at hx; subst hx; exact ⟨_, HIB4.out⟩
        have HT5 : Hid _ := RowAt.upd hU7 hS4 d at' T HT4.out
        have hF5 := HF4.out.mono hU7 (by simp; exact hbq)
        have HF5 : Hid (FunB W5 q _ _) := hF5
        clear hm hB5 hU7 hS4
        cases hg : (okR I && decide (N + szR I ≤ 4096)) with
        | false =>
          go_wp2
          go_ret
          have hr : (okF k num neg L s I.length T && okR I && okR T && decide (n + (v + szR I + szR T) ≤ 4096)) = false := by
            rw [HFd.out]
            cases h1 : okR I with
            | false => simp
            | true =>
              rw [h1, Bool.true_and, decide_eq_false_iff_not] at hg
              rw [decide_eq_false (by have := HN.out; omega)]; simp
          exact ⟨m, by rw [hr]; rfl, HB5.out, HU7.out, fun h => by rw [hr] at h; cases h⟩
        | true =>
          have hm2 := HM.out hg
          have hg2 := hg
          rw [Bool.and_eq_true, decide_eq_true_eq] at hg2
          have hB6 : IntB W5 b ((N + szR I : Nat) : Int) := by have := HB5.out; rw [hm2] at this; exact this
          have x6 : W5.cell? ⟨w.heap.size, 6, none⟩ = some (.slice at' T.length ct) := tb5.cell 6
          have y5 : W5.cell? ⟨q, 0, none⟩ = some (.func (.func 38) #[] #[.pointer (some ⟨b, 0, none⟩), .pointer (some ⟨q, 0, none⟩)]) := hF5.cell
          have HAT : Hid _ := all_in d IH.out W5 b q (N + szR I) at' ct T HT5.out hsT hB6 hg2.2 hF5
          have HG : Hid (okR I = true) := hg2.1
          clear hm2 hg2 hB6 hF5 HM
          go_wp2_with fail
          refine Calls.mono HAT.out ?_
          rintro e W6 ⟨m2, rfl, hB7, hU8, hm3⟩
          go_wp2
          go_ret
          have hr : (okF k num neg L s I.length T && okR I && okR T && decide (n + (v + szR I + szR T) ≤ 4096)) = (okR T && decide (N + szR I + szR T ≤ 4096)) := by
            rw [HFd.out, HG.out, show n + (v + szR I + szR T) = N + szR I + szR T by have := HN.out; omega]; simp
          exact ⟨m2, by rw [hr]; rfl, hB7, HU7.out.trans hU8, fun h => by rw [hr] at h; rw [hm3 h]; congr 1; have := HN.out; omega⟩
    · have hd : decide ((N : Int) ≤ 4096) = false := by simp; omega
      go_wp2
      go_ret
      have hr : (okF k num neg L s I.length T && okR I && okR T && decide (n + (v + szR I + szR T) ≤ 4096)) = false := by rw [decide_eq_false (by have := HN.out; omega), Bool.and_false]
      exact ⟨_, by rw [hr]; rfl, HB3.out, HU4.out, fun h => by rw [hr] at h; cases h⟩
theorem Cnt_all (d : Nat) : CntSaid d := by
 induction d with
 | zero => intro w b q n cs t h; exact h.elim
 | succ d ih => exact Cnt_step d ih
theorem IntB.new (w : World) (n : Int) (g : Nat) (h : g = w.heap.size) : IntB (w.alloc (.cells #[.int .i64 n] 3)) g n := by subst h; exact heap_alloc_new w _
theorem FunB.new (w : World) (v : Value) (T : TypeId) (g : Nat) (h : g = w.heap.size) : FunB (w.alloc (.cells #[v] T)) g v T := by subst h; exact heap_alloc_new w _
def okS (t : Tm) : Bool := okT' t && decide (szT t ≤ 4096)
def szS (t : Tm) : Nat := if okS t then szT t else 0
theorem In.seven {w : World} {d : Nat} {cs : List Value} {t : Tm} (h : In w d cs t) : cs.toArray.size = 7 := by
 cases d with
 | zero => exact h.elim
 | succ d =>
  cases t
  obtain ⟨_, _, _, _, _, _, rfl, _⟩ := h
  rfl
set_option maxHeartbeats 4000000 in
set_option maxRecDepth 100000 in
theorem Size_in (d : Nat) (w : World) (cs : List Value) (t : Tm) (h : In w d cs t) (hs : tsz t ≤ 1353245080330) :
  Calls Tryz.prog 10 #[.agg cs.toArray] w fun e w' => e = .returned (.int .i64 (szS t : Nat)) ∧ Upd [] w w' := by
 have h7 := h.seven
 obtain ⟨C, hC⟩ : ∃ C, C = cs.toArray := ⟨_, rfl⟩
 have HIN : Hid (In w d cs t) := h
 have HS : Hid (tsz t ≤ 1353245080330) := hs
 have HC : Hid (C = cs.toArray) := hC
 rw [← hC] at h7 ⊢
 clear hC h hs
 have tb0 : Tb (((w.alloc (.cells C 26)).alloc (.cells #[.int .i64 0] 3)).alloc (.cells #[.func (.func 38) #[] #[.pointer (some ⟨w.heap.size + 1, 0, none⟩), .pointer (some ⟨w.heap.size + 1 + 1, 0, none⟩)]] 30)) w.heap.size C := ((Tb.new _ _ _ rfl).old _).old _
 have hB : IntB (((w.alloc (.cells C 26)).alloc (.cells #[.int .i64 0] 3)).alloc (.cells #[.func (.func 38) #[] #[.pointer (some ⟨w.heap.size + 1, 0, none⟩), .pointer (some ⟨w.heap.size + 1 + 1, 0, none⟩)]] 30)) (w.heap.size + 1) ((0 : Nat) : Int) := by
  have h1 : IntB ((w.alloc (.cells C 26)).alloc (.cells #[.int .i64 0] 3)) (w.heap.size + 1) ((0 : Nat) : Int) := by
   exact IntB.new _ _ _ (by simp)
  exact h1.mono ((Upd.refl [] _).alloc _) (by simp)
 have hF : FunB (((w.alloc (.cells C 26)).alloc (.cells #[.int .i64 0] 3)).alloc (.cells #[.func (.func 38) #[] #[.pointer (some ⟨w.heap.size + 1, 0, none⟩), .pointer (some ⟨w.heap.size + 1 + 1, 0, none⟩)]] 30)) (w.heap.size + 1 + 1) (.func (.func 38) #[] #[.pointer (some ⟨w.heap.size + 1, 0, none⟩), .pointer (some ⟨w.heap.size + 1 + 1, 0, none⟩)]) 30 := by
  exact FunB.new _ _ _ _ (by simp)
 have hU : Upd [] w (((w.alloc (.cells C 26)).alloc (.cells #[.int .i64 0] 3)).alloc (.cells #[.func (.func 38) #[] #[.pointer (some ⟨w.heap.size + 1, 0, none⟩), .pointer (some ⟨w.heap.size + 1 + 1, 0, none⟩)]] 30)) := (((Upd.refl [] w).alloc _).alloc _).alloc _
 obtain ⟨W, hW⟩ : ∃ W, W = (((w.alloc (.cells C 26)).alloc (.cells #[.int .i64 0] 3)).alloc (.cells #[.func (.func 38) #[] #[.pointer (some ⟨w.heap.size + 1, 0, none⟩), .pointer (some ⟨w.heap.size + 1 + 1, 0, none⟩)]] 30)) := ⟨_, rfl⟩
 have HB : Hid (IntB _ _ _) := hB
 have HF : Hid (FunB _ _ _ _) := hF
 have HU : Hid (Upd [] w _) := hU
 clear hB hF hU
 go_enter Tryz.func10, Tryz.ntmps10
 go_wp2_with (first | (refine load_T _ rfl _ rfl _ _ rfl tb0 h7 ?_) | fail)
 rw [← hW] at HB HF HU ⊢
 have hcnt := Cnt_all d W _ _ 0 cs t (In.mono HU.out _ _ _ HIN.out) HS.out HB.out (by omega) HF.out
 rw [← HC.out] at hcnt
 clear tb0
 refine Calls.mono hcnt ?_
 rintro e w2 ⟨m, rfl, hB2, hU2, hm⟩
 have hU3 : Upd [] w w2 := HU.out.then hU2 (by simp)
 have y0 : w2.cell? ⟨w.heap.size + 1, 0, none⟩ = some (.int .i64 m) := hB2.cell
 have HM : Hid _ := hm
 clear hm hcnt hB2 hU2
 cases hg : (okT' t && decide (0 + szT t ≤ 4096)) with
 | false =>
  go_wp2
  go_ret
  have e : szS t = 0 := by unfold szS okS; rw [Nat.zero_add] at hg; rw [hg]; rfl
  rw [e]
  exact ⟨rfl, hU3⟩
 | true =>
  have hm := HM.out hg
  rw [Nat.zero_add] at hm
  have HE : Hid (szS t = szT t) := by show szS t = szT t; unfold szS okS; rw [Nat.zero_add] at hg; rw [hg]; rfl
  have HM2 : Hid (m = (szT t : Int)) := hm
  clear hm HM
  go_wp2
  go_ret
  rw [HE.out, ← HM2.out]
  exact ⟨rfl, hU3⟩
theorem szT_pos (t : Tm) : 0 < szT t := by
 cases t
 rw [szT]
 unfold ownZ
 repeat' split
 all_goals omega
set_option maxHeartbeats 4000000 in
set_option maxRecDepth 100000 in
theorem TRight_in (d : Nat) (w : World) (cs : List Value) (t : Tm) (h : In w d cs t) (hs : tsz t ≤ 1353245080330) :
  Calls Tryz.prog 9 #[.agg cs.toArray] w fun e w' => e = .returned (.bool (okS t)) ∧ Upd [] w w' := by
 have h7 := h.seven
 have HZ : Hid (∀ W, Upd [] w W → Calls Tryz.prog 10 #[.agg cs.toArray] W fun e w' => e = .returned (.int .i64 (szS t : Nat)) ∧ Upd [] W w') := fun W hu => Size_in d W cs t (In.mono hu _ _ _ h) hs
 obtain ⟨C, hC⟩ : ∃ C, C = cs.toArray := ⟨_, rfl⟩
 rw [← hC] at h7 HZ ⊢
 clear hC h hs
 have tb0 : Tb (w.alloc (.cells C 26)) w.heap.size C := Tb.new _ _ _ rfl
 have hU : Upd [] w (w.alloc (.cells C 26)) := (Upd.refl [] w).alloc _
 obtain ⟨z, hz⟩ : ∃ z, z = szS t := ⟨_, rfl⟩
 have hz2 : okS t = decide (0 < z) := by
  rw [hz]
  unfold szS
  cases okS t with
  | false => rfl
  | true => simp [szT_pos]
 have HZ2 : Hid (okS t = decide (0 < z)) := hz2
 rw [← hz] at HZ
 clear hz hz2
 go_enter Tryz.func9, Tryz.ntmps9
 go_wp2_with (first | (refine load_T _ rfl _ rfl _ _ rfl tb0 h7 ?_) | fail)
 refine Calls.mono (HZ.out _ hU) ?_
 rintro e w2 ⟨rfl, hU2⟩
 go_wp2
 go_ret
 rw [HZ2.out]
 exact ⟨ret_bool (by simp), hU.trans hU2⟩
end Go.Proofs.YtalhbbabijlngaaGreatDoor
