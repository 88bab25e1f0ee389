/- row, which writes terms with commas between, by its contract. -/
import Derived.Test.YtaoipmmeialpnaaGreatDoorJAK
namespace Go.Proofs.YtaoipmmeialpnaaGreatDoor
open Go.RowKit

/-- What stands while a text is written: the builder, and the three functions that write. -/
structure TS (w : World) (b p q r : Nat) (l : List UInt8) : Prop where
  bd : Bd w b (Lib.byteCells l)
  put : FunB w p (.func (.func 45) #[] #[.pointer (some ⟨b, 0, none⟩)]) 62
  wr : FunB w q (.func (.func 48) #[] #[.pointer (some ⟨p, 0, none⟩), .pointer (some ⟨r, 0, none⟩), .pointer (some ⟨q, 0, none⟩)]) 34
  row : FunB w r (.func (.func 47) #[] #[.pointer (some ⟨p, 0, none⟩), .pointer (some ⟨q, 0, none⟩)]) 63
theorem FunB.kp {w w' : World} {b p : Nat} {v : Value} {T : TypeId} {bs : List Value} (h : FunB w p v T) (hB : Bd w b bs) (hK : Kp b w w') (hT : T ≠ 5) : FunB w' p v T := by
  refine hK.others p _ h ?_ ?_
  · intro e
    simp at e
    subst e
    obtain ⟨x, y, h2⟩ := hB.shape
    have := h.symm.trans h2
    simp at this
  · intro c fz e
    simp at e
    exact hT e.2.1
theorem TS.kp {w w' : World} {b p q r : Nat} {l l' : List UInt8} (h : TS w b p q r l) (hK : Kp b w w') (hB : Bd w' b (Lib.byteCells l')) : TS w' b p q r l' :=
  ⟨hB, h.put.kp h.bd hK (by decide), h.wr.kp h.bd hK (by decide), h.row.kp h.bd hK (by decide)⟩
theorem TS.upd {w w' : World} {b p q r : Nat} {l : List UInt8} (h : TS w b p q r l) (hu : Upd [] w w') : TS w' b p q r l :=
  ⟨h.bd.upd hu, h.put.mono hu (by simp), h.wr.mono hu (by simp), h.row.mono hu (by simp)⟩
theorem Tb.kp {w w' : World} {b g : Nat} {cs : Array Value} {bs : List Value} (h : Tb w g cs) (hB : Bd w b bs) (hK : Kp b w w') : Tb w' g cs := by
  have h' : w.heap[g]? = some (.cells cs 26 (0, 0)) := h
  refine hK.others g _ h' ?_ ?_
  · intro e
    simp at e
    subst e
    obtain ⟨x, y, h2⟩ := hB.shape
    have := h'.symm.trans h2
    simp at this
  · intro c fz e
    simp at e

/-- What writing is to answer. -/
def WrP (w : World) (b p q r : Nat) (l m : List UInt8) (e : Ending) (w' : World) : Prop := e = .returned (.tuple #[]) ∧ TS w' b p q r (l ++ m) ∧ Kp b w w'
/-- Of depth d: the closure write. -/
def WriteSaid (d : Nat) : Prop := ∀ (w : World) (b p q r : Nat) (l : List UInt8) (cs : List Value) (t : Tm), InB (fun x => x < b) w d cs t → okT' t = true → tsz t ≤ 1353245080330 → l.length + (txT t).length ≤ 140737488355328 → GlbB b w → TS w b p q r l →
  Calls Tryz.prog 48 #[.agg cs.toArray, .pointer (some ⟨p, 0, none⟩), .pointer (some ⟨r, 0, none⟩), .pointer (some ⟨q, 0, none⟩)] w (WrP w b p q r l (txT t))

theorem InB.one' {P : Nat → Prop} {w : World} {d : Nat} {cs : List Value} {t : Tm} (h : InB P w d cs t) : cs.toArray.all (·.oneCell') = true := (InB.plain _ _ _ h).one
/-- One part is put. -/
theorem put_one {w : World} {b p q r : Nat} {l : List UInt8} (h : TS w b p q r l) (m : List UInt8) (hlen : l.length + m.length ≤ 140737488355328) :
    Calls Tryz.prog 45 #[.slice (some ⟨w.heap.size, 0, none⟩) 1 1, .pointer (some ⟨b, 0, none⟩)] (w.alloc (.cells #[.string (str m)] 9)) (WrP w b p q r l m) := by
  have hu : Upd [] w (w.alloc (.cells #[.string (str m)] 9)) := (Upd.refl [] w).alloc _
  have h1 := h.upd hu
  refine (put_any b w.heap.size 1 l [m] _ h1.bd (heap_alloc_new w _) (by simpa using hlen) (by simp)).mono ?_
  rintro e w' ⟨rfl, hB, hK⟩
  rw [show [m].flatten = m by simp] at hB
  exact ⟨rfl, h1.kp hK hB, (hu.toKp b (Nat.le_of_lt h.bd.lt)).trans hK⟩

/-- Three parts are put. -/
theorem put_three {w : World} {b p q r : Nat} {l : List UInt8} (h : TS w b p q r l) (m1 m2 m3 : List UInt8) (hlen : l.length + (m1 ++ (m2 ++ m3)).length ≤ 140737488355328) :
    Calls Tryz.prog 45 #[.slice (some ⟨w.heap.size, 0, none⟩) 3 3, .pointer (some ⟨b, 0, none⟩)] (w.alloc (.cells #[.string (str m1), .string (str m2), .string (str m3)] 9)) (WrP w b p q r l (m1 ++ (m2 ++ m3))) := by
  have hu : Upd [] w (w.alloc (.cells #[.string (str m1), .string (str m2), .string (str m3)] 9)) := (Upd.refl [] w).alloc _
  have h1 := h.upd hu
  have e : [m1, m2, m3].flatten = m1 ++ (m2 ++ m3) := by simp
  refine (put_any b w.heap.size 3 l [m1, m2, m3] _ h1.bd (heap_alloc_new w _) (by rw [e]; exact hlen) (by simp)).mono ?_
  rintro e w' ⟨rfl, hB, hK⟩
  rw [show [m1, m2, m3].flatten = m1 ++ (m2 ++ m3) by simp] at hB
  exact ⟨rfl, h1.kp hK hB, (hu.toKp b (Nat.le_of_lt h.bd.lt)).trans hK⟩
theorem put_one_at {w : World} {b p q r : Nat} {l : List UInt8} (h : TS w b p q r l) (m : List UInt8) (hlen : l.length + m.length ≤ 140737488355328) (g : Nat) (hg : g = w.heap.size) (s : ByteArray) (hs : s = str m) :
    Calls Tryz.prog 45 #[.slice (some ⟨g, 0, none⟩) 1 1, .pointer (some ⟨b, 0, none⟩)] (w.alloc (.cells #[.string s] 9)) (WrP w b p q r l m) := by
  subst hg hs
  exact put_one h m hlen

set_option maxHeartbeats 4000000 in
set_option maxRecDepth 100000 in
theorem row_in (d : Nat) (ih : WriteSaid d) (w : World) (b p q r : Nat) (l : List UInt8) (a : Option Addr) (c : Nat) (I : List Tm) (h : RowB (fun x => x < b) (InB (fun x => x < b) w d) w a I) (hok : okR I = true)
    (hs : tszs I ≤ 1353245080330) (hlen : l.length + (txC I).length ≤ 140737488355328) (hG : GlbB b w) (hT : TS w b p q r l) :
    Calls Tryz.prog 47 #[.slice a I.length c, .pointer (some ⟨p, 0, none⟩), .pointer (some ⟨q, 0, none⟩)] w (WrP w b p q r l ((txC I).drop 1)) := by
  have hlenI : I.length ≤ 1353245080330 := Nat.le_trans (tszs_len I) hs
  have HS : Hid (tszs I ≤ 1353245080330) := hs
  have HA : Hid (RowB (fun x => x < b) (InB (fun x => x < b) w d) w a I) := h
  have IH : Hid (WriteSaid d) := ih
  have HT : Hid (TS w b p q r l) := hT
  have HG : Hid (GlbB b w) := hG
  have HO : Hid (okR I = true ∧ l.length + (txC I).length ≤ 140737488355328) := ⟨hok, hlen⟩
  clear hs h ih hT hG hok hlen
  have hcall : ∀ args w, (callFunc 48 args).run Tryz.prog w = .ok (.enter 48 args) w := Tryz.call48
  have hcall1 : ∀ args w, (callFunc 45 args).run Tryz.prog w = .ok (.enter 45 args) w := Tryz.call45
  go_enter Tryz.func47, Tryz.ntmps47
  go_wp2
  go_loopw [8] (fun i wr => ∃ k : Nat, k ≤ I.length ∧ i = .int .i64 k ∧ TS wr b p q r (l ++ (txC (I.take k)).drop 1) ∧ Kp b w wr) (fun i _ => I.length - (intOf i).toNat)
  case atStart => exact ⟨0, Nat.zero_le _, rfl, by simpa [txC] using HT.out, Kp.refl _ _⟩
  case round =>
    obtain ⟨k, hk, rfl, hT, hK⟩ := hrel
    have HT2 : Hid (TS wr b p q r (l ++ (txC (I.take k)).drop 1)) := hT
    have HK : Hid (Kp b w wr) := hK
    have HA2 := RowB.below hK.below HA.out
    have HG2 : Hid (GlbB b wr) := HG.out.below hK.below
    clear hT hK
    by_cases hlt : k < I.length
    · rcases HA2 with h0 | ⟨b0, o, rfl, hb0, hb1, hc⟩
      · rw [h0] at hlt; simp at hlt
      obtain ⟨cs, hl7, hcell, hin⟩ := hc k hlt
      have hone := hin.one'
      obtain ⟨q0, q1, q2, q3, q4, q5, q6, rfl⟩ := list7 hl7
      have HIN : Hid (InB (fun x => x < b) wr d [q0, q1, q2, q3, q4, q5, q6] I[k]) := hin
      have HSZ : Hid (tsz I[k] ≤ 1353245080330) := Nat.le_trans (tszs_get I k hlt) HS.out
      have HOK : Hid (okT' I[k] = true) := okR_get I k hlt HO.out.1
      have hbz : b < wr.heap.size := HT2.out.bd.lt
      have HLN : Hid (l.length + (txC (I.take k)).length + 1 + (txT I[k]).length ≤ 140737488355328) := by
        show _ ≤ _
        have h1 := HO.out.2
        have h2 := txC_len I k hlt
        omega
      have xq0 : wr.cell? ⟨b0, o + k * 7, none⟩ = some q0 := hcell 0 (by omega)
      have xq1 : wr.cell? ⟨b0, o + k * 7 + 1, none⟩ = some q1 := hcell 1 (by omega)
      have xq2 : wr.cell? ⟨b0, o + k * 7 + 2, none⟩ = some q2 := hcell 2 (by omega)
      have xq3 : wr.cell? ⟨b0, o + k * 7 + 3, none⟩ = some q3 := hcell 3 (by omega)
      have xq4 : wr.cell? ⟨b0, o + k * 7 + 4, none⟩ = some q4 := hcell 4 (by omega)
      have xq5 : wr.cell? ⟨b0, o + k * 7 + 5, none⟩ = some q5 := hcell 5 (by omega)
      have xq6 : wr.cell? ⟨b0, o + k * 7 + 6, none⟩ = some q6 := hcell 6 (by omega)
      have i1 : (k : Int) < (I.length : Int) := by omega
      have tbz : Tb (wr.alloc (.cells #[.int .u8 0, .bool false, .slice none 0 0, .string ⟨#[]⟩, .int .i64 0, .slice none 0 0, .slice none 0 0] 26)) wr.heap.size #[.int .u8 0, .bool false, .slice none 0 0, .string ⟨#[]⟩, .int .i64 0, .slice none 0 0, .slice none 0 0] := Tb.new _ _ _ rfl
      clear hc hcell hin
      have HYP : Hid (∀ w1, Upd [] wr w1 → w1.cell? ⟨p, 0, none⟩ = some (.func (.func 45) #[] #[.pointer (some ⟨b, 0, none⟩)])) := fun w1 h1 => (HT2.out.upd h1).put.cell
      have HYQ : Hid (∀ w1, Upd [] wr w1 → w1.cell? ⟨q, 0, none⟩ = some (.func (.func 48) #[] #[.pointer (some ⟨p, 0, none⟩), .pointer (some ⟨r, 0, none⟩), .pointer (some ⟨q, 0, none⟩)])) := fun w1 h1 => (HT2.out.upd h1).wr.cell
      by_cases h0 : k = 0
      · have h0' : ¬ 0 < k := by omega
        have HZ : Hid (k = 0) := h0
        clear h0
        go_wp2_with (first
          | (refine store_T _ rfl _ _ rfl _ #[q0, q1, q2, q3, q4, q5, q6] _ rfl rfl tbz rfl rfl hone ?_; intro w1 hT1 hU1; have hw1 : Upd [] wr w1 := ((Upd.refl [] wr).alloc _).then hU1 (by simp); have yq := HYQ.out w1 hw1)
          | (refine load_T _ rfl _ rfl _ _ rfl hT1 rfl ?_))
        have hKw : Kp b wr w1 := hw1.toKp b (by omega)
        refine (IH.out w1 b p q r (l ++ (txC (I.take k)).drop 1) [q0, q1, q2, q3, q4, q5, q6] I[k] (InB.below hKw.below _ _ _ HIN.out) HOK.out HSZ.out (by have := HLN.out; simp at this ⊢; omega) (HG2.out.below hKw.below) (HT2.out.upd hw1)).mono ?_
        rintro e w4 ⟨rfl, hT4, hK4⟩
        have HT4 : Hid (TS w4 b p q r (l ++ (txC (I.take (k + 1))).drop 1)) := by
          have e := txC_drop I k hlt
          rw [if_pos HZ.out, List.nil_append] at e
          show TS _ _ _ _ _ _
          rw [e, ← List.append_assoc]
          exact hT4
        have HK4 : Hid (Kp b w w4) := (HK.out.trans hKw).trans hK4
        clear hT4 hK4 hKw yq hw1 hU1 hT1 xq0 xq1 xq2 xq3 xq4 xq5 xq6 tbz
        go_wp2
        go_roundw
        case rel => exact ⟨k + 1, by omega, by go_num, HT4.out, HK4.out⟩
        case measure => simp [intOf]; omega
      · have h0' : 0 < k := by omega
        go_wp2_with (first
          | (refine store_T _ rfl _ _ rfl _ #[q0, q1, q2, q3, q4, q5, q6] _ rfl rfl tbz rfl rfl hone ?_; intro w1 hT1 hU1; have hw1 : Upd [] wr w1 := ((Upd.refl [] wr).alloc _).then hU1 (by simp); have yq := HYP.out w1 hw1)
          | (refine load_T _ rfl _ rfl _ _ rfl hT1 rfl ?_))
        have hKw : Kp b wr w1 := hw1.toKp b (by omega)
        have hTw := HT2.out.upd hw1
        refine (put_one hTw [44] (by have := HLN.out; simp at this ⊢; omega)).mono ?_
        rintro e w3 ⟨rfl, hT3, hK3⟩
        have tb3 : Tb w3 wr.heap.size #[q0, q1, q2, q3, q4, q5, q6] := hT1.kp hTw.bd hK3
        have yq3 := hT3.wr.cell
        have HT3 : Hid _ := hT3
        have HK3 : Hid (Kp b wr w3) := hKw.trans hK3
        clear yq hT3 hK3 hTw hKw hw1 hU1 hT1 xq0 xq1 xq2 xq3 xq4 xq5 xq6 tbz
        go_wp2_with (refine load_T _ rfl _ rfl _ _ rfl tb3 rfl ?_)
        refine (IH.out w3 b p q r (l ++ (txC (I.take k)).drop 1 ++ [44]) [q0, q1, q2, q3, q4, q5, q6] I[k] (InB.below HK3.out.below _ _ _ HIN.out) HOK.out HSZ.out (by have := HLN.out; simp at this ⊢; omega) (HG2.out.below HK3.out.below) HT3.out).mono ?_
        rintro e w4 ⟨rfl, hT4, hK4⟩
        have HT4 : Hid (TS w4 b p q r (l ++ (txC (I.take (k + 1))).drop 1)) := by
          have e := txC_drop I k hlt
          rw [if_neg h0] at e
          show TS _ _ _ _ _ _
          rw [e, ← List.append_assoc, ← List.append_assoc]
          exact hT4
        have HK4 : Hid (Kp b w w4) := (HK.out.trans HK3.out).trans hK4
        clear hT4 hK4 yq3 tb3
        go_wp2
        go_roundw
        case rel => exact ⟨k + 1, by omega, by go_num, HT4.out, HK4.out⟩
        case measure => simp [intOf]; omega
    · have hd : decide ((k : Int) < (I.length : Int)) = false := by simp; omega
      have HE : Hid (I.take k = I) := List.take_of_length_le (by omega)
      clear HA2
      go_wp2
      go_end0
      have h2 := HT2.out
      rw [HE.out] at h2
      exact ⟨rfl, h2, HK.out⟩
end Go.Proofs.YtaoipmmeialpnaaGreatDoor
