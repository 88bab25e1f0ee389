/- write, of tuples and lists, by its contract. -/
import Derived.Test.YtabknipgbmdipaaGreatDoorTxtC
namespace Go.Proofs.YtabknipgbmdipaaGreatDoor
open Go.RowKit

/-- Texts with commas between. -/
noncomputable def txI (I : List Tm) : List UInt8 := (txC I).drop 1
theorem txI_len (I : List Tm) : (txC I).length ≤ (txI I).length + 1 := by unfold txI; rw [List.length_drop]; omega

set_option maxHeartbeats 1000000 in
set_option maxRecDepth 100000 in
theorem wr_tuple (d : Nat) (ih : WriteSaid d) (w : World) (b p q r : Nat) (l : List UInt8) (a ai at' : Option Addr) (n1 c ci n3 ct : Nat) (neg : Bool) (s : ByteArray) (num : Int) (I : List Tm)
    (hI : RowB (fun x => x < b) (InB (fun x => x < b) w d) w ai I) (hok : okR I = true) (hs : tszs I ≤ 1353245080330) (hG : GlbB b w) (hT : TS w b p q r l) (hlen : l.length + (123 :: (txI I ++ [125])).length ≤ 140737488355328) :
    Calls Tryz.prog 45 #[.agg #[.int .u8 6, .bool neg, .slice a n1 c, .string s, .int .i64 num, .slice ai I.length ci, .slice at' n3 ct], .pointer (some ⟨p, 0, none⟩), .pointer (some ⟨r, 0, none⟩), .pointer (some ⟨q, 0, none⟩)] w (WrP w b p q r l (123 :: (txI I ++ [125]))) := by
  have hcall1 : ∀ args w, (callFunc 42 args).run Tryz.prog w = .ok (.enter 42 args) w := Tryz.call42
  have hcall2 : ∀ args w, (callFunc 44 args).run Tryz.prog w = .ok (.enter 44 args) w := Tryz.call44
  have tb0 : Tb (w.alloc (.cells #[.int .u8 6, .bool neg, .slice a n1 c, .string s, .int .i64 num, .slice ai I.length ci, .slice at' n3 ct] 26)) w.heap.size #[.int .u8 6, .bool neg, .slice a n1 c, .string s, .int .i64 num, .slice ai I.length ci, .slice at' n3 ct] := Tb.new _ _ _ rfl
  have hU1 : Upd [] w (w.alloc (.cells #[.int .u8 6, .bool neg, .slice a n1 c, .string s, .int .i64 num, .slice ai I.length ci, .slice at' n3 ct] 26)) := (Upd.refl [] w).alloc _
  simp only [List.length_cons, List.length_append, List.length_nil] at hlen
  have htl := txI_len I
  have HR : Hid (∀ W, Kp b w W → TS W b p q r (l ++ [123]) → Calls Tryz.prog 44 #[.slice ai I.length ci, .pointer (some ⟨p, 0, none⟩), .pointer (some ⟨q, 0, none⟩)] W (WrP W b p q r (l ++ [123]) (txI I))) := fun W hK hT2 =>
    row_in d ih W b p q r (l ++ [123]) ai ci I (RowB.below hK.below hI) hok hs (by simp only [List.length_append, List.length_singleton]; omega) (hG.below hK.below) hT2
  have hbz := hT.bd.lt
  have HT : Hid (TS w b p q r l) := hT
  have HL : Hid _ := hlen
  clear hok hs hG hT hlen hI ih
  have hTW := HT.out.upd hU1
  have yp : (w.alloc (.cells #[.int .u8 6, .bool neg, .slice a n1 c, .string s, .int .i64 num, .slice ai I.length ci, .slice at' n3 ct] 26)).cell? ⟨p, 0, none⟩ = some (.func (.func 42) #[] #[.pointer (some ⟨b, 0, none⟩)]) := hTW.put.cell
  have hK1 := hU1.toKp b (Nat.le_of_lt hbz)
  have HTW : Hid _ := hTW
  have HK1 : Hid _ := hK1
  have HTB : Hid (Tb _ w.heap.size #[.int .u8 6, .bool neg, .slice a n1 c, .string s, .int .i64 num, .slice ai I.length ci, .slice at' n3 ct]) := tb0
  clear hTW hK1 tb0 hU1
  go_enter Tryz.func45, Tryz.ntmps45
  go_wp2_with fail
  refine (put_one_at HTW.out [123] (by have := HL.out; simp only [List.length_singleton]; omega) (w.heap.size + 1) (by simp) ⟨#[123]⟩ rfl).mono ?_
  rintro e w2 ⟨rfl, hT2, hK2⟩
  have tb2 := Tb.kp HTB.out HTW.out.bd hK2
  have x5 : w2.cell? ⟨w.heap.size, 5, none⟩ = some (.slice ai I.length ci) := tb2.cell 5
  have yr : w2.cell? ⟨r, 0, none⟩ = some (.func (.func 44) #[] #[.pointer (some ⟨p, 0, none⟩), .pointer (some ⟨q, 0, none⟩)]) := hT2.row.cell
  have HT2 : Hid (TS w2 b p q r (l ++ [123])) := hT2
  have HK2 : Hid (Kp b w w2) := HK1.out.trans hK2
  clear hT2 hK2 tb2 yp
  go_wp2_with fail
  refine (HR.out w2 HK2.out HT2.out).mono ?_
  rintro e w3 ⟨rfl, hT3, hK3⟩
  have yp3 : w3.cell? ⟨p, 0, none⟩ = some (.func (.func 42) #[] #[.pointer (some ⟨b, 0, none⟩)]) := hT3.put.cell
  have HT3 : Hid (TS w3 b p q r (l ++ [123] ++ txI I)) := hT3
  have HK3 : Hid (Kp b w w3) := HK2.out.trans hK3
  clear hT3 hK3 x5 yr
  go_wp2_with fail
  refine (put_one HT3.out [125] (by have := HL.out; simp only [List.length_append, List.length_singleton]; omega)).mono ?_
  rintro e w4 ⟨rfl, hT4, hK4⟩
  go_wp2
  go_end0
  refine ⟨rfl, ?_, HK3.out.trans hK4⟩
  have e : l ++ 123 :: (txI I ++ [125]) = l ++ [123] ++ txI I ++ [125] := by simp
  rw [e]
  exact hT4
end Go.Proofs.YtabknipgbmdipaaGreatDoor
