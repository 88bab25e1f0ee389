/- Text. -/
import Derived.Test.YtpjlhpopoacjdaaDoorJB
import Derived.Test.YtpjlhpopoacjdaaDoorTrmR
import Derived.Test.YtpjlhpopoacjdaaDoorAddT
namespace Go.Proofs.YtpjlhpopoacjdaaDoor
open Go.RowKit

set_option maxHeartbeats 400000 in
set_option maxRecDepth 100000 in
/-- Text, of what is not right: nothing. -/
theorem Text_bad (k num : Int) (neg : Bool) (L : List Nat) (s : ByteArray) (a ai at' : Option Addr) (c ni ci nt ct : Nat) (w : World) (hn2 : L.length ≤ 9223372036854775807) (HL : At w a L) (hni : ni ≤ 9223372036854775807) (hnt : nt ≤ 9223372036854775807) (hbad : okT k neg L s num ni nt = false) :
    Calls Tryd.prog 30 #[.agg #[.int .u8 k, .bool neg, .slice a L.length c, .string s, .int .i64 num, .slice ai ni ci, .slice at' nt ct]] w fun e w' => e = .returned (.string ⟨#[]⟩) ∧ Upd [] w w' := by
  have HR := Right_any k num neg L s a ai at' c ni ci nt ct (w.alloc (.cells #[.int .u8 k, .bool neg, .slice a L.length c, .string s, .int .i64 num, .slice ai ni ci, .slice at' nt ct] 26)) hn2 (HL.mono ((Upd.refl [] w).alloc _)) hni hnt
  rw [hbad] at HR
  clear hbad HL
  go_enter Tryd.func30, Tryd.ntmps30
  go_wp2_with fail
  refine HR.mono ?_
  rintro e w1 ⟨rfl, rfl⟩
  clear HR
  go_wp2
  go_ret
  exact ⟨rfl, ((Upd.refl [] w).alloc _).alloc _⟩

set_option maxHeartbeats 400000 in
set_option maxRecDepth 100000 in
theorem Text_zero (a ai at' : Option Addr) (c ci ct : Nat) (neg : Bool) (w : World) (HT : TI w neg a [] 0) :
    Calls Tryd.prog 30 #[.agg #[.int .u8 1, .bool neg, .slice a 0 c, .string ⟨#[]⟩, .int .i64 0, .slice ai 0 ci, .slice at' 0 ct]] w fun e w' => e = .returned (.string ⟨#[48]⟩) ∧ Upd [] w w' := by
  have HR : Hid (∀ W, Upd [] w W → _) := fun W hu => HT.right (W := W) ai at' c ci ct hu
  clear HT
  go_enter Tryd.func30, Tryd.ntmps30
  go_wp2_with fail
  refine (HR.out _ ((Upd.refl [] w).alloc _)).mono ?_
  rintro e w1 ⟨rfl, rfl⟩
  go_wp2
  go_ret
  exact ⟨rfl, ((Upd.refl [] w).alloc _).alloc _⟩

set_option maxHeartbeats 1000000 in
set_option maxRecDepth 100000 in
theorem Text_pos (a ai at' : Option Addr) (c ci ct : Nat) (neg : Bool) (L : List Nat) (z : Int) (w : World) (HT : TI w neg a L z) (hz : z ≠ 0) (hneg : neg = false) :
    Calls Tryd.prog 30 #[.agg #[.int .u8 1, .bool neg, .slice a L.length c, .string ⟨#[]⟩, .int .i64 0, .slice ai 0 ci, .slice at' 0 ct]] w fun e w' => Upd [] w w' ∧ ∃ T, e = .returned (.string (bs T)) ∧ IsDec T z.natAbs := by
  have HR : Hid (∀ W, Upd [] w W → _) := fun W hu => HT.right (W := W) ai at' c ci ct hu
  have HTT : Hid _ := HT
  have hl : ((L.length : Int) == 0) = false := by
    have : L ≠ [] := fun e => hz (by have := HT.norm.nil_iff.1 e; omega)
    cases L with
    | nil => exact absurd rfl this
    | cons x t => simp; omega
  have hL := HT.len
  clear HT
  subst hneg
  go_enter Tryd.func30, Tryd.ntmps30
  go_wp2_with fail
  refine (HR.out _ ((Upd.refl [] w).alloc _)).mono ?_
  rintro e w1 ⟨rfl, rfl⟩
  go_wp2_with fail
  obtain ⟨W, hW⟩ : ∃ W, W = ((w.alloc (.cells #[.int .u8 1, .bool false, .slice a L.length c, .string ⟨#[]⟩, .int .i64 0, .slice ai 0 ci, .slice at' 0 ct] 26)).alloc (.cells #[.int .u8 1, .bool false, .slice a L.length c, .string ⟨#[]⟩, .int .i64 0, .slice ai 0 ci, .slice at' 0 ct] 26)) := ⟨_, rfl⟩
  have hUW : Upd [] w W := by rw [hW]; exact ((Upd.refl [] w).alloc _).alloc _
  have tA : Tb W w.heap.size #[.int .u8 1, .bool false, .slice a L.length c, .string ⟨#[]⟩, .int .i64 0, .slice ai 0 ci, .slice at' 0 ct] := by rw [hW]; exact (Tb.new w _ _ rfl).old _
  rw [← hW]
  clear hW
  refine (digitsUp_any a c z.natAbs L W hL (HTT.out.mem.mono hUW) HTT.out.norm HTT.out.small).mono ?_
  rintro e w2 ⟨hU2, v, D, rfl, hOB, hD, hdv, hDl⟩
  have hDne : D ≠ [] := fun e => by rw [e] at hdv; simp [dval] at hdv; omega
  obtain ⟨g, cap, R, rfl, hbg, hc1, hc2, hcr, hrow⟩ := hOB.row hDne
  have hcA : w2.cell? ⟨w.heap.size, 1, none⟩ = some (.bool false) := (hU2.cell (p := ⟨w.heap.size, 1, none⟩) tA.lt (by simp)).trans (tA.cell 1)
  go_wp2_with fail
  refine (TrimRight_any g cap D w2 hDl hc1 hc2 (fun i hi => hrow.cell i hi) (exists_nz (by omega))).mono ?_
  rintro e w3 ⟨rfl, m, hm0, hml, hz3, ht3, rfl⟩
  have nD := normD_take hD hdv hm0 hml hz3 ht3
  have hr3 := hrow.take m
  have hlt : (D.take m).length = m := by simp; omega
  have hrev := Reverse_any g cap (D.take m) _ w3 (by omega) (by omega) hr3
  rw [hlt] at hrev
  have HREV : Hid (Calls _ _ _ _ _) := hrev
  clear hrev hz3 ht3 hOB
  go_wp2_with fail
  refine (Hid.out HREV).mono ?_
  rintro e w4 ⟨rfl, hr4, hU4⟩
  have hd256 : ∀ c, c ∈ (D.take m).reverse → c < 256 := fun c hc => by
    have := nD.dig c (List.mem_reverse.1 hc); omega
  have hconv := hr4.conv (cap := cap) hd256
  rw [List.length_reverse, hlt] at hconv
  go_wp2
  go_ret
  refine ⟨(hUW.trans hU2).then hU4 (by have := hUW.size; simp; omega), (D.take m).reverse, rfl, Or.inr ⟨by omega, by rw [List.reverse_reverse]; exact nD⟩⟩

end Go.Proofs.YtpjlhpopoacjdaaDoor
