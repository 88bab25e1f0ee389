/- Text. -/
import Derived.Test.YtnpocmhaoaigfaaGreatDoorJAS
import Derived.Test.YtnpocmhaoaigfaaGreatDoorAddT

namespace Go.Proofs.YtnpocmhaoaigfaaGreatDoor
open Go.RowKit

set_option maxHeartbeats 400000 in
set_option maxRecDepth 100000 in
/-- Text, of what is not right: nothing. -/
theorem Text_bad (k num : Int) (neg : Bool) (L : List Nat) (s : ByteArray) (a ai at' : Option Addr) (c ni ci nt ct : Nat) (w : World) (hn2 : L.length ≤ 9223372036854775807) (HL : At w a L) (hni : ni ≤ 9223372036854775807) (hnt : nt ≤ 9223372036854775807) (hbad : okT k neg L s num ni nt = false) :
    Calls Tryz.prog 16 #[.agg #[.int .u8 k, .bool neg, .slice a L.length c, .string s, .int .i64 num, .slice ai ni ci, .slice at' nt ct]] w fun e w' => e = .returned (.string ⟨#[]⟩) ∧ Upd [] w w' := by
  have HR := Right_any k num neg L s a ai at' c ni ci nt ct (w.alloc (.cells #[.int .u8 k, .bool neg, .slice a L.length c, .string s, .int .i64 num, .slice ai ni ci, .slice at' nt ct] 26)) hn2 (HL.mono ((Upd.refl [] w).alloc _)) hni hnt
  rw [hbad] at HR
  clear hbad HL
  go_enter Tryz.func16, Tryz.ntmps16
  go_wp2_with fail
  refine HR.mono ?_
  rintro e w1 ⟨rfl, rfl⟩
  clear HR
  go_wp2
  go_ret
  exact ⟨rfl, ((Upd.refl [] w).alloc _).alloc _⟩

set_option maxHeartbeats 400000 in
set_option maxRecDepth 100000 in
theorem Text_zero (a ai at' : Option Addr) (c ci ct : Nat) (neg : Bool) (w : World) (HT : TI w neg a [] 0) :
    Calls Tryz.prog 16 #[.agg #[.int .u8 1, .bool neg, .slice a 0 c, .string ⟨#[]⟩, .int .i64 0, .slice ai 0 ci, .slice at' 0 ct]] w fun e w' => e = .returned (.string ⟨#[48]⟩) ∧ Upd [] w w' := by
  have HR : Hid (∀ W, Upd [] w W → _) := fun W hu => HT.right (W := W) ai at' c ci ct hu
  clear HT
  go_enter Tryz.func16, Tryz.ntmps16
  go_wp2_with fail
  refine (HR.out _ ((Upd.refl [] w).alloc _)).mono ?_
  rintro e w1 ⟨rfl, rfl⟩
  go_wp2
  go_ret
  exact ⟨rfl, ((Upd.refl [] w).alloc _).alloc _⟩

set_option maxHeartbeats 1000000 in
set_option maxRecDepth 100000 in
theorem Text_pos (a ai at' : Option Addr) (c ci ct : Nat) (neg : Bool) (L : List Nat) (z : Int) (w : World) (HT : TI w neg a L z) (hz : z ≠ 0) (hneg : neg = false) :
    Calls Tryz.prog 16 #[.agg #[.int .u8 1, .bool neg, .slice a L.length c, .string ⟨#[]⟩, .int .i64 0, .slice ai 0 ci, .slice at' 0 ct]] w fun e w' => Upd [] w w' ∧ ∃ T, e = .returned (.string (bs T)) ∧ IsDec T z.natAbs := by
  have HR : Hid (∀ W, Upd [] w W → _) := fun W hu => HT.right (W := W) ai at' c ci ct hu
  have HTT : Hid _ := HT
  have hl : ((L.length : Int) == 0) = false := by
    have : L ≠ [] := fun e => hz (by have := HT.norm.nil_iff.1 e; omega)
    cases L with
    | nil => exact absurd rfl this
    | cons x t => simp; omega
  have hL := HT.len
  clear HT
  subst hneg
  go_enter Tryz.func16, Tryz.ntmps16
  go_wp2_with fail
  refine (HR.out _ ((Upd.refl [] w).alloc _)).mono ?_
  rintro e w1 ⟨rfl, rfl⟩
  go_wp2_with fail
  obtain ⟨W, hW⟩ : ∃ W, W = ((w.alloc (.cells #[.int .u8 1, .bool false, .slice a L.length c, .string ⟨#[]⟩, .int .i64 0, .slice ai 0 ci, .slice at' 0 ct] 26)).alloc (.cells #[.int .u8 1, .bool false, .slice a L.length c, .string ⟨#[]⟩, .int .i64 0, .slice ai 0 ci, .slice at' 0 ct] 26)) := ⟨_, rfl⟩
  have hUW : Upd [] w W := by rw [hW]; exact ((Upd.refl [] w).alloc _).alloc _
  have tA : Tb W w.heap.size #[.int .u8 1, .bool false, .slice a L.length c, .string ⟨#[]⟩, .int .i64 0, .slice ai 0 ci, .slice at' 0 ct] := by rw [hW]; exact (Tb.new w _ _ rfl).old _
  rw [← hW]
  clear hW
  refine (digitsUp_any a c z.natAbs L W hL (HTT.out.mem.mono hUW) HTT.out.norm HTT.out.small).mono ?_
  rintro e w2 ⟨hU2, v, D, rfl, hOB, hD, hdv, hDl⟩
  have hDne : D ≠ [] := fun e => by rw [e] at hdv; simp [dval] at hdv; omega
  obtain ⟨g, cap, R, rfl, hbg, hc1, hc2, hcr, hrow⟩ := hOB.row hDne
  have hcA : w2.cell? ⟨w.heap.size, 1, none⟩ = some (.bool false) := (hU2.cell (p := ⟨w.heap.size, 1, none⟩) tA.lt (by simp)).trans (tA.cell 1)
  go_wp2_with fail
  refine (TrimRight_any g cap D w2 hDl hc1 hc2 (fun i hi => hrow.cell i hi) (exists_nz (by omega))).mono ?_
  rintro e w3 ⟨rfl, m, hm0, hml, hz3, ht3, rfl⟩
  have nD := normD_take hD hdv hm0 hml hz3 ht3
  have hr3 := hrow.take m
  have hlt : (D.take m).length = m := by simp; omega
  have hrev := Reverse_any g cap (D.take m) _ w3 (by omega) (by omega) hr3
  rw [hlt] at hrev
  have HREV : Hid (Calls _ _ _ _ _) := hrev
  clear hrev hz3 ht3 hOB
  go_wp2_with fail
  refine (Hid.out HREV).mono ?_
  rintro e w4 ⟨rfl, hr4, hU4⟩
  have hd256 : ∀ c, c ∈ (D.take m).reverse → c < 256 := fun c hc => by
    have := nD.dig c (List.mem_reverse.1 hc); omega
  have hconv := hr4.conv (cap := cap) hd256
  rw [List.length_reverse, hlt] at hconv
  go_wp2
  go_ret
  refine ⟨(hUW.trans hU2).then hU4 (by have := hUW.size; simp; omega), (D.take m).reverse, rfl, Or.inr ⟨by omega, by rw [List.reverse_reverse]; exact nD⟩⟩

end Go.Proofs.YtnpocmhaoaigfaaGreatDoor

/- Text, of an integer below 0; and Text whole. -/
namespace Go.Proofs.YtnpocmhaoaigfaaGreatDoor
open Go.RowKit

set_option maxHeartbeats 1000000 in
set_option maxRecDepth 100000 in
theorem Text_neg (a ai at' : Option Addr) (c ci ct : Nat) (neg : Bool) (L : List Nat) (z : Int) (w : World) (HT : TI w neg a L z) (hz : z ≠ 0) (hneg : neg = true) :
    Calls Tryz.prog 16 #[.agg #[.int .u8 1, .bool neg, .slice a L.length c, .string ⟨#[]⟩, .int .i64 0, .slice ai 0 ci, .slice at' 0 ct]] w fun e w' => Upd [] w w' ∧ ∃ T, e = .returned (.string (bs (45 :: T))) ∧ IsDec T z.natAbs := by
  have HR : Hid (∀ W, Upd [] w W → _) := fun W hu => HT.right (W := W) ai at' c ci ct hu
  have HTT : Hid _ := HT
  have hl : ((L.length : Int) == 0) = false := by
    have : L ≠ [] := fun e => hz (by have := HT.norm.nil_iff.1 e; omega)
    cases L with
    | nil => exact absurd rfl this
    | cons x t => simp; omega
  have hL := HT.len
  clear HT
  subst hneg
  go_enter Tryz.func16, Tryz.ntmps16
  go_wp2_with fail
  refine (HR.out _ ((Upd.refl [] w).alloc _)).mono ?_
  rintro e w1 ⟨rfl, rfl⟩
  go_wp2_with fail
  obtain ⟨W, hW⟩ : ∃ W, W = ((w.alloc (.cells #[.int .u8 1, .bool true, .slice a L.length c, .string ⟨#[]⟩, .int .i64 0, .slice ai 0 ci, .slice at' 0 ct] 26)).alloc (.cells #[.int .u8 1, .bool true, .slice a L.length c, .string ⟨#[]⟩, .int .i64 0, .slice ai 0 ci, .slice at' 0 ct] 26)) := ⟨_, rfl⟩
  have hUW : Upd [] w W := by rw [hW]; exact ((Upd.refl [] w).alloc _).alloc _
  have tA : Tb W w.heap.size #[.int .u8 1, .bool true, .slice a L.length c, .string ⟨#[]⟩, .int .i64 0, .slice ai 0 ci, .slice at' 0 ct] := by rw [hW]; exact (Tb.new w _ _ rfl).old _
  rw [← hW]
  clear hW
  refine (digitsUp_any a c z.natAbs L W hL (HTT.out.mem.mono hUW) HTT.out.norm HTT.out.small).mono ?_
  rintro e w2 ⟨hU2, v, D, rfl, hOB, hD, hdv, hDl⟩
  have hDne : D ≠ [] := fun e => by rw [e] at hdv; simp [dval] at hdv; omega
  obtain ⟨g, cap, R, rfl, hbg, hc1, hc2, hcr, hrow⟩ := hOB.row hDne
  have hcA : w2.cell? ⟨w.heap.size, 1, none⟩ = some (.bool true) := (hU2.cell (p := ⟨w.heap.size, 1, none⟩) tA.lt (by simp)).trans (tA.cell 1)
  go_wp2_with fail
  refine (TrimRight_any g cap D w2 hDl hc1 hc2 (fun i hi => hrow.cell i hi) (exists_nz (by omega))).mono ?_
  rintro e w3 ⟨rfl, m, hm0, hml, hz3, ht3, rfl⟩
  have nD := normD_take hD hdv hm0 hml hz3 ht3
  have hr3 := hrow.take m
  have hlt : (D.take m).length = m := by simp; omega
  have hown := hr3.owns (base := W.heap.size) (cap := cap) hbg (by simp; omega) hc2
  have hown' : w3.ownsRow W.heap.size 5 1 (.slice (some ⟨g, 0, none⟩) m cap) m ((D.take m).map (fun n => Value.int .u8 (n : Nat))) := by
    have h := hown
    unfold OB at h
    rw [hlt] at h
    exact h
  clear hown hz3 ht3 hOB hr3
  obtain ⟨i0, hi, hz0, hz1, hz2⟩ := info_parts info_u8
  have hszW := hU2.size
  go_wp2_with (at_builtin; refine wpList_append_own _ rfl _ _ 52 rfl W.heap.size 5 i0 (.int .u8 0) 1 1 Tryz.underlying52 hi hz0 hz1 hz2 rfl (by decide) _ _ _ rfl (hown'.alloc _) ⟨w3.heap.size, 0, none⟩ 1 1 [.int .u8 45] rfl rfl (cell_one_new _ _ _) (by intro u hu; simp at hu; subst hu; rfl) (by unfold maxLen; omega) (by omega) (by simp; omega) ?_; intro v' w4 hown4 hgrow _)
  have hOB4 : OB w4 W.heap.size v' (D.take m ++ [45]) := by
    unfold OB
    rw [List.map_append, List.length_append, hlt]
    exact hown4
  have hgrow2 : (w3.alloc (.cells #[.int .u8 45] 5)).grownBy w4 (some g) := hgrow
  have hU34 : Upd [g] w3 w4 := ((Upd.refl [g] w3).alloc _).grown hgrow2 (fun k hk => Or.inr (by cases hk; simp))
  obtain ⟨g2, cap2, R2, rfl, hbg2, hc21, hc22, hcr2, hrow2⟩ := hOB4.row (by simp)
  clear hown4 hgrow hgrow2 hown' hOB4
  have hlt2 : (D.take m ++ [45]).length = m + 1 := by rw [List.length_append, hlt]; rfl
  have hrev := Reverse_any g2 cap2 (D.take m ++ [45]) _ w4 (by omega) (by omega) hrow2
  have HREV : Hid (Calls _ _ _ _ _) := hrev
  clear hrev
  refine (Hid.out HREV).mono ?_
  rintro e w5 ⟨rfl, hr5, hU5⟩
  have hd256 : ∀ c, c ∈ (D.take m ++ [45]).reverse → c < 256 := fun c hc => by
    rcases List.mem_append.1 (List.mem_reverse.1 hc) with h | h
    · have := nD.dig c h; omega
    · simp at h; omega
  have hconv := hr5.conv (cap := cap2) hd256
  rw [List.length_reverse] at hconv
  have hconv2 := hconv
  rw [hlt2] at hconv2
  go_wp2
  go_ret
  refine ⟨?_, (D.take m).reverse, ?_, Or.inr ⟨by omega, by rw [List.reverse_reverse]; exact nD⟩⟩
  · exact ((hUW.trans hU2).then hU34 (by have := hUW.size; simp; omega)).then hU5 (by have := hUW.size; simp; omega)
  · rfl

/-- Text, of a right integer. -/
theorem Text_any (a ai at' : Option Addr) (c ci ct : Nat) (neg : Bool) (L : List Nat) (z : Int) (w : World) (HT : TI w neg a L z) :
    Calls Tryz.prog 16 #[.agg #[.int .u8 1, .bool neg, .slice a L.length c, .string ⟨#[]⟩, .int .i64 0, .slice ai 0 ci, .slice at' 0 ct]] w fun e w' => Upd [] w w' ∧ ∃ T, e = .returned (.string (bs T)) ∧ IsText T z := by
  by_cases hz : z = 0
  · subst hz
    have e : L = [] := HT.norm.nil_iff.2 rfl
    subst e
    refine (Text_zero a ai at' c ci ct neg w HT).mono ?_
    rintro e w' ⟨rfl, hU⟩
    exact ⟨hU, [48], rfl, [48], by simp, Or.inl ⟨rfl, rfl⟩⟩
  · by_cases hn : z < 0
    · have e : neg = true := by rw [HT.sgn]; simp [hn]
      refine (Text_neg a ai at' c ci ct neg L z w HT hz e).mono ?_
      rintro e w' ⟨hU, T, rfl, hT⟩
      exact ⟨hU, 45 :: T, rfl, T, by rw [if_pos hn], hT⟩
    · have e : neg = false := by rw [HT.sgn]; simp [hn]
      refine (Text_pos a ai at' c ci ct neg L z w HT hz e).mono ?_
      rintro e w' ⟨hU, T, rfl, hT⟩
      exact ⟨hU, T, rfl, T, by rw [if_neg hn], hT⟩

end Go.Proofs.YtnpocmhaoaigfaaGreatDoor
