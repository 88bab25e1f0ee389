/- signed, fitting, rightLimbs, Right. -/
import Derived.Test.YtnpocmhaoaigfaaGreatDoorJAA
namespace Go.Proofs.YtnpocmhaoaigfaaGreatDoor
open Go.RowKit

set_option maxHeartbeats 400000 in
set_option maxRecDepth 100000 in
theorem signed_any (a : Option Addr) (n c : Nat) (neg : Bool) (w : World) (_hn : n ≤ 100000) :
    Calls Tryz.prog 51 #[.slice a n c, .bool neg] w fun e w' => e = .returned (.agg #[.int .u8 1, .bool (neg && decide (0 < n)), .slice a n c, .string ⟨#[]⟩, .int .i64 0, .slice none 0 0, .slice none 0 0]) ∧ Upd [] w w' := by
  cases neg
  all_goals
    go_enter Tryz.func51, Tryz.ntmps51
    go_wp2
    exact bodyPost_ret (by simp [results, Tryz.results51, go_sem]) rfl ⟨rfl, (Upd.refl _ _).alloc _⟩

set_option maxHeartbeats 400000 in
set_option maxRecDepth 100000 in
theorem fitting_yes (a : Option Addr) (n c : Nat) (neg : Bool) (w : World) (hn : n ≤ 32) :
    Calls Tryz.prog 129 #[.slice a n c, .bool neg] w fun e w' => e = .returned (.tuple #[.agg #[.int .u8 1, .bool (neg && decide (0 < n)), .slice a n c, .string ⟨#[]⟩, .int .i64 0, .slice none 0 0, .slice none 0 0], .bool true]) ∧ Upd [] w w' := by
  obtain ⟨s, hs⟩ : ∃ s, s = (neg && decide (0 < n)) := ⟨_, rfl⟩
  have hc := signed_any a n c neg (w.alloc (.cells #[.int .u8 0, .bool false, .slice none 0 0, .string ⟨#[]⟩, .int .i64 0, .slice none 0 0, .slice none 0 0] 26)) (by omega)
  rw [← hs] at hc ⊢
  clear hs
  go_enter Tryz.func129, Tryz.ntmps129
  go_wp2_with fail
  refine hc.mono ?_
  rintro e w1 ⟨rfl, hU⟩
  clear hc
  have hT := (Tb.new w #[.int .u8 0, .bool false, .slice none 0 0, .string ⟨#[]⟩, .int .i64 0, .slice none 0 0, .slice none 0 0] _ rfl).mono hU (by simp)
  have hU2 := ((Upd.refl [] w).alloc (.cells #[.int .u8 0, .bool false, .slice none 0 0, .string ⟨#[]⟩, .int .i64 0, .slice none 0 0, .slice none 0 0] 26)).trans hU
  clear hU
  go_wp2_with (refine store_V _ rfl _ _ rfl _ _ _ _ _ _ _ _ _ _ _ _ _ _ _ rfl rfl hT rfl ?_; intro w2 hT2 hU3)
  exact ret_Tb Tryz.results129 rfl _ _ _ rfl hT2 rfl rfl ⟨rfl, hU2.then hU3 (by simp)⟩

set_option maxHeartbeats 400000 in
set_option maxRecDepth 100000 in
theorem fitting_no (a : Option Addr) (n c : Nat) (neg : Bool) (w : World) (hn : 32 < n) (hn2 : n ≤ 100000) :
    Calls Tryz.prog 129 #[.slice a n c, .bool neg] w fun e w' => e = .returned (.tuple #[(.agg #[.int .u8 0, .bool false, .slice none 0 0, .string ⟨#[]⟩, .int .i64 0, .slice none 0 0, .slice none 0 0]), .bool false]) ∧ Upd [] w w' := by
  go_enter Tryz.func129, Tryz.ntmps129
  go_wp2
  exact ret_Tb Tryz.results129 rfl _ _ _ rfl (Tb.new _ _ _ rfl) rfl rfl ⟨rfl, (Upd.refl _ _).alloc _⟩

/-- Are these a right integer's limbs and sign? -/
def limbsOk (neg : Bool) (L : List Nat) : Bool := if L.length = 0 then !neg else decide (L.length ≤ 32) && decide (L.getD (L.length - 1) 0 ≠ 0)

set_option maxHeartbeats 400000 in
set_option maxRecDepth 100000 in
theorem rightLimbs_zero (a : Option Addr) (c : Nat) (neg : Bool) (w : World) :
    Calls Tryz.prog 21 #[.slice a 0 c, .bool neg] w fun e w' => e = .returned (.bool (!neg)) ∧ w' = w := by
  go_enter Tryz.func21, Tryz.ntmps21
  go_wp2
  go_ret
  exact ⟨rfl, rfl⟩

set_option maxHeartbeats 400000 in
set_option maxRecDepth 100000 in
theorem rightLimbs_many (a : Option Addr) (n c : Nat) (neg : Bool) (w : World) (hn : 32 < n) (hn2 : n ≤ 9223372036854775807) :
    Calls Tryz.prog 21 #[.slice a n c, .bool neg] w fun e w' => e = .returned (.bool false) ∧ w' = w := by
  have h1 : decide ((n : Int) ≤ 32) = false := by simp; omega
  go_enter Tryz.func21, Tryz.ntmps21
  go_wp2
  go_ret
  exact ⟨rfl, rfl⟩

set_option maxHeartbeats 400000 in
set_option maxRecDepth 100000 in
theorem rightLimbs_some (b o n c x : Nat) (neg : Bool) (w : World) (hn0 : 0 < n) (hn : n ≤ 32) (hc : w.cell? ⟨b, o + (n - 1), none⟩ = some (.int .u32 (x : Nat))) :
    Calls Tryz.prog 21 #[.slice (some ⟨b, o, none⟩) n c, .bool neg] w fun e w' => e = .returned (.bool (decide (x ≠ 0))) ∧ w' = w := by
  have e : decide (x ≠ 0) = ((x : Int) != 0) := by by_cases h : x = 0 <;> simp [h]
  rw [e]
  clear e
  go_enter Tryz.func21, Tryz.ntmps21
  go_wp2
  go_ret
  exact ⟨rfl, rfl⟩

theorem rightLimbs_any (a : Option Addr) (c : Nat) (neg : Bool) (L : List Nat) (w : World) (hn2 : L.length ≤ 9223372036854775807) (HL : At w a L) :
    Calls Tryz.prog 21 #[.slice a L.length c, .bool neg] w fun e w' => e = .returned (.bool (limbsOk neg L)) ∧ w' = w := by
  unfold limbsOk
  by_cases h0 : L.length = 0
  · rw [if_pos h0, h0]; exact rightLimbs_zero a c neg w
  · rw [if_neg h0]
    by_cases h1 : L.length ≤ 32
    · rcases HL with h | ⟨b, o, rfl, hlt, hc⟩
      · rw [h] at h0; simp at h0
      · have := rightLimbs_some b o L.length c _ neg w (by omega) h1 (hc (L.length - 1) (by omega))
        simpa [h1] using this
    · have := rightLimbs_many a L.length c neg w (by omega) hn2
      simpa [h1] using this

/-- Is it a right integer? -/
def okT (k : Int) (neg : Bool) (L : List Nat) (s : ByteArray) (num : Int) (ni nt : Nat) : Bool :=
  (k == 1) && limbsOk neg L && decide (s.size = 0) && (num == 0) && decide (ni = 0) && decide (nt = 0)

set_option maxHeartbeats 2000000 in
set_option maxRecDepth 100000 in
/-- Right: whether it is; the argument is boxed. -/
theorem Right_any (k num : Int) (neg : Bool) (L : List Nat) (s : ByteArray) (a ai at' : Option Addr) (c ni ci nt ct : Nat) (w : World) (hn2 : L.length ≤ 9223372036854775807) (HL : At w a L) (hni : ni ≤ 9223372036854775807) (hnt : nt ≤ 9223372036854775807) :
    Calls Tryz.prog 11 #[.agg #[.int .u8 k, .bool neg, .slice a L.length c, .string s, .int .i64 num, .slice ai ni ci, .slice at' nt ct]] w fun e w' => e = .returned (.bool (okT k neg L s num ni nt)) ∧ w' = w.alloc (.cells #[.int .u8 k, .bool neg, .slice a L.length c, .string s, .int .i64 num, .slice ai ni ci, .slice at' nt ct] 26) := by
  have hr := fun W (h : At W a L) => rightLimbs_any a c neg L W hn2 h
  have hU : ∀ o, Upd [] w (w.alloc o) := fun o => (Upd.refl [] w).alloc o
  unfold okT
  obtain ⟨l, hl⟩ : ∃ l, l = limbsOk neg L := ⟨_, rfl⟩
  rw [← hl] at hr ⊢
  have HR : Hid _ := hr
  have HUU : Hid _ := hU
  have HAt : Hid _ := HL
  clear hl hr hU HL
  by_cases hk : k = 1
  · subst hk
    cases l
    · go_enter Tryz.func11, Tryz.ntmps11
      go_wp2_with fail
      refine (HR.out _ (At.mono HAt.out (HUU.out _))).mono ?_
      rintro e w1 ⟨rfl, rfl⟩
      go_wp2
      go_ret
      exact ⟨by simp, rfl⟩
    · by_cases hs : s.size = 0
      · have es : s = ⟨#[]⟩ := by
          cases s with
          | mk d => congr 1; exact Array.eq_empty_of_size_eq_zero hs
        subst es
        by_cases hnum : num = 0
        · subst hnum
          by_cases hi : ni = 0
          · subst hi
            by_cases ht : nt = 0
            · subst ht
              go_enter Tryz.func11, Tryz.ntmps11
              go_wp2_with fail
              refine (HR.out _ (At.mono HAt.out (HUU.out _))).mono ?_
              rintro e w1 ⟨rfl, rfl⟩
              go_wp2
              go_ret
              exact ⟨rfl, rfl⟩
            · have ht2 : ((nt : Int) == 0) = false := by simp [ht]
              go_enter Tryz.func11, Tryz.ntmps11
              go_wp2_with fail
              refine (HR.out _ (At.mono HAt.out (HUU.out _))).mono ?_
              rintro e w1 ⟨rfl, rfl⟩
              go_wp2
              go_ret
              exact ⟨by simp [ht], rfl⟩
          · have hi2 : ((ni : Int) == 0) = false := by simp [hi]
            go_enter Tryz.func11, Tryz.ntmps11
            go_wp2_with fail
            refine (HR.out _ (At.mono HAt.out (HUU.out _))).mono ?_
            rintro e w1 ⟨rfl, rfl⟩
            go_wp2
            go_ret
            exact ⟨by simp [hi], rfl⟩
        · have hnum2 : (num == 0) = false := by simp [hnum]
          go_enter Tryz.func11, Tryz.ntmps11
          go_wp2_with fail
          refine (HR.out _ (At.mono HAt.out (HUU.out _))).mono ?_
          rintro e w1 ⟨rfl, rfl⟩
          go_wp2
          go_ret
          exact ⟨by simp [hnum2], rfl⟩
      · have hs2 : s.toList.isEmpty = false := by
          rw [← decide_eq_emptyBytes]
          simp only [decide_eq_false_iff_not]
          intro e; subst e; simp at hs
        go_enter Tryz.func11, Tryz.ntmps11
        go_wp2_with fail
        refine (HR.out _ (At.mono HAt.out (HUU.out _))).mono ?_
        rintro e w1 ⟨rfl, rfl⟩
        go_wp2
        go_ret
        exact ⟨by simp [hs], rfl⟩
  · have hk2 : (k == 1) = false := by simp [hk]
    go_enter Tryz.func11, Tryz.ntmps11
    go_wp2
    go_ret
    exact ⟨by simp [hk2], rfl⟩

end Go.Proofs.YtnpocmhaoaigfaaGreatDoor
