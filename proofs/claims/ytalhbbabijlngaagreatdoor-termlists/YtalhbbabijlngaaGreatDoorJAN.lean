/- number and text of the reference of term. -/
import Derived.Test.YtalhbbabijlngaaGreatDoorJAG
import Derived.Test.YtalhbbabijlngaaGreatDoorSizB
namespace Go.Proofs.YtalhbbabijlngaaGreatDoor
open Go.RowKit
theorem okT_of (k num : Int) (neg : Bool) (L : List Nat) (s : ByteArray) (ni nt : Nat) (b : Bool) (hb : b = limbsOk neg L) : okT k neg L s num ni nt = ((k == 1) && b && decide (s.size = 0) && (num == 0) && decide (ni = 0) && decide (nt = 0)) := by
 rw [hb]; rfl
set_option maxHeartbeats 4000000 in
set_option maxRecDepth 100000 in
theorem rRight_any (k num : Int) (neg : Bool) (L : List Nat) (s : ByteArray) (a ai at' : Option Addr) (c ni ci nt ct : Nat) (w : World) (hn2 : L.length ≤ 9223372036854775807) (HL : At w a L) (hni : ni ≤ 9223372036854775807) (hnt : nt ≤ 9223372036854775807) :
  Calls Tryz.prog 86 #[.agg #[.int .u8 k, .bool neg, .slice a L.length c, .string s, .int .i64 num, .slice ai ni ci, .slice at' nt ct]] w fun e w' => e = .returned (.bool (okT k neg L s num ni nt)) ∧ w' = w.alloc (.cells #[.int .u8 k, .bool neg, .slice a L.length c, .string s, .int .i64 num, .slice ai ni ci, .slice at' nt ct] 26) := by
 obtain ⟨l, hl⟩ : ∃ l, l = limbsOk neg L := ⟨_, rfl⟩
 rw [okT_of k num neg L s ni nt l hl]
 have HLK : Hid (l = limbsOk neg L) := hl
 clear hl
 by_cases hk : k = 1
 ·subst hk
  by_cases hs : s.size = 0
  ·have es : s = ⟨#[]⟩ := by
    cases s with
    | mk d => congr 1; exact Array.eq_empty_of_size_eq_zero hs
   subst es
   by_cases hnum : num = 0
   ·subst hnum
    by_cases hi : ni = 0
    ·subst hi
     by_cases ht : nt = 0
     ·subst ht
      by_cases h0 : L.length = 0
      ·have hl0 : L = [] := List.eq_nil_of_length_eq_zero h0
       subst hl0
       cases neg
       ·have e : l = true := by rw [HLK.out]; rfl
        go_enter Tryz.func86, Tryz.ntmps86
        go_wp2
        go_ret
        exact ⟨by rw [e]; rfl, rfl⟩
       ·have e : l = false := by rw [HLK.out]; rfl
        go_enter Tryz.func86, Tryz.ntmps86
        go_wp2
        go_ret
        exact ⟨by rw [e]; rfl, rfl⟩
      ·rcases HL with h | ⟨b, o, rfl, hlt, hc⟩
       ·rw [h] at h0; simp at h0
       have h00 : ((L.length : Int) == 0) = false := by rw [beq_eq_false_iff_ne]; omega
       by_cases h1 : L.length ≤ 32
       ·have hcx : (w.alloc (.cells #[.int .u8 1, .bool neg, .slice (some ⟨b, o, none⟩) L.length c, .string ⟨#[]⟩, .int .i64 0, .slice ai 0 ci, .slice at' 0 ct] 26)).cell? ⟨b, o + (L.length - 1), none⟩ = some (.int .u32 (L.getD (L.length - 1) 0 : Nat)) :=
         (((Upd.refl [] w).alloc _).cell (p := ⟨b, o + (L.length - 1), none⟩) hlt (by simp)).trans (hc _ (by omega))
        obtain ⟨x, hx⟩ : ∃ x, x = L.getD (L.length - 1) 0 := ⟨_, rfl⟩
        rw [← hx] at hcx
        have HX : Hid (x = L.getD (L.length - 1) 0) := hx
        clear hx hc
        have hle : decide ((L.length : Int) ≤ 32) = true := by simp; omega
        have hgt : decide ((L.length : Int) > 0) = true := by simp; omega
        by_cases hx0 : x = 0
        ·have e : l = false := by rw [HLK.out]; unfold limbsOk; rw [if_neg h0, ← HX.out, hx0]; simp
         go_enter Tryz.func86, Tryz.ntmps86
         go_wp2
         go_ret
         refine ⟨?_, rfl⟩
         rw [e]
         first
          | rfl
          | exact congrArg (fun z => Ending.returned (Value.bool z)) (show ((x : Int) != 0) = false by simp [hx0])
        ·have e : l = true := by rw [HLK.out]; unfold limbsOk; rw [if_neg h0, ← HX.out]; simp [h1, hx0]
         have hxx : ((x : Int) != 0) = true := by simp; omega
         go_enter Tryz.func86, Tryz.ntmps86
         go_wp2
         go_ret
         refine ⟨?_, rfl⟩
         rw [e]
         first
          | rfl
          | exact congrArg (fun z => Ending.returned (Value.bool z)) hxx
       ·have e : l = false := by rw [HLK.out]; unfold limbsOk; rw [if_neg h0, decide_eq_false h1]; rfl
        have hle : decide ((L.length : Int) ≤ 32) = false := by simp; omega
        clear hc
        go_enter Tryz.func86, Tryz.ntmps86
        go_wp2
        go_ret
        exact ⟨by rw [e]; rfl, rfl⟩
     ·have ht2 : ((nt : Int) == 0) = false := by simp [ht]
      go_enter Tryz.func86, Tryz.ntmps86
      go_wp2
      go_ret
      exact ⟨by simp [ht], rfl⟩
    ·have hi2 : ((ni : Int) == 0) = false := by simp [hi]
     go_enter Tryz.func86, Tryz.ntmps86
     go_wp2
     go_ret
     exact ⟨by simp [hi], rfl⟩
   ·have hnum2 : (num == 0) = false := by simp [hnum]
    go_enter Tryz.func86, Tryz.ntmps86
    go_wp2
    go_ret
    exact ⟨by simp [hnum2], rfl⟩
  ·have hs2 : s.toList.isEmpty = false := by
    rw [← decide_eq_emptyBytes]
    simp only [decide_eq_false_iff_not]
    intro e; subst e; simp at hs
   go_enter Tryz.func86, Tryz.ntmps86
   go_wp2
   go_ret
   exact ⟨by simp [hs], rfl⟩
 ·have hk2 : (k == 1) = false := by simp [hk]
  go_enter Tryz.func86, Tryz.ntmps86
  go_wp2
  go_ret
  exact ⟨by simp [hk2], rfl⟩
end Go.Proofs.YtalhbbabijlngaaGreatDoor
