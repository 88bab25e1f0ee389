/- fitting and Cons of package term, of a list: by their contracts. -/
import Derived.Test.YtalhbbabijlngaaGreatDoorJAS
import Derived.Test.YtalhbbabijlngaaGreatDoorJAC
import Derived.Test.YtalhbbabijlngaaGreatDoorJAG
import Derived.Lib.Strings
namespace Go.Proofs.YtalhbbabijlngaaGreatDoor
open Go.RowKit
def zeroC : List Value := [.int .u8 0, .bool false, .slice none 0 0, .string ⟨#[]⟩, .int .i64 0, .slice none 0 0, .slice none 0 0]
def fitC (t : Tm) (cs : List Value) : List Value := if okS t then cs else zeroC
set_option maxHeartbeats 4000000 in
set_option maxRecDepth 100000 in
theorem fitting_in (d : Nat) (w : World) (cs : List Value) (t : Tm) (h : In w d cs t) (hs : tsz t ≤ 1353245080330) :
  Calls Tryz.prog 63 #[.agg cs.toArray] w fun e w' => e = .returned (.agg (fitC t cs).toArray) ∧ Upd [] w w' := by
 have h7 := h.seven
 have hone := h.one
 have HR : Hid (∀ W, Upd [] w W → Calls Tryz.prog 9 #[.agg cs.toArray] W fun e w' => e = .returned (.bool (okS t)) ∧ Upd [] W w') := fun W hu => TRight_in d W cs t (In.mono hu _ _ _ h) hs
 obtain ⟨C, hC⟩ : ∃ C, C = cs.toArray := ⟨_, rfl⟩
 have HC : Hid (cs.toArray = C) := hC.symm
 rw [← hC] at h7 hone HR ⊢
 clear hC h hs
 have tb0 : Tb ((w.alloc (.cells C 26)).alloc (.cells #[.int .u8 0, .bool false, .slice none 0 0, .string ⟨#[]⟩, .int .i64 0, .slice none 0 0, .slice none 0 0] 26)) w.heap.size C := (Tb.new _ _ _ rfl).old _
 have tbz : Tb ((w.alloc (.cells C 26)).alloc (.cells #[.int .u8 0, .bool false, .slice none 0 0, .string ⟨#[]⟩, .int .i64 0, .slice none 0 0, .slice none 0 0] 26)) (w.heap.size + 1) #[.int .u8 0, .bool false, .slice none 0 0, .string ⟨#[]⟩, .int .i64 0, .slice none 0 0, .slice none 0 0] := Tb.new _ _ _ (by simp)
 have hU0 : Upd [] w ((w.alloc (.cells C 26)).alloc (.cells #[.int .u8 0, .bool false, .slice none 0 0, .string ⟨#[]⟩, .int .i64 0, .slice none 0 0, .slice none 0 0] 26)) := ((Upd.refl [] w).alloc _).alloc _
 have HU0 : Hid _ := hU0
 clear hU0
 go_enter Tryz.func63, Tryz.ntmps63
 go_wp2_with (first | (refine load_T _ rfl _ rfl _ _ rfl tb0 h7 ?_) | fail)
 refine Calls.mono (HR.out _ HU0.out) ?_
 rintro e w1 ⟨rfl, hU1⟩
 have tb1 := tb0.mono hU1 (by simp)
 have tbz1 := tbz.mono hU1 (by simp)
 have HU1 : Hid (Upd [] w w1) := HU0.out.trans hU1
 clear hU1 tb0 tbz HU0
 cases ht : okS t with
 | false =>
  go_wp2_with (refine store_V _ rfl _ _ rfl _ _ _ _ _ _ _ _ _ _ _ _ _ _ _ rfl rfl tbz1 rfl ?_; intro w2 hT2 hU2)
  exact ret_T Tryz.results63 rfl _ _ rfl hT2 rfl ⟨by unfold fitC; rw [ht]; rfl, HU1.out.then hU2 (by simp)⟩
 | true =>
  go_wp2_with (first | (refine load_T _ rfl _ rfl _ _ rfl tb1 h7 ?_) | (refine store_T _ rfl _ _ rfl _ C _ rfl rfl tbz1 rfl h7 hone ?_; intro w2 hT2 hU2))
  exact ret_T Tryz.results63 rfl _ _ rfl hT2 h7 ⟨by unfold fitC; rw [ht, if_pos rfl, HC.out], HU1.out.then hU2 (by simp)⟩
theorem nt0 (W : World) (v u : Value) (T : TypeId) : (W.alloc (.cells #[v, u] T)).cell? ⟨W.heap.size, 0, none⟩ = some v := cell_of_row _ _ 0 _ _ _ (heap_alloc_new W (.cells #[v, u] T))
theorem nt1 (W : World) (v u : Value) (T : TypeId) : (W.alloc (.cells #[v, u] T)).cell? ⟨W.heap.size, 1, none⟩ = some u := cell_of_row _ _ 1 _ _ _ (heap_alloc_new W (.cells #[v, u] T))
theorem ntl (W : World) (v u : Value) (T : TypeId) : W.heap.size < (W.alloc (.cells #[v, u] T)).heap.size := by simp
theorem nu0 (W : World) (v u x : Value) (T U : TypeId) : ((W.alloc (.cells #[v, u] T)).alloc (.cells #[x] U)).cell? ⟨W.heap.size, 0, none⟩ = some v := (((Upd.refl [] _).alloc (.cells #[x] U)).cell (p := ⟨W.heap.size, 0, none⟩) (ntl W v u T) (by simp)).trans (nt0 W v u T)
theorem nu1 (W : World) (v u x : Value) (T U : TypeId) : ((W.alloc (.cells #[v, u] T)).alloc (.cells #[x] U)).cell? ⟨W.heap.size, 1, none⟩ = some u := (((Upd.refl [] _).alloc (.cells #[x] U)).cell (p := ⟨W.heap.size, 1, none⟩) (ntl W v u T) (by simp)).trans (nt1 W v u T)
theorem nul (W : World) (v u x : Value) (T U : TypeId) : W.heap.size < ((W.alloc (.cells #[v, u] T)).alloc (.cells #[x] U)).heap.size := by simp; omega
theorem nv (W : World) (v u x : Value) (T U : TypeId) : ((W.alloc (.cells #[v, u] T)).alloc (.cells #[x] U)).cell? ⟨W.heap.size + 1, 0, none⟩ = some x := (FunB.new (W.alloc (.cells #[v, u] T)) x U _ (by simp)).cell
theorem nvl (W : World) (v u x : Value) (T U : TypeId) : W.heap.size + 1 < ((W.alloc (.cells #[v, u] T)).alloc (.cells #[x] U)).heap.size := by simp
theorem ny (W : World) (v u x : Value) (T U : TypeId) : ((W.alloc (.cells #[x] U)).alloc (.cells #[v, u] T)).cell? ⟨W.heap.size, 0, none⟩ = some x := ((FunB.new W x U _ rfl).mono ((Upd.refl [] _).alloc _) (by simp)).cell
theorem nyl (W : World) (v u x : Value) (T U : TypeId) : W.heap.size < ((W.alloc (.cells #[x] U)).alloc (.cells #[v, u] T)).heap.size := by simp; omega
theorem ny0 (W : World) (v u x : Value) (T U : TypeId) : ((W.alloc (.cells #[x] U)).alloc (.cells #[v, u] T)).cell? ⟨W.heap.size + 1, 0, none⟩ = some v := by have := nt0 (W.alloc (.cells #[x] U)) v u T; rwa [show (W.alloc (.cells #[x] U)).heap.size = W.heap.size + 1 by simp] at this
theorem ny1 (W : World) (v u x : Value) (T U : TypeId) : ((W.alloc (.cells #[x] U)).alloc (.cells #[v, u] T)).cell? ⟨W.heap.size + 1, 1, none⟩ = some u := by have := nt1 (W.alloc (.cells #[x] U)) v u T; rwa [show (W.alloc (.cells #[x] U)).heap.size = W.heap.size + 1 by simp] at this
def consT (h : Tm) (I T : List Tm) : Tm := .mk 7 0 false [] ⟨#[]⟩ (h :: I) T
end Go.Proofs.YtalhbbabijlngaaGreatDoor
namespace Go.Proofs.YtalhbbabijlngaaGreatDoor
open Go.RowKit
theorem take_eq_of (A B : List Nat) (k : Nat) (hA : k < A.length) (hB : k < B.length) (h : A.take k = B.take k) (he : A.getD k 0 = B.getD k 0) : A.take (k + 1) = B.take (k + 1) := by
 rw [List.getD_eq_getElem?_getD, List.getD_eq_getElem?_getD, List.getElem?_eq_getElem hA, List.getElem?_eq_getElem hB] at he
 rw [List.take_add_one, List.take_add_one, h, List.getElem?_eq_getElem hA, List.getElem?_eq_getElem hB]
 rw [show A[k] = B[k] from he]
set_option maxHeartbeats 2000000 in
set_option maxRecDepth 100000 in
theorem SameLimbs_any (a b : Option Addr) (ca cb : Nat) (A B : List Nat) (w : World) (hA : A.length ≤ 35184372088800) (_hB : B.length ≤ 35184372088800) (HA : At w a A) (HB : At w b B) :
  Calls Tryz.prog 57 #[.slice a A.length ca, .slice b B.length cb] w fun e w' => e = .returned (.bool (decide (A = B))) ∧ Upd [] w w' := by
 by_cases hl : A.length = B.length
 ·have HLB : Hid (B.length = A.length) := hl.symm
  rw [← hl]
  clear hl
  go_enter Tryz.func57, Tryz.ntmps57
  go_wp2
  go_loopw [5] (fun i wr => ∃ k : Nat, k ≤ A.length ∧ i = .int .i64 k ∧ A.take k = B.take k ∧ Upd [] w wr) (fun i _ => A.length - (intOf i).toNat)
  case atStart => exact ⟨0, Nat.zero_le _, rfl, by simp, Upd.refl _ _⟩
  case round =>
   obtain ⟨k, hk1, rfl, hd, hU⟩ := hrel
   have HD : Hid _ := hd
   clear hd
   by_cases hk2 : k < A.length
   ·have hlB := HLB.out
    rcases HA.mono hU with h | ⟨ba, oa, rfl, hlta, hca⟩
    ·rw [h] at hk2; simp at hk2
    rcases HB.mono hU with h | ⟨bb, ob, rfl, hltb, hcb⟩
    ·rw [h] at hlB; simp at hlB; omega
    have hcx := hca k (by omega)
    have hcy := hcb k (by omega)
    obtain ⟨x, hx⟩ : ∃ x, x = A.getD k 0 := ⟨_, rfl⟩
    obtain ⟨y, hy⟩ : ∃ y, y = B.getD k 0 := ⟨_, rfl⟩
    rw [← hx] at hcx
    rw [← hy] at hcy
    have HX : Hid _ := hx
    have HY : Hid _ := hy
    clear hx hy hca hcb hlB
    by_cases hxy : x = y
    ·subst hxy
     go_wp2
     go_region
     all_goals
      go_wp2
      go_roundw
      case rel =>
       refine ⟨k + 1, by omega, by go_num, ?_, hU.drew⟩
       exact take_eq_of A B k (by omega) (by rw [HLB.out]; omega) HD.out (by rw [← HX.out, ← HY.out])
      case measure => simp [intOf]; omega
    ·have hne : ((x : Int) == (y : Int)) = false := by simp; omega
     go_wp2
     go_region
     all_goals go_wp2
     all_goals go_ret
     all_goals exact ⟨by rw [decide_eq_false (fun e => hxy (by rw [HX.out, HY.out, e]))]; rfl, hU.drew⟩
   ·go_wp2
    go_ret
    refine ⟨?_, hU⟩
    have e : A = B := by
     have := HD.out
     rwa [List.take_of_length_le (by omega), List.take_of_length_le (by rw [HLB.out]; omega)] at this
    rw [decide_eq_true e]; rfl
 ·have h1 : ((A.length : Int) == (B.length : Int)) = false := by simp; omega
  have h2 : decide (A = B) = false := decide_eq_false (fun e => hl (by rw [e]))
  rw [h2]
  go_enter Tryz.func57, Tryz.ntmps57
  go_wp2
  go_ret
  exact ⟨rfl, Upd.refl _ _⟩
end Go.Proofs.YtalhbbabijlngaaGreatDoor
namespace Go.Proofs.YtalhbbabijlngaaGreatDoor
open Go.RowKit
mutual
def samT : Tm → Tm → Bool
 | .mk k num neg L s I T, .mk k' num' neg' L' s' I' T' => (k == k') && ((neg == neg') && (decide (L = L') && (decide (bz s = bz s') && ((num == num') && (samR I I' && samR T T')))))
def samR : List Tm → List Tm → Bool
 | [], [] => true
 | [], _ :: _ => false
 | _ :: _, [] => false
 | t :: r, u :: v => samT t u && samR r v
end
mutual
theorem samT_eq : ∀ t u : Tm, samT t u = true ↔ t = u
 | .mk k num neg L s I T, .mk k' num' neg' L' s' I' T' => by
  rw [samT]
  simp only [Bool.and_eq_true, beq_iff_eq, decide_eq_true_eq, samR_eq I I', samR_eq T T']
  constructor
  ·rintro ⟨h1, h2, h3, h4, h5, h6, h7⟩
   rw [h1, h2, h3, bz_inj h4, h5, h6, h7]
  ·intro h
   injection h with h1 h2 h3 h4 h5 h6 h7
   exact ⟨h1, h3, h4, by rw [h5], h2, h6, h7⟩
theorem samR_eq : ∀ I J : List Tm, samR I J = true ↔ I = J
 | [], [] => by simp [samR]
 | [], _ :: _ => by simp [samR]
 | _ :: _, [] => by simp [samR]
 | t :: r, u :: v => by rw [samR, Bool.and_eq_true, samT_eq t u, samR_eq r v]; simp
end
theorem samR_len (I J : List Tm) (h : I.length ≠ J.length) : samR I J = false := by
 cases hs : samR I J with
 | false => rfl
 | true => rw [(samR_eq I J).1 hs] at h; exact absurd rfl h
theorem samR_next (I J : List Tm) (k : Nat) (hk : k < I.length) (hj : k < J.length) : samR (I.drop k) (J.drop k) = (samT I[k] J[k] && samR (I.drop (k + 1)) (J.drop (k + 1))) := by
 rw [List.drop_eq_getElem_cons hk, List.drop_eq_getElem_cons hj, samR]
theorem beq_bz (s t : ByteArray) : (s.toList == t.toList) = decide (bz s = bz t) := by
 rw [Lib.toList_data, Lib.toList_data, Bool.eq_iff_iff]
 simp only [beq_iff_eq, decide_eq_true_eq]
 constructor
 ·intro h; unfold bz; rw [h]
 ·intro h; rw [bz_inj h]
def SamG (d : Nat) : Prop := ∀ (w : World) (cs cs' : List Value) (t u : Tm), In w d cs t → In w d cs' u → tsz t ≤ 1353245080330 → tsz u ≤ 1353245080330 → Calls Tryz.prog 18 #[.agg cs.toArray, .agg cs'.toArray] w fun e w' => e = .returned (.bool (samT t u)) ∧ Upd [] w w'
set_option maxHeartbeats 4000000 in
set_option maxRecDepth 100000 in
theorem SamR_in (d : Nat) (ih : SamG d) (w : World) (a a' : Option Addr) (c c' : Nat) (I J : List Tm) (h : RowAt (In w d) w a I) (h' : RowAt (In w d) w a' J) (hs : tszs I ≤ 1353245080330) (hs' : tszs J ≤ 1353245080330) :
  Calls Tryz.prog 58 #[.slice a I.length c, .slice a' J.length c'] w fun e w' => e = .returned (.bool (samR I J)) ∧ Upd [] w w' := by
 have hlen : I.length ≤ 1353245080330 := Nat.le_trans (tszs_len I) hs
 have hlen' : J.length ≤ 1353245080330 := Nat.le_trans (tszs_len J) hs'
 have HS : Hid (tszs I ≤ 1353245080330) := hs
 have HS' : Hid (tszs J ≤ 1353245080330) := hs'
 have HA : Hid (RowAt (In w d) w a I) := h
 have HA' : Hid (RowAt (In w d) w a' J) := h'
 have IH : Hid (SamG d) := ih
 clear hs hs' h h' ih
 by_cases hl : I.length = J.length
 ·have HL : Hid (I.length = J.length) := hl
  rw [← hl]
  clear hl hlen'
  go_enter Tryz.func58, Tryz.ntmps58
  go_wp2
  go_loopw [5] (fun i wr => ∃ k : Nat, k ≤ I.length ∧ i = .int .i64 k ∧ samR I J = samR (I.drop k) (J.drop k) ∧ Upd [] w wr) (fun i _ => I.length - (intOf i).toNat)
  case atStart => exact ⟨0, Nat.zero_le _, rfl, rfl, Upd.refl _ _⟩
  case round =>
   obtain ⟨k, hk, rfl, hr, hU⟩ := hrel
   have HRR : Hid (samR I J = samR (I.drop k) (J.drop k)) := hr
   clear hr
   by_cases hk2 : k < I.length
   ·have hk3 : k < J.length := by have := HL.out; omega
    rcases HA.out with h0 | ⟨b, o, rfl, hlt, hc⟩
    ·rw [h0] at hk2; simp at hk2
    rcases HA'.out with h0 | ⟨b', o', rfl, hlt', hc'⟩
    ·rw [h0] at hk3; simp at hk3
    obtain ⟨cs, hl7, hcell, hin⟩ := hc k hk2
    obtain ⟨cs', hl7', hcell', hin'⟩ := hc' k hk3
    obtain ⟨q0, q1, q2, q3, q4, q5, q6, rfl⟩ := list7 hl7
    obtain ⟨p0, p1, p2, p3, p4, p5, p6, rfl⟩ := list7 hl7'
    have HNX : Hid _ := samR_next I J k hk2 hk3
    obtain ⟨z, hz⟩ : ∃ z, z = samT I[k] J[k] := ⟨_, rfl⟩
    have HCALL : Hid (∀ n : Ext wr, Calls Tryz.prog 18 #[.agg #[q0, q1, q2, q3, q4, q5, q6], .agg #[p0, p1, p2, p3, p4, p5, p6]] n.W fun e w' => e = .returned (.bool z) ∧ Upd [] n.W w') := fun n => by
     rw [hz]
     exact IH.out n.W _ _ _ _ (In.mono (hU.trans n.h) _ _ _ hin) (In.mono (hU.trans n.h) _ _ _ hin') (Nat.le_trans (tszs_get I k hk2) HS.out) (Nat.le_trans (tszs_get J k hk3) HS'.out)
    rw [← hz] at HNX
    have mc : ∀ (n : Ext wr) j, j < 7 → n.W.cell? ⟨b, o + (k * 7 + j), none⟩ = [q0, q1, q2, q3, q4, q5, q6][j]? := fun n j hj => ((hU.trans n.h).cell (p := ⟨b, o + (k * 7 + j), none⟩) hlt (by simp)).trans (hcell j hj)
    have mc' : ∀ (n : Ext wr) j, j < 7 → n.W.cell? ⟨b', o' + (k * 7 + j), none⟩ = [p0, p1, p2, p3, p4, p5, p6][j]? := fun n j hj => ((hU.trans n.h).cell (p := ⟨b', o' + (k * 7 + j), none⟩) hlt' (by simp)).trans (hcell' j hj)
    have xq0 : ∀ n : Ext wr, n.W.cell? ⟨b, o + k * 7, none⟩ = some q0 := fun n => mc n 0 (by omega)
    have xp0 : ∀ n : Ext wr, n.W.cell? ⟨b', o' + k * 7, none⟩ = some p0 := fun n => mc' n 0 (by omega)
    have xq1 : ∀ n : Ext wr, n.W.cell? ⟨b, o + k * 7 + 1, none⟩ = some q1 := fun n => mc n 1 (by omega)
    have xp1 : ∀ n : Ext wr, n.W.cell? ⟨b', o' + k * 7 + 1, none⟩ = some p1 := fun n => mc' n 1 (by omega)
    have xq2 : ∀ n : Ext wr, n.W.cell? ⟨b, o + k * 7 + 2, none⟩ = some q2 := fun n => mc n 2 (by omega)
    have xp2 : ∀ n : Ext wr, n.W.cell? ⟨b', o' + k * 7 + 2, none⟩ = some p2 := fun n => mc' n 2 (by omega)
    have xq3 : ∀ n : Ext wr, n.W.cell? ⟨b, o + k * 7 + 3, none⟩ = some q3 := fun n => mc n 3 (by omega)
    have xp3 : ∀ n : Ext wr, n.W.cell? ⟨b', o' + k * 7 + 3, none⟩ = some p3 := fun n => mc' n 3 (by omega)
    have xq4 : ∀ n : Ext wr, n.W.cell? ⟨b, o + k * 7 + 4, none⟩ = some q4 := fun n => mc n 4 (by omega)
    have xp4 : ∀ n : Ext wr, n.W.cell? ⟨b', o' + k * 7 + 4, none⟩ = some p4 := fun n => mc' n 4 (by omega)
    have xq5 : ∀ n : Ext wr, n.W.cell? ⟨b, o + k * 7 + 5, none⟩ = some q5 := fun n => mc n 5 (by omega)
    have xp5 : ∀ n : Ext wr, n.W.cell? ⟨b', o' + k * 7 + 5, none⟩ = some p5 := fun n => mc' n 5 (by omega)
    have xq6 : ∀ n : Ext wr, n.W.cell? ⟨b, o + k * 7 + 6, none⟩ = some q6 := fun n => mc n 6 (by omega)
    have xp6 : ∀ n : Ext wr, n.W.cell? ⟨b', o' + k * 7 + 6, none⟩ = some p6 := fun n => mc' n 6 (by omega)
    have i1 : (k : Int) < (I.length : Int) := by omega
    clear hc hc' hin hin' hcell hcell' hl7 hl7' mc mc' hz hk3
    go_wp2_with fail
    have hne : Nonempty (Ext wr) := ⟨⟨wr, Upd.refl [] wr⟩⟩
    refine wp_region_ext (by kernel_rfl) (by kernel_rfl) ?_
    repeat (go_big_quiet_step ((go_at_call 18; exact Ext.call (HCALL.out _))))
    refine wpQuiet_nil ?_
    intro _ hw'
    obtain ⟨nx, hw''⟩ := hw'
    subst hw''
    have HU2 : Hid (Upd [] w nx.W) := hU.trans nx.h
    clear xq0 xq1 xq2 xq3 xq4 xq5 xq6 xp0 xp1 xp2 xp3 xp4 xp5 xp6 HCALL
    cases z with
    | true =>
     go_wp2
     go_roundw
     case rel => exact ⟨k + 1, by omega, by go_num, by rw [HRR.out, HNX.out]; rfl, HU2.out⟩
     case measure => simp [intOf]; omega
    | false =>
     go_wp2
     go_ret
     rw [HRR.out, HNX.out]
     exact ⟨rfl, HU2.out⟩
   ·have hd : decide ((k : Int) < (I.length : Int)) = false := by simp; omega
    have HE : Hid (samR I J = true) := by
     show samR I J = true
     rw [HRR.out, List.drop_of_length_le (by omega), List.drop_of_length_le (by have := HL.out; omega)]
     rfl
    go_wp2
    go_ret
    rw [HE.out]
    exact ⟨rfl, hU⟩
 ·have hne : ((I.length : Int) != (J.length : Int)) = true := by simp; omega
  have HE : Hid (samR I J = false) := samR_len I J hl
  clear hl
  go_enter Tryz.func58, Tryz.ntmps58
  go_wp2
  go_ret
  rw [HE.out]
  exact ⟨rfl, Upd.refl _ _⟩
set_option maxHeartbeats 4000000 in
set_option maxRecDepth 100000 in
theorem SamG_step (d : Nat) (ih : SamG d) : SamG (d + 1) := by
 intro w cs cs' t u h h' hs hs'
 obtain ⟨k0, num0, neg0, L0, s0, I0, T0⟩ := t
 obtain ⟨k1, num1, neg1, L1, s1, I1, T1⟩ := u
 obtain ⟨a0, ai0, at0, c0, ci0, ct0, rfl, hA0, hD0, hI0, hT0⟩ := h
 obtain ⟨a1, ai1, at1, c1, ci1, ct1, rfl, hA1, hD1, hI1, hT1⟩ := h'
 simp only [tsz] at hs hs'
 have HLm : Hid (∀ W, Upd [] w W → _) := fun W hu => SameLimbs_any a0 a1 c0 c1 L0 L1 W (by omega) (by omega) (hA0.mono hu) (hA1.mono hu)
 have HIt : Hid (∀ W, Upd [] w W → _) := fun W hu => SamR_in d ih W ai0 ai1 ci0 ci1 I0 I1 (hI0.imp hu (In.mono hu d)) (hI1.imp hu (In.mono hu d)) (by omega) (by omega)
 have HTt : Hid (∀ W, Upd [] w W → _) := fun W hu => SamR_in d ih W at0 at1 ct0 ct1 T0 T1 (hT0.imp hu (In.mono hu d)) (hT1.imp hu (In.mono hu d)) (by omega) (by omega)
 have e : samT (.mk k0 num0 neg0 L0 s0 I0 T0) (.mk k1 num1 neg1 L1 s1 I1 T1) = ((k0 == k1) && ((neg0 == neg1) && (decide (L0 = L1) && (decide (bz s0 = bz s1) && ((num0 == num1) && (samR I0 I1 && samR T0 T1)))))) := by rw [samT]
 obtain ⟨R, hR⟩ : ∃ R, R = samT (.mk k0 num0 neg0 L0 s0 I0 T0) (.mk k1 num1 neg1 L1 s1 I1 T1) := ⟨_, rfl⟩
 rw [← hR] at e ⊢
 have HE : Hid (R = _) := e
 have u0 : Upd [] w ((w.alloc (.cells #[.int .u8 k0, .bool neg0, .slice a0 L0.length c0, .string s0, .int .i64 num0, .slice ai0 I0.length ci0, .slice at0 T0.length ct0] 26)).alloc (.cells #[.int .u8 k1, .bool neg1, .slice a1 L1.length c1, .string s1, .int .i64 num1, .slice ai1 I1.length ci1, .slice at1 T1.length ct1] 26)) := ((Upd.refl [] w).alloc _).alloc _
 have tx : Tb ((w.alloc (.cells #[.int .u8 k0, .bool neg0, .slice a0 L0.length c0, .string s0, .int .i64 num0, .slice ai0 I0.length ci0, .slice at0 T0.length ct0] 26)).alloc (.cells #[.int .u8 k1, .bool neg1, .slice a1 L1.length c1, .string s1, .int .i64 num1, .slice ai1 I1.length ci1, .slice at1 T1.length ct1] 26)) w.heap.size #[.int .u8 k0, .bool neg0, .slice a0 L0.length c0, .string s0, .int .i64 num0, .slice ai0 I0.length ci0, .slice at0 T0.length ct0] := (Tb.new w _ _ rfl).old _
 have ty : Tb ((w.alloc (.cells #[.int .u8 k0, .bool neg0, .slice a0 L0.length c0, .string s0, .int .i64 num0, .slice ai0 I0.length ci0, .slice at0 T0.length ct0] 26)).alloc (.cells #[.int .u8 k1, .bool neg1, .slice a1 L1.length c1, .string s1, .int .i64 num1, .slice ai1 I1.length ci1, .slice at1 T1.length ct1] 26)) (w.heap.size + 1) #[.int .u8 k1, .bool neg1, .slice a1 L1.length c1, .string s1, .int .i64 num1, .slice ai1 I1.length ci1, .slice at1 T1.length ct1] := Tb.new _ _ _ (by simp)
 have hbz := beq_bz s0 s1
 have HU0 : Hid _ := u0
 clear hA0 hA1 hD0 hD1 hI0 hI1 hT0 hT1 hs hs' ih e hR u0
 obtain ⟨bl, hbl⟩ : ∃ b, b = decide (L0 = L1) := ⟨_, rfl⟩
 obtain ⟨bi, hbi⟩ : ∃ b, b = samR I0 I1 := ⟨_, rfl⟩
 obtain ⟨bt, hbt⟩ : ∃ b, b = samR T0 T1 := ⟨_, rfl⟩
 obtain ⟨bs, hbs⟩ : ∃ b, b = decide (bz s0 = bz s1) := ⟨_, rfl⟩
 rw [← hbl] at HLm HE
 rw [← hbi] at HIt HE
 rw [← hbt] at HTt HE
 rw [← hbs] at hbz HE
 clear hbl hbi hbt hbs
 go_enter Tryz.func18, Tryz.ntmps18
 cases hk : (k0 == k1) with
 | false =>
  go_wp2
  go_ret
  exact ⟨ret_bool (by rw [HE.out, hk]; rfl), HU0.out⟩
 | true =>
  cases hn : (neg0 == neg1) with
  | false =>
   go_wp2
   go_ret
   exact ⟨ret_bool (by rw [HE.out, hk, hn]; rfl), HU0.out⟩
  | true =>
   go_wp2_with fail
   refine Calls.mono (HLm.out _ HU0.out) ?_
   rintro e w1 ⟨rfl, hU1⟩
   have tx1 := tx.mono hU1 (by simp)
   have ty1 := ty.mono hU1 (by simp)
   have HU1 : Hid (Upd [] w w1) := HU0.out.trans hU1
   have x3 : w1.cell? ⟨w.heap.size, 3, none⟩ = some (.string s0) := tx1.cell 3
   have x4 : w1.cell? ⟨w.heap.size, 4, none⟩ = some (.int .i64 num0) := tx1.cell 4
   have x5 : w1.cell? ⟨w.heap.size, 5, none⟩ = some (.slice ai0 I0.length ci0) := tx1.cell 5
   have y3 : w1.cell? ⟨w.heap.size + 1, 3, none⟩ = some (.string s1) := ty1.cell 3
   have y4 : w1.cell? ⟨w.heap.size + 1, 4, none⟩ = some (.int .i64 num1) := ty1.cell 4
   have y5 : w1.cell? ⟨w.heap.size + 1, 5, none⟩ = some (.slice ai1 I1.length ci1) := ty1.cell 5
   clear tx ty hU1 HU0 HLm
   cases bl with
   | false =>
    go_wp2
    go_ret
    exact ⟨ret_bool (by rw [HE.out, hk, hn]; rfl), HU1.out⟩
   | true =>
    cases bs with
    | false =>
     go_wp2
     go_ret
     exact ⟨ret_bool (by rw [HE.out, hk, hn]; rfl), HU1.out⟩
    | true =>
     cases hm : (num0 == num1) with
     | false =>
      go_wp2
      go_ret
      exact ⟨ret_bool (by rw [HE.out, hk, hn, hm]; rfl), HU1.out⟩
     | true =>
      go_wp2_with fail
      refine Calls.mono (HIt.out _ HU1.out) ?_
      rintro e w2 ⟨rfl, hU2⟩
      have tx2 := tx1.mono hU2 (by simp)
      have ty2 := ty1.mono hU2 (by simp)
      have HU2 : Hid (Upd [] w w2) := HU1.out.trans hU2
      have x6 : w2.cell? ⟨w.heap.size, 6, none⟩ = some (.slice at0 T0.length ct0) := tx2.cell 6
      have y6 : w2.cell? ⟨w.heap.size + 1, 6, none⟩ = some (.slice at1 T1.length ct1) := ty2.cell 6
      clear tx1 ty1 hU2 x3 x4 x5 y3 y4 y5 HIt
      cases bi with
      | false =>
       go_wp2
       go_ret
       exact ⟨ret_bool (by rw [HE.out, hk, hn, hm]; rfl), HU2.out⟩
      | true =>
       go_wp2_with fail
       refine Calls.mono (HTt.out _ HU2.out) ?_
       rintro e w3 ⟨rfl, hU3⟩
       go_wp2
       go_ret
       exact ⟨ret_bool (by rw [HE.out, hk, hn, hm]; rfl), HU2.out.trans hU3⟩
theorem SamG_all : ∀ d, SamG d
 | 0 => fun _ _ _ _ _ h => h.elim
 | d + 1 => SamG_step d (SamG_all d)
end Go.Proofs.YtalhbbabijlngaaGreatDoor
