/- sum: two amounts with signs. -/
import Derived.Test.YtalhbbabijlngaaGreatDoorJAA
import Derived.Test.YtalhbbabijlngaaGreatDoorJAB
import Derived.Test.YtalhbbabijlngaaGreatDoorCmpL
namespace Go.Proofs.YtalhbbabijlngaaGreatDoor
open Go.RowKit
structure TI (w : World) (neg : Bool) (a : Option Addr) (M : List Nat) (z : Int) : Prop where
 norm : Norm M z.natAbs
 mem : At w a M
 len : M.length ≤ 32
 sgn : neg = decide (z < 0)
theorem TI.mono {w w' : World} {neg : Bool} {a : Option Addr} {M : List Nat} {z : Int} (h : TI w neg a M z) (hu : Upd [] w w') : TI w' neg a M z := ⟨h.norm, h.mem.mono hu, h.len, h.sgn⟩
theorem TI.small {w : World} {neg : Bool} {a : Option Addr} {M : List Nat} {z : Int} (h : TI w neg a M z) : z.natAbs < 4294967296 ^ 32 := (h.norm.len_le 32).1 h.len
def Res (w' : World) (e : Ending) (z : Int) : Prop :=
 (z.natAbs < 4294967296 ^ 32 ∧ ∃ neg a c M, e = .returned (.tuple #[.agg #[.int .u8 1, .bool neg, .slice a M.length c, .string ⟨#[]⟩, .int .i64 0, .slice none 0 0, .slice none 0 0], .bool true]) ∧ TI w' neg a M z) ∨
 (¬ z.natAbs < 4294967296 ^ 32 ∧ e = .returned (.tuple #[(.agg #[.int .u8 0, .bool false, .slice none 0 0, .string ⟨#[]⟩, .int .i64 0, .slice none 0 0, .slice none 0 0]), .bool false]))
end Go.Proofs.YtalhbbabijlngaaGreatDoor
namespace Go.Proofs.YtalhbbabijlngaaGreatDoor
open Go.RowKit
theorem limbsOk_norm {neg : Bool} {L : List Nat} {n : Nat} (hn : Norm L n) (hl : L.length ≤ 32) (hs : n = 0 → neg = false) : limbsOk neg L = true := by
 unfold limbsOk
 by_cases h0 : L.length = 0
 ·rw [if_pos h0]
  have : L = [] := List.eq_nil_of_length_eq_zero h0
  rw [hs (hn.nil_iff.1 this)]; rfl
 ·rw [if_neg h0]
  have ht := hn.top (L.getD (L.length - 1) 0) (by
   rw [List.getLast?_eq_getElem?, List.getD_eq_getElem?_getD, List.getElem?_eq_getElem (by omega)]; rfl)
  simp only [hl, decide_true, Bool.true_and, decide_eq_true_eq]
  exact ht
theorem TI.ok {w : World} {neg : Bool} {a : Option Addr} {L : List Nat} {z : Int} (h : TI w neg a L z) : okT 1 neg L ⟨#[]⟩ 0 0 0 = true := by
  unfold okT
  rw [limbsOk_norm h.norm h.len (fun e => by rw [h.sgn]; have : z = 0 := by omega
                                             simp [this])]
  rfl
theorem TI.right {w W : World} {neg : Bool} {a : Option Addr} {L : List Nat} {z : Int} (h : TI w neg a L z) (ai at' : Option Addr) (c ci ct : Nat) (hu : Upd [] w W) :
  Calls Tryz.prog 71 #[.agg #[.int .u8 1, .bool neg, .slice a L.length c, .string ⟨#[]⟩, .int .i64 0, .slice ai 0 ci, .slice at' 0 ct]] W fun e w' => e = .returned (.bool true) ∧ w' = W.alloc (.cells #[.int .u8 1, .bool neg, .slice a L.length c, .string ⟨#[]⟩, .int .i64 0, .slice ai 0 ci, .slice at' 0 ct] 26) := by
 have h1 := Right_any 1 0 neg L ⟨#[]⟩ a ai at' c 0 ci 0 ct W (by have := h.len; omega) (h.mem.mono hu) (by omega) (by omega)
 rw [h.ok] at h1
 exact h1
theorem cmpZ_pos3 (x y : Int) (hx : ¬ x < 0) (hy : ¬ y < 0) : cmp3 x.natAbs y.natAbs = cmpZ x y := by
 unfold cmp3 cmpZ
 have e1 : (x.natAbs < y.natAbs) = (x < y) := propext ⟨fun h => by omega, fun h => by omega⟩
 have e2 : (y.natAbs < x.natAbs) = (y < x) := propext ⟨fun h => by omega, fun h => by omega⟩
 simp only [e1, e2]
theorem cmpZ_neg3 (x y : Int) (hx : x < 0) (hy : y < 0) : cmp3 y.natAbs x.natAbs = cmpZ x y := by
 unfold cmp3 cmpZ
 have e1 : (y.natAbs < x.natAbs) = (x < y) := propext ⟨fun h => by omega, fun h => by omega⟩
 have e2 : (x.natAbs < y.natAbs) = (y < x) := propext ⟨fun h => by omega, fun h => by omega⟩
 simp only [e1, e2]
set_option maxHeartbeats 2000000 in
set_option maxRecDepth 100000 in
theorem Compare_any (a ai at' b bi bt : Option Addr) (ca ci ct cb cbi cbt : Nat) (na nb : Bool) (A B : List Nat) (x y : Int) (w : World) (HA : TI w na a A x) (HB : TI w nb b B y) :
  Calls Tryz.prog 113 #[.agg #[.int .u8 1, .bool na, .slice a A.length ca, .string ⟨#[]⟩, .int .i64 0, .slice ai 0 ci, .slice at' 0 ct], .agg #[.int .u8 1, .bool nb, .slice b B.length cb, .string ⟨#[]⟩, .int .i64 0, .slice bi 0 cbi, .slice bt 0 cbt]] w fun e w' => e = .returned (.int .i64 (cmpZ x y)) ∧ Upd [] w w' := by
 have HRA : Hid (∀ W, Upd [] w W → _) := fun W hu => HA.right (W := W) ai at' ca ci ct hu
 have HRB : Hid (∀ W, Upd [] w W → _) := fun W hu => HB.right (W := W) bi bt cb cbi cbt hu
 have HTA : Hid _ := HA
 have HTB : Hid _ := HB
 have hlA := HA.len
 have hlB := HB.len
 clear HA HB
 have hUW := (((((Upd.refl [] w).alloc (.cells #[.int .u8 1, .bool na, .slice a A.length ca, .string ⟨#[]⟩, .int .i64 0, .slice ai 0 ci, .slice at' 0 ct] 26)).alloc (.cells #[.int .u8 1, .bool nb, .slice b B.length cb, .string ⟨#[]⟩, .int .i64 0, .slice bi 0 cbi, .slice bt 0 cbt] 26)).alloc (.cells #[.int .u8 1, .bool na, .slice a A.length ca, .string ⟨#[]⟩, .int .i64 0, .slice ai 0 ci, .slice at' 0 ct] 26)).alloc (.cells #[.int .u8 1, .bool nb, .slice b B.length cb, .string ⟨#[]⟩, .int .i64 0, .slice bi 0 cbi, .slice bt 0 cbt] 26))
 have HUW : Hid _ := hUW
 clear hUW
 have hsa := HTA.out.sgn
 have hsb := HTB.out.sgn
 by_cases hx : x < 0
 ·have ea : na = true := by rw [hsa]; simp [hx]
  by_cases hy : y < 0
  ·have eb : nb = true := by rw [hsb]; simp [hy]
   clear hsa hsb
   subst ea eb
   have hcz : cmp3 y.natAbs x.natAbs = cmpZ x y := cmpZ_neg3 x y hx hy
   go_enter Tryz.func113, Tryz.ntmps113
   go_wp2_with fail
   refine (HRA.out _ (by repeat (first | exact Upd.refl _ _ | refine Upd.alloc ?_ _))).mono ?_
   rintro e w1 ⟨rfl, rfl⟩
   go_wp2_with fail
   refine (HRB.out _ (by repeat (first | exact Upd.refl _ _ | refine Upd.alloc ?_ _))).mono ?_
   rintro e w2 ⟨rfl, rfl⟩
   go_wp2_with fail
   refine (compareLimbs_any b a cb ca _ _ B A _ (by omega) (by omega) (HTB.out.mem.mono HUW.out) (HTA.out.mem.mono HUW.out) HTB.out.norm HTA.out.norm).mono ?_
   rintro e w3 ⟨rfl, hU3⟩
   rw [hcz]
   go_wp2
   go_ret
   exact ⟨rfl, HUW.out.trans hU3⟩
  ·have eb : nb = false := by rw [hsb]; simp [hy]
   clear hsa hsb
   subst ea eb
   have hcz : cmpZ x y = -1 := by unfold cmpZ; rw [if_pos (by omega)]
   rw [hcz]
   go_enter Tryz.func113, Tryz.ntmps113
   go_wp2_with fail
   refine (HRA.out _ (by repeat (first | exact Upd.refl _ _ | refine Upd.alloc ?_ _))).mono ?_
   rintro e w1 ⟨rfl, rfl⟩
   go_wp2_with fail
   refine (HRB.out _ (by repeat (first | exact Upd.refl _ _ | refine Upd.alloc ?_ _))).mono ?_
   rintro e w2 ⟨rfl, rfl⟩
   go_wp2
   go_ret
   exact ⟨rfl, HUW.out⟩
 ·have ea : na = false := by rw [hsa]; simp [hx]
  by_cases hy : y < 0
  ·have eb : nb = true := by rw [hsb]; simp [hy]
   clear hsa hsb
   subst ea eb
   have hcz : cmpZ x y = 1 := by unfold cmpZ; rw [if_neg (by omega), if_pos (by omega)]
   rw [hcz]
   go_enter Tryz.func113, Tryz.ntmps113
   go_wp2_with fail
   refine (HRA.out _ (by repeat (first | exact Upd.refl _ _ | refine Upd.alloc ?_ _))).mono ?_
   rintro e w1 ⟨rfl, rfl⟩
   go_wp2_with fail
   refine (HRB.out _ (by repeat (first | exact Upd.refl _ _ | refine Upd.alloc ?_ _))).mono ?_
   rintro e w2 ⟨rfl, rfl⟩
   go_wp2
   go_ret
   exact ⟨rfl, HUW.out⟩
  ·have eb : nb = false := by rw [hsb]; simp [hy]
   clear hsa hsb
   subst ea eb
   have hcz : cmp3 x.natAbs y.natAbs = cmpZ x y := cmpZ_pos3 x y hx hy
   go_enter Tryz.func113, Tryz.ntmps113
   go_wp2_with fail
   refine (HRA.out _ (by repeat (first | exact Upd.refl _ _ | refine Upd.alloc ?_ _))).mono ?_
   rintro e w1 ⟨rfl, rfl⟩
   go_wp2_with fail
   refine (HRB.out _ (by repeat (first | exact Upd.refl _ _ | refine Upd.alloc ?_ _))).mono ?_
   rintro e w2 ⟨rfl, rfl⟩
   go_wp2_with fail
   refine (compareLimbs_any a b ca cb _ _ A B _ (by omega) (by omega) (HTA.out.mem.mono HUW.out) (HTB.out.mem.mono HUW.out) HTA.out.norm HTB.out.norm).mono ?_
   rintro e w3 ⟨rfl, hU3⟩
   rw [hcz]
   go_wp2
   go_ret
   exact ⟨rfl, HUW.out.trans hU3⟩
end Go.Proofs.YtalhbbabijlngaaGreatDoor
namespace Go.Proofs.YtalhbbabijlngaaGreatDoor
open Go.RowKit
def bareB (neg : Bool) (nl : Nat) (s : ByteArray) (num : Int) (ni nt : Nat) : Bool := !neg && decide (nl = 0) && decide (s.size = 0) && (num == 0) && decide (ni = 0) && decide (nt = 0)
theorem empty_of (s : ByteArray) : s.toList.isEmpty = decide (s.size = 0) := by
 by_cases h : s.size = 0
 ·rw [bz_empty h, ← decide_eq_emptyBytes]; simp
 ·rw [← decide_eq_emptyBytes]
  simp only [h, decide_false, decide_eq_false_iff_not]
  intro e; subst e; simp at h
set_option maxHeartbeats 2000000 in
set_option maxRecDepth 100000 in
theorem bare_any (k num : Int) (neg : Bool) (s : ByteArray) (a ai at' : Option Addr) (nl c ni ci nt ct : Nat) (w : World) (hn2 : nl ≤ 9223372036854775807) (hni : ni ≤ 9223372036854775807) (hnt : nt ≤ 9223372036854775807) :
  Calls Tryz.prog 72 #[.agg #[.int .u8 k, .bool neg, .slice a nl c, .string s, .int .i64 num, .slice ai ni ci, .slice at' nt ct]] w fun e w' => e = .returned (.bool (bareB neg nl s num ni nt)) ∧ Upd [] w w' := by
 unfold bareB
 have hs : Hid (s.toList.isEmpty = decide (s.size = 0)) := empty_of s
 cases neg
 ·by_cases hl : nl = 0
  ·subst hl
   cases hs2 : s.toList.isEmpty
   ·go_enter Tryz.func72, Tryz.ntmps72
    go_wp2
    go_ret
    exact ⟨by rw [← hs.out, hs2]; rfl, (Upd.refl [] w).alloc _⟩
   ·by_cases hnum : num = 0
    ·subst hnum
     by_cases hi : ni = 0
     ·subst hi
      by_cases ht : nt = 0
      ·subst ht
       go_enter Tryz.func72, Tryz.ntmps72
       go_wp2
       go_ret
       exact ⟨by rw [← hs.out, hs2]; rfl, (Upd.refl [] w).alloc _⟩
      ·have ht2 : ((nt : Int) == 0) = false := by simp [ht]
       go_enter Tryz.func72, Tryz.ntmps72
       go_wp2
       go_ret
       exact ⟨by simp [ht], (Upd.refl [] w).alloc _⟩
     ·have hi2 : ((ni : Int) == 0) = false := by simp [hi]
      go_enter Tryz.func72, Tryz.ntmps72
      go_wp2
      go_ret
      exact ⟨by simp [hi], (Upd.refl [] w).alloc _⟩
    ·have hnum2 : (num == 0) = false := by simp [hnum]
     go_enter Tryz.func72, Tryz.ntmps72
     go_wp2
     go_ret
     exact ⟨by simp [hnum2], (Upd.refl [] w).alloc _⟩
  ·have hl2 : ((nl : Int) == 0) = false := by simp [hl]
   go_enter Tryz.func72, Tryz.ntmps72
   go_wp2
   go_ret
   exact ⟨by simp [hl], (Upd.refl [] w).alloc _⟩
 ·go_enter Tryz.func72, Tryz.ntmps72
  go_wp2
  go_ret
  exact ⟨by simp, (Upd.refl [] w).alloc _⟩
set_option maxHeartbeats 2000000 in
set_option maxRecDepth 100000 in
theorem ownSize_any (k num : Int) (neg : Bool) (s : ByteArray) (a ai at' : Option Addr) (nl c ni ci nt ct : Nat) (w : World) (hn2 : nl ≤ 35184372088800) (hni : ni ≤ 35184372088800) :
  Calls Tryz.prog 39 #[.agg #[.int .u8 k, .bool neg, .slice a nl c, .string s, .int .i64 num, .slice ai ni ci, .slice at' nt ct]] w fun e w' => e = .returned (.int .i64 (ownZ k nl ni : Nat)) ∧ Upd [] w w' := by
 unfold ownZ
 by_cases h1 : k = 1
 ·subst h1
  go_enter Tryz.func39, Tryz.ntmps39
  go_wp2
  go_ret
  exact ⟨by simp, (Upd.refl [] w).alloc _⟩
 ·have h1' : (k == 1) = false := by simp [h1]
  rw [if_neg h1]
  by_cases h4 : k = 4
  ·subst h4
   go_enter Tryz.func39, Tryz.ntmps39
   go_wp2
   go_ret
   exact ⟨by simp, (Upd.refl [] w).alloc _⟩
  ·have h4' : (k == 4) = false := by simp [h4]
   rw [if_neg h4]
   by_cases h7 : k = 7
   ·subst h7
    go_enter Tryz.func39, Tryz.ntmps39
    go_wp2
    go_ret
    exact ⟨by simp, (Upd.refl [] w).alloc _⟩
   ·have h7' : (k == 7) = false := by simp [h7]
    rw [if_neg h7]
    go_enter Tryz.func39, Tryz.ntmps39
    go_wp2
    go_ret
    exact ⟨by simp, (Upd.refl [] w).alloc _⟩
def tailB (ni : Nat) (T : List Tm) : Bool := match T with | [] => true | [u] => decide (0 < ni) && decide (u.kd ≠ 7) | _ => false
theorem In.kd {w : World} {d : Nat} {cs : List Value} {t : Tm} (h : In w d cs t) : cs[0]? = some (.int .u8 t.kd) := by
 cases d with
 | zero => exact h.elim
 | succ d =>
  cases t
  obtain ⟨_, _, _, _, _, _, rfl, _⟩ := h
  rfl
set_option maxHeartbeats 2000000 in
set_option maxRecDepth 100000 in
theorem rightTail_any (k num : Int) (neg : Bool) (s : ByteArray) (a ai at' : Option Addr) (nl c ni ci ct d : Nat) (T : List Tm) (w : World) (hni : ni ≤ 35184372088800) (hT : T.length ≤ 35184372088800) (HT : RowAt (In w d) w at' T) :
  Calls Tryz.prog 73 #[.agg #[.int .u8 k, .bool neg, .slice a nl c, .string s, .int .i64 num, .slice ai ni ci, .slice at' T.length ct]] w fun e w' => e = .returned (.bool (tailB ni T)) ∧ Upd [] w w' := by
 match T, hT, HT with
 | [], _, _ =>
  simp only [List.length_nil]
  go_enter Tryz.func73, Tryz.ntmps73
  go_wp2
  go_ret
  exact ⟨rfl, (Upd.refl [] w).alloc _⟩
 | [u], _, HT =>
  simp only [List.length_cons, List.length_nil, Nat.zero_add]
  rcases HT with h | ⟨b, o, rfl, hlt, hc⟩
  ·cases h
  obtain ⟨cs, h7, hcell, hin⟩ := hc 0 (by simp)
  have hk : w.cell? ⟨b, o, none⟩ = some (.int .u8 u.kd) := by
   have := hcell 0 (by omega)
   rw [hin.kd] at this
   simpa using this
  clear hc hcell hin
  have hk2 : (w.alloc (.cells #[.int .u8 k, .bool neg, .slice a nl c, .string s, .int .i64 num, .slice ai ni ci, .slice (some ⟨b, o, none⟩) 1 ct] 26)).cell? ⟨b, o, none⟩ = some (.int .u8 u.kd) := (((Upd.refl [] w).alloc _).cell (p := ⟨b, o, none⟩) hlt (by simp)).trans hk
  by_cases hi : ni = 0
  ·subst hi
   go_enter Tryz.func73, Tryz.ntmps73
   go_wp2
   go_ret
   exact ⟨rfl, (Upd.refl [] w).alloc _⟩
  ·have hi2 : (0 : Int) < (ni : Int) := by omega
   obtain ⟨q, hq⟩ : ∃ q, q = u.kd := ⟨_, rfl⟩
   have e : tailB ni [u] = (q != 7) := by
    unfold tailB
    rw [hq]
    simp only [show 0 < ni by omega, decide_true, Bool.true_and]
    rw [Bool.eq_iff_iff]; simp
   rw [e]
   rw [← hq] at hk2
   clear e hq hk
   go_enter Tryz.func73, Tryz.ntmps73
   go_wp2
   go_ret
   exact ⟨rfl, (Upd.refl [] w).alloc _⟩
 | x :: y :: r, hT, _ =>
  have e0 : (((x :: y :: r).length : Int) == 0) = false := by simp; omega
  have e1 : (((x :: y :: r).length : Int) == 1) = false := by simp; omega
  obtain ⟨n, hn⟩ : ∃ n, n = (x :: y :: r).length := ⟨_, rfl⟩
  rw [← hn] at e0 e1 hT ⊢
  clear hn
  go_enter Tryz.func73, Tryz.ntmps73
  go_wp2
  go_ret
  exact ⟨rfl, (Upd.refl [] w).alloc _⟩
end Go.Proofs.YtalhbbabijlngaaGreatDoor
