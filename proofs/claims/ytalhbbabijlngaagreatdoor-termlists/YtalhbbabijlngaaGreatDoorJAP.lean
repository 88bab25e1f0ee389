/- size of the reference of term, of whatever term; Right and Size. -/
import Derived.Test.YtalhbbabijlngaaGreatDoorR2D
import Derived.Test.YtalhbbabijlngaaGreatDoorJAA
import Derived.Test.YtalhbbabijlngaaGreatDoorJAE
import Derived.Test.YtalhbbabijlngaaGreatDoorJAC
import Derived.Deep.RegionWith
namespace Go.Proofs.YtalhbbabijlngaaGreatDoor
open Go.RowKit
theorem szI_bad {t : Tm} (h : okT' t = false) : szI t = -1 := by unfold szI; rw [h]; rfl
theorem szI_okF {k num : Int} {neg : Bool} {L : List Nat} {s : ByteArray} {I T : List Tm} (h : okF k num neg L s I.length T = false) : szI (.mk k num neg L s I T) = -1 := szI_bad (by rw [okT', h]; rfl)
theorem itI_opt (n e : Nat) (I : List Tm) : itI n e I = o1 (if okR I then some (n + szR I + e * I.length) else none) := by
 unfold itI
 cases okR I <;> rfl
theorem In.kdf {w : World} {d : Nat} {cs : List Value} {t : Tm} (h : In w d cs t) : ∃ l1 l2 l3 l4 l5 l6, cs = [.int .u8 t.kd, l1, l2, l3, l4, l5, l6] := by
 cases d with
 | zero => exact h.elim
 | succ d =>
  cases t
  obtain ⟨_, _, _, _, _, _, rfl, _⟩ := h
  exact ⟨_, _, _, _, _, _, rfl⟩
def tlOk (n : Nat) : List Tm → Bool
 | [] => true
 | [u] => decide (0 < n) && decide (u.kd ≠ 7)
 | _ => false
theorem okF_not1 {k : Int} (num : Int) (neg : Bool) (L : List Nat) (s : ByteArray) (n : Nat) (T : List Tm) (h1 : ¬ k = 1) : okF k num neg L s n T = (decide (neg = false ∧ L.length = 0) &&
  (if k = 2 then decide (s.size ≤ 40 ∧ num = 0 ∧ n = 0 ∧ T.length = 0)
  else if k = 3 ∨ k = 5 then decide (s.size = 0 ∧ 0 ≤ num ∧ num ≤ 1099511627776 ∧ n = 0 ∧ T.length = 0)
  else if k = 4 then decide (s.size = 0 ∧ 0 ≤ num ∧ num ≤ 16384 ∧ T.length = 0)
  else if k = 6 then decide (s.size = 0 ∧ num = 0 ∧ T.length = 0)
  else if k = 7 then decide (s.size = 0 ∧ num = 0) && tlOk n T
  else false)) := by
 unfold okF
 rw [if_neg h1]
 cases T with
 | nil => rfl
 | cons u r => cases r <;> rfl
theorem size2_step (d : Nat) (ih : SizR d) : SizR (d + 1) := by
 intro w cs t h hs hc
 obtain ⟨k, num, neg, L, s, I, T⟩ := t
 obtain ⟨a, ai, at', c, ci, ct, rfl, hA, hD, hI, hT⟩ := h
 simp only [tsz] at hs
 rw [cntT] at hc
 have zI : tszs I ≤ 1353245080330 := by omega
 have zT : tszs T ≤ 1353245080330 := by omega
 have bl : L.length ≤ 35184372088700 := by omega
 have bi : I.length ≤ 1353245080330 := Nat.le_trans (tszs_len I) zI
 have bt : T.length ≤ 1353245080330 := Nat.le_trans (tszs_len T) zT
 have cI : cntR I ≤ 12100 := by omega
 have cT : cntR T ≤ 12100 := by omega
 have sI := szs_cnt I
 have hIt : ∀ (n e : Nat), n ≤ 60000 → e ≤ 1 → ∀ W, Upd [] w W → Calls Tryz.prog 87 #[.slice ai I.length ci, .int .i64 n, .int .i64 e] W fun e' w' => e' = .returned (.int .i64 (itI n e I)) ∧ Upd [] W w' := fun n e hn he W hu => items2_in d ih W ai ci n e I (hI.imp hu (fun cs t h => In.mono hu _ _ _ h)) zI cI hn he
 have hTt : ∀ (n e : Nat), n ≤ 60000 → e ≤ 1 → ∀ W, Upd [] w W → Calls Tryz.prog 87 #[.slice at' T.length ct, .int .i64 n, .int .i64 e] W fun e' w' => e' = .returned (.int .i64 (itI n e T)) ∧ Upd [] W w' := fun n e hn he W hu => items2_in d ih W at' ct n e T (hT.imp hu (fun cs t h => In.mono hu _ _ _ h)) zT cT hn he
 show Calls Tryz.prog 55 #[.agg #[.int .u8 k, .bool neg, .slice a L.length c, .string s, .int .i64 num, .slice ai I.length ci, .slice at' T.length ct]] w _
 by_cases h1 : k = 1
 ·subst h1
  have e1 : okF 1 num neg L s I.length T = okT 1 neg L s num I.length T.length := by
   unfold okF okT
   rw [if_pos rfl, okL_eq, Bool.eq_iff_iff]
   simp [and_assoc]
  have hz : szI (.mk 1 num neg L s I T) = if okF 1 num neg L s I.length T then 1 + (L.length : Int) else -1 := by
   cases ho : okF 1 num neg L s I.length T with
   | false => rw [szI_okF ho]; rfl
   | true =>
    have h2 := ho
    unfold okF at h2
    rw [if_pos rfl, Bool.and_eq_true, decide_eq_true_eq] at h2
    obtain rfl : I = [] := List.eq_nil_of_length_eq_zero h2.2.2.2.1
    obtain rfl : T = [] := List.eq_nil_of_length_eq_zero h2.2.2.2.2
    unfold szI
    rw [okT', ho, okR]
    simp [szT, szR, ownZ]
  rw [hz, e1]
  exact sz_1 a ai at' c ci ct s w num neg L I.length T.length bl bi bt hA _ rfl
 have okf := okF_not1 num neg L s I.length T h1
 cases neg with
 | true =>
  rw [szI_okF (by rw [okf]; simp)]
  exact sz_e1 a ai at' c ci ct s w k num L.length I.length T.length bl bi bt h1
 | false =>
  by_cases hL : 0 < L.length
  ·rw [szI_okF (by rw [okf, decide_eq_false (by omega)]; rfl)]
   exact sz_e2 a ai at' c ci ct s w k num L.length I.length T.length bl bi bt h1 hL
  obtain rfl : L = [] := List.eq_nil_of_length_eq_zero (by omega)
  simp only [List.length_nil]
  by_cases h2 : k = 2
  ·subst h2
   rw [show (if (2 : Int) = 2 then decide (s.size ≤ 40 ∧ num = 0 ∧ I.length = 0 ∧ T.length = 0) else _) = decide (s.size ≤ 40 ∧ num = 0 ∧ I.length = 0 ∧ T.length = 0) from if_pos rfl] at okf
   by_cases hT0 : 0 < T.length
   ·rw [szI_okF (by rw [okf, decide_eq_false (p := s.size ≤ 40 ∧ num = 0 ∧ I.length = 0 ∧ T.length = 0) (by omega), Bool.and_false])]
    exact sz_e5 a ai at' c ci ct s w num 0 I.length T.length (by omega) bi bt hT0
   obtain rfl : T = [] := List.eq_nil_of_length_eq_zero (by omega)
   by_cases h40 : 40 < s.size
   ·rw [szI_okF (by rw [okf, decide_eq_false (p := s.size ≤ 40 ∧ num = 0 ∧ I.length = 0 ∧ ([] : List Tm).length = 0) (by omega), Bool.and_false])]
    exact sz_21 a ai at' c ci ct s w num 0 I.length 0 (by omega) bi (by omega) h40
   by_cases hn : num = 0
   ·subst hn
    by_cases hI0 : 0 < I.length
    ·rw [szI_okF (by rw [okf, decide_eq_false (p := s.size ≤ 40 ∧ (0 : Int) = 0 ∧ I.length = 0 ∧ ([] : List Tm).length = 0) (by omega), Bool.and_false])]
     exact sz_23 a ai at' c ci ct s w 0 I.length 0 (by omega) bi (by omega) (by omega) hI0
    obtain rfl : I = [] := List.eq_nil_of_length_eq_zero (by omega)
    have hz : szI (.mk 2 0 false [] s [] []) = 1 := by
     unfold szI
     rw [okT', okR, okf, decide_eq_true (p := s.size ≤ 40 ∧ (0 : Int) = 0 ∧ ([] : List Tm).length = 0 ∧ ([] : List Tm).length = 0) ⟨by omega, rfl, rfl, rfl⟩]
     simp [szT, szR, ownZ]
    rw [hz]
    exact sz_24 a ai at' c ci ct s w (by omega)
   ·rw [szI_okF (by rw [okf, decide_eq_false (p := s.size ≤ 40 ∧ num = 0 ∧ I.length = 0 ∧ ([] : List Tm).length = 0) (by omega), Bool.and_false])]
    exact sz_22 a ai at' c ci ct s w num 0 I.length 0 (by omega) bi (by omega) (by omega) hn
  rw [if_neg h2] at okf
  by_cases hs0 : s.size = 0
  rotate_left
  ·have hf : okF k num false [] s I.length T = false := by
    rw [okf]
    rw [Bool.and_eq_false_iff]
    right
    split
    ·exact decide_eq_false (by omega)
    ·split
     ·exact decide_eq_false (by omega)
     ·split
      ·exact decide_eq_false (by omega)
      ·split
       ·rw [decide_eq_false (by omega)]; rfl
       ·rfl
   rw [szI_okF hf]
   exact sz_e3 a ai at' c ci ct s w k num 0 I.length T.length (by omega) bi bt h1 h2 hs0
  by_cases h7 : k = 7
  ·subst h7
   rw [if_neg (show ¬ ((7 : Int) = 3 ∨ (7 : Int) = 5) by decide), if_neg (show ¬ ((7 : Int) = 4) by decide), if_neg (show ¬ ((7 : Int) = 6) by decide), if_pos rfl] at okf
   by_cases hn : num = 0
   rotate_left
   ·rw [szI_okF (by rw [okf, decide_eq_false (p := s.size = 0 ∧ num = 0) (fun h => hn h.2)]; rfl)]
    exact sz_71 a ai at' c ci ct s w num 0 I.length T.length (by omega) bi bt hs0 hn
   subst hn
   have okg : okF 7 0 false [] s I.length T = tlOk I.length T := by rw [okf, decide_eq_true (p := s.size = 0 ∧ (0 : Int) = 0) ⟨hs0, rfl⟩]; rfl
   match T, hT, hTt, bt, okg with
   | [], _, hTt, _, okg =>
    have hz : szI (.mk 7 0 false [] s I []) = o2 (itI (1 + szR I + 1 * I.length) 0 []) (if okR I then some (1 + szR I + 1 * I.length) else none) := by
     unfold szI itI
     rw [okT', okg, okR]
     cases okR I with
     | false => rfl
     | true =>
      show ((szT _ : Nat) : Int) = ((1 + szR I + 1 * I.length + szR [] + 0 * ([] : List Tm).length : Nat) : Int)
      rw [szT, szR, show ownZ 7 ([] : List Nat).length I.length = 1 + I.length from rfl]
      congr 1
      simp
      omega
    rw [hz]
    refine sz_7a a ai at' c ci ct s w I.length bi hs0 _ _ (fun W hu => by rw [← itI_opt]; exact hIt 1 1 (by omega) (by omega) W hu) (fun W n hn hu => ?_)
    cases ho : okR I with
    | false => rw [ho] at hn; cases hn
    | true =>
     rw [ho] at hn
     obtain rfl : 1 + szR I + 1 * I.length = n := Option.some.inj hn
     exact hTt _ 0 (by omega) (by omega) W hu
   | [u], hT, hTt, _, okg =>
    rcases hT with h0 | ⟨b, o, rfl, hb, hcc⟩
    ·cases h0
    obtain ⟨cs, k1, k2, k3⟩ := hcc 0 (by simp)
    obtain ⟨l1, l2, l3, l4, l5, l6, rfl⟩ := k3.kdf
    have hcell : w.cell? ⟨b, o, none⟩ = some (.int .u8 u.kd) := by have := k2 0 (by omega); simpa using this
    by_cases hI0 : 0 < I.length
    rotate_left
    ·obtain rfl : I = [] := List.eq_nil_of_length_eq_zero (by omega)
     rw [szI_okF (by rw [okg]; rfl)]
     exact sz_73 a ai _ c ci ct s w hs0
    by_cases hu7 : u.kd = 7
    ·rw [szI_okF (by rw [okg, tlOk]; simp [hu7])]
     rw [hu7] at hcell
     exact sz_7c a ai b o c ci ct s w I.length bi hs0 hI0 hb hcell
    ·have hz : szI (.mk 7 0 false [] s I [u]) = o2 (itI (1 + szR I + 1 * I.length) 0 [u]) (if okR I then some (1 + szR I + 1 * I.length) else none) := by
      unfold szI itI
      rw [okT', okg]
      cases okR I with
      | false => simp [o2]
      | true =>
       cases hou : okR [u] with
       | false => simp [o2]
       | true =>
        rw [show tlOk I.length [u] = true by simp [tlOk, hI0, hu7]]
        show ((szT _ : Nat) : Int) = ((1 + szR I + 1 * I.length + szR [u] + 0 * [u].length : Nat) : Int)
        rw [szT, show ownZ 7 ([] : List Nat).length I.length = 1 + I.length from rfl]
        congr 1
        simp
        omega
     rw [hz]
     refine sz_7b a ai b o c ci ct s w I.length bi hs0 u.kd hu7 hI0 hb hcell _ _ (fun W hu => by rw [← itI_opt]; exact hIt 1 1 (by omega) (by omega) W hu) (fun W n hn hu => ?_)
     cases ho : okR I with
     | false => rw [ho] at hn; cases hn
     | true =>
      rw [ho] at hn
      obtain rfl : 1 + szR I + 1 * I.length = n := Option.some.inj hn
      exact hTt _ 0 (by omega) (by omega) W hu
   | u :: v :: r, _, _, bt, okg =>
    rw [szI_okF okg]
    exact sz_72 a ai at' c ci ct s w 0 I.length _ (by omega) bi bt hs0 (by simp)
  rw [if_neg h7] at okf
  by_cases hT0 : 0 < T.length
  ·have hf : okF k num false [] s I.length T = false := by
    rw [okf]
    rw [Bool.and_eq_false_iff]
    right
    split
    ·exact decide_eq_false (by omega)
    ·split
     ·exact decide_eq_false (by omega)
     ·split
      ·exact decide_eq_false (by omega)
      ·rfl
   rw [szI_okF hf]
   exact sz_e4 a ai at' c ci ct s w k num 0 I.length T.length (by omega) bi bt h1 h2 h7 hs0 hT0
  obtain rfl : T = [] := List.eq_nil_of_length_eq_zero (by omega)
  by_cases h35 : k = 3 ∨ k = 5
  ·rw [if_pos h35] at okf
   by_cases hn0 : num < 0
   ·rw [szI_okF (by rw [okf, decide_eq_false (p := s.size = 0 ∧ 0 ≤ num ∧ num ≤ 1099511627776 ∧ I.length = 0 ∧ ([] : List Tm).length = 0) (by omega), Bool.and_false])]
    rcases h35 with rfl | rfl
    ·exact sz_31 a ai at' c ci ct s w num 0 I.length 0 (by omega) bi (by omega) hs0 hn0
    ·exact sz_51 a ai at' c ci ct s w num 0 I.length 0 (by omega) bi (by omega) hs0 hn0
   by_cases hn1 : 1099511627776 < num
   ·rw [szI_okF (by rw [okf, decide_eq_false (p := s.size = 0 ∧ 0 ≤ num ∧ num ≤ 1099511627776 ∧ I.length = 0 ∧ ([] : List Tm).length = 0) (by omega), Bool.and_false])]
    rcases h35 with rfl | rfl
    ·exact sz_32 a ai at' c ci ct s w num 0 I.length 0 (by omega) bi (by omega) hs0 hn1
    ·exact sz_52 a ai at' c ci ct s w num 0 I.length 0 (by omega) bi (by omega) hs0 hn1
   by_cases hI0 : 0 < I.length
   ·rw [szI_okF (by rw [okf, decide_eq_false (p := s.size = 0 ∧ 0 ≤ num ∧ num ≤ 1099511627776 ∧ I.length = 0 ∧ ([] : List Tm).length = 0) (by omega), Bool.and_false])]
    rcases h35 with rfl | rfl
    ·exact sz_33 a ai at' c ci ct s w num 0 I.length 0 (by omega) bi (by omega) hs0 (by omega) (by omega) hI0
    ·exact sz_53 a ai at' c ci ct s w num 0 I.length 0 (by omega) bi (by omega) hs0 (by omega) (by omega) hI0
   obtain rfl : I = [] := List.eq_nil_of_length_eq_zero (by omega)
   have hz : szI (.mk k num false [] s [] []) = 1 := by
    unfold szI
    rw [okT', okR, okf, decide_eq_true (p := s.size = 0 ∧ 0 ≤ num ∧ num ≤ 1099511627776 ∧ ([] : List Tm).length = 0 ∧ ([] : List Tm).length = 0) ⟨hs0, by omega, by omega, rfl, rfl⟩]
    rcases h35 with rfl | rfl <;> simp [szT, szR, ownZ]
   rw [hz]
   rcases h35 with rfl | rfl
   ·exact sz_34 a ai at' c ci ct s w num hs0 (by omega) (by omega)
   ·exact sz_54 a ai at' c ci ct s w num hs0 (by omega) (by omega)
  rw [if_neg h35] at okf
  by_cases h4 : k = 4
  ·subst h4
   rw [if_pos rfl] at okf
   by_cases hn0 : num < 0
   ·rw [szI_okF (by rw [okf, decide_eq_false (p := s.size = 0 ∧ 0 ≤ num ∧ num ≤ 16384 ∧ ([] : List Tm).length = 0) (by omega), Bool.and_false])]
    exact sz_41 a ai at' c ci ct s w num 0 I.length 0 (by omega) bi (by omega) hs0 hn0
   by_cases hn1 : 16384 < num
   ·rw [szI_okF (by rw [okf, decide_eq_false (p := s.size = 0 ∧ 0 ≤ num ∧ num ≤ 16384 ∧ ([] : List Tm).length = 0) (by omega), Bool.and_false])]
    exact sz_42 a ai at' c ci ct s w num 0 I.length 0 (by omega) bi (by omega) hs0 hn1
   have hz : szI (.mk 4 num false [] s I []) = itI 2 0 I := by
    unfold szI itI
    rw [okT', okR, okf, decide_eq_true (p := s.size = 0 ∧ 0 ≤ num ∧ num ≤ 16384 ∧ ([] : List Tm).length = 0) ⟨hs0, by omega, by omega, rfl⟩]
    cases okR I with
    | false => rfl
    | true => simp [szT, szR, ownZ]
   rw [hz]
   exact sz_4g a ai at' c ci ct s w num I.length bi hs0 (by omega) (by omega) _ (fun W hu => hIt 2 0 (by omega) (by omega) W hu)
  rw [if_neg h4] at okf
  by_cases h6 : k = 6
  ·subst h6
   rw [if_pos rfl] at okf
   by_cases hn : num = 0
   ·have hz : szI (.mk 6 num false [] s I []) = itI 1 0 I := by
     unfold szI itI
     rw [okT', okR, okf, decide_eq_true (p := s.size = 0 ∧ num = 0 ∧ ([] : List Tm).length = 0) ⟨hs0, hn, rfl⟩]
     cases okR I with
     | false => rfl
     | true => simp [szT, szR, ownZ]
    rw [hz]
    exact sz_6g a ai at' c ci ct s w num I.length bi hs0 hn _ (fun W hu => hIt 1 0 (by omega) (by omega) W hu)
   ·rw [szI_okF (by rw [okf]; simp [hn])]
    exact sz_61 a ai at' c ci ct s w num 0 I.length 0 (by omega) bi (by omega) hs0 hn
  rw [if_neg h6] at okf
  rw [szI_okF (by rw [okf, Bool.and_false])]
  exact sz_0 a ai at' c ci ct s w k num 0 I.length 0 (by omega) bi (by omega) h1 h2 (fun e => h35 (Or.inl e)) h4 (fun e => h35 (Or.inr e)) h6 h7 hs0
theorem size2_in : ∀ d, SizR d
 | 0 => fun _ _ _ h => h.elim
 | d + 1 => size2_step d (size2_in d)
theorem sz_pos2 (t : Tm) : 0 < szT t := by
 obtain ⟨k, num, neg, L, s, I, T⟩ := t
 have h3 : 0 < ownZ k L.length I.length := by
  unfold ownZ
  split
  ·omega
  ·split
   ·omega
   ·split <;> omega
 rw [szT]
 omega
theorem szI_pos (t : Tm) : (decide (0 < szI t) && decide (szI t ≤ 4096)) = okS t := by
 unfold szI okS
 cases okT' t with
 | false => rfl
 | true =>
  have := sz_pos2 t
  rw [if_pos rfl, Bool.true_and, decide_eq_true (p := (0 : Int) < ((szT t : Nat) : Int)) (by omega), Bool.true_and]
  congr 1
  exact propext ⟨fun h => by omega, fun h => by omega⟩
set_option maxHeartbeats 1000000 in
set_option maxRecDepth 100000 in
theorem right2_inW (d : Nat) (w : World) (cs : List Value) (t : Tm) (h : In w d cs t) (hs : tsz t ≤ 1353245080330) (hc : cntT t ≤ 12100) :
  Calls Tryz.prog 15 #[.agg cs.toArray] w fun e w' => e = .returned (.bool (okS t)) ∧ Upd [] w w' := by
 obtain ⟨z, hz⟩ : ∃ z, szI t = z := ⟨_, rfl⟩
 have hok := szI_pos t
 rw [hz] at hok
 have HS : Hid (∀ W, Upd [] w W → Calls Tryz.prog 55 #[.agg cs.toArray] W fun e w' => e = .returned (.int .i64 z) ∧ Upd [] W w') := fun W hu => by rw [← hz]; exact size2_in d W cs t (In.mono hu _ _ _ h) hs hc
 have hsev := h.seven
 rw [← hok]
 obtain ⟨C, hC⟩ : ∃ C, C = cs.toArray := ⟨_, rfl⟩
 rw [← hC] at hsev HS ⊢
 have tb0 : Tb (w.alloc (.cells C 26)) w.heap.size C := Tb.new _ _ _ rfl
 have HU : Hid (Upd [] w (w.alloc (.cells C 26))) := (Upd.refl [] w).alloc _
 clear h hs hc hz hok hC
 by_cases h0 : 0 < z
 ·by_cases h1 : z ≤ 4096
  ·rw [decide_eq_true h0, decide_eq_true h1]
   go_enter Tryz.func15, Tryz.ntmps15
   go_wp2_with (first | (refine load_T _ rfl _ rfl _ _ rfl tb0 hsev ?_) | fail)
   refine Calls.mono (HS.out _ HU.out) ?_
   rintro e w1 ⟨rfl, u1⟩
   go_wp2
   go_ret
   exact ⟨rfl, HU.out.trans u1⟩
  ·have hd : decide (z ≤ 4096) = false := by simp; omega
   rw [decide_eq_true h0, hd]
   go_enter Tryz.func15, Tryz.ntmps15
   go_wp2_with (first | (refine load_T _ rfl _ rfl _ _ rfl tb0 hsev ?_) | fail)
   refine Calls.mono (HS.out _ HU.out) ?_
   rintro e w1 ⟨rfl, u1⟩
   go_wp2
   go_ret
   exact ⟨rfl, HU.out.trans u1⟩
 ·have hd : decide (0 < z) = false := by simp; omega
  rw [hd]
  go_enter Tryz.func15, Tryz.ntmps15
  go_wp2_with (first | (refine load_T _ rfl _ rfl _ _ rfl tb0 hsev ?_) | fail)
  refine Calls.mono (HS.out _ HU.out) ?_
  rintro e w1 ⟨rfl, u1⟩
  go_wp2
  go_ret
  exact ⟨rfl, HU.out.trans u1⟩
theorem right2_in (d : Nat) (w : World) (cs : List Value) (t : Tm) (h : In w d cs t) (hs : tsz t ≤ 1353245080330) (hc : cntT t ≤ 6000) :
  Calls Tryz.prog 15 #[.agg cs.toArray] w fun e w' => e = .returned (.bool (okS t)) ∧ Upd [] w w' := right2_inW d w cs t h hs (by omega)
end Go.Proofs.YtalhbbabijlngaaGreatDoor
namespace Go.Proofs.YtalhbbabijlngaaGreatDoor
open Go.RowKit
def nb : List Bool → Nat
 | [] => 0
 | x :: r => x.toNat + 2 * nb r
theorem nb_append (A B : List Bool) : nb (A ++ B) = nb A + 2 ^ A.length * nb B := by
 induction A with
 | nil => simp [nb]
 | cons x r ih =>
  simp only [List.cons_append, nb, ih, List.length_cons, Nat.pow_succ]
  rw [Nat.mul_add, Nat.mul_comm (2 ^ r.length) 2, Nat.mul_assoc]; omega
theorem nb_one (x : Bool) : nb [x] = x.toNat := by simp [nb]
theorem toNat_le (x : Bool) : x.toNat ≤ 1 := by cases x <;> simp
theorem nb_lt (L : List Bool) : nb L < 2 ^ L.length := by
 induction L with
 | nil => simp [nb]
 | cons x r ih =>
  have := toNat_le x
  simp only [nb, List.length_cons, Nat.pow_succ]; omega
theorem nb_drop (L : List Bool) (i : Nat) : nb (L.drop i) = (L.getD i false).toNat + 2 * nb (L.drop (i + 1)) := by
 by_cases h : i < L.length
 ·rw [List.drop_eq_getElem_cons h, List.getD_eq_getElem?_getD, List.getElem?_eq_getElem h]; rfl
 ·rw [List.drop_of_length_le (by omega), List.drop_of_length_le (by omega), List.getD_eq_getElem?_getD, List.getElem?_eq_none (by omega)]; rfl
theorem nb_split (L : List Bool) (i : Nat) : nb (L.take i) + 2 ^ i * nb (L.drop i) = nb L := by
 by_cases h : i ≤ L.length
 ·have h1 : (L.take i).length = i := by simp; omega
  have h2 := nb_append (L.take i) (L.drop i)
  rw [h1, List.take_append_drop] at h2
  exact h2.symm
 ·rw [List.take_of_length_le (by omega), List.drop_of_length_le (by omega)]; simp [nb]
theorem nb_take_lt (L : List Bool) (i : Nat) : nb (L.take i) < 2 ^ i := by
 have h := nb_lt (L.take i)
 have h2 : 2 ^ (L.take i).length ≤ 2 ^ i := Nat.pow_le_pow_right (by decide) (by simp; omega)
 omega
theorem nb_take (L : List Bool) (k : Nat) : nb (L.take (k + 1)) = nb (L.take k) + 2 ^ k * (L.getD k false).toNat := by
 have h1 := nb_split L k
 have h2 := nb_split L (k + 1)
 rw [nb_drop L k, Nat.mul_add, ← Nat.mul_assoc, Nat.mul_comm (2 ^ k) 2] at h1
 rw [Nat.pow_succ, Nat.mul_comm (2 ^ k) 2] at h2
 omega
structure NormB (L : List Bool) (n : Nat) : Prop where
 eq : nb L = n
 top : ∀ x, L.getLast? = some x → x = true
theorem NormB.low {L : List Bool} {n : Nat} (h : NormB L n) (hne : L ≠ []) : 2 ^ (L.length - 1) ≤ n := by
 have h0 := List.getLast?_eq_some_getLast hne
 have h1 : L = L.dropLast ++ [L.getLast hne] := (List.dropLast_concat_getLast hne).symm
 have h2 : L.dropLast.length = L.length - 1 := List.length_dropLast
 have h3 := nb_append L.dropLast [L.getLast hne]
 rw [← h1, h.eq, nb_one, h.top _ h0, h2] at h3
 simp at h3
 omega
theorem NormB.len_le {L : List Bool} {n : Nat} (h : NormB L n) (k : Nat) : L.length ≤ k ↔ n < 2 ^ k := by
 constructor
 ·intro hl
  have := nb_lt L
  have h2 : 2 ^ L.length ≤ 2 ^ k := Nat.pow_le_pow_right (by decide) hl
  have := h.eq
  omega
 ·intro hn
  by_cases h0 : L = []
  ·rw [h0]; simp
  ·have h1 := h.low h0
   have h2 := (Nat.pow_lt_pow_iff_right (a := 2) (n := L.length - 1) (m := k) (by decide)).1 (by omega)
   have h3 : L.length ≠ 0 := fun e => h0 (List.eq_nil_of_length_eq_zero e)
   omega
theorem normB_take (L : List Bool) (m : Nat) (hm : m ≤ L.length) (hz : ∀ i, m ≤ i → i < L.length → L.getD i false = false) (ht : m = 0 ∨ L.getD (m - 1) false = true) : NormB (L.take m) (nb L) := by
 have hd : nb (L.drop m) = 0 := by
  have : ∀ n k, L.length - k = n → m ≤ k → nb (L.drop k) = 0 := by
   intro n
   induction n with
   | zero => intro k h1 _; rw [List.drop_of_length_le (by omega)]; rfl
   | succ n ih =>
    intro k h1 h2
    rw [nb_drop, hz k h2 (by omega), ih (k + 1) (by omega) (by omega)]; rfl
  exact this _ m rfl (Nat.le_refl _)
 refine ⟨?_, ?_⟩
 ·have := nb_split L m
  rw [hd] at this
  omega
 ·intro x hx
  rcases ht with h | h
  ·subst h; simp at hx
  ·rcases Nat.eq_zero_or_pos m with h0 | h0
   ·subst h0; simp at hx
   ·rw [List.getLast?_eq_getElem?, List.length_take, Nat.min_eq_left hm, List.getElem?_take_of_lt (by omega)] at hx
    rw [List.getD_eq_getElem?_getD, hx] at h
    exact h
end Go.Proofs.YtalhbbabijlngaaGreatDoor
namespace Go.Proofs.YtalhbbabijlngaaGreatDoor
open Go.RowKit
theorem info_bool : (Tryz.prog.info? 4).map (fun i => (i.zero, i.size, i.bytes)) = some (some (.bool false), 1, 1) := by kernel_rfl
def BA (w : World) (a : Option Addr) (L : List Bool) : Prop :=
 L = [] ∨ ∃ b o, a = some ⟨b, o, none⟩ ∧ b < w.heap.size ∧ ∀ i, i < L.length → w.cell? ⟨b, o + i, none⟩ = some (.bool (L.getD i false))
theorem BA.keep {S : List Nat} {w w' : World} {a : Option Addr} {L : List Bool} (h : BA w a L) (hb : Upd S w w') (hn : ∀ p, a = some p → p.block ∉ S) : BA w' a L := by
 rcases h with h | ⟨b, o, e, hlt, hc⟩
 ·exact Or.inl h
 ·exact Or.inr ⟨b, o, e, Nat.lt_of_lt_of_le hlt hb.size, fun i hi => (hb.cell (p := ⟨b, o + i, none⟩) hlt (show b ∉ S from hn _ e)).trans (hc i hi)⟩
theorem BA.mono {w w' : World} {a : Option Addr} {L : List Bool} (h : BA w a L) (hb : Upd [] w w') : BA w' a L := h.keep hb (fun _ _ => by simp)
theorem BA.take {w : World} {a : Option Addr} {L : List Bool} (h : BA w a L) (n : Nat) : BA w a (L.take n) := by
 rcases h with h | ⟨b, o, e, hlt, hc⟩
 ·exact Or.inl (by rw [h]; simp)
 ·refine Or.inr ⟨b, o, e, hlt, fun i hi => ?_⟩
  have h1 : i < n ∧ i < L.length := by simpa [List.length_take, Nat.lt_min] using hi
  rw [hc i h1.2]
  simp [List.getD, h1.1]
def OL (w : World) (base : Nat) (v : Value) (L : List Bool) : Prop := w.ownsRow base 4 1 v L.length (L.map Value.bool)
theorem OL.nil (w : World) (base : Nat) : OL w base (.slice none 0 0) [] := World.ownsRow_nil _ _ _ _
theorem OL.snoc {w : World} {base : Nat} {v : Value} {L : List Bool} {x : Bool} (h : w.ownsRow base 4 1 v (L.length + 1) (L.map Value.bool ++ [.bool x])) : OL w base v (L ++ [x]) := by
 unfold OL
 rw [List.map_append, List.length_append]
 exact h
theorem OL.there {w : World} {base : Nat} {v : Value} {L : List Bool} (h : OL w base v L) :
  ∃ a cap, v = .slice a L.length cap ∧ BA w a L ∧ Fresh base a ∧ L.length ≤ cap ∧ cap ≤ 9223372036854775807 := by
 obtain ⟨hl, ⟨h1, h2⟩ | ⟨g, cap, cur, hv', hb, hh, hc1, hc2, hcs, hcu⟩⟩ := h
 ·exact ⟨none, 0, by rw [h1, h2], Or.inl (List.eq_nil_of_length_eq_zero h2), Fresh.nil _, by omega, by omega⟩
 ·refine ⟨_, cap, hv', ?_, Fresh.mem hb, hc1, by unfold maxLen at hc2; omega⟩
  refine Or.inr ⟨g, 0, rfl, lt_of_block hh, fun i hi => ?_⟩
  rw [Nat.zero_add, cell_of_row w g i _ _ _ hh]
  have e : cur.toList[i]? = (cur.toList.take (L.length * 1))[i]? := by rw [List.getElem?_take_of_lt (by omega)]
  rw [← Array.getElem?_toList, e, hcu, List.getElem?_map, List.getElem?_eq_getElem hi, List.getD_eq_getElem?_getD, List.getElem?_eq_getElem hi]
  rfl
set_option maxHeartbeats 1000000 in
set_option maxRecDepth 100000 in
theorem cut_core (a : Option Addr) (cap : Nat) (L : List Bool) (w : World) (_hn : L.length ≤ 100000) (hcap : L.length ≤ cap) (hcm : cap ≤ 9223372036854775807) (HL : BA w a L) :
  Calls Tryz.prog 173 #[.slice a L.length cap] w fun e w' =>
   w' = w ∧ ∃ m, m ≤ L.length ∧ (∀ i, m ≤ i → i < L.length → L.getD i false = false) ∧ (m = 0 ∨ L.getD (m - 1) false = true) ∧ ∃ c', e = .returned (.slice a m c') ∧ m ≤ c' ∧ c' ≤ 9223372036854775807 := by
 go_enter Tryz.func173, Tryz.ntmps173
 go_wp2
 go_loopw [3] (fun i wr => ∃ k : Nat, k ≤ L.length ∧ i = .int .i64 k ∧ (∀ i, k ≤ i → i < L.length → L.getD i false = false) ∧ wr = w) (fun i _ => (intOf i).toNat)
 case atStart => exact ⟨L.length, Nat.le_refl _, rfl, fun i h1 h2 => by omega, rfl⟩
 case round =>
  obtain ⟨k, hk1, rfl, hz, rfl⟩ := hrel
  have HZ : Hid _ := hz
  clear hz
  by_cases hk0 : k = 0
  ·subst hk0
   go_wp2
   go_ret
   exact ⟨rfl, 0, Nat.zero_le _, HZ.out, Or.inl rfl, _, rfl, by omega, by omega⟩
  ·obtain ⟨j, rfl⟩ : ∃ j, k = j + 1 := ⟨k - 1, by omega⟩
   rcases HL with h | ⟨b, o, rfl, hlt, hc⟩
   ·rw [h] at hk1; simp at hk1
   have hcx := hc j (by omega)
   obtain ⟨x, hx⟩ : ∃ x, x = L.getD j false := ⟨_, rfl⟩
   rw [← hx] at hcx
   have HX : Hid _ := hx
   clear hx hc
   cases x
   ·go_wp2
    go_roundw
    case rel =>
     refine ⟨j, by omega, by go_num, ?_, by simp⟩
     intro i h1 h2
     by_cases hij : i = j
     ·rw [hij]; exact HX.out.symm
     ·exact HZ.out i (by omega) h2
    case measure => simp [intOf]
   ·go_wp2
    go_ret
    exact ⟨rfl, j + 1, by omega, HZ.out, Or.inr HX.out.symm, _, rfl, by omega, by omega⟩
theorem cut_any (a : Option Addr) (cap : Nat) (L : List Bool) (w : World) (hn : L.length ≤ 100000) (hcap : L.length ≤ cap) (hcm : cap ≤ 9223372036854775807) (HL : BA w a L) :
  Calls Tryz.prog 173 #[.slice a L.length cap] w fun e w' =>
   w' = w ∧ ∃ c' M, e = .returned (.slice a M.length c') ∧ NormB M (nb L) ∧ BA w a M ∧ M.length ≤ L.length ∧ M.length ≤ c' ∧ c' ≤ 9223372036854775807 := by
 refine (cut_core a cap L w hn hcap hcm HL).mono ?_
 rintro e w' ⟨rfl, m, hm, hz, ht, c', rfl, h1, h2⟩
 have hl : (L.take m).length = m := by simp; omega
 exact ⟨rfl, c', L.take m, by rw [hl], normB_take L m hm hz ht, HL.take m, by omega, by omega, h2⟩
end Go.Proofs.YtalhbbabijlngaaGreatDoor
namespace Go.Proofs.YtalhbbabijlngaaGreatDoor
open Go.RowKit
theorem or_u32 (a b : Nat) (ha : a < 4294967296) (hb : b < 4294967296) : bits .or .u32 (a : Int) (b : Int) = ((a ||| b : Nat) : Int) := by
 have hx : a ||| b < 2 ^ 32 := Nat.or_lt_two_pow (by omega) (by omega)
 have h1 : (BitVec.ofInt 32 (a : Int)).toNat = a := by
  rw [BitVec.ofInt_natCast, BitVec.toNat_ofNat]; exact Nat.mod_eq_of_lt (by omega)
 have h2 : (BitVec.ofInt 32 (b : Int)).toNat = b := by
  rw [BitVec.ofInt_natCast, BitVec.toNat_ofNat]; exact Nat.mod_eq_of_lt (by omega)
 show IntKind.u32.wrap ((BitVec.ofInt 32 (a : Int) ||| BitVec.ofInt 32 (b : Int)).toNat : Int) = _
 rw [BitVec.toNat_or, h1, h2, IntKind.wrap_u32]
 omega
end Go.Proofs.YtalhbbabijlngaaGreatDoor
namespace Go.Proofs.YtalhbbabijlngaaGreatDoor
open Go.RowKit
end Go.Proofs.YtalhbbabijlngaaGreatDoor
