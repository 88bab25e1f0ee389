/- Clauses, afters, generators are what has the roles. -/
import Derived.Test.YtehfoblfmehbdaaDoorJAL
import Derived.Test.YtehfoblfmehbdaaDoorNtH
import Derived.Test.YtehfoblfmehbdaaDoorNtB
import Derived.Test.YtehfoblfmehbdaaDoorJAB

namespace Go.Proofs.YtehfoblfmehbdaaDoor
open Go.RowKit

theorem three_of (K : List Nd) (h : K.length = 3) : ∃ x y z, K = [x, y, z] := by
  match K, h with
  | [x, y, z], _ => exact ⟨x, y, z, rfl⟩
theorem isB_cl (r q u v : Int) (_hr : r ≠ 17) (hf : formAt 20 r = some ⟨r, 20, 3, [q, u, v], false⟩) (s : ByteArray) (num pos : Int) (K : List Nd) :
    isB r (.mk 20 s num pos K) = (plB s num pos && (match K with | [x, y, z] => isB q x && (isB u y && isB v z) | _ => false)) := by
  rw [isB_eq r 20 s num pos K _ hf, fld20]
  by_cases h : K.length = 3
  · obtain ⟨x, y, z, rfl⟩ := three_of K h
    rw [isR_three]
    simp only [kidsN, List.length_cons, List.length_nil]
    cases plB s num pos <;> cases isB q x <;> cases isB u y <;> cases isB v z <;> rfl
  · have h1 : kidsN ⟨r, 20, 3, [q, u, v], false⟩ K.length = false := by
      simp [kidsN]; omega
    rw [h1, Bool.false_and]
    match K, h with
    | [], _ => simp
    | [_], _ => simp
    | [_, _], _ => simp
    | [_, _, _], h => exact absurd rfl h
    | _ :: _ :: _ :: _ :: _, _ => simp
theorem is9 (t : Nd) : isB 9 t = clB (-1) t := by
  obtain ⟨k, s, num, pos, K⟩ := t
  rw [clB]
  by_cases h : k = 20
  · subst h
    rw [isB_cl 9 4 7 3 (by decide) rfl]
    by_cases h3 : K.length = 3
    · obtain ⟨x, y, z, rfl⟩ := three_of K h3
      simp only [clK, is4, is7, ← blk3]
      cases plB s num pos <;> cases blkB 0 x <;> cases blkB 1 z <;> cases (y.kd == 19 && plB y.tx y.num y.pos) <;> cases y.kids.all (blkB 1) <;> rfl
    · rw [clK_no _ K h3]
      match K, h3 with
      | [], _ => simp
      | [_], _ => simp
      | [_, _], _ => simp
      | [_, _, _], h => exact absurd rfl h
      | _ :: _ :: _ :: _ :: _, _ => simp
  · rw [isB_none 9 k s num pos K (only20 9 (by decide) (by decide) k h)]
    have h1 : (k == 20) = false := by simpa using h
    rw [h1, Bool.false_and]
theorem is10 (t : Nd) : isB 10 t = clB 1 t := by
  obtain ⟨k, s, num, pos, K⟩ := t
  rw [clB]
  by_cases h : k = 20
  · subst h
    rw [isB_cl 10 5 7 3 (by decide) rfl]
    by_cases h3 : K.length = 3
    · obtain ⟨x, y, z, rfl⟩ := three_of K h3
      simp only [clK, is5, is7, ← blk3]
      have hq : ((x.kids.length : Int) == 1) = decide (x.kids.length = 1) := by
        rw [Bool.eq_iff_iff]; simp; omega
      rw [hq]
      cases plB s num pos <;> cases blkB 0 x <;> cases blkB 1 z <;> cases (y.kd == 19 && plB y.tx y.num y.pos) <;> cases y.kids.all (blkB 1) <;> cases decide (x.kids.length = 1) <;> rfl
    · rw [clK_no _ K h3]
      match K, h3 with
      | [], _ => simp
      | [_], _ => simp
      | [_, _], _ => simp
      | [_, _, _], h => exact absurd rfl h
      | _ :: _ :: _ :: _ :: _, _ => simp
  · rw [isB_none 10 k s num pos K (only20 10 (by decide) (by decide) k h)]
    have h1 : (k == 20) = false := by simpa using h
    rw [h1, Bool.false_and]
theorem is11 (t : Nd) : isB 11 t = (clB 0 t && gdK t) := by
  obtain ⟨k, s, num, pos, K⟩ := t
  rw [clB]
  by_cases h : k = 20
  · subst h
    rw [isB_cl 11 6 8 3 (by decide) rfl]
    by_cases h3 : K.length = 3
    · obtain ⟨x, y, z, rfl⟩ := three_of K h3
      obtain ⟨ky, sy, ny, py, Ky⟩ := y
      obtain ⟨kx, sx, nx, px, Kx⟩ := x
      simp only [clK, is6, is8, is7, ← blk3, gdK, Nd.kids]
      have hq : ((Kx.length : Int) == 0) = decide (Kx.length = 0) := by
        rw [Bool.eq_iff_iff]; simp
      rw [hq]
      cases plB s num pos <;> cases blkB 0 (Nd.mk kx sx nx px Kx) <;> cases blkB 1 z <;> cases ((Nd.mk ky sy ny py Ky).kd == 19 && plB (Nd.mk ky sy ny py Ky).tx (Nd.mk ky sy ny py Ky).num (Nd.mk ky sy ny py Ky).pos) <;> cases Ky.all (blkB 1) <;> by_cases h1 : Kx.length = 0 <;> by_cases h2 : 0 < Ky.length <;> simp only [h1, h2, decide_true, decide_false, Bool.and_true, Bool.and_false, Bool.or_true, Bool.or_false, beq_self_eq_true, Int.lt_irrefl]
    · rw [clK_no _ K h3]
      match K, h3 with
      | [], _ => simp
      | [_], _ => simp
      | [_, _], _ => simp
      | [_, _, _], h => exact absurd rfl h
      | _ :: _ :: _ :: _ :: _, _ => simp
  · rw [isB_none 11 k s num pos K (only20 11 (by decide) (by decide) k h)]
    have h1 : (k == 20) = false := by simpa using h
    rw [h1, Bool.false_and, Bool.false_and]
theorem fld_bare (k : Int) (hk : k = 5 ∨ k = 8 ∨ k = 9 ∨ k = 10 ∨ k = 12 ∨ k = 13 ∨ k = 15 ∨ k = 16 ∨ k = 17 ∨ k = 18 ∨ k = 22) (s : ByteArray) (num pos : Int) (K : List Nd) : fldB (.mk k s num pos K) = plB s num pos := by
  rcases hk with rfl | rfl | rfl | rfl | rfl | rfl | rfl | rfl | rfl | rfl | rfl <;> (simp [fldB, txB, nmB, plB]; cases decide (0 ≤ pos) <;> cases decide (s.size = 0) <;> simp)
/-- An after. -/
theorem is16a (s : ByteArray) (num pos : Int) (K : List Nd) : isB 16 (.mk 15 s num pos K) = afB (.mk 15 s num pos K) := by
  rw [isB_eq 16 15 s num pos K ⟨16, 15, 2, [0, 3], false⟩ rfl, fld_bare 15 (by simp), afB]
  by_cases h : K.length = 2
  · match K, h with
    | [x, y], _ =>
      rw [isR_two, afK, blk3]
      simp only [kidsN, List.length_cons, List.length_nil, List.all_cons, List.all_nil, Bool.and_true]
      cases plB s num pos <;> cases isB 0 x <;> cases isB 3 y <;> rfl
  · have h1 : kidsN ⟨16, 15, 2, [0, 3], false⟩ K.length = false := by
      simp [kidsN]; omega
    rw [h1, afK_no K h]
    simp
theorem is16c (s : ByteArray) (num pos : Int) (K : List Nd) : isB 16 (.mk 20 s num pos K) = clB 1 (.mk 20 s num pos K) := by
  rw [← is10, isB_cl 16 5 7 3 (by decide) rfl, isB_cl 10 5 7 3 (by decide) rfl]
theorem is16n (k : Int) (s : ByteArray) (num pos : Int) (K : List Nd) (h1 : k ≠ 15) (h2 : k ≠ 20) : isB 16 (.mk k s num pos K) = false :=
  isB_none 16 k s num pos K (none_of 16 (by decide) k (kinds_of 16 [15, 20] (by decide) k (by simp [h1, h2])))

end Go.Proofs.YtehfoblfmehbdaaDoor

/- What a try and a comprehension ask: roles 12 to 15, 17. -/
namespace Go.Proofs.YtehfoblfmehbdaaDoor
open Go.RowKit

theorem is15 (t : Nd) : isB 15 t = ((t.kd == 2 || t.kd == 3) && isB 0 t) := by
  obtain ⟨k, s, num, pos, K⟩ := t
  rw [Nd.kd]
  by_cases h2 : k = 2
  · subst h2
    rw [isB_eq 15 2 s num pos K ⟨15, 2, 0, [], false⟩ rfl, isB_eq 0 2 s num pos K ⟨0, 2, 0, [], false⟩ rfl]
    rfl
  · by_cases h3 : k = 3
    · subst h3
      rw [isB_eq 15 3 s num pos K ⟨15, 3, 0, [], false⟩ rfl, isB_eq 0 3 s num pos K ⟨0, 3, 0, [], false⟩ rfl]
      rfl
    · rw [isB_none 15 k s num pos K (none_of 15 (by decide) k (kinds_of 15 [2, 3] (by decide) k (by simp [h2, h3])))]
      simp [h2, h3]
theorem is0_5 (s : ByteArray) (num pos : Int) (K : List Nd) : isB 0 (.mk 5 s num pos K) = (plB s num pos && K.all (isB 0)) := by
  rw [isB_eq 0 5 s num pos K ⟨0, 5, 0, [0], true⟩ rfl, fld_bare 5 (by simp), isR_one]
  simp [kidsN, Bool.and_comm]
theorem is14 (t : Nd) : isB 14 t = (isB 0 t && ctQ t) := by
  obtain ⟨k, s, num, pos, K⟩ := t
  by_cases h : k = 5
  · subst h
    rw [isB_eq 14 5 s num pos K ⟨14, 5, 2, [15, 0], false⟩ rfl, fld_bare 5 (by simp), is0_5, ctQ]
    by_cases h2 : K.length = 2
    · match K, h2 with
      | [x, y], _ =>
        obtain ⟨kx, sx, nx, px, Kx⟩ := x
        rw [isR_two, is15]
        simp only [kidsN, List.length_cons, List.length_nil, List.all_cons, List.all_nil, Bool.and_true, Nd.kids, Nd.kd, headK]
        cases plB s num pos <;> cases isB 0 (Nd.mk kx sx nx px Kx) <;> cases isB 0 y <;> cases (kx == 2 || kx == 3) <;> rfl
    · have h1 : kidsN ⟨14, 5, 2, [15, 0], false⟩ K.length = false := by
        simp [kidsN]; omega
      rw [h1, Nd.kids, decide_eq_false h2]
      simp
  · rw [isB_none 14 k s num pos K (none_of 14 (by decide) k (kinds_of 14 [5] (by decide) k (by simpa using h)))]
    have h1 : (k == 5) = false := by simpa using h
    rw [ctQ, Nd.kd, h1]
    simp
theorem is13 (t : Nd) : isB 13 t = (blkB 0 t && (match t with | .mk _ _ _ _ [q] => ctQ q | _ => false)) := by
  obtain ⟨k, s, num, pos, K⟩ := t
  rw [isB_blk 13 1 [14] false (by decide) rfl (only19 13 (by decide) (by decide)), isR_one, blkB]
  by_cases h : K.length = 1
  · match K, h with
    | [q], _ =>
      simp only [kidsN, List.length_cons, List.length_nil, List.all_cons, List.all_nil, Bool.and_true, is14]
      cases (k == 19) <;> cases plB s num pos <;> cases isB 0 q <;> cases ctQ q <;> rfl
  · have h1 : kidsN ⟨13, 19, 1, [14], false⟩ K.length = false := by
      simp [kidsN]; omega
    rw [h1]
    match K, h with
    | [], _ => simp
    | [_], h => exact absurd rfl h
    | _ :: _ :: _, _ => simp
theorem is12 (t : Nd) : isB 12 t = (clB 1 t && ctP t) := by
  obtain ⟨k, s, num, pos, K⟩ := t
  rw [clB]
  by_cases h : k = 20
  · subst h
    rw [isB_cl 12 13 7 3 (by decide) rfl]
    by_cases h3 : K.length = 3
    · obtain ⟨x, y, z, rfl⟩ := three_of K h3
      obtain ⟨kx, sx, nx, px, Kx⟩ := x
      simp only [clK, is13, is7, ← blk3]
      rw [show (Nd.mk kx sx nx px Kx).kids = Kx from rfl]
      by_cases h1 : Kx.length = 1
      · match Kx, h1 with
        | [q], _ =>
          rw [show ctP (.mk 20 s num pos [.mk kx sx nx px [q], y, z]) = ctQ q from rfl]
          dsimp only
          cases plB s num pos <;> cases blkB 0 (.mk kx sx nx px [q]) <;> cases blkB 1 z <;> cases (y.kd == 19 && plB y.tx y.num y.pos) <;> cases y.kids.all (blkB 1) <;> cases ctQ q <;> rfl
      · have hq : ((Kx.length : Int) == 1) = false := by simp; omega
        rw [hq]
        match Kx, h1 with
        | [], _ => simp
        | [_], h => exact absurd rfl h
        | _ :: _ :: _, _ => simp
    · rw [clK_no _ K h3]
      match K, h3 with
      | [], _ => simp
      | [_], _ => simp
      | [_, _], _ => simp
      | [_, _, _], h => exact absurd rfl h
      | _ :: _ :: _ :: _ :: _, _ => simp
  · rw [isB_none 12 k s num pos K (only20 12 (by decide) (by decide) k h)]
    have h1 : (k == 20) = false := by simpa using h
    rw [h1, Bool.false_and, Bool.false_and]
theorem is17 (t : Nd) : isB 17 t = (gnB t || isB 0 t) := by
  obtain ⟨k, s, num, pos, K⟩ := t
  rw [gnB]
  by_cases h : k = 18
  · subst h
    rw [isB_eq 17 18 s num pos K ⟨17, 18, 2, [0, 0], false⟩ rfl, fld_bare 18 (by simp), isB_none 0 18 s num pos K rfl]
    by_cases h2 : K.length = 2
    · match K, h2 with
      | [x, y], _ =>
        rw [isR_two]
        simp only [kidsN, List.length_cons, List.length_nil, List.all_cons, List.all_nil, Bool.and_true]
        cases plB s num pos <;> cases isB 0 x <;> cases isB 0 y <;> rfl
    · have h1 : kidsN ⟨17, 18, 2, [0, 0], false⟩ K.length = false := by
        simp [kidsN]; omega
      rw [h1, decide_eq_false h2]
      simp
  · have h1 : (k == 18) = false := by simpa using h
    have h2 : formAt k 17 = formAt k 0 := by
      unfold formAt
      simp [h]
    rw [h1, Bool.false_and, Bool.false_or, isB, isB, h2]

end Go.Proofs.YtehfoblfmehbdaaDoor

/- The reference's one, two. -/
namespace Go.Proofs.YtehfoblfmehbdaaDoor
open Go.RowKit

def oneB (s : ByteArray) : Bool := s.toList == [45] || (s.toList == [43] || s.toList == [110, 111, 116])
set_option maxHeartbeats 1000000 in
set_option maxRecDepth 100000 in
theorem rone (s : ByteArray) (w : World) : Calls Tryd.prog 49 #[.string s] w fun e w' => e = .returned (.bool (oneB s)) ∧ w' = w := by
  unfold oneB
  cases h1 : (s.toList == [45]) with
  | true =>
    go_enter Tryd.func49, Tryd.ntmps49
    go_wp2
    go_ret
    exact ⟨rfl, rfl⟩
  | false =>
    cases h2 : (s.toList == [43]) with
    | true =>
      go_enter Tryd.func49, Tryd.ntmps49
      go_wp2
      go_ret
      exact ⟨rfl, rfl⟩
    | false =>
      cases h3 : (s.toList == [110, 111, 116]) with
      | true =>
        go_enter Tryd.func49, Tryd.ntmps49
        go_wp2
        go_ret
        exact ⟨rfl, rfl⟩
      | false =>
        go_enter Tryd.func49, Tryd.ntmps49
        go_wp2
        go_ret
        exact ⟨rfl, rfl⟩
/-- The operators of two. -/
def twoS : List ByteArray := (List.range 21).map (fun k => opT (k + 3))
def twoB (s : ByteArray) : Bool := twoS.any (fun u => u.toList == s.toList)
theorem twoS_len : twoS.length = 21 := rfl
theorem twoS_at (j : Nat) (h : j < twoS.length) : twoS[j] = opT (j + 3) := by simp [twoS]
theorem twoS_cell (j : Nat) (h : j < 21) : ((List.range 21).map (fun k => Value.string (opT (k + 3)))).toArray[j]? = some (.string (opT (j + 3))) := by
  simp [h]

set_option maxHeartbeats 2000000 in
set_option maxRecDepth 100000 in
theorem rtwo (s : ByteArray) (w : World) : Calls Tryd.prog 50 #[.string s] w fun e w' => e = .returned (.bool (twoB s)) ∧ Upd [] w w' := by
  obtain ⟨R, hR⟩ : ∃ R, R = twoB s := ⟨_, rfl⟩
  rw [← hR]
  have HR : Hid (R = twoB s) := hR
  clear hR
  go_enter Tryd.func50, Tryd.ntmps50
  go_wp2
  go_loopw [4] (fun i wr => ∃ k : Nat, k ≤ 21 ∧ i = .int .i64 k ∧ (∀ j, j < k → ((opT (j + 3)).toList == s.toList) = false) ∧ Upd [] w wr ∧ ∀ j, j < 21 → wr.cell? ⟨w.heap.size, j, none⟩ = some (.string (opT (j + 3)))) (fun i _ => 21 - (intOf i).toNat)
  case atStart =>
    refine ⟨0, by omega, rfl, fun j hj => by omega, (Upd.refl [] w).alloc _, fun j hj => ?_⟩
    rw [cell_of_row _ _ _ _ _ _ (heap_alloc_new w _)]
    exact twoS_cell j hj
  case round =>
    obtain ⟨k, hk, rfl, hy, hU, hc⟩ := hrel
    have HY : Hid (∀ j, j < k → ((opT (j + 3)).toList == s.toList) = false) := hy
    have HC : Hid (∀ j, j < 21 → wr.cell? ⟨w.heap.size, j, none⟩ = some (.string (opT (j + 3)))) := hc
    clear hy hc
    by_cases hlt : k < 21
    · have i1 : (k : Int) < 21 := by omega
      have x0 := HC.out k hlt
      obtain ⟨u, hu⟩ : ∃ u, u = opT (k + 3) := ⟨_, rfl⟩
      rw [← hu] at x0
      have HU : Hid (u = opT (k + 3)) := hu
      clear hu
      cases hb : (u.toList == s.toList) with
      | true =>
        have HF : Hid (R = true) := by
          show R = true
          rw [HR.out, twoB, List.any_eq_true]
          refine ⟨twoS[k]'(by rw [twoS_len]; exact hlt), List.getElem_mem _, ?_⟩
          rw [twoS_at, ← HU.out]
          exact hb
        clear HR HY HC
        go_wp2
        go_ret
        exact ⟨ret_boolN HF.out.symm, hU⟩
      | false =>
        have HB : Hid (((opT (k + 3)).toList == s.toList) = false) := by show _ = _; rw [← HU.out]; exact hb
        go_wp2
        go_roundw
        case rel => exact ⟨k + 1, by omega, by go_num, fun j hj => by
          by_cases e : j = k
          · subst e; exact HB.out
          · exact HY.out j (by omega), hU, HC.out⟩
        case measure => simp [intOf]; omega
    · have hd : decide ((k : Int) < 21) = false := by simp; omega
      have HF : Hid (R = false) := by
        show R = false
        rw [HR.out, twoB, List.any_eq_false]
        intro u hu
        obtain ⟨j, hj, rfl⟩ := List.getElem_of_mem hu
        rw [twoS_at, HY.out j (by rw [twoS_len] at hj; omega)]
        simp
      clear HR HY HC
      go_wp2
      go_ret
      exact ⟨ret_boolN HF.out.symm, hU⟩

end Go.Proofs.YtehfoblfmehbdaaDoor

/- What Item answers is what has the role 0, kind by kind. -/
namespace Go.Proofs.YtehfoblfmehbdaaDoor
open Go.RowKit

theorem plB_bare (s : ByteArray) (num pos : Int) (hp : 0 ≤ pos) : plB s num pos = (s.toList.isEmpty && (num == 0)) := by
  rw [plB, decide_eq_true hp, Bool.and_true, empty_dec]
theorem len_zero (K : List Nd) : ((K.length : Int) == 0) = decide (K.length = 0) := by
  rw [Bool.eq_iff_iff]; simp
theorem none_eq (k : Int) (s : ByteArray) (num pos : Int) (K : List Nd) (h : formAt k 0 = some ⟨0, k, 0, [], false⟩) : isB 0 (.mk k s num pos K) = (fldB (.mk k s num pos K) && ((K.length : Int) == 0)) := by
  rw [isB_eq 0 k s num pos K _ h, len_zero]
  by_cases h0 : K.length = 0
  · rw [isR_none K h0, decide_eq_true h0]
    simp [kidsN, h0]
  · have h1 : kidsN ⟨0, k, 0, [], false⟩ K.length = false := by
      simp [kidsN]; intro h2; exact h0 (by rw [h2]; rfl)
    rw [h1, decide_eq_false h0]
    simp
theorem eq_1 (s : ByteArray) (num pos : Int) (K : List Nd) (hp : 0 ≤ pos) : isB 0 (.mk 1 s num pos K) = (numS s && ((num == 0) && ((K.length : Int) == 0))) := by
  rw [none_eq 1 s num pos K rfl]
  simp [fldB, txB, nmB, hp, Bool.and_assoc]
theorem size_le (s : ByteArray) (m : Nat) : decide ((s.size : Int) ≤ (m : Int)) = decide (s.size ≤ m) := by
  rw [Bool.eq_iff_iff]; simp
theorem eq_2 (s : ByteArray) (num pos : Int) (K : List Nd) (hp : 0 ≤ pos) : isB 0 (.mk 2 s num pos K) = (decide ((s.size : Int) ≤ 40) && ((num == 0) && ((K.length : Int) == 0))) := by
  rw [none_eq 2 s num pos K rfl, show decide ((s.size : Int) ≤ 40) = decide (s.size ≤ 40) from size_le s 40]
  simp [fldB, txB, nmB, hp, Bool.and_assoc]
theorem eq_3 (s : ByteArray) (num pos : Int) (K : List Nd) (hp : 0 ≤ pos) : isB 0 (.mk 3 s num pos K) = (varS s && ((num == 0) && ((K.length : Int) == 0))) := by
  rw [none_eq 3 s num pos K rfl]
  simp [fldB, txB, nmB, hp, Bool.and_assoc]
theorem eq_4 (s : ByteArray) (num pos : Int) (K : List Nd) (hp : 0 ≤ pos) : isB 0 (.mk 4 s num pos K) = (decide ((s.size : Int) ≤ 400) && ((num == 0) && ((K.length : Int) == 0))) := by
  rw [none_eq 4 s num pos K rfl, show decide ((s.size : Int) ≤ 400) = decide (s.size ≤ 400) from size_le s 400]
  simp [fldB, txB, nmB, hp, Bool.and_assoc]
theorem eq_5 (s : ByteArray) (num pos : Int) (K : List Nd) (hp : 0 ≤ pos) : isB 0 (.mk 5 s num pos K) = ((s.toList.isEmpty && (num == 0)) && K.all (isB 0)) := by
  rw [is0_5, plB_bare _ _ _ hp]
theorem eq_8 (s : ByteArray) (num pos : Int) (K : List Nd) (hp : 0 ≤ pos) : isB 0 (.mk 8 s num pos K) = ((s.toList.isEmpty && (num == 0)) && (((K.length : Int) == 2) && K.all (isB 0))) := by
  rw [isB_eq 0 8 s num pos K ⟨0, 8, 2, [0, 0], false⟩ rfl, fld_bare 8 (by simp), plB_bare _ _ _ hp]
  have hq : ((K.length : Int) == 2) = decide (K.length = 2) := by rw [Bool.eq_iff_iff]; simp; omega
  rw [hq]
  by_cases h2 : K.length = 2
  · match K, h2 with
    | [x, y], _ =>
      rw [isR_two]
      simp only [kidsN, List.length_cons, List.length_nil, List.all_cons, List.all_nil, Bool.and_true]
      cases (s.toList.isEmpty && (num == 0)) <;> cases isB 0 x <;> cases isB 0 y <;> rfl
  · have h1 : kidsN ⟨0, 8, 2, [0, 0], false⟩ K.length = false := by
      simp [kidsN]; omega
    rw [h1, decide_eq_false h2]
    simp
theorem eq_9 (s : ByteArray) (num pos : Int) (K : List Nd) (hp : 0 ≤ pos) : isB 0 (.mk 9 s num pos K) = ((s.toList.isEmpty && (num == 0)) && (decide ((1 : Int) ≤ (K.length : Int)) && K.all (isB 0))) := by
  rw [isB_eq 0 9 s num pos K ⟨0, 9, 1, [0], true⟩ rfl, fld_bare 9 (by simp), plB_bare _ _ _ hp, isR_one]
  have hq : decide ((1 : Int) ≤ (K.length : Int)) = decide (1 ≤ K.length) := by rw [Bool.eq_iff_iff]; simp; omega
  rw [hq]
  simp only [kidsN, Bool.or_true, Bool.and_true]
  cases (s.toList.isEmpty && (num == 0)) <;> cases K.all (isB 0) <;> cases decide (1 ≤ K.length) <;> rfl
theorem all_fun (q r : Nd → Bool) (h : ∀ t, q t = r t) : q = r := funext h
theorem eq_10 (s : ByteArray) (num pos : Int) (K : List Nd) (hp : 0 ≤ pos) : isB 0 (.mk 10 s num pos K) = ((s.toList.isEmpty && (num == 0)) && (allF (clB (-1)) 0 K && decide (0 < K.length))) := by
  rw [isB_eq 0 10 s num pos K ⟨0, 10, 1, [9], true⟩ rfl, fld_bare 10 (by simp), plB_bare _ _ _ hp, isR_one, all_fun _ _ is9, allF, List.drop_zero]
  simp only [kidsN, Bool.or_true, Bool.and_true]
  rw [show decide (1 ≤ K.length) = decide (0 < K.length) from rfl]
  cases (s.toList.isEmpty && (num == 0)) <;> cases K.all (clB (-1)) <;> cases decide (0 < K.length) <;> rfl
theorem eq_13 (s : ByteArray) (num pos : Int) (K : List Nd) (hp : 0 ≤ pos) : isB 0 (.mk 13 s num pos K) = ((s.toList.isEmpty && (num == 0)) && ((allF (clB 0) 0 K && decide (0 < K.length)) && K.all gdK)) := by
  rw [isB_eq 0 13 s num pos K ⟨0, 13, 1, [11], true⟩ rfl, fld_bare 13 (by simp), plB_bare _ _ _ hp, isR_one, all_fun _ _ is11, allF, List.drop_zero]
  have hq : (K.all fun t => clB 0 t && gdK t) = (K.all (clB 0) && K.all gdK) := by
    induction K with
    | nil => rfl
    | cons t r ih =>
      simp only [List.all_cons, ih]
      cases clB 0 t <;> cases gdK t <;> cases r.all (clB 0) <;> cases r.all gdK <;> rfl
  rw [hq]
  simp only [kidsN, Bool.or_true, Bool.and_true]
  rw [show decide (1 ≤ K.length) = decide (0 < K.length) from rfl]
  cases (s.toList.isEmpty && (num == 0)) <;> cases K.all (clB 0) <;> cases K.all gdK <;> cases decide (0 < K.length) <;> rfl
theorem eq_12 (s : ByteArray) (num pos : Int) (K : List Nd) (hp : 0 ≤ pos) : isB 0 (.mk 12 s num pos K) = ((s.toList.isEmpty && (num == 0)) && ((match K with | [] => false | x :: _ => isB 0 x) && (allF (clB 1) 1 K && decide (1 < K.length)))) := by
  rw [isB_eq 0 12 s num pos K ⟨0, 12, 2, [0, 10], true⟩ rfl, fld_bare 12 (by simp), plB_bare _ _ _ hp]
  cases K with
  | nil => simp [kidsN]
  | cons x r =>
    rw [isR_two, all_fun _ _ is10, allF, List.drop_one, List.tail_cons]
    simp only [kidsN, Bool.or_true, Bool.and_true]
    rw [show decide (2 ≤ (x :: r).length) = decide (1 < (x :: r).length) from rfl]
    cases (s.toList.isEmpty && (num == 0)) <;> cases isB 0 x <;> cases r.all (clB 1) <;> cases decide (1 < (x :: r).length) <;> rfl
theorem eq_16 (s : ByteArray) (num pos : Int) (K : List Nd) (hp : 0 ≤ pos) : isB 0 (.mk 16 s num pos K) = ((s.toList.isEmpty && (num == 0)) && ctB K) := by
  rw [isB_eq 0 16 s num pos K ⟨0, 16, 2, [3, 12], true⟩ rfl, fld_bare 16 (by simp), plB_bare _ _ _ hp, ctB]
  cases K with
  | nil => simp [kidsN, blk0]
  | cons x r =>
    rw [isR_two, all_fun _ _ is12, allF, allF, List.drop_one, List.tail_cons, blk0, blk3]
    have hq : (r.all fun t => clB 1 t && ctP t) = (r.all (clB 1) && r.all ctP) := by
      induction r with
      | nil => rfl
      | cons t r ih =>
        simp only [List.all_cons, ih]
        cases clB 1 t <;> cases ctP t <;> cases r.all (clB 1) <;> cases r.all ctP <;> rfl
    rw [hq]
    simp only [kidsN, Bool.or_true, Bool.and_true]
    rw [show decide (2 ≤ (x :: r).length) = decide (1 < (x :: r).length) from rfl]
    cases (s.toList.isEmpty && (num == 0)) <;> cases isB 3 x <;> cases r.all (clB 1) <;> cases r.all ctP <;> cases decide (1 < (x :: r).length) <;> rfl
theorem eq_19 (s : ByteArray) (num pos : Int) (K : List Nd) : isB 0 (.mk 19 s num pos K) = blkB 1 (.mk 19 s num pos K) := by
  rw [blk3, isB_eq 0 19 s num pos K ⟨0, 19, 1, [0], true⟩ rfl, isB_eq 3 19 s num pos K ⟨3, 19, 1, [0], true⟩ rfl]
  rfl

end Go.Proofs.YtehfoblfmehbdaaDoor

/- What Item answers is what has the role 0: lists, names, receives, comprehensions. -/
namespace Go.Proofs.YtehfoblfmehbdaaDoor
open Go.RowKit

theorem eq_6 (s : ByteArray) (num pos : Int) (K : List Nd) (hp : 0 ≤ pos) : isB 0 (.mk 6 s num pos K) = (s.toList.isEmpty && (((num == 0) || ((num == 1) && decide ((2 : Int) ≤ (K.length : Int)))) && K.all (isB 0))) := by
  rw [isB_eq 0 6 s num pos K ⟨0, 6, 0, [0], true⟩ rfl, isR_one, empty_dec]
  have hq : decide ((2 : Int) ≤ (K.length : Int)) = decide (2 ≤ K.length) := by rw [Bool.eq_iff_iff]; simp; omega
  have hf : fldB (.mk 6 s num pos K) = (decide (s.size = 0) && ((num == 0) || ((num == 1) && decide (2 ≤ K.length)))) := by
    simp only [fldB, txB, nmB, decide_eq_true hp, Bool.true_and]
    by_cases h0 : num = 0
    · subst h0
      simp
    · by_cases h1 : num = 1
      · subst h1
        simp
      · have h0' : (num == 0) = false := by simpa using h0
        have h1' : (num == 1) = false := by simpa using h1
        simp [h0, h1]
  rw [hf, hq]
  simp only [kidsN, Bool.or_true, Bool.and_true, Nat.zero_le, decide_true, Bool.true_and]
  cases K.all (isB 0) <;> cases decide (s.size = 0) <;> cases ((num == 0) || ((num == 1) && decide (2 ≤ K.length))) <;> rfl
theorem eq_11 (s : ByteArray) (num pos : Int) (K : List Nd) (hp : 0 ≤ pos) : isB 0 (.mk 11 s num pos K) = (decide ((s.size : Int) ≤ 40) && (decide ((0 : Int) ≤ num) && (decide (num ≤ (255 : Int)) && ((K.length : Int) == 0)))) := by
  rw [none_eq 11 s num pos K rfl, show decide ((s.size : Int) ≤ 40) = decide (s.size ≤ 40) from size_le s 40]
  have hf : fldB (.mk 11 s num pos K) = (decide (s.size ≤ 40) && (decide (0 ≤ num) && decide (num ≤ 255))) := by
    simp only [fldB, txB, nmB, decide_eq_true hp, Bool.true_and]
    by_cases h0 : 0 ≤ num
    · simp [h0]
    · simp [h0]
  rw [hf, Bool.and_assoc, Bool.and_assoc]
theorem mem_nd (K : List Nd) (q : Nd → Bool) : K.all q = true ↔ ∀ i (h : i < K.length), q K[i] = true := by
  rw [List.all_eq_true]
  constructor
  · intro h i hi
    exact h _ (List.getElem_mem hi)
  · intro h x hx
    obtain ⟨i, hi, rfl⟩ := List.getElem_of_mem hx
    exact h i hi
theorem eq_17 (s : ByteArray) (num pos : Int) (K : List Nd) (hp : 0 ≤ pos) : isB 0 (.mk 17 s num pos K) = ((s.toList.isEmpty && (num == 0)) && (decide (∀ i (h : i < K.length), cmP i K[i] = true) && decide (2 ≤ K.length))) := by
  rw [isB_eq 0 17 s num pos K ⟨0, 17, 2, [0, 17], true⟩ rfl, fld_bare 17 (by simp), plB_bare _ _ _ hp]
  have hq : isR [0, 17] K = decide (∀ i (h : i < K.length), cmP i K[i] = true) := by
    rw [Bool.eq_iff_iff, isR_iff, decide_eq_true_eq]
    refine forall_congr' fun i => forall_congr' fun hi => ?_
    cases i with
    | zero =>
      rw [show rol [0, 17] 0 = 0 from rfl, cmP]
      simp
    | succ i =>
      have hr : rol [0, 17] (i + 1) = 17 := by
        unfold rol
        rw [show min (i + 1) (([0, 17] : List Int).length - 1) = 1 by simp]
        rfl
      rw [hr, is17, cmP, decide_eq_true (by omega), Bool.true_and]
  rw [hq]
  simp only [kidsN, Bool.or_true, Bool.and_true]
  cases (s.toList.isEmpty && (num == 0)) <;> cases decide (∀ i (h : i < K.length), cmP i K[i] = true) <;> cases decide (2 ≤ K.length) <;> rfl

end Go.Proofs.YtehfoblfmehbdaaDoor

/- What Item answers is what has the role 0: operators, receives. -/
namespace Go.Proofs.YtehfoblfmehbdaaDoor
open Go.RowKit

theorem bytes_beq (s t : ByteArray) : (s.toList == t.toList) = decide (s = t) := by
  rw [Bool.eq_iff_iff, beq_iff_eq, decide_eq_true_eq]
  exact ⟨bytes_of, fun h => by rw [h]⟩
theorem opB_two (s : ByteArray) : opB s 2 = twoB s := by
  rw [Bool.eq_iff_iff, opB, twoB, List.any_eq_true, List.any_eq_true]
  constructor
  · rintro ⟨k, hk, h⟩
    simp only [decide_eq_true_eq] at h
    have hk2 := List.mem_range.1 hk
    have h3 : 3 ≤ k := by
      rcases Nat.lt_or_ge k 3 with h4 | h4
      · match k, h4, h with
        | 0, _, h => exact absurd h.2 (by decide)
        | 1, _, h => exact absurd h.2 (by decide)
        | 2, _, h => exact absurd h.2 (by decide)
      · exact h4
    refine ⟨opT k, ?_, by rw [bytes_beq, h.1]; simp⟩
    rw [twoS, List.mem_map]
    exact ⟨k - 3, List.mem_range.2 (by omega), by rw [show k - 3 + 3 = k by omega]⟩
  · rintro ⟨u, hu, h⟩
    rw [twoS, List.mem_map] at hu
    obtain ⟨k, hk, rfl⟩ := hu
    have hk2 := List.mem_range.1 hk
    rw [bytes_beq, decide_eq_true_eq] at h
    refine ⟨k + 3, List.mem_range.2 (by omega), ?_⟩
    have hn : ∀ j, j < 21 → opN (j + 3) = 2 := by decide
    rw [decide_eq_true_eq]
    exact ⟨h, by rw [hn k hk2]; rfl⟩
theorem opB_one (s : ByteArray) : opB s 1 = oneB s := by
  have h0 : (s.toList == [45]) = decide (opT 0 = s) := by
    rw [← bytes_beq, Bool.eq_iff_iff, beq_iff_eq, beq_iff_eq]
    exact ⟨fun h => by rw [h, ByteArray.toList_eq]; rfl, fun h => by rw [← h, ByteArray.toList_eq]; rfl⟩
  have h1 : (s.toList == [43]) = decide (opT 1 = s) := by
    rw [← bytes_beq, Bool.eq_iff_iff, beq_iff_eq, beq_iff_eq]
    exact ⟨fun h => by rw [h, ByteArray.toList_eq]; rfl, fun h => by rw [← h, ByteArray.toList_eq]; rfl⟩
  have h2 : (s.toList == [110, 111, 116]) = decide (opT 2 = s) := by
    rw [← bytes_beq, Bool.eq_iff_iff, beq_iff_eq, beq_iff_eq]
    exact ⟨fun h => by rw [h, ByteArray.toList_eq]; rfl, fun h => by rw [← h, ByteArray.toList_eq]; rfl⟩
  rw [oneB, h0, h1, h2, Bool.eq_iff_iff, opB, List.any_eq_true]
  simp only [Bool.or_eq_true, decide_eq_true_eq]
  constructor
  · rintro ⟨k, hk, h⟩
    have hk2 := List.mem_range.1 hk
    have hn : ∀ j, j < 24 → 3 ≤ j → opN j ≠ 1 := by decide
    have h3 : k < 3 := by
      rcases Nat.lt_or_ge k 3 with h4 | h4
      · exact h4
      · exact absurd (by have := h.2; omega) (hn k hk2 h4)
    match k, h3, h with
    | 0, _, h => exact Or.inl h.1
    | 1, _, h => exact Or.inr (Or.inl h.1)
    | 2, _, h => exact Or.inr (Or.inr h.1)
  · rintro (h | h | h)
    · exact ⟨0, by simp, h, rfl⟩
    · exact ⟨1, by simp, h, rfl⟩
    · exact ⟨2, by simp, h, rfl⟩
theorem eq_7 (s : ByteArray) (num pos : Int) (K : List Nd) (hp : 0 ≤ pos) : isB 0 (.mk 7 s num pos K) = ((num == 0) && (((((K.length : Int) == 1) && oneB s) || (((K.length : Int) == 2) && twoB s)) && K.all (isB 0))) := by
  rw [isB_eq 0 7 s num pos K ⟨0, 7, 1, [0, 0], false⟩ rfl]
  have hf : fldB (.mk 7 s num pos K) = (opB s K.length && (num == 0)) := by
    simp [fldB, txB, nmB, hp]
  rw [hf]
  by_cases h1 : K.length = 1
  · match K, h1 with
    | [x], _ =>
      rw [show isR [0, 0] [x] = isB 0 x by rw [isR, isR]; simp [rol]]
      simp only [kidsN, List.length_cons, List.length_nil, List.all_cons, List.all_nil, Bool.and_true]
      rw [show opB s ((0 + 1 : Nat) : Int) = oneB s from opB_one s]
      cases (num == 0) <;> cases isB 0 x <;> cases oneB s <;> simp
  · by_cases h2 : K.length = 2
    · match K, h2 with
      | [x, y], _ =>
        rw [isR_two]
        simp only [kidsN, List.length_cons, List.length_nil, List.all_cons, List.all_nil, Bool.and_true]
        rw [show opB s ((0 + 1 + 1 : Nat) : Int) = twoB s from opB_two s]
        cases (num == 0) <;> cases isB 0 x <;> cases isB 0 y <;> cases twoB s <;> simp
    · have hk : kidsN ⟨0, 7, 1, [0, 0], false⟩ K.length = false := by
        simp [kidsN]; omega
      have e1 : ((K.length : Int) == 1) = false := by simp; omega
      have e2 : ((K.length : Int) == 2) = false := by simp; omega
      rw [hk, e1, e2]
      simp

end Go.Proofs.YtehfoblfmehbdaaDoor
