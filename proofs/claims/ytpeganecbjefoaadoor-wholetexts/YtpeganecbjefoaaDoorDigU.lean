/- digitsUp, by its contract. -/
import Derived.Test.YtpeganecbjefoaaDoorByt
import Derived.Deep.LoopGhost
namespace Go.Proofs.YtpeganecbjefoaaDoor
open Go.RowKit

theorem OB.snoc {w : World} {base : Nat} {v : Value} {D : List Nat} {x : Nat} (h : w.ownsRow base 5 1 v (D.length + 1) (D.map (fun n => Value.int .u8 (n : Nat)) ++ [.int .u8 ((48 : Int) + (x : Int) % 10)])) : OB w base v (D ++ [48 + x % 10]) := by
  unfold OB
  have e : (D ++ [48 + x % 10]).map (fun n => Value.int .u8 (n : Nat)) = D.map (fun n => Value.int .u8 (n : Nat)) ++ [.int .u8 ((48 : Int) + (x : Int) % 10)] := by
    simp
  rw [e, List.length_append]
  exact h

set_option maxHeartbeats 2000000 in
set_option maxRecDepth 100000 in
theorem digitsUp_any (a : Option Addr) (ca n : Nat) (L : List Nat) (w : World) (hL : L.length ≤ 32) (HL : At w a L) (nL : Norm L n) (hn : n < 4294967296 ^ 32) :
    Calls Tryd.prog 59 #[.slice a L.length ca] w fun e w' => Upd [] w w' ∧ ∃ v D, e = .returned v ∧ OB w' w.heap.size v D ∧ IsDig D ∧ dval D = n ∧ D.length ≤ 400 := by
  obtain ⟨i0, hi, hz0, hz1, hz2⟩ := info_parts info_u8
  have HN : Hid (n < 4294967296 ^ 32) := hn
  clear hn
  have hsep0 := Sep.start HL
  go_enter Tryd.func59, Tryd.ntmps59
  go_wp2_with fail
  go_loopg [0, 3] n (fun g lm v wr => ∃ c' : Nat, ∃ a' : Option Addr, ∃ M D : List Nat, lm = .slice a' M.length c' ∧ Norm M g ∧ At wr a' M ∧ M.length ≤ 32 ∧ Sep wr w.heap.size a' M ∧ OB wr w.heap.size v D ∧ IsDig D ∧ dval D + 10 ^ D.length * g = n ∧ D.length ≤ 400 ∧ Upd [] w wr)
  case atStart => exact ⟨ca, a, L, [], rfl, nL, HL, hL, hsep0, World.ownsRow_nil _ _ _ _, IsDig.nil, by simp [dval], by simp, Upd.refl _ _⟩
  case round =>
    rename World => wo
    rename Nat => gq
    obtain ⟨c', a', M, D, rfl, nM, hM, hMl, hsep, hD, dD, hval, hDl, hU⟩ := hrel
    have HV : Hid _ := hval
    clear hval hsep0
    by_cases hM0 : M = []
    · subst hM0
      have hg0 := nM.nil_iff.1 rfl
      go_wp2
      go_ret
      refine ⟨hU, _, D, rfl, hD, dD, ?_, hDl⟩
      have := HV.out
      rw [hg0, Nat.mul_zero, Nat.add_zero] at this
      exact this
    · have hpos : 0 < M.length := by cases M with | nil => exact absurd rfl hM0 | cons x t => simp
      have hg0 : 0 < gq := by
        rcases Nat.eq_zero_or_pos gq with h | h
        · exact absurd (nM.nil_iff.2 h) hM0
        · exact h
      have hD308 := digits_few D gq n hg0 HV.out HN.out
      go_wp2_with fail
      refine (divByLimb_new a' _ c' 1000000000 gq M wo rfl (by omega) hM nM (by omega) (by omega)).mono ?_
      rintro e w1 ⟨hU1, a1, c1, M1, rfl, nM1, hM1, hl1, hc11, hc12, hty⟩
      have hsep1 : Sep w1 w.heap.size a1 M1 := Or.inr fun p hp => Or.inr (hty p hp)
      have hD1 := hD.upd hU1
      have hU01 := hU.trans hU1
      have hlow := Nat.mod_lt gq (show 0 < 1000000000 by decide)
      obtain ⟨low0, hlow0⟩ : ∃ low0, low0 = gq % 1000000000 := ⟨_, rfl⟩
      rw [← hlow0] at hlow ⊢
      have HLO : Hid _ := hlow0
      clear hlow0 hsep hM hD hU1 hU hty
      go_wp2_with fail
      go_loopg [3, 4, 13] 9 (fun g v lo i wr => ∃ j low : Nat, ∃ E : List Nat, j + g = 9 ∧ i = .int .i64 j ∧ lo = .int .u32 low ∧ low < 1000000000 ∧ E.length = j ∧ IsDig E ∧ dval E + 10 ^ j * low = low0 ∧ OB wr w.heap.size v (D ++ E) ∧ At wr a1 M1 ∧ Sep wr w.heap.size a1 M1 ∧ Upd [] w wr)
      case atStart => exact ⟨0, low0, [], rfl, rfl, rfl, hlow, rfl, IsDig.nil, by simp [dval], by rw [List.append_nil]; exact hD1, hM1, hsep1, hU01⟩
      case round =>
        obtain ⟨j, low, E, hjg, rfl, rfl, hlowl, hEl, dE, hEv, hOB, hAt, hSep, hUr⟩ := hrel
        have HEL : Hid _ := hEl
        have HEV : Hid _ := hEv
        have HJG : Hid _ := hjg
        have hlen : (D ++ E).length ≤ 317 := by rw [List.length_append, hEl]; omega
        have hj9 : j ≤ 9 := by omega
        have hown : wr.ownsRow w.heap.size 5 1 _ (D ++ E).length ((D ++ E).map (fun n => Value.int .u8 (n : Nat))) := hOB
        clear hEl hEv hjg hD1 hM1 hsep1 hU01
        have hsz := hUr.size
        by_cases hj : j < 9
        · have HO : Hid _ := hOB
          clear hOB
          go_wp2_with (at_builtin; refine wpList_append_own _ rfl _ _ 71 rfl w.heap.size 5 i0 (.int .u8 0) 1 1 Tryd.underlying71 hi hz0 hz1 hz2 rfl (by decide) _ _ _ rfl (hown.alloc _) ⟨wr.heap.size, 0, none⟩ 1 1 [.int .u8 ((48 : Int) + (low : Int) % 10)] rfl rfl (cell_one_new _ _ _) (by intro u hu; simp at hu; subst hu; rfl) (by unfold maxLen; omega) (by omega) (by simp; omega) ?_; intro v' w2 hown' hgrow _)
          have hg2 := at_grown HO.out hSep hAt hgrow
          go_roundg (gk - 1)
          case measure => have := HJG.out; omega
          case rel =>
            refine ⟨j + 1, low / 10, E ++ [48 + low % 10], by have := HJG.out; omega, by go_num, by go_num, by omega, by rw [List.length_append, HEL.out]; rfl, dE.append (IsDig.one low), chunk_step E j low low0 HEL.out HEV.out, ?_, hg2.1, hg2.2, ?_⟩
            · rw [← List.append_assoc]; exact OB.snoc hown'
            · exact (hUr.alloc _).grown hgrow (fun k hk => Or.inl (World.ownsRow.lt HO.out k hk).1)
        · have hj9' : j = 9 := by omega
          go_wp2
          go_roundg (gq / 1000000000)
          case measure => exact Nat.div_lt_self hg0 (by decide)
          case rel =>
            refine ⟨c1, a1, M1, D ++ E, rfl, nM1, hAt, by omega, hSep, hOB, dD.append dE, ?_, by omega, hUr⟩
            refine chunk_end D E gq low0 n (by rw [HEL.out, hj9']) HLO.out low ?_ HV.out
            rw [← hj9']; exact HEV.out

end Go.Proofs.YtpeganecbjefoaaDoor
