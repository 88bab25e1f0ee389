/- readEscape, readInside: by their contracts. -/
import Derived.Test.YtiapdapkklcliaaGreatDoorSgn
import Derived.Deep.QuietTactic
import Derived.BigQuiet
namespace Go.Proofs.YtiapdapkklcliaaGreatDoor
open Go.RowKit

def escL : List Nat := [110, 116, 92, 39, 34]
def escS : List Nat := [10, 9, 92, 39, 34]
theorem index_esc (k : Nat) (hk : k < 5) (w : World) : (Instr.index 236 (.agg escC) (.int .i64 k)).run Tryz.prog w = .ok (.agg #[.int .u8 (escL.getD k 0 : Nat), .int .u8 (escS.getD k 0 : Nat)]) w := by
  obtain rfl | rfl | rfl | rfl | rfl : k = 0 ∨ k = 1 ∨ k = 2 ∨ k = 3 ∨ k = 4 := by omega
  · kernel_rfl
  · kernel_rfl
  · kernel_rfl
  · kernel_rfl
  · kernel_rfl

theorem esc_hit (c : UInt8) (r : List UInt8) (k : Nat) (hk : k < 5) (h : escL.getD k 0 = c.toNat) : Sc.escape (c :: r) = (UInt8.ofNat (escS.getD k 0), 2) := by
  have hc : c = UInt8.ofNat (escL.getD k 0) := by rw [h]; simp
  obtain rfl | rfl | rfl | rfl | rfl : k = 0 ∨ k = 1 ∨ k = 2 ∨ k = 3 ∨ k = 4 := by omega
  all_goals (rw [hc]; rfl)
theorem esc_miss (c : UInt8) (h : ∀ j, j < 5 → escL.getD j 0 ≠ c.toNat) : c ≠ 110 ∧ c ≠ 116 ∧ c ≠ 92 ∧ c ≠ 39 ∧ c ≠ 34 := by
  refine ⟨?_, ?_, ?_, ?_, ?_⟩
  · intro e; exact h 0 (by omega) (by rw [e]; rfl)
  · intro e; exact h 1 (by omega) (by rw [e]; rfl)
  · intro e; exact h 2 (by omega) (by rw [e]; rfl)
  · intro e; exact h 3 (by omega) (by rw [e]; rfl)
  · intro e; exact h 4 (by omega) (by rw [e]; rfl)

theorem ret_pair {k k' : IntKind} {a b c d : Int} (h1 : a = c) (h2 : b = d) : Ending.returned (.tuple #[.int k a, .int k' b]) = .returned (.tuple #[.int k c, .int k' d]) := by rw [h1, h2]
theorem bits_hex16 : ∀ i j : Fin 16, bits BinOp.or IntKind.u8 ((i.val : Int) * 16) (j.val : Int) = ((UInt8.ofNat i.val <<< 4 ||| UInt8.ofNat j.val).toNat : Int) := by decide +kernel
theorem bits_hex (x y : UInt8) (hx : x.toNat ≤ 15) (hy : y.toNat ≤ 15) : bits BinOp.or IntKind.u8 ((x.toNat : Int) * 16) (y.toNat : Int) = ((x <<< 4 ||| y).toNat : Int) := by
  have := bits_hex16 ⟨x.toNat, by omega⟩ ⟨y.toNat, by omega⟩
  simpa using this

set_option maxHeartbeats 1000000 in
set_option maxRecDepth 100000 in
theorem readEscape_short (s : ByteArray) (w : World) (h2 : s.size < 2) : Calls Tryz.prog 115 #[.string s] w fun e w' => e = .returned (.tuple #[.int .u8 0, .int .i64 0]) ∧ Upd [] w w' := by
  have hd : decide ((s.size : Int) < 2) = true := by simp; omega
  go_enter Tryz.func115, Tryz.ntmps115
  go_wp2
  go_ret2
  exact ⟨rfl, Upd.refl _ _⟩

set_option maxHeartbeats 2000000 in
set_option maxRecDepth 100000 in
theorem readEscape_core (s : ByteArray) (w : World) (hs : s.size ≤ 1000000000) (h2 : 2 ≤ s.size) (hg : Glb w) (b : UInt8) (n : Nat)
    (hhit : ∀ k, k < 5 → escL.getD k 0 = s[1].toNat → b.toNat = escS.getD k 0 ∧ n = 2)
    (hx : (∀ k, k < 5 → escL.getD k 0 ≠ s[1].toNat) → (if h : 4 ≤ s.size then if s[1].toNat = 120 then if 15 < (Sc.hexV s[2]).toNat ∨ 15 < (Sc.hexV s[3]).toNat then b = 0 ∧ n = 0 else b = (Sc.hexV s[2] <<< 4 ||| Sc.hexV s[3]) ∧ n = 4 else b = 0 ∧ n = 0 else b = 0 ∧ n = 0)) :
    Calls Tryz.prog 115 #[.string s] w fun e w' => e = .returned (.tuple #[.int .u8 b.toNat, .int .i64 n]) ∧ Upd [] w w' := by
  obtain ⟨tt, fr, hh⟩ := hg.escapes
  clear hg
  have HH : Hid _ := hhit
  have HX : Hid _ := hx
  have hd : decide ((s.size : Int) < 2) = false := by simp; omega
  clear hhit hx
  have i1 : (1 : Int) < (s.size : Int) := by omega
  go_enter Tryz.func115, Tryz.ntmps115
  go_wp2_with (refine wpList_load_row rfl 236 _ rfl 5 rfl tt _ fr _ hh Tryz.underlying236 rfl (by kernel_rfl) ?_)
  go_loopw [5, 12] (fun _ i wr => ∃ k : Nat, k ≤ 5 ∧ i = .int .i64 k ∧ (∀ j, j < k → escL.getD j 0 ≠ s[1].toNat) ∧ Upd [] w wr) (fun _ i _ => 5 - (intOf i).toNat)
  case atStart => exact ⟨0, Nat.zero_le _, rfl, fun j hj => by omega, Upd.refl _ _⟩
  case round =>
    obtain ⟨k, hk, rfl, he, hU⟩ := hrel
    have HE : Hid (∀ j, j < k → escL.getD j 0 ≠ s[1].toNat) := he
    clear he
    by_cases hlt : k < 5
    · have hi := index_esc k hlt
      obtain ⟨a, ha⟩ : ∃ a, a = escL.getD k 0 := ⟨_, rfl⟩
      obtain ⟨c, hc⟩ : ∃ c, c = escS.getD k 0 := ⟨_, rfl⟩
      have HA : Hid (a = escL.getD k 0) := ha
      have HC : Hid (c = escS.getD k 0) := hc
      rw [← ha, ← hc] at hi
      clear ha hc
      by_cases hit : a = s[1].toNat
      · have hq : ((a : Int) == (s[1].toNat : Int)) = true := by simp; omega
        have HB : Hid (b.toNat = c ∧ n = 2) := by show b.toNat = c ∧ n = 2; rw [HC.out]; exact HH.out k hlt (by rw [← HA.out]; exact hit)
        clear hit
        go_wp2
        go_quiet (fail)
        go_wp2
        go_ret2
        rw [HB.out.1, HB.out.2]
        exact ⟨rfl, (hU.alloc _).drewN _⟩
      · have hq : ((a : Int) == (s[1].toNat : Int)) = false := by simp; omega
        go_wp2
        go_quiet (fail)
        go_wp2
        go_roundw
        case rel => exact ⟨k + 1, by omega, by go_num, fun j hj => by
          by_cases h : j = k
          · rw [h, ← HA.out]; exact hit
          · exact HE.out j (by omega), (hU.alloc _).drewN _⟩
        case measure => simp [intOf]; omega
    · have hk5 : decide ((k : Int) < 5) = false := by simp; omega
      have hx := HX.out (fun j hj => HE.out j (by omega))
      clear HX HE HH
      by_cases h4 : 4 ≤ s.size
      · have d4 : decide ((s.size : Int) < 4) = false := by simp; omega
        have i2 : (2 : Int) < (s.size : Int) := by omega
        have i3 : (3 : Int) < (s.size : Int) := by omega
        rw [dif_pos h4] at hx
        by_cases hX : s[1].toNat = 120
        · have hq : !((s[1].toNat : Int) == 120) = false := by simp; omega
          rw [if_pos hX] at hx
          obtain ⟨x, hxx⟩ : ∃ x, x = Sc.hexV s[2] := ⟨_, rfl⟩
          obtain ⟨y, hyy⟩ : ∃ y, y = Sc.hexV s[3] := ⟨_, rfl⟩
          have HXX : Hid (x = Sc.hexV s[2]) := hxx
          have HYY : Hid (y = Sc.hexV s[3]) := hyy
          rw [← hxx, ← hyy] at hx
          clear hxx hyy
          have hX' : (s[1].toNat : Int) = 120 := by omega
          clear hX
          go_wp2
          go_quiet (first | (go_at_call 127; exact Calls.quiet_of_same (hexValue_any _ _)))
          rw [← HXX.out, ← HYY.out]
          by_cases h15 : 15 < x.toNat ∨ 15 < y.toNat
          · rw [if_pos h15] at hx
            obtain ⟨rfl, rfl⟩ := hx
            go_wp2
            all_goals (first | (exfalso; omega) | skip)
            all_goals
              go_ret2
              exact ⟨rfl, hU.drewN _⟩
          · rw [if_neg h15] at hx
            obtain ⟨rfl, rfl⟩ := hx
            simp only [not_or] at h15
            have d1 : decide ((x.toNat : Int) > 15) = false := by simp; omega
            have d2 : decide ((y.toNat : Int) > 15) = false := by simp; omega
            go_wp2
            all_goals (first | (exfalso; omega) | skip)
            go_ret2
            exact ⟨ret_pair (bits_hex x y (by omega) (by omega)) rfl, hU.drewN _⟩
        · have hq : ((s[1].toNat : Int) == 120) = false := by simp; omega
          rw [if_neg hX] at hx
          obtain ⟨rfl, rfl⟩ := hx
          go_wp2
          go_ret2
          exact ⟨rfl, hU⟩
      · rw [dif_neg h4] at hx
        obtain ⟨rfl, rfl⟩ := hx
        have d4 : decide ((s.size : Int) < 4) = true := by simp; omega
        go_wp2
        all_goals
          go_ret2
          exact ⟨rfl, hU⟩

theorem tail_get (l : List UInt8) (h2 : 2 ≤ l.length) : l.tail = l[1] :: l.drop 2 := by
  cases l with
  | nil => simp at h2
  | cons a r =>
    cases r with
    | nil => simp at h2
    | cons b t => rfl
theorem drop2_get (l : List UInt8) (h4 : 4 ≤ l.length) : l.drop 2 = l[2] :: l[3] :: l.drop 4 := by
  rw [List.drop_eq_getElem_cons (by omega), List.drop_eq_getElem_cons (by omega)]
theorem drop2_short (l : List UInt8) (h4 : ¬ 4 ≤ l.length) : l.drop 2 = [] ∨ ∃ x, l.drop 2 = [x] := by
  have : (l.drop 2).length ≤ 1 := by rw [List.length_drop]; omega
  match hd : l.drop 2, this with
  | [], _ => exact Or.inl rfl
  | [x], _ => exact Or.inr ⟨x, rfl⟩
  | x :: y :: z, h => simp at h
theorem u8_15 (x : UInt8) : (15 < x) ↔ 15 < x.toNat := by rw [UInt8.lt_iff_toNat_lt]; exact Iff.rfl

theorem escape_else (c : UInt8) (r : List UInt8) (h : c ≠ 110 ∧ c ≠ 116 ∧ c ≠ 92 ∧ c ≠ 39 ∧ c ≠ 34) : Sc.escape (c :: r) = if c = 120 then (match r with | h :: l :: _ => if 15 < Sc.hexV h || 15 < Sc.hexV l then ((0 : UInt8), (0 : Nat)) else (Sc.hexV h <<< 4 ||| Sc.hexV l, 4) | _ => (0, 0)) else (0, 0) := by
  obtain ⟨h1, h2, h3, h4, h5⟩ := h
  rw [Sc.escape.eq_def]
  simp only
  rw [if_neg h1, if_neg h2, if_neg h3, if_neg h4, if_neg h5]
  rfl

/-- What stands behind the backslash that s begins with. -/
theorem readEscape_any (s : ByteArray) (w : World) (hs : s.size ≤ 1000000000) (h1 : 0 < s.size) (hg : Glb w) :
    Calls Tryz.prog 115 #[.string s] w fun e w' => e = .returned (.tuple #[.int .u8 (Sc.escape (byt s).tail).1.toNat, .int .i64 (Sc.escape (byt s).tail).2]) ∧ Upd [] w w' := by
  by_cases h2 : 2 ≤ s.size
  · have e1 : (byt s).tail = s[1]'h2 :: (byt s).drop 2 := by rw [tail_get (byt s) (by rw [byt_len]; exact h2), byt_get s 1 h2]
    rw [e1]
    refine readEscape_core s w hs h2 hg _ _ (fun k hk hh => ?_) (fun hh => ?_)
    · rw [esc_hit s[1] _ k hk hh]
      refine ⟨?_, rfl⟩
      obtain rfl | rfl | rfl | rfl | rfl : k = 0 ∨ k = 1 ∨ k = 2 ∨ k = 3 ∨ k = 4 := by omega
      all_goals rfl
    · rw [escape_else s[1] _ (esc_miss _ hh)]
      by_cases h4 : 4 ≤ s.size
      · have h3 : 2 < s.size := by omega
        have e2 : (byt s).drop 2 = s[2]'h3 :: s[3]'h4 :: (byt s).drop 4 := by rw [drop2_get (byt s) (by rw [byt_len]; exact h4), byt_get s 2 h3, byt_get s 3 h4]
        rw [dif_pos h4, e2]
        simp only
        by_cases hX : s[1].toNat = 120
        · rw [if_pos hX, if_pos (UInt8.toNat_inj.1 hX)]
          by_cases h15 : 15 < (Sc.hexV s[2]).toNat ∨ 15 < (Sc.hexV s[3]).toNat
          · rw [if_pos h15, if_pos (by simp only [Bool.or_eq_true, decide_eq_true_eq, u8_15]; exact h15)]
            exact ⟨rfl, rfl⟩
          · rw [if_neg h15, if_neg (by simp only [Bool.or_eq_true, decide_eq_true_eq, u8_15]; exact h15)]
            exact ⟨rfl, rfl⟩
        · rw [if_neg hX, if_neg (fun e => hX (by rw [e]; rfl))]
          exact ⟨rfl, rfl⟩
      · rw [dif_neg h4]
        have hl4 : ¬ 4 ≤ (byt s).length := by rw [byt_len]; exact h4
        rcases drop2_short (byt s) hl4 with e2 | ⟨x, e2⟩
        · rw [e2]; simp only [ite_self]; exact ⟨trivial, trivial⟩
        · rw [e2]; simp only [ite_self]; exact ⟨trivial, trivial⟩
  · have e1 : (byt s).tail = [] := by
      have : (byt s).length = 1 := by rw [byt_len]; omega
      match hb : byt s, this with
      | [c], _ => rfl
      | [], h => simp at h
      | a :: b :: r, h => simp at h
    rw [e1]
    exact readEscape_short s w (by omega)

set_option maxHeartbeats 1000000 in
theorem readInside_any (s : ByteArray) (w : World) (hs : s.size ≤ 1000000000) (h1 : 0 < s.size) (hg : Glb w) :
    Calls Tryz.prog 82 #[.string s] w fun e w' => e = .returned (.tuple #[.int .u8 (Sc.inside (byt s)).1.toNat, .int .i64 (Sc.inside (byt s)).2]) ∧ Upd [] w w' := by
  have e1 : byt s = s[0]'h1 :: (byt s).tail := by
    have := List.drop_eq_getElem_cons (l := byt s) (i := 0) (by rw [byt_len]; exact h1)
    rw [List.drop_zero, byt_get s 0 h1] at this
    rw [← List.drop_one]
    exact this
  have e2 : Sc.inside (byt s) = if s[0] < 32 then (0, 0) else if s[0] = 92 then Sc.escape (byt s).tail else (s[0], 1) := by
    rw [e1]; rfl
  rw [e2]
  by_cases h32 : s[0] < 32
  · rw [if_pos h32]
    have hd : (s[0].toNat : Int) < 32 := by have := UInt8.lt_iff_toNat_lt.1 h32; simp at this; omega
    clear e1 e2 h32
    go_enter Tryz.func82, Tryz.ntmps82
    go_wp2
    go_ret2
    exact ⟨rfl, Upd.refl _ _⟩
  · rw [if_neg h32]
    have hd : decide ((s[0].toNat : Int) < 32) = false := by rw [UInt8.lt_iff_toNat_lt] at h32; simp at h32 ⊢; omega
    by_cases h92 : s[0] = 92
    · rw [if_pos h92]
      have hq : ((s[0].toNat : Int) == 92) = true := by rw [h92]; rfl
      have HG : Hid (Glb w) := hg
      clear hg e1 e2 h92 h32
      obtain ⟨B, hB⟩ : ∃ B, B = Sc.escape (byt s).tail := ⟨_, rfl⟩
      have HX : Hid (∀ W, Upd [] w W → Calls Tryz.prog 115 #[.string s] W fun e w' => e = .returned (.tuple #[.int .u8 B.1.toNat, .int .i64 B.2]) ∧ Upd [] W w') := fun W hU => by rw [hB]; exact readEscape_any s W hs h1 (HG.out.mono hU)
      rw [← hB]
      clear hB
      go_enter Tryz.func82, Tryz.ntmps82
      go_wp2_with fail
      refine (HX.out _ (Upd.refl _ _)).mono ?_
      rintro e w' ⟨rfl, hU⟩
      go_wp2
      go_ret2
      exact ⟨rfl, hU⟩
    · rw [if_neg h92]
      have hq : ((s[0].toNat : Int) == 92) = false := by
        rw [Bool.eq_false_iff]
        intro h
        exact h92 (UInt8.toNat_inj.1 (by simp at h ⊢; omega))
      clear e1 e2 h92 h32
      go_enter Tryz.func82, Tryz.ntmps82
      go_wp2
      go_ret2
      exact ⟨rfl, Upd.refl _ _⟩

end Go.Proofs.YtiapdapkklcliaaGreatDoor
