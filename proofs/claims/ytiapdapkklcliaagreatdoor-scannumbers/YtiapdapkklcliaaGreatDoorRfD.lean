/- The reference's token, by its contract. -/
import Derived.Test.YtiapdapkklcliaaGreatDoorRfC
namespace Go.Proofs.YtiapdapkklcliaaGreatDoor
open Go.RowKit

/-- What the document tells of the token at a place. -/
def tokR (pl : Nat) : Sc.Fd → Value
  | .tok k t n => .tuple #[.agg #[.int .u8 k, .string (str t), .int .i64 pl], .int .i64 ((pl + n : Nat) : Int), .int .i64 0]
  | .bad e => .tuple #[.agg #[.int .u8 0, .string ⟨#[]⟩, .int .i64 0], .int .i64 0, .int .i64 e]
def TokR (s : ByteArray) (pl : Nat) (w : World) : Prop := Calls Tryz.prog 23 #[.string s, .int .i64 pl] w fun e w' => e = .returned (tokR pl (Sc.read ((byt s).drop pl))) ∧ Upd [] w w'
theorem read_cons (c : UInt8) (r : List UInt8) : Sc.read (c :: r) = if (Sc.isLower c || Sc.high c) = true then Sc.readName (c :: r) else if Sc.isDigit c = true then Sc.readDigits (c :: r) else if c = 39 then Sc.readQuoted (c :: r) 2 40 else if c = 34 then Sc.readQuoted (c :: r) 4 400
    else if (c == 46 && (r.isEmpty || decide (0 < Sc.gap (List.take 1 r)))) = true then Sc.Fd.tok 7 [46] 1 else Sc.readSign (c :: r) := by
  rw [Sc.letter_eq]; rfl
theorem not_q (c : UInt8) (h : (Sc.isLower c || Sc.high c) = true) : Sc.isDigit c = false := by
  have := Sc.all8 (p := fun c => !(Sc.isLower c || Sc.high c) || !Sc.isDigit c) (by decide +kernel) c
  simp only [h, Bool.not_true, Bool.false_or] at this
  simpa using this
theorem u8_ne (c k : UInt8) (h : c ≠ k) : ((c.toNat : Int) == (k.toNat : Int)) = false := by
  rw [Bool.eq_false_iff]; intro h2; rw [beq_iff_eq] at h2; exact h ((u8_eq _ _).2 h2)

set_option maxHeartbeats 2000000 in
set_option maxRecDepth 100000 in
theorem rtok_name (s : ByteArray) (pl : Nat) (w : World) (hs : s.size ≤ 1000000000) (hp : pl < s.size) (hl : (Sc.isLower s[pl] || Sc.high s[pl]) = true) : TokR s pl w := by
  unfold TokR
  have e0 : Sc.read ((byt s).drop pl) = Sc.readName ((byt s).drop pl) := by
    rw [drop_here s pl hp, read_cons, hl]
    rfl
  have HNm : Hid (∀ W, Calls Tryz.prog 47 #[.string s, .int .i64 pl] W fun e w' => e = .returned (namR pl ((byt s).drop pl)) ∧ Upd [] W w') := fun W => rname_any s pl W hs hp hl
  have hpos : 0 < Sc.span Sc.isName ((byt s).drop pl) := by
    rw [drop_here s pl hp]
    have hn : Sc.isName s[pl] = true := by rw [← Sc.named_eq]; unfold Sc.named; rw [hl]; rfl
    unfold Sc.span
    rw [if_pos hn]; omega
  have hle := Sc.span_le Sc.isName ((byt s).drop pl)
  rw [List.length_drop, byt_len] at hle
  rw [e0]
  unfold Sc.readName
  unfold namR at HNm
  obtain ⟨N, hN⟩ : ∃ N, N = Sc.span Sc.isName ((byt s).drop pl) := ⟨_, rfl⟩
  rw [← hN] at HNm hpos hle ⊢
  obtain ⟨t, ht⟩ : ∃ t, t = ((byt s).drop pl).take N := ⟨_, rfl⟩
  rw [← ht] at HNm ⊢
  obtain ⟨kd, hkd⟩ : ∃ kd, kd = Sc.nameKind t := ⟨_, rfl⟩
  rw [← hkd] at HNm ⊢
  clear e0 hN ht hkd
  have i00 : (pl : Int) < (s.size : Int) := by omega
  have hA : ∀ W, Upd [] (w.alloc (.cells #[.int .u8 0, .string ⟨#[]⟩, .int .i64 0] 43)) W → Blk W w.heap.size #[.int .u8 0, .string ⟨#[]⟩, .int .i64 0] 43 := fun W hW => (Blk.new w _ _).mono hW (by simp)
  have HA : Hid (∀ W, Upd [] (w.alloc (.cells #[.int .u8 0, .string ⟨#[]⟩, .int .i64 0] 43)) W → Blk W w.heap.size #[.int .u8 0, .string ⟨#[]⟩, .int .i64 0] 43) := hA
  clear hA
  have HL : Hid ((Sc.isLower s[pl] || Sc.high s[pl]) = true) := hl
  clear hl
  by_cases h40 : 40 < N
  · simp only [h40, if_true] at HNm ⊢
    cases hlow : Sc.isLower s[pl] with
    | true =>
      go_enter Tryz.func23, Tryz.ntmps23
      go_wp2_with (first | (go_at_call 45; refine (rlow_any _ _).mono ?_; rintro e w' ⟨rfl, rfl⟩; rw [hlow]) | fail)
      refine (HNm.out _).mono ?_
      rintro e w1 ⟨rfl, hU1⟩
      have hA1 := (HA.out _ hU1).mono ((Upd.refl [] w1).alloc (.cells #[.int .u8 0, .string ⟨#[]⟩, .int .i64 0] 43)) (by simp)
      have hC1 := Blk.new w1 #[.int .u8 0, .string ⟨#[]⟩, .int .i64 0] 43
      have hU2 := (((Upd.refl [] w).alloc _).trans hU1).alloc (.cells #[.int .u8 0, .string ⟨#[]⟩, .int .i64 0] 43)
      go_wp2_with (first | (refine wpList_load_row rfl 43 _ rfl w1.heap.size rfl 43 _ (0, 0) _ hC1 Tryz.underlying43 rfl info_tok3 ?_) | (refine store_S _ rfl 43 _ _ rfl w.heap.size #[.int .u8 0, .string ⟨#[]⟩, .int .i64 0] _ rfl rfl hA1 info_tok3 rfl (by simp [Value.oneCell']) ?_; intro w5 hB5 hU5))
      exact ret_Stt Tryz.results23 rfl _ _ _ _ rfl rfl rfl hB5 Tryz.underlying43 info_tok3 ⟨rfl, hU2.then hU5 (by simp)⟩
    | false =>
      have hhigh : Sc.high s[pl] = true := by have := HL.out; rw [hlow] at this; simpa using this
      go_enter Tryz.func23, Tryz.ntmps23
      go_wp2_with (first | (go_at_call 45; refine (rlow_any _ _).mono ?_; rintro e w' ⟨rfl, rfl⟩; rw [hlow]) | (go_at_call 46; refine (rhigh_any _ _).mono ?_; rintro e w' ⟨rfl, rfl⟩; rw [hhigh]) | fail)
      refine (HNm.out _).mono ?_
      rintro e w1 ⟨rfl, hU1⟩
      have hA1 := (HA.out _ hU1).mono ((Upd.refl [] w1).alloc (.cells #[.int .u8 0, .string ⟨#[]⟩, .int .i64 0] 43)) (by simp)
      have hC1 := Blk.new w1 #[.int .u8 0, .string ⟨#[]⟩, .int .i64 0] 43
      have hU2 := (((Upd.refl [] w).alloc _).trans hU1).alloc (.cells #[.int .u8 0, .string ⟨#[]⟩, .int .i64 0] 43)
      go_wp2_with (first | (refine wpList_load_row rfl 43 _ rfl w1.heap.size rfl 43 _ (0, 0) _ hC1 Tryz.underlying43 rfl info_tok3 ?_) | (refine store_S _ rfl 43 _ _ rfl w.heap.size #[.int .u8 0, .string ⟨#[]⟩, .int .i64 0] _ rfl rfl hA1 info_tok3 rfl (by simp [Value.oneCell']) ?_; intro w5 hB5 hU5))
      exact ret_Stt Tryz.results23 rfl _ _ _ _ rfl rfl rfl hB5 Tryz.underlying43 info_tok3 ⟨rfl, hU2.then hU5 (by simp)⟩
  · simp only [h40, if_false] at HNm ⊢
    have hz : (((pl + N : Nat) : Int) == 0) = false := by rw [Bool.eq_false_iff]; intro h; rw [beq_iff_eq] at h; omega
    obtain ⟨en, hen⟩ : ∃ en : Nat, en = pl + N := ⟨_, rfl⟩
    simp only [tokR]
    rw [← hen] at HNm hz ⊢
    clear hen
    cases hlow : Sc.isLower s[pl] with
    | true =>
      go_enter Tryz.func23, Tryz.ntmps23
      go_wp2_with (first | (go_at_call 45; refine (rlow_any _ _).mono ?_; rintro e w' ⟨rfl, rfl⟩; rw [hlow]) | fail)
      refine (HNm.out _).mono ?_
      rintro e w1 ⟨rfl, hU1⟩
      have hA1 := (HA.out _ hU1).mono ((Upd.refl [] w1).alloc (.cells #[.int .u8 kd, .string (str t), .int .i64 pl] 43)) (by simp)
      have hC1 := Blk.new w1 #[.int .u8 kd, .string (str t), .int .i64 pl] 43
      have hU2 := (((Upd.refl [] w).alloc _).trans hU1).alloc (.cells #[.int .u8 kd, .string (str t), .int .i64 pl] 43)
      go_wp2_with (first | (refine wpList_load_row rfl 43 _ rfl w1.heap.size rfl 43 _ (0, 0) _ hC1 Tryz.underlying43 rfl info_tok3 ?_) | (refine store_S _ rfl 43 _ _ rfl w.heap.size #[.int .u8 kd, .string (str t), .int .i64 pl] _ rfl rfl hA1 info_tok3 rfl (by simp [Value.oneCell']) ?_; intro w5 hB5 hU5))
      exact ret_Stt Tryz.results23 rfl _ _ _ _ rfl rfl rfl hB5 Tryz.underlying43 info_tok3 ⟨rfl, hU2.then hU5 (by simp)⟩
    | false =>
      have hhigh : Sc.high s[pl] = true := by have := HL.out; rw [hlow] at this; simpa using this
      go_enter Tryz.func23, Tryz.ntmps23
      go_wp2_with (first | (go_at_call 45; refine (rlow_any _ _).mono ?_; rintro e w' ⟨rfl, rfl⟩; rw [hlow]) | (go_at_call 46; refine (rhigh_any _ _).mono ?_; rintro e w' ⟨rfl, rfl⟩; rw [hhigh]) | fail)
      refine (HNm.out _).mono ?_
      rintro e w1 ⟨rfl, hU1⟩
      have hA1 := (HA.out _ hU1).mono ((Upd.refl [] w1).alloc (.cells #[.int .u8 kd, .string (str t), .int .i64 pl] 43)) (by simp)
      have hC1 := Blk.new w1 #[.int .u8 kd, .string (str t), .int .i64 pl] 43
      have hU2 := (((Upd.refl [] w).alloc _).trans hU1).alloc (.cells #[.int .u8 kd, .string (str t), .int .i64 pl] 43)
      go_wp2_with (first | (refine wpList_load_row rfl 43 _ rfl w1.heap.size rfl 43 _ (0, 0) _ hC1 Tryz.underlying43 rfl info_tok3 ?_) | (refine store_S _ rfl 43 _ _ rfl w.heap.size #[.int .u8 kd, .string (str t), .int .i64 pl] _ rfl rfl hA1 info_tok3 rfl (by simp [Value.oneCell']) ?_; intro w5 hB5 hU5))
      exact ret_Stt Tryz.results23 rfl _ _ _ _ rfl rfl rfl hB5 Tryz.underlying43 info_tok3 ⟨rfl, hU2.then hU5 (by simp)⟩

def zeroTok : Array Value := #[.int .u8 0, .string ⟨#[]⟩, .int .i64 0]
theorem digit_apart (c : UInt8) (h : Sc.isDigit c = true) : Sc.isLower c = false ∧ Sc.high c = false := by
  have := Sc.all8 (p := fun c => !Sc.isDigit c || (!Sc.isLower c && !Sc.high c)) (by decide +kernel) c
  simp only [h, Bool.not_true, Bool.false_or, Bool.and_eq_true, Bool.not_eq_true'] at this
  exact this

set_option maxHeartbeats 4000000 in
set_option maxRecDepth 100000 in
theorem rtok_digits (s : ByteArray) (pl : Nat) (w : World) (hs : s.size ≤ 1000000000) (hp : pl < s.size) (hd : Sc.isDigit s[pl] = true) : TokR s pl w := by
  unfold TokR
  obtain ⟨hlow, hhigh⟩ := digit_apart _ hd
  have e0 : Sc.read ((byt s).drop pl) = Sc.readDigits ((byt s).drop pl) := by
    rw [drop_here s pl hp, read_cons, hlow, hhigh, hd]
    rfl
  rw [e0]
  clear e0
  obtain ⟨R, hR⟩ : ∃ R, R = Sc.readDigits ((byt s).drop pl) := ⟨_, rfl⟩
  rw [← hR]
  have HRR : Hid (R = Sc.readDigits ((byt s).drop pl)) := hR
  clear hR
  have i00 : (pl : Int) < (s.size : Int) := by omega
  go_enter Tryz.func23, Tryz.ntmps23
  go_wp2_with (first | (go_at_call 45; refine (rlow_any _ _).mono ?_; rintro e w' ⟨rfl, rfl⟩; rw [hlow]) | (go_at_call 46; refine (rhigh_any _ _).mono ?_; rintro e w' ⟨rfl, rfl⟩; rw [hhigh]) | (go_at_call 48; refine (rdigit_any _ _).mono ?_; rintro e w' ⟨rfl, rfl⟩; rw [hd]) | fail)
  go_loopw [10] (fun i wr => ∃ k : Nat, pl ≤ k ∧ k ≤ s.size ∧ i = .int .i64 k ∧ wr = w.alloc (.cells #[.int .u8 0, .string ⟨#[]⟩, .int .i64 0] 43) ∧ ∀ j (hj : j < s.size), pl ≤ j → j < k → Sc.isDigit s[j] = true) (fun i _ => s.size - (intOf i).toNat)
  case atStart => exact ⟨pl, by omega, by omega, rfl, rfl, fun j hj h1 h2 => by omega⟩
  case round =>
    obtain ⟨k, hk1, hk2, rfl, hwr, he⟩ := hrel
    have HE : Hid (∀ j (hj : j < s.size), pl ≤ j → j < k → Sc.isDigit s[j] = true) := he
    have HW : Hid (wr = w.alloc (.cells #[.int .u8 0, .string ⟨#[]⟩, .int .i64 0] 43)) := hwr
    clear he hwr
    by_cases hgo : ∃ hlt : k < s.size, Sc.isDigit (s[k]'hlt) = true
    · obtain ⟨hlt, hn⟩ := hgo
      have i1 : (k : Int) < (s.size : Int) := by omega
      go_wp2_with (go_at_call 48; refine (rdigit_any _ _).mono ?_; rintro e w' ⟨rfl, hw'⟩; rw [hw', hn]; clear hw')
      go_roundw
      case rel => exact ⟨k + 1, by omega, by omega, by go_num, HW.out, fun j hj h1 h2 => by
        by_cases h : j = k
        · subst h; exact hn
        · exact HE.out j hj h1 (by omega)⟩
      case measure => simp [intOf]; omega
    · have hend : ∀ hk : k < s.size, Sc.isDigit s[k] = false := fun hlt => by
        rw [Bool.eq_false_iff]; intro h; exact hgo ⟨hlt, h⟩
      have hsp := span_to Sc.isDigit s pl k hk2 hk1 HE.out hend
      obtain ⟨t, ht⟩ : ∃ t, t = ((byt s).drop pl).take (k - pl) := ⟨_, rfl⟩
      have hcut : s.extract pl k = str t := by rw [cut_str, ht]
      obtain ⟨Rn, hRn⟩ : ∃ Rn, Rn = Sc.runsOn ((byt s).drop k) := ⟨_, rfl⟩
      have HR : Hid (R = if (Rn || decide (400 < k - pl)) = true then Sc.Fd.bad 201 else .tok 1 t (k - pl)) := by
        show _ = _
        rw [HRR.out]
        unfold Sc.readDigits
        rw [hsp, ← ht, List.drop_drop, show pl + (k - pl) = k by omega, ← hRn]
      have HRn : Hid (Rn = Sc.runsOn ((byt s).drop k)) := hRn
      have hB := Blk.new w #[.int .u8 0, .string ⟨#[]⟩, .int .i64 0] 43
      rw [← HW.out] at hB
      have hU0 : Upd [] w wr := by rw [HW.out]; exact (Upd.refl [] w).alloc _
      have hsub : wrap64 ((k : Int) - (pl : Int)) = ((k - pl : Nat) : Int) := by unfold wrap64; omega
      have hsub2 : IntKind.i64.wrap ((k : Int) - (pl : Int)) = ((k - pl : Nat) : Int) := by rw [IntKind.wrap_i64]; omega
      clear ht hsp hgo HE hRn HRR
      by_cases h400 : 400 < k - pl
      · have d400 : (400 : Int) < ((k - pl : Nat) : Int) := by omega
        have HT : Hid ((if (Rn || decide (400 < k - pl)) = true then Sc.Fd.bad 201 else .tok 1 t (k - pl)) = .bad 201) := by show _ = _; rw [if_pos (by simp [h400])]
        by_cases hlt : k < s.size
        · have i1 : (k : Int) < (s.size : Int) := by omega
          have hn := hend hlt
          clear hend
          go_wp2_with (first | (go_at_call 48; refine (rdigit_any _ _).mono ?_; rintro e w' ⟨rfl, hw'⟩; rw [hw', hn]; clear hw') | (refine store_S _ rfl 43 _ _ rfl w.heap.size #[.int .u8 0, .string ⟨#[]⟩, .int .i64 0] _ rfl rfl hB info_tok3 rfl (by simp [Value.oneCell']) ?_; intro w5 hB5 hU5))
          rw [HR.out, HT.out]
          exact ret_Stt Tryz.results23 rfl _ _ _ _ rfl rfl rfl hB5 Tryz.underlying43 info_tok3 ⟨rfl, hU0.then hU5 (by simp)⟩
        · have i1 : decide ((k : Int) < (s.size : Int)) = false := by simp; omega
          clear hend
          go_wp2_with (refine store_S _ rfl 43 _ _ rfl w.heap.size #[.int .u8 0, .string ⟨#[]⟩, .int .i64 0] _ rfl rfl hB info_tok3 rfl (by simp [Value.oneCell']) ?_; intro w5 hB5 hU5)
          rw [HR.out, HT.out]
          exact ret_Stt Tryz.results23 rfl _ _ _ _ rfl rfl rfl hB5 Tryz.underlying43 info_tok3 ⟨rfl, hU0.then hU5 (by simp)⟩
      · have d400 : decide ((400 : Int) < ((k - pl : Nat) : Int)) = false := by simp; omega
        by_cases hlt : k < s.size
        · have i1 : (k : Int) < (s.size : Int) := by omega
          have hn := hend hlt
          have hrn : Rn = Sc.named (s[k]'hlt) := by
            rw [HRn.out, drop_here s k hlt, Sc.runs_eq _ hn]
            rfl
          clear hend
          cases hnm : Sc.named (s[k]'hlt) with
          | true =>
            have HT : Hid ((if (Rn || decide (400 < k - pl)) = true then Sc.Fd.bad 201 else .tok 1 t (k - pl)) = .bad 201) := by show _ = _; rw [hrn, hnm]; rfl
            clear hrn
            go_wp2_with (first | (go_at_call 48; refine (rdigit_any _ _).mono ?_; rintro e w' ⟨rfl, hw'⟩; rw [hw', hn]; clear hw') | (go_at_call 49; refine (rnamed_any _ _).mono ?_; rintro e w' ⟨rfl, hw'⟩; rw [hw', hnm]; clear hw') | (refine store_S _ rfl 43 _ _ rfl w.heap.size #[.int .u8 0, .string ⟨#[]⟩, .int .i64 0] _ rfl rfl hB info_tok3 rfl (by simp [Value.oneCell']) ?_; intro w5 hB5 hU5))
            rw [HR.out, HT.out]
            exact ret_Stt Tryz.results23 rfl _ _ _ _ rfl rfl rfl hB5 Tryz.underlying43 info_tok3 ⟨rfl, hU0.then hU5 (by simp)⟩
          | false =>
            have HT : Hid ((if (Rn || decide (400 < k - pl)) = true then Sc.Fd.bad 201 else .tok 1 t (k - pl)) = .tok 1 t (k - pl)) := by show _ = _; rw [hrn, hnm, if_neg (by simp [h400])]
            clear hrn
            go_wp2_with (first | (go_at_call 48; refine (rdigit_any _ _).mono ?_; rintro e w' ⟨rfl, hw'⟩; rw [hw', hn]; clear hw') | (go_at_call 49; refine (rnamed_any _ _).mono ?_; rintro e w' ⟨rfl, hw'⟩; rw [hw', hnm]; clear hw') | (refine store_S _ rfl 43 _ _ rfl w.heap.size #[.int .u8 1, .string (str t), .int .i64 pl] _ rfl rfl hB info_tok3 rfl (by simp [Value.oneCell']) ?_; intro w5 hB5 hU5))
            rw [HR.out, HT.out]
            refine ret_Stt Tryz.results23 rfl _ _ _ _ rfl rfl rfl hB5 Tryz.underlying43 info_tok3 ⟨?_, hU0.then hU5 (by simp)⟩
            show _ = Ending.returned (.tuple #[.agg #[.int .u8 1, .string (str t), .int .i64 pl], .int .i64 ((pl + (k - pl) : Nat) : Int), .int .i64 0])
            rw [show pl + (k - pl) = k by omega]
            rfl
        · have i1 : decide ((k : Int) < (s.size : Int)) = false := by simp; omega
          have hrn : Rn = false := by rw [HRn.out, List.drop_of_length_le (by rw [byt_len]; omega)]; rfl
          have HT : Hid ((if (Rn || decide (400 < k - pl)) = true then Sc.Fd.bad 201 else .tok 1 t (k - pl)) = .tok 1 t (k - pl)) := by show _ = _; rw [hrn, if_neg (by simp [h400])]
          clear hend hrn
          go_wp2_with (refine store_S _ rfl 43 _ _ rfl w.heap.size #[.int .u8 1, .string (str t), .int .i64 pl] _ rfl rfl hB info_tok3 rfl (by simp [Value.oneCell']) ?_; intro w5 hB5 hU5)
          rw [HR.out, HT.out]
          refine ret_Stt Tryz.results23 rfl _ _ _ _ rfl rfl rfl hB5 Tryz.underlying43 info_tok3 ⟨?_, hU0.then hU5 (by simp)⟩
          show _ = Ending.returned (.tuple #[.agg #[.int .u8 1, .string (str t), .int .i64 pl], .int .i64 ((pl + (k - pl) : Nat) : Int), .int .i64 0])
          rw [show pl + (k - pl) = k by omega]
          rfl

end Go.Proofs.YtiapdapkklcliaaGreatDoor
