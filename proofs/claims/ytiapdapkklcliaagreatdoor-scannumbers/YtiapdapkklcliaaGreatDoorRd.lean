/- read, by its contract. -/
import Derived.Test.YtiapdapkklcliaaGreatDoorQuo
namespace Go.Proofs.YtiapdapkklcliaaGreatDoor
open Go.RowKit

theorem cons_byt (s : ByteArray) (h1 : 0 < s.size) : byt s = s[0]'h1 :: (byt s).tail := by
  have := List.drop_eq_getElem_cons (l := byt s) (i := 0) (by rw [byt_len]; exact h1)
  rw [List.drop_zero, byt_get s 0 h1] at this
  rw [← List.drop_one]
  exact this
theorem read_byt (s : ByteArray) (h1 : 0 < s.size) : Sc.read (byt s) = if Sc.isLetter (s[0]'h1) || s[0]'h1 == 95 then Sc.readName (byt s) else if Sc.isDigit (s[0]'h1) then Sc.readDigits (byt s) else if s[0]'h1 = 39 then Sc.readQuoted (byt s) 2 40 else if s[0]'h1 = 34 then Sc.readQuoted (byt s) 4 400
    else if s[0]'h1 == 46 && ((byt s).tail.isEmpty || decide (0 < Sc.gap ((byt s).tail.take 1))) then .tok 7 [46] 1 else Sc.readSign (byt s) := by
  rw [cons_byt s h1]; rfl
theorem eq_b (c d : UInt8) (n : Int) (hn : n = d.toNat) : ((c.toNat : Int) == n) = decide (c = d) := by
  subst hn
  rw [Bool.eq_iff_iff]
  simp only [beq_iff_eq, decide_eq_true_eq]
  constructor
  · intro h; exact UInt8.toNat_inj.1 (by omega)
  · intro h; rw [h]

theorem fdC_size (F : Sc.Fd) : (fdC F).size = 4 := by cases F <;> rfl
theorem fdC_one (F : Sc.Fd) : (fdC F).all (·.oneCell') = true := by cases F <;> simp [fdC, Value.oneCell']

set_option maxHeartbeats 1000000 in
set_option maxRecDepth 100000 in
theorem read_letter (s : ByteArray) (w : World) (h1 : 0 < s.size) (hs : s.size ≤ 1000000000) (hg : Glb w) (hL : Sc.isLetter (s[0]'h1) = true) (hn : Sc.isName (s[0]'h1) = true) :
    Calls Tryz.prog 20 #[.string s] w fun e w' => e = .returned (.agg (fdC (Sc.readName (byt s)))) ∧ Upd [] w w' := by
  have hZ : Upd [] w (w.alloc (.cells #[.int .u8 0, .string ⟨#[]⟩, .int .i64 0, .int .i64 0] 49)) := (Upd.refl [] w).alloc _
  have hG2 := hg.mono hZ
  have hB := Blk.new w #[.int .u8 0, .string ⟨#[]⟩, .int .i64 0, .int .i64 0] 49
  have HG : Hid (Glb _) := hG2
  have HZ : Hid (Upd [] w _) := hZ
  clear hg hG2 hZ
  go_enter Tryz.func20, Tryz.ntmps20
  go_wp2_with (first | (go_at_call 38; refine (isLetter_any _ _).mono ?_; rintro e w' ⟨rfl, rfl⟩) | (go_at_call 40; refine (isDigit_any _ _).mono ?_; rintro e w' ⟨rfl, rfl⟩))
  refine (readName_any s _ hs h1 hn HG.out).mono ?_
  rintro e w2 ⟨rfl, hU2⟩
  have hB2 := hB.mono hU2 (by simp)
  go_wp2_with (refine store_S _ rfl 49 _ _ rfl _ _ _ rfl rfl hB2 (by rw [fdC_size]; exact info_fd) (by rw [fdC_size]; rfl) (fdC_one _) ?_; intro w3 hB3 hU3)
  exact ret_S Tryz.results20 rfl _ _ rfl hB3 Tryz.underlying49 (by rw [fdC_size]; exact info_fd) ⟨rfl, (HZ.out.trans hU2).then hU3 (by simp)⟩

set_option maxHeartbeats 1000000 in
set_option maxRecDepth 100000 in
theorem read_under (s : ByteArray) (w : World) (h1 : 0 < s.size) (hs : s.size ≤ 1000000000) (hg : Glb w) (hL : Sc.isLetter (s[0]'h1) = false) (h95 : (((s[0]'h1).toNat : Int) == 95) = true) (hn : Sc.isName (s[0]'h1) = true) :
    Calls Tryz.prog 20 #[.string s] w fun e w' => e = .returned (.agg (fdC (Sc.readName (byt s)))) ∧ Upd [] w w' := by
  have hZ : Upd [] w (w.alloc (.cells #[.int .u8 0, .string ⟨#[]⟩, .int .i64 0, .int .i64 0] 49)) := (Upd.refl [] w).alloc _
  have hG2 := hg.mono hZ
  have hB := Blk.new w #[.int .u8 0, .string ⟨#[]⟩, .int .i64 0, .int .i64 0] 49
  have HG : Hid (Glb _) := hG2
  have HZ : Hid (Upd [] w _) := hZ
  clear hg hG2 hZ
  go_enter Tryz.func20, Tryz.ntmps20
  go_wp2_with (first | (go_at_call 38; refine (isLetter_any _ _).mono ?_; rintro e w' ⟨rfl, rfl⟩) | (go_at_call 40; refine (isDigit_any _ _).mono ?_; rintro e w' ⟨rfl, rfl⟩))
  refine (readName_any s _ hs h1 hn HG.out).mono ?_
  rintro e w2 ⟨rfl, hU2⟩
  have hB2 := hB.mono hU2 (by simp)
  go_wp2_with (refine store_S _ rfl 49 _ _ rfl _ _ _ rfl rfl hB2 (by rw [fdC_size]; exact info_fd) (by rw [fdC_size]; rfl) (fdC_one _) ?_; intro w3 hB3 hU3)
  exact ret_S Tryz.results20 rfl _ _ rfl hB3 Tryz.underlying49 (by rw [fdC_size]; exact info_fd) ⟨rfl, (HZ.out.trans hU2).then hU3 (by simp)⟩

set_option maxHeartbeats 1000000 in
set_option maxRecDepth 100000 in
theorem read_digit (s : ByteArray) (w : World) (h1 : 0 < s.size) (hs : s.size ≤ 1000000000) (hg : Glb w) (hL : Sc.isLetter (s[0]'h1) = false) (h95 : (((s[0]'h1).toNat : Int) == 95) = false) (hD : Sc.isDigit (s[0]'h1) = true) :
    Calls Tryz.prog 20 #[.string s] w fun e w' => e = .returned (.agg (fdC (Sc.readDigits (byt s)))) ∧ Upd [] w w' := by
  have hZ : Upd [] w (w.alloc (.cells #[.int .u8 0, .string ⟨#[]⟩, .int .i64 0, .int .i64 0] 49)) := (Upd.refl [] w).alloc _
  have hG2 := hg.mono hZ
  have hB := Blk.new w #[.int .u8 0, .string ⟨#[]⟩, .int .i64 0, .int .i64 0] 49
  have HG : Hid (Glb _) := hG2
  have HZ : Hid (Upd [] w _) := hZ
  clear hg hG2 hZ
  go_enter Tryz.func20, Tryz.ntmps20
  go_wp2_with (first | (go_at_call 38; refine (isLetter_any _ _).mono ?_; rintro e w' ⟨rfl, rfl⟩) | (go_at_call 40; refine (isDigit_any _ _).mono ?_; rintro e w' ⟨rfl, rfl⟩))
  refine (readDigits_any s _ hs).mono ?_
  rintro e w2 ⟨rfl, hU2⟩
  have hB2 := hB.mono hU2 (by simp)
  go_wp2_with (refine store_S _ rfl 49 _ _ rfl _ _ _ rfl rfl hB2 (by rw [fdC_size]; exact info_fd) (by rw [fdC_size]; rfl) (fdC_one _) ?_; intro w3 hB3 hU3)
  exact ret_S Tryz.results20 rfl _ _ rfl hB3 Tryz.underlying49 (by rw [fdC_size]; exact info_fd) ⟨rfl, (HZ.out.trans hU2).then hU3 (by simp)⟩

set_option maxHeartbeats 1000000 in
set_option maxRecDepth 100000 in
theorem read_q39 (s : ByteArray) (w : World) (h1 : 0 < s.size) (hs : s.size ≤ 1000000000) (hg : Glb w) (hL : Sc.isLetter (s[0]'h1) = false) (h95 : (((s[0]'h1).toNat : Int) == 95) = false) (hD : Sc.isDigit (s[0]'h1) = false) (h39 : (((s[0]'h1).toNat : Int) == 39) = true) :
    Calls Tryz.prog 20 #[.string s] w fun e w' => e = .returned (.agg (fdC (Sc.readQuoted (byt s) 2 40))) ∧ Upd [] w w' := by
  have hZ : Upd [] w (w.alloc (.cells #[.int .u8 0, .string ⟨#[]⟩, .int .i64 0, .int .i64 0] 49)) := (Upd.refl [] w).alloc _
  have hG2 := hg.mono hZ
  have hB := Blk.new w #[.int .u8 0, .string ⟨#[]⟩, .int .i64 0, .int .i64 0] 49
  have HG : Hid (Glb _) := hG2
  have HZ : Hid (Upd [] w _) := hZ
  clear hg hG2 hZ
  go_enter Tryz.func20, Tryz.ntmps20
  go_wp2_with (first | (go_at_call 38; refine (isLetter_any _ _).mono ?_; rintro e w' ⟨rfl, rfl⟩) | (go_at_call 40; refine (isDigit_any _ _).mono ?_; rintro e w' ⟨rfl, rfl⟩))
  refine (readQuoted_any s 2 40 _ hs h1 (by omega) HG.out).mono ?_
  rintro e w2 ⟨rfl, hU2⟩
  have hB2 := hB.mono hU2 (by simp)
  go_wp2_with (refine store_S _ rfl 49 _ _ rfl _ _ _ rfl rfl hB2 (by rw [fdC_size]; exact info_fd) (by rw [fdC_size]; rfl) (fdC_one _) ?_; intro w3 hB3 hU3)
  exact ret_S Tryz.results20 rfl _ _ rfl hB3 Tryz.underlying49 (by rw [fdC_size]; exact info_fd) ⟨rfl, (HZ.out.trans hU2).then hU3 (by simp)⟩

set_option maxHeartbeats 1000000 in
set_option maxRecDepth 100000 in
theorem read_q34 (s : ByteArray) (w : World) (h1 : 0 < s.size) (hs : s.size ≤ 1000000000) (hg : Glb w) (hL : Sc.isLetter (s[0]'h1) = false) (h95 : (((s[0]'h1).toNat : Int) == 95) = false) (hD : Sc.isDigit (s[0]'h1) = false) (h39 : (((s[0]'h1).toNat : Int) == 39) = false) (h34 : (((s[0]'h1).toNat : Int) == 34) = true) :
    Calls Tryz.prog 20 #[.string s] w fun e w' => e = .returned (.agg (fdC (Sc.readQuoted (byt s) 4 400))) ∧ Upd [] w w' := by
  have hZ : Upd [] w (w.alloc (.cells #[.int .u8 0, .string ⟨#[]⟩, .int .i64 0, .int .i64 0] 49)) := (Upd.refl [] w).alloc _
  have hG2 := hg.mono hZ
  have hB := Blk.new w #[.int .u8 0, .string ⟨#[]⟩, .int .i64 0, .int .i64 0] 49
  have HG : Hid (Glb _) := hG2
  have HZ : Hid (Upd [] w _) := hZ
  clear hg hG2 hZ
  go_enter Tryz.func20, Tryz.ntmps20
  go_wp2_with (first | (go_at_call 38; refine (isLetter_any _ _).mono ?_; rintro e w' ⟨rfl, rfl⟩) | (go_at_call 40; refine (isDigit_any _ _).mono ?_; rintro e w' ⟨rfl, rfl⟩))
  refine (readQuoted_any s 4 400 _ hs h1 (by omega) HG.out).mono ?_
  rintro e w2 ⟨rfl, hU2⟩
  have hB2 := hB.mono hU2 (by simp)
  go_wp2_with (refine store_S _ rfl 49 _ _ rfl _ _ _ rfl rfl hB2 (by rw [fdC_size]; exact info_fd) (by rw [fdC_size]; rfl) (fdC_one _) ?_; intro w3 hB3 hU3)
  exact ret_S Tryz.results20 rfl _ _ rfl hB3 Tryz.underlying49 (by rw [fdC_size]; exact info_fd) ⟨rfl, (HZ.out.trans hU2).then hU3 (by simp)⟩

set_option maxHeartbeats 1000000 in
set_option maxRecDepth 100000 in
theorem read_other (s : ByteArray) (w : World) (h1 : 0 < s.size) (hs : s.size ≤ 1000000000) (hg : Glb w) (hL : Sc.isLetter (s[0]'h1) = false) (h95 : (((s[0]'h1).toNat : Int) == 95) = false) (hD : Sc.isDigit (s[0]'h1) = false) (h39 : (((s[0]'h1).toNat : Int) == 39) = false) (h34 : (((s[0]'h1).toNat : Int) == 34) = false) (h46 : (((s[0]'h1).toNat : Int) == 46) = false) :
    Calls Tryz.prog 20 #[.string s] w fun e w' => e = .returned (.agg (fdC (Sc.readSign (byt s)))) ∧ Upd [] w w' := by
  have hZ : Upd [] w (w.alloc (.cells #[.int .u8 0, .string ⟨#[]⟩, .int .i64 0, .int .i64 0] 49)) := (Upd.refl [] w).alloc _
  have hG2 := hg.mono hZ
  have hB := Blk.new w #[.int .u8 0, .string ⟨#[]⟩, .int .i64 0, .int .i64 0] 49
  have HG : Hid (Glb _) := hG2
  have HZ : Hid (Upd [] w _) := hZ
  clear hg hG2 hZ
  go_enter Tryz.func20, Tryz.ntmps20
  go_wp2_with (first | (go_at_call 38; refine (isLetter_any _ _).mono ?_; rintro e w' ⟨rfl, rfl⟩) | (go_at_call 40; refine (isDigit_any _ _).mono ?_; rintro e w' ⟨rfl, rfl⟩))
  refine (readSign_any s _ hs HG.out).mono ?_
  rintro e w2 ⟨rfl, hU2⟩
  have hB2 := hB.mono hU2 (by simp)
  go_wp2_with (refine store_S _ rfl 49 _ _ rfl _ _ _ rfl rfl hB2 (by rw [fdC_size]; exact info_fd) (by rw [fdC_size]; rfl) (fdC_one _) ?_; intro w3 hB3 hU3)
  exact ret_S Tryz.results20 rfl _ _ rfl hB3 Tryz.underlying49 (by rw [fdC_size]; exact info_fd) ⟨rfl, (HZ.out.trans hU2).then hU3 (by simp)⟩

set_option maxHeartbeats 1000000 in
set_option maxRecDepth 100000 in
theorem read_dot1 (s : ByteArray) (w : World) (h1 : 0 < s.size) (_hs : s.size ≤ 1000000000) (hL : Sc.isLetter (s[0]'h1) = false) (h95 : (((s[0]'h1).toNat : Int) == 95) = false) (hD : Sc.isDigit (s[0]'h1) = false) (h39 : (((s[0]'h1).toNat : Int) == 39) = false) (h34 : (((s[0]'h1).toNat : Int) == 34) = false) (h46 : (((s[0]'h1).toNat : Int) == 46) = true) (hz : ((s.size : Int) == 1) = true) :
    Calls Tryz.prog 20 #[.string s] w fun e w' => e = .returned (.agg (fdC (.tok 7 [46] 1))) ∧ Upd [] w w' := by
  go_enter Tryz.func20, Tryz.ntmps20
  go_wp2_with (first | (go_at_call 38; refine (isLetter_any _ _).mono ?_; rintro e w' ⟨rfl, rfl⟩) | (go_at_call 40; refine (isDigit_any _ _).mono ?_; rintro e w' ⟨rfl, rfl⟩))
  exact ret_S Tryz.results20 rfl _ _ rfl (Blk.new w _ _) Tryz.underlying49 info_fd ⟨rfl, (Upd.refl [] w).alloc _⟩
set_option maxHeartbeats 1000000 in
set_option maxRecDepth 100000 in
theorem read_dot2 (s : ByteArray) (w : World) (h1 : 0 < s.size) (hs : s.size ≤ 1000000000) (hg : Glb w) (hL : Sc.isLetter (s[0]'h1) = false) (h95 : (((s[0]'h1).toNat : Int) == 95) = false) (hD : Sc.isDigit (s[0]'h1) = false) (h39 : (((s[0]'h1).toNat : Int) == 39) = false) (h34 : (((s[0]'h1).toNat : Int) == 34) = false) (h46 : (((s[0]'h1).toNat : Int) == 46) = true) (hz : ((s.size : Int) == 1) = false) (h2 : 2 ≤ s.size) (F : Sc.Fd)
    (hF : F = if 0 < Sc.gap (byt (s.extract 1 2)) then .tok 7 [46] 1 else Sc.readSign (byt s)) :
    Calls Tryz.prog 20 #[.string s] w fun e w' => e = .returned (.agg (fdC F)) ∧ Upd [] w w' := by
  have HF : Hid (F = if 0 < Sc.gap (byt (s.extract 1 2)) then .tok 7 [46] 1 else Sc.readSign (byt s)) := hF
  have hx : (s.extract 1 2).size ≤ 1000000000 := by rw [← byt_len, byt_extract, List.length_drop, List.length_take]; omega
  have hg3 := Sc.gap_le (byt (s.extract 1 2))
  rw [byt_len] at hg3
  clear hF
  have hZ : Upd [] w (w.alloc (.cells #[.int .u8 0, .string ⟨#[]⟩, .int .i64 0, .int .i64 0] 49)) := (Upd.refl [] w).alloc _
  have hG2 := hg.mono hZ
  have hB := Blk.new w #[.int .u8 0, .string ⟨#[]⟩, .int .i64 0, .int .i64 0] 49
  have HG : Hid (Glb _) := hG2
  have HZ : Hid (Upd [] w _) := hZ
  clear hg hG2 hZ
  go_enter Tryz.func20, Tryz.ntmps20
  go_wp2_with (first | (go_at_call 38; refine (isLetter_any _ _).mono ?_; rintro e w' ⟨rfl, rfl⟩) | (go_at_call 40; refine (isDigit_any _ _).mono ?_; rintro e w' ⟨rfl, rfl⟩))
  refine (gap_any _ _ hx).mono ?_
  rintro e w1 ⟨rfl, hU1⟩
  have hB1 := hB.mono hU1 (by simp)
  have hG1 := HG.out.mono hU1
  have hU01 := HZ.out.trans hU1
  have HG1 : Hid (Glb _) := hG1
  clear hB hG1 hU1 HG
  by_cases hgp : 0 < Sc.gap (byt (s.extract 1 2))
  · have e0 := HF.out
    rw [if_pos hgp] at e0
    have HE : Hid (F = _) := e0
    have hd : decide ((0 : Int) < (Sc.gap (byt (s.extract 1 2)) : Int)) = true := by simp; omega
    clear e0 HF
    go_wp2_with (refine store_S _ rfl 49 _ _ rfl _ _ _ rfl rfl hB1 info_fd rfl (by simp [Value.oneCell']) ?_; intro w3 hB3 hU3)
    rw [HE.out]
    exact ret_S Tryz.results20 rfl _ _ rfl hB3 Tryz.underlying49 info_fd ⟨rfl, hU01.then hU3 (by simp)⟩
  · have e0 := HF.out
    rw [if_neg hgp] at e0
    have HE : Hid (F = _) := e0
    have hd : decide ((0 : Int) < (Sc.gap (byt (s.extract 1 2)) : Int)) = false := by simp; omega
    clear e0 HF
    go_wp2_with fail
    refine (readSign_any s _ hs HG1.out).mono ?_
    rintro e w2 ⟨rfl, hU2⟩
    have hB2 := hB1.mono hU2 (by simp)
    go_wp2_with (refine store_S _ rfl 49 _ _ rfl _ _ _ rfl rfl hB2 (by rw [fdC_size]; exact info_fd) (by rw [fdC_size]; rfl) (fdC_one _) ?_; intro w3 hB3 hU3)
    rw [HE.out]
    exact ret_S Tryz.results20 rfl _ _ rfl hB3 Tryz.underlying49 (by rw [fdC_size]; exact info_fd) ⟨rfl, (hU01.trans hU2).then hU3 (by simp)⟩

theorem read_any (s : ByteArray) (w : World) (h1 : 0 < s.size) (hs : s.size ≤ 1000000000) (hg : Glb w) :
    Calls Tryz.prog 20 #[.string s] w fun e w' => e = .returned (.agg (fdC (Sc.read (byt s)))) ∧ Upd [] w w' := by
  rw [read_byt s h1]
  cases hL : Sc.isLetter (s[0]'h1) with
  | true =>
    rw [Bool.true_or, if_pos rfl]
    exact read_letter s w h1 hs hg hL (by simp [Sc.isName, hL])
  | false =>
    rw [Bool.false_or]
    by_cases h95 : s[0]'h1 = 95
    · rw [if_pos (by simp [h95])]
      exact read_under s w h1 hs hg hL (by rw [h95]; rfl) (by rw [h95]; decide)
    · rw [if_neg (by simp [h95])]
      have b95 : (((s[0]'h1).toNat : Int) == 95) = false := by rw [eq_b _ 95 95 rfl]; simp [h95]
      cases hD : Sc.isDigit (s[0]'h1) with
      | true =>
        rw [if_pos rfl]
        exact read_digit s w h1 hs hg hL b95 hD
      | false =>
        rw [if_neg (by simp)]
        by_cases h39 : s[0]'h1 = 39
        · rw [if_pos h39]
          exact read_q39 s w h1 hs hg hL b95 hD (by rw [h39]; rfl)
        · rw [if_neg h39]
          have b39 : (((s[0]'h1).toNat : Int) == 39) = false := by rw [eq_b _ 39 39 rfl]; simp [h39]
          by_cases h34 : s[0]'h1 = 34
          · rw [if_pos h34]
            exact read_q34 s w h1 hs hg hL b95 hD b39 (by rw [h34]; rfl)
          · rw [if_neg h34]
            have b34 : (((s[0]'h1).toNat : Int) == 34) = false := by rw [eq_b _ 34 34 rfl]; simp [h34]
            by_cases h46 : s[0]'h1 = 46
            · have b46 : (((s[0]'h1).toNat : Int) == 46) = true := by rw [h46]; rfl
              have e46 : (s[0]'h1 == 46) = true := by simp [h46]
              rw [e46, Bool.true_and]
              by_cases hz : s.size = 1
              · have e0 : (byt s).tail = [] := by
                  have : (byt s).tail.length = 0 := by rw [List.length_tail, byt_len]; omega
                  exact List.eq_nil_of_length_eq_zero this
                rw [e0, List.isEmpty_nil, Bool.true_or, if_pos rfl]
                exact read_dot1 s w h1 hs hL b95 hD b39 b34 b46 (by simp; omega)
              · have e0 : (byt s).tail.isEmpty = false := by
                  have : 0 < (byt s).tail.length := by rw [List.length_tail, byt_len]; omega
                  revert this
                  cases (byt s).tail with
                  | nil => simp
                  | cons a b => simp
                have e1 : (byt s).tail.take 1 = byt (s.extract 1 2) := by
                  rw [byt_extract, List.drop_take, List.drop_one]
                rw [e0, Bool.false_or, e1]
                refine read_dot2 s w h1 hs hg hL b95 hD b39 b34 b46 (by simp; omega) (by omega) _ ?_
                simp only [decide_eq_true_eq]
            · have e46 : (s[0]'h1 == 46) = false := by simp [h46]
              rw [e46, Bool.false_and, if_neg (by simp)]
              exact read_other s w h1 hs hg hL b95 hD b39 b34 (by rw [eq_b _ 46 46 rfl]; simp [h46])


end Go.Proofs.YtiapdapkklcliaaGreatDoor
