/- The reference's token of quotes, dots and signs; token, by its contract. -/
import Derived.Test.YtiapdapkklcliaaGreatDoorRfD
namespace Go.Proofs.YtiapdapkklcliaaGreatDoor
open Go.RowKit

/-- What is found of what stands between quotes. -/
def quoF (K M : Nat) : Option (List UInt8 × Nat) → Sc.Fd
  | none => .bad 201
  | some (t, k) => if M < t.length then .bad 201 else .tok K t (k + 1)

set_option maxHeartbeats 4000000 in
set_option maxRecDepth 100000 in
theorem rtok_quo39 (s : ByteArray) (pl : Nat) (w : World) (hs : s.size ≤ 1000000000) (hp : pl < s.size) (hc : s[pl] = 39) : TokR s pl w := by
  unfold TokR
  have hlow : Sc.isLower s[pl] = false := by rw [hc]; rfl
  have hhigh : Sc.high s[pl] = false := by rw [hc]; rfl
  have hdig : Sc.isDigit s[pl] = false := by rw [hc]; rfl
  have e0 : Sc.read ((byt s).drop pl) = Sc.readQuoted ((byt s).drop pl) 2 40 := by
    rw [drop_here s pl hp, read_cons, hlow, hhigh, hdig, hc]
    rfl
  obtain ⟨R, hR⟩ : ∃ R, R = Sc.readQuoted ((byt s).drop pl) 2 40 := ⟨_, rfl⟩
  rw [e0, ← hR]
  obtain ⟨Q, hQ⟩ : ∃ Q, Q = Sc.quoted s[pl] ((byt s).drop (pl + 1)) := ⟨_, rfl⟩
  have HR : Hid (R = quoF 2 40 Q) := by
    show _ = _
    rw [hR, hQ, drop_here s pl hp]
    rfl
  have HQu : Hid (∀ W, Calls Tryz.prog 50 #[.string s, .int .i64 pl] W fun e w' => e = .returned (quoR pl Q) ∧ Upd [] W w') := fun W => by rw [hQ]; exact rquo_any s pl W hs hp
  clear e0 hR hQ
  have q39 : ((s[pl].toNat : Int) == 39) = true := by rw [hc]; rfl
  have q34 : ((s[pl].toNat : Int) == 34) = false := by rw [hc]; rfl
  clear hc
  have i00 : (pl : Int) < (s.size : Int) := by omega
  have HA : Hid (∀ W, Upd [] (w.alloc (.cells #[.int .u8 0, .string ⟨#[]⟩, .int .i64 0] 43)) W → Blk W w.heap.size #[.int .u8 0, .string ⟨#[]⟩, .int .i64 0] 43) := fun W hW => (Blk.new w _ _).mono hW (by simp)
  cases Q with
  | none =>
    have HT : Hid (R = .bad 201) := HR.out
    simp only [quoR] at HQu
    clear HR
    go_enter Tryz.func23, Tryz.ntmps23
    go_wp2_with (first | (go_at_call 45; refine (rlow_any _ _).mono ?_; rintro e w' ⟨rfl, rfl⟩; rw [hlow]) | (go_at_call 46; refine (rhigh_any _ _).mono ?_; rintro e w' ⟨rfl, rfl⟩; rw [hhigh]) | (go_at_call 48; refine (rdigit_any _ _).mono ?_; rintro e w' ⟨rfl, rfl⟩; rw [hdig]) | fail)
    refine (HQu.out _).mono ?_
    rintro e w1 ⟨rfl, hU1⟩
    have hA1 := HA.out _ hU1
    have hU2 := ((Upd.refl [] w).alloc _).trans hU1
    go_wp2_with (refine store_S _ rfl 43 _ _ rfl w.heap.size #[.int .u8 0, .string ⟨#[]⟩, .int .i64 0] _ rfl rfl hA1 info_tok3 rfl (by simp [Value.oneCell']) ?_; intro w5 hB5 hU5)
    rw [HT.out]
    exact ret_Stt Tryz.results23 rfl _ _ _ _ rfl rfl rfl hB5 Tryz.underlying43 info_tok3 ⟨rfl, hU2.then hU5 (by simp)⟩
  | some p =>
    obtain ⟨t, k⟩ := p
    simp only [quoR] at HQu
    have hsz := str_size t
    obtain ⟨en, hen⟩ : ∃ en : Nat, en = pl + 1 + k := ⟨_, rfl⟩
    have HEn : Hid (pl + (k + 1) = en) := by show _ = _; omega
    rw [← hen] at HQu
    clear hen
    by_cases hM : 40 < t.length
    · have HT : Hid (R = .bad 201) := by
        have := HR.out
        simp only [quoF, hM, if_true] at this
        exact this
      have d40 : (40 : Int) < ((str t).size : Int) := by rw [hsz]; omega
      have d400 : ((str t).size : Int) = ((str t).size : Int) := rfl
      clear HR hsz HEn
      go_enter Tryz.func23, Tryz.ntmps23
      go_wp2_with (first | (go_at_call 45; refine (rlow_any _ _).mono ?_; rintro e w' ⟨rfl, rfl⟩; rw [hlow]) | (go_at_call 46; refine (rhigh_any _ _).mono ?_; rintro e w' ⟨rfl, rfl⟩; rw [hhigh]) | (go_at_call 48; refine (rdigit_any _ _).mono ?_; rintro e w' ⟨rfl, rfl⟩; rw [hdig]) | fail)
      refine (HQu.out _).mono ?_
      rintro e w1 ⟨rfl, hU1⟩
      have hA1 := HA.out _ hU1
      have hU2 := ((Upd.refl [] w).alloc _).trans hU1
      go_wp2_with (refine store_S _ rfl 43 _ _ rfl w.heap.size #[.int .u8 0, .string ⟨#[]⟩, .int .i64 0] _ rfl rfl hA1 info_tok3 rfl (by simp [Value.oneCell']) ?_; intro w5 hB5 hU5)
      rw [HT.out]
      exact ret_Stt Tryz.results23 rfl _ _ _ _ rfl rfl rfl hB5 Tryz.underlying43 info_tok3 ⟨rfl, hU2.then hU5 (by simp)⟩
    · have HT : Hid (R = .tok 2 t (k + 1)) := by
        have := HR.out
        simp only [quoF, hM, if_false] at this
        exact this
      have d40 : decide ((40 : Int) < ((str t).size : Int)) = false := by rw [hsz]; simp; omega
      have d400 : decide ((400 : Int) < ((str t).size : Int)) = false := by rw [hsz]; simp; omega
      have n40 : decide (40 < (str t).size) = false := by rw [hsz]; simp; omega
      have n400 : decide (400 < (str t).size) = false := by rw [hsz]; simp; omega
      clear HR hsz
      go_enter Tryz.func23, Tryz.ntmps23
      go_wp2_with (first | (go_at_call 45; refine (rlow_any _ _).mono ?_; rintro e w' ⟨rfl, rfl⟩; rw [hlow]) | (go_at_call 46; refine (rhigh_any _ _).mono ?_; rintro e w' ⟨rfl, rfl⟩; rw [hhigh]) | (go_at_call 48; refine (rdigit_any _ _).mono ?_; rintro e w' ⟨rfl, rfl⟩; rw [hdig]) | fail)
      refine (HQu.out _).mono ?_
      rintro e w1 ⟨rfl, hU1⟩
      have hA1 := HA.out _ hU1
      have hlo := hA1.lt
      have hU2 := ((Upd.refl [] w).alloc _).trans hU1
      obtain ⟨w3, hw3⟩ : ∃ w3, w3 = w1.alloc (.cells #[.int .u8 2, .string (str t), .int .i64 pl] 43) := ⟨_, rfl⟩
      have hB3 : Blk w3 w1.heap.size #[.int .u8 2, .string (str t), .int .i64 pl] 43 := by rw [hw3]; exact Blk.new _ _ _
      have A3 : Blk w3 w.heap.size #[.int .u8 0, .string ⟨#[]⟩, .int .i64 0] 43 := by rw [hw3]; exact hA1.mono ((Upd.refl [] w1).alloc _) (by simp)
      have U3 : Upd [] w w3 := by rw [hw3]; exact hU2.alloc _
      have HW3 : Hid (w3 = w1.alloc (.cells #[.int .u8 2, .string (str t), .int .i64 pl] 43)) := hw3
      have y0 : w3.cell? ⟨w1.heap.size, 0, none⟩ = some (.int .u8 2) := hB3.cell 0
      have f0 : w3.frozen? ⟨w1.heap.size, 0, none⟩ = false := hB3.free 0
      rw [hw3] at y0 f0
      clear hw3
      rw [HW3.out] at hB3 A3 U3
      go_wp2_with (first | (refine wpList_load_row rfl 43 _ rfl w1.heap.size rfl 43 _ (0, 0) _ hB3 Tryz.underlying43 rfl info_tok3 ?_) | (refine store_S _ rfl 43 _ _ rfl w.heap.size #[.int .u8 2, .string (str t), .int .i64 pl] _ rfl rfl A3 info_tok3 rfl (by simp [Value.oneCell']) ?_; intro w5 hB5 hU5))
      rw [HT.out]
      refine ret_Stt Tryz.results23 rfl _ _ _ _ rfl rfl rfl hB5 Tryz.underlying43 info_tok3 ⟨?_, U3.then hU5 (by simp)⟩
      simp only [tokR]
      rw [HEn.out]
      rfl

set_option maxHeartbeats 4000000 in
set_option maxRecDepth 100000 in
theorem rtok_quo34 (s : ByteArray) (pl : Nat) (w : World) (hs : s.size ≤ 1000000000) (hp : pl < s.size) (hc : s[pl] = 34) : TokR s pl w := by
  unfold TokR
  have hlow : Sc.isLower s[pl] = false := by rw [hc]; rfl
  have hhigh : Sc.high s[pl] = false := by rw [hc]; rfl
  have hdig : Sc.isDigit s[pl] = false := by rw [hc]; rfl
  have e0 : Sc.read ((byt s).drop pl) = Sc.readQuoted ((byt s).drop pl) 4 400 := by
    rw [drop_here s pl hp, read_cons, hlow, hhigh, hdig, hc]
    rfl
  obtain ⟨R, hR⟩ : ∃ R, R = Sc.readQuoted ((byt s).drop pl) 4 400 := ⟨_, rfl⟩
  rw [e0, ← hR]
  obtain ⟨Q, hQ⟩ : ∃ Q, Q = Sc.quoted s[pl] ((byt s).drop (pl + 1)) := ⟨_, rfl⟩
  have HR : Hid (R = quoF 4 400 Q) := by
    show _ = _
    rw [hR, hQ, drop_here s pl hp]
    rfl
  have HQu : Hid (∀ W, Calls Tryz.prog 50 #[.string s, .int .i64 pl] W fun e w' => e = .returned (quoR pl Q) ∧ Upd [] W w') := fun W => by rw [hQ]; exact rquo_any s pl W hs hp
  clear e0 hR hQ
  have q39 : ((s[pl].toNat : Int) == 39) = false := by rw [hc]; rfl
  have q34 : ((s[pl].toNat : Int) == 34) = true := by rw [hc]; rfl
  clear hc
  have i00 : (pl : Int) < (s.size : Int) := by omega
  have HA : Hid (∀ W, Upd [] (w.alloc (.cells #[.int .u8 0, .string ⟨#[]⟩, .int .i64 0] 43)) W → Blk W w.heap.size #[.int .u8 0, .string ⟨#[]⟩, .int .i64 0] 43) := fun W hW => (Blk.new w _ _).mono hW (by simp)
  cases Q with
  | none =>
    have HT : Hid (R = .bad 201) := HR.out
    simp only [quoR] at HQu
    clear HR
    go_enter Tryz.func23, Tryz.ntmps23
    go_wp2_with (first | (go_at_call 45; refine (rlow_any _ _).mono ?_; rintro e w' ⟨rfl, rfl⟩; rw [hlow]) | (go_at_call 46; refine (rhigh_any _ _).mono ?_; rintro e w' ⟨rfl, rfl⟩; rw [hhigh]) | (go_at_call 48; refine (rdigit_any _ _).mono ?_; rintro e w' ⟨rfl, rfl⟩; rw [hdig]) | fail)
    refine (HQu.out _).mono ?_
    rintro e w1 ⟨rfl, hU1⟩
    have hA1 := HA.out _ hU1
    have hU2 := ((Upd.refl [] w).alloc _).trans hU1
    go_wp2_with (refine store_S _ rfl 43 _ _ rfl w.heap.size #[.int .u8 0, .string ⟨#[]⟩, .int .i64 0] _ rfl rfl hA1 info_tok3 rfl (by simp [Value.oneCell']) ?_; intro w5 hB5 hU5)
    rw [HT.out]
    exact ret_Stt Tryz.results23 rfl _ _ _ _ rfl rfl rfl hB5 Tryz.underlying43 info_tok3 ⟨rfl, hU2.then hU5 (by simp)⟩
  | some p =>
    obtain ⟨t, k⟩ := p
    simp only [quoR] at HQu
    have hsz := str_size t
    obtain ⟨en, hen⟩ : ∃ en : Nat, en = pl + 1 + k := ⟨_, rfl⟩
    have HEn : Hid (pl + (k + 1) = en) := by show _ = _; omega
    rw [← hen] at HQu
    clear hen
    by_cases hM : 400 < t.length
    · have HT : Hid (R = .bad 201) := by
        have := HR.out
        simp only [quoF, hM, if_true] at this
        exact this
      have d40 : (40 : Int) < ((str t).size : Int) := by rw [hsz]; omega
      have d400 : (400 : Int) < ((str t).size : Int) := by rw [hsz]; omega
      clear HR hsz HEn
      go_enter Tryz.func23, Tryz.ntmps23
      go_wp2_with (first | (go_at_call 45; refine (rlow_any _ _).mono ?_; rintro e w' ⟨rfl, rfl⟩; rw [hlow]) | (go_at_call 46; refine (rhigh_any _ _).mono ?_; rintro e w' ⟨rfl, rfl⟩; rw [hhigh]) | (go_at_call 48; refine (rdigit_any _ _).mono ?_; rintro e w' ⟨rfl, rfl⟩; rw [hdig]) | fail)
      refine (HQu.out _).mono ?_
      rintro e w1 ⟨rfl, hU1⟩
      have hA1 := HA.out _ hU1
      have hU2 := ((Upd.refl [] w).alloc _).trans hU1
      go_wp2_with (refine store_S _ rfl 43 _ _ rfl w.heap.size #[.int .u8 0, .string ⟨#[]⟩, .int .i64 0] _ rfl rfl hA1 info_tok3 rfl (by simp [Value.oneCell']) ?_; intro w5 hB5 hU5)
      rw [HT.out]
      exact ret_Stt Tryz.results23 rfl _ _ _ _ rfl rfl rfl hB5 Tryz.underlying43 info_tok3 ⟨rfl, hU2.then hU5 (by simp)⟩
    · have HT : Hid (R = .tok 4 t (k + 1)) := by
        have := HR.out
        simp only [quoF, hM, if_false] at this
        exact this
      have d40 : decide ((400 : Int) < ((str t).size : Int)) = false := by rw [hsz]; simp; omega
      have d400 : decide ((400 : Int) < ((str t).size : Int)) = false := by rw [hsz]; simp; omega
      have n40 : decide (400 < (str t).size) = false := by rw [hsz]; simp; omega
      have n400 : decide (400 < (str t).size) = false := by rw [hsz]; simp; omega
      clear HR hsz
      go_enter Tryz.func23, Tryz.ntmps23
      go_wp2_with (first | (go_at_call 45; refine (rlow_any _ _).mono ?_; rintro e w' ⟨rfl, rfl⟩; rw [hlow]) | (go_at_call 46; refine (rhigh_any _ _).mono ?_; rintro e w' ⟨rfl, rfl⟩; rw [hhigh]) | (go_at_call 48; refine (rdigit_any _ _).mono ?_; rintro e w' ⟨rfl, rfl⟩; rw [hdig]) | fail)
      refine (HQu.out _).mono ?_
      rintro e w1 ⟨rfl, hU1⟩
      have hA1 := HA.out _ hU1
      have hlo := hA1.lt
      have hU2 := ((Upd.refl [] w).alloc _).trans hU1
      obtain ⟨w3, hw3⟩ : ∃ w3, w3 = w1.alloc (.cells #[.int .u8 2, .string (str t), .int .i64 pl] 43) := ⟨_, rfl⟩
      have hB3 : Blk w3 w1.heap.size #[.int .u8 2, .string (str t), .int .i64 pl] 43 := by rw [hw3]; exact Blk.new _ _ _
      have A3 : Blk w3 w.heap.size #[.int .u8 0, .string ⟨#[]⟩, .int .i64 0] 43 := by rw [hw3]; exact hA1.mono ((Upd.refl [] w1).alloc _) (by simp)
      have U3 : Upd [] w w3 := by rw [hw3]; exact hU2.alloc _
      have HW3 : Hid (w3 = w1.alloc (.cells #[.int .u8 2, .string (str t), .int .i64 pl] 43)) := hw3
      have y0 : w3.cell? ⟨w1.heap.size, 0, none⟩ = some (.int .u8 2) := hB3.cell 0
      have f0 : w3.frozen? ⟨w1.heap.size, 0, none⟩ = false := hB3.free 0
      rw [hw3] at y0 f0
      clear hw3
      rw [HW3.out] at hB3 A3 U3
      have hB4 := Blk.new w1 #[.int .u8 4, .string (str t), .int .i64 pl] 43
      have A4 := hA1.mono ((Upd.refl [] w1).alloc (.cells #[.int .u8 4, .string (str t), .int .i64 pl] 43)) (by simp)
      have U4 := hU2.alloc (.cells #[.int .u8 4, .string (str t), .int .i64 pl] 43)
      clear y0 f0
      go_wp2_with (first | (refine wpList_load_row rfl 43 _ rfl w1.heap.size rfl 43 _ (0, 0) _ hB4 Tryz.underlying43 rfl info_tok3 ?_) | (refine store_S _ rfl 43 _ _ rfl w.heap.size #[.int .u8 4, .string (str t), .int .i64 pl] _ rfl rfl A4 info_tok3 rfl (by simp [Value.oneCell']) ?_; intro w5 hB5 hU5))
      rw [HT.out]
      refine ret_Stt Tryz.results23 rfl _ _ _ _ rfl rfl rfl hB5 Tryz.underlying43 info_tok3 ⟨?_, U4.then hU5 (by simp)⟩
      simp only [tokR]
      rw [HEn.out]
      rfl

set_option maxHeartbeats 4000000 in
set_option maxRecDepth 100000 in
theorem rtok_dot (s : ByteArray) (pl : Nat) (w : World) (hs : s.size ≤ 1000000000) (hp : pl < s.size) (hc : s[pl] = 46) : TokR s pl w := by
  unfold TokR
  have hlow : Sc.isLower s[pl] = false := by rw [hc]; rfl
  have hhigh : Sc.high s[pl] = false := by rw [hc]; rfl
  have hdig : Sc.isDigit s[pl] = false := by rw [hc]; rfl
  obtain ⟨R, hR⟩ : ∃ R, R = Sc.read ((byt s).drop pl) := ⟨_, rfl⟩
  rw [← hR]
  have HR : Hid (R = if (((byt s).drop (pl + 1)).isEmpty || decide (0 < Sc.gap (List.take 1 ((byt s).drop (pl + 1))))) = true then Sc.Fd.tok 7 [46] 1 else .bad 200) := by
    show _ = _
    rw [hR, drop_here s pl hp, read_cons, hlow, hhigh, hdig, hc, Sc.sign_dot]
    rfl
  clear hR
  have q39 : ((s[pl].toNat : Int) == 39) = false := by rw [hc]; rfl
  have q34 : ((s[pl].toNat : Int) == 34) = false := by rw [hc]; rfl
  have q46 : ((s[pl].toNat : Int) == 46) = true := by rw [hc]; rfl
  clear hc
  have i00 : (pl : Int) < (s.size : Int) := by omega
  have hw1 : wrap64 ((pl : Int) + 1) = ((pl + 1 : Nat) : Int) := by unfold wrap64; omega
  have hA := Blk.new w #[.int .u8 0, .string ⟨#[]⟩, .int .i64 0] 43
  have hU := (Upd.refl [] w).alloc (.cells #[.int .u8 0, .string ⟨#[]⟩, .int .i64 0] 43)
  by_cases he : pl + 1 = s.size
  · have hq : ((pl : Int) + 1 == (s.size : Int)) = true := by rw [beq_iff_eq]; omega
    have hq2 : (((pl + 1 : Nat) : Int) == (s.size : Int)) = true := by rw [beq_iff_eq]; omega
    have HT : Hid (R = .tok 7 [46] 1) := by
      show _ = _
      rw [HR.out, List.drop_of_length_le (by rw [byt_len]; omega)]
      rfl
    clear HR
    go_enter Tryz.func23, Tryz.ntmps23
    go_wp2_with (first | (go_at_call 45; refine (rlow_any _ _).mono ?_; rintro e w' ⟨rfl, rfl⟩; rw [hlow]) | (go_at_call 46; refine (rhigh_any _ _).mono ?_; rintro e w' ⟨rfl, rfl⟩; rw [hhigh]) | (go_at_call 48; refine (rdigit_any _ _).mono ?_; rintro e w' ⟨rfl, rfl⟩; rw [hdig]) | (refine store_S _ rfl 43 _ _ rfl w.heap.size #[.int .u8 7, .string ⟨#[46]⟩, .int .i64 pl] _ rfl rfl hA info_tok3 rfl (by simp [Value.oneCell']) ?_; intro w5 hB5 hU5))
    rw [HT.out]
    exact ret_Stt Tryz.results23 rfl _ _ _ _ rfl rfl rfl hB5 Tryz.underlying43 info_tok3 ⟨rfl, hU.then hU5 (by simp)⟩
  · have h1 : pl + 1 < s.size := by omega
    have i1 : ((pl + 1 : Nat) : Int) < (s.size : Int) := by omega
    have i1' : (pl : Int) + 1 < (s.size : Int) := by omega
    have hq : ((pl : Int) + 1 == (s.size : Int)) = false := by rw [Bool.eq_false_iff]; intro h; rw [beq_iff_eq] at h; omega
    have hq2 : (((pl + 1 : Nat) : Int) == (s.size : Int)) = false := by rw [Bool.eq_false_iff]; intro h; rw [beq_iff_eq] at h; omega
    have HR2 : Hid (R = if (Sc.isBlank (s[pl + 1]'h1) || (s[pl + 1]'h1) == 37) = true then Sc.Fd.tok 7 [46] 1 else .bad 200) := by
      show _ = _
      rw [HR.out, drop_here s (pl + 1) h1, ← Sc.gap_one]
      rfl
    clear HR
    cases hb : Sc.isBlank (s[pl + 1]'h1) with
    | true =>
      have HT : Hid (R = .tok 7 [46] 1) := by show _ = _; rw [HR2.out, hb]; rfl
      clear HR2
      go_enter Tryz.func23, Tryz.ntmps23
      go_wp2_with (first | (go_at_call 45; refine (rlow_any _ _).mono ?_; rintro e w' ⟨rfl, rfl⟩; rw [hlow]) | (go_at_call 46; refine (rhigh_any _ _).mono ?_; rintro e w' ⟨rfl, rfl⟩; rw [hhigh]) | (go_at_call 48; refine (rdigit_any _ _).mono ?_; rintro e w' ⟨rfl, rfl⟩; rw [hdig]) | (go_at_call 22; refine (rblank_any _ _).mono ?_; rintro e w' ⟨rfl, rfl⟩; rw [hb]) | (refine store_S _ rfl 43 _ _ rfl w.heap.size #[.int .u8 7, .string ⟨#[46]⟩, .int .i64 pl] _ rfl rfl hA info_tok3 rfl (by simp [Value.oneCell']) ?_; intro w5 hB5 hU5))
      rw [HT.out]
      exact ret_Stt Tryz.results23 rfl _ _ _ _ rfl rfl rfl hB5 Tryz.underlying43 info_tok3 ⟨rfl, hU.then hU5 (by simp)⟩
    | false =>
      cases h37 : (((s[pl + 1]'h1).toNat : Int) == 37) with
      | true =>
        have HT : Hid (R = .tok 7 [46] 1) := by
          show _ = _
          rw [HR2.out, hb]
          have : (s[pl + 1]'h1) = 37 := by rw [beq_iff_eq] at h37; exact (u8_eq _ _).2 h37
          rw [this]; rfl
        clear HR2
        go_enter Tryz.func23, Tryz.ntmps23
        go_wp2_with (first | (go_at_call 45; refine (rlow_any _ _).mono ?_; rintro e w' ⟨rfl, rfl⟩; rw [hlow]) | (go_at_call 46; refine (rhigh_any _ _).mono ?_; rintro e w' ⟨rfl, rfl⟩; rw [hhigh]) | (go_at_call 48; refine (rdigit_any _ _).mono ?_; rintro e w' ⟨rfl, rfl⟩; rw [hdig]) | (go_at_call 22; refine (rblank_any _ _).mono ?_; rintro e w' ⟨rfl, rfl⟩; rw [hb]) | (refine store_S _ rfl 43 _ _ rfl w.heap.size #[.int .u8 7, .string ⟨#[46]⟩, .int .i64 pl] _ rfl rfl hA info_tok3 rfl (by simp [Value.oneCell']) ?_; intro w5 hB5 hU5))
        rw [HT.out]
        exact ret_Stt Tryz.results23 rfl _ _ _ _ rfl rfl rfl hB5 Tryz.underlying43 info_tok3 ⟨rfl, hU.then hU5 (by simp)⟩
      | false =>
        have HT : Hid (R = .bad 200) := by
          show _ = _
          rw [HR2.out, hb]
          have : ((s[pl + 1]'h1) == 37) = false := by rw [u8_beq]; exact h37
          rw [this]; rfl
        clear HR2
        go_enter Tryz.func23, Tryz.ntmps23
        go_wp2_with (first | (go_at_call 45; refine (rlow_any _ _).mono ?_; rintro e w' ⟨rfl, rfl⟩; rw [hlow]) | (go_at_call 46; refine (rhigh_any _ _).mono ?_; rintro e w' ⟨rfl, rfl⟩; rw [hhigh]) | (go_at_call 48; refine (rdigit_any _ _).mono ?_; rintro e w' ⟨rfl, rfl⟩; rw [hdig]) | (go_at_call 22; refine (rblank_any _ _).mono ?_; rintro e w' ⟨rfl, rfl⟩; rw [hb]) | (refine store_S _ rfl 43 _ _ rfl w.heap.size #[.int .u8 0, .string ⟨#[]⟩, .int .i64 0] _ rfl rfl hA info_tok3 rfl (by simp [Value.oneCell']) ?_; intro w5 hB5 hU5))
        rw [HT.out]
        exact ret_Stt Tryz.results23 rfl _ _ _ _ rfl rfl rfl hB5 Tryz.underlying43 info_tok3 ⟨rfl, hU.then hU5 (by simp)⟩

end Go.Proofs.YtiapdapkklcliaaGreatDoor
