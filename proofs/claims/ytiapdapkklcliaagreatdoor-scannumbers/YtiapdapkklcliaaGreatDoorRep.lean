/- strings.Repeat at this program, by its contract. -/
import Derived.Test.YtiapdapkklcliaaGreatDoorJA
import Derived.Test.YtiapdapkklcliaaGreatDoorStP
import Derived.Test.YtiapdapkklcliaaGreatDoorRfC
import Derived.Deep.LoopGhost
namespace Go.Proofs.YtiapdapkklcliaaGreatDoor
open Go.RowKit

/-- So many of a row, one behind the other. -/
def rep (l : List UInt8) : Nat → List UInt8
  | 0 => []
  | j + 1 => rep l j ++ l
theorem rep_len (l : List UInt8) (j : Nat) : (rep l j).length = j * l.length := by
  induction j with
  | zero => simp [rep]
  | succ j ih => rw [rep, List.length_append, ih, Nat.add_mul]; omega
theorem rep_add (l : List UInt8) (j d : Nat) : rep l (j + d) = rep l j ++ rep l d := by
  induction d with
  | zero => simp [rep]
  | succ d ih => rw [← Nat.add_assoc, rep, ih, rep, List.append_assoc]
theorem rep_take (l : List UInt8) (j d : Nat) (h : d ≤ j) : (rep l j).take (d * l.length) = rep l d := by
  obtain ⟨e, rfl⟩ : ∃ e, j = d + e := ⟨j - d, by omega⟩
  rw [rep_add, ← rep_len l d, List.take_left]
theorem rep_one (l : List UInt8) : rep l 1 = l := by simp [rep]
theorem byteCells_app (a b : List UInt8) : Lib.byteCells (a ++ b) = Lib.byteCells a ++ Lib.byteCells b := by simp [Lib.byteCells]
theorem bc_len (l : List UInt8) : (Lib.byteCells l).length = l.length := by simp [Lib.byteCells]
theorem strCells_eq (s : ByteArray) : Lib.strCells s = Lib.byteCells (byt s) := rfl

theorem cnt_le {jl xn j d z : Nat} (hz : 0 < z) (hj : jl = j * z) (hx : xn = d * z) (h : xn ≤ jl) : d ≤ j := by
  rw [hj, hx] at h; exact Nat.le_of_mul_le_mul_right h hz
theorem cnt_lt {jl xn j z count : Nat} (hj : jl = j * z) (hx : xn = (count - j) * z) (h : jl < xn) (hc : j < count) : j + j ≤ count := by
  rw [hj, hx] at h; have := Nat.lt_of_mul_lt_mul_right h; omega
theorem cnt_le3 {xn CM j cm z count : Nat} (hz : 0 < z) (hx : xn = (count - j) * z) (hc : CM = cm * z) (h : CM ≤ xn) (hj : j < count) : j + cm ≤ count := by
  rw [hc, hx] at h; have := Nat.le_of_mul_le_mul_right h hz; omega

set_option maxHeartbeats 400000 in
theorem Len_any (b : Nat) (bs : List Value) (w : World) (h : Bd w b bs) : Calls Tryz.prog 33 #[.pointer (some ⟨b, 0, none⟩)] w fun e w' => e = .returned (.int .i64 bs.length) ∧ w' = w := by
  obtain ⟨a, c, y1⟩ : ∃ a c, w.cell? ⟨b, 1, none⟩ = some (.slice a bs.length c) := by
    have key : ∀ p, Lib.BuilderAtF 88 5 b b p bs w → ∃ a c, w.cell? ⟨b, 1, none⟩ = some (.slice a bs.length c) := by
      intro p hp
      obtain ⟨_, v, hbk, hown, _⟩ := hp
      obtain ⟨_, ⟨rfl, h0⟩ | ⟨g, cap, cur, fz, rfl, _⟩⟩ := hown
      · exact ⟨none, 0, by rw [Lib.cell_of_heap hbk, h0]; rfl⟩
      · exact ⟨_, cap, by rw [Lib.cell_of_heap hbk]; rfl⟩
    rcases h with h | h
    · exact key _ h
    · exact key _ h
  go_enter Tryz.func33, Tryz.ntmps33
  go_wp2
  go_ret
  exact ⟨rfl, rfl⟩

theorem u8n (c k : UInt8) (h : c ≠ k) : ((c.toNat : Int) == (k.toNat : Int)) = false := by
  rw [Bool.eq_false_iff]; intro h2; rw [beq_iff_eq] at h2; exact h ((u8_eq _ _).2 h2)

set_option maxHeartbeats 4000000 in
set_option maxRecDepth 100000 in
theorem Repeat_gen (s : ByteArray) (count : Nat) (w : World) (h1 : 0 < s.size) (hc : 2 ≤ count) (hn : s.size * count ≤ 1000000) (hs8 : s.size ≤ 8192) (hq32 : s[0] ≠ 32) (hq45 : s[0] ≠ 45) (hq48 : s[0] ≠ 48) (hq61 : s[0] ≠ 61) (hq9 : s[0] ≠ 9) :
    Calls Tryz.prog 17 #[.string s, .int .i64 count] w fun e w' => e = .returned (.string (str (rep (byt s) count))) ∧ Upd [] w w' := by
  obtain ⟨n, hne⟩ : ∃ n, n = s.size * count := ⟨_, rfl⟩
  have hnn : n ≤ 1000000 := by omega
  have hsn : s.size ≤ n := by rw [hne]; exact Nat.le_mul_of_pos_right _ (by omega)
  have hcn : count ≤ n := by rw [hne]; exact Nat.le_mul_of_pos_left _ h1
  have HN : Hid (n = s.size * count) := hne
  have HM : Hid (∀ W, Calls Tryz.prog 29 #[.int .u64 (s.size : Int), .int .u64 (count : Int)] W fun e w' => e = .returned (.tuple #[.int .u64 0, .int .u64 (n : Int)]) ∧ w' = W) := fun W => by
    have h := bits_Mul s.size count (by omega) (by omega) W
    rw [← hne, Nat.div_eq_of_lt (by omega), Nat.mod_eq_of_lt (by omega)] at h
    exact h
  have q0 : ((count : Int) == 0) = false := by rw [Bool.eq_false_iff]; intro h; rw [beq_iff_eq] at h; omega
  have q1 : ((count : Int) == 1) = false := by rw [Bool.eq_false_iff]; intro h; rw [beq_iff_eq] at h; omega
  have q2 : decide ((count : Int) < 0) = false := by simp
  have q3 : ((s.size : Int) == 0) = false := by rw [Bool.eq_false_iff]; intro h; rw [beq_iff_eq] at h; omega
  have i0 : (0 : Int) < (s.size : Int) := by omega
  have p32 : ((s[0].toNat : Int) == 32) = false := u8n s[0] 32 hq32
  have p45 : ((s[0].toNat : Int) == 45) = false := u8n s[0] 45 hq45
  have p48 : ((s[0].toNat : Int) == 48) = false := u8n s[0] 48 hq48
  have p61 : ((s[0].toNat : Int) == 61) = false := u8n s[0] 61 hq61
  have p9 : ((s[0].toNat : Int) == 9) = false := u8n s[0] 9 hq9
  clear hne
  have HMul : Hid (∀ a b : Nat, a * s.size = b * s.size → a = b) := fun a b h => Nat.eq_of_mul_eq_mul_right h1 h
  have HLe : Hid (∀ a b : Nat, a * s.size < b * s.size → a < b) := fun a b h => Nat.lt_of_mul_lt_mul_right h
  obtain ⟨cm, CM, hcm1, hCM, hcase⟩ : ∃ cm CM : Nat, 1 ≤ cm ∧ CM = cm * s.size ∧ ((n ≤ 8192 ∧ CM = n) ∨ (8192 < n ∧ CM = 8192 / s.size * s.size)) := by
    by_cases h : n ≤ 8192
    · exact ⟨count, n, by omega, by rw [HN.out, Nat.mul_comm], Or.inl ⟨h, rfl⟩⟩
    · refine ⟨8192 / s.size, _, ?_, rfl, Or.inr ⟨by omega, rfl⟩⟩
      exact Nat.div_pos hs8 h1
  have HCM : Hid (CM = cm * s.size) := hCM
  have hCMp : 0 < CM := by rw [hCM]; exact Nat.mul_pos (by omega) h1
  have hCMl : CM ≤ 1000000 := by
    rcases hcase with ⟨_, h⟩ | ⟨_, h⟩
    · omega
    · have := Nat.div_mul_le_self 8192 s.size; omega
  clear hCM
  have main : ∀ (Wp : Prop), Wp → Wp := fun _ h => h
  clear main
  rcases hcase with ⟨h81, hCe⟩ | ⟨h81, hCe⟩
  · have d81 : decide ((8192 : Int) < (n : Int)) = false := by simp; omega
    have hCe' := hCe.symm
    clear hCe
    subst hCe'
    go_enter Tryz.func17, Tryz.ntmps17
    go_wp2_with (first | (go_at_call 29; refine (HM.out _).mono ?_; rintro e w' ⟨rfl, hw'⟩; rw [hw']; clear hw') | fail)
    refine (Builder_Grow_fresh w.heap.size w.heap.size n _ (Nat.le_refl _) (heap_alloc_new w _) (by simp) (by omega)).mono ?_
    rintro e w1 ⟨rfl, hb1, hbel1⟩
    have B1 : Bd w1 w.heap.size [] := Or.inr (Lib.BuilderAtF.of hb1)
    have L0 : Below w.heap.size w (w.alloc (.cells #[.pointer none, .slice none 0 0] 88)) := ⟨rfl, rfl, rfl, by simp, fun k hk => Below.heap_alloc w _ k hk⟩
    have L1 : Below w.heap.size w w1 := L0.trans hbel1
    clear L0
    clear hb1 hbel1 HM
    go_wp2_with fail
    refine (WriteString_any _ [] s _ B1 (by simp; omega)).mono ?_
    rintro e w2 ⟨rfl, hb2, hk2⟩
    have HB2 : Hid (Bd w2 w.heap.size (Lib.byteCells (rep (byt s) 1))) := by rw [rep_one]; exact hb2
    have HL2 : Hid (Below w.heap.size w w2) := L1.trans hk2.below
    clear hb2 hk2 B1 L1
    go_wp2_with fail
    go_loopg [10] (count - 1) (fun g _ wr => ∃ j : Nat, 1 ≤ j ∧ j ≤ count ∧ g = count - j ∧ Bd wr w.heap.size (Lib.byteCells (rep (byt s) j)) ∧ Below w.heap.size w wr)
    case atStart => exact ⟨1, by omega, by omega, rfl, HB2.out, HL2.out⟩
    case round =>
      clear HB2 HL2
      obtain ⟨j, hj1, hj2, hgj, hb, hL⟩ := hrel
      subst hgj
      rename World => wr
      obtain ⟨jl, hjl⟩ : ∃ jl, jl = j * s.size := ⟨_, rfl⟩
      have HJ : Hid (jl = j * s.size) := hjl
      have hjn : jl ≤ n := by rw [hjl, HN.out, Nat.mul_comm s.size]; exact Nat.mul_le_mul_right _ hj2
      have HB : Hid (Bd wr w.heap.size (Lib.byteCells (rep (byt s) j))) := hb
      have HL : Hid (Below w.heap.size w wr) := hL
      have HLen : Hid (∀ W, W = wr → Calls Tryz.prog 33 #[.pointer (some ⟨w.heap.size, 0, none⟩)] W fun e w' => e = .returned (.int .i64 jl) ∧ w' = wr) := fun W hW => by
        rw [hW]
        have h := Len_any w.heap.size _ wr hb
        rw [bc_len, rep_len, byt_len, ← hjl] at h
        exact h
      clear hb hL hjl
      by_cases hjc : j < count
      · obtain ⟨xn, hxn⟩ : ∃ xn, xn = (count - j) * s.size := ⟨_, rfl⟩
        have hsum : jl + xn = n := by rw [HJ.out, hxn, HN.out, ← Nat.add_mul, Nat.mul_comm s.size]; congr 1; omega
        have hxp : 0 < xn := by rw [hxn]; exact Nat.mul_pos (by omega) h1
        have HXN : Hid (xn = (count - j) * s.size) := hxn
        have i1 : (jl : Int) < (n : Int) := by omega
        have hsb : (n : Int) - (jl : Int) = (xn : Int) := by omega
        clear hxn
        by_cases hx : jl < xn
        · have hx2 : (jl : Int) < (xn : Int) := by omega
          have X1 : jl ≤ jl := by omega
          have HX : Hid (jl = j * s.size ∧ 1 ≤ j ∧ j ≤ j ∧ j + j ≤ count) := ⟨HJ.out, hj1, Nat.le_refl _, cnt_lt HJ.out HXN.out (by omega) (by omega)⟩
          obtain ⟨Z, hZ⟩ : ∃ Z, Z = str (rep (byt s) j) := ⟨_, rfl⟩
          have hzs : Z.size = jl := by rw [hZ, str_size, rep_len, byt_len, HJ.out]
          have HStr : Hid (∀ W, W = wr → Calls Tryz.prog 34 #[.pointer (some ⟨w.heap.size, 0, none⟩)] W fun e w' => e = .returned (.string Z) ∧ Bd w' w.heap.size (Lib.byteCells (rep (byt s) j)) ∧ Below w.heap.size w w') := fun W hW => by
            rw [hW]
            refine (String_any _ (rep (byt s) j) _ HB.out).mono ?_
            rintro e w3 ⟨rfl, hb3, hk3⟩
            exact ⟨by rw [hZ]; rfl, hb3, HL.out.trans hk3.below⟩
          have HZ : Hid (byt (Z.extract 0 jl) = rep (byt s) j) := by
            have h := HX.out
            refine (?_ : byt (Z.extract 0 jl) = rep (byt s) j)
            rw [byt_extract, hZ, byt_str, h.1, ← byt_len s, rep_take _ _ _ h.2.2.1, List.drop_zero]
          clear hZ
          go_wp2_with (first | (go_at_call 33; refine (HLen.out _ rfl).mono ?_; rintro e w' ⟨rfl, hw'⟩; rw [hw']; clear hw') | fail)
          refine (HStr.out _ rfl).mono ?_
          rintro e w3 ⟨rfl, hb3, hk3⟩
          have HB3 : Hid (Bd w3 w.heap.size (Lib.byteCells (rep (byt s) j))) := hb3
          have HL3 : Hid (Below w.heap.size w w3) := hk3
          clear hb3 hk3 HB HL HStr
          go_wp2_with fail
          refine (WriteString_any _ _ _ _ HB3.out (by rw [bc_len, rep_len, byt_len, ← HJ.out, ← byt_len, HZ.out, rep_len, byt_len, ← HX.out.1]; omega)).mono ?_
          rintro e w4 ⟨rfl, hb4, hk4⟩
          have HB4 : Hid (Bd w4 w.heap.size (Lib.byteCells (rep (byt s) (j + j)))) := by
            rw [rep_add, byteCells_app]
            rw [strCells_eq, HZ.out] at hb4; exact hb4
          have HL4 : Hid (Below w.heap.size w w4) := HL3.out.trans hk4.below
          clear hb4 hk4 HB3 HL3 HLen HZ hzs
          go_wp2_with fail
          go_roundg (count - (j + j))
          case measure => have := HX.out; omega
          case rel => have h := HX.out; exact ⟨j + j, by omega, h.2.2.2, rfl, HB4.out, HL4.out⟩
        · have hx2 : decide ((jl : Int) < (xn : Int)) = false := by simp; omega
          have X1 : xn ≤ jl := by omega
          have HX : Hid (xn = (count - j) * s.size ∧ 1 ≤ (count - j) ∧ (count - j) ≤ j ∧ j + (count - j) ≤ count) := ⟨HXN.out, by omega, cnt_le h1 HJ.out HXN.out (by omega), by omega⟩
          obtain ⟨Z, hZ⟩ : ∃ Z, Z = str (rep (byt s) j) := ⟨_, rfl⟩
          have hzs : Z.size = jl := by rw [hZ, str_size, rep_len, byt_len, HJ.out]
          have HStr : Hid (∀ W, W = wr → Calls Tryz.prog 34 #[.pointer (some ⟨w.heap.size, 0, none⟩)] W fun e w' => e = .returned (.string Z) ∧ Bd w' w.heap.size (Lib.byteCells (rep (byt s) j)) ∧ Below w.heap.size w w') := fun W hW => by
            rw [hW]
            refine (String_any _ (rep (byt s) j) _ HB.out).mono ?_
            rintro e w3 ⟨rfl, hb3, hk3⟩
            exact ⟨by rw [hZ]; rfl, hb3, HL.out.trans hk3.below⟩
          have HZ : Hid (byt (Z.extract 0 xn) = rep (byt s) (count - j)) := by
            have h := HX.out
            refine (?_ : byt (Z.extract 0 xn) = rep (byt s) (count - j))
            rw [byt_extract, hZ, byt_str, h.1, ← byt_len s, rep_take _ _ _ h.2.2.1, List.drop_zero]
          clear hZ
          go_wp2_with (first | (go_at_call 33; refine (HLen.out _ rfl).mono ?_; rintro e w' ⟨rfl, hw'⟩; rw [hw']; clear hw') | fail)
          refine (HStr.out _ rfl).mono ?_
          rintro e w3 ⟨rfl, hb3, hk3⟩
          have HB3 : Hid (Bd w3 w.heap.size (Lib.byteCells (rep (byt s) j))) := hb3
          have HL3 : Hid (Below w.heap.size w w3) := hk3
          clear hb3 hk3 HB HL HStr
          go_wp2_with fail
          refine (WriteString_any _ _ _ _ HB3.out (by rw [bc_len, rep_len, byt_len, ← HJ.out, ← byt_len, HZ.out, rep_len, byt_len, ← HX.out.1]; omega)).mono ?_
          rintro e w4 ⟨rfl, hb4, hk4⟩
          have HB4 : Hid (Bd w4 w.heap.size (Lib.byteCells (rep (byt s) (j + (count - j))))) := by
            rw [rep_add, byteCells_app]
            rw [strCells_eq, HZ.out] at hb4; exact hb4
          have HL4 : Hid (Below w.heap.size w w4) := HL3.out.trans hk4.below
          clear hb4 hk4 HB3 HL3 HLen HZ hzs
          go_wp2_with fail
          go_roundg (count - (j + (count - j)))
          case measure => have := HX.out; omega
          case rel => have h := HX.out; exact ⟨j + (count - j), by omega, h.2.2.2, rfl, HB4.out, HL4.out⟩
      · have hjj : j = count := by omega
        have i1 : decide ((jl : Int) < (n : Int)) = false := by
          simp
          rw [HJ.out, hjj, HN.out, Nat.mul_comm]
          omega
        have i2 : ¬ jl < n := by simpa using i1
        go_wp2_with (first | (go_at_call 33; refine (HLen.out _ rfl).mono ?_; rintro e w' ⟨rfl, hw'⟩; rw [hw']; clear hw') | fail)
        refine (String_any _ (rep (byt s) j) _ HB.out).mono ?_
        rintro e w3 ⟨rfl, hb3, hk3⟩
        go_wp2
        go_ret
        rw [← hjj]
        have h4 := HL.out.trans hk3.below
        exact ⟨rfl, ⟨h4.os, h4.tape, h4.output, h4.size, fun k hk _ => h4.block k hk⟩⟩
  · have d81 : (8192 : Int) < (n : Int) := by omega
    obtain ⟨Q, hQ⟩ : ∃ Q, Q = 8192 / s.size := ⟨_, rfl⟩
    have hdv : (8192 : Int) / (s.size : Int) = (Q : Int) := by rw [hQ]; norm_cast
    rw [← hQ] at hCe
    have hQl : Q ≤ 8192 := by rw [hQ]; exact Nat.div_le_self _ _
    have hpr : (Q : Int) * (s.size : Int) = (CM : Int) := by rw [hCe]; norm_cast
    have hz : ((CM : Int) == 0) = false := by rw [Bool.eq_false_iff]; intro h; rw [beq_iff_eq] at h; omega
    have hz2 : ¬ (s.size : Int) = 0 := by omega
    clear hCe hQ
    go_enter Tryz.func17, Tryz.ntmps17
    go_wp2_with (first | (go_at_call 29; refine (HM.out _).mono ?_; rintro e w' ⟨rfl, hw'⟩; rw [hw']; clear hw') | fail)
    refine (Builder_Grow_fresh w.heap.size w.heap.size n _ (Nat.le_refl _) (heap_alloc_new w _) (by simp) (by omega)).mono ?_
    rintro e w1 ⟨rfl, hb1, hbel1⟩
    have B1 : Bd w1 w.heap.size [] := Or.inr (Lib.BuilderAtF.of hb1)
    have L0 : Below w.heap.size w (w.alloc (.cells #[.pointer none, .slice none 0 0] 88)) := ⟨rfl, rfl, rfl, by simp, fun k hk => Below.heap_alloc w _ k hk⟩
    have L1 : Below w.heap.size w w1 := L0.trans hbel1
    clear L0
    clear hb1 hbel1 HM
    go_wp2_with fail
    refine (WriteString_any _ [] s _ B1 (by simp; omega)).mono ?_
    rintro e w2 ⟨rfl, hb2, hk2⟩
    have HB2 : Hid (Bd w2 w.heap.size (Lib.byteCells (rep (byt s) 1))) := by rw [rep_one]; exact hb2
    have HL2 : Hid (Below w.heap.size w w2) := L1.trans hk2.below
    clear hb2 hk2 B1 L1
    go_wp2_with fail
    go_loopg [10] (count - 1) (fun g _ wr => ∃ j : Nat, 1 ≤ j ∧ j ≤ count ∧ g = count - j ∧ Bd wr w.heap.size (Lib.byteCells (rep (byt s) j)) ∧ Below w.heap.size w wr)
    case atStart => exact ⟨1, by omega, by omega, rfl, HB2.out, HL2.out⟩
    case round =>
      clear HB2 HL2
      obtain ⟨j, hj1, hj2, hgj, hb, hL⟩ := hrel
      subst hgj
      rename World => wr
      obtain ⟨jl, hjl⟩ : ∃ jl, jl = j * s.size := ⟨_, rfl⟩
      have HJ : Hid (jl = j * s.size) := hjl
      have hjn : jl ≤ n := by rw [hjl, HN.out, Nat.mul_comm s.size]; exact Nat.mul_le_mul_right _ hj2
      have HB : Hid (Bd wr w.heap.size (Lib.byteCells (rep (byt s) j))) := hb
      have HL : Hid (Below w.heap.size w wr) := hL
      have HLen : Hid (∀ W, W = wr → Calls Tryz.prog 33 #[.pointer (some ⟨w.heap.size, 0, none⟩)] W fun e w' => e = .returned (.int .i64 jl) ∧ w' = wr) := fun W hW => by
        rw [hW]
        have h := Len_any w.heap.size _ wr hb
        rw [bc_len, rep_len, byt_len, ← hjl] at h
        exact h
      clear hb hL hjl
      by_cases hjc : j < count
      · obtain ⟨xn, hxn⟩ : ∃ xn, xn = (count - j) * s.size := ⟨_, rfl⟩
        have hsum : jl + xn = n := by rw [HJ.out, hxn, HN.out, ← Nat.add_mul, Nat.mul_comm s.size]; congr 1; omega
        have hxp : 0 < xn := by rw [hxn]; exact Nat.mul_pos (by omega) h1
        have HXN : Hid (xn = (count - j) * s.size) := hxn
        have i1 : (jl : Int) < (n : Int) := by omega
        have hsb : (n : Int) - (jl : Int) = (xn : Int) := by omega
        clear hxn
        by_cases hx : jl < xn
        · have hx2 : (jl : Int) < (xn : Int) := by omega
          by_cases hy : CM < jl
          · have hy2 : (CM : Int) < (jl : Int) := by omega
            have X1 : CM ≤ jl := by omega
            have HX : Hid (CM = cm * s.size ∧ 1 ≤ cm ∧ cm ≤ j ∧ j + cm ≤ count) := ⟨HCM.out, hcm1, cnt_le h1 HJ.out HCM.out (by omega), cnt_le3 h1 HXN.out HCM.out (by omega) (by omega)⟩
            obtain ⟨Z, hZ⟩ : ∃ Z, Z = str (rep (byt s) j) := ⟨_, rfl⟩
            have hzs : Z.size = jl := by rw [hZ, str_size, rep_len, byt_len, HJ.out]
            have HStr : Hid (∀ W, W = wr → Calls Tryz.prog 34 #[.pointer (some ⟨w.heap.size, 0, none⟩)] W fun e w' => e = .returned (.string Z) ∧ Bd w' w.heap.size (Lib.byteCells (rep (byt s) j)) ∧ Below w.heap.size w w') := fun W hW => by
              rw [hW]
              refine (String_any _ (rep (byt s) j) _ HB.out).mono ?_
              rintro e w3 ⟨rfl, hb3, hk3⟩
              exact ⟨by rw [hZ]; rfl, hb3, HL.out.trans hk3.below⟩
            have HZ : Hid (byt (Z.extract 0 CM) = rep (byt s) cm) := by
              have h := HX.out
              refine (?_ : byt (Z.extract 0 CM) = rep (byt s) cm)
              rw [byt_extract, hZ, byt_str, h.1, ← byt_len s, rep_take _ _ _ h.2.2.1, List.drop_zero]
            clear hZ
            go_wp2_with (first | (go_at_call 33; refine (HLen.out _ rfl).mono ?_; rintro e w' ⟨rfl, hw'⟩; rw [hw']; clear hw') | fail)
            refine (HStr.out _ rfl).mono ?_
            rintro e w3 ⟨rfl, hb3, hk3⟩
            have HB3 : Hid (Bd w3 w.heap.size (Lib.byteCells (rep (byt s) j))) := hb3
            have HL3 : Hid (Below w.heap.size w w3) := hk3
            clear hb3 hk3 HB HL HStr
            go_wp2_with fail
            refine (WriteString_any _ _ _ _ HB3.out (by rw [bc_len, rep_len, byt_len, ← HJ.out, ← byt_len, HZ.out, rep_len, byt_len, ← HX.out.1]; omega)).mono ?_
            rintro e w4 ⟨rfl, hb4, hk4⟩
            have HB4 : Hid (Bd w4 w.heap.size (Lib.byteCells (rep (byt s) (j + cm)))) := by
              rw [rep_add, byteCells_app]
              rw [strCells_eq, HZ.out] at hb4; exact hb4
            have HL4 : Hid (Below w.heap.size w w4) := HL3.out.trans hk4.below
            clear hb4 hk4 HB3 HL3 HLen HZ hzs
            go_wp2_with fail
            go_roundg (count - (j + cm))
            case measure => have := HX.out; omega
            case rel => have h := HX.out; exact ⟨j + cm, by omega, h.2.2.2, rfl, HB4.out, HL4.out⟩
          · have hy2 : decide ((CM : Int) < (jl : Int)) = false := by simp; omega
            have X1 : jl ≤ jl := by omega
            have HX : Hid (jl = j * s.size ∧ 1 ≤ j ∧ j ≤ j ∧ j + j ≤ count) := ⟨HJ.out, hj1, Nat.le_refl _, cnt_lt HJ.out HXN.out (by omega) (by omega)⟩
            obtain ⟨Z, hZ⟩ : ∃ Z, Z = str (rep (byt s) j) := ⟨_, rfl⟩
            have hzs : Z.size = jl := by rw [hZ, str_size, rep_len, byt_len, HJ.out]
            have HStr : Hid (∀ W, W = wr → Calls Tryz.prog 34 #[.pointer (some ⟨w.heap.size, 0, none⟩)] W fun e w' => e = .returned (.string Z) ∧ Bd w' w.heap.size (Lib.byteCells (rep (byt s) j)) ∧ Below w.heap.size w w') := fun W hW => by
              rw [hW]
              refine (String_any _ (rep (byt s) j) _ HB.out).mono ?_
              rintro e w3 ⟨rfl, hb3, hk3⟩
              exact ⟨by rw [hZ]; rfl, hb3, HL.out.trans hk3.below⟩
            have HZ : Hid (byt (Z.extract 0 jl) = rep (byt s) j) := by
              have h := HX.out
              refine (?_ : byt (Z.extract 0 jl) = rep (byt s) j)
              rw [byt_extract, hZ, byt_str, h.1, ← byt_len s, rep_take _ _ _ h.2.2.1, List.drop_zero]
            clear hZ
            go_wp2_with (first | (go_at_call 33; refine (HLen.out _ rfl).mono ?_; rintro e w' ⟨rfl, hw'⟩; rw [hw']; clear hw') | fail)
            refine (HStr.out _ rfl).mono ?_
            rintro e w3 ⟨rfl, hb3, hk3⟩
            have HB3 : Hid (Bd w3 w.heap.size (Lib.byteCells (rep (byt s) j))) := hb3
            have HL3 : Hid (Below w.heap.size w w3) := hk3
            clear hb3 hk3 HB HL HStr
            go_wp2_with fail
            refine (WriteString_any _ _ _ _ HB3.out (by rw [bc_len, rep_len, byt_len, ← HJ.out, ← byt_len, HZ.out, rep_len, byt_len, ← HX.out.1]; omega)).mono ?_
            rintro e w4 ⟨rfl, hb4, hk4⟩
            have HB4 : Hid (Bd w4 w.heap.size (Lib.byteCells (rep (byt s) (j + j)))) := by
              rw [rep_add, byteCells_app]
              rw [strCells_eq, HZ.out] at hb4; exact hb4
            have HL4 : Hid (Below w.heap.size w w4) := HL3.out.trans hk4.below
            clear hb4 hk4 HB3 HL3 HLen HZ hzs
            go_wp2_with fail
            go_roundg (count - (j + j))
            case measure => have := HX.out; omega
            case rel => have h := HX.out; exact ⟨j + j, by omega, h.2.2.2, rfl, HB4.out, HL4.out⟩
        · have hx2 : decide ((jl : Int) < (xn : Int)) = false := by simp; omega
          by_cases hy : CM < xn
          · have hy2 : (CM : Int) < (xn : Int) := by omega
            have X1 : CM ≤ jl := by omega
            have HX : Hid (CM = cm * s.size ∧ 1 ≤ cm ∧ cm ≤ j ∧ j + cm ≤ count) := ⟨HCM.out, hcm1, cnt_le h1 HJ.out HCM.out (by omega), cnt_le3 h1 HXN.out HCM.out (by omega) (by omega)⟩
            obtain ⟨Z, hZ⟩ : ∃ Z, Z = str (rep (byt s) j) := ⟨_, rfl⟩
            have hzs : Z.size = jl := by rw [hZ, str_size, rep_len, byt_len, HJ.out]
            have HStr : Hid (∀ W, W = wr → Calls Tryz.prog 34 #[.pointer (some ⟨w.heap.size, 0, none⟩)] W fun e w' => e = .returned (.string Z) ∧ Bd w' w.heap.size (Lib.byteCells (rep (byt s) j)) ∧ Below w.heap.size w w') := fun W hW => by
              rw [hW]
              refine (String_any _ (rep (byt s) j) _ HB.out).mono ?_
              rintro e w3 ⟨rfl, hb3, hk3⟩
              exact ⟨by rw [hZ]; rfl, hb3, HL.out.trans hk3.below⟩
            have HZ : Hid (byt (Z.extract 0 CM) = rep (byt s) cm) := by
              have h := HX.out
              refine (?_ : byt (Z.extract 0 CM) = rep (byt s) cm)
              rw [byt_extract, hZ, byt_str, h.1, ← byt_len s, rep_take _ _ _ h.2.2.1, List.drop_zero]
            clear hZ
            go_wp2_with (first | (go_at_call 33; refine (HLen.out _ rfl).mono ?_; rintro e w' ⟨rfl, hw'⟩; rw [hw']; clear hw') | fail)
            refine (HStr.out _ rfl).mono ?_
            rintro e w3 ⟨rfl, hb3, hk3⟩
            have HB3 : Hid (Bd w3 w.heap.size (Lib.byteCells (rep (byt s) j))) := hb3
            have HL3 : Hid (Below w.heap.size w w3) := hk3
            clear hb3 hk3 HB HL HStr
            go_wp2_with fail
            refine (WriteString_any _ _ _ _ HB3.out (by rw [bc_len, rep_len, byt_len, ← HJ.out, ← byt_len, HZ.out, rep_len, byt_len, ← HX.out.1]; omega)).mono ?_
            rintro e w4 ⟨rfl, hb4, hk4⟩
            have HB4 : Hid (Bd w4 w.heap.size (Lib.byteCells (rep (byt s) (j + cm)))) := by
              rw [rep_add, byteCells_app]
              rw [strCells_eq, HZ.out] at hb4; exact hb4
            have HL4 : Hid (Below w.heap.size w w4) := HL3.out.trans hk4.below
            clear hb4 hk4 HB3 HL3 HLen HZ hzs
            go_wp2_with fail
            go_roundg (count - (j + cm))
            case measure => have := HX.out; omega
            case rel => have h := HX.out; exact ⟨j + cm, by omega, h.2.2.2, rfl, HB4.out, HL4.out⟩
          · have hy2 : decide ((CM : Int) < (xn : Int)) = false := by simp; omega
            have X1 : xn ≤ jl := by omega
            have HX : Hid (xn = (count - j) * s.size ∧ 1 ≤ (count - j) ∧ (count - j) ≤ j ∧ j + (count - j) ≤ count) := ⟨HXN.out, by omega, cnt_le h1 HJ.out HXN.out (by omega), by omega⟩
            obtain ⟨Z, hZ⟩ : ∃ Z, Z = str (rep (byt s) j) := ⟨_, rfl⟩
            have hzs : Z.size = jl := by rw [hZ, str_size, rep_len, byt_len, HJ.out]
            have HStr : Hid (∀ W, W = wr → Calls Tryz.prog 34 #[.pointer (some ⟨w.heap.size, 0, none⟩)] W fun e w' => e = .returned (.string Z) ∧ Bd w' w.heap.size (Lib.byteCells (rep (byt s) j)) ∧ Below w.heap.size w w') := fun W hW => by
              rw [hW]
              refine (String_any _ (rep (byt s) j) _ HB.out).mono ?_
              rintro e w3 ⟨rfl, hb3, hk3⟩
              exact ⟨by rw [hZ]; rfl, hb3, HL.out.trans hk3.below⟩
            have HZ : Hid (byt (Z.extract 0 xn) = rep (byt s) (count - j)) := by
              have h := HX.out
              refine (?_ : byt (Z.extract 0 xn) = rep (byt s) (count - j))
              rw [byt_extract, hZ, byt_str, h.1, ← byt_len s, rep_take _ _ _ h.2.2.1, List.drop_zero]
            clear hZ
            go_wp2_with (first | (go_at_call 33; refine (HLen.out _ rfl).mono ?_; rintro e w' ⟨rfl, hw'⟩; rw [hw']; clear hw') | fail)
            refine (HStr.out _ rfl).mono ?_
            rintro e w3 ⟨rfl, hb3, hk3⟩
            have HB3 : Hid (Bd w3 w.heap.size (Lib.byteCells (rep (byt s) j))) := hb3
            have HL3 : Hid (Below w.heap.size w w3) := hk3
            clear hb3 hk3 HB HL HStr
            go_wp2_with fail
            refine (WriteString_any _ _ _ _ HB3.out (by rw [bc_len, rep_len, byt_len, ← HJ.out, ← byt_len, HZ.out, rep_len, byt_len, ← HX.out.1]; omega)).mono ?_
            rintro e w4 ⟨rfl, hb4, hk4⟩
            have HB4 : Hid (Bd w4 w.heap.size (Lib.byteCells (rep (byt s) (j + (count - j))))) := by
              rw [rep_add, byteCells_app]
              rw [strCells_eq, HZ.out] at hb4; exact hb4
            have HL4 : Hid (Below w.heap.size w w4) := HL3.out.trans hk4.below
            clear hb4 hk4 HB3 HL3 HLen HZ hzs
            go_wp2_with fail
            go_roundg (count - (j + (count - j)))
            case measure => have := HX.out; omega
            case rel => have h := HX.out; exact ⟨j + (count - j), by omega, h.2.2.2, rfl, HB4.out, HL4.out⟩
      · have hjj : j = count := by omega
        have i1 : decide ((jl : Int) < (n : Int)) = false := by
          simp
          rw [HJ.out, hjj, HN.out, Nat.mul_comm]
          omega
        have i2 : ¬ jl < n := by simpa using i1
        go_wp2_with (first | (go_at_call 33; refine (HLen.out _ rfl).mono ?_; rintro e w' ⟨rfl, hw'⟩; rw [hw']; clear hw') | fail)
        refine (String_any _ (rep (byt s) j) _ HB.out).mono ?_
        rintro e w3 ⟨rfl, hb3, hk3⟩
        go_wp2
        go_ret
        rw [← hjj]
        have h4 := HL.out.trans hk3.below
        exact ⟨rfl, ⟨h4.os, h4.tape, h4.output, h4.size, fun k hk _ => h4.block k hk⟩⟩

end Go.Proofs.YtiapdapkklcliaaGreatDoor
