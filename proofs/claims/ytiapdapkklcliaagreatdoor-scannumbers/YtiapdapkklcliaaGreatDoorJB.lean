/- Of what ScanNumbers asks: SameTexts of the words, and closed facts on scanning. -/
import Derived.Test.YtiapdapkklcliaaGreatDoorLwTel
import Derived.Test.YtiapdapkklcliaaGreatDoorRep
import Derived.Test.YtiapdapkklcliaaGreatDoorSgn

namespace Go.Proofs.YtiapdapkklcliaaGreatDoor
open Go.RowKit

/-- Each word alone, and in quotes. -/
theorem words_right : Sc.words.all (fun l => decide (Sc.tokens l = .ok [⟨6, l, 0⟩, ⟨8, [], l.length⟩]) && decide (Sc.tokens (39 :: (l ++ [39])) = .ok [⟨2, l, 0⟩, ⟨8, [], l.length + 2⟩]) && decide (1 ≤ l.length) && decide (l.length ≤ 7)) = true := by decide +kernel
theorem word_at (k : Nat) (h : k < 19) : ∃ t : ByteArray, wordsC[k]? = some (.string t) ∧ Sc.tokens (byt t) = .ok [⟨6, byt t, 0⟩, ⟨8, [], t.size⟩] ∧ Sc.tokens (39 :: (byt t ++ [39])) = .ok [⟨2, byt t, 0⟩, ⟨8, [], t.size + 2⟩] ∧ 1 ≤ t.size ∧ t.size ≤ 7 := by
  have hl : Sc.words.length = 19 := by decide
  have hk : k < Sc.words.length := by omega
  have h2 := List.all_eq_true.1 words_right _ (List.getElem_mem hk)
  simp only [Bool.and_eq_true, decide_eq_true_eq] at h2
  obtain ⟨⟨⟨a, b⟩, c⟩, d⟩ := h2
  refine ⟨str Sc.words[k], ?_, ?_, ?_, ?_, ?_⟩
  · unfold wordsC
    rw [List.getElem?_toArray, List.getElem?_map, List.getElem?_eq_getElem hk]
    rfl
  · rw [byt_str, str_size]; exact a
  · rw [byt_str, str_size]; exact b
  · rw [str_size]; exact c
  · rw [str_size]; exact d

theorem rep_cons (c : UInt8) (n : Nat) : rep [c] (n + 1) = c :: rep [c] n := by
  rw [Nat.add_comm, rep_add, rep_one]; rfl
theorem gapL_rep (n : Nat) : Sc.gapL false (rep [32] n) = n := by
  induction n with
  | zero => rfl
  | succ n ih =>
    rw [rep_cons]
    show (if (Sc.inC false 32 || Sc.isBlank 32) = true then Sc.gapL (Sc.inC false 32) (rep [32] n) + 1 else 0) = n + 1
    rw [show Sc.inC false 32 = false from by decide, show Sc.isBlank 32 = true from by decide, ih]
    rfl
theorem tokens_rep (n : Nat) (h : n ≤ 65536) : Sc.tokens (rep [32] n) = .ok [⟨8, [], n⟩] := by
  unfold Sc.tokens
  have hl : (rep [32] n).length = n := by rw [rep_len]; simp
  rw [if_neg (by rw [hl]; omega)]
  unfold Sc.toksG Sc.gap
  rw [gapL_rep, List.drop_eq_nil_of_le (by rw [hl]; omega), Nat.zero_add]
  unfold Sc.toks
  rfl
theorem tokens_long (c : UInt8) (n : Nat) (h : 65536 < n) : Sc.tokens (rep [c] n) = .fault 3 0 := by
  unfold Sc.tokens
  rw [if_pos (by rw [rep_len]; simpa using h)]

set_option maxHeartbeats 1000000 in
set_option maxRecDepth 100000 in
theorem SameTexts_words (b1 b2 : Nat) (T1 T2 : TypeId) (w : World) (HA : Blk w b1 wordsC T1) (HB : Blk w b2 wordsC T2) :
    Calls Tryz.prog 13 #[.slice (some ⟨b1, 0, none⟩) 19 19, .slice (some ⟨b2, 0, none⟩) 19 19] w fun e w' => e = .returned (.bool true) ∧ Upd [] w w' := by
  go_enter Tryz.func13, Tryz.ntmps13
  go_wp2
  go_loopw [5] (fun i wr => ∃ k : Nat, k ≤ 19 ∧ i = .int .i64 k ∧ Upd [] w wr) (fun i _ => 19 - (intOf i).toNat)
  case atStart => exact ⟨0, Nat.zero_le _, rfl, Upd.refl _ _⟩
  case round =>
    obtain ⟨k, hk, rfl, hU⟩ := hrel
    by_cases hlt : k < 19
    · have i1 : (k : Int) < 19 := by omega
      obtain ⟨t, ht, _⟩ := word_at k hlt
      have x1 := (HA.mono hU (by simp)).cell k
      have x2 := (HB.mono hU (by simp)).cell k
      rw [ht] at x1 x2
      clear ht
      go_wp2
      go_quiet (fail)
      go_wp2
      go_roundw
      case rel => exact ⟨k + 1, by omega, by go_num, hU.drewN _⟩
      case measure => simp [intOf]; omega
    · have hd : decide ((k : Int) < 19) = false := by simp; omega
      go_wp2
      go_ret
      exact ⟨rfl, hU⟩

end Go.Proofs.YtiapdapkklcliaaGreatDoor

/- strings.Fields of the signs, at this program. -/
namespace Go.Proofs.YtiapdapkklcliaaGreatDoor
open Go.RowKit

theorem tab_upd {W w : World} {name : String} {k : IntKind} {zs : List Int} (h : Lib.TabIs Tryz.prog W name k zs) (hu : Upd [] W w) : Lib.TabIs Tryz.prog w name k zs := by
  unfold Lib.TabIs World.var? at *
  cases hg : Tryz.prog.globalNamed name with
  | none => rw [hg] at h; simp at h
  | some g =>
    rw [hg] at h
    simp only [Option.bind_some] at h ⊢
    by_cases hl : g < W.heap.size
    · rw [hu.block g hl (by simp)]; exact h
    · rw [Array.getElem?_eq_none (by omega)] at h; simp at h

theorem Fields_30 (s : ByteArray) (w : World) (htab : Lib.TabIs Tryz.prog w "strings.asciiSpace" .u8 Lib.asciiSpaceTab) (h1 : s.size < 1000) (h2 : s.data.toList.all (fun b => decide (b.toNat < 128)) = true) (h3 : (Lib.fields s.data.toList).length = 30) (h4 : (Lib.fields s.data.toList).all (fun l => decide (l.length ≤ 3)) = true) :
    Calls Tryz.prog 12 #[.string s] w fun e w' => e = .returned (.slice (some ⟨w.heap.size, 0, none⟩) 30 30) ∧ (∀ u, Upd [] w' u → ∀ j, j < 30 → ∃ t : ByteArray, u.cell? ⟨w.heap.size, j, none⟩ = some (.string t) ∧ t.size ≤ 3) ∧ Upd [] w w' := by
  refine (strings_Fields_laid s w (by omega) (fun j b hb => ?_) htab).mono ?_
  · have := List.all_eq_true.1 h2 b (List.mem_of_getElem? hb)
    simpa using this
  · rintro e w' ⟨rfl, rfl⟩
    rw [h3]
    refine ⟨rfl, fun u hu j hj => ?_, (Upd.refl [] w).alloc _⟩
    rw [((Blk.new w _ _).mono hu (by simp)).cell j, List.getElem?_toArray, List.getElem?_map, List.getElem?_eq_getElem (by omega)]
    have h5 := List.all_eq_true.1 h4 _ (List.getElem_mem (by omega : j < (Lib.fields s.data.toList).length))
    exact ⟨_, rfl, of_decide_eq_true h5⟩

end Go.Proofs.YtiapdapkklcliaaGreatDoor

/- strings.Repeat of blanks, at this program. -/
namespace Go.Proofs.YtiapdapkklcliaaGreatDoor
open Go.RowKit

set_option maxHeartbeats 4000000 in
set_option maxRecDepth 100000 in
theorem Repeat_blanks (s : ByteArray) (count : Nat) (w : World) (h1 : 0 < s.size) (hc : 2 ≤ count) (hn : s.size * count ≤ 1000000) (hs8 : s.size ≤ 8192) (hq : s[0] = 32) (hq2 : 128 < s.size * count) :
    Calls Tryz.prog 17 #[.string s, .int .i64 count] w fun e w' => e = .returned (.string (str (rep (byt s) count))) ∧ Upd [] w w' := by
  obtain ⟨n, hne⟩ : ∃ n, n = s.size * count := ⟨_, rfl⟩
  have hnn : n ≤ 1000000 := by omega
  have hsn : s.size ≤ n := by rw [hne]; exact Nat.le_mul_of_pos_right _ (by omega)
  have hcn : count ≤ n := by rw [hne]; exact Nat.le_mul_of_pos_left _ h1
  have HN : Hid (n = s.size * count) := hne
  have HM : Hid (∀ W, Calls Tryz.prog 29 #[.int .u64 (s.size : Int), .int .u64 (count : Int)] W fun e w' => e = .returned (.tuple #[.int .u64 0, .int .u64 (n : Int)]) ∧ w' = W) := fun W => by
    have h := bits_Mul s.size count (by omega) (by omega) W
    rw [← hne, Nat.div_eq_of_lt (by omega), Nat.mod_eq_of_lt (by omega)] at h
    exact h
  have q0 : ((count : Int) == 0) = false := by rw [Bool.eq_false_iff]; intro h; rw [beq_iff_eq] at h; omega
  have q1 : ((count : Int) == 1) = false := by rw [Bool.eq_false_iff]; intro h; rw [beq_iff_eq] at h; omega
  have q2 : decide ((count : Int) < 0) = false := by simp
  have q3 : ((s.size : Int) == 0) = false := by rw [Bool.eq_false_iff]; intro h; rw [beq_iff_eq] at h; omega
  have i0 : (0 : Int) < (s.size : Int) := by omega
  have p32 : ((s[0].toNat : Int) == 32) = true := by rw [hq]; rfl
  have g1 : ¬ (n : Int) ≤ 128 := by omega
  have g2 : decide ((n : Int) ≤ 128) = false := by simp; omega
  have g3 : ¬ (n : Int) ≤ 64 := by omega
  have g4 : decide ((n : Int) ≤ 64) = false := by simp; omega
  clear hne
  have HMul : Hid (∀ a b : Nat, a * s.size = b * s.size → a = b) := fun a b h => Nat.eq_of_mul_eq_mul_right h1 h
  have HLe : Hid (∀ a b : Nat, a * s.size < b * s.size → a < b) := fun a b h => Nat.lt_of_mul_lt_mul_right h
  obtain ⟨cm, CM, hcm1, hCM, hcase⟩ : ∃ cm CM : Nat, 1 ≤ cm ∧ CM = cm * s.size ∧ ((n ≤ 8192 ∧ CM = n) ∨ (8192 < n ∧ CM = 8192 / s.size * s.size)) := by
    by_cases h : n ≤ 8192
    · exact ⟨count, n, by omega, by rw [HN.out, Nat.mul_comm], Or.inl ⟨h, rfl⟩⟩
    · refine ⟨8192 / s.size, _, ?_, rfl, Or.inr ⟨by omega, rfl⟩⟩
      exact Nat.div_pos hs8 h1
  have HCM : Hid (CM = cm * s.size) := hCM
  have hCMp : 0 < CM := by rw [hCM]; exact Nat.mul_pos (by omega) h1
  have hCMl : CM ≤ 1000000 := by
    rcases hcase with ⟨_, h⟩ | ⟨_, h⟩
    · omega
    · have := Nat.div_mul_le_self 8192 s.size; omega
  clear hCM
  have main : ∀ (Wp : Prop), Wp → Wp := fun _ h => h
  clear main
  rcases hcase with ⟨h81, hCe⟩ | ⟨h81, hCe⟩
  · have d81 : decide ((8192 : Int) < (n : Int)) = false := by simp; omega
    have hCe' := hCe.symm
    clear hCe
    subst hCe'
    go_enter Tryz.func17, Tryz.ntmps17
    go_wp2_with (first | (go_at_call 29; refine (HM.out _).mono ?_; rintro e w' ⟨rfl, hw'⟩; rw [hw']; clear hw') | fail)
    refine (Builder_Grow_fresh w.heap.size w.heap.size n _ (Nat.le_refl _) (heap_alloc_new w _) (by simp) (by omega)).mono ?_
    rintro e w1 ⟨rfl, hb1, hbel1⟩
    have B1 : Bd w1 w.heap.size [] := Or.inr (Lib.BuilderAtF.of hb1)
    have L0 : Below w.heap.size w (w.alloc (.cells #[.pointer none, .slice none 0 0] 88)) := ⟨rfl, rfl, rfl, by simp, fun k hk => Below.heap_alloc w _ k hk⟩
    have L1 : Below w.heap.size w w1 := L0.trans hbel1
    clear L0
    clear hb1 hbel1 HM
    go_wp2_with fail
    refine (WriteString_any _ [] s _ B1 (by simp; omega)).mono ?_
    rintro e w2 ⟨rfl, hb2, hk2⟩
    have HB2 : Hid (Bd w2 w.heap.size (Lib.byteCells (rep (byt s) 1))) := by rw [rep_one]; exact hb2
    have HL2 : Hid (Below w.heap.size w w2) := L1.trans hk2.below
    clear hb2 hk2 B1 L1
    go_wp2_with fail
    go_loopg [10] (count - 1) (fun g _ wr => ∃ j : Nat, 1 ≤ j ∧ j ≤ count ∧ g = count - j ∧ Bd wr w.heap.size (Lib.byteCells (rep (byt s) j)) ∧ Below w.heap.size w wr)
    case atStart => exact ⟨1, by omega, by omega, rfl, HB2.out, HL2.out⟩
    case round =>
      clear HB2 HL2
      obtain ⟨j, hj1, hj2, hgj, hb, hL⟩ := hrel
      subst hgj
      rename World => wr
      obtain ⟨jl, hjl⟩ : ∃ jl, jl = j * s.size := ⟨_, rfl⟩
      have HJ : Hid (jl = j * s.size) := hjl
      have hjn : jl ≤ n := by rw [hjl, HN.out, Nat.mul_comm s.size]; exact Nat.mul_le_mul_right _ hj2
      have HB : Hid (Bd wr w.heap.size (Lib.byteCells (rep (byt s) j))) := hb
      have HL : Hid (Below w.heap.size w wr) := hL
      have HLen : Hid (∀ W, W = wr → Calls Tryz.prog 33 #[.pointer (some ⟨w.heap.size, 0, none⟩)] W fun e w' => e = .returned (.int .i64 jl) ∧ w' = wr) := fun W hW => by
        rw [hW]
        have h := Len_any w.heap.size _ wr hb
        rw [bc_len, rep_len, byt_len, ← hjl] at h
        exact h
      clear hb hL hjl
      by_cases hjc : j < count
      · obtain ⟨xn, hxn⟩ : ∃ xn, xn = (count - j) * s.size := ⟨_, rfl⟩
        have hsum : jl + xn = n := by rw [HJ.out, hxn, HN.out, ← Nat.add_mul, Nat.mul_comm s.size]; congr 1; omega
        have hxp : 0 < xn := by rw [hxn]; exact Nat.mul_pos (by omega) h1
        have HXN : Hid (xn = (count - j) * s.size) := hxn
        have i1 : (jl : Int) < (n : Int) := by omega
        have hsb : (n : Int) - (jl : Int) = (xn : Int) := by omega
        clear hxn
        by_cases hx : jl < xn
        · have hx2 : (jl : Int) < (xn : Int) := by omega
          have X1 : jl ≤ jl := by omega
          have HX : Hid (jl = j * s.size ∧ 1 ≤ j ∧ j ≤ j ∧ j + j ≤ count) := ⟨HJ.out, hj1, Nat.le_refl _, cnt_lt HJ.out HXN.out (by omega) (by omega)⟩
          obtain ⟨Z, hZ⟩ : ∃ Z, Z = str (rep (byt s) j) := ⟨_, rfl⟩
          have hzs : Z.size = jl := by rw [hZ, str_size, rep_len, byt_len, HJ.out]
          have HStr : Hid (∀ W, W = wr → Calls Tryz.prog 34 #[.pointer (some ⟨w.heap.size, 0, none⟩)] W fun e w' => e = .returned (.string Z) ∧ Bd w' w.heap.size (Lib.byteCells (rep (byt s) j)) ∧ Below w.heap.size w w') := fun W hW => by
            rw [hW]
            refine (String_any _ (rep (byt s) j) _ HB.out).mono ?_
            rintro e w3 ⟨rfl, hb3, hk3⟩
            exact ⟨by rw [hZ]; rfl, hb3, HL.out.trans hk3.below⟩
          have HZ : Hid (byt (Z.extract 0 jl) = rep (byt s) j) := by
            have h := HX.out
            refine (?_ : byt (Z.extract 0 jl) = rep (byt s) j)
            rw [byt_extract, hZ, byt_str, h.1, ← byt_len s, rep_take _ _ _ h.2.2.1, List.drop_zero]
          clear hZ
          go_wp2_with (first | (go_at_call 33; refine (HLen.out _ rfl).mono ?_; rintro e w' ⟨rfl, hw'⟩; rw [hw']; clear hw') | fail)
          refine (HStr.out _ rfl).mono ?_
          rintro e w3 ⟨rfl, hb3, hk3⟩
          have HB3 : Hid (Bd w3 w.heap.size (Lib.byteCells (rep (byt s) j))) := hb3
          have HL3 : Hid (Below w.heap.size w w3) := hk3
          clear hb3 hk3 HB HL HStr
          go_wp2_with fail
          refine (WriteString_any _ _ _ _ HB3.out (by rw [bc_len, rep_len, byt_len, ← HJ.out, ← byt_len, HZ.out, rep_len, byt_len, ← HX.out.1]; omega)).mono ?_
          rintro e w4 ⟨rfl, hb4, hk4⟩
          have HB4 : Hid (Bd w4 w.heap.size (Lib.byteCells (rep (byt s) (j + j)))) := by
            rw [rep_add, byteCells_app]
            rw [strCells_eq, HZ.out] at hb4; exact hb4
          have HL4 : Hid (Below w.heap.size w w4) := HL3.out.trans hk4.below
          clear hb4 hk4 HB3 HL3 HLen HZ hzs
          go_wp2_with fail
          go_roundg (count - (j + j))
          case measure => have := HX.out; omega
          case rel => have h := HX.out; exact ⟨j + j, by omega, h.2.2.2, rfl, HB4.out, HL4.out⟩
        · have hx2 : decide ((jl : Int) < (xn : Int)) = false := by simp; omega
          have X1 : xn ≤ jl := by omega
          have HX : Hid (xn = (count - j) * s.size ∧ 1 ≤ (count - j) ∧ (count - j) ≤ j ∧ j + (count - j) ≤ count) := ⟨HXN.out, by omega, cnt_le h1 HJ.out HXN.out (by omega), by omega⟩
          obtain ⟨Z, hZ⟩ : ∃ Z, Z = str (rep (byt s) j) := ⟨_, rfl⟩
          have hzs : Z.size = jl := by rw [hZ, str_size, rep_len, byt_len, HJ.out]
          have HStr : Hid (∀ W, W = wr → Calls Tryz.prog 34 #[.pointer (some ⟨w.heap.size, 0, none⟩)] W fun e w' => e = .returned (.string Z) ∧ Bd w' w.heap.size (Lib.byteCells (rep (byt s) j)) ∧ Below w.heap.size w w') := fun W hW => by
            rw [hW]
            refine (String_any _ (rep (byt s) j) _ HB.out).mono ?_
            rintro e w3 ⟨rfl, hb3, hk3⟩
            exact ⟨by rw [hZ]; rfl, hb3, HL.out.trans hk3.below⟩
          have HZ : Hid (byt (Z.extract 0 xn) = rep (byt s) (count - j)) := by
            have h := HX.out
            refine (?_ : byt (Z.extract 0 xn) = rep (byt s) (count - j))
            rw [byt_extract, hZ, byt_str, h.1, ← byt_len s, rep_take _ _ _ h.2.2.1, List.drop_zero]
          clear hZ
          go_wp2_with (first | (go_at_call 33; refine (HLen.out _ rfl).mono ?_; rintro e w' ⟨rfl, hw'⟩; rw [hw']; clear hw') | fail)
          refine (HStr.out _ rfl).mono ?_
          rintro e w3 ⟨rfl, hb3, hk3⟩
          have HB3 : Hid (Bd w3 w.heap.size (Lib.byteCells (rep (byt s) j))) := hb3
          have HL3 : Hid (Below w.heap.size w w3) := hk3
          clear hb3 hk3 HB HL HStr
          go_wp2_with fail
          refine (WriteString_any _ _ _ _ HB3.out (by rw [bc_len, rep_len, byt_len, ← HJ.out, ← byt_len, HZ.out, rep_len, byt_len, ← HX.out.1]; omega)).mono ?_
          rintro e w4 ⟨rfl, hb4, hk4⟩
          have HB4 : Hid (Bd w4 w.heap.size (Lib.byteCells (rep (byt s) (j + (count - j))))) := by
            rw [rep_add, byteCells_app]
            rw [strCells_eq, HZ.out] at hb4; exact hb4
          have HL4 : Hid (Below w.heap.size w w4) := HL3.out.trans hk4.below
          clear hb4 hk4 HB3 HL3 HLen HZ hzs
          go_wp2_with fail
          go_roundg (count - (j + (count - j)))
          case measure => have := HX.out; omega
          case rel => have h := HX.out; exact ⟨j + (count - j), by omega, h.2.2.2, rfl, HB4.out, HL4.out⟩
      · have hjj : j = count := by omega
        have i1 : decide ((jl : Int) < (n : Int)) = false := by
          simp
          rw [HJ.out, hjj, HN.out, Nat.mul_comm]
          omega
        have i2 : ¬ jl < n := by simpa using i1
        go_wp2_with (first | (go_at_call 33; refine (HLen.out _ rfl).mono ?_; rintro e w' ⟨rfl, hw'⟩; rw [hw']; clear hw') | fail)
        refine (String_any _ (rep (byt s) j) _ HB.out).mono ?_
        rintro e w3 ⟨rfl, hb3, hk3⟩
        go_wp2
        go_ret
        rw [← hjj]
        have h4 := HL.out.trans hk3.below
        exact ⟨rfl, ⟨h4.os, h4.tape, h4.output, h4.size, fun k hk _ => h4.block k hk⟩⟩
  · have d81 : (8192 : Int) < (n : Int) := by omega
    obtain ⟨Q, hQ⟩ : ∃ Q, Q = 8192 / s.size := ⟨_, rfl⟩
    have hdv : (8192 : Int) / (s.size : Int) = (Q : Int) := by rw [hQ]; norm_cast
    rw [← hQ] at hCe
    have hQl : Q ≤ 8192 := by rw [hQ]; exact Nat.div_le_self _ _
    have hpr : (Q : Int) * (s.size : Int) = (CM : Int) := by rw [hCe]; norm_cast
    have hz : ((CM : Int) == 0) = false := by rw [Bool.eq_false_iff]; intro h; rw [beq_iff_eq] at h; omega
    have hz2 : ¬ (s.size : Int) = 0 := by omega
    clear hCe hQ
    go_enter Tryz.func17, Tryz.ntmps17
    go_wp2_with (first | (go_at_call 29; refine (HM.out _).mono ?_; rintro e w' ⟨rfl, hw'⟩; rw [hw']; clear hw') | fail)
    refine (Builder_Grow_fresh w.heap.size w.heap.size n _ (Nat.le_refl _) (heap_alloc_new w _) (by simp) (by omega)).mono ?_
    rintro e w1 ⟨rfl, hb1, hbel1⟩
    have B1 : Bd w1 w.heap.size [] := Or.inr (Lib.BuilderAtF.of hb1)
    have L0 : Below w.heap.size w (w.alloc (.cells #[.pointer none, .slice none 0 0] 88)) := ⟨rfl, rfl, rfl, by simp, fun k hk => Below.heap_alloc w _ k hk⟩
    have L1 : Below w.heap.size w w1 := L0.trans hbel1
    clear L0
    clear hb1 hbel1 HM
    go_wp2_with fail
    refine (WriteString_any _ [] s _ B1 (by simp; omega)).mono ?_
    rintro e w2 ⟨rfl, hb2, hk2⟩
    have HB2 : Hid (Bd w2 w.heap.size (Lib.byteCells (rep (byt s) 1))) := by rw [rep_one]; exact hb2
    have HL2 : Hid (Below w.heap.size w w2) := L1.trans hk2.below
    clear hb2 hk2 B1 L1
    go_wp2_with fail
    go_loopg [10] (count - 1) (fun g _ wr => ∃ j : Nat, 1 ≤ j ∧ j ≤ count ∧ g = count - j ∧ Bd wr w.heap.size (Lib.byteCells (rep (byt s) j)) ∧ Below w.heap.size w wr)
    case atStart => exact ⟨1, by omega, by omega, rfl, HB2.out, HL2.out⟩
    case round =>
      clear HB2 HL2
      obtain ⟨j, hj1, hj2, hgj, hb, hL⟩ := hrel
      subst hgj
      rename World => wr
      obtain ⟨jl, hjl⟩ : ∃ jl, jl = j * s.size := ⟨_, rfl⟩
      have HJ : Hid (jl = j * s.size) := hjl
      have hjn : jl ≤ n := by rw [hjl, HN.out, Nat.mul_comm s.size]; exact Nat.mul_le_mul_right _ hj2
      have HB : Hid (Bd wr w.heap.size (Lib.byteCells (rep (byt s) j))) := hb
      have HL : Hid (Below w.heap.size w wr) := hL
      have HLen : Hid (∀ W, W = wr → Calls Tryz.prog 33 #[.pointer (some ⟨w.heap.size, 0, none⟩)] W fun e w' => e = .returned (.int .i64 jl) ∧ w' = wr) := fun W hW => by
        rw [hW]
        have h := Len_any w.heap.size _ wr hb
        rw [bc_len, rep_len, byt_len, ← hjl] at h
        exact h
      clear hb hL hjl
      by_cases hjc : j < count
      · obtain ⟨xn, hxn⟩ : ∃ xn, xn = (count - j) * s.size := ⟨_, rfl⟩
        have hsum : jl + xn = n := by rw [HJ.out, hxn, HN.out, ← Nat.add_mul, Nat.mul_comm s.size]; congr 1; omega
        have hxp : 0 < xn := by rw [hxn]; exact Nat.mul_pos (by omega) h1
        have HXN : Hid (xn = (count - j) * s.size) := hxn
        have i1 : (jl : Int) < (n : Int) := by omega
        have hsb : (n : Int) - (jl : Int) = (xn : Int) := by omega
        clear hxn
        by_cases hx : jl < xn
        · have hx2 : (jl : Int) < (xn : Int) := by omega
          by_cases hy : CM < jl
          · have hy2 : (CM : Int) < (jl : Int) := by omega
            have X1 : CM ≤ jl := by omega
            have HX : Hid (CM = cm * s.size ∧ 1 ≤ cm ∧ cm ≤ j ∧ j + cm ≤ count) := ⟨HCM.out, hcm1, cnt_le h1 HJ.out HCM.out (by omega), cnt_le3 h1 HXN.out HCM.out (by omega) (by omega)⟩
            obtain ⟨Z, hZ⟩ : ∃ Z, Z = str (rep (byt s) j) := ⟨_, rfl⟩
            have hzs : Z.size = jl := by rw [hZ, str_size, rep_len, byt_len, HJ.out]
            have HStr : Hid (∀ W, W = wr → Calls Tryz.prog 34 #[.pointer (some ⟨w.heap.size, 0, none⟩)] W fun e w' => e = .returned (.string Z) ∧ Bd w' w.heap.size (Lib.byteCells (rep (byt s) j)) ∧ Below w.heap.size w w') := fun W hW => by
              rw [hW]
              refine (String_any _ (rep (byt s) j) _ HB.out).mono ?_
              rintro e w3 ⟨rfl, hb3, hk3⟩
              exact ⟨by rw [hZ]; rfl, hb3, HL.out.trans hk3.below⟩
            have HZ : Hid (byt (Z.extract 0 CM) = rep (byt s) cm) := by
              have h := HX.out
              refine (?_ : byt (Z.extract 0 CM) = rep (byt s) cm)
              rw [byt_extract, hZ, byt_str, h.1, ← byt_len s, rep_take _ _ _ h.2.2.1, List.drop_zero]
            clear hZ
            go_wp2_with (first | (go_at_call 33; refine (HLen.out _ rfl).mono ?_; rintro e w' ⟨rfl, hw'⟩; rw [hw']; clear hw') | fail)
            refine (HStr.out _ rfl).mono ?_
            rintro e w3 ⟨rfl, hb3, hk3⟩
            have HB3 : Hid (Bd w3 w.heap.size (Lib.byteCells (rep (byt s) j))) := hb3
            have HL3 : Hid (Below w.heap.size w w3) := hk3
            clear hb3 hk3 HB HL HStr
            go_wp2_with fail
            refine (WriteString_any _ _ _ _ HB3.out (by rw [bc_len, rep_len, byt_len, ← HJ.out, ← byt_len, HZ.out, rep_len, byt_len, ← HX.out.1]; omega)).mono ?_
            rintro e w4 ⟨rfl, hb4, hk4⟩
            have HB4 : Hid (Bd w4 w.heap.size (Lib.byteCells (rep (byt s) (j + cm)))) := by
              rw [rep_add, byteCells_app]
              rw [strCells_eq, HZ.out] at hb4; exact hb4
            have HL4 : Hid (Below w.heap.size w w4) := HL3.out.trans hk4.below
            clear hb4 hk4 HB3 HL3 HLen HZ hzs
            go_wp2_with fail
            go_roundg (count - (j + cm))
            case measure => have := HX.out; omega
            case rel => have h := HX.out; exact ⟨j + cm, by omega, h.2.2.2, rfl, HB4.out, HL4.out⟩
          · have hy2 : decide ((CM : Int) < (jl : Int)) = false := by simp; omega
            have X1 : jl ≤ jl := by omega
            have HX : Hid (jl = j * s.size ∧ 1 ≤ j ∧ j ≤ j ∧ j + j ≤ count) := ⟨HJ.out, hj1, Nat.le_refl _, cnt_lt HJ.out HXN.out (by omega) (by omega)⟩
            obtain ⟨Z, hZ⟩ : ∃ Z, Z = str (rep (byt s) j) := ⟨_, rfl⟩
            have hzs : Z.size = jl := by rw [hZ, str_size, rep_len, byt_len, HJ.out]
            have HStr : Hid (∀ W, W = wr → Calls Tryz.prog 34 #[.pointer (some ⟨w.heap.size, 0, none⟩)] W fun e w' => e = .returned (.string Z) ∧ Bd w' w.heap.size (Lib.byteCells (rep (byt s) j)) ∧ Below w.heap.size w w') := fun W hW => by
              rw [hW]
              refine (String_any _ (rep (byt s) j) _ HB.out).mono ?_
              rintro e w3 ⟨rfl, hb3, hk3⟩
              exact ⟨by rw [hZ]; rfl, hb3, HL.out.trans hk3.below⟩
            have HZ : Hid (byt (Z.extract 0 jl) = rep (byt s) j) := by
              have h := HX.out
              refine (?_ : byt (Z.extract 0 jl) = rep (byt s) j)
              rw [byt_extract, hZ, byt_str, h.1, ← byt_len s, rep_take _ _ _ h.2.2.1, List.drop_zero]
            clear hZ
            go_wp2_with (first | (go_at_call 33; refine (HLen.out _ rfl).mono ?_; rintro e w' ⟨rfl, hw'⟩; rw [hw']; clear hw') | fail)
            refine (HStr.out _ rfl).mono ?_
            rintro e w3 ⟨rfl, hb3, hk3⟩
            have HB3 : Hid (Bd w3 w.heap.size (Lib.byteCells (rep (byt s) j))) := hb3
            have HL3 : Hid (Below w.heap.size w w3) := hk3
            clear hb3 hk3 HB HL HStr
            go_wp2_with fail
            refine (WriteString_any _ _ _ _ HB3.out (by rw [bc_len, rep_len, byt_len, ← HJ.out, ← byt_len, HZ.out, rep_len, byt_len, ← HX.out.1]; omega)).mono ?_
            rintro e w4 ⟨rfl, hb4, hk4⟩
            have HB4 : Hid (Bd w4 w.heap.size (Lib.byteCells (rep (byt s) (j + j)))) := by
              rw [rep_add, byteCells_app]
              rw [strCells_eq, HZ.out] at hb4; exact hb4
            have HL4 : Hid (Below w.heap.size w w4) := HL3.out.trans hk4.below
            clear hb4 hk4 HB3 HL3 HLen HZ hzs
            go_wp2_with fail
            go_roundg (count - (j + j))
            case measure => have := HX.out; omega
            case rel => have h := HX.out; exact ⟨j + j, by omega, h.2.2.2, rfl, HB4.out, HL4.out⟩
        · have hx2 : decide ((jl : Int) < (xn : Int)) = false := by simp; omega
          by_cases hy : CM < xn
          · have hy2 : (CM : Int) < (xn : Int) := by omega
            have X1 : CM ≤ jl := by omega
            have HX : Hid (CM = cm * s.size ∧ 1 ≤ cm ∧ cm ≤ j ∧ j + cm ≤ count) := ⟨HCM.out, hcm1, cnt_le h1 HJ.out HCM.out (by omega), cnt_le3 h1 HXN.out HCM.out (by omega) (by omega)⟩
            obtain ⟨Z, hZ⟩ : ∃ Z, Z = str (rep (byt s) j) := ⟨_, rfl⟩
            have hzs : Z.size = jl := by rw [hZ, str_size, rep_len, byt_len, HJ.out]
            have HStr : Hid (∀ W, W = wr → Calls Tryz.prog 34 #[.pointer (some ⟨w.heap.size, 0, none⟩)] W fun e w' => e = .returned (.string Z) ∧ Bd w' w.heap.size (Lib.byteCells (rep (byt s) j)) ∧ Below w.heap.size w w') := fun W hW => by
              rw [hW]
              refine (String_any _ (rep (byt s) j) _ HB.out).mono ?_
              rintro e w3 ⟨rfl, hb3, hk3⟩
              exact ⟨by rw [hZ]; rfl, hb3, HL.out.trans hk3.below⟩
            have HZ : Hid (byt (Z.extract 0 CM) = rep (byt s) cm) := by
              have h := HX.out
              refine (?_ : byt (Z.extract 0 CM) = rep (byt s) cm)
              rw [byt_extract, hZ, byt_str, h.1, ← byt_len s, rep_take _ _ _ h.2.2.1, List.drop_zero]
            clear hZ
            go_wp2_with (first | (go_at_call 33; refine (HLen.out _ rfl).mono ?_; rintro e w' ⟨rfl, hw'⟩; rw [hw']; clear hw') | fail)
            refine (HStr.out _ rfl).mono ?_
            rintro e w3 ⟨rfl, hb3, hk3⟩
            have HB3 : Hid (Bd w3 w.heap.size (Lib.byteCells (rep (byt s) j))) := hb3
            have HL3 : Hid (Below w.heap.size w w3) := hk3
            clear hb3 hk3 HB HL HStr
            go_wp2_with fail
            refine (WriteString_any _ _ _ _ HB3.out (by rw [bc_len, rep_len, byt_len, ← HJ.out, ← byt_len, HZ.out, rep_len, byt_len, ← HX.out.1]; omega)).mono ?_
            rintro e w4 ⟨rfl, hb4, hk4⟩
            have HB4 : Hid (Bd w4 w.heap.size (Lib.byteCells (rep (byt s) (j + cm)))) := by
              rw [rep_add, byteCells_app]
              rw [strCells_eq, HZ.out] at hb4; exact hb4
            have HL4 : Hid (Below w.heap.size w w4) := HL3.out.trans hk4.below
            clear hb4 hk4 HB3 HL3 HLen HZ hzs
            go_wp2_with fail
            go_roundg (count - (j + cm))
            case measure => have := HX.out; omega
            case rel => have h := HX.out; exact ⟨j + cm, by omega, h.2.2.2, rfl, HB4.out, HL4.out⟩
          · have hy2 : decide ((CM : Int) < (xn : Int)) = false := by simp; omega
            have X1 : xn ≤ jl := by omega
            have HX : Hid (xn = (count - j) * s.size ∧ 1 ≤ (count - j) ∧ (count - j) ≤ j ∧ j + (count - j) ≤ count) := ⟨HXN.out, by omega, cnt_le h1 HJ.out HXN.out (by omega), by omega⟩
            obtain ⟨Z, hZ⟩ : ∃ Z, Z = str (rep (byt s) j) := ⟨_, rfl⟩
            have hzs : Z.size = jl := by rw [hZ, str_size, rep_len, byt_len, HJ.out]
            have HStr : Hid (∀ W, W = wr → Calls Tryz.prog 34 #[.pointer (some ⟨w.heap.size, 0, none⟩)] W fun e w' => e = .returned (.string Z) ∧ Bd w' w.heap.size (Lib.byteCells (rep (byt s) j)) ∧ Below w.heap.size w w') := fun W hW => by
              rw [hW]
              refine (String_any _ (rep (byt s) j) _ HB.out).mono ?_
              rintro e w3 ⟨rfl, hb3, hk3⟩
              exact ⟨by rw [hZ]; rfl, hb3, HL.out.trans hk3.below⟩
            have HZ : Hid (byt (Z.extract 0 xn) = rep (byt s) (count - j)) := by
              have h := HX.out
              refine (?_ : byt (Z.extract 0 xn) = rep (byt s) (count - j))
              rw [byt_extract, hZ, byt_str, h.1, ← byt_len s, rep_take _ _ _ h.2.2.1, List.drop_zero]
            clear hZ
            go_wp2_with (first | (go_at_call 33; refine (HLen.out _ rfl).mono ?_; rintro e w' ⟨rfl, hw'⟩; rw [hw']; clear hw') | fail)
            refine (HStr.out _ rfl).mono ?_
            rintro e w3 ⟨rfl, hb3, hk3⟩
            have HB3 : Hid (Bd w3 w.heap.size (Lib.byteCells (rep (byt s) j))) := hb3
            have HL3 : Hid (Below w.heap.size w w3) := hk3
            clear hb3 hk3 HB HL HStr
            go_wp2_with fail
            refine (WriteString_any _ _ _ _ HB3.out (by rw [bc_len, rep_len, byt_len, ← HJ.out, ← byt_len, HZ.out, rep_len, byt_len, ← HX.out.1]; omega)).mono ?_
            rintro e w4 ⟨rfl, hb4, hk4⟩
            have HB4 : Hid (Bd w4 w.heap.size (Lib.byteCells (rep (byt s) (j + (count - j))))) := by
              rw [rep_add, byteCells_app]
              rw [strCells_eq, HZ.out] at hb4; exact hb4
            have HL4 : Hid (Below w.heap.size w w4) := HL3.out.trans hk4.below
            clear hb4 hk4 HB3 HL3 HLen HZ hzs
            go_wp2_with fail
            go_roundg (count - (j + (count - j)))
            case measure => have := HX.out; omega
            case rel => have h := HX.out; exact ⟨j + (count - j), by omega, h.2.2.2, rfl, HB4.out, HL4.out⟩
      · have hjj : j = count := by omega
        have i1 : decide ((jl : Int) < (n : Int)) = false := by
          simp
          rw [HJ.out, hjj, HN.out, Nat.mul_comm]
          omega
        have i2 : ¬ jl < n := by simpa using i1
        go_wp2_with (first | (go_at_call 33; refine (HLen.out _ rfl).mono ?_; rintro e w' ⟨rfl, hw'⟩; rw [hw']; clear hw') | fail)
        refine (String_any _ (rep (byt s) j) _ HB.out).mono ?_
        rintro e w3 ⟨rfl, hb3, hk3⟩
        go_wp2
        go_ret
        rw [← hjj]
        have h4 := HL.out.trans hk3.below
        exact ⟨rfl, ⟨h4.os, h4.tape, h4.output, h4.size, fun k hk _ => h4.block k hk⟩⟩

end Go.Proofs.YtiapdapkklcliaaGreatDoor

/- strings.Repeat of few blanks, at this program. -/
namespace Go.Proofs.YtiapdapkklcliaaGreatDoor
open Go.RowKit

set_option maxHeartbeats 4000000 in
set_option maxRecDepth 100000 in
theorem Repeat_few (count : Nat) (w : World) (hc : 2 ≤ count) (hn : count ≤ 64) :
    Calls Tryz.prog 17 #[.string ⟨#[32]⟩, .int .i64 count] w fun e w' => ∃ t, e = .returned (.string t) ∧ t.size ≤ 64 ∧ w' = w := by
  have HM : Hid (∀ W, Calls Tryz.prog 29 #[.int .u64 1, .int .u64 (count : Int)] W fun e w' => e = .returned (.tuple #[.int .u64 0, .int .u64 (count : Int)]) ∧ w' = W) := fun W => by
    have h := bits_Mul 1 count (by omega) (by omega) W
    rw [Nat.div_eq_of_lt (by omega), Nat.mod_eq_of_lt (by omega), Nat.one_mul] at h
    exact h
  have q0 : ((count : Int) == 0) = false := by rw [Bool.eq_false_iff]; intro h; rw [beq_iff_eq] at h; omega
  have q1 : ((count : Int) == 1) = false := by rw [Bool.eq_false_iff]; intro h; rw [beq_iff_eq] at h; omega
  have q2 : decide ((count : Int) < 0) = false := by simp
  have g1 : (count : Int) ≤ 128 := by omega
  have g3 : (count : Int) ≤ 64 := by omega
  go_enter Tryz.func17, Tryz.ntmps17
  go_wp2_with (first | (go_at_call 29; refine (HM.out _).mono ?_; rintro e w' ⟨rfl, hw'⟩; rw [hw']; clear hw') | fail)
  refine (HasPrefix_any _ _ _ (by decide +kernel) (by decide +kernel)).mono ?_
  rintro e w1 ⟨he, hw'⟩
  obtain rfl : e = .returned (.bool true) := he.trans rfl
  rw [hw']
  clear he hw'
  go_wp2_with fail
  go_ret
  exact ⟨_, rfl, by simp; omega, rfl⟩

end Go.Proofs.YtiapdapkklcliaaGreatDoor
