/- ScanBack: the walks. -/
import Derived.Test.YtfejdflbilakoaaDoorAlk
import Derived.Test.YtfejdflbilakoaaDoorScE
namespace Go.Proofs.YtfejdflbilakoaaDoor
open Go.RowKit

set_option maxHeartbeats 1000000 in
set_option maxRecDepth 100000 in
theorem Back_long (s : ByteArray) (w : World) (hg : Glb w) (hs : s.size ≤ 140737488355328) (h : 12000 < s.size) :
    Calls Tryd.prog 3 #[.string s] w fun e w' => e = .returned (.bool true) ∧ Upd [] w w' := by
  have hd : (12000 : Int) < (s.size : Int) := by omega
  have HG : Hid (Glb w) := hg
  clear hg h
  go_enter Tryd.func3, Tryd.ntmps3
  go_wp2_with fail
  refine (awake_any _ HG.out).mono ?_
  rintro e w1 ⟨rfl, hU1⟩
  go_wp2
  go_ret
  exact ⟨rfl, hU1⟩

set_option maxHeartbeats 1000000 in
set_option maxRecDepth 100000 in
theorem Back_fault (s : ByteArray) (w : World) (hg : Glb w) (h : s.size ≤ 12000) (x k : Nat) (hx : x = 200 ∨ x = 201) (hk : k < s.size) (hT : Sc.tokens (byt s) = .fault x k) :
    Calls Tryd.prog 3 #[.string s] w fun e w' => e = .returned (.bool true) ∧ Upd [] w w' := by
  have hd : decide ((12000 : Int) < (s.size : Int)) = false := by simp; omega
  have hx0 : ((x : Int) != 0) = true := by simp; omega
  have HG : Hid (Glb w) := hg
  have HT : Hid (∀ W, Upd [] w W → Calls Tryd.prog 6 #[.string s] W (TokPost W (.fault x k))) := fun W hU => by rw [← hT]; exact Tokens_any s W (HG.out.mono hU)
  have i1 : (k : Int) < (s.size : Int) := by omega
  have i2 : (0 : Int) ≤ (k : Int) := by omega
  clear hg h hT
  go_enter Tryd.func3, Tryd.ntmps3
  go_wp2_with fail
  refine (awake_any _ HG.out).mono ?_
  rintro e w1 ⟨rfl, hU1⟩
  go_wp2_with fail
  refine (HT.out _ hU1).mono ?_
  rintro e w2 ⟨hU2, rfl⟩
  go_wp2
  go_ret
  exact ⟨rfl, (hU1.trans hU2).alloc _⟩

set_option maxHeartbeats 4000000 in
set_option maxRecDepth 100000 in
theorem Back_ok (s : ByteArray) (w : World) (hg : Glb w) (h : s.size ≤ 12000) (l : List Sc.Tok) (hT : Sc.tokens (byt s) = .ok l) :
    Calls Tryd.prog 3 #[.string s] w fun e w' => e = .returned (.bool true) ∧ Upd [] w w' := by
  have hd : decide ((12000 : Int) < (s.size : Int)) = false := by simp; omega
  have hlen := Sc.tokens_len _ _ hT
  rw [byt_len] at hlen
  have hl2 : l.length ≤ 12001 := by omega
  have HG : Hid (Glb w) := hg
  have HTT : Hid (Sc.tokens (byt s) = .ok l) := hT
  have HT : Hid (∀ W, Upd [] w W → Calls Tryd.prog 6 #[.string s] W (TokPost W (.ok l))) := fun W hU => by rw [← hT]; exact Tokens_any s W (HG.out.mono hU)
  have HH : Hid (∀ k (hk : k < l.length), Sc.Here (byt s) l k l[k]) := fun k hk => (Sc.tokens_row _ _ hT).here k hk
  clear hg hT hlen
  go_enter Tryd.func3, Tryd.ntmps3
  go_wp2_with fail
  refine (awake_any _ HG.out).mono ?_
  rintro e w1 ⟨rfl, hU1⟩
  go_wp2_with fail
  refine (HT.out _ hU1).mono ?_
  rintro e w2 ⟨hU2, a, c, rfl, hO⟩
  have hU12 := (hU1.trans hU2).alloc (.cells #[.int .i64 0, .int .i64 0] 26)
  have hO2 : TokAt (w2.alloc (.cells #[.int .i64 0, .int .i64 0] 26)) a l := (OT.at hO).mono ((Upd.refl [] w2).alloc _)
  clear hO hU1 hU2 HT
  go_wp2_with fail
  go_loopw [5, 6, 7] (fun v i _ wr => ∃ (k : Nat) (T : ByteArray), k ≤ l.length ∧ i = .int .i64 k ∧ v = .string T ∧ byt T = Sc.spell (l.take k) ∧ T.size ≤ 60000 ∧ TokAt wr a l ∧ Upd [] w wr) (fun _ i _ _ => l.length - (intOf i).toNat)
  case atStart => exact ⟨0, ⟨#[]⟩, Nat.zero_le _, rfl, rfl, rfl, by decide, hO2, hU12⟩
  case round =>
    obtain ⟨k, T, hk, rfl, rfl, hTe, hTs, hA, hU⟩ := hrel
    clear hO2 hU12
    have HTE : Hid (byt T = Sc.spell (l.take k)) := hTe
    clear hTe
    by_cases hlt : k < l.length
    · have i1 : (k : Int) < (l.length : Int) := by omega
      obtain ⟨hrise, hle, hlast, hshort, hsmall, htext⟩ := HH.out k hlt
      rcases id hA with h0 | ⟨b, o, rfl, hb, hc⟩
      · rw [h0] at hlt; simp at hlt
      obtain ⟨x1, x2, x3⟩ := hc k hlt
      have HA : Hid (TokAt wr (some ⟨b, o, none⟩) l) := hA
      obtain ⟨tk, htk⟩ : ∃ t, t = l[k].kind := ⟨_, rfl⟩
      obtain ⟨tx, htx⟩ : ∃ t, t = l[k].text := ⟨_, rfl⟩
      obtain ⟨tp, htp⟩ : ∃ t, t = l[k].place := ⟨_, rfl⟩
      rw [← htk] at x1 hlast hsmall htext
      rw [← htx] at x2 hshort htext
      rw [← htp] at x3 hrise hle htext
      rw [byt_len] at hle htext
      have HSP : Hid (Sc.spell (l.take (k + 1)) = Sc.spell (l.take k) ++ Sc.spelt tk tx ++ Sc.filler) := by
        show _ = _
        rw [htk, htx]; exact Sc.spell_succ l k hlt
      have hsx : (str tx).size ≤ 400 := by rw [str_size]; exact hshort
      clear htk htx htp hA
      have hlast8 : ((tk : Int) == 8) = ((k : Int) == (l.length : Int) - 1) := by
        rw [Bool.eq_iff_iff, beq_iff_eq, beq_iff_eq]
        constructor
        · intro h; have := hlast.1 (by omega); omega
        · intro h; have := hlast.2 (by omega); omega
      obtain ⟨q8, hq8⟩ : ∃ q, q = ((tk : Int) == 8) := ⟨_, rfl⟩
      have e8 : ((k : Int) == (l.length : Int) - 1) = q8 := by rw [hq8, hlast8]
      have e8' : ((tk : Int) == 8) = q8 := hq8.symm
      have e88 : (q8 != q8) = false := by cases q8 <;> rfl
      have g1 : decide ((s.size : Int) < (tp : Int)) = false := by simp; omega
      have g1n : decide (s.size < tp) = false := by simp; omega
      have HTX : Hid (tk ≠ 8 → tk ≠ 2 → tk ≠ 4 → 0 < tx.length ∧ tp + tx.length ≤ s.size ∧ ((byt s).take (tp + tx.length)).drop tp = tx) := htext
      have HC : Hid (∀ i (hi : i < l.length), wr.cell? ⟨b, o + i * 3 + 2, none⟩ = some (.int .i64 l[i].place)) := fun i hi => (hc i hi).2.2
      have HRS : Hid (∀ (_ : 0 < k) (h2 : k - 1 < l.length), l[k - 1].place < tp) := hrise
      clear hq8 hlast hlast8 htext hc hrise
      have y1 : (wr.alloc (.cells #[.int .u8 tk, .string (str tx), .int .i64 tp] 31)).cell? ⟨b, o + k * 3 + 2, none⟩ = some (.int .i64 tp) := ((Upd.refl [] wr).alloc _).cell (p := ⟨b, o + k * 3 + 2, none⟩) hb (by simp) |>.trans x3
      by_cases hk0 : k = 0
      · have g0 : decide ((0 : Int) < (k : Int)) = false := by simp; omega
        have g0n : decide (0 < k) = false := by simp; omega
        have HK0 : Hid (k = 0) := hk0
        clear hk0
        by_cases h8 : tk = 8
        · have n8 : ((tk : Int) != 8) = false := by simp; omega
          clear h8
          go_wp2
          go_quiet (fail)
          go_wp2_with fail
          go_quiet (fail)
          go_wp2_with fail
          refine (spelt_any tk tx tp _ (by omega)).mono ?_
          rintro e w4 ⟨rfl, hU4⟩
          have HU4 : Hid (Upd [] w w4) := ((hU.alloc _).drewN _).trans hU4
          have hA4 : TokAt w4 (some ⟨b, o, none⟩) l := HA.out.mono ((((Upd.refl [] wr).alloc _).drewN _).trans hU4)
          have HA4 : Hid (TokAt w4 (some ⟨b, o, none⟩) l) := hA4
          have hsp := Sc.spelt_len tk tx hshort
          have hs1 : (str (Sc.spelt tk tx)).size ≤ 1602 := by rw [str_size]; exact hsp
          clear hU4 hA4 hU
          obtain ⟨Y, hY⟩ : ∃ Y, Y = str (Sc.spelt tk tx) := ⟨_, rfl⟩
          have HY : Hid (Y = str (Sc.spelt tk tx)) := hY
          rw [← hY] at hs1 ⊢
          clear hY hsp
          by_cases hbig : 60000 < T.size + Y.size + 16
          · have hbi : (60000 : Int) < (T.size : Int) + (Y.size : Int) + 16 := by omega
            go_wp2
            go_ret
            exact ⟨rfl, HU4.out⟩
          · have hbi : decide ((60000 : Int) < (T.size : Int) + (Y.size : Int) + 16) = false := by simp; omega
            have HN : Hid (byt (T ++ Y ++ ⟨#[13, 9, 37, 32, 97, 32, 39, 99, 111, 109, 109, 101, 110, 116, 10, 32]⟩) = Sc.spell (l.take (k + 1))) := by
              show byt (T ++ Y ++ ⟨#[13, 9, 37, 32, 97, 32, 39, 99, 111, 109, 109, 101, 110, 116, 10, 32]⟩) = Sc.spell (l.take (k + 1))
              rw [HSP.out, byt_cat, byt_cat, HTE.out, HY.out, byt_str]; rfl
            have HNS : Hid ((T ++ Y ++ ⟨#[13, 9, 37, 32, 97, 32, 39, 99, 111, 109, 109, 101, 110, 116, 10, 32]⟩).size ≤ 60000) := by
              show (T ++ Y ++ ⟨#[13, 9, 37, 32, 97, 32, 39, 99, 111, 109, 109, 101, 110, 116, 10, 32]⟩).size ≤ 60000
              rw [← byt_len, byt_cat, byt_cat, List.length_append, List.length_append, byt_len, byt_len]
              have : (byt ⟨#[13, 9, 37, 32, 97, 32, 39, 99, 111, 109, 109, 101, 110, 116, 10, 32]⟩).length = 16 := rfl
              omega
            go_wp2
            go_roundw
            case rel => exact ⟨k + 1, _, by omega, by go_num, rfl, HN.out, HNS.out, HA4.out, HU4.out⟩
            case measure => simp [intOf]; omega
        · have n8 : ((tk : Int) != 8) = true := by simp; omega
          by_cases h2 : tk = 2
          · have n2 : ((tk : Int) != 2) = false := by simp; omega
            clear h2 h8
            go_wp2
            go_quiet (fail)
            go_wp2_with fail
            go_quiet (fail)
            go_wp2_with fail
            refine (spelt_any tk tx tp _ (by omega)).mono ?_
            rintro e w4 ⟨rfl, hU4⟩
            have HU4 : Hid (Upd [] w w4) := ((hU.alloc _).drewN _).trans hU4
            have hA4 : TokAt w4 (some ⟨b, o, none⟩) l := HA.out.mono ((((Upd.refl [] wr).alloc _).drewN _).trans hU4)
            have HA4 : Hid (TokAt w4 (some ⟨b, o, none⟩) l) := hA4
            have hsp := Sc.spelt_len tk tx hshort
            have hs1 : (str (Sc.spelt tk tx)).size ≤ 1602 := by rw [str_size]; exact hsp
            clear hU4 hA4 hU
            obtain ⟨Y, hY⟩ : ∃ Y, Y = str (Sc.spelt tk tx) := ⟨_, rfl⟩
            have HY : Hid (Y = str (Sc.spelt tk tx)) := hY
            rw [← hY] at hs1 ⊢
            clear hY hsp
            by_cases hbig : 60000 < T.size + Y.size + 16
            · have hbi : (60000 : Int) < (T.size : Int) + (Y.size : Int) + 16 := by omega
              go_wp2
              go_ret
              exact ⟨rfl, HU4.out⟩
            · have hbi : decide ((60000 : Int) < (T.size : Int) + (Y.size : Int) + 16) = false := by simp; omega
              have HN : Hid (byt (T ++ Y ++ ⟨#[13, 9, 37, 32, 97, 32, 39, 99, 111, 109, 109, 101, 110, 116, 10, 32]⟩) = Sc.spell (l.take (k + 1))) := by
                show byt (T ++ Y ++ ⟨#[13, 9, 37, 32, 97, 32, 39, 99, 111, 109, 109, 101, 110, 116, 10, 32]⟩) = Sc.spell (l.take (k + 1))
                rw [HSP.out, byt_cat, byt_cat, HTE.out, HY.out, byt_str]; rfl
              have HNS : Hid ((T ++ Y ++ ⟨#[13, 9, 37, 32, 97, 32, 39, 99, 111, 109, 109, 101, 110, 116, 10, 32]⟩).size ≤ 60000) := by
                show (T ++ Y ++ ⟨#[13, 9, 37, 32, 97, 32, 39, 99, 111, 109, 109, 101, 110, 116, 10, 32]⟩).size ≤ 60000
                rw [← byt_len, byt_cat, byt_cat, List.length_append, List.length_append, byt_len, byt_len]
                have : (byt ⟨#[13, 9, 37, 32, 97, 32, 39, 99, 111, 109, 109, 101, 110, 116, 10, 32]⟩).length = 16 := rfl
                omega
              go_wp2
              go_roundw
              case rel => exact ⟨k + 1, _, by omega, by go_num, rfl, HN.out, HNS.out, HA4.out, HU4.out⟩
              case measure => simp [intOf]; omega
          · have n2 : ((tk : Int) != 2) = true := by simp; omega
            by_cases h4 : tk = 4
            · have n4 : ((tk : Int) != 4) = false := by simp; omega
              clear h2 h8 h4
              go_wp2
              go_quiet (fail)
              go_wp2_with fail
              go_quiet (fail)
              go_wp2_with fail
              refine (spelt_any tk tx tp _ (by omega)).mono ?_
              rintro e w4 ⟨rfl, hU4⟩
              have HU4 : Hid (Upd [] w w4) := ((hU.alloc _).drewN _).trans hU4
              have hA4 : TokAt w4 (some ⟨b, o, none⟩) l := HA.out.mono ((((Upd.refl [] wr).alloc _).drewN _).trans hU4)
              have HA4 : Hid (TokAt w4 (some ⟨b, o, none⟩) l) := hA4
              have hsp := Sc.spelt_len tk tx hshort
              have hs1 : (str (Sc.spelt tk tx)).size ≤ 1602 := by rw [str_size]; exact hsp
              clear hU4 hA4 hU
              obtain ⟨Y, hY⟩ : ∃ Y, Y = str (Sc.spelt tk tx) := ⟨_, rfl⟩
              have HY : Hid (Y = str (Sc.spelt tk tx)) := hY
              rw [← hY] at hs1 ⊢
              clear hY hsp
              by_cases hbig : 60000 < T.size + Y.size + 16
              · have hbi : (60000 : Int) < (T.size : Int) + (Y.size : Int) + 16 := by omega
                go_wp2
                go_ret
                exact ⟨rfl, HU4.out⟩
              · have hbi : decide ((60000 : Int) < (T.size : Int) + (Y.size : Int) + 16) = false := by simp; omega
                have HN : Hid (byt (T ++ Y ++ ⟨#[13, 9, 37, 32, 97, 32, 39, 99, 111, 109, 109, 101, 110, 116, 10, 32]⟩) = Sc.spell (l.take (k + 1))) := by
                  show byt (T ++ Y ++ ⟨#[13, 9, 37, 32, 97, 32, 39, 99, 111, 109, 109, 101, 110, 116, 10, 32]⟩) = Sc.spell (l.take (k + 1))
                  rw [HSP.out, byt_cat, byt_cat, HTE.out, HY.out, byt_str]; rfl
                have HNS : Hid ((T ++ Y ++ ⟨#[13, 9, 37, 32, 97, 32, 39, 99, 111, 109, 109, 101, 110, 116, 10, 32]⟩).size ≤ 60000) := by
                  show (T ++ Y ++ ⟨#[13, 9, 37, 32, 97, 32, 39, 99, 111, 109, 109, 101, 110, 116, 10, 32]⟩).size ≤ 60000
                  rw [← byt_len, byt_cat, byt_cat, List.length_append, List.length_append, byt_len, byt_len]
                  have : (byt ⟨#[13, 9, 37, 32, 97, 32, 39, 99, 111, 109, 109, 101, 110, 116, 10, 32]⟩).length = 16 := rfl
                  omega
                go_wp2
                go_roundw
                case rel => exact ⟨k + 1, _, by omega, by go_num, rfl, HN.out, HNS.out, HA4.out, HU4.out⟩
                case measure => simp [intOf]; omega
            · have n4 : ((tk : Int) != 4) = true := by simp; omega
              obtain ⟨hpos, hfit, heq⟩ := HTX.out h8 h2 h4
              have ssz : (str tx).size = tx.length := str_size tx
              have m1 : ((tx.length : Int) == 0) = false := by rw [beq_eq_false_iff_ne]; omega
              have m2 : (tp : Int) + (tx.length : Int) ≤ (s.size : Int) := by omega
              have m3 : ((s.extract tp (tp + tx.length)).toList == (str tx).toList) = true := by
                rw [beq_iff_eq, Lib.toList_data, Lib.toList_data]
                show byt (s.extract tp (tp + tx.length)) = tx
                rw [byt_extract]; exact heq
              have m4 : min ((tp : Int) + (tx.length : Int)) (s.size : Int) = ((tp + tx.length : Nat) : Int) := by omega
              clear h2 h8 h4 heq
              go_wp2
              go_quiet (fail)
              go_wp2_with fail
              go_quiet (fail)
              go_wp2_with fail
              refine (spelt_any tk tx tp _ (by omega)).mono ?_
              rintro e w4 ⟨rfl, hU4⟩
              have HU4 : Hid (Upd [] w w4) := ((hU.alloc _).drewN _).trans hU4
              have hA4 : TokAt w4 (some ⟨b, o, none⟩) l := HA.out.mono ((((Upd.refl [] wr).alloc _).drewN _).trans hU4)
              have HA4 : Hid (TokAt w4 (some ⟨b, o, none⟩) l) := hA4
              have hsp := Sc.spelt_len tk tx hshort
              have hs1 : (str (Sc.spelt tk tx)).size ≤ 1602 := by rw [str_size]; exact hsp
              clear hU4 hA4 hU
              obtain ⟨Y, hY⟩ : ∃ Y, Y = str (Sc.spelt tk tx) := ⟨_, rfl⟩
              have HY : Hid (Y = str (Sc.spelt tk tx)) := hY
              rw [← hY] at hs1 ⊢
              clear hY hsp
              by_cases hbig : 60000 < T.size + Y.size + 16
              · have hbi : (60000 : Int) < (T.size : Int) + (Y.size : Int) + 16 := by omega
                go_wp2
                go_ret
                exact ⟨rfl, HU4.out⟩
              · have hbi : decide ((60000 : Int) < (T.size : Int) + (Y.size : Int) + 16) = false := by simp; omega
                have HN : Hid (byt (T ++ Y ++ ⟨#[13, 9, 37, 32, 97, 32, 39, 99, 111, 109, 109, 101, 110, 116, 10, 32]⟩) = Sc.spell (l.take (k + 1))) := by
                  show byt (T ++ Y ++ ⟨#[13, 9, 37, 32, 97, 32, 39, 99, 111, 109, 109, 101, 110, 116, 10, 32]⟩) = Sc.spell (l.take (k + 1))
                  rw [HSP.out, byt_cat, byt_cat, HTE.out, HY.out, byt_str]; rfl
                have HNS : Hid ((T ++ Y ++ ⟨#[13, 9, 37, 32, 97, 32, 39, 99, 111, 109, 109, 101, 110, 116, 10, 32]⟩).size ≤ 60000) := by
                  show (T ++ Y ++ ⟨#[13, 9, 37, 32, 97, 32, 39, 99, 111, 109, 109, 101, 110, 116, 10, 32]⟩).size ≤ 60000
                  rw [← byt_len, byt_cat, byt_cat, List.length_append, List.length_append, byt_len, byt_len]
                  have : (byt ⟨#[13, 9, 37, 32, 97, 32, 39, 99, 111, 109, 109, 101, 110, 116, 10, 32]⟩).length = 16 := rfl
                  omega
                go_wp2
                go_roundw
                case rel => exact ⟨k + 1, _, by omega, by go_num, rfl, HN.out, HNS.out, HA4.out, HU4.out⟩
                case measure => simp [intOf]; omega
      · have g0 : (0 : Int) < (k : Int) := by omega
        have g0n : decide (0 < k) = true := by simp; omega
        have hkm : k - 1 < l.length := by omega
        have hr := HRS.out (by omega) hkm
        obtain ⟨pp, hpp⟩ : ∃ p, p = l[k - 1].place := ⟨_, rfl⟩
        have z0 := HC.out (k - 1) hkm
        rw [← hpp] at hr z0
        have z1 : (wr.alloc (.cells #[.int .u8 tk, .string (str tx), .int .i64 tp] 31)).cell? ⟨b, o + (k - 1) * 3 + 2, none⟩ = some (.int .i64 pp) := (((Upd.refl [] wr).alloc _).cell (p := ⟨b, o + (k - 1) * 3 + 2, none⟩) hb (by simp)).trans z0
        have g2 : decide ((tp : Int) ≤ (pp : Int)) = false := by simp; omega
        have g2n : decide (tp ≤ pp) = false := by simp; omega
        have hsub : (k : Int) - 1 = ((k - 1 : Nat) : Int) := by omega
        have i3 : (k : Int) - 1 < (l.length : Int) := by omega
        have i4 : (0 : Int) ≤ (k : Int) - 1 := by omega
        have i5 : ((k : Int) - 1).toNat = k - 1 := by omega
        clear hpp hk0
        by_cases h8 : tk = 8
        · have n8 : ((tk : Int) != 8) = false := by simp; omega
          clear h8
          go_wp2
          go_quiet (fail)
          go_wp2_with fail
          go_quiet (fail)
          go_wp2_with fail
          refine (spelt_any tk tx tp _ (by omega)).mono ?_
          rintro e w4 ⟨rfl, hU4⟩
          have HU4 : Hid (Upd [] w w4) := ((hU.alloc _).drewN _).trans hU4
          have hA4 : TokAt w4 (some ⟨b, o, none⟩) l := HA.out.mono ((((Upd.refl [] wr).alloc _).drewN _).trans hU4)
          have HA4 : Hid (TokAt w4 (some ⟨b, o, none⟩) l) := hA4
          have hsp := Sc.spelt_len tk tx hshort
          have hs1 : (str (Sc.spelt tk tx)).size ≤ 1602 := by rw [str_size]; exact hsp
          clear hU4 hA4 hU
          obtain ⟨Y, hY⟩ : ∃ Y, Y = str (Sc.spelt tk tx) := ⟨_, rfl⟩
          have HY : Hid (Y = str (Sc.spelt tk tx)) := hY
          rw [← hY] at hs1 ⊢
          clear hY hsp
          by_cases hbig : 60000 < T.size + Y.size + 16
          · have hbi : (60000 : Int) < (T.size : Int) + (Y.size : Int) + 16 := by omega
            go_wp2
            go_ret
            exact ⟨rfl, HU4.out⟩
          · have hbi : decide ((60000 : Int) < (T.size : Int) + (Y.size : Int) + 16) = false := by simp; omega
            have HN : Hid (byt (T ++ Y ++ ⟨#[13, 9, 37, 32, 97, 32, 39, 99, 111, 109, 109, 101, 110, 116, 10, 32]⟩) = Sc.spell (l.take (k + 1))) := by
              show byt (T ++ Y ++ ⟨#[13, 9, 37, 32, 97, 32, 39, 99, 111, 109, 109, 101, 110, 116, 10, 32]⟩) = Sc.spell (l.take (k + 1))
              rw [HSP.out, byt_cat, byt_cat, HTE.out, HY.out, byt_str]; rfl
            have HNS : Hid ((T ++ Y ++ ⟨#[13, 9, 37, 32, 97, 32, 39, 99, 111, 109, 109, 101, 110, 116, 10, 32]⟩).size ≤ 60000) := by
              show (T ++ Y ++ ⟨#[13, 9, 37, 32, 97, 32, 39, 99, 111, 109, 109, 101, 110, 116, 10, 32]⟩).size ≤ 60000
              rw [← byt_len, byt_cat, byt_cat, List.length_append, List.length_append, byt_len, byt_len]
              have : (byt ⟨#[13, 9, 37, 32, 97, 32, 39, 99, 111, 109, 109, 101, 110, 116, 10, 32]⟩).length = 16 := rfl
              omega
            go_wp2
            go_roundw
            case rel => exact ⟨k + 1, _, by omega, by go_num, rfl, HN.out, HNS.out, HA4.out, HU4.out⟩
            case measure => simp [intOf]; omega
        · have n8 : ((tk : Int) != 8) = true := by simp; omega
          by_cases h2 : tk = 2
          · have n2 : ((tk : Int) != 2) = false := by simp; omega
            clear h2 h8
            go_wp2
            go_quiet (fail)
            go_wp2_with fail
            go_quiet (fail)
            go_wp2_with fail
            refine (spelt_any tk tx tp _ (by omega)).mono ?_
            rintro e w4 ⟨rfl, hU4⟩
            have HU4 : Hid (Upd [] w w4) := ((hU.alloc _).drewN _).trans hU4
            have hA4 : TokAt w4 (some ⟨b, o, none⟩) l := HA.out.mono ((((Upd.refl [] wr).alloc _).drewN _).trans hU4)
            have HA4 : Hid (TokAt w4 (some ⟨b, o, none⟩) l) := hA4
            have hsp := Sc.spelt_len tk tx hshort
            have hs1 : (str (Sc.spelt tk tx)).size ≤ 1602 := by rw [str_size]; exact hsp
            clear hU4 hA4 hU
            obtain ⟨Y, hY⟩ : ∃ Y, Y = str (Sc.spelt tk tx) := ⟨_, rfl⟩
            have HY : Hid (Y = str (Sc.spelt tk tx)) := hY
            rw [← hY] at hs1 ⊢
            clear hY hsp
            by_cases hbig : 60000 < T.size + Y.size + 16
            · have hbi : (60000 : Int) < (T.size : Int) + (Y.size : Int) + 16 := by omega
              go_wp2
              go_ret
              exact ⟨rfl, HU4.out⟩
            · have hbi : decide ((60000 : Int) < (T.size : Int) + (Y.size : Int) + 16) = false := by simp; omega
              have HN : Hid (byt (T ++ Y ++ ⟨#[13, 9, 37, 32, 97, 32, 39, 99, 111, 109, 109, 101, 110, 116, 10, 32]⟩) = Sc.spell (l.take (k + 1))) := by
                show byt (T ++ Y ++ ⟨#[13, 9, 37, 32, 97, 32, 39, 99, 111, 109, 109, 101, 110, 116, 10, 32]⟩) = Sc.spell (l.take (k + 1))
                rw [HSP.out, byt_cat, byt_cat, HTE.out, HY.out, byt_str]; rfl
              have HNS : Hid ((T ++ Y ++ ⟨#[13, 9, 37, 32, 97, 32, 39, 99, 111, 109, 109, 101, 110, 116, 10, 32]⟩).size ≤ 60000) := by
                show (T ++ Y ++ ⟨#[13, 9, 37, 32, 97, 32, 39, 99, 111, 109, 109, 101, 110, 116, 10, 32]⟩).size ≤ 60000
                rw [← byt_len, byt_cat, byt_cat, List.length_append, List.length_append, byt_len, byt_len]
                have : (byt ⟨#[13, 9, 37, 32, 97, 32, 39, 99, 111, 109, 109, 101, 110, 116, 10, 32]⟩).length = 16 := rfl
                omega
              go_wp2
              go_roundw
              case rel => exact ⟨k + 1, _, by omega, by go_num, rfl, HN.out, HNS.out, HA4.out, HU4.out⟩
              case measure => simp [intOf]; omega
          · have n2 : ((tk : Int) != 2) = true := by simp; omega
            by_cases h4 : tk = 4
            · have n4 : ((tk : Int) != 4) = false := by simp; omega
              clear h2 h8 h4
              go_wp2
              go_quiet (fail)
              go_wp2_with fail
              go_quiet (fail)
              go_wp2_with fail
              refine (spelt_any tk tx tp _ (by omega)).mono ?_
              rintro e w4 ⟨rfl, hU4⟩
              have HU4 : Hid (Upd [] w w4) := ((hU.alloc _).drewN _).trans hU4
              have hA4 : TokAt w4 (some ⟨b, o, none⟩) l := HA.out.mono ((((Upd.refl [] wr).alloc _).drewN _).trans hU4)
              have HA4 : Hid (TokAt w4 (some ⟨b, o, none⟩) l) := hA4
              have hsp := Sc.spelt_len tk tx hshort
              have hs1 : (str (Sc.spelt tk tx)).size ≤ 1602 := by rw [str_size]; exact hsp
              clear hU4 hA4 hU
              obtain ⟨Y, hY⟩ : ∃ Y, Y = str (Sc.spelt tk tx) := ⟨_, rfl⟩
              have HY : Hid (Y = str (Sc.spelt tk tx)) := hY
              rw [← hY] at hs1 ⊢
              clear hY hsp
              by_cases hbig : 60000 < T.size + Y.size + 16
              · have hbi : (60000 : Int) < (T.size : Int) + (Y.size : Int) + 16 := by omega
                go_wp2
                go_ret
                exact ⟨rfl, HU4.out⟩
              · have hbi : decide ((60000 : Int) < (T.size : Int) + (Y.size : Int) + 16) = false := by simp; omega
                have HN : Hid (byt (T ++ Y ++ ⟨#[13, 9, 37, 32, 97, 32, 39, 99, 111, 109, 109, 101, 110, 116, 10, 32]⟩) = Sc.spell (l.take (k + 1))) := by
                  show byt (T ++ Y ++ ⟨#[13, 9, 37, 32, 97, 32, 39, 99, 111, 109, 109, 101, 110, 116, 10, 32]⟩) = Sc.spell (l.take (k + 1))
                  rw [HSP.out, byt_cat, byt_cat, HTE.out, HY.out, byt_str]; rfl
                have HNS : Hid ((T ++ Y ++ ⟨#[13, 9, 37, 32, 97, 32, 39, 99, 111, 109, 109, 101, 110, 116, 10, 32]⟩).size ≤ 60000) := by
                  show (T ++ Y ++ ⟨#[13, 9, 37, 32, 97, 32, 39, 99, 111, 109, 109, 101, 110, 116, 10, 32]⟩).size ≤ 60000
                  rw [← byt_len, byt_cat, byt_cat, List.length_append, List.length_append, byt_len, byt_len]
                  have : (byt ⟨#[13, 9, 37, 32, 97, 32, 39, 99, 111, 109, 109, 101, 110, 116, 10, 32]⟩).length = 16 := rfl
                  omega
                go_wp2
                go_roundw
                case rel => exact ⟨k + 1, _, by omega, by go_num, rfl, HN.out, HNS.out, HA4.out, HU4.out⟩
                case measure => simp [intOf]; omega
            · have n4 : ((tk : Int) != 4) = true := by simp; omega
              obtain ⟨hpos, hfit, heq⟩ := HTX.out h8 h2 h4
              have ssz : (str tx).size = tx.length := str_size tx
              have m1 : ((tx.length : Int) == 0) = false := by rw [beq_eq_false_iff_ne]; omega
              have m2 : (tp : Int) + (tx.length : Int) ≤ (s.size : Int) := by omega
              have m3 : ((s.extract tp (tp + tx.length)).toList == (str tx).toList) = true := by
                rw [beq_iff_eq, Lib.toList_data, Lib.toList_data]
                show byt (s.extract tp (tp + tx.length)) = tx
                rw [byt_extract]; exact heq
              have m4 : min ((tp : Int) + (tx.length : Int)) (s.size : Int) = ((tp + tx.length : Nat) : Int) := by omega
              clear h2 h8 h4 heq
              go_wp2
              go_quiet (fail)
              go_wp2_with fail
              go_quiet (fail)
              go_wp2_with fail
              refine (spelt_any tk tx tp _ (by omega)).mono ?_
              rintro e w4 ⟨rfl, hU4⟩
              have HU4 : Hid (Upd [] w w4) := ((hU.alloc _).drewN _).trans hU4
              have hA4 : TokAt w4 (some ⟨b, o, none⟩) l := HA.out.mono ((((Upd.refl [] wr).alloc _).drewN _).trans hU4)
              have HA4 : Hid (TokAt w4 (some ⟨b, o, none⟩) l) := hA4
              have hsp := Sc.spelt_len tk tx hshort
              have hs1 : (str (Sc.spelt tk tx)).size ≤ 1602 := by rw [str_size]; exact hsp
              clear hU4 hA4 hU
              obtain ⟨Y, hY⟩ : ∃ Y, Y = str (Sc.spelt tk tx) := ⟨_, rfl⟩
              have HY : Hid (Y = str (Sc.spelt tk tx)) := hY
              rw [← hY] at hs1 ⊢
              clear hY hsp
              by_cases hbig : 60000 < T.size + Y.size + 16
              · have hbi : (60000 : Int) < (T.size : Int) + (Y.size : Int) + 16 := by omega
                go_wp2
                go_ret
                exact ⟨rfl, HU4.out⟩
              · have hbi : decide ((60000 : Int) < (T.size : Int) + (Y.size : Int) + 16) = false := by simp; omega
                have HN : Hid (byt (T ++ Y ++ ⟨#[13, 9, 37, 32, 97, 32, 39, 99, 111, 109, 109, 101, 110, 116, 10, 32]⟩) = Sc.spell (l.take (k + 1))) := by
                  show byt (T ++ Y ++ ⟨#[13, 9, 37, 32, 97, 32, 39, 99, 111, 109, 109, 101, 110, 116, 10, 32]⟩) = Sc.spell (l.take (k + 1))
                  rw [HSP.out, byt_cat, byt_cat, HTE.out, HY.out, byt_str]; rfl
                have HNS : Hid ((T ++ Y ++ ⟨#[13, 9, 37, 32, 97, 32, 39, 99, 111, 109, 109, 101, 110, 116, 10, 32]⟩).size ≤ 60000) := by
                  show (T ++ Y ++ ⟨#[13, 9, 37, 32, 97, 32, 39, 99, 111, 109, 109, 101, 110, 116, 10, 32]⟩).size ≤ 60000
                  rw [← byt_len, byt_cat, byt_cat, List.length_append, List.length_append, byt_len, byt_len]
                  have : (byt ⟨#[13, 9, 37, 32, 97, 32, 39, 99, 111, 109, 109, 101, 110, 116, 10, 32]⟩).length = 16 := rfl
                  omega
                go_wp2
                go_roundw
                case rel => exact ⟨k + 1, _, by omega, by go_num, rfl, HN.out, HNS.out, HA4.out, HU4.out⟩
                case measure => simp [intOf]; omega
    · have hd3 : decide ((k : Int) < (l.length : Int)) = false := by simp; omega
      have ek : l.take k = l := List.take_of_length_le (by omega)
      have hTe := HTE.out
      rw [ek] at hTe
      obtain ⟨m, hm, hmm⟩ := Sc.tokens_back _ _ HTT.out (by rw [← hTe, byt_len]; omega)
      rw [← hTe] at hm
      have hml : m.length = l.length := by have := congrArg List.length hmm; simpa using this
      have HTM : Hid (∀ W, Upd [] w W → Calls Tryd.prog 6 #[.string T] W (TokPost W (.ok m))) := fun W hU => by rw [← hm]; exact Tokens_any T W (HG.out.mono hU)
      have HMM : Hid (m.map (fun t => (t.kind, t.text)) = l.map (fun t => (t.kind, t.text))) := hmm
      have HML : Hid (m.length = l.length) := hml
      clear ek hTe hm hmm hml
      go_wp2_with fail
      refine (HTM.out _ hU).mono ?_
      rintro e w4 ⟨hU4, a4, c4, rfl, hO4⟩
      have HU4 : Hid (Upd [] w w4) := hU.trans hU4
      have hA4 := hA.mono hU4
      have hB4 := OT.at hO4
      have HA4 : Hid (TokAt w4 a l) := hA4
      have HB4 : Hid (TokAt w4 a4 m) := hB4
      clear hA4 hB4 hO4 hU4 hU hA
      go_wp2_with fail
      refine (alike_eq a a4 c c4 l m _ HML.out _ (by omega) (HA4.out.mono ((Upd.refl [] w4).alloc _)) (HB4.out.mono ((Upd.refl [] w4).alloc _)) HMM.out).mono ?_
      rintro e w5 ⟨rfl, hU5⟩
      go_wp2
      go_ret
      exact ⟨rfl, (HU4.out.alloc _).trans hU5⟩

theorem ScanBack_any (s : ByteArray) (w : World) (hg : Glb w) (hs : s.size ≤ 140737488355328) :
    Calls Tryd.prog 3 #[.string s] w fun e w' => e = .returned (.bool true) ∧ Upd [] w w' := by
  by_cases h : 12000 < s.size
  · exact Back_long s w hg hs h
  · cases hT : Sc.tokens (byt s) with
    | fault x k =>
      have h1 := Sc.tokens_fault (byt s) x k (by rw [byt_len]; omega) hT
      rw [byt_len] at h1
      exact Back_fault s w hg (by omega) x k h1.1 h1.2 hT
    | ok l => exact Back_ok s w hg (by omega) l hT

end Go.Proofs.YtfejdflbilakoaaDoor
