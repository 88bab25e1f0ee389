/- The reference's Tokens, by its contract. -/
import Derived.Test.YtiapdapkklcliaaGreatDoorRfG
import Derived.Test.YtiapdapkklcliaaGreatDoorSamK
namespace Go.Proofs.YtiapdapkklcliaaGreatDoor
open Go.RowKit

theorem news2 (w : World) (g : Nat) (cs : Array Value) (T : TypeId) (hg : g = w.heap.size) (news : List Value) (hn : news = cs.toList) : ∀ j u, news[j]? = some u → (w.alloc (.cells cs T)).cell? ((⟨g, 0, none⟩ : Addr).add j) = some u := by
  subst hg hn
  exact World.news_of_block (heap_alloc_new _ _)
theorem pre_G (l : List Sc.Tok) (t : Sc.Tok) (T r : Sc.Told) (h : T = pre l (r.cons t)) : T = pre (l ++ [t]) r := by rw [h, pre_cons]

set_option maxHeartbeats 2000000 in
set_option maxRecDepth 100000 in
theorem rTokens_long (s : ByteArray) (w : World) (h : 65536 < s.size) : Calls Tryz.prog 7 #[.string s] w (TokPost w (Sc.tokens (byt s))) := by
  have e0 : Sc.tokens (byt s) = .fault 3 0 := by unfold Sc.tokens; rw [if_pos (by rw [byt_len]; exact h)]
  rw [e0]
  have hd : (65536 : Int) < (s.size : Int) := by omega
  go_enter Tryz.func7, Tryz.ntmps7
  go_wp2
  exact ret_TS Tryz.results7 rfl _ _ _ rfl rfl (Blk.new w _ _) Tryz.underlying26 info_fault ⟨(Upd.refl [] w).alloc _, rfl⟩

set_option maxHeartbeats 4000000 in
set_option maxRecDepth 100000 in
theorem rTokens_short (s : ByteArray) (w : World) (h : s.size ≤ 65536) : Calls Tryz.prog 7 #[.string s] w (TokPost w (Sc.tokens (byt s))) := by
  obtain ⟨i0, hi, hz0, hz1, hz2⟩ := info_parts info_tok
  obtain ⟨T, hT⟩ : ∃ T, T = Sc.tokens (byt s) := ⟨_, rfl⟩
  have hT2 : T = Sc.toksG 0 ((byt s).drop 0) := by
    rw [hT]; unfold Sc.tokens; rw [if_neg (by rw [byt_len]; omega)]; rfl
  rw [← hT]
  have HT : Hid (T = Sc.toksG 0 ((byt s).drop 0)) := hT2
  have hd : decide ((65536 : Int) < (s.size : Int)) = false := by simp; omega
  clear hT hT2
  go_enter Tryz.func7, Tryz.ntmps7
  go_wp2_with fail
  go_loopw [4, 5, 6, 7, 8] (fun v i _ _ _ wr => ∃ (k : Nat) (l : List Sc.Tok) (a : Option Addr) (c : Nat), k ≤ s.size ∧ l.length ≤ k ∧ i = .int .i64 k ∧ v = .slice a l.length c ∧ OT wr (w.heap.size + 1) v l ∧ Blk wr w.heap.size #[.int .i64 0, .int .i64 0] 26 ∧ Upd [] w wr ∧
      T = pre l (Sc.toksG k ((byt s).drop k))) (fun _ i _ _ _ _ => s.size - (intOf i).toNat)
  case atStart => exact ⟨0, [], none, 0, Nat.zero_le _, Nat.le_refl _, rfl, rfl, Own.nil _ _ _ _, Blk.new w _ _, (Upd.refl [] w).alloc _, by rw [pre_nil]; exact HT.out⟩
  case round =>
    obtain ⟨k, l, a, c, hk, hlk, rfl, rfl, hO, hB, hU, hr⟩ := hrel
    have HR : Hid (T = pre l (Sc.toksG k ((byt s).drop k))) := hr
    clear hr HT
    by_cases hlt : k < s.size
    · have i1 : (k : Int) < (s.size : Int) := by omega
      have hdr := drop_here s k hlt
      cases hbl : Sc.isBlank (s[k]'hlt) with
      | true =>
        have HN : Hid (T = pre l (Sc.toksG (k + 1) ((byt s).drop (k + 1)))) := by
          show _ = _
          rw [HR.out, hdr, Sc.toksG_blank _ _ _ hbl]
        clear HR hdr
        go_wp2_with (go_at_call 22; refine (rblank_any _ _).mono ?_; rintro e w' ⟨rfl, hw'⟩; rw [hw', hbl]; clear hw')
        go_roundw
        case rel => exact ⟨k + 1, l, a, c, by omega, by omega, by go_num, rfl, hO, hB, hU, HN.out⟩
        case measure => simp [intOf]; omega
      | false =>
        by_cases h37 : s[k]'hlt = 37
        · have q37 : (((s[k]'hlt).toNat : Int) == 37) = true := by rw [h37]; rfl
          have HQ : Hid (T = pre l (Sc.toksQ k ((byt s).drop k))) := by
            show _ = _
            rw [HR.out, hdr, h37, Sc.toksG_comment]
          have HO : Hid (OT wr (w.heap.size + 1) (.slice a l.length c) l) := hO
          have HB : Hid (Blk wr w.heap.size #[.int .i64 0, .int .i64 0] 26) := hB
          have HU : Hid (Upd [] w wr) := hU
          have HK : Hid (s[k]'hlt ≠ 10) := by show _ ≠ _; rw [h37]; decide
          clear HR hdr h37 hO hB hU
          go_wp2_with (go_at_call 22; refine (rblank_any _ _).mono ?_; rintro e w' ⟨rfl, hw'⟩; rw [hw', hbl]; clear hw')
          go_loopw [5] (fun i wq => ∃ m : Nat, k ≤ m ∧ m ≤ s.size ∧ i = .int .i64 m ∧ wq = wr ∧ T = pre l (Sc.toksQ m ((byt s).drop m))) (fun i _ => s.size - (intOf i).toNat)
          case atStart => exact ⟨k, by omega, by omega, rfl, rfl, HQ.out⟩
          case round =>
            obtain ⟨m, hm1, hm2, rfl, rfl, hq⟩ := hrel
            have HQ2 : Hid (T = pre l (Sc.toksQ m ((byt s).drop m))) := hq
            clear hq HQ
            by_cases hm : m < s.size
            · have i2 : (m : Int) < (s.size : Int) := by omega
              by_cases h10 : s[m]'hm = 10
              · have q10 : (((s[m]'hm).toNat : Int) == 10) = true := by rw [h10]; rfl
                have hmk : k < m := by
                  by_cases e : m = k
                  · subst e; exact absurd h10 HK.out
                  · omega
                have HN : Hid (T = pre l (Sc.toksG m ((byt s).drop m))) := by
                  show _ = _
                  rw [HQ2.out, drop_here s m hm, h10, Sc.toksQ_end]
                clear HQ2 h10
                go_wp2
                go_roundw
                case rel => exact ⟨m, l, a, c, by omega, by omega, rfl, rfl, HO.out, HB.out, HU.out, HN.out⟩
                case measure => simp [intOf]; omega
              · have q10 : (((s[m]'hm).toNat : Int) == 10) = false := u8_ne _ 10 h10
                have HN : Hid (T = pre l (Sc.toksQ (m + 1) ((byt s).drop (m + 1)))) := by
                  show _ = _
                  rw [HQ2.out, drop_here s m hm, Sc.toksQ_more _ _ _ h10]
                clear HQ2 h10
                go_wp2
                go_roundw
                case rel => exact ⟨m + 1, by omega, by omega, by go_num, by first | trivial | rfl, HN.out⟩
                case measure => simp [intOf]; omega
            · have i2 : decide ((m : Int) < (s.size : Int)) = false := by simp; omega
              have HN : Hid (T = pre l (Sc.toksG m ((byt s).drop m))) := by
                show _ = _
                rw [HQ2.out, List.drop_of_length_le (by rw [byt_len]; omega), Sc.toksQ_nil]
              clear HQ2
              go_wp2
              go_roundw
              case rel => exact ⟨m, l, a, c, by omega, by omega, rfl, rfl, HO.out, HB.out, HU.out, HN.out⟩
              case measure => simp [intOf]; omega
        · have q37 : (((s[k]'hlt).toNat : Int) == 37) = false := u8_ne _ 37 h37
          obtain ⟨F, hF⟩ : ∃ F, F = Sc.read ((byt s).drop k) := ⟨_, rfl⟩
          have HRd : Hid (∀ W, Calls Tryz.prog 23 #[.string s, .int .i64 k] W fun e w' => e = .returned (tokR k F) ∧ Upd [] W w') := fun W => by
            rw [hF]; exact rtoken_any s k W (by omega) hlt
          have hF2 := hF
          rw [hdr] at hF2
          cases F with
          | bad x =>
            have hx := Sc.read_err _ (by simp) x hF2.symm
            have HE : Hid (T = .fault x k) := by
              show T = .fault x k
              rw [HR.out, hdr, Sc.toksG_bad _ _ _ hbl h37 x hF2.symm]; rfl
            have hx0 : ((x : Int) == 0) = false := by rw [Bool.eq_false_iff]; intro h; rw [beq_iff_eq] at h; omega
            have hx1 : ((x : Int) != 0) = true := by simp; omega
            simp only [tokR] at HRd
            clear hF hF2 HR hdr h37
            go_wp2_with (first | (go_at_call 22; refine (rblank_any _ _).mono ?_; rintro e w' ⟨rfl, hw'⟩; rw [hw', hbl]; clear hw') | fail)
            refine (HRd.out _).mono ?_
            rintro e w2 ⟨rfl, hU2⟩
            have hB2 := (hB.mono hU2 (by simp)).mono ((Upd.refl [] w2).alloc (.cells #[.int .u8 0, .string ⟨#[]⟩, .int .i64 0] 43)) (by simp)
            have hU02 := (hU.trans hU2).alloc (.cells #[.int .u8 0, .string ⟨#[]⟩, .int .i64 0] 43)
            go_wp2_with (refine store_S _ rfl 26 _ _ rfl w.heap.size #[.int .i64 x, .int .i64 k] _ rfl rfl hB2 info_fault rfl (by simp [Value.oneCell']) ?_; intro w4 hB4 hU4)
            rw [HE.out]
            exact ret_TS Tryz.results7 rfl _ _ _ rfl rfl hB4 Tryz.underlying26 info_fault (TokPost.fault (hU02.then hU4 (by simp)))
          | tok kd t n =>
            have hsz := Sc.read_size _ _ _ _ hF.symm
            rw [List.length_drop, byt_len] at hsz
            have HN : Hid (T = pre (l ++ [⟨kd, t, k⟩]) (Sc.toksG (k + n) ((byt s).drop (k + n)))) := by
              refine pre_G _ _ _ _ ?_
              rw [HR.out, hdr, Sc.toksG_tok _ _ _ hbl h37 kd n t hF2.symm, ← hdr, List.drop_drop]
            simp only [tokR] at HRd
            obtain ⟨en, hen⟩ : ∃ en : Nat, en = k + n := ⟨_, rfl⟩
            rw [← hen] at HRd HN
            have hen1 : k < en := by omega
            have hen2 : en ≤ s.size := by omega
            clear hF hF2 HR hdr h37 hen
            go_wp2_with (first | (go_at_call 22; refine (rblank_any _ _).mono ?_; rintro e w' ⟨rfl, hw'⟩; rw [hw', hbl]; clear hw') | fail)
            refine (HRd.out _).mono ?_
            rintro e w2 ⟨rfl, hU2⟩
            have hB2 := hB.mono hU2 (by simp)
            have hO2 : OT w2 (w.heap.size + 1) (.slice a l.length c) l := Own.upd hO hU2 (by simp)
            have hU02 := hU.trans hU2
            obtain ⟨W, hW⟩ : ∃ W, W = w2.alloc (.cells #[.int .u8 kd, .string (str t), .int .i64 k] 43) := ⟨_, rfl⟩
            have hC : Blk W w2.heap.size #[.int .u8 kd, .string (str t), .int .i64 k] 43 := by rw [hW]; exact Blk.new _ _ _
            have hBW : Blk W w.heap.size #[.int .i64 0, .int .i64 0] 26 := by rw [hW]; exact hB2.mono ((Upd.refl [] w2).alloc _) (by simp)
            have hOW : OT W (w.heap.size + 1) (.slice a l.length c) l := by rw [hW]; exact Own.upd hO2 ((Upd.refl [] w2).alloc _) (by simp)
            have hUW : Upd [] w W := by rw [hW]; exact hU02.alloc _
            have hsW : W.heap.size = w2.heap.size + 1 := by rw [hW]; simp
            have hown : W.ownsRow (w.heap.size + 1) 43 3 _ l.length (toksC l) := hOW
            have hlo := hB2.lt
            have HW : Hid (W = w2.alloc (.cells #[.int .u8 kd, .string (str t), .int .i64 k] 43)) := hW
            rw [hW] at hC hown
            have HOW : Hid (OT W (w.heap.size + 1) (.slice a l.length c) l) := hOW
            have HBW : Hid (Blk W w.heap.size #[.int .i64 0, .int .i64 0] 26) := hBW
            have HUW : Hid (Upd [] w W) := hUW
            have HSW : Hid (W.heap.size = w2.heap.size + 1) := hsW
            clear hW hsW hBW hOW hUW hO2 hB2 hU02 hU2 hO hB hU HRd
            go_wp2_with (first
              | (refine wpList_load_row rfl 43 _ rfl w2.heap.size rfl 43 _ (0, 0) _ hC Tryz.underlying43 rfl info_tok3 ?_)
              | (at_builtin; refine wpList_append_own _ rfl _ _ 23 rfl (w.heap.size + 1) 43 i0 _ 3 32 Tryz.underlying23 hi hz0 hz1 hz2 rfl (by decide) (.slice a l.length c) _ _ rfl (hown.alloc _) ⟨w2.heap.size + 1, 0, none⟩ 1 1 [.int .u8 kd, .string (str t), .int .i64 k] rfl rfl (news2 _ _ _ _ (by simp) _ rfl) (by intro u hu; simp at hu; rcases hu with rfl | rfl | rfl <;> rfl) (by unfold maxLen; omega) (by omega) (by simp; omega) ?_; intro v' w3 hown' hgrow _; rw [← HW.out] at hgrow; have hB3 := Own.blk HOW.out _ hgrow HBW.out (by omega); have HU3 : Hid (Upd [] w w3) := Own.grown HOW.out HUW.out _ hgrow (by omega); clear hgrow))
            have hO3 : OT w3 (w.heap.size + 1) v' (l ++ [⟨kd, t, k⟩]) := OT.snoc hown'
            obtain ⟨a3, c3, hv3, _⟩ := Own.form hO3
            go_roundw
            case rel => exact ⟨en, l ++ [⟨kd, t, k⟩], a3, c3, by omega, by simp; omega, rfl, hv3, hO3, hB3, HU3.out, HN.out⟩
            case measure => simp [intOf]; omega
    · have hd2 : decide ((k : Int) < (s.size : Int)) = false := by simp; omega
      have hkk : k = s.size := by omega
      have HE : Hid (T = .ok (l ++ [⟨8, [], s.size⟩])) := by
        show T = .ok (l ++ [⟨8, [], s.size⟩])
        rw [HR.out, List.drop_of_length_le (by rw [byt_len]; omega), Sc.toksG_nil, hkk]; rfl
      have hown : wr.ownsRow (w.heap.size + 1) 43 3 _ l.length (toksC l) := hO
      have hsw := hB.lt
      clear HR hkk
      have HE2 : Hid (OT wr (w.heap.size + 1) (.slice a l.length c) l) := hO
      have HB2 : Hid (Blk wr w.heap.size #[.int .i64 0, .int .i64 0] 26) := hB
      have HU2 : Hid (Upd [] w wr) := hU
      clear hO hB hU
      go_wp2_with (first
        | (at_builtin; refine wpList_append_own _ rfl _ _ 23 rfl (w.heap.size + 1) 43 i0 _ 3 32 Tryz.underlying23 hi hz0 hz1 hz2 rfl (by decide) (.slice a l.length c) _ _ rfl (hown.alloc _) ⟨wr.heap.size, 0, none⟩ 1 1 [.int .u8 8, .string ⟨#[]⟩, .int .i64 s.size] rfl rfl (World.news_of_block (heap_alloc_new _ _)) (by intro u hu; simp at hu; rcases hu with rfl | rfl | rfl <;> rfl) (by unfold maxLen; omega) (by omega) (by simp; omega) ?_; intro v' w3 hown' hgrow _; have hB3 := Own.blk HE2.out _ hgrow HB2.out (by omega); have HU3 : Hid (Upd [] w w3) := Own.grown HE2.out HU2.out _ hgrow (by omega); clear hgrow)
        | (refine store_S _ rfl 26 _ _ rfl _ _ _ rfl rfl hB3 info_fault rfl (by simp [Value.oneCell']) ?_; intro w4 hB4 hU4))
      have hO3 : OT w3 (w.heap.size + 1) v' (l ++ [⟨8, [], s.size⟩]) := OT.snoc hown'
      obtain ⟨a3, c3, hv3, _⟩ := Own.form hO3
      subst hv3
      rw [HE.out]
      exact ret_TS Tryz.results7 rfl _ _ _ rfl rfl hB4 Tryz.underlying26 info_fault ⟨HU3.out.then hU4 (by simp), a3, c3, rfl, Own.upd hO3 hU4 (by simp)⟩

theorem rTokens_any (s : ByteArray) (w : World) : Calls Tryz.prog 7 #[.string s] w (TokPost w (Sc.tokens (byt s))) := by
  by_cases h : 65536 < s.size
  · exact rTokens_long s w h
  · exact rTokens_short s w (by omega)

end Go.Proofs.YtiapdapkklcliaaGreatDoor
