/- The reference's quoted, by its contract. -/
import Derived.Test.YtiapdapkklcliaaGreatDoorRfA
import Derived.Test.YtiapdapkklcliaaGreatDoorQuo
namespace Go.Proofs.YtiapdapkklcliaaGreatDoor
open Go.RowKit

/-- What the document tells of what stands between quotes. -/
def quoR (pl : Nat) : Option (List UInt8 × Nat) → Value
  | none => .tuple #[.string ⟨#[]⟩, .int .i64 0, .bool false]
  | some (t, k) => .tuple #[.string (str t), .int .i64 ((pl + 1 + k : Nat) : Int), .bool true]
theorem esc_two (l : List UInt8) : (Sc.escape l).2 = 0 ∨ 2 ≤ (Sc.escape l).2 := by
  unfold Sc.escape
  split
  · exact Or.inl rfl
  · repeat' split
    all_goals first | exact Or.inl rfl | exact Or.inr (by omega)
theorem inside_here (l : List UInt8) (c : UInt8) (r : List UInt8) (h : l = c :: r) : Sc.inside l = if c < 32 then (0, 0) else if c = 92 then Sc.escape r else (c, 1) := by rw [h]; rfl
theorem drop_here (s : ByteArray) (k : Nat) (h : k < s.size) : (byt s).drop k = s[k] :: (byt s).drop (k + 1) := by
  rw [List.drop_eq_getElem_cons (by rw [byt_len]; exact h)]
  rfl

set_option maxHeartbeats 4000000 in
set_option maxRecDepth 100000 in
theorem rquo_any (s : ByteArray) (pl : Nat) (w : World) (hs : s.size ≤ 1000000000) (hp : pl < s.size) :
    Calls Tryz.prog 50 #[.string s, .int .i64 pl] w fun e w' => e = .returned (quoR pl (Sc.quoted s[pl] ((byt s).drop (pl + 1)))) ∧ Upd [] w w' := by
  obtain ⟨i0, hi, hz0, hz1, hz2⟩ := info_parts info_u8
  obtain ⟨q, hq⟩ : ∃ q, q = s[pl] := ⟨_, rfl⟩
  rw [← hq]
  obtain ⟨R, hR⟩ : ∃ R, R = Sc.quoted q ((byt s).drop (pl + 1)) := ⟨_, rfl⟩
  rw [← hR]
  have HQ : Hid (q = s[pl]) := hq
  have HRR : Hid (R = Sc.quoted q ((byt s).drop (pl + 1))) := hR
  clear hq hR
  have i00 : (pl : Int) < (s.size : Int) := by omega
  go_enter Tryz.func50, Tryz.ntmps50
  go_wp2_with fail
  go_loopw [7, 8, 9, 10, 11] (fun v i _ _ _ wr => ∃ (k : Nat) (D : List UInt8) (a : Option Addr) (c : Nat), pl + 1 ≤ k ∧ k ≤ s.size ∧ i = .int .i64 k ∧ v = .slice a D.length c ∧ D.length ≤ k ∧ OB wr w.heap.size v D ∧ Upd [] w wr ∧
      R = comb D (k - (pl + 1)) (Sc.quoted q ((byt s).drop k))) (fun _ i _ _ _ _ => s.size - (intOf i).toNat)
  case atStart => exact ⟨pl + 1, [], none, 0, by omega, by omega, by go_num, rfl, by simp, Own.nil _ _ _ _, Upd.refl [] w, by rw [Nat.sub_self, comb_nil]; exact HRR.out⟩
  case round =>
    obtain ⟨k, D, a, c, hk1, hk2, rfl, rfl, hDk, hOB, hU, hr⟩ := hrel
    have HR : Hid (R = comb D (k - (pl + 1)) (Sc.quoted q ((byt s).drop k))) := hr
    clear hr HRR
    by_cases hlt : k < s.size
    · have i1 : (k : Int) < (s.size : Int) := by omega
      have hne : 0 < ((byt s).drop k).length := by rw [List.length_drop, byt_len]; omega
      have hget : ((byt s).drop k)[0]'hne = s[k]'hlt := by rw [← byt_get s k hlt]; simp
      by_cases hqk : s[k]'hlt = q
      · have hb : (((s[k]'hlt).toNat : Int) == ((s[pl]'hp).toNat : Int)) = true := by rw [← HQ.out, hqk]; simp
        have hh := quoted_hit q _ hne (hget.trans hqk)
        have HT : Hid (R = some (D, k - pl)) := by
          show R = some (D, k - pl)
          rw [HR.out, hh]; simp [comb]; omega
        have hcv : (convert 37 9 (.slice a D.length c)).run Tryz.prog wr = .ok (.string (str D)) wr := OB.conv hOB
        clear hh hget hne hqk HR
        go_wp2
        (try simp only [Exit.inBlock, Exit.then]); refine bodyPost_ret (results_tmp3 rfl _ _ _) rfl ?_
        rw [HT.out]
        refine ⟨?_, hU⟩
        show Ending.returned _ = .returned (.tuple #[.string (str D), .int .i64 ((pl + 1 + (k - pl) : Nat) : Int), .bool true])
        rw [show pl + 1 + (k - pl) = k + 1 by omega]
        go_num
      · have hb : (((s[k]'hlt).toNat : Int) == ((s[pl]'hp).toNat : Int)) = false := by
          rw [← HQ.out, Bool.eq_false_iff]
          intro h
          rw [beq_iff_eq] at h
          exact hqk ((u8_eq _ _).2 h)
        have hin := inside_here _ _ _ (drop_here s k hlt)
        by_cases h32 : s[k]'hlt < 32
        · have hd : ((s[k]'hlt).toNat : Int) < 32 := by have := UInt8.lt_iff_toNat_lt.1 h32; simp at this; omega
          rw [if_pos h32] at hin
          have HT : Hid (R = none) := by
            show R = none
            rw [HR.out, quoted_bad q _ hne (by rw [hget]; exact hqk) (by rw [hin])]
            rfl
          clear hin h32 hget hne hqk HR
          go_wp2
          (try simp only [Exit.inBlock, Exit.then]); refine bodyPost_ret (results_tmp3 rfl _ _ _) rfl ?_
          rw [HT.out]
          exact ⟨rfl, hU⟩
        · have hd : decide (((s[k]'hlt).toNat : Int) < 32) = false := by rw [UInt8.lt_iff_toNat_lt] at h32; simp at h32 ⊢; omega
          rw [if_neg h32] at hin
          have hkk : wrap64 ((k : Int) + 1) = ((k + 1 : Nat) : Int) := by unfold wrap64; omega
          by_cases h92 : s[k]'hlt = 92
          · have hq9 : (((s[k]'hlt).toNat : Int) == 92) = true := by rw [h92]; rfl
            rw [if_pos h92] at hin
            obtain ⟨B, hBB⟩ : ∃ B, B = Sc.escape ((byt s).drop (k + 1)) := ⟨_, rfl⟩
            rw [← hBB] at hin
            have h2 := esc_two ((byt s).drop (k + 1))
            rw [← hBB] at h2
            have hle := Sc.inside_le ((byt s).drop k)
            rw [hin, List.length_drop, byt_len] at hle
            have HI : Hid (∀ W, Calls Tryz.prog 84 #[.string (s.extract (k + 1) s.size)] W fun e w' => e = .returned (.tuple #[.int .u8 B.1.toNat, .int .i64 ((B.2 - 1 : Nat) : Int)]) ∧ Upd [] W w') := fun W => by
              have h := resc_any (s.extract (k + 1) s.size) W (by rw [size_from]; omega)
              rw [byt_from] at h
              unfold escR at h
              rw [← hBB] at h
              exact h
            have HBad : Hid (B.2 = 0 → R = none) := fun h => by
              rw [HR.out, quoted_bad q _ hne (by rw [hget]; exact hqk) (by rw [hin]; exact h)]; rfl
            have HMore : Hid (B.2 ≠ 0 → R = comb (D ++ [B.1]) (k + B.2 - (pl + 1)) (Sc.quoted q ((byt s).drop (k + B.2)))) := fun h => by
              have := quoted_more q _ hne (by rw [hget]; exact hqk) (by rw [hin]; exact h)
              rw [hin, List.drop_drop] at this
              rw [HR.out, this, comb_comb]; congr 1; omega
            clear hBB hget hne hqk hin h32 h92 HR
            obtain ⟨bb, bn⟩ := B
            simp only at HI hle HBad HMore h2
            have HOB : Hid (OB wr w.heap.size (.slice a D.length c) D) := hOB
            have HU : Hid (Upd [] w wr) := hU
            clear hOB hU
            go_wp2_with fail
            refine (HI.out _).mono ?_
            rintro e w2 ⟨rfl, hU2⟩
            have hOB2 : OB w2 w.heap.size (.slice a D.length c) D := Own.upd HOB.out hU2 (by simp)
            have hU02 : Upd [] w w2 := HU.out.trans hU2
            clear hU2 HI HOB HU
            by_cases hn0 : bn = 0
            · have HT := HBad.out hn0
              have HT2 : Hid (R = none) := HT
              subst hn0
              clear HT HBad HMore h2
              go_wp2
              (try simp only [Exit.inBlock, Exit.then]); refine bodyPost_ret (results_tmp3 rfl _ _ _) rfl ?_
              rw [HT2.out]
              exact ⟨rfl, hU02⟩
            · have hz : (((bn - 1 : Nat) : Int) == 0) = false := by rw [Bool.eq_false_iff]; intro h; rw [beq_iff_eq] at h; omega
              have HN : Hid (R = comb (D ++ [bb]) (k + bn - (pl + 1)) (Sc.quoted q ((byt s).drop (k + bn)))) := HMore.out hn0
              have hww : wrap64 (((k + 1 : Nat) : Int) + ((bn - 1 : Nat) : Int)) = ((k + bn : Nat) : Int) := by unfold wrap64; omega
              have hwi : IntKind.i64.wrap (((k + 1 : Nat) : Int) + ((bn - 1 : Nat) : Int)) = ((k + bn : Nat) : Int) := by rw [IntKind.wrap_i64]; omega
              have hsz := hU02.size
              have hown : w2.ownsRow w.heap.size 5 1 _ D.length (u8s D) := hOB2
              have hbn : bn ≤ s.size - k := by omega
              clear HBad HMore h2
              go_wp2_with (at_builtin; refine wpList_append_own _ rfl _ _ 37 rfl w.heap.size 5 i0 (.int .u8 0) 1 1 Tryz.underlying37 hi hz0 hz1 hz2 rfl (by decide) _ _ _ rfl (hown.alloc _) ⟨w2.heap.size, 0, none⟩ 1 1 [.int .u8 bb.toNat] rfl rfl (cell_one_new _ _ _) (by intro u hu; simp at hu; subst hu; rfl) (by unfold maxLen; omega) (by omega) (by simp; omega) ?_; intro v' w3 hown' hgrow _)
              have hO3 : OB w3 w.heap.size v' (D ++ [bb]) := OB.snoc hown'
              have hU3 := Own.grown hOB2 hU02 _ hgrow (Nat.le_refl _)
              obtain ⟨a3, c3, hv3, _⟩ := Own.form hO3
              go_roundw
              case rel => exact ⟨k + bn, D ++ [bb], a3, c3, by omega, by omega, by first | rfl | (rw [hwi]) | (rw [hww]) | go_num, hv3, by simp; omega, hO3, hU3, HN.out⟩
              case measure => simp [intOf]; omega
          · have hq9 : (((s[k]'hlt).toNat : Int) == 92) = false := by
              rw [Bool.eq_false_iff]; intro h; rw [beq_iff_eq] at h; exact h92 ((u8_eq _ _).2 h)
            rw [if_neg h92] at hin
            obtain ⟨bb, hbb⟩ : ∃ bb, bb = s[k]'hlt := ⟨_, rfl⟩
            have HN : Hid (R = comb (D ++ [s[k]'hlt]) (k + 1 - (pl + 1)) (Sc.quoted q ((byt s).drop (k + 1)))) := by
              have := quoted_more q _ hne (by rw [hget]; exact hqk) (by rw [hin]; simp)
              rw [hin, List.drop_drop] at this
              show R = _
              rw [HR.out, this, comb_comb]; congr 1; omega
            have hsz := hU.size
            have hown : wr.ownsRow w.heap.size 5 1 _ D.length (u8s D) := hOB
            clear hget hne hqk hin h32 h92 HR hbb
            go_wp2_with (at_builtin; refine wpList_append_own _ rfl _ _ 37 rfl w.heap.size 5 i0 (.int .u8 0) 1 1 Tryz.underlying37 hi hz0 hz1 hz2 rfl (by decide) _ _ _ rfl (hown.alloc _) ⟨wr.heap.size, 0, none⟩ 1 1 [.int .u8 (s[k]'hlt).toNat] rfl rfl (cell_one_new _ _ _) (by intro u hu; simp at hu; subst hu; rfl) (by unfold maxLen; omega) (by omega) (by simp; omega) ?_; intro v' w3 hown' hgrow _)
            have hO3 : OB w3 w.heap.size v' (D ++ [s[k]'hlt]) := OB.snoc hown'
            have hU3 := Own.grown hOB hU _ hgrow (Nat.le_refl _)
            obtain ⟨a3, c3, hv3, _⟩ := Own.form hO3
            go_roundw
            case rel => exact ⟨k + 1, D ++ [s[k]'hlt], a3, c3, by omega, by omega, by go_num, hv3, by simp; omega, hO3, hU3, HN.out⟩
            case measure => simp [intOf]; omega
    · have hd : decide ((k : Int) < (s.size : Int)) = false := by simp; omega
      have HT : Hid (R = none) := by
        show R = none
        rw [HR.out, List.drop_of_length_le (by rw [byt_len]; omega), Sc.quoted.eq_def]
        rfl
      clear HR
      go_wp2
      (try simp only [Exit.inBlock, Exit.then]); refine bodyPost_ret (results_tmp3 rfl _ _ _) rfl ?_
      rw [HT.out]
      exact ⟨rfl, hU⟩

end Go.Proofs.YtiapdapkklcliaaGreatDoor
