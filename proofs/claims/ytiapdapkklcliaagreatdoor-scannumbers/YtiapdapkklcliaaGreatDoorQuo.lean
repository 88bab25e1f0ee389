/- readQuoted, by its contract. -/
import Derived.Test.YtiapdapkklcliaaGreatDoorEsc
import Derived.Test.YtiapdapkklcliaaGreatDoorOwn
namespace Go.Proofs.YtiapdapkklcliaaGreatDoor
open Go.RowKit

/-- What was read, and what follows. -/
def comb (D : List UInt8) (k : Nat) : Option (List UInt8 × Nat) → Option (List UInt8 × Nat)
  | none => none
  | some (t, n) => some (D ++ t, k + n)
theorem comb_nil (r : Option (List UInt8 × Nat)) : comb [] 0 r = r := by
  cases r with
  | none => rfl
  | some p => cases p; simp [comb]
theorem comb_comb (D : List UInt8) (k : Nat) (b : UInt8) (n : Nat) (r : Option (List UInt8 × Nat)) : comb D k (comb [b] n r) = comb (D ++ [b]) (k + n) r := by
  cases r with
  | none => rfl
  | some p => cases p; simp [comb]; omega
theorem quoted_hit (q : UInt8) (l : List UInt8) (h : 0 < l.length) (hq : l[0] = q) : Sc.quoted q l = some ([], 1) := by
  cases l with
  | nil => simp at h
  | cons c r => rw [Sc.quoted.eq_def]; simp only [List.getElem_cons_zero] at hq; simp [hq]
theorem quoted_bad (q : UInt8) (l : List UInt8) (h : 0 < l.length) (hq : l[0] ≠ q) (hn : (Sc.inside l).2 = 0) : Sc.quoted q l = none := by
  cases l with
  | nil => simp at h
  | cons c r => rw [Sc.quoted.eq_def]; simp only [List.getElem_cons_zero] at hq; simp [hq, hn]
theorem quoted_more (q : UInt8) (l : List UInt8) (h : 0 < l.length) (hq : l[0] ≠ q) (hn : (Sc.inside l).2 ≠ 0) : Sc.quoted q l = comb [(Sc.inside l).1] (Sc.inside l).2 (Sc.quoted q (l.drop (Sc.inside l).2)) := by
  cases l with
  | nil => simp at h
  | cons c r =>
    rw [Sc.quoted.eq_def]
    simp only [List.getElem_cons_zero] at hq
    have : 0 < (Sc.inside (c :: r)).2 := by omega
    simp only [hq, if_false, this, dif_pos]
    cases Sc.quoted q ((c :: r).drop (Sc.inside (c :: r)).2) with
    | none => rfl
    | some p => rfl

set_option maxHeartbeats 2000000 in
set_option maxRecDepth 100000 in
theorem readQuoted_any (s : ByteArray) (K M : Nat) (w : World) (hs : s.size ≤ 1000000000) (h1 : 0 < s.size) (_hM : M ≤ 1000000) (hg : Glb w) :
    Calls Tryz.prog 42 #[.string s, .int .u8 K, .int .i64 M] w fun e w' => e = .returned (.agg (fdC (Sc.readQuoted (byt s) K M))) ∧ Upd [] w w' := by
  obtain ⟨i0, hi, hz0, hz1, hz2⟩ := info_parts info_u8
  have e0 : Sc.readQuoted (byt s) K M = match Sc.quoted s[0] ((byt s).drop 1) with | none => .bad 201 | some (t, k) => if M < t.length then .bad 201 else .tok K t (k + 1) := by
    unfold Sc.readQuoted; rw [head_byt s h1, List.drop_one]
    rfl
  obtain ⟨q, hq⟩ : ∃ q, q = s[0] := ⟨_, rfl⟩
  rw [← hq] at e0
  have HQ : Hid (q = s[0]) := hq
  have HE : Hid (Sc.readQuoted (byt s) K M = match Sc.quoted q ((byt s).drop 1) with | none => .bad 201 | some (t, k) => if M < t.length then .bad 201 else .tok K t (k + 1)) := e0
  have HG : Hid (Glb w) := hg
  clear e0 hg hq
  have i00 : (0 : Int) < (s.size : Int) := by omega
  go_enter Tryz.func42, Tryz.ntmps42
  go_wp2_with fail
  go_loopw [7, 8, 9, 10] (fun v i _ _ wr => ∃ (k : Nat) (D : List UInt8) (a : Option Addr) (c : Nat), 1 ≤ k ∧ k ≤ s.size ∧ i = .int .i64 k ∧ v = .slice a D.length c ∧ D.length ≤ k ∧ OB wr (w.heap.size + 1) v D ∧ Blk wr w.heap.size #[.int .u8 0, .string ⟨#[]⟩, .int .i64 0, .int .i64 0] 49 ∧ Upd [] w wr ∧
      Sc.quoted q ((byt s).drop 1) = comb D (k - 1) (Sc.quoted q ((byt s).drop k))) (fun _ i _ _ _ => s.size - (intOf i).toNat)
  case atStart => exact ⟨1, [], none, 0, by omega, by omega, rfl, rfl, by simp, Own.nil _ _ _ _, Blk.new w _ _, (Upd.refl [] w).alloc _, by rw [Nat.sub_self, comb_nil]⟩
  case round =>
    obtain ⟨k, D, a, c, hk1, hk2, rfl, rfl, hDk, hOB, hB, hU, hr⟩ := hrel
    have HR : Hid (Sc.quoted q ((byt s).drop 1) = comb D (k - 1) (Sc.quoted q ((byt s).drop k))) := hr
    clear hr
    by_cases hlt : k < s.size
    · have i1 : (k : Int) < (s.size : Int) := by omega
      have hne : 0 < ((byt s).drop k).length := by rw [List.length_drop, byt_len]; omega
      have hget : ((byt s).drop k)[0]'hne = s[k]'hlt := by rw [← byt_get s k hlt]; simp
      by_cases hqk : s[k]'hlt = q
      · have hb : (((s[k]'hlt).toNat : Int) != ((s[0]'h1).toNat : Int)) = false := by rw [← HQ.out, hqk]; simp
        have hk3 : ((k : Int) == (s.size : Int)) = false := by simp; omega
        have hh := quoted_hit q _ hne (hget.trans hqk)
        have HT : Hid (Sc.quoted q ((byt s).drop 1) = some (D, k)) := by
          show Sc.quoted q ((byt s).drop 1) = some (D, k)
          rw [HR.out, hh]; simp [comb]; omega
        have e := HE.out
        rw [HT.out] at e
        simp only at e
        clear hh hget hne hqk HE HR HT
        by_cases hl : M < D.length
        · rw [if_pos hl] at e
          have HE : Hid (Sc.readQuoted (byt s) K M = _) := e
          clear e
          have hd : (M : Int) < (D.length : Int) := by omega
          go_wp2
          go_quiet (fail)
          have hB2 : Blk (wr.drewN nq) w.heap.size _ 49 := hB
          go_wp2_with (refine store_S _ rfl 49 _ _ rfl _ _ _ rfl rfl hB2 info_fd rfl (by simp [Value.oneCell']) ?_; intro w3 hB3 hU3)
          rw [HE.out]
          exact ret_S Tryz.results42 rfl _ _ rfl hB3 Tryz.underlying49 info_fd ⟨rfl, (hU.drewN nq).then hU3 (by simp)⟩
        · rw [if_neg hl] at e
          have HE : Hid (Sc.readQuoted (byt s) K M = _) := e
          clear e
          have hd : decide ((M : Int) < (D.length : Int)) = false := by simp; omega
          have hcv : ∀ nq, (convert 37 9 (.slice a D.length c)).run Tryz.prog (wr.drewN nq) = .ok (.string (str D)) (wr.drewN nq) := fun nq => OB.conv (w := wr.drewN nq) hOB
          go_wp2
          go_quiet (fail)
          have hB2 : Blk (wr.drewN nq) w.heap.size _ 49 := hB
          go_wp2_with (refine store_S _ rfl 49 _ _ rfl _ _ _ rfl rfl hB2 info_fd rfl (by simp [Value.oneCell']) ?_; intro w3 hB3 hU3)
          rw [HE.out]
          exact ret_S Tryz.results42 rfl _ _ rfl hB3 Tryz.underlying49 info_fd ⟨rfl, (hU.drewN nq).then hU3 (by simp)⟩
      · have hb : (((s[k]'hlt).toNat : Int) != ((s[0]'h1).toNat : Int)) = true := by
          rw [← HQ.out]
          simp only [bne_iff_ne, ne_eq]
          intro h
          exact hqk (UInt8.toNat_inj.1 (by omega))
        obtain ⟨B, hBB⟩ : ∃ B, B = Sc.inside ((byt s).drop k) := ⟨_, rfl⟩
        have HI : Hid (∀ W, Upd [] w W → Calls Tryz.prog 82 #[.string (s.extract k s.size)] W fun e w' => e = .returned (.tuple #[.int .u8 B.1.toNat, .int .i64 B.2]) ∧ Upd [] W w') := fun W hW => by
          rw [hBB, ← byt_from]
          exact readInside_any _ W (by rw [size_from]; omega) (by rw [size_from]; omega) (HG.out.mono hW)
        have hle : B.2 ≤ s.size - k := by rw [hBB, ← byt_len, ← List.length_drop]; exact Sc.inside_le _
        have HBad : Hid (B.2 = 0 → Sc.quoted q ((byt s).drop k) = none) := fun h => quoted_bad q _ hne (by rw [hget]; exact hqk) (by rw [← hBB]; exact h)
        have HMore : Hid (B.2 ≠ 0 → Sc.quoted q ((byt s).drop k) = comb [B.1] B.2 (Sc.quoted q ((byt s).drop (k + B.2)))) := fun h => by
          have := quoted_more q _ hne (by rw [hget]; exact hqk) (by rw [← hBB]; exact h)
          rw [← hBB, List.drop_drop] at this
          exact this
        clear hBB hget hne hqk
        obtain ⟨bb, bn⟩ := B
        simp only at HI hle HBad HMore
        go_wp2
        go_quiet (fail)
        go_wp2_with fail
        refine (HI.out _ (hU.drewN nq)).mono ?_
        rintro e w2 ⟨rfl, hU2⟩
        have hB2 : Blk w2 w.heap.size _ 49 := Blk.mono (w := wr.drewN nq) hB hU2 (by simp)
        have hOB2 : OB w2 (w.heap.size + 1) (.slice a D.length c) D := Own.upd (w := wr.drewN nq) hOB hU2 (by simp)
        have hU02 : Upd [] w w2 := (hU.drewN nq).trans hU2
        clear hB hOB hU hU2 HI
        by_cases hn0 : bn = 0
        · have HT : Hid (Sc.readQuoted (byt s) K M = .bad 201) := by
            show Sc.readQuoted (byt s) K M = .bad 201
            rw [HE.out, HR.out, HBad.out hn0]
            rfl
          have hz : ((bn : Int) == 0) = true := by simp; omega
          clear HE HR HBad HMore hn0
          go_wp2_with (refine store_S _ rfl 49 _ _ rfl _ _ _ rfl rfl hB2 info_fd rfl (by simp [Value.oneCell']) ?_; intro w3 hB3 hU3)
          rw [HT.out]
          exact ret_S Tryz.results42 rfl _ _ rfl hB3 Tryz.underlying49 info_fd ⟨rfl, hU02.then hU3 (by simp)⟩
        · have hz : ((bn : Int) == 0) = false := by simp; omega
          have hm := HMore.out hn0
          have HN : Hid (Sc.quoted q ((byt s).drop 1) = comb (D ++ [bb]) (k + bn - 1) (Sc.quoted q ((byt s).drop (k + bn)))) := by
            show Sc.quoted q ((byt s).drop 1) = comb (D ++ [bb]) (k + bn - 1) (Sc.quoted q ((byt s).drop (k + bn)))
            rw [HR.out, hm, comb_comb]; congr 1; omega
          have hsz := hU02.size
          have hlt2 := hB2.lt
          have hown : w2.ownsRow (w.heap.size + 1) 5 1 _ D.length (u8s D) := hOB2
          clear HBad HMore HR hm
          go_wp2_with (at_builtin; refine wpList_append_own _ rfl _ _ 37 rfl (w.heap.size + 1) 5 i0 (.int .u8 0) 1 1 Tryz.underlying37 hi hz0 hz1 hz2 rfl (by decide) _ _ _ rfl (hown.alloc _) ⟨w2.heap.size, 0, none⟩ 1 1 [.int .u8 bb.toNat] rfl rfl (cell_one_new _ _ _) (by intro u hu; simp at hu; subst hu; rfl) (by unfold maxLen; omega) (by omega) (by simp; omega) ?_; intro v' w3 hown' hgrow _)
          have hO3 : OB w3 (w.heap.size + 1) v' (D ++ [bb]) := OB.snoc hown'
          have hB3 := Own.blk hOB2 _ hgrow hB2 (by omega)
          have hU3 := Own.grown hOB2 hU02 _ hgrow (by omega)
          obtain ⟨a3, c3, hv3, _⟩ := Own.form hO3
          go_roundw
          case rel => exact ⟨k + bn, D ++ [bb], a3, c3, by omega, by omega, by go_num, hv3, by simp; omega, hO3, hB3, hU3, HN.out⟩
          case measure => simp [intOf]; omega
    · have hk3 : ((k : Int) == (s.size : Int)) = true := by simp; omega
      have hd : decide ((k : Int) < (s.size : Int)) = false := by simp; omega
      have HT : Hid (Sc.readQuoted (byt s) K M = .bad 201) := by
        show Sc.readQuoted (byt s) K M = .bad 201
        rw [HE.out, HR.out, List.drop_of_length_le (by rw [byt_len]; omega), Sc.quoted.eq_def]
        rfl
      clear HE HR
      go_wp2
      go_quiet (fail)
      have hB2 : Blk (wr.drewN nq) w.heap.size _ 49 := hB
      go_wp2_with (refine store_S _ rfl 49 _ _ rfl _ _ _ rfl rfl hB2 info_fd rfl (by simp [Value.oneCell']) ?_; intro w3 hB3 hU3)
      rw [HT.out]
      exact ret_S Tryz.results42 rfl _ _ rfl hB3 Tryz.underlying49 info_fd ⟨rfl, (hU.drewN nq).then hU3 (by simp)⟩

end Go.Proofs.YtiapdapkklcliaaGreatDoor
