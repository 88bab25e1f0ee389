/- The reference's token of signs; token, by its contract. -/
import Derived.Test.YtiapdapkklcliaaGreatDoorRfE
namespace Go.Proofs.YtiapdapkklcliaaGreatDoor
open Go.RowKit

theorem pre_take (g l : List UInt8) : g.isPrefixOf l = (decide (g.length ≤ l.length) && l.take g.length == g) := by
  rw [Bool.eq_iff_iff, List.isPrefixOf_iff_prefix, Bool.and_eq_true, decide_eq_true_eq, beq_iff_eq, List.prefix_iff_eq_take]
  constructor
  · intro h
    exact ⟨by rw [h, List.length_take]; omega, h.symm⟩
  · intro h
    exact h.2.symm

set_option maxHeartbeats 4000000 in
set_option maxRecDepth 100000 in
theorem rtok_sign (s : ByteArray) (pl : Nat) (w : World) (hs : s.size ≤ 1000000000) (hp : pl < s.size) (hlow : Sc.isLower s[pl] = false) (hhigh : Sc.high s[pl] = false) (hdig : Sc.isDigit s[pl] = false) (n39 : s[pl] ≠ 39) (n34 : s[pl] ≠ 34) (n46 : s[pl] ≠ 46) : TokR s pl w := by
  unfold TokR
  have e0 : Sc.read ((byt s).drop pl) = Sc.readSign ((byt s).drop pl) := by
    rw [drop_here s pl hp, read_cons, hlow, hhigh, hdig, if_neg (by simp), if_neg (by simp), if_neg n39, if_neg n34]
    have : (s[pl] == 46) = false := by simpa using n46
    rw [this, Bool.false_and, if_neg (by simp)]
  obtain ⟨R, hR⟩ : ∃ R, R = Sc.readSign ((byt s).drop pl) := ⟨_, rfl⟩
  rw [e0, ← hR]
  have HR : Hid (R = Sc.readSign ((byt s).drop pl)) := hR
  clear e0 hR
  have q39 : ((s[pl].toNat : Int) == 39) = false := u8_ne _ 39 n39
  have q34 : ((s[pl].toNat : Int) == 34) = false := u8_ne _ 34 n34
  have q46 : ((s[pl].toNat : Int) == 46) = false := u8_ne _ 46 n46
  clear n39 n34 n46
  have i00 : (pl : Int) < (s.size : Int) := by omega
  have HA : Hid (∀ W, Upd [] (w.alloc (.cells #[.int .u8 0, .string ⟨#[]⟩, .int .i64 0] 43)) W → Blk W w.heap.size #[.int .u8 0, .string ⟨#[]⟩, .int .i64 0] 43) := fun W hW => (Blk.new w _ _).mono hW (by simp)
  go_enter Tryz.func23, Tryz.ntmps23
  go_wp2_with (first | (go_at_call 45; refine (rlow_any _ _).mono ?_; rintro e w' ⟨rfl, rfl⟩; rw [hlow]) | (go_at_call 46; refine (rhigh_any _ _).mono ?_; rintro e w' ⟨rfl, rfl⟩; rw [hhigh]) | (go_at_call 48; refine (rdigit_any _ _).mono ?_; rintro e w' ⟨rfl, rfl⟩; rw [hdig]) | fail)
  refine (rsigns_any _).mono ?_
  rintro e w1 ⟨rfl, hB, hU1⟩
  have hA1 := HA.out _ hU1
  have hU2 := ((Upd.refl [] w).alloc _).trans hU1
  have hsw : (w.alloc (.cells #[.int .u8 0, .string ⟨#[]⟩, .int .i64 0] 43)).heap.size = w.heap.size + 1 := by simp
  rw [hsw] at hB
  clear hsw hU1 HA
  go_wp2_with fail
  go_loopw [16, 17] (fun i _ wr => ∃ k : Nat, k ≤ 29 ∧ i = .int .i64 k ∧ (∃ n, wr = w1.drewN n) ∧ ∀ j, j < k → (Sc.signsR.getD j []).isPrefixOf ((byt s).drop pl) = false) (fun i _ _ => 29 - (intOf i).toNat)
  case atStart => exact ⟨0, Nat.zero_le _, rfl, ⟨0, rfl⟩, fun j hj => by omega⟩
  case round =>
    obtain ⟨k, hk, rfl, ⟨n0, rfl⟩, he⟩ := hrel
    have HE : Hid (∀ j, j < k → (Sc.signsR.getD j []).isPrefixOf ((byt s).drop pl) = false) := he
    have hAr : Blk (w1.drewN n0) w.heap.size #[.int .u8 0, .string ⟨#[]⟩, .int .i64 0] 43 := hA1
    have hUr : Upd [] w (w1.drewN n0) := hU2.drewN n0
    clear he
    by_cases hlt : k < 29
    · have hi1 : (k : Int) < 29 := by omega
      have hc : ∀ n, (w1.drewN n).cell? ⟨w.heap.size + 1, k, none⟩ = some (.string (str (Sc.signsR.getD k []))) := fun n => (Blk.cell (w := w1.drewN n) hB k).trans (signsRC_get k hlt)
      obtain ⟨g, hg⟩ : ∃ g, g = Sc.signsR.getD k [] := ⟨_, rfl⟩
      have HGe : Hid (g = Sc.signsR.getD k []) := hg
      rw [← hg] at hc
      have hgl : (str g).size = g.length := str_size g
      have hgl3 : g.length ≤ 3 := by
        rw [hg]
        have h : ∀ i : Fin 29, (Sc.signsR.getD i []).length ≤ 3 := by decide +kernel
        exact h ⟨k, hlt⟩
      have hc0 := hc n0
      have hpt := pre_take g ((byt s).drop pl)
      rw [List.length_drop, byt_len] at hpt
      obtain ⟨en, hen⟩ : ∃ en : Nat, en = pl + g.length := ⟨_, rfl⟩
      have hwr : wrap64 ((pl : Int) + ((str g).size : Int)) = (en : Int) := by unfold wrap64; rw [hgl, hen]; omega
      have hwi : IntKind.i64.wrap ((pl : Int) + ((str g).size : Int)) = (en : Int) := by rw [IntKind.wrap_i64, hgl, hen]; omega
      have HEn : Hid (en = pl + g.length) := hen
      have hple : pl ≤ en := by omega
      by_cases hle : en ≤ s.size
      · have d1 : (en : Int) ≤ (s.size : Int) := by omega
        have hcut : s.extract pl en = str (((byt s).drop pl).take g.length) := by rw [cut_str, hen]; congr 2; omega
        by_cases heq : ((byt s).drop pl).take g.length = g
        · rw [heq] at hcut
          have HT : Hid (R = .tok 5 g g.length) := by
            show _ = _
            rw [HR.out, HGe.out]
            refine Sc.sign_hit _ k hlt ?_ HE.out
            rw [← HGe.out, hpt, heq]
            simp; omega
          clear hpt heq hg hgl hen HR HE
          go_wp2
          go_quiet (fail)
          have hAq : Blk ((w1.drewN n0).drewN nq) w.heap.size #[.int .u8 0, .string ⟨#[]⟩, .int .i64 0] 43 := hA1
          have hUq : Upd [] w (w1.drewN (n0 + nq)) := hU2.drewN (n0 + nq)
          have hcq : ((w1.drewN n0).drewN nq).cell? ⟨w.heap.size + 1, k, none⟩ = some (.string (str g)) := hc0
          go_wp2_with (refine store_S _ rfl 43 _ _ rfl w.heap.size #[.int .u8 5, .string (str g), .int .i64 pl] _ rfl rfl hAq info_tok3 rfl (by simp [Value.oneCell']) ?_; intro w5 hB5 hU5)
          rw [HT.out]
          refine ret_Stt Tryz.results23 rfl _ _ _ _ rfl rfl rfl hB5 Tryz.underlying43 info_tok3 ⟨?_, hUq.then hU5 (by simp)⟩
          simp only [tokR]
          rw [← HEn.out]
          rfl
        · have hbb : ((str (((byt s).drop pl).take g.length)).toList == (str g).toList) = false := by
            rw [beq_str, byt_str, byt_str, Bool.eq_false_iff]
            intro h
            rw [beq_iff_eq] at h
            exact heq h
          obtain ⟨g2, hg2⟩ : ∃ g2, g2 = str (((byt s).drop pl).take g.length) := ⟨_, rfl⟩
          rw [← hg2] at hbb hcut
          have HN : Hid (g.isPrefixOf ((byt s).drop pl) = false) := by
            show _ = _
            rw [hpt, Bool.eq_false_iff]
            intro h
            simp only [Bool.and_eq_true, beq_iff_eq] at h
            exact heq h.2
          clear hpt heq hg hgl hen hg2
          go_wp2
          go_quiet (fail)
          go_wp2
          go_roundw
          case rel => exact ⟨k + 1, by omega, by go_num, ⟨n0 + nq, by first | rfl | (simp [World.drewN, Nat.add_assoc])⟩, fun j hj => by
            by_cases h : j = k
            · rw [h, ← HGe.out]; exact HN.out
            · exact HE.out j (by omega)⟩
          case measure => simp [intOf]; omega
      · have d1 : decide ((en : Int) ≤ (s.size : Int)) = false := by simp; omega
        have d2 : decide (en ≤ s.size) = false := by simp; omega
        have HN : Hid (g.isPrefixOf ((byt s).drop pl) = false) := by
          show _ = _
          rw [hpt, Bool.eq_false_iff]
          intro h
          simp only [Bool.and_eq_true, decide_eq_true_eq] at h
          omega
        clear hpt hg hgl hen
        go_wp2
        go_quiet (fail)
        go_wp2
        go_roundw
        case rel => exact ⟨k + 1, by omega, by go_num, ⟨n0 + nq, by first | rfl | (simp [World.drewN, Nat.add_assoc])⟩, fun j hj => by
          by_cases h : j = k
          · rw [h, ← HGe.out]; exact HN.out
          · exact HE.out j (by omega)⟩
        case measure => simp [intOf]; omega
    · have hd : decide ((k : Int) < 29) = false := by simp; omega
      have HT : Hid (R = .bad 200) := by
        show _ = _
        rw [HR.out]
        exact Sc.sign_none _ (fun j hj => HE.out j (by omega))
      clear HR HE
      go_wp2_with (refine store_S _ rfl 43 _ _ rfl w.heap.size #[.int .u8 0, .string ⟨#[]⟩, .int .i64 0] _ rfl rfl hAr info_tok3 rfl (by simp [Value.oneCell']) ?_; intro w5 hB5 hU5)
      rw [HT.out]
      exact ret_Stt Tryz.results23 rfl _ _ _ _ rfl rfl rfl hB5 Tryz.underlying43 info_tok3 ⟨rfl, hUr.then hU5 (by simp)⟩

theorem rtoken_any (s : ByteArray) (pl : Nat) (w : World) (hs : s.size ≤ 1000000000) (hp : pl < s.size) : TokR s pl w := by
  cases hl : (Sc.isLower s[pl] || Sc.high s[pl]) with
  | true => exact rtok_name s pl w hs hp hl
  | false =>
    simp only [Bool.or_eq_false_iff] at hl
    cases hd : Sc.isDigit s[pl] with
    | true => exact rtok_digits s pl w hs hp hd
    | false =>
      by_cases h39 : s[pl] = 39
      · exact rtok_quo39 s pl w hs hp h39
      by_cases h34 : s[pl] = 34
      · exact rtok_quo34 s pl w hs hp h34
      by_cases h46 : s[pl] = 46
      · exact rtok_dot s pl w hs hp h46
      exact rtok_sign s pl w hs hp hl.1 hl.2 hd h39 h34 h46

end Go.Proofs.YtiapdapkklcliaaGreatDoor
