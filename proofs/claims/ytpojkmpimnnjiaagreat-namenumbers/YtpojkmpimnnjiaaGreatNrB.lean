/- The document's Find. -/
import Derived.Test.YtpojkmpimnnjiaaGreatNrA
import Derived.Deep.Cut
namespace Go.Proofs.YtpojkmpimnnjiaaGreat
open Go.RowKit Go.Maps

set_option maxHeartbeats 4000000 in
set_option maxRecDepth 100000 in
theorem findRef_any (w : World) (B b : Nat) (v : Value) (F : NF) (L : List Nd) (s : BS) (hb : Cl w b #[v] 30) (hr : MR w B v L) (hs : SimN F L) (hn : L.length ≤ 1000) :
    Calls Tryz.prog 20 #[.pointer (some ⟨b, 0, none⟩), encStr s] w fun e w' => e = .returned (.tuple #[.int .i64 ((F s).getD 0), .bool (F s).isSome]) ∧ w' = w := by
  obtain ⟨p, c, hv⟩ := hr.form
  subst hv
  have HB : Hid (MR w B (.slice p L.length c) L ∧ SimN F L) := ⟨hr, hs⟩
  have cb : w.cell? ⟨b, 0, none⟩ = some (.slice p L.length c) := by rw [hb.cell]; rfl
  clear hb hr hs
  go_enter Tryz.func20, Tryz.ntmps20
  go_wp2_with fail
  go_loopw [6] (fun s6 wr => ∃ k : Nat, k ≤ L.length ∧ s6 = .int .i64 (k : Nat) ∧ (∀ m ∈ L.take k, m.1 ≠ s) ∧ wr = w) (fun s6 _ => L.length - (intOf s6).toNat)
  case atStart => exact ⟨0, Nat.zero_le _, rfl, by simp, rfl⟩
  case round =>
    obtain ⟨k, hk', rfl, hno, hw⟩ := hrel
    rw [hw]
    have HNo : Hid (∀ m ∈ L.take k, m.1 ≠ s) := hno
    clear hno hw
    by_cases hk : k < L.length
    · have hkl : (k : Int) < (L.length : Int) := by omega
      obtain ⟨g, c', hv, q0, q1⟩ := HB.out.1.cells hk
      simp only [Value.slice.injEq] at hv
      obtain ⟨rfl, _, rfl⟩ := hv
      have HF : Hid (F L[k].1 = some L[k].2) := HB.out.2.at hk
      obtain ⟨t, ht⟩ : ∃ t, L[k].1 = t := ⟨_, rfl⟩
      obtain ⟨y, hy⟩ : ∃ y, L[k].2 = y := ⟨_, rfl⟩
      have HT : Hid (L[k].1 = t ∧ F t = some y) := ⟨ht, by rw [← ht, ← hy]; exact HF.out⟩
      rw [ht] at q0
      rw [hy] at q1
      clear ht hy HF
      by_cases hts : t = s
      · have heq : (t == s) = true := by simpa using hts
        have HS : Hid (F s = some y) := by show _ = _; rw [← hts]; exact HT.out.2
        clear hts
        go_wp2_with fail
        refine bodyPost_ret (results_tmp2 rfl _ _ _) rfl ?_
        exact ⟨by rw [HS.out]; rfl, rfl⟩
      · have heq : (t == s) = false := by simpa using hts
        have HS : Hid (t ≠ s) := hts
        have hkm : (k : Int) + 1 ≤ 9223372036854775807 := by omega
        clear hts
        go_wp2_with fail
        go_roundw
        case rel => exact ⟨k + 1, hk, by go_num, fun q hq => by
          rw [List.take_succ_eq_append_getElem hk] at hq
          rcases List.mem_append.1 hq with hq | hq
          · exact HNo.out q hq
          · obtain rfl : q = L[k] := by simpa using hq
            rw [HT.out.1]; exact HS.out, trivial⟩
        case measure => simp [intOf]; omega
    · obtain rfl : k = L.length := by omega
      have HS : Hid (F s = none) := HB.out.2.nope (fun q hq => HNo.out q (by rw [List.take_length]; exact hq))
      have hd : decide ((L.length : Int) < (L.length : Int)) = false := decide_eq_false (by omega)
      go_wp2_with fail
      refine bodyPost_ret (results_tmp2 rfl _ _ _) rfl ?_
      exact ⟨by rw [HS.out]; rfl, rfl⟩

end Go.Proofs.YtpojkmpimnnjiaaGreat
