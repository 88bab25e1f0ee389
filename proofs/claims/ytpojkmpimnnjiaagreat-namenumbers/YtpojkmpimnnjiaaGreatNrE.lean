/- The document's End. -/
import Derived.Test.YtpojkmpimnnjiaaGreatNrD
namespace Go.Proofs.YtpojkmpimnnjiaaGreat
open Go.RowKit Go.Maps

/-- What End does and tells. -/
def EndP (w : World) (b : Nat) (ps : List Nd) (x : Int) (e : Ending) (w' : World) : Prop :=
  ((∀ p ∈ ps, p.2 ≠ x) ∧ e = .returned (.slice none 0 0) ∧ w' = w) ∨
    (∃ s k, ∃ hk : k < ps.length, (s, x) ∈ ps ∧ ps[k].1 = s ∧ (∃ vr, e = .returned vr ∧ TR w' vr [s]) ∧ ∃ v', Cl w' b #[v'] 30 ∧ MR w' w.heap.size v' (ps.take k ++ ps.drop (k + 1)) ∧ Upd [b] w w')

set_option maxHeartbeats 4000000 in
set_option maxRecDepth 100000 in
theorem endRef_any (w : World) (B b : Nat) (v : Value) (ps : List Nd) (x : Int) (hb : Cl w b #[v] 30) (hr : MR w B v ps) (hn : ps.length ≤ 1000) :
    Calls Tryz.prog 17 #[.pointer (some ⟨b, 0, none⟩), .int .i64 x] w fun e w' => EndP w b ps x e w' := by
  have HT : Hid (∀ s, Calls Tryz.prog 19 #[.pointer (some ⟨b, 0, none⟩), encStr s] w fun e w' => TakeP w b ps s e w') := fun s => takeRef_any w B b v ps s hb hr hn
  obtain ⟨p, c, hv⟩ := hr.form
  subst hv
  have HB : Hid (Cl w b #[.slice p ps.length c] 30 ∧ MR w B (.slice p ps.length c) ps) := ⟨hb, hr⟩
  have cb2 : w.cell? ⟨b, 0, none⟩ = some (.slice p ps.length c) := by rw [hb.cell]; rfl
  clear hb hr
  go_enter Tryz.func17, Tryz.ntmps17
  go_wp2_with fail
  go_loopw [5] (fun s5 wr => ∃ k : Nat, k ≤ ps.length ∧ s5 = .int .i64 (k : Nat) ∧ (∀ p ∈ ps.take k, p.2 ≠ x) ∧ wr = w) (fun s5 _ => ps.length - (intOf s5).toNat)
  case atStart => exact ⟨0, Nat.zero_le _, rfl, by simp, rfl⟩
  case round =>
    obtain ⟨k, hk', rfl, hno, hw⟩ := hrel
    rw [hw]
    have HNo : Hid (∀ p ∈ ps.take k, p.2 ≠ x) := hno
    clear hno hw
    by_cases hk : k < ps.length
    · have hkl : (k : Int) < (ps.length : Int) := by omega
      obtain ⟨g, c', hv, d0, d1⟩ := HB.out.2.cells hk
      simp only [Value.slice.injEq] at hv
      obtain ⟨rfl, _, rfl⟩ := hv
      obtain ⟨y, hy⟩ : ∃ y, ps[k].2 = y := ⟨_, rfl⟩
      obtain ⟨t, ht⟩ : ∃ t, ps[k].1 = t := ⟨_, rfl⟩
      have HY : Hid (ps[k].2 = y ∧ ps[k].1 = t) := ⟨hy, ht⟩
      rw [hy] at d1
      rw [ht] at d0
      clear hy ht
      by_cases hyx : y = x
      · have HM : Hid ((t, x) ∈ ps) := by
          show _ ∈ _
          rw [← HY.out.2, ← hyx, ← HY.out.1]
          exact List.getElem_mem hk
        have heq : (y == x) = true := by simpa using hyx
        clear hyx
        go_wp2_with fail
        refine Calls.mono (HT.out t) ?_
        rintro e w2 (⟨hno, _⟩ | ⟨j, hj, hjt, rfl, v', h1, h2, h3⟩)
        · exact absurd rfl (hno _ HM.out)
        · have H2 : Hid (Cl w2 b #[v'] 30 ∧ MR w2 w.heap.size v' (ps.take j ++ ps.drop (j + 1)) ∧ Upd [b] w w2 ∧ ps[j].1 = t) := ⟨h1, h2, h3, hjt⟩
          clear h1 h2 h3 hjt
          go_wp2_with fail
          go_ret
          have hu : Upd [] w2 (w2.alloc (.cells #[encStr t] 9)) := (Upd.refl [] w2).alloc _
          exact Or.inr ⟨t, j, hj, HM.out, H2.out.2.2.2, ⟨_, rfl, TR.one (Cl.new _ _ _ _ rfl)⟩, v', H2.out.1.upd hu (by simp), H2.out.2.1.upd hu, H2.out.2.2.1.alloc _⟩
      · have heq : (y == x) = false := by simpa using hyx
        have HYX : Hid (y ≠ x) := hyx
        have hkm : (k : Int) + 1 ≤ 9223372036854775807 := by omega
        clear hyx
        go_wp2_with fail
        go_roundw
        case rel => exact ⟨k + 1, hk, by go_num, fun q hq => by
          rw [List.take_succ_eq_append_getElem hk] at hq
          rcases List.mem_append.1 hq with hq | hq
          · exact HNo.out q hq
          · obtain rfl : q = ps[k] := by simpa using hq
            rw [HY.out.1]; exact HYX.out, trivial⟩
        case measure => simp [intOf]; omega
    · obtain rfl : k = ps.length := by omega
      have hd : decide ((ps.length : Int) < (ps.length : Int)) = false := decide_eq_false (by omega)
      go_wp2_with fail
      go_ret
      exact Or.inl ⟨fun q hq => HNo.out q (by rw [List.take_length]; exact hq), rfl, rfl⟩

end Go.Proofs.YtpojkmpimnnjiaaGreat
