/- ApartNameds of the kit, by its contract. -/
import Derived.Test.YtpojkmpimnnjiaaGreatNbQ
namespace Go.Proofs.YtpojkmpimnnjiaaGreat
open Go.RowKit

theorem Below.less {b c : Nat} {w w' : World} (h : Below b w w') (hc : c ≤ b) : Below c w w' := ⟨h.os, h.tape, h.output, h.size, fun k hk => h.block k (by omega)⟩

set_option maxHeartbeats 4000000 in
set_option maxRecDepth 100000 in
theorem ApartNameds_in (w : World) (L m cL : Nat) (v : Nat → Value) (n : Nat → Nat) (hR : Rs w 2 L m w.heap.size v n) (hm0 : 0 < m) (hm : m ≤ 1000) (hn : ∀ k, k < m → n k ≤ 1000000) :
    Calls Tryz.prog 11 #[.slice (some ⟨L, 0, none⟩) m cL] w fun e w' => e = .returned (.bool true) ∧ UpP (fun g => ∃ k, k < m ∧ oB (v k) = some g) w w' := by
  obtain ⟨B, hBe⟩ : ∃ B, B = w.heap.size := ⟨_, rfl⟩
  rw [← hBe] at hR
  obtain ⟨W1, hW1⟩ : ∃ W1, W1 = w.alloc (.cells (bagNam (.slice none 0 0)) 82) := ⟨_, rfl⟩
  have hU1 : Upd [] w W1 := by rw [hW1]; exact (Upd.refl [] w).alloc _
  have hG1 : Blk W1 B (bagNam (.slice none 0 0)) 82 := by rw [hW1, hBe]; exact Blk.new _ _ _
  have HR : Hid (Rs W1 2 L m B v n) := hR.upd hU1 (by simp)
  have HG1 : Hid (Blk W1 B (bagNam (.slice none 0 0)) 82) := hG1
  have HBl1 : Hid (Below B w W1) := Below.of_upd0 hU1 (by omega)
  have HN : Hid (∀ k, k < m → n k ≤ 1000000) := hn
  have HBw : Hid (B = w.heap.size) := hBe
  have HW1 : Hid (W1 = w.alloc (.cells #[.slice none 0 0, .slice none 0 0, .slice none 0 0, .slice none 0 0, .slice none 0 0, .slice none 0 0, .slice none 0 0, .slice none 0 0, .slice none 0 0, .slice none 0 0, .slice none 0 0, .slice none 0 0, .slice none 0 0, .slice none 0 0, .slice none 0 0, .slice none 0 0, .slice none 0 0, .slice none 0 0, .slice none 0 0, .slice none 0 0] 82)) := hW1
  clear hR hU1 hG1 hW1 hn hBe
  go_enter Tryz.func11, Tryz.ntmps11
  go_wp2_with fail
  rw [← HW1.out, ← HBw.out]
  clear HW1
  go_loopw [4] (fun k wr => ∃ (a : Nat) (x : Value), a ≤ m ∧ k = .int .i64 a ∧ Blk wr B (bagNam x) 82 ∧ RowG wr 1 x a ∧ Hs wr 1 x a (fun j => [v j]) ∧ Rs wr 2 L m B v n ∧ (∀ g, oB x = some g → B < g) ∧ Below B w wr) (fun k _ => m - (intOf k).toNat)
  case atStart => exact ⟨0, .slice none 0 0, Nat.zero_le _, rfl, HG1.out, Or.inl ⟨⟨_, rfl⟩, rfl⟩, Hs.zero _ _ _ _, HR.out, fun g hg => (by rw [oB_zero] at hg; cases hg), HBl1.out⟩
  case round =>
    clear HG1 HR HBl1
    obtain ⟨a, x, ha, rfl, hG, hr, hh, hR, hxo, hbl⟩ := hrel
    by_cases hlt : a < m
    · have i1 : (a : Int) < (m : Int) := by omega
      obtain ⟨xa, xc, hv, _⟩ := (hR.row a hlt).form
      have y0 := hR.blk a hlt
      rw [hv] at y0
      have HV : Hid (v a = .slice xa (n a) xc) := hv
      have HP : Hid (∀ (W : World), W = wr → Calls Tryz.prog 27 #[.pointer (some ⟨B, 0, none⟩), .slice xa (n a) xc] W fun e w' => e = .returned (.tuple #[]) ∧ Bag bagNam wr w' B x (.slice xa (n a) xc) a v) := fun W hW => by
        rw [hW]; exact putNameds_in wr B a x xa (n a) xc v hG hr hh (fun b hb e => by have := hxo b hb; omega) (by omega)
      have HR : Hid (Rs wr 2 L m B v n) := hR
      have HX : Hid (∀ g, oB x = some g → B < g) := hxo
      have HBl : Hid (Below B w wr) := hbl
      have hBl := hG.lt
      clear hG hr hh hR hxo hbl hv
      go_wp2_with fail
      refine (HP.out _ rfl).mono ?_
      rintro e w2 ⟨rfl, ⟨g', c', hB2, hr2, hh2, hU2, hat, hne⟩⟩
      have hg'B : B < g' := by
        rcases hat with h1 | h1
        · exact HX.out g' h1
        · omega
      have hh3 : Hs w2 1 (.slice (some ⟨g', 0, none⟩) (a + 1) c') (a + 1) (fun j => [v j]) := by
        intro g2 l2 c2 e p q hp hq
        rw [hh2 g2 l2 c2 e p q hp hq]
        simp only
        by_cases hpa : p = a
        · rw [if_pos hpa, hpa, HV.out]
        · rw [if_neg hpa]
      go_wp2
      go_roundw
      case rel => exact ⟨a + 1, .slice (some ⟨g', 0, none⟩) (a + 1) c', by omega, by go_num, hB2, hr2, hh3, HR.out.upd hU2 (fun z hz => by simp at hz; rcases hz with rfl | rfl <;> omega), fun g hg => by have hg := oB_some hg; simp at hg; omega, Below.trans HBl.out ⟨hU2.os, hU2.tape, hU2.output, hU2.size, fun k hk => hU2.block k (by omega) (by simp; omega)⟩⟩
      case measure => simp [intOf]; omega
    · have i1 : decide ((a : Int) < (m : Int)) = false := by simp; omega
      have ham : a = m := by omega
      rw [ham] at hr hh
      obtain ⟨L2, c2, hx⟩ : ∃ L2 c2, x = .slice (some ⟨L2, 0, none⟩) m c2 := by
        rcases hr with ⟨_, h0⟩ | ⟨g, cap, e, _⟩
        · omega
        · exact ⟨g, cap, e⟩
      subst hx
      have hc2 : 0 < c2 := by rcases hr with ⟨_, h0⟩ | ⟨_, _, e, _, h2, _⟩ <;> first | omega | (simp only [Value.slice.injEq] at e; omega)
      have hL2 := hxo L2 (oB_pos hc2)
      have hL2l : L2 < wr.heap.size := hr.lt L2 (oB_pos hc2)
      have HAp : Hid (∀ (W : World), W = wr → Calls Tryz.prog 28 #[.pointer (some ⟨B, 0, none⟩)] W fun e w' => e = .returned (.bool true) ∧ Low wr.heap.size (fun g => ∃ k, k < m ∧ oB (v k) = some g) wr w') := fun W hW => by
        rw [hW]
        refine apartNameds_in wr B L2 m c2 wr.heap.size (fun g => ∃ k, k < m ∧ oB (v k) = some g) v n hG ⟨Nat.le_refl _, hL2l, fun j hj => ?_, hR.row, fun j g hj hg => ⟨Nat.lt_of_lt_of_le (hR.own j g hj hg).1 hR.hB, fun e => by have := (hR.own j g hj hg).1; omega⟩, hR.apart⟩ hm HN.out (Nat.le_refl _) ⟨hG.lt, fun ⟨k, hk, hg⟩ => by have := (hR.own k B hk hg).1; omega⟩ (fun k g hk hg => ⟨k, hk, hg⟩)
        have := hh L2 m c2 rfl j 0 hj (by omega)
        rw [Nat.mul_one, Nat.add_zero] at this
        exact this
      have HBl : Hid (Below B w wr) := hbl
      clear hG hr hh hR hxo hbl
      go_wp2_with fail
      refine (HAp.out _ rfl).mono ?_
      rintro e w2 ⟨rfl, hb2⟩
      go_wp2
      go_ret
      exact ⟨rfl, ⟨hb2.os.trans HBl.out.os, hb2.tape.trans HBl.out.tape, hb2.output.trans HBl.out.output, Nat.le_trans HBl.out.size hb2.size, fun k hk hn => (hb2.block k (Nat.lt_of_lt_of_le hk HBl.out.size) hn).trans (HBl.out.block k (by rw [HBw.out]; exact hk))⟩⟩

end Go.Proofs.YtpojkmpimnnjiaaGreat
