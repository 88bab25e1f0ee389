/- The kit's bag: do all lists lie apart? -/
import Derived.Test.YtpojkmpimnnjiaaGreatNbP
import Derived.Test.YtpojkmpimnnjiaaGreatNbJ
import Derived.Test.YtpojkmpimnnjiaaGreatNbN1
import Derived.Test.YtpojkmpimnnjiaaGreatNbN2
import Derived.Test.YtpojkmpimnnjiaaGreatNbN3
import Derived.Test.YtpojkmpimnnjiaaGreatNbN4
namespace Go.Proofs.YtpojkmpimnnjiaaGreat
open Go.RowKit

theorem Below.of_upd0 {b : Nat} {w w' : World} (h : Upd [] w w') (hb : b ≤ w.heap.size) : Below b w w' := ⟨h.os, h.tape, h.output, h.size, fun k hk => h.block k (by omega) (by simp)⟩

set_option maxHeartbeats 4000000 in
set_option maxRecDepth 100000 in
theorem apartNameds_in (w : World) (gb L m c base : Nat) (z : Nat → Prop) (v : Nat → Value) (n : Nat → Nat) (hB : Blk w gb (bagNam (.slice (some ⟨L, 0, none⟩) m c)) 82) (hR : Rs w 2 L m w.heap.size v n) (hm : m ≤ 1000) (hn : ∀ k, k < m → n k ≤ 1000000) (hb1 : base ≤ w.heap.size) (hz : gb < base ∧ ¬ z gb) (hb2 : ∀ k g, k < m → oB (v k) = some g → z g) :
    Calls Tryz.prog 28 #[.pointer (some ⟨gb, 0, none⟩)] w fun e w' => e = .returned (.bool true) ∧ Low base z w w' := by
  have y0 : w.cell? ⟨gb, 0, none⟩ = some (.slice none 0 0) := hB.cell 0
  have HB : Hid (Blk w gb (bagNam (.slice (some ⟨L, 0, none⟩) m c)) 82) := hB
  have HFl : Hid (∀ W, Upd [] w W → Calls Tryz.prog 55 #[.slice (some ⟨L, 0, none⟩) m c] W fun e w' => e = .returned (.bool true) ∧ Low base z W w') := fun W hW => flatNameds_in W L m c base z v n ((hR.upd hW (by simp)).raise hW.size (Nat.le_refl _)) hm hn ⟨Nat.le_trans hb1 hW.size, trivial⟩ hb2
  have Hb : Hid (base ≤ w.heap.size) := hb1
  have HZ : Hid (gb < base ∧ ¬ z gb) := hz
  clear hB hR hn hb1 hb2 hz
  go_enter Tryz.func28, Tryz.ntmps28
  (try dsimp only [List.append])
  go_wp2_with (first
    | (go_at_call 37; refine (flatLimbs_nil _).mono ?_; rintro e w0 ⟨rfl, hU⟩; have HU0 : Hid (Upd [] w w0) := Upd.trans (Upd.refl [] w) hU; have HB0 : Hid (Blk w0 gb (bagNam (.slice (some ⟨L, 0, none⟩) m c)) 82) := HB.out.mono hU (by simp); clear hU; have y1 : w0.cell? ⟨gb, 1, none⟩ = some (.slice none 0 0) := HB0.out.cell 1)
    | (go_at_call 38; refine (flatWords_nil _).mono ?_; rintro e w1 ⟨rfl, hU⟩; have HU1 : Hid (Upd [] w w1) := Upd.trans (HU0.out) hU; have HB1 : Hid (Blk w1 gb (bagNam (.slice (some ⟨L, 0, none⟩) m c)) 82) := HB0.out.mono hU (by simp); clear hU; have y2 : w1.cell? ⟨gb, 2, none⟩ = some (.slice none 0 0) := HB1.out.cell 2)
    | (go_at_call 39; refine (flatInts_nil _).mono ?_; rintro e w2 ⟨rfl, hU⟩; have HU2 : Hid (Upd [] w w2) := Upd.trans (HU1.out) hU; have HB2 : Hid (Blk w2 gb (bagNam (.slice (some ⟨L, 0, none⟩) m c)) 82) := HB1.out.mono hU (by simp); clear hU; have y3 : w2.cell? ⟨gb, 3, none⟩ = some (.slice none 0 0) := HB2.out.cell 3)
    | (go_at_call 40; refine (flatLongs_nil _).mono ?_; rintro e w3 ⟨rfl, hU⟩; have HU3 : Hid (Upd [] w w3) := Upd.trans (HU2.out) hU; have HB3 : Hid (Blk w3 gb (bagNam (.slice (some ⟨L, 0, none⟩) m c)) 82) := HB2.out.mono hU (by simp); clear hU; have y4 : w3.cell? ⟨gb, 4, none⟩ = some (.slice none 0 0) := HB3.out.cell 4)
    | (go_at_call 41; refine (flatTexts_nil _).mono ?_; rintro e w4 ⟨rfl, hU⟩; have HU4 : Hid (Upd [] w w4) := Upd.trans (HU3.out) hU; have HB4 : Hid (Blk w4 gb (bagNam (.slice (some ⟨L, 0, none⟩) m c)) 82) := HB3.out.mono hU (by simp); clear hU; have y5 : w4.cell? ⟨gb, 5, none⟩ = some (.slice none 0 0) := HB4.out.cell 5)
    | (go_at_call 42; refine (flatBytes_nil _).mono ?_; rintro e w5 ⟨rfl, hU⟩; have HU5 : Hid (Upd [] w w5) := Upd.trans (HU4.out) hU; have HB5 : Hid (Blk w5 gb (bagNam (.slice (some ⟨L, 0, none⟩) m c)) 82) := HB4.out.mono hU (by simp); clear hU; have y6 : w5.cell? ⟨gb, 6, none⟩ = some (.slice none 0 0) := HB5.out.cell 6)
    | (go_at_call 43; refine (flatFaults_nil _).mono ?_; rintro e w6 ⟨rfl, hU⟩; have HU6 : Hid (Upd [] w w6) := Upd.trans (HU5.out) hU; have HB6 : Hid (Blk w6 gb (bagNam (.slice (some ⟨L, 0, none⟩) m c)) 82) := HB5.out.mono hU (by simp); clear hU; have y7 : w6.cell? ⟨gb, 7, none⟩ = some (.slice none 0 0) := HB6.out.cell 7)
    | (go_at_call 44; refine (flatTerms_nil _).mono ?_; rintro e w7 ⟨rfl, hU⟩; have HU7 : Hid (Upd [] w w7) := Upd.trans (HU6.out) hU; have HB7 : Hid (Blk w7 gb (bagNam (.slice (some ⟨L, 0, none⟩) m c)) 82) := HB6.out.mono hU (by simp); clear hU; have y8 : w7.cell? ⟨gb, 8, none⟩ = some (.slice none 0 0) := HB7.out.cell 8)
    | (go_at_call 45; refine (flatTokens_nil _).mono ?_; rintro e w8 ⟨rfl, hU⟩; have HU8 : Hid (Upd [] w w8) := Upd.trans (HU7.out) hU; have HB8 : Hid (Blk w8 gb (bagNam (.slice (some ⟨L, 0, none⟩) m c)) 82) := HB7.out.mono hU (by simp); clear hU; have y9 : w8.cell? ⟨gb, 9, none⟩ = some (.slice none 0 0) := HB8.out.cell 9)
    | (go_at_call 46; refine (flatNodes_nil _).mono ?_; rintro e w9 ⟨rfl, hU⟩; have HU9 : Hid (Upd [] w w9) := Upd.trans (HU8.out) hU; have HB9 : Hid (Blk w9 gb (bagNam (.slice (some ⟨L, 0, none⟩) m c)) 82) := HB8.out.mono hU (by simp); clear hU; have y10 : w9.cell? ⟨gb, 10, none⟩ = some (.slice none 0 0) := HB9.out.cell 10)
    | (go_at_call 47; refine (flatCores_nil _).mono ?_; rintro e w10 ⟨rfl, hU⟩; have HU10 : Hid (Upd [] w w10) := Upd.trans (HU9.out) hU; have HB10 : Hid (Blk w10 gb (bagNam (.slice (some ⟨L, 0, none⟩) m c)) 82) := HB9.out.mono hU (by simp); clear hU; have y11 : w10.cell? ⟨gb, 11, none⟩ = some (.slice none 0 0) := HB10.out.cell 11)
    | (go_at_call 48; refine (flatFuncs_nil _).mono ?_; rintro e w11 ⟨rfl, hU⟩; have HU11 : Hid (Upd [] w w11) := Upd.trans (HU10.out) hU; have HB11 : Hid (Blk w11 gb (bagNam (.slice (some ⟨L, 0, none⟩) m c)) 82) := HB10.out.mono hU (by simp); clear hU; have y12 : w11.cell? ⟨gb, 12, none⟩ = some (.slice none 0 0) := HB11.out.cell 12)
    | (go_at_call 49; refine (flatPrograms_nil _).mono ?_; rintro e w12 ⟨rfl, hU⟩; have HU12 : Hid (Upd [] w w12) := Upd.trans (HU11.out) hU; have HB12 : Hid (Blk w12 gb (bagNam (.slice (some ⟨L, 0, none⟩) m c)) 82) := HB11.out.mono hU (by simp); clear hU; have y13 : w12.cell? ⟨gb, 13, none⟩ = some (.slice none 0 0) := HB12.out.cell 13)
    | (go_at_call 50; refine (flatInstrs_nil _).mono ?_; rintro e w13 ⟨rfl, hU⟩; have HU13 : Hid (Upd [] w w13) := Upd.trans (HU12.out) hU; have HB13 : Hid (Blk w13 gb (bagNam (.slice (some ⟨L, 0, none⟩) m c)) 82) := HB12.out.mono hU (by simp); clear hU; have y14 : w13.cell? ⟨gb, 14, none⟩ = some (.slice none 0 0) := HB13.out.cell 14)
    | (go_at_call 51; refine (flatEntries_nil _).mono ?_; rintro e w14 ⟨rfl, hU⟩; have HU14 : Hid (Upd [] w w14) := Upd.trans (HU13.out) hU; have HB14 : Hid (Blk w14 gb (bagNam (.slice (some ⟨L, 0, none⟩) m c)) 82) := HB13.out.mono hU (by simp); clear hU; have y15 : w14.cell? ⟨gb, 15, none⟩ = some (.slice none 0 0) := HB14.out.cell 15)
    | (go_at_call 52; refine (flatCodes_nil _).mono ?_; rintro e w15 ⟨rfl, hU⟩; have HU15 : Hid (Upd [] w w15) := Upd.trans (HU14.out) hU; have HB15 : Hid (Blk w15 gb (bagNam (.slice (some ⟨L, 0, none⟩) m c)) 82) := HB14.out.mono hU (by simp); clear hU; have y16 : w15.cell? ⟨gb, 16, none⟩ = some (.slice none 0 0) := HB15.out.cell 16)
    | (go_at_call 53; refine (flatSteps_nil _).mono ?_; rintro e w16 ⟨rfl, hU⟩; have HU16 : Hid (Upd [] w w16) := Upd.trans (HU15.out) hU; have HB16 : Hid (Blk w16 gb (bagNam (.slice (some ⟨L, 0, none⟩) m c)) 82) := HB15.out.mono hU (by simp); clear hU; have y17 : w16.cell? ⟨gb, 17, none⟩ = some (.slice none 0 0) := HB16.out.cell 17)
    | (go_at_call 54; refine (flatEndeds_nil _).mono ?_; rintro e w17 ⟨rfl, hU⟩; have HU17 : Hid (Upd [] w w17) := Upd.trans (HU16.out) hU; have HB17 : Hid (Blk w17 gb (bagNam (.slice (some ⟨L, 0, none⟩) m c)) 82) := HB16.out.mono hU (by simp); clear hU; have y18 : w17.cell? ⟨gb, 18, none⟩ = some (.slice (some ⟨L, 0, none⟩) m c) := HB17.out.cell 18)
    | (go_at_call 55; refine (HFl.out _ HU17.out).mono ?_; rintro e w18 ⟨rfl, hLo⟩; have HL18 : Hid (Low base z w w18) := Low.trans (Low.of_upd0 HU17.out Hb.out) hLo; have HB18 : Hid (Blk w18 gb (bagNam (.slice (some ⟨L, 0, none⟩) m c)) 82) := (show w18.heap[gb]? = _ from (hLo.block gb HZ.out.1 HZ.out.2).trans HB17.out); clear hLo; have y19 : w18.cell? ⟨gb, 19, none⟩ = some (.slice none 0 0) := HB18.out.cell 19)
    | (go_at_call 56; refine (flatSeens_nil _).mono ?_; rintro e w19 ⟨rfl, hU⟩; have HL19 : Hid (Low base z w w19) := Low.trans HL18.out (Low.of_upd0 hU (Nat.le_trans Hb.out HL18.out.size)); have HB19 : Hid (Blk w19 gb (bagNam (.slice (some ⟨L, 0, none⟩) m c)) 82) := HB18.out.mono hU (by simp); clear hU)
    | fail)
  go_ret
  exact ⟨rfl, HL19.out⟩

end Go.Proofs.YtpojkmpimnnjiaaGreat
