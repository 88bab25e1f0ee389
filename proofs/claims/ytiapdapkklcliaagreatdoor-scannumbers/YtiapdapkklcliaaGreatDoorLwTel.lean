/- ScanTells, walked. -/
import Derived.Test.YtiapdapkklcliaaGreatDoorFlU
import Derived.Test.YtiapdapkklcliaaGreatDoorRfF
namespace Go.Proofs.YtiapdapkklcliaaGreatDoor
open Go.RowKit

/-- What Tokens answers, whichever way. -/
def TokG (X K : Int) (l : List Sc.Tok) (w : World) (e : Ending) (w' : World) : Prop := ∃ a c, e = .returned (.tuple #[.slice a l.length c, .agg #[.int .i64 X, .int .i64 K]]) ∧ OT w' (w.heap.size + 1) (.slice a l.length c) l ∧ Upd [] w w'
theorem tok_any (t : List UInt8) : ∃ (X K : Int) (l : List Sc.Tok), l.length ≤ 70000 ∧ ∀ w e w', TokPost w (Sc.tokens t) e w' → TokG X K l w e w' := by
  cases hT : Sc.tokens t with
  | ok l =>
    have hl := Sc.tokens_len _ _ hT
    refine ⟨0, 0, l, by omega, fun w e w' h => ?_⟩
    obtain ⟨hU, a, c, he, hO⟩ := h
    exact ⟨a, c, he, hO, hU⟩
  | fault x k =>
    refine ⟨x, k, [], by simp, fun w e w' h => ?_⟩
    obtain ⟨hU, he⟩ := h
    exact ⟨none, 0, he, Own.nil _ _ _ _, hU⟩
theorem OT.rowG {w : World} {base : Nat} {v : Value} {l : List Sc.Tok} (h : OT w base v l) : RowG w 3 v l.length := by
  obtain ⟨_, ⟨rfl, hn⟩ | ⟨g, cap, cur, rfl, _, hh, hnc, hcm, hcs, _⟩⟩ := h
  · exact Or.inl ⟨rfl, hn⟩
  · refine Or.inr ⟨g, cap, rfl, lt_blk hh, hnc, hcm, fun j hj => ⟨?_, frozen_of_row _ _ _ _ _ hh⟩⟩
    rw [cell_of_row _ _ _ _ _ _ hh, Nat.zero_add, Array.getElem?_eq_getElem (by omega)]
    rfl
theorem Upd.below2 {w a b : World} (h : Upd [] w a) (k : Below w.heap.size a b) : Upd [] w b := ⟨k.os.trans h.os, k.tape.trans h.tape, k.output.trans h.output, Nat.le_trans h.size k.size, fun i hi hn => (k.block i hi).trans (h.block i hi hn)⟩
/-- Two values, listed. -/
def two (x y : Value) (j : Nat) : Value := if j = 0 then x else y
theorem two_rows {w : World} {sz L n1 n2 : Nat} {x y : Value} {T : TypeId} (hB : Blk w L #[x, y] T) (hx : RowG w sz x n1) (hy : RowG w sz y n2) (hL : ∀ g, x.ownBlock = some g ∨ y.ownBlock = some g → g ≠ L) (hxy : ∀ g, x.ownBlock = some g → y.ownBlock ≠ some g) :
    Rs w sz L 2 w.heap.size (two x y) (fun j => if j = 0 then n1 else n2) := by
  refine ⟨Nat.le_refl _, hB.lt, fun j hj => ?_, fun j hj => ?_, fun j g hj hg => ?_, fun i j g hi hj hij hg => ?_⟩
  · obtain rfl | rfl : j = 0 ∨ j = 1 := by omega
    · exact hB.cell 0
    · exact hB.cell 1
  · obtain rfl | rfl : j = 0 ∨ j = 1 := by omega
    · exact hx
    · exact hy
  · obtain rfl | rfl : j = 0 ∨ j = 1 := by omega
    · exact ⟨hx.lt g hg, hL g (Or.inl hg)⟩
    · exact ⟨hy.lt g hg, hL g (Or.inr hg)⟩
  · obtain ⟨rfl, rfl⟩ | ⟨rfl, rfl⟩ : (i = 0 ∧ j = 1) ∨ (i = 1 ∧ j = 0) := by omega
    · exact hxy g hg
    · intro h; exact hxy g h hg

theorem words_row {w : World} {b : Nat} {T : TypeId} (h : Blk w b wordsC T) : RowG w 1 (.slice (some ⟨b, 0, none⟩) 19 19) 19 := by
  refine Or.inr ⟨b, 19, rfl, h.lt, Nat.le_refl _, by unfold maxLen; omega, fun j hj => ⟨?_, h.free _⟩⟩
  rw [h.cell, Nat.zero_add, Array.getElem?_eq_getElem (by rw [words_size]; omega)]
  rfl

set_option maxHeartbeats 4000000 in
set_option maxRecDepth 100000 in
theorem Tells_walk (s : ByteArray) (W : World) (hg : Glb W) : Calls Tryz.prog 3 #[.string s] W fun e w' => e = .returned (.bool true) ∧ Upd [] W w' := by
  have HG : Hid (Glb W) := hg
  clear hg
  by_cases hbig : 70000 < s.size
  · have hd : (70000 : Int) < (s.size : Int) := by omega
    go_enter Tryz.func3, Tryz.ntmps3
    go_wp2_with fail
    refine (awake_any _ HG.out).mono ?_
    rintro e w1 ⟨rfl, hU1⟩
    go_wp2
    go_ret
    exact ⟨rfl, hU1⟩
  · have hd : decide ((70000 : Int) < (s.size : Int)) = false := by simp; omega
    obtain ⟨X, K, l, hl, hT⟩ := tok_any (byt s)
    have HT1 : Hid (∀ w, Upd [] W w → Calls Tryz.prog 6 #[.string s] w (TokG X K l w)) := fun w hw => (Tokens_any s w (HG.out.mono hw)).mono fun e w' h => hT w e w' h
    have HT3 : Hid (∀ w, Calls Tryz.prog 7 #[.string s] w (TokG X K l w)) := fun w => (rTokens_any s w).mono fun e w' h => hT w e w' h
    clear hT
    go_enter Tryz.func3, Tryz.ntmps3
    go_wp2_with fail
    refine (HT1.out _ (Upd.refl [] W)).mono ?_
    rintro e w1 ⟨a1, c1, rfl, hO1, hU1⟩
    obtain ⟨u1, hu1⟩ : ∃ u1, u1 = w1.alloc (.cells #[.int .i64 X, .int .i64 K] 26) := ⟨_, rfl⟩
    have F1 : Blk u1 w1.heap.size #[.int .i64 X, .int .i64 K] 26 := by rw [hu1]; exact Blk.new _ _ _
    have V1 : Upd [] w1 u1 := by rw [hu1]; exact (Upd.refl [] w1).alloc _
    have HV1 : Hid (Upd [] W u1) := hU1.trans V1
    have HO1 : Hid (OT u1 (W.heap.size + 1) (.slice a1 l.length c1) l) := Own.upd hO1 V1 (by simp)
    have HL1 : Hid (∀ g, (Value.slice a1 l.length c1).ownBlock = some g → W.heap.size + 1 ≤ g ∧ g < w1.heap.size) := World.ownsRow.lt hO1
    have HF1 : Hid (Blk u1 w1.heap.size #[.int .i64 X, .int .i64 K] 26) := F1
    have HS1 : Hid (w1.heap.size < u1.heap.size) := F1.lt
    have HE1 : Hid (u1 = w1.alloc (.cells #[.int .i64 X, .int .i64 K] 26)) := hu1
    clear hO1 hU1 F1 V1 hu1
    go_wp2_with fail
    rw [← HE1.out]
    clear HE1
    refine (HT1.out _ HV1.out).mono ?_
    rintro e w2 ⟨a2, c2, rfl, hO2, hU2⟩
    obtain ⟨u2, hu2⟩ : ∃ u2, u2 = w2.alloc (.cells #[.int .i64 X, .int .i64 K] 26) := ⟨_, rfl⟩
    have F2 : Blk u2 w2.heap.size #[.int .i64 X, .int .i64 K] 26 := by rw [hu2]; exact Blk.new _ _ _
    have V2 : Upd [] w2 u2 := by rw [hu2]; exact (Upd.refl [] w2).alloc _
    have HV2 : Hid (Upd [] u1 u2) := hU2.trans V2
    have HO2 : Hid (OT u2 (u1.heap.size + 1) (.slice a2 l.length c2) l) := Own.upd hO2 V2 (by simp)
    have HL2 : Hid (∀ g, (Value.slice a2 l.length c2).ownBlock = some g → u1.heap.size + 1 ≤ g ∧ g < w2.heap.size) := World.ownsRow.lt hO2
    have HF2 : Hid (Blk u2 w2.heap.size #[.int .i64 X, .int .i64 K] 26) := F2
    have HS2 : Hid (w2.heap.size < u2.heap.size) := F2.lt
    have HE2 : Hid (u2 = w2.alloc (.cells #[.int .i64 X, .int .i64 K] 26)) := hu2
    clear hO2 hU2 F2 V2 hu2
    go_wp2_with fail
    rw [← HE2.out]
    clear HE2
    refine (HT3.out _).mono ?_
    rintro e w3 ⟨a3, c3, rfl, hO3, hU3⟩
    obtain ⟨u3, hu3⟩ : ∃ u3, u3 = w3.alloc (.cells #[.int .i64 X, .int .i64 K] 26) := ⟨_, rfl⟩
    have V3 : Upd [] w3 u3 := by rw [hu3]; exact (Upd.refl [] w3).alloc _
    have V23 : Upd [] u2 u3 := hU3.trans V3
    have F31 := (HF1.out.mono HV2.out (by simp)).mono V23 (by simp)
    have F32 := HF2.out.mono V23 (by simp)
    have y0 : u3.cell? ⟨w1.heap.size, 0, none⟩ = some (.int .i64 X) := F31.cell 0
    have y1 : u3.cell? ⟨w1.heap.size, 1, none⟩ = some (.int .i64 K) := F31.cell 1
    have y2 : u3.cell? ⟨w2.heap.size, 0, none⟩ = some (.int .i64 X) := F32.cell 0
    have y3 : u3.cell? ⟨w2.heap.size, 1, none⟩ = some (.int .i64 K) := F32.cell 1
    have HV3 : Hid (Upd [] u2 u3) := V23
    have HO3 : Hid (OT u3 (u2.heap.size + 1) (.slice a3 l.length c3) l) := Own.upd hO3 V3 (by simp)
    have HU3 : Hid (Upd [] W u3) := (HV1.out.trans HV2.out).trans V23
    have HE3 : Hid (u3 = w3.alloc (.cells #[.int .i64 X, .int .i64 K] 26)) := hu3
    rw [hu3] at y0 y1 y2 y3
    clear hO3 hU3 V3 V23 F31 F32 hu3
    go_wp2_with fail
    rw [← HE3.out]
    clear HE3 y0 y1 y2 y3
    have T1 : TokAt u3 a1 l := (OT.at HO1.out).mono (HV2.out.trans HV3.out)
    have T2 : TokAt u3 a2 l := (OT.at HO2.out).mono HV3.out
    have T3 : TokAt u3 a3 l := OT.at HO3.out
    have HT2' : Hid (TokAt u3 a2 l) := T2
    have HT3' : Hid (TokAt u3 a3 l) := T3
    refine (SameTokens_eq a1 a3 c1 c3 l _ (by omega) T1 T3).mono ?_
    rintro e w4 ⟨rfl, hU4⟩
    have HU4 : Hid (Upd [] u3 w4) := hU4
    clear T1 T2 T3 hU4
    go_wp2_with fail
    refine (SameTokens_eq a2 a3 c2 c3 l _ (by omega) (HT2'.out.mono HU4.out) (HT3'.out.mono HU4.out)).mono ?_
    rintro e w5 ⟨rfl, hU5⟩
    have HU5 : Hid (Upd [] u3 w5) := HU4.out.trans hU5
    clear hU5 HU4 HT2' HT3'
    obtain ⟨u6, hu6⟩ : ∃ u6, u6 = w5.alloc (.cells #[.slice a1 l.length c1, .slice a2 l.length c2] 23) := ⟨_, rfl⟩
    have V6 : Upd [] u3 u6 := by rw [hu6]; exact HU5.out.alloc _
    have hs6 : u3.heap.size ≤ w5.heap.size := HU5.out.size
    have hs3 : u2.heap.size ≤ u3.heap.size := HV3.out.size
    have hs2 : u1.heap.size ≤ u2.heap.size := HV2.out.size
    have hs1 := HS1.out
    have hs22 := HS2.out
    have hw2 : u1.heap.size ≤ u2.heap.size := HV2.out.size
    have HAp : Hid (Calls Tryz.prog 9 #[.slice (some ⟨w5.heap.size, 0, none⟩) 2 2] u6 fun e w' => e = .returned (.bool true) ∧ Below W.heap.size u6 w') := by
      refine ApartTokens_in u6 w5.heap.size 2 2 W.heap.size (two (.slice a1 l.length c1) (.slice a2 l.length c2)) (fun j => if j = 0 then l.length else l.length) (two_rows (T := 23) (by rw [hu6]; exact Blk.new _ _ _) (OT.rowG (Own.upd HO1.out ((HV2.out.trans HV3.out).trans V6) (by simp))) (OT.rowG (Own.upd HO2.out (HV3.out.trans V6) (by simp))) (fun g hg => ?_) (fun g h1 h2 => ?_)) (by omega) (by omega) (fun k _ => by simp; omega) (Nat.le_trans HU3.out.size V6.size) (fun k g hk hg => ?_)
      · rcases hg with hg | hg
        · have := HL1.out g hg; omega
        · have := HL2.out g hg; omega
      · have := HL1.out g h1; have := HL2.out g h2; omega
      · obtain rfl | rfl : k = 0 ∨ k = 1 := by omega
        · have := (HL1.out g hg).1; omega
        · have := (HL2.out g hg).1; have := HV1.out.size; omega
    have HU6 : Hid (Upd [] W u6) := HU3.out.trans V6
    have HE6 : Hid (u6 = w5.alloc (.cells #[.slice a1 l.length c1, .slice a2 l.length c2] 23)) := hu6
    clear hu6 V6 hs6 hs3 hs2 hs1 hs22 hw2 HO1 HO2 HO3 HL1 HL2 HF1 HF2 HS1 HS2 HV1 HV2 HV3 HU3 HU5 HT1 HT3
    go_wp2_with fail
    rw [← HE6.out]
    clear HE6
    refine HAp.out.mono ?_
    rintro e w7 ⟨rfl, hb7⟩
    have HU7 : Hid (Upd [] W w7) := HU6.out.below2 hb7
    clear hb7 HU6 HAp
    go_wp2_with fail
    refine (Words_any _ (HG.out.mono HU7.out)).mono ?_
    rintro e w8 ⟨rfl, hB8, hU8⟩
    have HU8 : Hid (Upd [] W w8) := HU7.out.trans hU8
    have HB8 : Hid (Blk w8 w7.heap.size wordsC 78) := hB8
    have hs8 : w7.heap.size < w8.heap.size := hB8.lt
    clear hU8 hB8
    go_wp2_with fail
    refine (Words_any _ (HG.out.mono HU8.out)).mono ?_
    rintro e w9 ⟨rfl, hB9, hU9⟩
    obtain ⟨u10, hu10⟩ : ∃ u10, u10 = w9.alloc (.cells #[.slice (some ⟨w7.heap.size, 0, none⟩) 19 19, .slice (some ⟨w8.heap.size, 0, none⟩) 19 19] 33) := ⟨_, rfl⟩
    have V10 : Upd [] w9 u10 := by rw [hu10]; exact (Upd.refl [] w9).alloc _
    have B8 := (HB8.out.mono hU9 (by simp)).mono V10 (by simp)
    have B9 := hB9.mono V10 (by simp)
    have hs9 : w8.heap.size < w9.heap.size := hB9.lt
    have h7 := HU7.out.size
    have HAt : Hid (Calls Tryz.prog 10 #[.slice (some ⟨w9.heap.size, 0, none⟩) 2 2] u10 fun e w' => e = .returned (.bool true) ∧ Below W.heap.size u10 w') := by
      refine ApartTexts_in u10 w9.heap.size 2 2 W.heap.size (two (.slice (some ⟨w7.heap.size, 0, none⟩) 19 19) (.slice (some ⟨w8.heap.size, 0, none⟩) 19 19)) (fun j => if j = 0 then 19 else 19) (two_rows (T := 33) (by rw [hu10]; exact Blk.new _ _ _) (words_row B8) (words_row B9) (fun g hg => ?_) (fun g h1 h2 => ?_)) (by omega) (by omega) (fun k _ => by simp) (Nat.le_trans HU8.out.size (Nat.le_trans hU9.size V10.size)) (fun k g hk hg => ?_)
      · simp only [Value.ownBlock, Option.some.injEq] at hg
        rcases hg with hg | hg <;> omega
      · simp only [Value.ownBlock, Option.some.injEq] at h1 h2
        omega
      · obtain rfl | rfl : k = 0 ∨ k = 1 := by omega
        · have : w7.heap.size = g := by simpa [two, Value.ownBlock] using hg
          omega
        · have : w8.heap.size = g := by simpa [two, Value.ownBlock] using hg
          omega
    have HU10 : Hid (Upd [] W u10) := (HU8.out.trans hU9).trans V10
    have HE10 : Hid (u10 = w9.alloc (.cells #[.slice (some ⟨w7.heap.size, 0, none⟩) 19 19, .slice (some ⟨w8.heap.size, 0, none⟩) 19 19] 33)) := hu10
    clear hu10 V10 B8 B9 hB9 hU9 HB8 HU8 HU7 h7
    go_wp2_with fail
    rw [← HE10.out]
    clear HE10
    refine HAt.out.mono ?_
    rintro e w11 ⟨rfl, hb11⟩
    have HU11 : Hid (Upd [] W w11) := HU10.out.below2 hb11
    clear hb11 HU10 HAt
    go_wp2_with fail
    refine (awake_any _ (HG.out.mono HU11.out)).mono ?_
    rintro e w12 ⟨rfl, hU12⟩
    go_wp2
    go_ret
    exact ⟨rfl, HU11.out.trans hU12⟩

end Go.Proofs.YtiapdapkklcliaaGreatDoor
