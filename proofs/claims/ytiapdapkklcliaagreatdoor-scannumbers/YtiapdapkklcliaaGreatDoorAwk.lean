/- The chapter's examples: awake, by its contract. -/
import Derived.Test.YtiapdapkklcliaaGreatDoorSamK
import Derived.Test.YtiapdapkklcliaaGreatDoorScD
namespace Go.Proofs.YtiapdapkklcliaaGreatDoor
open Go.RowKit

set_option maxHeartbeats 400000 in
theorem token_any (k p : Int) (s : ByteArray) (w : World) : Calls Tryz.prog 16 #[.int .u8 k, .string s, .int .i64 p] w fun e w' => e = .returned (.agg #[.int .u8 k, .string s, .int .i64 p]) ∧ Upd [] w w' := by
  go_enter Tryz.func16, Tryz.ntmps16
  go_wp2
  exact ret_S Tryz.results16 rfl _ _ rfl (Blk.new w _ _) Tryz.underlying43 (by kernel_rfl) ⟨rfl, (Upd.refl [] w).alloc _⟩

set_option maxHeartbeats 1000000 in
set_option maxRecDepth 100000 in
theorem is_any (s : ByteArray) (L : List Sc.Tok) (a : Option Addr) (c : Nat) (w : World) (hT : Sc.tokens (byt s) = .ok L) (HA : TokAt w a L) (hg : Glb w) :
    Calls Tryz.prog 15 #[.string s, .slice a L.length c] w fun e w' => e = .returned (.bool true) ∧ Upd [] w w' := by
  have hl := Sc.tokens_len _ _ hT
  rw [byt_len] at hl
  have h := Tokens_any s w hg
  rw [hT] at h
  have HT : Hid (Calls Tryz.prog 6 #[.string s] w (TokPost w (.ok L))) := h
  have HAA : Hid (TokAt w a L) := HA
  clear h HA hg hT
  go_enter Tryz.func15, Tryz.ntmps15
  go_wp2_with fail
  refine HT.out.mono ?_
  rintro e w1 ⟨hU1, a1, c1, rfl, hO⟩
  go_wp2_with fail
  refine (SameTokens_eq a1 a c1 c L _ (by omega) ((OT.at hO).mono ((Upd.refl [] w1).alloc _)) (HAA.out.mono (hU1.alloc _))).mono ?_
  rintro e w2 ⟨rfl, hU2⟩
  go_wp2
  go_ret
  exact ⟨rfl, (hU1.alloc _).trans hU2⟩

set_option maxHeartbeats 1000000 in
set_option maxRecDepth 100000 in
theorem fault_any (s : ByteArray) (x k : Nat) (X K : Int) (w : World) (hT : Sc.tokens (byt s) = .fault x k) (hX : X = x) (hK : K = k) (hg : Glb w) :
    Calls Tryz.prog 18 #[.string s, .int .i64 X, .int .i64 K] w fun e w' => e = .returned (.bool true) ∧ Upd [] w w' := by
  subst hX hK
  have h := Tokens_any s w hg
  rw [hT] at h
  have HT : Hid (Calls Tryz.prog 6 #[.string s] w (TokPost w (.fault x k))) := h
  clear h hg hT
  go_enter Tryz.func18, Tryz.ntmps18
  go_wp2_with fail
  refine HT.out.mono ?_
  rintro e w1 ⟨hU1, rfl⟩
  go_wp2
  go_ret
  exact ⟨rfl, hU1.alloc _⟩

/-- The words, in a block of their own. -/
theorem info_words : (Tryz.prog.info? 78).map (·.size) = some wordsC.size := by kernel_rfl
theorem words_one : wordsC.all (·.oneCell') = true := by kernel_rfl
theorem words_size : wordsC.size = 19 := by kernel_rfl
set_option maxHeartbeats 1000000 in
set_option maxRecDepth 100000 in
theorem Words_any (w : World) (hg : Glb w) : Calls Tryz.prog 11 #[] w fun e w' => e = .returned (.slice (some ⟨w.heap.size, 0, none⟩) 19 19) ∧ Blk w' w.heap.size wordsC 78 ∧ Upd [] w w' := by
  obtain ⟨tt, fr, hh⟩ := hg.words
  clear hg
  go_enter Tryz.func11, Tryz.ntmps11
  go_wp2_with (first | (refine wpList_load_row rfl 78 _ rfl 0 rfl tt _ fr _ hh Tryz.underlying78 rfl (by kernel_rfl) ?_) | (refine store_S _ rfl 78 _ _ rfl _ wordsC _ rfl rfl (Blk.new w _ _) info_words (by rw [words_size]; rfl) words_one ?_; intro w1 hB1 hU1))
  go_ret
  exact ⟨rfl, hB1, ((Upd.refl [] w).alloc _).then hU1 (by simp)⟩

def exToks : List Sc.Tok := [⟨2, [102], 0⟩, ⟨5, [40], 1⟩, ⟨3, [88], 2⟩, ⟨5, [41], 3⟩, ⟨5, [45, 62], 5⟩, ⟨2, [97, 32, 98], 8⟩, ⟨7, [46], 13⟩, ⟨8, [], 20⟩]
theorem ex_is : Sc.tokens [102, 40, 88, 41, 32, 45, 62, 32, 39, 97, 32, 98, 39, 46, 32, 37, 32, 101, 110, 100] = .ok exToks := by decide +kernel
theorem ex_f1 : Sc.tokens [49, 46, 53] = .fault 200 1 := by decide +kernel
theorem ex_f2 : Sc.tokens [49, 97] = .fault 201 0 := by decide +kernel
theorem ex_f3 : Sc.tokens [39, 97] = .fault 201 0 := by decide +kernel
theorem ex_f4 : Sc.tokens [97, 63] = .fault 200 1 := by decide +kernel

/-- A row of tokens that lies in one block. -/
theorem TokAt.blk {w : World} {g : Nat} {cs : Array Value} {t : TypeId} {l : List Sc.Tok} (h : Blk w g cs t) (hc : ∀ i (hi : i < l.length), cs[i * 3]? = some (.int .u8 l[i].kind) ∧ cs[i * 3 + 1]? = some (.string (str l[i].text)) ∧ cs[i * 3 + 2]? = some (.int .i64 l[i].place)) : TokAt w (some ⟨g, 0, none⟩) l :=
  Or.inr ⟨g, 0, rfl, h.lt, fun i hi => by
    obtain ⟨h1, h2, h3⟩ := hc i hi
    rw [Nat.zero_add, h.cell, h.cell, h.cell]
    exact ⟨h1, h2, h3⟩⟩

theorem is_ex (g : Nat) (w : World) (h : Blk w g #[.int .u8 2, .string ⟨#[102]⟩, .int .i64 0, .int .u8 5, .string ⟨#[40]⟩, .int .i64 1, .int .u8 3, .string ⟨#[88]⟩, .int .i64 2, .int .u8 5, .string ⟨#[41]⟩, .int .i64 3, .int .u8 5, .string ⟨#[45, 62]⟩, .int .i64 5, .int .u8 2, .string ⟨#[97, 32, 98]⟩, .int .i64 8, .int .u8 7, .string ⟨#[46]⟩, .int .i64 13, .int .u8 8, .string ⟨#[]⟩, .int .i64 20] 43) (hg : Glb w) :
    Calls Tryz.prog 15 #[.string ⟨#[102, 40, 88, 41, 32, 45, 62, 32, 39, 97, 32, 98, 39, 46, 32, 37, 32, 101, 110, 100]⟩, .slice (some ⟨g, 0, none⟩) 8 8] w fun e w' => e = .returned (.bool true) ∧ Upd [] w w' := by
  refine is_any _ exToks _ 8 w ex_is (TokAt.blk h (fun i hi => ?_)) hg
  obtain rfl | rfl | rfl | rfl | rfl | rfl | rfl | rfl : i = 0 ∨ i = 1 ∨ i = 2 ∨ i = 3 ∨ i = 4 ∨ i = 5 ∨ i = 6 ∨ i = 7 := by
    have : i < 8 := hi
    omega
  all_goals exact ⟨rfl, rfl, rfl⟩

set_option maxHeartbeats 2000000 in
set_option maxRecDepth 100000 in
theorem awake_any (w : World) (hg : Glb w) : Calls Tryz.prog 5 #[] w fun e w' => e = .returned (.bool true) ∧ Upd [] w w' := by
  have HG : Hid (Glb w) := hg
  clear hg
  go_enter Tryz.func5, Tryz.ntmps5
  go_wp2_with fail
  refine (token_any _ _ _ _).mono ?_
  rintro e w1 ⟨rfl, hU1⟩
  go_wp2_with fail
  refine (token_any _ _ _ _).mono ?_
  rintro e w2 ⟨rfl, hU2⟩
  go_wp2_with fail
  refine (token_any _ _ _ _).mono ?_
  rintro e w3 ⟨rfl, hU3⟩
  go_wp2_with fail
  refine (token_any _ _ _ _).mono ?_
  rintro e w4 ⟨rfl, hU4⟩
  go_wp2_with fail
  refine (token_any _ _ _ _).mono ?_
  rintro e w5 ⟨rfl, hU5⟩
  go_wp2_with fail
  refine (token_any _ _ _ _).mono ?_
  rintro e w6 ⟨rfl, hU6⟩
  go_wp2_with fail
  refine (token_any _ _ _ _).mono ?_
  rintro e w7 ⟨rfl, hU7⟩
  go_wp2_with fail
  refine (token_any _ _ _ _).mono ?_
  rintro e w8 ⟨rfl, hU8⟩
  have U8 := ((((((hU1.trans hU2).trans hU3).trans hU4).trans hU5).trans hU6).trans hU7).trans hU8
  have HU8 : Hid (Upd [] w w8) := U8
  clear hU1 hU2 hU3 hU4 hU5 hU6 hU7 hU8 U8
  go_wp2_with fail
  refine (is_ex _ _ (Blk.new w8 _ _) (HG.out.mono (HU8.out.alloc _))).mono ?_
  rintro e w9 ⟨rfl, hU9⟩
  have HU9 : Hid (Upd [] w w9) := (HU8.out.alloc _).trans hU9
  clear hU9 HU8
  go_wp2_with fail
  refine (fault_any ⟨#[49, 46, 53]⟩ 200 1 _ _ _ ex_f1 rfl rfl (HG.out.mono HU9.out)).mono ?_
  rintro e w10 ⟨rfl, hU10⟩
  have HU10 : Hid (Upd [] w w10) := HU9.out.trans hU10
  clear hU10 HU9
  go_wp2_with fail
  refine (fault_any ⟨#[49, 97]⟩ 201 0 _ _ _ ex_f2 rfl rfl (HG.out.mono HU10.out)).mono ?_
  rintro e w11 ⟨rfl, hU11⟩
  have HU11 : Hid (Upd [] w w11) := HU10.out.trans hU11
  clear hU11 HU10
  go_wp2_with fail
  refine (fault_any ⟨#[39, 97]⟩ 201 0 _ _ _ ex_f3 rfl rfl (HG.out.mono HU11.out)).mono ?_
  rintro e w12 ⟨rfl, hU12⟩
  have HU12 : Hid (Upd [] w w12) := HU11.out.trans hU12
  clear hU12 HU11
  go_wp2_with fail
  refine (fault_any ⟨#[97, 63]⟩ 200 1 _ _ _ ex_f4 rfl rfl (HG.out.mono HU12.out)).mono ?_
  rintro e w13 ⟨rfl, hU13⟩
  have HU13 : Hid (Upd [] w w13) := HU12.out.trans hU13
  clear hU13 HU12
  go_wp2_with fail
  refine (Words_any _ (HG.out.mono HU13.out)).mono ?_
  rintro e w14 ⟨rfl, _, hU14⟩
  have HU14 : Hid (Upd [] w w14) := HU13.out.trans hU14
  clear hU14 HU13
  go_wp2
  go_ret
  exact ⟨rfl, HU14.out⟩

end Go.Proofs.YtiapdapkklcliaaGreatDoor
