/- Tokens, by its contract. -/
import Derived.Test.YtiapdapkklcliaaGreatDoorTokM
import Derived.Deep.RegionHeld3
import Derived.Deep.AppendLies
namespace Go.Proofs.YtiapdapkklcliaaGreatDoor
open Go.RowKit

/-- What Tokens answers. -/
def TokPost (w : World) (T : Sc.Told) (e : Ending) (w' : World) : Prop :=
  Upd [] w w' ∧ match T with
    | .ok l => ∃ a c, e = .returned (.tuple #[.slice a l.length c, .agg #[.int .i64 0, .int .i64 0]]) ∧ OT w' (w.heap.size + 1) (.slice a l.length c) l
    | .fault x k => e = .returned (.tuple #[.slice none 0 0, .agg #[.int .i64 x, .int .i64 k]])
theorem TokPost.fault {w w' : World} {x k : Nat} (hU : Upd [] w w') : TokPost w (.fault x k) (.returned (.tuple #[.slice none 0 0, .agg #[.int .i64 x, .int .i64 k]])) w' := ⟨hU, rfl⟩

theorem info_fault : (Tryz.prog.info? 26).map (·.size) = some 2 := by kernel_rfl

set_option maxHeartbeats 2000000 in
set_option maxRecDepth 100000 in
theorem Tokens_long (s : ByteArray) (w : World) (h : 65536 < s.size) : Calls Tryz.prog 6 #[.string s] w (TokPost w (Sc.tokens (byt s))) := by
  have e0 : Sc.tokens (byt s) = .fault 3 0 := by unfold Sc.tokens; rw [if_pos (by rw [byt_len]; exact h)]
  rw [e0]
  have hd : (65536 : Int) < (s.size : Int) := by omega
  go_enter Tryz.func6, Tryz.ntmps6
  go_wp2
  exact ret_TS Tryz.results6 rfl _ _ _ rfl rfl (Blk.new w _ _) Tryz.underlying26 info_fault ⟨(Upd.refl [] w).alloc _, rfl⟩

set_option maxHeartbeats 4000000 in
set_option maxRecDepth 100000 in
theorem Tokens_short (s : ByteArray) (w : World) (h : s.size ≤ 65536) (hg : Glb w) : Calls Tryz.prog 6 #[.string s] w (TokPost w (Sc.tokens (byt s))) := by
  obtain ⟨i0, hi, hz0, hz1, hz2⟩ := info_parts info_tok
  obtain ⟨T, hT⟩ : ∃ T, T = Sc.tokens (byt s) := ⟨_, rfl⟩
  have hT2 : T = Sc.toks (Sc.gap (byt s)) ((byt s).drop (Sc.gap (byt s))) := by
    rw [hT]; unfold Sc.tokens Sc.toksG; rw [if_neg (by rw [byt_len]; omega), Nat.zero_add]
  rw [← hT]
  have HT : Hid (T = Sc.toks (Sc.gap (byt s)) ((byt s).drop (Sc.gap (byt s)))) := hT2
  have hgl := Sc.gap_le (byt s)
  rw [byt_len] at hgl
  have hd : decide ((65536 : Int) < (s.size : Int)) = false := by simp; omega
  have HG : Hid (Glb w) := hg
  clear hT hT2 hg
  go_enter Tryz.func6, Tryz.ntmps6
  go_wp2_with fail
  refine (gap_any s _ (by omega)).mono ?_
  rintro e w1 ⟨rfl, hU1⟩
  have hB1 := (Blk.new w #[.int .i64 0, .int .i64 0] 26).mono hU1 (by simp)
  have hU01 := ((Upd.refl [] w).alloc (.cells #[.int .i64 0, .int .i64 0] 26)).trans hU1
  clear hU1
  go_wp2_with fail
  go_loopw [4, 5, 6] (fun v i _ wr => ∃ (k : Nat) (l : List Sc.Tok) (a : Option Addr) (c : Nat), k ≤ s.size ∧ l.length ≤ k ∧ i = .int .i64 k ∧ v = .slice a l.length c ∧ OT wr (w.heap.size + 1) v l ∧ Blk wr w.heap.size #[.int .i64 0, .int .i64 0] 26 ∧ Upd [] w wr ∧
      T = pre l (Sc.toks k ((byt s).drop k))) (fun _ i _ _ => s.size - (intOf i).toNat)
  case atStart => exact ⟨Sc.gap (byt s), [], none, 0, hgl, by simp, rfl, rfl, Own.nil _ _ _ _, hB1, hU01, by rw [pre_nil]; exact HT.out⟩
  case round =>
    obtain ⟨k, l, a, c, hk, hlk, rfl, rfl, hO, hB, hU, hr⟩ := hrel
    have HR : Hid (T = pre l (Sc.toks k ((byt s).drop k))) := hr
    clear hr hB1 hU01 HT
    by_cases hlt : k < s.size
    · have i1 : (k : Int) < (s.size : Int) := by omega
      have hne : (byt s).drop k ≠ [] := by
        intro e
        have := congrArg List.length e
        rw [List.length_drop, byt_len] at this
        simp at this; omega
      have hbf := byt_from s k
      obtain ⟨F, hF⟩ : ∃ F, F = Sc.read ((byt s).drop k) := ⟨_, rfl⟩
      have HRd : Hid (∀ W, Upd [] w W → Calls Tryz.prog 20 #[.string (s.extract k s.size)] W fun e w' => e = .returned (.agg (fdC F)) ∧ Upd [] W w') := fun W hW => by
        rw [hF, ← hbf]
        exact read_any _ W (by rw [size_from]; omega) (by rw [size_from]; omega) (HG.out.mono hW)
      clear hbf
      cases F with
      | bad x =>
        have hx := Sc.read_err _ hne x hF.symm
        have HE : Hid (T = .fault x k) := by
          show T = .fault x k
          rw [HR.out, toks_bad k _ hne x hF.symm]; rfl
        have hx0 : ((x : Int) != 0) = true := by simp; omega
        clear hF HR hne
        go_wp2_with fail
        refine (HRd.out _ hU).mono ?_
        rintro e w2 ⟨rfl, hU2⟩
        have hB2 := hB.mono hU2 (by simp)
        have hU02 := hU.trans hU2
        have hlt2 := hB2.lt
        simp only [fdC]
        go_wp2_with fail
        obtain ⟨W, hW⟩ : ∃ W, W = w2.alloc (.cells #[.int .u8 0, .string ⟨#[]⟩, .int .i64 0, .int .i64 x] 49) := ⟨_, rfl⟩
        have hBW : Blk W w.heap.size #[.int .i64 0, .int .i64 0] 26 := by rw [hW]; exact hB2.mono ((Upd.refl [] w2).alloc _) (by simp)
        have hNW : Blk W w2.heap.size #[.int .u8 0, .string ⟨#[]⟩, .int .i64 0, .int .i64 x] 49 := by rw [hW]; exact Blk.new _ _ _
        have hUW : Upd [] w W := by rw [hW]; exact hU02.alloc _
        rw [← hW]
        clear hW
        have c0 : W.cell? ⟨w.heap.size, 0, none⟩ = some (.int .i64 0) := hBW.cell 0
        have c1 : W.cell? ⟨w.heap.size, 1, none⟩ = some (.int .i64 0) := hBW.cell 1
        have f0 : W.frozen? ⟨w.heap.size, 0, none⟩ = false := hBW.free 0
        have f1 : W.frozen? ⟨w.heap.size, 1, none⟩ = false := hBW.free 1
        have c3 : W.cell? ⟨w2.heap.size, 3, none⟩ = some (.int .i64 x) := hNW.cell 3
        go_region
        all_goals
          go_wp2
          rw [HE.out]
          exact ret_TS Tryz.results6 rfl _ #[.int .i64 x, .int .i64 k] _ rfl rfl ((hBW.set 0 (.int .i64 x)).set 1 (.int .i64 k)) Tryz.underlying26 info_fault (TokPost.fault ((((hUW.setCell (Or.inl (Nat.le_refl _)) _).setCell (Or.inl (Nat.le_refl _)) _).drew)))
      | tok kd t n =>
        have hsz := Sc.read_size _ _ _ _ hF.symm
        rw [List.length_drop, byt_len] at hsz
        have hmore := toks_tok k _ hne kd n t hF.symm
        rw [List.drop_drop, List.drop_drop] at hmore
        have hgp := Sc.gap_le ((byt s).drop (k + n))
        rw [List.length_drop, byt_len] at hgp
        obtain ⟨gp, hgpe⟩ : ∃ gp, gp = Sc.gap ((byt s).drop (k + n)) := ⟨_, rfl⟩
        rw [← hgpe] at hgp hmore
        have HN : Hid (T = pre (l ++ [⟨kd, t, k⟩]) (Sc.toks (k + n + gp) ((byt s).drop (k + n + gp)))) := by
          show T = pre (l ++ [⟨kd, t, k⟩]) (Sc.toks (k + n + gp) ((byt s).drop (k + n + gp)))
          rw [HR.out, hmore, pre_cons, Nat.add_assoc k n gp]
        have HGp : Hid (∀ W, Calls Tryz.prog 19 #[.string (s.extract (k + n) s.size)] W fun e w' => e = .returned (.int .i64 gp) ∧ Upd [] W w') := fun W => by
          rw [hgpe, ← byt_from]
          exact gap_any _ W (by rw [size_from]; omega)
        have htl := Sc.read_text _ _ _ _ hF.symm
        rw [List.length_drop, byt_len] at htl
        have hsl : (str t).size ≤ 281474976710656 := by rw [str_size]; omega
        clear hF HR hne hmore hgpe
        go_wp2_with fail
        refine (HRd.out _ hU).mono ?_
        rintro e w2 ⟨rfl, hU2⟩
        have hB2 := hB.mono hU2 (by simp)
        have hO2 : OT w2 (w.heap.size + 1) (.slice a l.length c) l := Own.upd hO hU2 (by simp)
        have hU02 := hU.trans hU2
        have hlt2 := hB2.lt
        simp only [fdC]
        go_wp2_with fail
        obtain ⟨W, hW⟩ : ∃ W, W = w2.alloc (.cells #[.int .u8 kd, .string (str t), .int .i64 n, .int .i64 0] 49) := ⟨_, rfl⟩
        have hBW : Blk W w.heap.size #[.int .i64 0, .int .i64 0] 26 := by rw [hW]; exact hB2.mono ((Upd.refl [] w2).alloc _) (by simp)
        have hNW : Blk W w2.heap.size #[.int .u8 kd, .string (str t), .int .i64 n, .int .i64 0] 49 := by rw [hW]; exact Blk.new _ _ _
        have hOW : OT W (w.heap.size + 1) (.slice a l.length c) l := by rw [hW]; exact Own.upd hO2 ((Upd.refl [] w2).alloc _) (by simp)
        have hUW : Upd [] w W := by rw [hW]; exact hU02.alloc _
        have hsW : w2.heap.size < W.heap.size := hNW.lt
        have HNE : Hid (∀ b, (Value.slice a l.length c).ownBlock = some b → w.heap.size + 1 ≤ b ∧ b < w2.heap.size) := World.ownsRow.lt hO2
        rw [← hW]
        clear hW hO hB hU hO2 hB2 hU02 hU2
        have c0 : W.cell? ⟨w2.heap.size, 0, none⟩ = some (.int .u8 kd) := hNW.cell 0
        have c1 : W.cell? ⟨w2.heap.size, 1, none⟩ = some (.string (str t)) := hNW.cell 1
        have HOW : Hid (OT W (w.heap.size + 1) (.slice a l.length c) l) := hOW
        have HUW : Hid (Upd [] w W) := hUW
        have HBW : Hid (Blk W w.heap.size #[.int .i64 0, .int .i64 0] 26) := hBW
        have HNW : Hid (Blk W w2.heap.size #[.int .u8 kd, .string (str t), .int .i64 n, .int .i64 0] 49) := hNW
        clear hOW hUW hBW hNW
        go_region_held3 (fun w' => w'.cell? ⟨w2.heap.size, 0, none⟩ = some (.int .u8 kd) ∧ w'.cell? ⟨w2.heap.size, 1, none⟩ = some (.string (str t)))
          (go_keep)
          (first
            | (go_at_call 21; refine (Clone_any _ _ hsl).mono ?_; rintro e w3 ⟨rfl, hU3⟩; have HU3 : Hid (Upd [] W w3) := Upd.trans (by repeat (first | exact Upd.refl _ _ | refine Upd.drew ?_)) hU3; clear hU3; have hN3 : Blk w3 w2.heap.size #[.int .u8 kd, .string (str t), .int .i64 n, .int .i64 0] 49 := Blk.mono HNW.out HU3.out (by simp); have HN3 : Hid (Blk w3 w2.heap.size #[.int .u8 kd, .string (str t), .int .i64 n, .int .i64 0] 49) := hN3; have d0 : w3.cell? ⟨w2.heap.size, 0, none⟩ = some (.int .u8 kd) := hN3.cell 0; have d1 : w3.cell? ⟨w2.heap.size, 1, none⟩ = some (.string (str t)) := hN3.cell 1; have hs3 : w2.heap.size < w3.heap.size := hN3.lt; clear hN3)
            | (refine step_append_lies _ rfl _ _ _ rfl (w.heap.size + 1) 43 i0 _ 3 32 Tryz.underlying23 hi hz0 hz1 hz2 rfl (by decide) (.slice a l.length c) l.length (toksC l) rfl ?hown ⟨w3.heap.size, 0, none⟩ 1 1 [.int .u8 kd, .string (str t), .int .i64 k] rfl ?hl ?hnews ?h1 (by omega) ?h63 ?hbytes ?hbase _ rfl ?hfin
               case hown => exact World.ownsRow.alloc (Own.upd HOW.out HU3.out (by simp)) _
               case hl => rfl
               case hnews => exact World.news_of_block (heap_alloc_new _ _)
               case h1 => intro u hu; simp at hu; rcases hu with rfl | rfl | rfl <;> rfl
               case h63 => unfold maxLen; omega
               case hbytes => omega
               case hbase => simp; omega
               intro g cap w5 hown hgrow hat hlt5
               have HO5 : Hid (OT w5 (w.heap.size + 1) (.slice (some ⟨g, 0, none⟩) (l.length + 1) cap) (l ++ [⟨kd, t, k⟩])) := OT.snoc hown
               have HU5 : Hid (Upd [] w w5) := Own.grown (Own.upd HOW.out HU3.out (by simp)) (Upd.trans HUW.out HU3.out) _ hgrow (by omega)
               have HB5 : Hid (Blk w5 w.heap.size #[.int .i64 0, .int .i64 0] 26) := Own.blk (Own.upd HOW.out HU3.out (by simp)) _ hgrow (Blk.mono HBW.out HU3.out (by simp)) (by omega)
               have hN5 : Blk w5 w2.heap.size #[.int .u8 kd, .string (str t), .int .i64 n, .int .i64 0] 49 := (hgrow.block w2.heap.size (by simp; omega) (fun e => by have := (HNE.out _ e.symm).2; omega)).trans ((Below.heap_alloc w3 _ _ hs3).trans HN3.out)
               have e0 : w5.cell? ⟨w2.heap.size, 0, none⟩ = some (.int .u8 kd) := hN5.cell 0
               have e1 : w5.cell? ⟨w2.heap.size, 1, none⟩ = some (.string (str t)) := hN5.cell 1
               have e2 : w5.cell? ⟨w2.heap.size, 2, none⟩ = some (.int .i64 n) := hN5.cell 2
               clear hown hgrow hat hN5))
        all_goals
          go_wp2_with fail
          refine (HGp.out _).mono ?_
          rintro e w6 ⟨rfl, hU6⟩
          have hO6 : OT w6 (w.heap.size + 1) (.slice (some ⟨g, 0, none⟩) (l.length + 1) cap) (l ++ [⟨kd, t, k⟩]) := Own.upd HO5.out hU6 (by simp)
          have hB6 := HB5.out.mono hU6 (by simp)
          have hU06 := HU5.out.trans hU6
          go_wp2
          go_roundw
          case rel => exact ⟨k + n + gp, l ++ [⟨kd, t, k⟩], some ⟨g, 0, none⟩, cap, by omega, by simp; omega, by go_num, by simp, hO6, hB6, hU06, HN.out⟩
          case measure => simp [intOf]; omega
    · have hd2 : decide ((k : Int) < (s.size : Int)) = false := by simp; omega
      have hkk : k = s.size := by omega
      have HE : Hid (T = .ok (l ++ [⟨8, [], s.size⟩])) := by
        show T = .ok (l ++ [⟨8, [], s.size⟩])
        rw [HR.out, toks_end _ _ (List.drop_of_length_le (by rw [byt_len]; omega)), hkk]; rfl
      have hown : wr.ownsRow (w.heap.size + 1) 43 3 _ l.length (toksC l) := hO
      have hsw := hB.lt
      clear HR hkk
      have HE2 : Hid (OT wr (w.heap.size + 1) (.slice a l.length c) l) := hO
      have HB2 : Hid (Blk wr w.heap.size #[.int .i64 0, .int .i64 0] 26) := hB
      have HU2 : Hid (Upd [] w wr) := hU
      clear hO hB hU
      go_wp2_with (first
        | (at_builtin; refine wpList_append_own _ rfl _ _ 23 rfl (w.heap.size + 1) 43 i0 _ 3 32 Tryz.underlying23 hi hz0 hz1 hz2 rfl (by decide) (.slice a l.length c) _ _ rfl (hown.alloc _) ⟨wr.heap.size, 0, none⟩ 1 1 [.int .u8 8, .string ⟨#[]⟩, .int .i64 s.size] rfl rfl (World.news_of_block (heap_alloc_new _ _)) (by intro u hu; simp at hu; rcases hu with rfl | rfl | rfl <;> rfl) (by unfold maxLen; omega) (by omega) (by simp; omega) ?_; intro v' w3 hown' hgrow _; have hB3 := Own.blk HE2.out _ hgrow HB2.out (by omega); have HU3 : Hid (Upd [] w w3) := Own.grown HE2.out HU2.out _ hgrow (by omega); clear hgrow)
        | (refine store_S _ rfl 26 _ _ rfl _ _ _ rfl rfl hB3 info_fault rfl (by simp [Value.oneCell']) ?_; intro w4 hB4 hU4))
      have hO3 : OT w3 (w.heap.size + 1) v' (l ++ [⟨8, [], s.size⟩]) := OT.snoc hown'
      obtain ⟨a3, c3, hv3, _⟩ := Own.form hO3
      subst hv3
      rw [HE.out]
      exact ret_TS Tryz.results6 rfl _ _ _ rfl rfl hB4 Tryz.underlying26 info_fault ⟨HU3.out.then hU4 (by simp), a3, c3, rfl, Own.upd hO3 hU4 (by simp)⟩

theorem Tokens_any (s : ByteArray) (w : World) (hg : Glb w) : Calls Tryz.prog 6 #[.string s] w (TokPost w (Sc.tokens (byt s))) := by
  by_cases h : 65536 < s.size
  · exact Tokens_long s w h
  · exact Tokens_short s w (by omega) hg

end Go.Proofs.YtiapdapkklcliaaGreatDoor
