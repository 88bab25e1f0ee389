/- The frame of the rows: a term that came in, opened; the world of the witness. -/
import Derived.Test.YtalhbbabijlngaaGreatDoorJAA
import Derived.Test.YtalhbbabijlngaaGreatDoorRows
import Derived.ProofKit
import Derived.OpenShut
import Derived.Lib.SmallJoins
import Derived.Deep.DeepHandedRow
import Derived.Lib.LaidTab
import Derived.Carry
import Derived.Shelf.Strings.BuilderK
import Derived.Deep.AppendSrc
import Derived.Deep.RegionWith
namespace Go.Proofs.YtalhbbabijlngaaGreatDoor
open Go.ChangeShapes Go.WideShapes Go.ChangeAt Go.RowKit Go.Joins
theorem array7 {α : Type} {cs : Array α} (h : cs.size = 7) : ∃ c0 c1 c2 c3 c4 c5 c6, cs = #[c0, c1, c2, c3, c4, c5, c6] := by
 obtain ⟨l⟩ := cs
 match l, h with
 | [c0, c1, c2, c3, c4, c5, c6], _ => exact ⟨c0, c1, c2, c3, c4, c5, c6, rfl⟩
theorem cells_kind : Tryz.prog.cellsOf 22 = 1 := by kernel_rfl
theorem cells_bool : Tryz.prog.cellsOf 4 = 1 := by kernel_rfl
theorem cells_u32s : Tryz.prog.cellsOf 23 = 1 := by kernel_rfl
theorem cells_u32 : Tryz.prog.cellsOf 47 = 1 := by kernel_rfl
theorem cells_str : Tryz.prog.cellsOf 9 = 1 := by kernel_rfl
theorem cells_int : Tryz.prog.cellsOf 3 = 1 := by kernel_rfl
theorem cells_terms : Tryz.prog.cellsOf 24 = 1 := by kernel_rfl
theorem cells_term : Tryz.prog.cellsOf 26 = 7 := by kernel_rfl
theorem laidOut : laidOutB Tryz.prog = true := by kernel_rfl
theorem own : ownKnob Tryz.prog.godebug = none := by kernel_rfl
theorem slice_len {H : Type} {enc : TypeId × Value → H} {W : World} {base fuel : Nat} {spare : Nat → Bool} {held : Bool} {t e : TypeId} {v : Value} {x : DataW H × List MemPlace} (ht : Tryz.prog.underlying t = some (.slice e))
  (h : DataW.trod enc Tryz.prog W base spare held fuel t [v] = some x) : ∃ a n c, v = .slice a n c ∧ n ≤ 9223372036854775807 := by
 rcases DataW.trod_slice ht h with ⟨hcs, _⟩ | ⟨a, len, cap, elems, rest, n, _, hcs, _, hb, hl, hm, _⟩
 ·exact ⟨none, 0, 0, by simpa using hcs, by omega⟩
 ·refine ⟨some a, len, cap, by simpa using hcs, ?_⟩
  unfold maxLen at hm; omega
set_option maxRecDepth 100000 in
theorem open_term {H : Type} {enc : TypeId × Value → H} {W : World} {base : Nat} {v : Value} {d : DataW H} {p : List MemPlace} (hv : Value.okWide Tryz.prog W .any base 26 v)
  (h : DataW.Trod enc Tryz.prog W 0 (fun _ => true) true 26 v d p) (_hlt : ∀ x ∈ p, x.block < W.heap.size) :
  ∃ (k num : Int) (neg : Bool) (a ai at' : Option Addr) (L : List Nat) (c ni ci nt ct : Nat) (s : ByteArray),
   v = .agg #[.int .u8 k, .bool neg, .slice a L.length c, .string s, .int .i64 num, .slice ai ni ci, .slice at' nt ct] ∧ At W a L ∧ Dig L ∧ L.length ≤ 9223372036854775807 ∧ ni ≤ 9223372036854775807 ∧ nt ≤ 9223372036854775807 := by
 obtain ⟨cs, rfl, hsz⟩ := okWide_struct Tryz.underlying26 hv
 obtain ⟨c0, c1, c2, c3, c4, c5, c6, rfl⟩ := array7 (hsz.trans cells_term)
 obtain ⟨fuel, hf⟩ := h
 obtain ⟨xs, n, _, hx, _, hlen, hfs⟩ := DataW.trod_struct Tryz.underlying26 hf
 have f0 : DataW.trod enc Tryz.prog W 0 (fun _ => true) true n 22 (List.take (Tryz.prog.cellsOf 22) (List.drop 0 [c0, c1, c2, c3, c4, c5, c6])) = xs[0]? := hfs 0 _ rfl
 have f1 : DataW.trod enc Tryz.prog W 0 (fun _ => true) true n 4 (List.take (Tryz.prog.cellsOf 4) (List.drop 1 [c0, c1, c2, c3, c4, c5, c6])) = xs[1]? := hfs 1 _ rfl
 have f2 : DataW.trod enc Tryz.prog W 0 (fun _ => true) true n 23 (List.take (Tryz.prog.cellsOf 23) (List.drop 2 [c0, c1, c2, c3, c4, c5, c6])) = xs[2]? := hfs 2 _ rfl
 have f3 : DataW.trod enc Tryz.prog W 0 (fun _ => true) true n 9 (List.take (Tryz.prog.cellsOf 9) (List.drop 3 [c0, c1, c2, c3, c4, c5, c6])) = xs[3]? := hfs 3 _ rfl
 have f4 : DataW.trod enc Tryz.prog W 0 (fun _ => true) true n 3 (List.take (Tryz.prog.cellsOf 3) (List.drop 4 [c0, c1, c2, c3, c4, c5, c6])) = xs[4]? := hfs 4 _ rfl
 have f5 : DataW.trod enc Tryz.prog W 0 (fun _ => true) true n 24 (List.take (Tryz.prog.cellsOf 24) (List.drop 5 [c0, c1, c2, c3, c4, c5, c6])) = xs[5]? := hfs 5 _ rfl
 have f6 : DataW.trod enc Tryz.prog W 0 (fun _ => true) true n 24 (List.take (Tryz.prog.cellsOf 24) (List.drop 6 [c0, c1, c2, c3, c4, c5, c6])) = xs[6]? := hfs 6 _ rfl
 have hl7 : xs.length = 7 := hlen
 simp only [cells_kind, cells_bool, cells_u32s, cells_str, cells_int, cells_terms, List.drop_succ_cons, List.drop_zero, List.take_succ_cons, List.take_zero] at f0 f1 f2 f3 f4 f5 f6
 rw [List.getElem?_eq_getElem (by omega)] at f0 f1 f2 f3 f4 f5 f6
 obtain ⟨k, e0, _, _⟩ := DataW.trod_int Tryz.underlying22 f0
 obtain ⟨neg, e1, _⟩ := DataW.trod_bool Tryz.underlying4 f1
 obtain ⟨s, e3, _, _⟩ := DataW.trod_string Tryz.underlying9 f3
 obtain ⟨num, e4, _, _⟩ := DataW.trod_int Tryz.underlying3 f4
 obtain ⟨ai, ni, ci, e5, hni⟩ := slice_len Tryz.underlying24 f5
 obtain ⟨at', nt, ct, e6, hnt⟩ := slice_len Tryz.underlying24 f6
 simp only [List.cons.injEq, and_true] at e0 e1 e3 e4
 subst e0 e1 e3 e4 e5 e6
 rcases open_ints Tryz.underlying23 Tryz.underlying47 cells_u32 f2 with ⟨hcs, _⟩ | ⟨a, len, cap, zs, hcs, _, hl, hm, hz, hx2, hcell, hwz⟩
 ·simp only [List.cons.injEq, and_true] at hcs
  subst hcs
  exact ⟨k, num, neg, none, ai, at', [], 0, ni, ci, nt, ct, s, rfl, At.nil _ _, Dig.nil, by simp, hni, hnt⟩
 ·simp only [List.cons.injEq, and_true] at hcs
  subst hcs
  simp only [if_true] at hz
  have hwf : ∀ z ∈ zs, 0 ≤ z ∧ z < 4294967296 := fun z hz => by
   have := bounds_u32 (hwz z hz); omega
  have hlen2 : ((zs.take len).map Int.toNat).length = len := by simp; omega
  refine ⟨k, num, neg, some a, ai, at', (zs.take len).map Int.toNat, cap, ni, ci, nt, ct, s, by rw [hlen2], ?_, ?_, by rw [hlen2]; unfold maxLen at hm; omega, hni, hnt⟩
  ·by_cases h0 : len = 0
   ·exact Or.inl (by subst h0; simp)
   ·obtain ⟨b, off, spot⟩ := a
    have hspot : spot = none := by simpa [Addr.add] using World.cell?_spot (hcell 0 (by omega))
    subst hspot
    refine Or.inr ⟨b, off, rfl, ?_, fun i hi => ?_⟩
    ·have := World.block_lt_of_cell? _ _ (hcell 0 (by omega))
     simpa [Addr.add] using this
    ·rw [hlen2] at hi
     have h1 := hcell i (by omega)
     rw [Addr.add_lit] at h1
     rw [h1]
     have h2 : i < zs.length := by omega
     have h3 := hwf zs[i] (List.getElem_mem h2)
     simp [List.getD, hi, h2]
     omega
  ·intro z hz2
   obtain ⟨y, hy, rfl⟩ := List.mem_map.1 hz2
   have := hwf y (List.mem_of_mem_take hy)
   omega
end Go.Proofs.YtalhbbabijlngaaGreatDoor
namespace Go.Proofs.YtalhbbabijlngaaGreatDoor
open Go.RowKit Go.Shelf
theorem sizeBld : (Tryz.prog.info? 54).map (·.size) = some 2 := by kernel_rfl
theorem liesBld : liesAt Tryz.prog Tryz.prog.depth 54 (2 / Tryz.prog.cellsOf 54) 0 54 1 = true := by kernel_rfl
theorem infoByte : (Tryz.prog.info? 5).map (fun i => (i.zero, i.size, i.bytes)) = some (some (.int .u8 0), 1, 1) := by kernel_rfl
set_option maxHeartbeats 1000000 in
set_option maxRecDepth 100000 in
theorem check_used (b : Nat) (w : World) (h0 : w.cell? ⟨b, 0, none⟩ = some (.pointer (some ⟨b, 0, none⟩))) :
  Calls Tryz.prog 74 #[.pointer (some ⟨b, 0, none⟩)] w fun e w' => e = .returned (.tuple #[]) ∧ w' = w := by
 obtain ⟨j, hj, _⟩ := Option.map_eq_some_iff.1 sizeBld
 go_enter Tryz.func74, Tryz.ntmps74
 go_wp2
 rw [Lib.run_neq_ptr_same w _ Tryz.underlying51 hj]
 go_wp2
 go_end0
 exact ⟨rfl, rfl⟩
set_option maxHeartbeats 1000000 in
set_option maxRecDepth 100000 in
theorem check_fresh (b : Nat) (w : World) (h0 : w.cell? ⟨b, 0, none⟩ = some (.pointer none)) (hsh : w.shape? b = some (54, 2)) (hfz : w.frozen? ⟨b, 0, none⟩ = false) :
  Calls Tryz.prog 74 #[.pointer (some ⟨b, 0, none⟩)] w fun e w' => e = .returned (.tuple #[]) ∧ w' = w.setCell ⟨b, 0, none⟩ (.pointer (some ⟨b, 0, none⟩)) := by
 obtain ⟨j, hj, hjs⟩ := Option.map_eq_some_iff.1 sizeBld
 go_enter Tryz.func74, Tryz.ntmps74
 go_wp2
 rw [Lib.run_to_unsafe w ⟨b, 0, none⟩ Tryz.underlying51 Tryz.underlying135 hj (by rw [hjs]; decide) hsh (Nat.zero_lt_succ 1)]
 simp only [Result.andThen]
 rw [Oper.upon_value]
 go_wp2
 rw [run_callFunc_extern Tryz.func128 (by kernel_rfl) (by kernel_rfl) (by kernel_rfl) (e := Extern.AbiNoEscape.same) (by kernel_rfl)]
 rw [Lib.run_noEscape]
 simp only [Result.andThen]
 rw [Oper.upon_value]
 go_wp2
 rw [Lib.run_from_unsafe w ⟨b, 0, none⟩ Tryz.underlying135 Tryz.underlying51 hj hsh liesBld]
 simp only [Result.andThen]
 rw [Oper.upon_value]
 go_wp2
 go_end0
 exact ⟨rfl, rfl⟩
def Bd (w : World) (b : Nat) (bs : List Value) : Prop := Lib.IsBuilderF 54 5 b b bs w
structure Kp (b : Nat) (w w' : World) : Prop where
 below : Below b w w'
 others : Lib.OthersKept 5 (some b) w w'
theorem Kp.refl (b : Nat) (w : World) : Kp b w w := ⟨Below.refl b w, Lib.OthersKept.refl _ _ w⟩
theorem Kp.trans {b : Nat} {w1 w2 w3 : World} (h : Kp b w1 w2) (k : Kp b w2 w3) : Kp b w1 w3 := ⟨h.below.trans k.below, h.others.trans k.others⟩
theorem check_any (b : Nat) (bs : List Value) (w : World) (h : Bd w b bs) :
  Calls Tryz.prog 74 #[.pointer (some ⟨b, 0, none⟩)] w fun e w' => e = .returned (.tuple #[]) ∧ Lib.BuilderAtF 54 5 b b (.pointer (some ⟨b, 0, none⟩)) bs w' ∧ Kp b w w' := by
 rcases h with h | h
 ·refine (check_fresh b w h.cell0 h.shape h.frozen0).mono ?_
  rintro e w' ⟨rfl, rfl⟩
  exact ⟨rfl, h.used _, (Below.refl b w).setCell (p := ⟨b, 0, none⟩) h.1 _, (Lib.OthersKept.refl _ _ w).setCell ⟨b, 0, none⟩ rfl _⟩
 ·refine (check_used b w h.cell0).mono ?_
  rintro e w' ⟨rfl, rfl⟩
  exact ⟨rfl, h, Kp.refl _ _⟩
theorem ne_b8 : (54 : TypeId) ≠ 5 := by decide
set_option maxHeartbeats 2000000 in
set_option maxRecDepth 100000 in
theorem WriteString_any (b : Nat) (bs : List Value) (s : ByteArray) (w : World) (h : Bd w b bs) (hlen : bs.length + s.size ≤ 140737488355328) :
  Calls Tryz.prog 43 #[.pointer (some ⟨b, 0, none⟩), .string s] w fun e w' => e = .returned (.tuple #[.int .i64 s.size, .nilIface]) ∧ Bd w' b (bs ++ Lib.strCells s) ∧ Kp b w w' := by
 obtain ⟨i0, hi, hz0, hz1, hz2⟩ := info_parts infoByte
 have hBw : b ≤ w.heap.size := by rcases h with h | h <;> exact Nat.le_of_lt h.lt
 go_enter Tryz.func43, Tryz.ntmps43
 go_wp2_with (go_at_call 74; refine (check_any b bs _ h).mono ?_)
 rintro e w1 ⟨rfl, h1, hb1, hk1⟩
 obtain ⟨hB, v, hbk, hown, hne⟩ := h1
 have c0 : w1.cell? ⟨b, 0, none⟩ = some (.pointer (some ⟨b, 0, none⟩)) := by rw [Lib.cell_of_heap hbk]; rfl
 have c1 : w1.cell? ⟨b, 1, none⟩ = some v := by rw [Lib.cell_of_heap hbk]; rfl
 go_wp2_with (at_builtin; refine Lib.wpList_append_own_stringF _ rfl _ _ 52 9 rfl b 5 i0 Tryz.underlying52 Tryz.underlying9 hi hz0 hz1 hz2 _ _ _ rfl hown s rfl ?c3 ?c4 ?c5 ?_)
 case c3 => unfold maxLen; omega
 case c4 => omega
 case c5 => have := hb1.size; omega
 intro v' w2 hown' hgrow _
 have hlt : b < w1.heap.size := lt_of_block hbk
 have hb2 : w2.heap[b]? = some (.cells #[.pointer (some ⟨b, 0, none⟩), v] 54 (0, 0)) := by
  rw [hgrow.block b hlt (fun e => hne e.symm)]
  exact hbk
 have d0 : w2.cell? ⟨b, 0, none⟩ = some (.pointer (some ⟨b, 0, none⟩)) := by rw [Lib.cell_of_heap hb2]; rfl
 have d1 : w2.cell? ⟨b, 1, none⟩ = some v := by rw [Lib.cell_of_heap hb2]; rfl
 have f1 : w2.frozen? ⟨b, 1, none⟩ = false := Lib.frozen_of_heap hb2 1
 obtain ⟨ao, n', cap, rfl⟩ : ∃ ao n' cap, v' = .slice ao n' cap := by
  rcases hown'.2 with ⟨hv, _⟩ | ⟨g, cap, cur, fz, hv, _⟩
  ·exact ⟨_, _, _, hv⟩
  ·exact ⟨_, _, _, hv⟩
 go_wp2
 go_ret2
 refine ⟨rfl, Or.inr ?_, ?_, (hk1.grown hgrow (Lib.ownsRowF_kind hown)).setCell ⟨b, 1, none⟩ rfl _⟩
 ·exact Lib.BuilderAtF.put (T := 54) (e := 5) hB hb2 (bs' := bs ++ Lib.strCells s) (by simpa [Lib.strCells_length] using hown') ne_b8
 ·exact (hb1.grown hgrow (by have := hb1.size; omega) (fun k hk => (hown.lt k hk).1)).setCell (p := ⟨b, 1, none⟩) hB _
set_option maxHeartbeats 2000000 in
set_option maxRecDepth 100000 in
theorem WriteByte_any (b : Nat) (bs : List Value) (c : Int) (w : World) (h : Bd w b bs) (hlen : bs.length + 1 ≤ 140737488355328) :
  Calls Tryz.prog 79 #[.pointer (some ⟨b, 0, none⟩), .int .u8 c] w fun e w' => e = .returned .nilIface ∧ Bd w' b (bs ++ [.int .u8 c]) ∧ Kp b w w' := by
 obtain ⟨i0, hi, hz0, hz1, hz2⟩ := info_parts infoByte
 have hBw : b ≤ w.heap.size := by rcases h with h | h <;> exact Nat.le_of_lt h.lt
 go_enter Tryz.func79, Tryz.ntmps79
 go_wp2_with (go_at_call 74; refine (check_any b bs _ h).mono ?_)
 rintro e w1 ⟨rfl, h1, hb1, hk1⟩
 obtain ⟨hB, v, hbk, hown, hne⟩ := h1
 have c0 : w1.cell? ⟨b, 0, none⟩ = some (.pointer (some ⟨b, 0, none⟩)) := by rw [Lib.cell_of_heap hbk]; rfl
 have c1 : w1.cell? ⟨b, 1, none⟩ = some v := by rw [Lib.cell_of_heap hbk]; rfl
 go_wp2_with (at_builtin; refine wpList_append_ownF _ rfl _ _ 52 rfl b 5 i0 (.int .u8 0) 1 1 Tryz.underlying52 hi hz0 hz1 hz2 rfl (by decide) _ _ _ rfl (hown.alloc _) ⟨w1.heap.size, 0, none⟩ 1 1 [.int .u8 c] rfl rfl ?c1 ?c2 ?c3 ?c4 ?c5 ?_)
 case c1 =>
  intro j u hj
  match j, hj with
  | 0, hj => simp at hj; subst hj; simp [Addr.add]
 case c2 => intro u hu; simp at hu; subst hu; rfl
 case c3 => unfold maxLen; omega
 case c4 => omega
 case c5 => have := hb1.size; simp; omega
 intro v' w2 hown' hgrow _
 have hlt : b < w1.heap.size := lt_of_block hbk
 have hb2 : w2.heap[b]? = some (.cells #[.pointer (some ⟨b, 0, none⟩), v] 54 (0, 0)) := by
  rw [hgrow.block b (by simp; omega) (fun e => hne e.symm), Lib.alloc_old w1 _ b hlt]
  exact hbk
 have d0 : w2.cell? ⟨b, 0, none⟩ = some (.pointer (some ⟨b, 0, none⟩)) := by rw [Lib.cell_of_heap hb2]; rfl
 have d1 : w2.cell? ⟨b, 1, none⟩ = some v := by rw [Lib.cell_of_heap hb2]; rfl
 have f1 : w2.frozen? ⟨b, 1, none⟩ = false := Lib.frozen_of_heap hb2 1
 obtain ⟨g, cap, rfl⟩ : ∃ g cap, v' = .slice (some ⟨g, 0, none⟩) (bs.length + 1) cap := by
  rcases hown'.2 with ⟨_, h0⟩ | ⟨g, cap, cur, fz, hv, _⟩
  ·omega
  ·exact ⟨g, cap, hv⟩
 go_wp2
 go_ret
 refine ⟨rfl, Or.inr ?_, ?_, ((hk1.alloc _).grown hgrow (Lib.ownsRowF_kind (hown.alloc _))).setCell ⟨b, 1, none⟩ rfl _⟩
 ·exact Lib.BuilderAtF.put (T := 54) (e := 5) hB hb2 (bs' := bs ++ [.int .u8 c]) (by simpa using hown') ne_b8
 ·exact ((hb1.alloc (by have := hb1.size; omega) _).grown hgrow (by have := hb1.size; simp; omega) (fun k hk => (hown.lt k hk).1)).setCell (p := ⟨b, 1, none⟩) hB _
end Go.Proofs.YtalhbbabijlngaaGreatDoor
namespace Go.Proofs.YtalhbbabijlngaaGreatDoor
open Go.RowKit Go.Shelf
def ren169 : Go.Shelf.Ren := ⟨fun | 169 => 49 | n => n, fun | 70 => 51 | 9 => 9 | 0 => 0 | 72 => 54 | 37 => 52 | 127 => 100 | 3 => 3 | 5 => 5 | n => n, fun | n => n⟩
theorem lays169 : Go.Proofs.Lays.n169 Tryz.prog ren169 := {
 mixed := by kernel_rfl
 f169 := Tryz.func49.trans (congrArg some (by kernel_rfl))
 t0 := Tryz.underlying0
 a0 := Tryz.isAgg0
 z0 := Tryz.sizeOf0
 v0 := Tryz.zeroValue0
 t3 := Tryz.underlying3
 a3 := Tryz.isAgg3
 z3 := Tryz.sizeOf3
 v3 := Tryz.zeroValue3
 t9 := Tryz.underlying9
 a9 := Tryz.isAgg9
 z9 := Tryz.sizeOf9
 v9 := Tryz.zeroValue9
 t37 := Tryz.underlying52
 a37 := Tryz.isAgg52
 z37 := Tryz.sizeOf52
 v37 := Tryz.zeroValue52
 t70 := Tryz.underlying51
 a70 := Tryz.isAgg51
 z70 := Tryz.sizeOf51
 v70 := Tryz.zeroValue51
 t72 := Tryz.underlying54
 a72 := Tryz.isAgg54
 z72 := Tryz.sizeOf54
 v72 := Tryz.zeroValue54
 t127 := Tryz.underlying100
 a127 := Tryz.isAgg100
 z127 := Tryz.sizeOf100
 v127 := Tryz.zeroValue100 }
theorem extra169 : Builder.Extra Tryz.prog ren169 := {
 sizeBuilder := by kernel_rfl
 liesBuilder := by kernel_rfl
 t5 := Tryz.underlying5
 a5 := Tryz.isAgg5
 z5 := Tryz.sizeOf5
 v5 := Tryz.zeroValue5
 infoByte := by kernel_rfl
 cellsByte := by kernel_rfl
 sizeByte := by kernel_rfl
 neB5 := by decide }
theorem String_any (b : Nat) (l : List UInt8) (w : World) (h : Bd w b (Lib.byteCells l)) :
  Calls Tryz.prog 49 #[.pointer (some ⟨b, 0, none⟩)] w fun e w' => e = .returned (.string ⟨l.toArray⟩) ∧ Bd w' b (Lib.byteCells l) ∧ Kp b w w' := by
 have hBw : b ≤ w.heap.size := by rcases h with h | h <;> exact Nat.le_of_lt h.lt
 have H : Calls Tryz.prog 49 #[.pointer (some ⟨b, 0, none⟩)] w fun e w' => e = .returned (.string ⟨l.toArray⟩) ∧ (Lib.IsBuilderF 54 5 b b (Lib.byteCells l) w' ∧ Below b w w' ∧ Lib.OthersKept 5 (some b) w w') := Any.Builder_String_any_k lays169 extra169 b b l w h hBw
 refine H.mono ?_
 rintro e w' ⟨rfl, h1, h2, h3⟩
 exact ⟨rfl, h1, h2, h3⟩
end Go.Proofs.YtalhbbabijlngaaGreatDoor
namespace Go.Proofs.YtalhbbabijlngaaGreatDoor
inductive Tm where
 | mk (k num : Int) (neg : Bool) (L : List Nat) (s : ByteArray) (I T : List Tm) : Tm
def Tm.kd : Tm → Int
 | .mk k _ _ _ _ _ _ => k
def cmpZ (x y : Int) : Int := if x < y then -1 else if y < x then 1 else 0
theorem cmpZ_self (x : Int) : cmpZ x x = 0 := by unfold cmpZ; rw [if_neg (by omega), if_neg (by omega)]
theorem cmpZ_zero {x y : Int} : cmpZ x y = 0 ↔ x = y := by
 unfold cmpZ
 split
 ·constructor <;> intro h <;> omega
 ·split
  ·constructor <;> intro h <;> omega
  ·constructor <;> intro h <;> omega
def lexZ : List Int → List Int → Int
 | [], [] => 0
 | [], _ :: _ => -1
 | _ :: _, [] => 1
 | x :: r, y :: s => if x = y then lexZ r s else cmpZ x y
def th (c d : Int) : Int := if c = 0 then d else c
theorem th_z (d : Int) : th 0 d = d := by unfold th; rw [if_pos rfl]
def zv (neg : Bool) (L : List Nat) : Int := if neg then -(val L : Int) else val L
def bz (s : ByteArray) : List Int := s.data.toList.map fun c => (c.toNat : Int)
mutual
def ordT : Tm → Tm → Int
 | .mk k num neg L s I T, .mk k' num' neg' L' s' I' T' =>
  if k = k' then
   (if k = 1 then cmpZ (zv neg L) (zv neg' L')
   else if k = 2 then lexZ (bz s) (bz s')
   else if k = 7 then th (ordR I I') (ordE T T')
   else th (cmpZ num num') (th (cmpZ I.length I'.length) (ordR I I')))
  else cmpZ k k'
def ordR : List Tm → List Tm → Int
 | [], [] => 0
 | [], _ :: _ => -1
 | _ :: _, [] => 1
 | t :: r, u :: v => th (ordT t u) (ordR r v)
def ordE : List Tm → List Tm → Int
 | [], [] => 0
 | [], u :: _ => cmpZ 7 u.kd
 | t :: _, [] => cmpZ t.kd 7
 | t :: _, u :: _ => ordT t u
end
mutual
def enc : Tm → List Int
 | .mk k num neg L s I T => k :: (if k = 1 then [zv neg L] else if k = 2 then (bz s).map (· + 1) ++ [0] else if k = 7 then encL I ++ encE T else num :: (I.length : Int) :: encR I)
def encR : List Tm → List Int
 | [] => []
 | t :: r => enc t ++ encR r
def encL : List Tm → List Int
 | [] => [0]
 | t :: r => 1 :: (enc t ++ encL r)
def encE : List Tm → List Int
 | [] => [7]
 | t :: _ => enc t
end
def okL (neg : Bool) (L : List Nat) : Bool := if L.length = 0 then !neg else decide (L.length ≤ 32) && decide (L.getD (L.length - 1) 0 ≠ 0)
def okF (k num : Int) (neg : Bool) (L : List Nat) (s : ByteArray) (ni : Nat) (T : List Tm) : Bool :=
 if k = 1 then okL neg L && decide (s.size = 0 ∧ num = 0 ∧ ni = 0 ∧ T.length = 0)
 else decide (neg = false ∧ L.length = 0) &&
  (if k = 2 then decide (s.size ≤ 40 ∧ num = 0 ∧ ni = 0 ∧ T.length = 0)
  else if k = 3 ∨ k = 5 then decide (s.size = 0 ∧ 0 ≤ num ∧ num ≤ 1099511627776 ∧ ni = 0 ∧ T.length = 0)
  else if k = 4 then decide (s.size = 0 ∧ 0 ≤ num ∧ num ≤ 16384 ∧ T.length = 0)
  else if k = 6 then decide (s.size = 0 ∧ num = 0 ∧ T.length = 0)
  else if k = 7 then decide (s.size = 0 ∧ num = 0) && (match T with | [] => true | [u] => decide (0 < ni) && decide (u.kd ≠ 7) | _ => false)
  else false)
mutual
def okT' : Tm → Bool
 | .mk k num neg L s I T => okF k num neg L s I.length T && okR I && okR T
def okR : List Tm → Bool
 | [] => true
 | t :: r => okT' t && okR r
end
def ownZ (k : Int) (nl ni : Nat) : Nat := if k = 1 then 1 + nl else if k = 4 then 2 else if k = 7 then 1 + ni else 1
mutual
def szT : Tm → Nat
 | .mk k _ _ L _ I T => ownZ k L.length I.length + szR I + szR T
def szR : List Tm → Nat
 | [] => 0
 | t :: r => szT t + szR r
end
theorem okF_tail {k num : Int} {neg : Bool} {L : List Nat} {s : ByteArray} {ni : Nat} {T : List Tm} (h : okF k num neg L s ni T = true) : T = [] ∨ ∃ u, T = [u] ∧ u.kd ≠ 7 ∧ k = 7 ∧ 0 < ni := by
 unfold okF at h
 by_cases h1 : k = 1
 ·rw [if_pos h1] at h; simp at h; exact Or.inl h.2.2.2.2
 ·rw [if_neg h1] at h
  simp only [Bool.and_eq_true] at h
  have h := h.2
  by_cases h2 : k = 2
  ·rw [if_pos h2] at h; simp at h; exact Or.inl h.2.2.2
  rw [if_neg h2] at h
  by_cases h3 : k = 3 ∨ k = 5
  ·rw [if_pos h3] at h; simp at h; exact Or.inl h.2.2.2.2
  rw [if_neg h3] at h
  by_cases h4 : k = 4
  ·rw [if_pos h4] at h; simp at h; exact Or.inl h.2.2.2
  rw [if_neg h4] at h
  by_cases h6 : k = 6
  ·rw [if_pos h6] at h; simp at h; exact Or.inl h.2.2
  rw [if_neg h6] at h
  by_cases h7 : k = 7
  ·rw [if_pos h7] at h
   match T, h with
   | [], _ => exact Or.inl rfl
   | [u], h => simp at h; exact Or.inr ⟨u, rfl, h.2.2, h7, h.2.1⟩
   | _ :: _ :: _, h => simp at h
  ·rw [if_neg h7] at h; simp at h
theorem okF_tail2 {k num : Int} {neg : Bool} {L : List Nat} {s : ByteArray} {ni : Nat} {T : List Tm} (h : okF k num neg L s ni T = true) : T = [] ∨ ∃ u, T = [u] ∧ u.kd ≠ 7 := by
 rcases okF_tail h with h | ⟨u, h1, h2, _⟩
 ·exact Or.inl h
 ·exact Or.inr ⟨u, h1, h2⟩
theorem bz_inj {s s' : ByteArray} (h : bz s = bz s') : s = s' := by
 have : s.data.toList = s'.data.toList := by
  unfold bz at h
  exact List.map_inj_right (fun a b e => UInt8.toNat_inj.1 (by omega)) |>.1 h
 cases s; cases s'
 congr
 exact Array.toList_inj.1 this
theorem bz_empty {s : ByteArray} (h : s.size = 0) : s = ⟨#[]⟩ := by
 cases s with
 | mk d => congr; exact Array.eq_empty_of_size_eq_zero h
theorem okL_top {neg : Bool} {L : List Nat} (h : okL neg L = true) : L.getLast? ≠ some 0 ∧ (L = [] → neg = false) ∧ L.length ≤ 32 := by
 unfold okL at h
 by_cases h0 : L.length = 0
 ·rw [if_pos h0] at h
  have : L = [] := List.eq_nil_of_length_eq_zero h0
  subst this
  simp at h
  simp [h]
 ·rw [if_neg h0] at h
  simp only [Bool.and_eq_true, decide_eq_true_eq] at h
  refine ⟨fun e => h.2 ?_, fun e => absurd (by rw [e]; rfl) h0, h.1⟩
  rw [List.getLast?_eq_getElem?] at e
  simp [List.getD, e]
end Go.Proofs.YtalhbbabijlngaaGreatDoor
namespace Go.Proofs.YtalhbbabijlngaaGreatDoor
open Go.ChangeShapes Go.WideShapes Go.ChangeAt Go.RowKit Go.Joins
def RowAt (R : List Value → Tm → Prop) (w : World) (a : Option Addr) (I : List Tm) : Prop :=
 I = [] ∨ ∃ b o, a = some ⟨b, o, none⟩ ∧ b < w.heap.size ∧ ∀ i (hi : i < I.length), ∃ cs : List Value, cs.length = 7 ∧ (∀ j, j < 7 → w.cell? ⟨b, o + (i * 7 + j), none⟩ = cs[j]?) ∧ R cs I[i]
def In (w : World) : Nat → List Value → Tm → Prop
 | 0, _, _ => False
 | d + 1, cs, .mk k num neg L s I T => ∃ (a ai at' : Option Addr) (c ci ct : Nat), cs = [.int .u8 k, .bool neg, .slice a L.length c, .string s, .int .i64 num, .slice ai I.length ci, .slice at' T.length ct] ∧ At w a L ∧ Dig L ∧ RowAt (In w d) w ai I ∧ RowAt (In w d) w at' T
theorem RowAt.imp {R S : List Value → Tm → Prop} {w w' : World} {a : Option Addr} {I : List Tm} (h : RowAt R w a I) (hu : Upd [] w w') (himp : ∀ cs t, R cs t → S cs t) : RowAt S w' a I := by
 rcases h with h | ⟨b, o, e, hlt, hc⟩
 ·exact Or.inl h
 ·refine Or.inr ⟨b, o, e, Nat.lt_of_lt_of_le hlt hu.size, fun i hi => ?_⟩
  obtain ⟨cs, h1, h2, h3⟩ := hc i hi
  exact ⟨cs, h1, fun j hj => (hu.cell (p := ⟨b, o + (i * 7 + j), none⟩) hlt (by simp)).trans (h2 j hj), himp _ _ h3⟩
theorem In.mono {w w' : World} (hu : Upd [] w w') : ∀ (d : Nat) (cs : List Value) (t : Tm), In w d cs t → In w' d cs t := by
 intro d
 induction d with
 | zero => intro cs t h; exact h.elim
 | succ d ih =>
  intro cs t h
  cases t with
  | mk k num neg L s I T =>
   obtain ⟨a, ai, at', c, ci, ct, rfl, h1, h2, h3, h4⟩ := h
   exact ⟨a, ai, at', c, ci, ct, rfl, h1.mono hu, h2, h3.imp hu ih, h4.imp hu ih⟩
theorem In.more {w : World} : ∀ (d : Nat) (cs : List Value) (t : Tm), In w d cs t → In w (d + 1) cs t := by
 intro d
 induction d with
 | zero => intro cs t h; exact h.elim
 | succ d ih =>
  intro cs t h
  cases t with
  | mk k num neg L s I T =>
   obtain ⟨a, ai, at', c, ci, ct, rfl, h1, h2, h3, h4⟩ := h
   exact ⟨a, ai, at', c, ci, ct, rfl, h1, h2, h3.imp (Upd.refl [] w) ih, h4.imp (Upd.refl [] w) ih⟩
mutual
def tsz : Tm → Nat
 | .mk _ _ _ L _ I T => max (L.length / 26) (max (tszs I) (tszs T))
def tszs : List Tm → Nat
 | [] => 0
 | t :: r => max (r.length + 1) (max (tsz t) (tszs r))
end
theorem tszs_len (I : List Tm) : I.length ≤ tszs I := by
 cases I with
 | nil => simp
 | cons t r => simp only [tszs, List.length_cons]; omega
theorem tszs_get (I : List Tm) (i : Nat) (hi : i < I.length) : tsz I[i] ≤ tszs I := by
 induction I generalizing i with
 | nil => simp at hi
 | cons t r ih =>
  cases i with
  | zero => simp only [tszs, List.getElem_cons_zero]; omega
  | succ i =>
   simp only [tszs, List.getElem_cons_succ]
   have := ih i (by simpa using hi)
   omega
theorem tszs_le (N : Nat) (I : List Tm) (hl : I.length ≤ N) (h : ∀ i (hi : i < I.length), tsz I[i] ≤ N) : tszs I ≤ N := by
 induction I with
 | nil => simp [tszs]
 | cons t r ih =>
  have h0 := h 0 (by simp)
  have h1 := ih (by simp at hl; omega) (fun i hi => by have := h (i + 1) (by simpa using hi); simpa using this)
  simp only [tszs]
  simp at h0 hl
  omega
end Go.Proofs.YtalhbbabijlngaaGreatDoor
namespace Go.Proofs.YtalhbbabijlngaaGreatDoor
open Go.RowKit
end Go.Proofs.YtalhbbabijlngaaGreatDoor
