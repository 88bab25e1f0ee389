/- The frame of the rows: a term that came in, opened; the world of the witness. -/
import Derived.Test.YtaoipmmeialpnaaGreatDoorJAA
import Derived.Test.YtaoipmmeialpnaaGreatDoorRows
import Derived.ProofKit
import Derived.OpenShut
import Derived.Lib.SmallJoins
import Derived.Deep.DeepHandedRow
import Derived.Lib.LaidTab
import Derived.Carry
import Derived.Shelf.Strings.BuilderK
import Derived.Deep.AppendSrc
import Derived.Deep.RegionWith

namespace Go.Proofs.YtaoipmmeialpnaaGreatDoor
open Go.ChangeShapes Go.WideShapes Go.ChangeAt Go.RowKit Go.Joins

theorem array7 {α : Type} {cs : Array α} (h : cs.size = 7) : ∃ c0 c1 c2 c3 c4 c5 c6, cs = #[c0, c1, c2, c3, c4, c5, c6] := by
  obtain ⟨l⟩ := cs
  match l, h with
  | [c0, c1, c2, c3, c4, c5, c6], _ => exact ⟨c0, c1, c2, c3, c4, c5, c6, rfl⟩

theorem cells_kind : Tryz.prog.cellsOf 22 = 1 := by kernel_rfl
theorem cells_bool : Tryz.prog.cellsOf 4 = 1 := by kernel_rfl
theorem cells_u32s : Tryz.prog.cellsOf 23 = 1 := by kernel_rfl
theorem cells_u32 : Tryz.prog.cellsOf 48 = 1 := by kernel_rfl
theorem cells_str : Tryz.prog.cellsOf 9 = 1 := by kernel_rfl
theorem cells_int : Tryz.prog.cellsOf 3 = 1 := by kernel_rfl
theorem cells_terms : Tryz.prog.cellsOf 24 = 1 := by kernel_rfl
theorem cells_term : Tryz.prog.cellsOf 26 = 7 := by kernel_rfl
theorem laidOut : laidOutB Tryz.prog = true := by kernel_rfl
theorem own : ownKnob Tryz.prog.godebug = none := by kernel_rfl

theorem slice_len {H : Type} {enc : TypeId × Value → H} {W : World} {base fuel : Nat} {spare : Nat → Bool} {held : Bool} {t e : TypeId} {v : Value} {x : DataW H × List MemPlace} (ht : Tryz.prog.underlying t = some (.slice e))
    (h : DataW.trod enc Tryz.prog W base spare held fuel t [v] = some x) : ∃ a n c, v = .slice a n c ∧ n ≤ 9223372036854775807 := by
  rcases DataW.trod_slice ht h with ⟨hcs, _⟩ | ⟨a, len, cap, elems, rest, n, _, hcs, _, hb, hl, hm, _⟩
  · exact ⟨none, 0, 0, by simpa using hcs, by omega⟩
  · refine ⟨some a, len, cap, by simpa using hcs, ?_⟩
    unfold maxLen at hm; omega

set_option maxRecDepth 100000 in
/-- A term that came in: its shape, its limbs. -/
theorem open_term {H : Type} {enc : TypeId × Value → H} {W : World} {base : Nat} {v : Value} {d : DataW H} {p : List MemPlace} (hv : Value.okWide Tryz.prog W .any base 26 v)
    (h : DataW.Trod enc Tryz.prog W 0 (fun _ => true) true 26 v d p) (_hlt : ∀ x ∈ p, x.block < W.heap.size) :
    ∃ (k num : Int) (neg : Bool) (a ai at' : Option Addr) (L : List Nat) (c ni ci nt ct : Nat) (s : ByteArray),
      v = .agg #[.int .u8 k, .bool neg, .slice a L.length c, .string s, .int .i64 num, .slice ai ni ci, .slice at' nt ct] ∧ At W a L ∧ Dig L ∧ L.length ≤ 9223372036854775807 ∧ ni ≤ 9223372036854775807 ∧ nt ≤ 9223372036854775807 := by
  obtain ⟨cs, rfl, hsz⟩ := okWide_struct Tryz.underlying26 hv
  obtain ⟨c0, c1, c2, c3, c4, c5, c6, rfl⟩ := array7 (hsz.trans cells_term)
  obtain ⟨fuel, hf⟩ := h
  obtain ⟨xs, n, _, hx, _, hlen, hfs⟩ := DataW.trod_struct Tryz.underlying26 hf
  have f0 : DataW.trod enc Tryz.prog W 0 (fun _ => true) true n 22 (List.take (Tryz.prog.cellsOf 22) (List.drop 0 [c0, c1, c2, c3, c4, c5, c6])) = xs[0]? := hfs 0 _ rfl
  have f1 : DataW.trod enc Tryz.prog W 0 (fun _ => true) true n 4 (List.take (Tryz.prog.cellsOf 4) (List.drop 1 [c0, c1, c2, c3, c4, c5, c6])) = xs[1]? := hfs 1 _ rfl
  have f2 : DataW.trod enc Tryz.prog W 0 (fun _ => true) true n 23 (List.take (Tryz.prog.cellsOf 23) (List.drop 2 [c0, c1, c2, c3, c4, c5, c6])) = xs[2]? := hfs 2 _ rfl
  have f3 : DataW.trod enc Tryz.prog W 0 (fun _ => true) true n 9 (List.take (Tryz.prog.cellsOf 9) (List.drop 3 [c0, c1, c2, c3, c4, c5, c6])) = xs[3]? := hfs 3 _ rfl
  have f4 : DataW.trod enc Tryz.prog W 0 (fun _ => true) true n 3 (List.take (Tryz.prog.cellsOf 3) (List.drop 4 [c0, c1, c2, c3, c4, c5, c6])) = xs[4]? := hfs 4 _ rfl
  have f5 : DataW.trod enc Tryz.prog W 0 (fun _ => true) true n 24 (List.take (Tryz.prog.cellsOf 24) (List.drop 5 [c0, c1, c2, c3, c4, c5, c6])) = xs[5]? := hfs 5 _ rfl
  have f6 : DataW.trod enc Tryz.prog W 0 (fun _ => true) true n 24 (List.take (Tryz.prog.cellsOf 24) (List.drop 6 [c0, c1, c2, c3, c4, c5, c6])) = xs[6]? := hfs 6 _ rfl
  have hl7 : xs.length = 7 := hlen
  simp only [cells_kind, cells_bool, cells_u32s, cells_str, cells_int, cells_terms, List.drop_succ_cons, List.drop_zero, List.take_succ_cons, List.take_zero] at f0 f1 f2 f3 f4 f5 f6
  rw [List.getElem?_eq_getElem (by omega)] at f0 f1 f2 f3 f4 f5 f6
  obtain ⟨k, e0, _, _⟩ := DataW.trod_int Tryz.underlying22 f0
  obtain ⟨neg, e1, _⟩ := DataW.trod_bool Tryz.underlying4 f1
  obtain ⟨s, e3, _, _⟩ := DataW.trod_string Tryz.underlying9 f3
  obtain ⟨num, e4, _, _⟩ := DataW.trod_int Tryz.underlying3 f4
  obtain ⟨ai, ni, ci, e5, hni⟩ := slice_len Tryz.underlying24 f5
  obtain ⟨at', nt, ct, e6, hnt⟩ := slice_len Tryz.underlying24 f6
  simp only [List.cons.injEq, and_true] at e0 e1 e3 e4
  subst e0 e1 e3 e4 e5 e6
  rcases open_ints Tryz.underlying23 Tryz.underlying48 cells_u32 f2 with ⟨hcs, _⟩ | ⟨a, len, cap, zs, hcs, _, hl, hm, hz, hx2, hcell, hwz⟩
  · simp only [List.cons.injEq, and_true] at hcs
    subst hcs
    exact ⟨k, num, neg, none, ai, at', [], 0, ni, ci, nt, ct, s, rfl, At.nil _ _, Dig.nil, by simp, hni, hnt⟩
  · simp only [List.cons.injEq, and_true] at hcs
    subst hcs
    simp only [if_true] at hz
    have hwf : ∀ z ∈ zs, 0 ≤ z ∧ z < 4294967296 := fun z hz => by
      have := bounds_u32 (hwz z hz); omega
    have hlen2 : ((zs.take len).map Int.toNat).length = len := by simp; omega
    refine ⟨k, num, neg, some a, ai, at', (zs.take len).map Int.toNat, cap, ni, ci, nt, ct, s, by rw [hlen2], ?_, ?_, by rw [hlen2]; unfold maxLen at hm; omega, hni, hnt⟩
    · by_cases h0 : len = 0
      · exact Or.inl (by subst h0; simp)
      · obtain ⟨b, off, spot⟩ := a
        have hspot : spot = none := by simpa [Addr.add] using World.cell?_spot (hcell 0 (by omega))
        subst hspot
        refine Or.inr ⟨b, off, rfl, ?_, fun i hi => ?_⟩
        · have := World.block_lt_of_cell? _ _ (hcell 0 (by omega))
          simpa [Addr.add] using this
        · rw [hlen2] at hi
          have h1 := hcell i (by omega)
          rw [Addr.add_lit] at h1
          rw [h1]
          have h2 : i < zs.length := by omega
          have h3 := hwf zs[i] (List.getElem_mem h2)
          simp [List.getD, hi, h2]
          omega
    · intro z hz2
      obtain ⟨y, hy, rfl⟩ := List.mem_map.1 hz2
      have := hwf y (List.mem_of_mem_take hy)
      omega

end Go.Proofs.YtaoipmmeialpnaaGreatDoor

/- strings.Builder at this program: copyCheck, WriteByte, WriteString, String, by their contracts. -/
namespace Go.Proofs.YtaoipmmeialpnaaGreatDoor
open Go.RowKit Go.Shelf

theorem sizeBld : (Tryz.prog.info? 57).map (·.size) = some 2 := by kernel_rfl
theorem liesBld : liesAt Tryz.prog Tryz.prog.depth 57 (2 / Tryz.prog.cellsOf 57) 0 57 1 = true := by kernel_rfl
theorem infoByte : (Tryz.prog.info? 5).map (fun i => (i.zero, i.size, i.bytes)) = some (some (.int .u8 0), 1, 1) := by kernel_rfl

set_option maxHeartbeats 1000000 in
set_option maxRecDepth 100000 in
theorem check_used (b : Nat) (w : World) (h0 : w.cell? ⟨b, 0, none⟩ = some (.pointer (some ⟨b, 0, none⟩))) :
    Calls Tryz.prog 78 #[.pointer (some ⟨b, 0, none⟩)] w fun e w' => e = .returned (.tuple #[]) ∧ w' = w := by
  obtain ⟨j, hj, _⟩ := Option.map_eq_some_iff.1 sizeBld
  go_enter Tryz.func78, Tryz.ntmps78
  go_wp2
  rw [Lib.run_neq_ptr_same w _ Tryz.underlying55 hj]
  go_wp2
  go_end0
  exact ⟨rfl, rfl⟩

set_option maxHeartbeats 1000000 in
set_option maxRecDepth 100000 in
theorem check_fresh (b : Nat) (w : World) (h0 : w.cell? ⟨b, 0, none⟩ = some (.pointer none)) (hsh : w.shape? b = some (57, 2)) (hfz : w.frozen? ⟨b, 0, none⟩ = false) :
    Calls Tryz.prog 78 #[.pointer (some ⟨b, 0, none⟩)] w fun e w' => e = .returned (.tuple #[]) ∧ w' = w.setCell ⟨b, 0, none⟩ (.pointer (some ⟨b, 0, none⟩)) := by
  obtain ⟨j, hj, hjs⟩ := Option.map_eq_some_iff.1 sizeBld
  go_enter Tryz.func78, Tryz.ntmps78
  go_wp2
  rw [Lib.run_to_unsafe w ⟨b, 0, none⟩ Tryz.underlying55 Tryz.underlying137 hj (by rw [hjs]; decide) hsh (Nat.zero_lt_succ 1)]
  simp only [Result.andThen]
  rw [Oper.upon_value]
  go_wp2
  rw [run_callFunc_extern Tryz.func134 (by kernel_rfl) (by kernel_rfl) (by kernel_rfl) (e := Extern.AbiNoEscape.same) (by kernel_rfl)]
  rw [Lib.run_noEscape]
  simp only [Result.andThen]
  rw [Oper.upon_value]
  go_wp2
  rw [Lib.run_from_unsafe w ⟨b, 0, none⟩ Tryz.underlying137 Tryz.underlying55 hj hsh liesBld]
  simp only [Result.andThen]
  rw [Oper.upon_value]
  go_wp2
  go_end0
  exact ⟨rfl, rfl⟩

/-- A builder at b that holds the bytes bs; all its memory lies from b on. -/
def Bd (w : World) (b : Nat) (bs : List Value) : Prop := Lib.IsBuilderF 57 5 b b bs w
/-- What lies ahead of b, and what is neither the builder nor a row of bytes, stands as it stood. -/
structure Kp (b : Nat) (w w' : World) : Prop where
  below : Below b w w'
  others : Lib.OthersKept 5 (some b) w w'
theorem Kp.refl (b : Nat) (w : World) : Kp b w w := ⟨Below.refl b w, Lib.OthersKept.refl _ _ w⟩
theorem Kp.trans {b : Nat} {w1 w2 w3 : World} (h : Kp b w1 w2) (k : Kp b w2 w3) : Kp b w1 w3 := ⟨h.below.trans k.below, h.others.trans k.others⟩

theorem check_any (b : Nat) (bs : List Value) (w : World) (h : Bd w b bs) :
    Calls Tryz.prog 78 #[.pointer (some ⟨b, 0, none⟩)] w fun e w' => e = .returned (.tuple #[]) ∧ Lib.BuilderAtF 57 5 b b (.pointer (some ⟨b, 0, none⟩)) bs w' ∧ Kp b w w' := by
  rcases h with h | h
  · refine (check_fresh b w h.cell0 h.shape h.frozen0).mono ?_
    rintro e w' ⟨rfl, rfl⟩
    exact ⟨rfl, h.used _, (Below.refl b w).setCell (p := ⟨b, 0, none⟩) h.1 _, (Lib.OthersKept.refl _ _ w).setCell ⟨b, 0, none⟩ rfl _⟩
  · refine (check_used b w h.cell0).mono ?_
    rintro e w' ⟨rfl, rfl⟩
    exact ⟨rfl, h, Kp.refl _ _⟩

theorem ne_b8 : (57 : TypeId) ≠ 5 := by decide

set_option maxHeartbeats 2000000 in
set_option maxRecDepth 100000 in
theorem WriteString_any (b : Nat) (bs : List Value) (s : ByteArray) (w : World) (h : Bd w b bs) (hlen : bs.length + s.size ≤ 140737488355328) :
    Calls Tryz.prog 46 #[.pointer (some ⟨b, 0, none⟩), .string s] w fun e w' => e = .returned (.tuple #[.int .i64 s.size, .nilIface]) ∧ Bd w' b (bs ++ Lib.strCells s) ∧ Kp b w w' := by
  obtain ⟨i0, hi, hz0, hz1, hz2⟩ := info_parts infoByte
  have hBw : b ≤ w.heap.size := by rcases h with h | h <;> exact Nat.le_of_lt h.lt
  go_enter Tryz.func46, Tryz.ntmps46
  go_wp2_with (go_at_call 78; refine (check_any b bs _ h).mono ?_)
  rintro e w1 ⟨rfl, h1, hb1, hk1⟩
  obtain ⟨hB, v, hbk, hown, hne⟩ := h1
  have c0 : w1.cell? ⟨b, 0, none⟩ = some (.pointer (some ⟨b, 0, none⟩)) := by rw [Lib.cell_of_heap hbk]; rfl
  have c1 : w1.cell? ⟨b, 1, none⟩ = some v := by rw [Lib.cell_of_heap hbk]; rfl
  go_wp2_with (at_builtin; refine Lib.wpList_append_own_stringF _ rfl _ _ 46 9 rfl b 5 i0 Tryz.underlying46 Tryz.underlying9 hi hz0 hz1 hz2 _ _ _ rfl hown s rfl ?c3 ?c4 ?c5 ?_)
  case c3 => unfold maxLen; omega
  case c4 => omega
  case c5 => have := hb1.size; omega
  intro v' w2 hown' hgrow _
  have hlt : b < w1.heap.size := lt_of_block hbk
  have hb2 : w2.heap[b]? = some (.cells #[.pointer (some ⟨b, 0, none⟩), v] 57 (0, 0)) := by
    rw [hgrow.block b hlt (fun e => hne e.symm)]
    exact hbk
  have d0 : w2.cell? ⟨b, 0, none⟩ = some (.pointer (some ⟨b, 0, none⟩)) := by rw [Lib.cell_of_heap hb2]; rfl
  have d1 : w2.cell? ⟨b, 1, none⟩ = some v := by rw [Lib.cell_of_heap hb2]; rfl
  have f1 : w2.frozen? ⟨b, 1, none⟩ = false := Lib.frozen_of_heap hb2 1
  obtain ⟨ao, n', cap, rfl⟩ : ∃ ao n' cap, v' = .slice ao n' cap := by
    rcases hown'.2 with ⟨hv, _⟩ | ⟨g, cap, cur, fz, hv, _⟩
    · exact ⟨_, _, _, hv⟩
    · exact ⟨_, _, _, hv⟩
  go_wp2
  go_ret2
  refine ⟨rfl, Or.inr ?_, ?_, (hk1.grown hgrow (Lib.ownsRowF_kind hown)).setCell ⟨b, 1, none⟩ rfl _⟩
  · exact Lib.BuilderAtF.put (T := 57) (e := 5) hB hb2 (bs' := bs ++ Lib.strCells s) (by simpa [Lib.strCells_length] using hown') ne_b8
  · exact (hb1.grown hgrow (by have := hb1.size; omega) (fun k hk => (hown.lt k hk).1)).setCell (p := ⟨b, 1, none⟩) hB _

set_option maxHeartbeats 2000000 in
set_option maxRecDepth 100000 in
theorem WriteByte_any (b : Nat) (bs : List Value) (c : Int) (w : World) (h : Bd w b bs) (hlen : bs.length + 1 ≤ 140737488355328) :
    Calls Tryz.prog 83 #[.pointer (some ⟨b, 0, none⟩), .int .u8 c] w fun e w' => e = .returned .nilIface ∧ Bd w' b (bs ++ [.int .u8 c]) ∧ Kp b w w' := by
  obtain ⟨i0, hi, hz0, hz1, hz2⟩ := info_parts infoByte
  have hBw : b ≤ w.heap.size := by rcases h with h | h <;> exact Nat.le_of_lt h.lt
  go_enter Tryz.func83, Tryz.ntmps83
  go_wp2_with (go_at_call 78; refine (check_any b bs _ h).mono ?_)
  rintro e w1 ⟨rfl, h1, hb1, hk1⟩
  obtain ⟨hB, v, hbk, hown, hne⟩ := h1
  have c0 : w1.cell? ⟨b, 0, none⟩ = some (.pointer (some ⟨b, 0, none⟩)) := by rw [Lib.cell_of_heap hbk]; rfl
  have c1 : w1.cell? ⟨b, 1, none⟩ = some v := by rw [Lib.cell_of_heap hbk]; rfl
  go_wp2_with (at_builtin; refine wpList_append_ownF _ rfl _ _ 46 rfl b 5 i0 (.int .u8 0) 1 1 Tryz.underlying46 hi hz0 hz1 hz2 rfl (by decide) _ _ _ rfl (hown.alloc _) ⟨w1.heap.size, 0, none⟩ 1 1 [.int .u8 c] rfl rfl ?c1 ?c2 ?c3 ?c4 ?c5 ?_)
  case c1 =>
    intro j u hj
    match j, hj with
    | 0, hj => simp at hj; subst hj; simp [Addr.add]
  case c2 => intro u hu; simp at hu; subst hu; rfl
  case c3 => unfold maxLen; omega
  case c4 => omega
  case c5 => have := hb1.size; simp; omega
  intro v' w2 hown' hgrow _
  have hlt : b < w1.heap.size := lt_of_block hbk
  have hb2 : w2.heap[b]? = some (.cells #[.pointer (some ⟨b, 0, none⟩), v] 57 (0, 0)) := by
    rw [hgrow.block b (by simp; omega) (fun e => hne e.symm), Lib.alloc_old w1 _ b hlt]
    exact hbk
  have d0 : w2.cell? ⟨b, 0, none⟩ = some (.pointer (some ⟨b, 0, none⟩)) := by rw [Lib.cell_of_heap hb2]; rfl
  have d1 : w2.cell? ⟨b, 1, none⟩ = some v := by rw [Lib.cell_of_heap hb2]; rfl
  have f1 : w2.frozen? ⟨b, 1, none⟩ = false := Lib.frozen_of_heap hb2 1
  obtain ⟨g, cap, rfl⟩ : ∃ g cap, v' = .slice (some ⟨g, 0, none⟩) (bs.length + 1) cap := by
    rcases hown'.2 with ⟨_, h0⟩ | ⟨g, cap, cur, fz, hv, _⟩
    · omega
    · exact ⟨g, cap, hv⟩
  go_wp2
  go_ret
  refine ⟨rfl, Or.inr ?_, ?_, ((hk1.alloc _).grown hgrow (Lib.ownsRowF_kind (hown.alloc _))).setCell ⟨b, 1, none⟩ rfl _⟩
  · exact Lib.BuilderAtF.put (T := 57) (e := 5) hB hb2 (bs' := bs ++ [.int .u8 c]) (by simpa using hown') ne_b8
  · exact ((hb1.alloc (by have := hb1.size; omega) _).grown hgrow (by have := hb1.size; simp; omega) (fun k hk => (hown.lt k hk).1)).setCell (p := ⟨b, 1, none⟩) hB _
end Go.Proofs.YtaoipmmeialpnaaGreatDoor

/- (*strings.Builder).String at this program, by the shelf's contract. -/
namespace Go.Proofs.YtaoipmmeialpnaaGreatDoor
open Go.RowKit Go.Shelf

def ren169 : Go.Shelf.Ren := ⟨fun | 169 => 52 | n => n, fun | 70 => 55 | 9 => 9 | 0 => 0 | 72 => 57 | 37 => 46 | 127 => 102 | 3 => 3 | 5 => 5 | n => n, fun | n => n⟩
theorem lays169 : Go.Proofs.Lays.n169 Tryz.prog ren169 := {
  mixed := by kernel_rfl
  f169 := Tryz.func52.trans (congrArg some (by kernel_rfl))
  t0 := Tryz.underlying0
  a0 := Tryz.isAgg0
  z0 := Tryz.sizeOf0
  v0 := Tryz.zeroValue0
  t3 := Tryz.underlying3
  a3 := Tryz.isAgg3
  z3 := Tryz.sizeOf3
  v3 := Tryz.zeroValue3
  t9 := Tryz.underlying9
  a9 := Tryz.isAgg9
  z9 := Tryz.sizeOf9
  v9 := Tryz.zeroValue9
  t37 := Tryz.underlying46
  a37 := Tryz.isAgg46
  z37 := Tryz.sizeOf46
  v37 := Tryz.zeroValue46
  t70 := Tryz.underlying55
  a70 := Tryz.isAgg55
  z70 := Tryz.sizeOf55
  v70 := Tryz.zeroValue55
  t72 := Tryz.underlying57
  a72 := Tryz.isAgg57
  z72 := Tryz.sizeOf57
  v72 := Tryz.zeroValue57
  t127 := Tryz.underlying102
  a127 := Tryz.isAgg102
  z127 := Tryz.sizeOf102
  v127 := Tryz.zeroValue102 }
theorem extra169 : Builder.Extra Tryz.prog ren169 := {
  sizeBuilder := by kernel_rfl
  liesBuilder := by kernel_rfl
  t5 := Tryz.underlying5
  a5 := Tryz.isAgg5
  z5 := Tryz.sizeOf5
  v5 := Tryz.zeroValue5
  infoByte := by kernel_rfl
  cellsByte := by kernel_rfl
  sizeByte := by kernel_rfl
  neB5 := by decide }

theorem String_any (b : Nat) (l : List UInt8) (w : World) (h : Bd w b (Lib.byteCells l)) :
    Calls Tryz.prog 52 #[.pointer (some ⟨b, 0, none⟩)] w fun e w' => e = .returned (.string ⟨l.toArray⟩) ∧ Bd w' b (Lib.byteCells l) ∧ Kp b w w' := by
  have hBw : b ≤ w.heap.size := by rcases h with h | h <;> exact Nat.le_of_lt h.lt
  have H : Calls Tryz.prog 52 #[.pointer (some ⟨b, 0, none⟩)] w fun e w' => e = .returned (.string ⟨l.toArray⟩) ∧ (Lib.IsBuilderF 57 5 b b (Lib.byteCells l) w' ∧ Below b w w' ∧ Lib.OthersKept 5 (some b) w w') := Any.Builder_String_any_k lays169 extra169 b b l w h hBw
  refine H.mono ?_
  rintro e w' ⟨rfl, h1, h2, h3⟩
  exact ⟨rfl, h1, h2, h3⟩
end Go.Proofs.YtaoipmmeialpnaaGreatDoor

/- Terms as trees, their sizes and their order, as plain mathematics. -/
namespace Go.Proofs.YtaoipmmeialpnaaGreatDoor

/-- A term as a tree. -/
inductive Tm where
  | mk (k num : Int) (neg : Bool) (L : List Nat) (s : ByteArray) (I T : List Tm) : Tm

def Tm.kd : Tm → Int
  | .mk k _ _ _ _ _ _ => k

def cmpZ (x y : Int) : Int := if x < y then -1 else if y < x then 1 else 0
theorem cmpZ_self (x : Int) : cmpZ x x = 0 := by unfold cmpZ; rw [if_neg (by omega), if_neg (by omega)]
theorem cmpZ_zero {x y : Int} : cmpZ x y = 0 ↔ x = y := by
  unfold cmpZ
  split
  · constructor <;> intro h <;> omega
  · split
    · constructor <;> intro h <;> omega
    · constructor <;> intro h <;> omega
theorem cmpZ_neg (x y : Int) : cmpZ y x = - cmpZ x y := by
  unfold cmpZ
  repeat' split
  all_goals omega

/-- By the first place at which they part. -/
def lexZ : List Int → List Int → Int
  | [], [] => 0
  | [], _ :: _ => -1
  | _ :: _, [] => 1
  | x :: r, y :: s => if x = y then lexZ r s else cmpZ x y

theorem lexZ_self (l : List Int) : lexZ l l = 0 := by
  induction l with
  | nil => rfl
  | cons x r ih => simp [lexZ, ih]
theorem lexZ_neg (l m : List Int) : lexZ m l = - lexZ l m := by
  induction l generalizing m with
  | nil => cases m <;> rfl
  | cons x r ih =>
    cases m with
    | nil => rfl
    | cons y s =>
      simp only [lexZ]
      by_cases h : x = y
      · rw [if_pos h, if_pos h.symm, ih]
      · rw [if_neg h, if_neg (fun e => h e.symm), cmpZ_neg]
theorem lexZ_range (l m : List Int) : lexZ l m = -1 ∨ lexZ l m = 0 ∨ lexZ l m = 1 := by
  induction l generalizing m with
  | nil => cases m <;> simp [lexZ]
  | cons x r ih =>
    cases m with
    | nil => simp [lexZ]
    | cons y s =>
      simp only [lexZ]
      split
      · exact ih s
      · unfold cmpZ; repeat' split
        all_goals omega
theorem lexZ_zero {l m : List Int} (h : lexZ l m = 0) : l = m := by
  induction l generalizing m with
  | nil => cases m with
    | nil => rfl
    | cons y s => simp [lexZ] at h
  | cons x r ih =>
    cases m with
    | nil => simp [lexZ] at h
    | cons y s =>
      simp only [lexZ] at h
      by_cases e : x = y
      · rw [if_pos e] at h; rw [e, ih h]
      · rw [if_neg e] at h; exact absurd (cmpZ_zero.1 h) e
theorem lexZ_trans {l m n : List Int} (h : lexZ l m ≤ 0) (k : lexZ m n ≤ 0) : lexZ l n ≤ 0 := by
  induction l generalizing m n with
  | nil => cases n <;> simp [lexZ]
  | cons x r ih =>
    cases m with
    | nil => simp [lexZ] at h
    | cons y s =>
      cases n with
      | nil => simp [lexZ] at k
      | cons z u =>
        simp only [lexZ] at h k ⊢
        by_cases e1 : x = y
        · by_cases e2 : y = z
          · rw [if_pos e1] at h; rw [if_pos e2] at k; rw [if_pos (e1.trans e2)]; exact ih h k
          · rw [if_neg e2] at k; rw [e1, if_neg e2]; exact k
        · rw [if_neg e1] at h
          have h1 : x < y := by unfold cmpZ at h; by_cases q : x < y
                                · exact q
                                · rw [if_neg q, if_pos (by omega)] at h; omega
          by_cases e2 : y = z
          · rw [← e2, if_neg e1]; exact h
          · rw [if_neg e2] at k
            have h2 : y < z := by unfold cmpZ at k; by_cases q : y < z
                                  · exact q
                                  · rw [if_neg q, if_pos (by omega)] at k; omega
            rw [if_neg (by omega)]; unfold cmpZ; rw [if_pos (by omega)]; omega

/-- The first answer, if it is one; else the second. -/
def th (c d : Int) : Int := if c = 0 then d else c
theorem th_zero {c d : Int} : th c d = 0 ↔ c = 0 ∧ d = 0 := by
  unfold th
  split <;> constructor <;> intro h <;> simp_all
theorem th_right (c : Int) : th c 0 = c := by unfold th; split <;> omega
theorem th_assoc (a b c : Int) : th (th a b) c = th a (th b c) := by
  unfold th
  by_cases h : a = 0
  · rw [if_pos h, if_pos h]
  · rw [if_neg h, if_neg h, if_neg h]
theorem th_z (d : Int) : th 0 d = d := by unfold th; rw [if_pos rfl]

/-- An integer by its sign and its limbs. -/
def zv (neg : Bool) (L : List Nat) : Int := if neg then -(val L : Int) else val L
def bz (s : ByteArray) : List Int := s.data.toList.map fun c => (c.toNat : Int)

mutual
/-- The order of two terms. -/
def ordT : Tm → Tm → Int
  | .mk k num neg L s I T, .mk k' num' neg' L' s' I' T' =>
    if k = k' then
      (if k = 1 then cmpZ (zv neg L) (zv neg' L')
      else if k = 2 then lexZ (bz s) (bz s')
      else if k = 7 then th (ordR I I') (ordE T T')
      else th (cmpZ num num') (th (cmpZ I.length I'.length) (ordR I I')))
    else cmpZ k k'
/-- .. of two rows. -/
def ordR : List Tm → List Tm → Int
  | [], [] => 0
  | [], _ :: _ => -1
  | _ :: _, [] => 1
  | t :: r, u :: v => th (ordT t u) (ordR r v)
/-- .. of what stands behind two lists. -/
def ordE : List Tm → List Tm → Int
  | [], [] => 0
  | [], u :: _ => cmpZ 7 u.kd
  | t :: _, [] => cmpZ t.kd 7
  | t :: _, u :: _ => ordT t u
end

mutual
/-- A term said in numbers, so that the order of what is said is the order of terms. -/
def enc : Tm → List Int
  | .mk k num neg L s I T => k :: (if k = 1 then [zv neg L] else if k = 2 then (bz s).map (· + 1) ++ [0] else if k = 7 then encL I ++ encE T else num :: (I.length : Int) :: encR I)
def encR : List Tm → List Int
  | [] => []
  | t :: r => enc t ++ encR r
def encL : List Tm → List Int
  | [] => [0]
  | t :: r => 1 :: (enc t ++ encL r)
def encE : List Tm → List Int
  | [] => [7]
  | t :: _ => enc t
end

/-- A right integer's limbs. -/
def okL (neg : Bool) (L : List Nat) : Bool := if L.length = 0 then !neg else decide (L.length ≤ 32) && decide (L.getD (L.length - 1) 0 ≠ 0)
/-- A term's own fields, where the terms in it are right. -/
def okF (k num : Int) (neg : Bool) (L : List Nat) (s : ByteArray) (ni : Nat) (T : List Tm) : Bool :=
  if k = 1 then okL neg L && decide (s.size = 0 ∧ num = 0 ∧ ni = 0 ∧ T.length = 0)
  else decide (neg = false ∧ L.length = 0) &&
    (if k = 2 then decide (s.size ≤ 40 ∧ num = 0 ∧ ni = 0 ∧ T.length = 0)
    else if k = 3 ∨ k = 5 then decide (s.size = 0 ∧ 0 ≤ num ∧ num ≤ 1099511627776 ∧ ni = 0 ∧ T.length = 0)
    else if k = 4 then decide (s.size = 0 ∧ 0 ≤ num ∧ num ≤ 16384 ∧ T.length = 0)
    else if k = 6 then decide (s.size = 0 ∧ num = 0 ∧ T.length = 0)
    else if k = 7 then decide (s.size = 0 ∧ num = 0) && (match T with | [] => true | [u] => decide (0 < ni) && decide (u.kd ≠ 7) | _ => false)
    else false)
mutual
def okT' : Tm → Bool
  | .mk k num neg L s I T => okF k num neg L s I.length T && okR I && okR T
def okR : List Tm → Bool
  | [] => true
  | t :: r => okT' t && okR r
end
/-- What a term adds to the sizes of the terms in it. -/
def ownZ (k : Int) (nl ni : Nat) : Nat := if k = 1 then 1 + nl else if k = 4 then 2 else if k = 7 then 1 + ni else 1
mutual
def szT : Tm → Nat
  | .mk k _ _ L _ I T => ownZ k L.length I.length + szR I + szR T
def szR : List Tm → Nat
  | [] => 0
  | t :: r => szT t + szR r
end

theorem lexZ_bytes (a b r r' : List Int) (ha : ∀ x ∈ a, 0 ≤ x) (hb : ∀ x ∈ b, 0 ≤ x) : lexZ (a.map (· + 1) ++ 0 :: r) (b.map (· + 1) ++ 0 :: r') = th (lexZ a b) (lexZ r r') := by
  induction a generalizing b with
  | nil =>
    cases b with
    | nil => simp [lexZ, th]
    | cons y s =>
      have := hb y (by simp)
      simp only [List.map_nil, List.nil_append, List.map_cons, List.cons_append, lexZ]
      rw [if_neg (by omega)]; unfold cmpZ th; rw [if_pos (by omega), if_neg (by omega)]
  | cons x l ih =>
    have hx := ha x (by simp)
    cases b with
    | nil =>
      simp only [List.map_nil, List.nil_append, List.map_cons, List.cons_append, lexZ]
      rw [if_neg (by omega)]; unfold cmpZ th; rw [if_neg (by omega), if_pos (by omega), if_neg (by omega)]
    | cons y s =>
      simp only [List.map_cons, List.cons_append, lexZ]
      by_cases e : x = y
      · rw [if_pos (by omega), if_pos e]
        exact ih s (fun z hz => ha z (by simp [hz])) (fun z hz => hb z (by simp [hz]))
      · rw [if_neg (by omega), if_neg e]
        have : cmpZ (x + 1) (y + 1) = cmpZ x y := by unfold cmpZ; repeat' split
                                                     all_goals omega
        rw [this]
        unfold th
        rw [if_neg (fun h => e (cmpZ_zero.1 h))]
theorem bz_nonneg (s : ByteArray) : ∀ x ∈ bz s, 0 ≤ x := by
  intro x hx
  obtain ⟨c, _, rfl⟩ := List.mem_map.1 hx
  omega
theorem cmp_th (x y : Int) (r r' : List Int) : lexZ (x :: r) (y :: r') = th (cmpZ x y) (lexZ r r') := by
  simp only [lexZ]
  by_cases e : x = y
  · rw [if_pos e, e, cmpZ_self]; simp [th]
  · rw [if_neg e]; unfold th; rw [if_neg (fun h => e (cmpZ_zero.1 h))]
theorem enc_head (t : Tm) : ∃ r, enc t = t.kd :: r := by cases t; exact ⟨_, by rw [enc]; rfl⟩

theorem okF_tail {k num : Int} {neg : Bool} {L : List Nat} {s : ByteArray} {ni : Nat} {T : List Tm} (h : okF k num neg L s ni T = true) : T = [] ∨ ∃ u, T = [u] ∧ u.kd ≠ 7 ∧ k = 7 ∧ 0 < ni := by
  unfold okF at h
  by_cases h1 : k = 1
  · rw [if_pos h1] at h; simp at h; exact Or.inl h.2.2.2.2
  · rw [if_neg h1] at h
    simp only [Bool.and_eq_true] at h
    have h := h.2
    by_cases h2 : k = 2
    · rw [if_pos h2] at h; simp at h; exact Or.inl h.2.2.2
    rw [if_neg h2] at h
    by_cases h3 : k = 3 ∨ k = 5
    · rw [if_pos h3] at h; simp at h; exact Or.inl h.2.2.2.2
    rw [if_neg h3] at h
    by_cases h4 : k = 4
    · rw [if_pos h4] at h; simp at h; exact Or.inl h.2.2.2
    rw [if_neg h4] at h
    by_cases h6 : k = 6
    · rw [if_pos h6] at h; simp at h; exact Or.inl h.2.2
    rw [if_neg h6] at h
    by_cases h7 : k = 7
    · rw [if_pos h7] at h
      match T, h with
      | [], _ => exact Or.inl rfl
      | [u], h => simp at h; exact Or.inr ⟨u, rfl, h.2.2, h7, h.2.1⟩
      | _ :: _ :: _, h => simp at h
    · rw [if_neg h7] at h; simp at h
theorem okF_tail2 {k num : Int} {neg : Bool} {L : List Nat} {s : ByteArray} {ni : Nat} {T : List Tm} (h : okF k num neg L s ni T = true) : T = [] ∨ ∃ u, T = [u] ∧ u.kd ≠ 7 := by
  rcases okF_tail h with h | ⟨u, h1, h2, _⟩
  · exact Or.inl h
  · exact Or.inr ⟨u, h1, h2⟩

mutual
theorem enc_ord : ∀ (t u : Tm) (r r' : List Int), okT' t = true → okT' u = true → lexZ (enc t ++ r) (enc u ++ r') = th (ordT t u) (lexZ r r')
  | .mk k num neg L s I T, .mk k' num' neg' L' s' I' T', r, r', h, h' => by
    rw [okT', Bool.and_eq_true, Bool.and_eq_true] at h h'
    rw [enc, enc, ordT, List.cons_append, List.cons_append, cmp_th]
    by_cases hk : k = k'
    · subst hk
      rw [cmpZ_self, if_pos rfl, th_z]
      by_cases h1 : k = 1
      · rw [if_pos h1, if_pos h1, if_pos h1, List.cons_append, List.cons_append, cmp_th, List.nil_append, List.nil_append]
      · rw [if_neg h1, if_neg h1, if_neg h1]
        by_cases h2 : k = 2
        · rw [if_pos h2, if_pos h2, if_pos h2, List.append_assoc, List.append_assoc]
          exact lexZ_bytes _ _ _ _ (bz_nonneg s) (bz_nonneg s')
        · rw [if_neg h2, if_neg h2, if_neg h2]
          by_cases h7 : k = 7
          · rw [if_pos h7, if_pos h7, if_pos h7, List.append_assoc, List.append_assoc, encL_ord I I' _ _ h.1.2 h'.1.2, encE_ord T T' r r' h.2 h'.2 (okF_tail2 h.1.1) (okF_tail2 h'.1.1), th_assoc]
          · rw [if_neg h7, if_neg h7, if_neg h7, List.cons_append, List.cons_append, List.cons_append, List.cons_append, cmp_th, cmp_th]
            by_cases hl : I.length = I'.length
            · rw [encR_ord I I' r r' h.1.2 h'.1.2 hl, th_assoc, th_assoc]
            · have : cmpZ (I.length : Int) (I'.length : Int) ≠ 0 := fun e => hl (by have := cmpZ_zero.1 e; omega)
              rw [th_assoc, th_assoc]
              congr 1
              unfold th
              rw [if_neg this, if_neg this]
    · have : cmpZ k k' ≠ 0 := fun e => hk (cmpZ_zero.1 e)
      rw [if_neg hk]
      unfold th
      rw [if_neg this, if_neg this]
theorem encR_ord : ∀ (I I' : List Tm) (r r' : List Int), okR I = true → okR I' = true → I.length = I'.length → lexZ (encR I ++ r) (encR I' ++ r') = th (ordR I I') (lexZ r r')
  | [], [], r, r', _, _, _ => by rw [encR, ordR, List.nil_append, List.nil_append, th_z]
  | [], _ :: _, _, _, _, _, h => by simp at h
  | _ :: _, [], _, _, _, _, h => by simp at h
  | t :: I, u :: I', r, r', h, h', hl => by
    rw [okR, Bool.and_eq_true] at h h'
    rw [encR, encR, ordR, List.append_assoc, List.append_assoc, enc_ord t u _ _ h.1 h'.1, encR_ord I I' r r' h.2 h'.2 (by simpa using hl), th_assoc]
theorem encL_ord : ∀ (I I' : List Tm) (r r' : List Int), okR I = true → okR I' = true → lexZ (encL I ++ r) (encL I' ++ r') = th (ordR I I') (lexZ r r')
  | [], [], r, r', _, _ => by rw [encL, ordR, List.cons_append, List.cons_append, cmp_th, cmpZ_self, th_z, th_z]; rfl
  | [], u :: I', r, r', _, _ => by rw [encL, encL, ordR, List.cons_append, List.cons_append, cmp_th]; rfl
  | t :: I, [], r, r', _, _ => by rw [encL, encL, ordR, List.cons_append, List.cons_append, cmp_th]; rfl
  | t :: I, u :: I', r, r', h, h' => by
    rw [okR, Bool.and_eq_true] at h h'
    rw [encL, encL, ordR, List.cons_append, List.cons_append, cmp_th, cmpZ_self, th_z, List.append_assoc, List.append_assoc, enc_ord t u _ _ h.1 h'.1, encL_ord I I' r r' h.2 h'.2, th_assoc]
theorem encE_ord : ∀ (T T' : List Tm) (r r' : List Int), okR T = true → okR T' = true → (T = [] ∨ ∃ u, T = [u] ∧ u.kd ≠ 7) → (T' = [] ∨ ∃ u, T' = [u] ∧ u.kd ≠ 7) → lexZ (encE T ++ r) (encE T' ++ r') = th (ordE T T') (lexZ r r')
  | [], [], r, r', _, _, _, _ => by rw [encE, ordE, List.cons_append, List.cons_append, cmp_th, cmpZ_self, th_z, th_z]; rfl
  | [], u :: T', r, r', _, _, _, h => by
    obtain ⟨u', e, h7⟩ := h.resolve_left (by simp)
    have e1 := (List.cons.inj e).1
    obtain ⟨q, hq⟩ := enc_head u
    have : cmpZ 7 u.kd ≠ 0 := fun z => h7 (by rw [← e1]; exact (cmpZ_zero.1 z).symm)
    rw [encE, encE, ordE, hq, List.cons_append, List.cons_append, cmp_th]
    unfold th; rw [if_neg this, if_neg this]
  | t :: T, [], r, r', _, _, h, _ => by
    obtain ⟨u', e, h7⟩ := h.resolve_left (by simp)
    have e1 := (List.cons.inj e).1
    obtain ⟨q, hq⟩ := enc_head t
    have : cmpZ t.kd 7 ≠ 0 := fun z => h7 (by rw [← e1]; exact cmpZ_zero.1 z)
    rw [encE, encE, ordE, hq, List.cons_append, List.cons_append, cmp_th]
    unfold th; rw [if_neg this, if_neg this]
  | t :: T, u :: T', r, r', h, h', _, _ => by
    rw [okR, Bool.and_eq_true] at h h'
    rw [encE, encE, ordE]
    exact enc_ord t u r r' h.1 h'.1
end

theorem ord_lex (t u : Tm) (h : okT' t = true) (h' : okT' u = true) : ordT t u = lexZ (enc t) (enc u) := by
  have := enc_ord t u [] [] h h'
  rw [List.append_nil, List.append_nil] at this
  rw [this]
  exact (th_right _).symm
theorem ordT_self (t : Tm) (h : okT' t = true) : ordT t t = 0 := by rw [ord_lex t t h h, lexZ_self]
theorem ordT_neg (t u : Tm) (h : okT' t = true) (h' : okT' u = true) : ordT u t = - ordT t u := by rw [ord_lex t u h h', ord_lex u t h' h, lexZ_neg]
theorem ordT_range (t u : Tm) (h : okT' t = true) (h' : okT' u = true) : ordT t u = -1 ∨ ordT t u = 0 ∨ ordT t u = 1 := by rw [ord_lex t u h h']; exact lexZ_range _ _
theorem ordT_trans (t u v : Tm) (h : okT' t = true) (h' : okT' u = true) (h'' : okT' v = true) (h1 : ordT t u ≤ 0) (h2 : ordT u v ≤ 0) : ordT t v ≤ 0 := by
  rw [ord_lex _ _ h h'] at h1
  rw [ord_lex _ _ h' h''] at h2
  rw [ord_lex _ _ h h'']
  exact lexZ_trans h1 h2

theorem bz_inj {s s' : ByteArray} (h : bz s = bz s') : s = s' := by
  have : s.data.toList = s'.data.toList := by
    unfold bz at h
    exact List.map_inj_right (fun a b e => UInt8.toNat_inj.1 (by omega)) |>.1 h
  cases s; cases s'
  congr
  exact Array.toList_inj.1 this
theorem bz_empty {s : ByteArray} (h : s.size = 0) : s = ⟨#[]⟩ := by
  cases s with
  | mk d => congr; exact Array.eq_empty_of_size_eq_zero h
theorem zv_inj {neg neg' : Bool} {L L' : List Nat} (hd : Dig L) (hd' : Dig L') (hl : L.getLast? ≠ some 0) (hl' : L'.getLast? ≠ some 0) (hz : L = [] → neg = false) (hz' : L' = [] → neg' = false) (h : zv neg L = zv neg' L') : neg = neg' ∧ L = L' := by
  have top : ∀ x, L.getLast? = some x → x ≠ 0 := fun x hx e => hl (by rw [hx, e])
  have top' : ∀ x, L'.getLast? = some x → x ≠ 0 := fun x hx e => hl' (by rw [hx, e])
  have hv : val L = val L' := by
    unfold zv at h
    split at h <;> split at h <;> omega
  have e : L = L' := Norm.uniq (n := val L) ⟨hd, rfl, top⟩ ⟨hd', hv.symm, top'⟩
  refine ⟨?_, e⟩
  subst e
  by_cases h0 : L = []
  · rw [hz h0, hz' h0]
  · have hp := val_pos_of_top h0 top
    unfold zv at h
    cases neg <;> cases neg' <;> simp at h ⊢ <;> omega

mutual
/-- All limbs are limbs. -/
def digT : Tm → Prop
  | .mk _ _ _ L _ I T => Dig L ∧ digR I ∧ digR T
def digR : List Tm → Prop
  | [] => True
  | t :: r => digT t ∧ digR r
end

theorem okL_top {neg : Bool} {L : List Nat} (h : okL neg L = true) : L.getLast? ≠ some 0 ∧ (L = [] → neg = false) ∧ L.length ≤ 32 := by
  unfold okL at h
  by_cases h0 : L.length = 0
  · rw [if_pos h0] at h
    have : L = [] := List.eq_nil_of_length_eq_zero h0
    subst this
    simp at h
    simp [h]
  · rw [if_neg h0] at h
    simp only [Bool.and_eq_true, decide_eq_true_eq] at h
    refine ⟨fun e => h.2 ?_, fun e => absurd (by rw [e]; rfl) h0, h.1⟩
    rw [List.getLast?_eq_getElem?] at e
    simp [List.getD, e]

mutual
theorem ordT_zero : ∀ (t u : Tm), okT' t = true → okT' u = true → digT t → digT u → ordT t u = 0 → t = u
  | .mk k num neg L s I T, .mk k' num' neg' L' s' I' T', h, h', d, d', e => by
    rw [okT', Bool.and_eq_true, Bool.and_eq_true] at h h'
    rw [digT] at d d'
    rw [ordT] at e
    by_cases hk : k = k'
    · subst hk
      rw [if_pos rfl] at e
      have f := h.1.1
      have f' := h'.1.1
      have hT := okF_tail h.1.1
      have hT' := okF_tail h'.1.1
      unfold okF at f f'
      by_cases h1 : k = 1
      · rw [if_pos h1] at f f' e
        simp only [Bool.and_eq_true, decide_eq_true_eq] at f f'
        obtain ⟨f1, f2, f3, f4, f5⟩ := f
        obtain ⟨g1, g2, g3, g4, g5⟩ := f'
        obtain ⟨a1, a2, _⟩ := okL_top f1
        obtain ⟨b1, b2, _⟩ := okL_top g1
        obtain ⟨e1, e2⟩ := zv_inj d.1 d'.1 a1 b1 a2 b2 (cmpZ_zero.1 e)
        rw [e1, e2, f3, g3, List.eq_nil_of_length_eq_zero f4, List.eq_nil_of_length_eq_zero g4, List.eq_nil_of_length_eq_zero f5, List.eq_nil_of_length_eq_zero g5, bz_empty f2, bz_empty g2]
      · rw [if_neg h1] at f f' e
        simp only [Bool.and_eq_true, decide_eq_true_eq] at f f'
        obtain ⟨⟨n1, n2⟩, f⟩ := f
        obtain ⟨⟨m1, m2⟩, f'⟩ := f'
        rw [n1, m1, List.eq_nil_of_length_eq_zero n2, List.eq_nil_of_length_eq_zero m2]
        by_cases h2 : k = 2
        · rw [if_pos h2] at f f' e
          simp only [decide_eq_true_eq] at f f'
          obtain ⟨_, f3, f4, f5⟩ := f
          obtain ⟨_, g3, g4, g5⟩ := f'
          rw [bz_inj (lexZ_zero e), f3, g3, List.eq_nil_of_length_eq_zero f4, List.eq_nil_of_length_eq_zero g4, List.eq_nil_of_length_eq_zero f5, List.eq_nil_of_length_eq_zero g5]
        · rw [if_neg h2] at f f' e
          by_cases h7 : k = 7
          · rw [if_neg (by omega), if_neg (by omega), if_neg (by omega), if_pos h7] at f f'
            rw [if_pos h7, th_zero] at e
            simp only [Bool.and_eq_true, decide_eq_true_eq] at f f'
            obtain ⟨⟨f2, f3⟩, _⟩ := f
            obtain ⟨⟨g2, g3⟩, _⟩ := f'
            rw [bz_empty f2, bz_empty g2, f3, g3, ordR_zero I I' h.1.2 h'.1.2 d.2.1 d'.2.1 e.1, ordE_zero T T' h.2 h'.2 d.2.2 d'.2.2 (okF_tail2 h.1.1) (okF_tail2 h'.1.1) e.2]
          · rw [if_neg h7, th_zero, th_zero] at e
            have eN := cmpZ_zero.1 e.1
            have eI := ordR_zero I I' h.1.2 h'.1.2 d.2.1 d'.2.1 e.2.2
            have eT : T = T' := by
              rcases hT with hT | ⟨_, _, _, q, _⟩
              · rcases hT' with hT' | ⟨_, _, _, q, _⟩
                · rw [hT, hT']
                · exact absurd q h7
              · exact absurd q h7
            have z : s.size = 0 ∧ s'.size = 0 := by
              by_cases h3 : k = 3 ∨ k = 5
              · rw [if_pos h3] at f f'; simp only [decide_eq_true_eq] at f f'; exact ⟨f.1, f'.1⟩
              rw [if_neg h3] at f f'
              by_cases h4 : k = 4
              · rw [if_pos h4] at f f'; simp only [decide_eq_true_eq] at f f'; exact ⟨f.1, f'.1⟩
              rw [if_neg h4] at f f'
              by_cases h6 : k = 6
              · rw [if_pos h6] at f f'; simp only [decide_eq_true_eq] at f f'; exact ⟨f.1, f'.1⟩
              rw [if_neg h6, if_neg h7] at f
              simp at f
            rw [eN, eI, eT, bz_empty z.1, bz_empty z.2]
    · rw [if_neg hk] at e
      exact absurd (cmpZ_zero.1 e) hk
theorem ordR_zero : ∀ (I I' : List Tm), okR I = true → okR I' = true → digR I → digR I' → ordR I I' = 0 → I = I'
  | [], [], _, _, _, _, _ => rfl
  | [], _ :: _, _, _, _, _, h => by rw [ordR] at h; omega
  | _ :: _, [], _, _, _, _, h => by rw [ordR] at h; omega
  | t :: I, u :: I', h, h', d, d', e => by
    rw [okR, Bool.and_eq_true] at h h'
    rw [digR] at d d'
    rw [ordR, th_zero] at e
    rw [ordT_zero t u h.1 h'.1 d.1 d'.1 e.1, ordR_zero I I' h.2 h'.2 d.2 d'.2 e.2]
theorem ordE_zero : ∀ (T T' : List Tm), okR T = true → okR T' = true → digR T → digR T' → (T = [] ∨ ∃ u, T = [u] ∧ u.kd ≠ 7) → (T' = [] ∨ ∃ u, T' = [u] ∧ u.kd ≠ 7) → ordE T T' = 0 → T = T'
  | [], [], _, _, _, _, _, _, _ => rfl
  | [], u :: T', _, _, _, _, _, h, e => by
    obtain ⟨u', q, h7⟩ := h.resolve_left (by simp)
    rw [ordE] at e
    exact absurd (by rw [← (List.cons.inj q).1]; exact (cmpZ_zero.1 e).symm) h7
  | t :: T, [], _, _, _, _, h, _, e => by
    obtain ⟨u', q, h7⟩ := h.resolve_left (by simp)
    rw [ordE] at e
    exact absurd (by rw [← (List.cons.inj q).1]; exact cmpZ_zero.1 e) h7
  | t :: T, u :: T', h, h', d, d', q, q', e => by
    rw [okR, Bool.and_eq_true] at h h'
    rw [digR] at d d'
    rw [ordE] at e
    obtain ⟨t', q1, _⟩ := q.resolve_left (by simp)
    obtain ⟨u', q2, _⟩ := q'.resolve_left (by simp)
    rw [ordT_zero t u h.1 h'.1 d.1 d'.1 e, (List.cons.inj q1).2, (List.cons.inj q2).2]
end

/-- Kinds stand in order. -/
theorem ordT_kind (t u : Tm) (h : t.kd < u.kd) : ordT t u = -1 := by
  cases t; cases u
  simp only [Tm.kd] at h
  rw [ordT, if_neg (by omega)]
  unfold cmpZ
  rw [if_pos h]

end Go.Proofs.YtaoipmmeialpnaaGreatDoor

/- Terms as trees, and how they stand in memory. -/
namespace Go.Proofs.YtaoipmmeialpnaaGreatDoor
open Go.ChangeShapes Go.WideShapes Go.ChangeAt Go.RowKit Go.Joins

/-- A row of terms in memory. -/
def RowAt (R : List Value → Tm → Prop) (w : World) (a : Option Addr) (I : List Tm) : Prop :=
  I = [] ∨ ∃ b o, a = some ⟨b, o, none⟩ ∧ b < w.heap.size ∧ ∀ i (hi : i < I.length), ∃ cs : List Value, cs.length = 7 ∧ (∀ j, j < 7 → w.cell? ⟨b, o + (i * 7 + j), none⟩ = cs[j]?) ∧ R cs I[i]

/-- The seven cells of a term stand for a tree. -/
def In (w : World) : Nat → List Value → Tm → Prop
  | 0, _, _ => False
  | d + 1, cs, .mk k num neg L s I T => ∃ (a ai at' : Option Addr) (c ci ct : Nat), cs = [.int .u8 k, .bool neg, .slice a L.length c, .string s, .int .i64 num, .slice ai I.length ci, .slice at' T.length ct] ∧ At w a L ∧ Dig L ∧ RowAt (In w d) w ai I ∧ RowAt (In w d) w at' T

theorem RowAt.imp {R S : List Value → Tm → Prop} {w w' : World} {a : Option Addr} {I : List Tm} (h : RowAt R w a I) (hu : Upd [] w w') (himp : ∀ cs t, R cs t → S cs t) : RowAt S w' a I := by
  rcases h with h | ⟨b, o, e, hlt, hc⟩
  · exact Or.inl h
  · refine Or.inr ⟨b, o, e, Nat.lt_of_lt_of_le hlt hu.size, fun i hi => ?_⟩
    obtain ⟨cs, h1, h2, h3⟩ := hc i hi
    exact ⟨cs, h1, fun j hj => (hu.cell (p := ⟨b, o + (i * 7 + j), none⟩) hlt (by simp)).trans (h2 j hj), himp _ _ h3⟩
theorem In.mono {w w' : World} (hu : Upd [] w w') : ∀ (d : Nat) (cs : List Value) (t : Tm), In w d cs t → In w' d cs t := by
  intro d
  induction d with
  | zero => intro cs t h; exact h.elim
  | succ d ih =>
    intro cs t h
    cases t with
    | mk k num neg L s I T =>
      obtain ⟨a, ai, at', c, ci, ct, rfl, h1, h2, h3, h4⟩ := h
      exact ⟨a, ai, at', c, ci, ct, rfl, h1.mono hu, h2, h3.imp hu ih, h4.imp hu ih⟩
theorem In.more {w : World} : ∀ (d : Nat) (cs : List Value) (t : Tm), In w d cs t → In w (d + 1) cs t := by
  intro d
  induction d with
  | zero => intro cs t h; exact h.elim
  | succ d ih =>
    intro cs t h
    cases t with
    | mk k num neg L s I T =>
      obtain ⟨a, ai, at', c, ci, ct, rfl, h1, h2, h3, h4⟩ := h
      exact ⟨a, ai, at', c, ci, ct, rfl, h1, h2, h3.imp (Upd.refl [] w) ih, h4.imp (Upd.refl [] w) ih⟩

mutual
/-- How long the longest row in a tree is (a row of limbs counts for a row of terms of the same weight). -/
def tsz : Tm → Nat
  | .mk _ _ _ L _ I T => max (L.length / 26) (max (tszs I) (tszs T))
def tszs : List Tm → Nat
  | [] => 0
  | t :: r => max (r.length + 1) (max (tsz t) (tszs r))
end

theorem tszs_len (I : List Tm) : I.length ≤ tszs I := by
  cases I with
  | nil => simp
  | cons t r => simp only [tszs, List.length_cons]; omega
theorem tszs_get (I : List Tm) (i : Nat) (hi : i < I.length) : tsz I[i] ≤ tszs I := by
  induction I generalizing i with
  | nil => simp at hi
  | cons t r ih =>
    cases i with
    | zero => simp only [tszs, List.getElem_cons_zero]; omega
    | succ i =>
      simp only [tszs, List.getElem_cons_succ]
      have := ih i (by simpa using hi)
      omega
theorem tszs_le (N : Nat) (I : List Tm) (hl : I.length ≤ N) (h : ∀ i (hi : i < I.length), tsz I[i] ≤ N) : tszs I ≤ N := by
  induction I with
  | nil => simp [tszs]
  | cons t r ih =>
    have h0 := h 0 (by simp)
    have h1 := ih (by simp at hl; omega) (fun i hi => by have := h (i + 1) (by simpa using hi); simpa using this)
    simp only [tszs]
    simp at h0 hl
    omega

end Go.Proofs.YtaoipmmeialpnaaGreatDoor

/- addLimbs, by its contract. -/
namespace Go.Proofs.YtaoipmmeialpnaaGreatDoor
open Go.RowKit

theorem pow_split (k x y : Nat) : 4294967296 ^ k * (x + 4294967296 * y) = 4294967296 ^ k * x + 4294967296 ^ (k + 1) * y := by
  rw [Nat.mul_add, Nat.pow_succ, Nat.mul_assoc]

theorem getD_set_ne (X : List Nat) (k d j : Nat) (h : j ≠ k) : (X.set k d).getD j 0 = X.getD j 0 := by
  rw [List.getD_eq_getElem?_getD, List.getD_eq_getElem?_getD, List.getElem?_set_ne (by omega)]

/-- One step of a sum. -/
theorem carry_step (X : List Nat) (k c low c' t : Nat) (hk : k < X.length) (hz : X.getD k 0 = 0) (h : low + 4294967296 * c' = c + t) :
    val (X.set k low) + 4294967296 ^ (k + 1) * c' = val X + 4294967296 ^ k * c + 4294967296 ^ k * t := by
  have h1 := val_set X k low hk
  rw [hz, Nat.mul_zero, Nat.add_zero] at h1
  rw [h1, Nat.add_assoc, Nat.add_assoc, ← pow_split, h, Nat.mul_add]

theorem add_step (X A B : List Nat) (k c low c' : Nat) (hk : k < X.length) (hz : X.getD k 0 = 0) (he : val X + 4294967296 ^ k * c = val (A.take k) + val (B.take k))
    (h : low + 4294967296 * c' = c + (1 * A.getD k 0 + B.getD k 0)) :
    val (X.set k low) + 4294967296 ^ (k + 1) * c' = val (A.take (k + 1)) + val (B.take (k + 1)) := by
  rw [carry_step X k c low c' _ hk hz h, he, val_take_succ, val_take_succ, Nat.one_mul, Nat.mul_add]
  generalize 4294967296 ^ k = p
  omega

/-- Nothing is carried beyond the end. -/
theorem no_carry (_b _p P c vx s : Nat) (h1 : s < P) (he : vx + P * c = s) : c = 0 := by
  rcases Nat.eq_zero_or_pos c with h | h
  · exact h
  · have h6 : P * 1 ≤ P * c := Nat.mul_le_mul_left _ h
    generalize P * c = t at *
    omega

theorem two_lt (b p x y : Nat) (hb : 2 ≤ b) (hx : x < p) (hy : y < p) : x + y < p * b := by
  have := Nat.mul_le_mul_left p hb
  generalize p * b = t at *
  omega

theorem add_end (X A B : List Nat) (m c : Nat) (hA : A.length ≤ m) (hB : B.length ≤ m) (dA : Dig A) (dB : Dig B)
    (he : val X + 4294967296 ^ (m + 1) * c = val (A.take (m + 1)) + val (B.take (m + 1))) : val X = val A + val B := by
  rw [val_take_all A _ (by omega), val_take_all B _ (by omega)] at he
  have h3 : 4294967296 ^ A.length ≤ 4294967296 ^ m := Nat.pow_le_pow_right (by decide) hA
  have h4 : 4294967296 ^ B.length ≤ 4294967296 ^ m := Nat.pow_le_pow_right (by decide) hB
  have h5 : val A + val B < 4294967296 ^ (m + 1) := by
    rw [Nat.pow_succ]
    exact two_lt _ _ _ _ (by decide) (Nat.lt_of_lt_of_le (val_lt dA) h3) (Nat.lt_of_lt_of_le (val_lt dB) h4)
  have h6 := no_carry 0 0 _ c _ _ h5 he
  rw [h6, Nat.mul_zero, Nat.add_zero] at he
  exact he

end Go.Proofs.YtaoipmmeialpnaaGreatDoor

/- subLimbs, by its contract. -/
namespace Go.Proofs.YtaoipmmeialpnaaGreatDoor
open Go.RowKit

theorem sub_step (X A B : List Nat) (k c low c' : Nat) (hk : k < X.length) (hz : X.getD k 0 = 0) (he : val X + val (B.take k) = val (A.take k) + 4294967296 ^ k * c)
    (h : low + (B.getD k 0 + c) = A.getD k 0 + 4294967296 * c') : val (X.set k low) + val (B.take (k + 1)) = val (A.take (k + 1)) + 4294967296 ^ (k + 1) * c' := by
  have h1 := val_set X k low hk
  rw [hz, Nat.mul_zero, Nat.add_zero] at h1
  have h2 := pow_split k (A.getD k 0) c'
  rw [← h, Nat.mul_add, Nat.mul_add] at h2
  rw [h1, val_take_succ, val_take_succ]
  generalize 4294967296 ^ (k + 1) * c' = t at *
  generalize 4294967296 ^ k * low = u1 at *
  generalize 4294967296 ^ k * B.getD k 0 = u2 at *
  generalize 4294967296 ^ k * A.getD k 0 = u3 at *
  generalize 4294967296 ^ k * c = u4 at *
  omega

theorem sub_end (X A B : List Nat) (c : Nat) (hX : X.length = A.length) (dX : Dig X) (hle : val B ≤ val A) (hl : B.length ≤ A.length)
    (he : val X + val (B.take A.length) = val (A.take A.length) + 4294967296 ^ A.length * c) : val X = val A - val B := by
  rw [val_take_all A _ (Nat.le_refl _), val_take_all B _ hl] at he
  have h1 := val_lt dX
  rw [hX] at h1
  rcases Nat.eq_zero_or_pos c with h | h
  · rw [h, Nat.mul_zero] at he; omega
  · have h6 : 4294967296 ^ A.length * 1 ≤ 4294967296 ^ A.length * c := Nat.mul_le_mul_left _ h
    generalize 4294967296 ^ A.length * c = t at *
    generalize 4294967296 ^ A.length = p at *
    omega

end Go.Proofs.YtaoipmmeialpnaaGreatDoor
