/- The frame of the rows: a term that came in, opened; the world of the witness. -/
import Derived.Test.YtnpocmhaoaigfaaGreatDoorSgn
import Derived.Test.YtnpocmhaoaigfaaGreatDoorRows
import Derived.ProofKit
import Derived.OpenShut
import Derived.Lib.SmallJoins
import Derived.Deep.DeepHandedRow
import Derived.Lib.LaidTab
import Derived.Carry
namespace Go.Proofs.YtnpocmhaoaigfaaGreatDoor
open Go.ChangeShapes Go.WideShapes Go.ChangeAt Go.RowKit Go.Joins

theorem array7 {α : Type} {cs : Array α} (h : cs.size = 7) : ∃ c0 c1 c2 c3 c4 c5 c6, cs = #[c0, c1, c2, c3, c4, c5, c6] := by
  obtain ⟨l⟩ := cs
  match l, h with
  | [c0, c1, c2, c3, c4, c5, c6], _ => exact ⟨c0, c1, c2, c3, c4, c5, c6, rfl⟩

theorem cells_kind : Tryz.prog.cellsOf 22 = 1 := by kernel_rfl
theorem cells_bool : Tryz.prog.cellsOf 4 = 1 := by kernel_rfl
theorem cells_u32s : Tryz.prog.cellsOf 23 = 1 := by kernel_rfl
theorem cells_u32 : Tryz.prog.cellsOf 61 = 1 := by kernel_rfl
theorem cells_str : Tryz.prog.cellsOf 9 = 1 := by kernel_rfl
theorem cells_int : Tryz.prog.cellsOf 3 = 1 := by kernel_rfl
theorem cells_terms : Tryz.prog.cellsOf 24 = 1 := by kernel_rfl
theorem cells_term : Tryz.prog.cellsOf 26 = 7 := by kernel_rfl
theorem laidOut : laidOutB Tryz.prog = true := by kernel_rfl
theorem own : ownKnob Tryz.prog.godebug = none := by kernel_rfl

theorem slice_len {H : Type} {enc : TypeId × Value → H} {W : World} {base fuel : Nat} {spare : Nat → Bool} {held : Bool} {t e : TypeId} {v : Value} {x : DataW H × List MemPlace} (ht : Tryz.prog.underlying t = some (.slice e))
    (h : DataW.trod enc Tryz.prog W base spare held fuel t [v] = some x) : ∃ a n c, v = .slice a n c ∧ n ≤ 9223372036854775807 := by
  rcases DataW.trod_slice ht h with ⟨hcs, _⟩ | ⟨a, len, cap, elems, rest, n, _, hcs, _, hb, hl, hm, _⟩
  · exact ⟨none, 0, 0, by simpa using hcs, by omega⟩
  · refine ⟨some a, len, cap, by simpa using hcs, ?_⟩
    unfold maxLen at hm; omega

set_option maxRecDepth 100000 in
/-- A term that came in: its shape, its limbs. -/
theorem open_term {H : Type} {enc : TypeId × Value → H} {W : World} {base : Nat} {v : Value} {d : DataW H} {p : List MemPlace} (hv : Value.okWide Tryz.prog W .any base 26 v)
    (h : DataW.Trod enc Tryz.prog W 0 (fun _ => true) true 26 v d p) (_hlt : ∀ x ∈ p, x.block < W.heap.size) :
    ∃ (k num : Int) (neg : Bool) (a ai at' : Option Addr) (L : List Nat) (c ni ci nt ct : Nat) (s : ByteArray),
      v = .agg #[.int .u8 k, .bool neg, .slice a L.length c, .string s, .int .i64 num, .slice ai ni ci, .slice at' nt ct] ∧ At W a L ∧ Dig L ∧ L.length ≤ 9223372036854775807 ∧ ni ≤ 9223372036854775807 ∧ nt ≤ 9223372036854775807 := by
  obtain ⟨cs, rfl, hsz⟩ := okWide_struct Tryz.underlying26 hv
  obtain ⟨c0, c1, c2, c3, c4, c5, c6, rfl⟩ := array7 (hsz.trans cells_term)
  obtain ⟨fuel, hf⟩ := h
  obtain ⟨xs, n, _, hx, _, hlen, hfs⟩ := DataW.trod_struct Tryz.underlying26 hf
  have f0 : DataW.trod enc Tryz.prog W 0 (fun _ => true) true n 22 (List.take (Tryz.prog.cellsOf 22) (List.drop 0 [c0, c1, c2, c3, c4, c5, c6])) = xs[0]? := hfs 0 _ rfl
  have f1 : DataW.trod enc Tryz.prog W 0 (fun _ => true) true n 4 (List.take (Tryz.prog.cellsOf 4) (List.drop 1 [c0, c1, c2, c3, c4, c5, c6])) = xs[1]? := hfs 1 _ rfl
  have f2 : DataW.trod enc Tryz.prog W 0 (fun _ => true) true n 23 (List.take (Tryz.prog.cellsOf 23) (List.drop 2 [c0, c1, c2, c3, c4, c5, c6])) = xs[2]? := hfs 2 _ rfl
  have f3 : DataW.trod enc Tryz.prog W 0 (fun _ => true) true n 9 (List.take (Tryz.prog.cellsOf 9) (List.drop 3 [c0, c1, c2, c3, c4, c5, c6])) = xs[3]? := hfs 3 _ rfl
  have f4 : DataW.trod enc Tryz.prog W 0 (fun _ => true) true n 3 (List.take (Tryz.prog.cellsOf 3) (List.drop 4 [c0, c1, c2, c3, c4, c5, c6])) = xs[4]? := hfs 4 _ rfl
  have f5 : DataW.trod enc Tryz.prog W 0 (fun _ => true) true n 24 (List.take (Tryz.prog.cellsOf 24) (List.drop 5 [c0, c1, c2, c3, c4, c5, c6])) = xs[5]? := hfs 5 _ rfl
  have f6 : DataW.trod enc Tryz.prog W 0 (fun _ => true) true n 24 (List.take (Tryz.prog.cellsOf 24) (List.drop 6 [c0, c1, c2, c3, c4, c5, c6])) = xs[6]? := hfs 6 _ rfl
  have hl7 : xs.length = 7 := hlen
  simp only [cells_kind, cells_bool, cells_u32s, cells_str, cells_int, cells_terms, List.drop_succ_cons, List.drop_zero, List.take_succ_cons, List.take_zero] at f0 f1 f2 f3 f4 f5 f6
  rw [List.getElem?_eq_getElem (by omega)] at f0 f1 f2 f3 f4 f5 f6
  obtain ⟨k, e0, _, _⟩ := DataW.trod_int Tryz.underlying22 f0
  obtain ⟨neg, e1, _⟩ := DataW.trod_bool Tryz.underlying4 f1
  obtain ⟨s, e3, _, _⟩ := DataW.trod_string Tryz.underlying9 f3
  obtain ⟨num, e4, _, _⟩ := DataW.trod_int Tryz.underlying3 f4
  obtain ⟨ai, ni, ci, e5, hni⟩ := slice_len Tryz.underlying24 f5
  obtain ⟨at', nt, ct, e6, hnt⟩ := slice_len Tryz.underlying24 f6
  simp only [List.cons.injEq, and_true] at e0 e1 e3 e4
  subst e0 e1 e3 e4 e5 e6
  rcases open_ints Tryz.underlying23 Tryz.underlying61 cells_u32 f2 with ⟨hcs, _⟩ | ⟨a, len, cap, zs, hcs, _, hl, hm, hz, hx2, hcell, hwz⟩
  · simp only [List.cons.injEq, and_true] at hcs
    subst hcs
    exact ⟨k, num, neg, none, ai, at', [], 0, ni, ci, nt, ct, s, rfl, At.nil _ _, Dig.nil, by simp, hni, hnt⟩
  · simp only [List.cons.injEq, and_true] at hcs
    subst hcs
    simp only [if_true] at hz
    have hwf : ∀ z ∈ zs, 0 ≤ z ∧ z < 4294967296 := fun z hz => by
      have := bounds_u32 (hwz z hz); omega
    have hlen2 : ((zs.take len).map Int.toNat).length = len := by simp; omega
    refine ⟨k, num, neg, some a, ai, at', (zs.take len).map Int.toNat, cap, ni, ci, nt, ct, s, by rw [hlen2], ?_, ?_, by rw [hlen2]; unfold maxLen at hm; omega, hni, hnt⟩
    · by_cases h0 : len = 0
      · exact Or.inl (by subst h0; simp)
      · obtain ⟨b, off, spot⟩ := a
        have hspot : spot = none := by simpa [Addr.add] using World.cell?_spot (hcell 0 (by omega))
        subst hspot
        refine Or.inr ⟨b, off, rfl, ?_, fun i hi => ?_⟩
        · have := World.block_lt_of_cell? _ _ (hcell 0 (by omega))
          simpa [Addr.add] using this
        · rw [hlen2] at hi
          have h1 := hcell i (by omega)
          rw [Addr.add_lit] at h1
          rw [h1]
          have h2 : i < zs.length := by omega
          have h3 := hwf zs[i] (List.getElem_mem h2)
          simp [List.getD, hi, h2]
          omega
    · intro z hz2
      obtain ⟨y, hy, rfl⟩ := List.mem_map.1 hz2
      have := hwf y (List.mem_of_mem_take hy)
      omega

end Go.Proofs.YtnpocmhaoaigfaaGreatDoor
