/- Steps that came in. -/
import Derived.Test.YtpemnficdhjkhaaCkOm
import Derived.ProofKit
import Derived.OpenShut
namespace Go.Proofs.Ytpemnficdhjkhaa
open Go.ChangeShapes Go.WideShapes Go.ChangeAt Go.RowKit

theorem Try.own : ownKnob Try.prog.godebug = none := by kernel_rfl
theorem Try.laidOut : laidOutB Try.prog = true := by kernel_rfl
theorem cells_do : Try.prog.cellsOf 31 = 3 := by kernel_rfl
theorem cells_int : Try.prog.cellsOf 3 = 1 := by kernel_rfl
theorem list3 {l : List Value} (h : l.length = 3) : ∃ c0 c1 c2, l = [c0, c1, c2] := by
  match l, h with
  | [c0, c1, c2], _ => exact ⟨_, _, _, rfl⟩

/-- Steps that came in. -/
theorem steps_open {H : Type} {enc : TypeId × Value → H} {W : World} {n : Nat} {v : Value} {y : DataW H × List MemPlace} (h : DataW.trod enc Try.prog W 0 (fun _ => true) true n 22 [v] = some y) :
    ∃ a len cap, v = .slice a len cap ∧ Steps W a len ∧ len ≤ cap ∧ cap ≤ 9223372036854775807 := by
  rcases DataW.trod_slice Try.underlying22 h with ⟨hcs, _⟩ | ⟨a, len, cap, elems, rest, m, hm, hcs, rfl, hb, hl, hmx, hlen, hel, _, _⟩
  · simp only [List.cons.injEq, and_true] at hcs
    subst hcs
    exact ⟨none, 0, 0, rfl, fun i hi => by omega, by omega, by omega⟩
  · simp only [List.cons.injEq, and_true] at hcs
    subst hcs
    rw [cells_do] at hel
    refine ⟨some a, len, cap, rfl, fun i hi => ?_, by omega, Nat.le_trans hmx (by decide)⟩
    obtain ⟨gb, off, spot⟩ := a
    have hspot : spot = none := by
      have h1 := hel 0 (by omega)
      rw [List.getElem?_eq_getElem (by omega)] at h1
      obtain ⟨cs, h2, h3⟩ := Option.bind_eq_some_iff.1 h1
      obtain ⟨_, h4, h5⟩ := World.cells?_some h2
      have hu := h5 0 (by omega)
      rw [List.getElem?_eq_getElem (by omega)] at hu
      simpa [Addr.add] using World.cell?_spot hu
    subst hspot
    have h1 := hel i hi
    have hie : i < elems.length := by omega
    rw [List.getElem?_eq_getElem hie] at h1
    obtain ⟨cs, h2, h3⟩ := Option.bind_eq_some_iff.1 h1
    obtain ⟨_, h4, h5⟩ := World.cells?_some h2
    obtain ⟨xs, n2, hn2, hx, hcl, hlen2, hfs⟩ := DataW.trod_struct Try.underlying31 h3
    obtain ⟨c0, c1, c2, rfl⟩ := list3 (hcl.trans cells_do)
    have hl2 : xs.length = 3 := hlen2
    have cell : ∀ j (hj : j < 3) c, [c0, c1, c2][j]? = some c → DataW.trod enc Try.prog W 0 (fun _ => true) true n2 3 [c] = xs[j]? → ∃ k, W.cell? ⟨gb, off + i * 3 + j, none⟩ = some (.int .i64 k) ∧ I64 k := by
      intro j hj c hc f0
      rw [List.getElem?_eq_getElem (by omega)] at f0
      obtain ⟨k, e0, _, hwf⟩ := DataW.trod_int Try.underlying3 f0
      simp only [List.cons.injEq, and_true] at e0
      subst e0
      have hu := h5 j (by simpa using hj)
      rw [hc] at hu
      rw [Addr.add_mid, Addr.add_mid] at hu
      exact ⟨k, hu, hwf⟩
    have f0 : DataW.trod enc Try.prog W 0 (fun _ => true) true n2 3 (List.take (Try.prog.cellsOf 3) (List.drop 0 [c0, c1, c2])) = xs[0]? := hfs 0 _ rfl
    simp only [cells_int, List.drop_zero, List.take_succ_cons, List.take_zero] at f0
    obtain ⟨k0, g0, i0⟩ := cell 0 (by omega) c0 rfl f0
    have f1 : DataW.trod enc Try.prog W 0 (fun _ => true) true n2 3 (List.take (Try.prog.cellsOf 3) (List.drop 1 [c0, c1, c2])) = xs[1]? := hfs 1 _ rfl
    simp only [cells_int, List.drop_succ_cons, List.drop_zero, List.take_succ_cons, List.take_zero] at f1
    obtain ⟨k1, g1, i1⟩ := cell 1 (by omega) c1 rfl f1
    have f2 : DataW.trod enc Try.prog W 0 (fun _ => true) true n2 3 (List.take (Try.prog.cellsOf 3) (List.drop 2 [c0, c1, c2])) = xs[2]? := hfs 2 _ rfl
    simp only [cells_int, List.drop_succ_cons, List.drop_zero, List.take_succ_cons, List.take_zero] at f2
    obtain ⟨k2, g2, i2⟩ := cell 2 (by omega) c2 rfl f2
    have hlt := World.block_lt_of_cell? _ _ g0
    exact ⟨gb, off, k0, k1, k2, rfl, hlt, g0, g1, g2, i0, i1, i2⟩

end Go.Proofs.Ytpemnficdhjkhaa
