/- LinkApart returns true, whatever steps and process it is given, and they stay as they were. Conditions: the row's own alone. -/
import Derived.Test.YtofcniodobjopaaGreatRows
import Derived.Test.YtofcniodobjopaaGreatApC
import Derived.ProofKit
import Derived.OpenShut
namespace Go.Proofs.YtofcniodobjopaaGreat
open Go.ChangeShapes Go.WideShapes Go.ChangeAt Go.RowKit

theorem Tryz.own : ownKnob Tryz.prog.godebug = none := by kernel_rfl
theorem Tryz.laidOut : laidOutB Tryz.prog = true := by kernel_rfl
theorem cells_do : Tryz.prog.cellsOf 44 = 4 := by kernel_rfl
theorem cells_int : Tryz.prog.cellsOf 3 = 1 := by kernel_rfl
theorem list4 {l : List Value} (h : l.length = 4) : ∃ c0 c1 c2 c3, l = [c0, c1, c2, c3] := by
  match l, h with
  | [c0, c1, c2, c3], _ => exact ⟨_, _, _, _, rfl⟩

/-- Steps that came in. -/
theorem steps_open {H : Type} {enc : TypeId × Value → H} {W : World} {n : Nat} {v : Value} {y : DataW H × List MemPlace} (h : DataW.trod enc Tryz.prog W 0 (fun _ => true) true n 22 [v] = some y) :
    ∃ a len cap, v = .slice a len cap ∧ Steps W a len ∧ len ≤ cap ∧ cap ≤ 9223372036854775807 := by
  rcases DataW.trod_slice Tryz.underlying22 h with ⟨hcs, _⟩ | ⟨a, len, cap, elems, rest, m, hm, hcs, rfl, hb, hl, hmx, hlen, hel, _, _⟩
  · simp only [List.cons.injEq, and_true] at hcs
    subst hcs
    exact ⟨none, 0, 0, rfl, fun i hi => by omega, by omega, by omega⟩
  · simp only [List.cons.injEq, and_true] at hcs
    subst hcs
    rw [cells_do] at hel
    refine ⟨some a, len, cap, rfl, fun i hi => ?_, by omega, Nat.le_trans hmx (by decide)⟩
    obtain ⟨gb, off, spot⟩ := a
    have hspot : spot = none := by
      have h1 := hel 0 (by omega)
      rw [List.getElem?_eq_getElem (by omega)] at h1
      obtain ⟨cs, h2, h3⟩ := Option.bind_eq_some_iff.1 h1
      obtain ⟨_, h4, h5⟩ := World.cells?_some h2
      have hu := h5 0 (by omega)
      rw [List.getElem?_eq_getElem (by omega)] at hu
      simpa [Addr.add] using World.cell?_spot hu
    subst hspot
    have h1 := hel i hi
    have hie : i < elems.length := by omega
    rw [List.getElem?_eq_getElem hie] at h1
    obtain ⟨cs, h2, h3⟩ := Option.bind_eq_some_iff.1 h1
    obtain ⟨_, h4, h5⟩ := World.cells?_some h2
    obtain ⟨xs, n2, hn2, hx, hcl, hlen2, hfs⟩ := DataW.trod_struct Tryz.underlying44 h3
    obtain ⟨c0, c1, c2, c3, rfl⟩ := list4 (hcl.trans cells_do)
    have hl2 : xs.length = 4 := hlen2
    have cell : ∀ j (hj : j < 4) c, [c0, c1, c2, c3][j]? = some c → DataW.trod enc Tryz.prog W 0 (fun _ => true) true n2 3 [c] = xs[j]? → ∃ k, W.cell? ⟨gb, off + i * 4 + j, none⟩ = some (.int .i64 k) ∧ I64 k := by
      intro j hj c hc f0
      rw [List.getElem?_eq_getElem (by omega)] at f0
      obtain ⟨k, e0, _, hwf⟩ := DataW.trod_int Tryz.underlying3 f0
      simp only [List.cons.injEq, and_true] at e0
      subst e0
      have hu := h5 j (by simpa using hj)
      rw [hc] at hu
      rw [Addr.add_mid, Addr.add_mid] at hu
      exact ⟨k, hu, hwf⟩
    have f0 : DataW.trod enc Tryz.prog W 0 (fun _ => true) true n2 3 (List.take (Tryz.prog.cellsOf 3) (List.drop 0 [c0, c1, c2, c3])) = xs[0]? := hfs 0 _ rfl
    simp only [cells_int, List.drop_zero, List.take_succ_cons, List.take_zero] at f0
    obtain ⟨k0, g0, i0⟩ := cell 0 (by omega) c0 rfl f0
    have f1 : DataW.trod enc Tryz.prog W 0 (fun _ => true) true n2 3 (List.take (Tryz.prog.cellsOf 3) (List.drop 1 [c0, c1, c2, c3])) = xs[1]? := hfs 1 _ rfl
    simp only [cells_int, List.drop_succ_cons, List.drop_zero, List.take_succ_cons, List.take_zero] at f1
    obtain ⟨k1, g1, i1⟩ := cell 1 (by omega) c1 rfl f1
    have f2 : DataW.trod enc Tryz.prog W 0 (fun _ => true) true n2 3 (List.take (Tryz.prog.cellsOf 3) (List.drop 2 [c0, c1, c2, c3])) = xs[2]? := hfs 2 _ rfl
    simp only [cells_int, List.drop_succ_cons, List.drop_zero, List.take_succ_cons, List.take_zero] at f2
    obtain ⟨k2, g2, i2⟩ := cell 2 (by omega) c2 rfl f2
    have f3 : DataW.trod enc Tryz.prog W 0 (fun _ => true) true n2 3 (List.take (Tryz.prog.cellsOf 3) (List.drop 3 [c0, c1, c2, c3])) = xs[3]? := hfs 3 _ rfl
    simp only [cells_int, List.drop_succ_cons, List.drop_zero, List.take_succ_cons, List.take_zero] at f3
    obtain ⟨k3, g3, i3⟩ := cell 3 (by omega) c3 rfl f3
    have hlt := World.block_lt_of_cell? _ _ g0
    exact ⟨gb, off, k0, k1, k2, k3, rfl, hlt, g0, g1, g2, g3, i0, i1, i2, i3⟩

set_option maxHeartbeats 1000000 in
set_option maxRecDepth 100000 in
theorem linkApart_lifted (os : Os) (started : os.Started) (H : Type) (enc : TypeId × Value → H) :
    ReturnsInHanded {} Tryz.checked os 3 .any (Rows.linkApartSpec.pre6 enc Tryz.prog Tryz.f3 Rows.linkApartRow.domain false) (Rows.linkApartSpec.post enc Tryz.prog Tryz.f3 false true false false) := by
  refine returnsInHanded_of_change (C := Tryz.checked) Tryz.own started (by kernel_rfl) Tryz.func3
    (ChangeSpec.witness6 (enc := enc) (C := Tryz.checked) false ⟨#[], #[.slice none 0 0, .int .i64 0], []⟩ 8 (by kernel_rfl) (by kernel_rfl) (by kernel_rfl) (by kernel_rfl)) ?_
  intro W base args ds gs before hval0 hW hcnd _
  have hval : ∀ (j : Nat) t v, Tryz.f3.params[j]? = some t → args[j]? = some v → Value.okWide Tryz.prog W .any base t v := hval0
  have hW' := hW
  obtain ⟨p, q, hA0, hV, rfl, hfz, hnd⟩ := hW
  have hA : DataW.TrodAll enc Tryz.prog W 0 (fun _ => true) true Tryz.f3.params.toList args.toList ds p := hA0
  rw [Tryz.params3] at hA hval
  obtain ⟨v0, vs0, d0, ds0, p0, q0, hargs, rfl, rfl, h0, r0⟩ := trodAll_cons hA
  obtain ⟨v1, vs1, d1, ds1, p1, q1, rfl, rfl, rfl, h1, r1⟩ := trodAll_cons r0
  obtain ⟨rfl, rfl, rfl⟩ := trodAll_nil r1
  obtain rfl : args = #[v0, v1] := by cases args; simp_all
  obtain ⟨rfl, rfl⟩ := trodVars_none hV
  clear hA0 hval0
  simp only [List.append_nil] at hW'
  have hlt0 : ∀ x ∈ p0, x.block < W.heap.size := fun x hx => by simpa using hW'.lt x (by simp [hx])
  have hk0 : ∀ (W' : World), Below W.heap.size W W' → DataW.Trod enc Tryz.prog W' 0 (fun b => decide (b < W.heap.size)) true 22 v0 d0 p0 :=
    fun W' hn => Below.trod Tryz.laidOut (by kernel_rfl) (of_decide_eq_true (by kernel_rfl)) h0 hn hlt0
  obtain ⟨f0, g0⟩ := h0
  have g1 : DataW.trod enc Tryz.prog W 0 (fun _ => true) true f0 22 [v0] = some (d0, p0) := by
    obtain ⟨a, len, cap, rfl⟩ := okWide_slice Tryz.underlying22 (hval 0 22 v0 rfl rfl)
    exact g0
  obtain ⟨a, len, cap, rfl, ho, hc, hl⟩ := steps_open g1
  obtain ⟨t1, rfl, rfl, rfl, hs1⟩ := open_int Tryz.underlying3 (hval 1 3 v1 rfl rfl) h1
  refine (Apart_walk W a len cap t1 hc hl ho hs1).mono fun e W' ⟨he, hU⟩ => ?_
  subst he
  have hbel := hU.below
  refine ⟨_, rfl, _, _, _, [], p0 ++ ([] ++ []), [], hW', ?_, ?_, rfl, hbel.frame _, fun h => by cases h⟩
  · exact trodAll_cons_mk (shut_bool Tryz.underlying4 _) trodAll_mk0
  · exact trodAll_cons_mk (hk0 _ hbel) (trodAll_cons_mk (shut_int Tryz.underlying3 hs1) trodAll_mk0)

set_option maxRecDepth 100000 in
/-- LinkApart returns true. -/
theorem linkApart_holds : Rows.LinkApartSaid :=
  OpenClaim.holds_of_wide 3 Tryz.f3 rfl rfl rfl rfl rfl rfl rfl ⟨rfl, rfl, rfl, rfl, rfl⟩ rfl rfl rfl rfl rfl (by kernel_rfl) Tryz.func3 (by kernel_rfl)
    (of_decide_eq_true (by kernel_rfl)) (by unfold Func.isWrapper; first | (rw [if_pos (by decide +kernel)]; kernel_rfl) | (rw [if_neg (by decide +kernel)]; exact ⟨rfl, rfl⟩))
    (fun os started H enc _ => linkApart_lifted os started H enc)

end Go.Proofs.YtofcniodobjopaaGreat
