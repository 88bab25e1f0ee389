/- NameLives returns true, whatever steps it is given, and they stay as they were. Conditions: the row's own alone. -/
import Derived.Test.YtpojkmpimnnjiaaGreatRows
import Derived.Test.YtpojkmpimnnjiaaGreatNbA
import Derived.Test.YtpojkmpimnnjiaaGreatNmF
import Derived.ProofKit
import Derived.OpenShut
import Derived.ChangeMaps5
namespace Go.Proofs.YtpojkmpimnnjiaaGreat
open Go.ChangeShapes Go.WideShapes Go.ChangeAt Go.RowKit

theorem Tryz.own : ownKnob Tryz.prog.godebug = none := by kernel_rfl
theorem Tryz.laidOut : laidOutB Tryz.prog = true := by kernel_rfl
theorem cells_do : Tryz.prog.cellsOf 33 = 3 := by kernel_rfl
theorem cells_int : Tryz.prog.cellsOf 3 = 1 := by kernel_rfl
theorem cells_str : Tryz.prog.cellsOf 9 = 1 := by kernel_rfl
theorem list3 {l : List Value} (h : l.length = 3) : ∃ c0 c1 c2, l = [c0, c1, c2] := by
  match l, h with
  | [c0, c1, c2], _ => exact ⟨_, _, _, rfl⟩

/-- Steps that came in. -/
theorem steps_open {H : Type} {enc : TypeId × Value → H} {W : World} {n : Nat} {v : Value} {y : DataW H × List MemPlace} (h : DataW.trod enc Tryz.prog W 0 (fun _ => true) true n 22 [v] = some y) :
    ∃ a len cap, v = .slice a len cap ∧ Steps W a len ∧ len ≤ cap ∧ cap ≤ 9223372036854775807 := by
  rcases DataW.trod_slice Tryz.underlying22 h with ⟨hcs, _⟩ | ⟨a, len, cap, elems, rest, m, hm, hcs, rfl, hb, hl, hmx, hlen, hel, _, _⟩
  · simp only [List.cons.injEq, and_true] at hcs
    subst hcs
    exact ⟨none, 0, 0, rfl, fun i hi => by omega, by omega, by omega⟩
  · simp only [List.cons.injEq, and_true] at hcs
    subst hcs
    rw [cells_do] at hel
    refine ⟨some a, len, cap, rfl, fun i hi => ?_, by omega, Nat.le_trans hmx (by decide)⟩
    obtain ⟨gb, off, spot⟩ := a
    have hspot : spot = none := by
      have h1 := hel 0 (by omega)
      rw [List.getElem?_eq_getElem (by omega)] at h1
      obtain ⟨cs, h2, h3⟩ := Option.bind_eq_some_iff.1 h1
      obtain ⟨_, h4, h5⟩ := World.cells?_some h2
      have hu := h5 0 (by omega)
      rw [List.getElem?_eq_getElem (by omega)] at hu
      simpa [Addr.add] using World.cell?_spot hu
    subst hspot
    have h1 := hel i hi
    have hie : i < elems.length := by omega
    rw [List.getElem?_eq_getElem hie] at h1
    obtain ⟨cs, h2, h3⟩ := Option.bind_eq_some_iff.1 h1
    obtain ⟨_, h4, h5⟩ := World.cells?_some h2
    obtain ⟨xs, n2, hn2, hx, hcl, hlen2, hfs⟩ := DataW.trod_struct Tryz.underlying33 h3
    obtain ⟨c0, c1, c2, rfl⟩ := list3 (hcl.trans cells_do)
    have hl2 : xs.length = 3 := hlen2
    have at_ : ∀ j (hj : j < 3) c, [c0, c1, c2][j]? = some c → W.cell? ⟨gb, off + i * 3 + j, none⟩ = some c := by
      intro j hj c hc
      have hu := h5 j (by simpa using hj)
      rw [hc] at hu
      rw [Addr.add_mid, Addr.add_mid] at hu
      exact hu
    have cell : ∀ j (hj : j < 3) c, [c0, c1, c2][j]? = some c → DataW.trod enc Tryz.prog W 0 (fun _ => true) true n2 3 [c] = xs[j]? → ∃ k, W.cell? ⟨gb, off + i * 3 + j, none⟩ = some (.int .i64 k) ∧ I64 k := by
      intro j hj c hc f0
      rw [List.getElem?_eq_getElem (by omega)] at f0
      obtain ⟨k, e0, _, hwf⟩ := DataW.trod_int Tryz.underlying3 f0
      simp only [List.cons.injEq, and_true] at e0
      subst e0
      exact ⟨k, at_ j hj _ hc, hwf⟩
    have f0 : DataW.trod enc Tryz.prog W 0 (fun _ => true) true n2 3 (List.take (Tryz.prog.cellsOf 3) (List.drop 0 [c0, c1, c2])) = xs[0]? := hfs 0 _ rfl
    simp only [cells_int, List.drop_zero, List.take_succ_cons, List.take_zero] at f0
    obtain ⟨k0, g0, i0⟩ := cell 0 (by omega) c0 rfl f0
    have f1 : DataW.trod enc Tryz.prog W 0 (fun _ => true) true n2 3 (List.take (Tryz.prog.cellsOf 3) (List.drop 1 [c0, c1, c2])) = xs[1]? := hfs 1 _ rfl
    simp only [cells_int, List.drop_succ_cons, List.drop_zero, List.take_succ_cons, List.take_zero] at f1
    obtain ⟨k1, g1, i1⟩ := cell 1 (by omega) c1 rfl f1
    have f2 : DataW.trod enc Tryz.prog W 0 (fun _ => true) true n2 9 (List.take (Tryz.prog.cellsOf 9) (List.drop 2 [c0, c1, c2])) = xs[2]? := hfs 2 _ rfl
    simp only [cells_str, List.drop_succ_cons, List.drop_zero, List.take_succ_cons, List.take_zero] at f2
    rw [List.getElem?_eq_getElem (by omega)] at f2
    obtain ⟨b2, e2, _, hb2⟩ := DataW.trod_string Tryz.underlying9 f2
    simp only [List.cons.injEq, and_true] at e2
    subst e2
    have g2 := at_ 2 (by omega) _ rfl
    have hlt := World.block_lt_of_cell? _ _ g0
    exact ⟨gb, off, k0, k1, b2.data.toList, rfl, hlt, g0, g1, g2, i0, i1, by show b2.data.toList.length ≤ maxLen; rw [Array.length_toList]; exact hb2⟩

set_option maxHeartbeats 1000000 in
set_option maxRecDepth 100000 in
theorem nameLives_lifted (os : Os) (started : os.Started) (H : Type) (enc : TypeId × Value → H) :
    ReturnsInHanded {} Tryz.checked os 3 .any (Rows.nameLivesSpec.pre6 enc Tryz.prog Tryz.f3 Rows.nameLivesRow.domain false) (Rows.nameLivesSpec.post enc Tryz.prog Tryz.f3 false true false false) := by
  refine returnsInHanded_of_change (C := Tryz.checked) Tryz.own started (by kernel_rfl) Tryz.func3
    (ChangeSpec.witness6 (enc := enc) (C := Tryz.checked) false ⟨#[], #[.slice none 0 0], []⟩ 8 (by kernel_rfl) (by kernel_rfl) (by kernel_rfl) (by kernel_rfl)) ?_
  intro W base args ds gs before hval0 hW hcnd _
  have hval : ∀ (j : Nat) t v, Tryz.f3.params[j]? = some t → args[j]? = some v → Value.okWide Tryz.prog W .any base t v := hval0
  have hW' := hW
  obtain ⟨p, q, hA0, hV, rfl, hfz, hnd⟩ := hW
  have hA : DataW.TrodAll enc Tryz.prog W 0 (fun _ => true) true Tryz.f3.params.toList args.toList ds p := hA0
  rw [Tryz.params3] at hA hval
  obtain ⟨v0, vs0, d0, ds0, p0, q0, hargs, rfl, rfl, h0, r0⟩ := trodAll_cons hA
  obtain ⟨rfl, rfl, rfl⟩ := trodAll_nil r0
  obtain rfl : args = #[v0] := by cases args; simp_all
  obtain ⟨rfl, rfl⟩ := trodVars_none hV
  clear hA0 hval0
  simp only [List.append_nil] at hW'
  have hlt0 : ∀ x ∈ p0, x.block < W.heap.size := fun x hx => by simpa using hW'.lt x (by simp [hx])
  have hk0 : ∀ (W' : World), Below W.heap.size W W' → DataW.Trod enc Tryz.prog W' 0 (fun b => decide (b < W.heap.size)) true 22 v0 d0 p0 :=
    fun W' hn => Below.trod Tryz.laidOut (by kernel_rfl) (of_decide_eq_true (by kernel_rfl)) h0 hn hlt0
  obtain ⟨f0, g0⟩ := h0
  have g1 : DataW.trod enc Tryz.prog W 0 (fun _ => true) true f0 22 [v0] = some (d0, p0) := by
    obtain ⟨a, len, cap, rfl⟩ := okWide_slice Tryz.underlying22 (hval 0 22 v0 rfl rfl)
    exact g0
  obtain ⟨a, len, cap, rfl, ho, hc, hl⟩ := steps_open g1
  refine (Lives_walk all_any ap_said W a len cap hc hl ho).mono fun e W' ⟨he, hU⟩ => ?_
  subst he
  have hbel := hU.below
  refine ⟨_, rfl, _, _, _, [], p0 ++ [], [], hW', ?_, ?_, rfl, hbel.frame _, fun h => by cases h⟩
  · exact trodAll_cons_mk (shut_bool Tryz.underlying4 _) trodAll_mk0
  · exact trodAll_cons_mk (hk0 _ hbel) trodAll_mk0

set_option maxRecDepth 100000 in
/-- NameLives returns true. -/
theorem nameLives_holds : Rows.NameLivesSaid :=
  OpenClaim.holds_of_wide 3 Tryz.f3 rfl rfl rfl rfl rfl rfl rfl ⟨rfl, rfl, rfl, rfl, rfl⟩ rfl rfl rfl rfl rfl (by kernel_rfl) Tryz.func3 (by kernel_rfl)
    (of_decide_eq_true (by kernel_rfl)) (by unfold Func.isWrapper; first | (rw [if_pos (by decide +kernel)]; kernel_rfl) | (rw [if_neg (by decide +kernel)]; exact ⟨rfl, rfl⟩))
    (fun os started H enc _ => nameLives_lifted os started H enc)

end Go.Proofs.YtpojkmpimnnjiaaGreat
