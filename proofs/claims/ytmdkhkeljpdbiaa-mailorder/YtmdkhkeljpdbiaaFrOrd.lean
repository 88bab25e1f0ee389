/- MailOrder returns true, whatever steps it is given, and they stay as they were: each letter is taken once at most, as it was put; those that are left stand in the order in which they came. Conditions: the row's own alone. -/
import Derived.Test.YtmdkhkeljpdbiaaRows
import Derived.Test.YtmdkhkeljpdbiaaMoB
import Derived.ProofKit
namespace Go.Proofs.Ytmdkhkeljpdbiaa
open Go.ChangeShapes Go.WideShapes Go.ChangeAt Go.RowKit

theorem Try.own : ownKnob Try.prog.godebug = none := by kernel_rfl
theorem Try.laidOut : laidOutB Try.prog = true := by kernel_rfl
theorem cells_do : Try.prog.cellsOf 54 = 8 := by kernel_rfl
theorem cells_int : Try.prog.cellsOf 3 = 1 := by kernel_rfl
theorem list8 {l : List Value} (h : l.length = 8) : ∃ c0 c1 c2 c3 c4 c5 c6 c7, l = [c0, c1, c2, c3, c4, c5, c6, c7] := by
  match l, h with
  | [c0, c1, c2, c3, c4, c5, c6, c7], _ => exact ⟨_, _, _, _, _, _, _, _, rfl⟩

/-- Steps that came in. -/
theorem ops_open {H : Type} {enc : TypeId × Value → H} {W : World} {n : Nat} {v : Value} {y : DataW H × List MemPlace} (h : DataW.trod enc Try.prog W 0 (fun _ => true) true n 50 [v] = some y) :
    ∃ a len cap, v = .slice a len cap ∧ Ops W a len ∧ len ≤ cap ∧ len ≤ 9223372036854775807 := by
  rcases DataW.trod_slice Try.underlying50 h with ⟨hcs, _⟩ | ⟨a, len, cap, elems, rest, m, hm, hcs, rfl, hb, hl, hmx, hlen, hel, _, _⟩
  · simp only [List.cons.injEq, and_true] at hcs
    subst hcs
    exact ⟨none, 0, 0, rfl, fun i hi => by omega, by omega, by omega⟩
  · simp only [List.cons.injEq, and_true] at hcs
    subst hcs
    rw [cells_do] at hel
    refine ⟨some a, len, cap, rfl, fun i hi => ?_, by omega, Nat.le_trans (by omega : len ≤ cap) (Nat.le_trans hmx (by decide))⟩
    obtain ⟨gb, off, spot⟩ := a
    have hspot : spot = none := by
      have h1 := hel 0 (by omega)
      rw [List.getElem?_eq_getElem (by omega)] at h1
      obtain ⟨cs, h2, h3⟩ := Option.bind_eq_some_iff.1 h1
      obtain ⟨_, h4, h5⟩ := World.cells?_some h2
      have hu := h5 0 (by omega)
      rw [List.getElem?_eq_getElem (by omega)] at hu
      simpa [Addr.add] using World.cell?_spot hu
    subst hspot
    have h1 := hel i hi
    have hie : i < elems.length := by omega
    rw [List.getElem?_eq_getElem hie] at h1
    obtain ⟨cs, h2, h3⟩ := Option.bind_eq_some_iff.1 h1
    obtain ⟨_, h4, h5⟩ := World.cells?_some h2
    obtain ⟨xs, n2, hn2, hx, hcl, hlen2, hfs⟩ := DataW.trod_struct Try.underlying54 h3
    obtain ⟨c0, c1, c2, c3, c4, c5, c6, c7, rfl⟩ := list8 (hcl.trans cells_do)
    have f0 : DataW.trod enc Try.prog W 0 (fun _ => true) true n2 3 (List.take (Try.prog.cellsOf 3) (List.drop 0 [c0, c1, c2, c3, c4, c5, c6, c7])) = xs[0]? := hfs 0 _ rfl
    have hl2 : xs.length = 2 := hlen2
    simp only [cells_int, List.drop_zero, List.take_succ_cons, List.take_zero] at f0
    rw [List.getElem?_eq_getElem (by omega)] at f0
    obtain ⟨k, e0, _, _⟩ := DataW.trod_int Try.underlying3 f0
    simp only [List.cons.injEq, and_true] at e0
    subst e0
    have hu := h5 0 (by omega)
    have hu' : W.cell? (((⟨gb, off, none⟩ : Addr).add (i * 8)).add 0) = some (.int .i64 k) := hu
    rw [Addr.add_mid, Addr.add_mid, Nat.add_zero] at hu'
    have hlt := World.block_lt_of_cell? _ _ hu'
    exact ⟨gb, off, k, rfl, hlt, hu'⟩

set_option maxHeartbeats 1000000 in
set_option maxRecDepth 100000 in
theorem mailOrder_lifted (os : Os) (started : os.Started) (H : Type) (enc : TypeId × Value → H) :
    ReturnsInHanded {} Try.checked os 5 .any (Rows.mailOrderSpec.pre6 enc Try.prog Try.f5 Rows.mailOrderRow.domain false) (Rows.mailOrderSpec.post enc Try.prog Try.f5 false true false false) := by
  refine returnsInHanded_of_change (C := Try.checked) Try.own started (by kernel_rfl) Try.func5
    (ChangeSpec.witness6 (enc := enc) (C := Try.checked) false ⟨#[], #[.slice none 0 0], []⟩ 8 (by kernel_rfl) (by kernel_rfl) (by kernel_rfl) (by kernel_rfl)) ?_
  intro W base args ds gs before hval0 hW hcnd _
  have hval : ∀ (j : Nat) t v, Try.f5.params[j]? = some t → args[j]? = some v → Value.okWide Try.prog W .any base t v := hval0
  have hW' := hW
  obtain ⟨p, q, hA0, hV, rfl, hfz, hnd⟩ := hW
  have hA : DataW.TrodAll enc Try.prog W 0 (fun _ => true) true Try.f5.params.toList args.toList ds p := hA0
  rw [Try.params5] at hA hval
  obtain ⟨v0, vs0, d0, ds0, p0, q0, hargs, rfl, rfl, h0, r0⟩ := trodAll_cons hA
  obtain ⟨rfl, rfl, rfl⟩ := trodAll_nil r0
  obtain rfl : args = #[v0] := by cases args; simp_all
  obtain ⟨rfl, rfl⟩ := trodVars_none hV
  clear hA0 hval0
  simp only [List.append_nil] at hW'
  have hlt0 : ∀ x ∈ p0, x.block < W.heap.size := fun x hx => by simpa using hW'.lt x (by simp [hx])
  have hk0 : ∀ (W' : World), Below W.heap.size W W' → DataW.Trod enc Try.prog W' 0 (fun b => decide (b < W.heap.size)) true 50 v0 d0 p0 :=
    fun W' hn => Below.trod Try.laidOut (by kernel_rfl) (of_decide_eq_true (by kernel_rfl)) h0 hn hlt0
  obtain ⟨f0, g0⟩ := h0
  have g1 : DataW.trod enc Try.prog W 0 (fun _ => true) true f0 50 [v0] = some (d0, p0) := by
    obtain ⟨a, len, cap, rfl⟩ := okWide_slice Try.underlying50 (hval 0 50 v0 rfl rfl)
    exact g0
  obtain ⟨a, len, cap, rfl, ho, hc, hl⟩ := ops_open g1
  refine (Order_walk W a len cap hc hl ho).mono fun e W' ⟨he, hU⟩ => ?_
  subst he
  have hbel := hU.below
  refine ⟨_, rfl, _, _, _, [], p0 ++ [], [], hW', ?_, ?_, rfl, hbel.frame _, fun h => by cases h⟩
  · exact trodAll_cons_mk (shut_bool Try.underlying4 _) trodAll_mk0
  · exact trodAll_cons_mk (hk0 _ hbel) trodAll_mk0

set_option maxRecDepth 100000 in
/-- MailOrder returns true. -/
theorem mailOrder_holds : Rows.MailOrderSaid :=
  OpenClaim.holds_of_wide 5 Try.f5 rfl rfl rfl rfl rfl rfl rfl ⟨rfl, rfl, rfl, rfl, rfl⟩ rfl rfl rfl rfl rfl (by kernel_rfl) Try.func5 (by kernel_rfl)
    (of_decide_eq_true (by kernel_rfl)) (by unfold Func.isWrapper; first | (rw [if_pos (by decide +kernel)]; kernel_rfl) | (rw [if_neg (by decide +kernel)]; exact ⟨rfl, rfl⟩))
    (fun os started H enc _ => mailOrder_lifted os started H enc)

end Go.Proofs.Ytmdkhkeljpdbiaa
