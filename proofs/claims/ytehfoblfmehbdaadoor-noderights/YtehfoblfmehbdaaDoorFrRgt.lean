/- The frame of the row of NodeRights: what the walk has to show is its one hypothesis. -/
import Derived.Test.YtehfoblfmehbdaaDoorFrB
import Derived.Test.YtehfoblfmehbdaaDoorGnM
import Derived.Test.YtehfoblfmehbdaaDoorCards
import Derived.Test.YtehfoblfmehbdaaDoorTie
import Derived.ChangeMaps5
namespace Go.Proofs.YtehfoblfmehbdaaDoor
open Go.ChangeShapes Go.WideShapes Go.ChangeAt Go.RowKit Go.Joins Go.ChangeMaps

/-- What the walk has to show. -/
def NodeRightsWalk : Prop := ∀ (d : Nat) (cs0 : List Value) (t0 : Nd) (W : World) (_hg : Glb W) (_in0 : NIn W d cs0 t0) (_y0 : nsz t0 ≤ 2199023255488) (_x0 : nxz t0 ≤ 140737488355328),
    Calls Tryd.prog 3 #[.agg cs0.toArray] W fun e w' => e = .returned (.bool true) ∧ Upd [] W w'
theorem NIn.lift {w : World} {d : Nat} {cs : List Value} {t : Nd} (h : NIn w d cs t) : ∀ k, NIn w (d + k) cs t
  | 0 => h
  | k + 1 => NIn.more _ _ _ (NIn.lift h k)

set_option maxHeartbeats 1000000 in
set_option maxRecDepth 100000 in
theorem nodeRights_contract (hwalk : NodeRightsWalk) (H : Type) (enc : TypeId × Value → H) (W : World) (base : Nat) (args : Array Value) (ds gs : List (DataW H)) (before : List MemPlace) (hgl : Glb W)
    (hval : ∀ (j : Nat) t v, Tryd.f3.params[j]? = some t → args[j]? = some v → Value.okWide Tryd.prog W .any base t v)
    (hW : DataW.Whole enc Tryd.prog Tryd.f3.params.toList Rows.nodeRightsSpec.vars false W args.toList ds gs before)
    (hwt : (DataW.weightsEach Tryd.prog (Tryd.f3.params.toList ++ (OpenSpec.ofChange Rows.nodeRightsSpec).bare.plain.varTypes Tryd.prog) (ds ++ gs)).all (· ≤ reachBytes) = true) :
    Calls Tryd.prog 3 args W fun e W' => ∃ v, e = .returned v ∧ Rows.nodeRightsSpec.post enc Tryd.prog Tryd.f3 false true false false W args v W' := by
  have hW' := hW
  obtain ⟨p, q, hA0, hV, rfl, hfz, hnd⟩ := hW
  have hA : DataW.TrodAll enc Tryd.prog W 0 (fun _ => true) true Tryd.f3.params.toList args.toList ds p := hA0
  rw [Tryd.params3] at hA hval
  obtain ⟨v0, vs0, d0, ds0, p0, q0, hargs, rfl, rfl, h0, r0⟩ := trodAll_cons hA
  obtain ⟨rfl, rfl, rfl⟩ := trodAll_nil r0
  obtain rfl : args = #[v0] := by cases args; simp_all
  obtain ⟨rfl, rfl⟩ := trodVars_none hV
  clear hA0
  simp only [List.append_nil] at hW'
  rw [Tryd.params3] at hwt
  have hlt0 : ∀ x ∈ p0, x.block < W.heap.size := fun x hx => by simpa using hW'.lt x (by simp [hx])
  have hk0 : ∀ (W' : World), Below W.heap.size W W' → DataW.Trod enc Tryd.prog W' 0 (fun b => decide (b < W.heap.size)) true 25 v0 d0 p0 :=
    fun W' hn => Below.trod laidOut (by kernel_rfl) (of_decide_eq_true (by kernel_rfl)) h0 hn hlt0
  obtain ⟨cs0, rfl, hsz0⟩ := okWide_struct Tryd.underlying25 (hval 0 25 v0 rfl rfl)
  obtain ⟨f0, g0⟩ := h0
  have hw0 : ∀ n ∈ DataW.weights Tryd.prog 25 d0, n ≤ reachBytes := fun n hn => by
    have := List.all_eq_true.1 hwt n (DataW.weights_mem_each (j := 0) (t := 25) (d := d0) rfl rfl n hn)
    simpa using this
  obtain ⟨t0, in0, y0, x0⟩ := n_open f0 cs0.toList _ g0 hw0
  have in0' : NIn W (f0) cs0.toList t0 := by have := in0.lift (0); rwa [show f0 + (0) = f0 by omega] at this
  refine (hwalk _ cs0.toList t0 W hgl in0' y0 x0).mono fun e W' ⟨he, hU⟩ => ?_
  subst he
  have hbel := hU.below
  refine ⟨_, rfl, _, _, _, [], p0 ++ ([]), [], hW', ?_, ?_, rfl, hbel.frame _, fun h => by cases h⟩
  · exact trodAll_cons_mk (shut_bool Tryd.underlying4 _) trodAll_mk0
  · exact (trodAll_cons_mk (hk0 _ hbel) trodAll_mk0)

theorem nodeRights_laid (os : Os) : laidMet Tryd.prog Rows.nodeRightsRow.laid ((witW os).forCall (fun _ _ => 0) ⟨#[], #[.agg #[.int .u8 0, .string ⟨#[]⟩, .int .i64 0, .int .i64 0, .slice none 0 0]], []⟩).memory := laid_met os _
theorem nodeRights_reads (os : Os) {H : Type} (enc : TypeId × Value → H) : ∃ places, DataW.whole enc Tryd.prog ((witW os).forCall (fun _ _ => 0) ⟨#[], #[.agg #[.int .u8 0, .string ⟨#[]⟩, .int .i64 0, .int .i64 0, .slice none 0 0]], []⟩).memory Tryd.f3.params.toList Rows.nodeRightsSpec.vars false #[.agg #[.int .u8 0, .string ⟨#[]⟩, .int .i64 0, .int .i64 0, .slice none 0 0]].toList 8 = some ([.agg [.lit (.int .u8 0), .lit (.string []), .lit (.int .i64 0), .lit (.int .i64 0), .nil]], [], places) :=
  ⟨[], by kernel_rfl⟩

set_option maxHeartbeats 1000000 in
set_option maxRecDepth 100000 in
theorem nodeRights_lifted (hwalk : NodeRightsWalk) (os : Os) (started : os.Started) (H : Type) (enc : TypeId × Value → H) (F : Stop.Interp) :
    ReturnsInHanded {} Tryd.checked os 3 .any ((OpenSpec.ofChange Rows.nodeRightsSpec).preRow enc Tryd.prog Tryd.f3 Rows.nodeRightsRow.domain false Rows.nodeRightsRow.laid) (((OpenSpec.ofChange Rows.nodeRightsSpec).at F).post enc Tryd.prog Tryd.f3 false true false false) := by
  obtain ⟨places, hx⟩ := nodeRights_reads os enc
  refine returnsInHanded_of_row (C := Tryd.checked) (s := OpenSpec.ofChange Rows.nodeRightsSpec) own started (by kernel_rfl) Tryd.func3
    (witness_row_atRef (enc := enc) (C := Tryd.checked) false (witW os) #[.agg #[.int .u8 0, .string ⟨#[]⟩, .int .i64 0, .int .i64 0, .slice none 0 0]] rfl (by kernel_rfl) (by kernel_rfl) (by kernel_rfl)
      (OpenSpec.preRow_of_cond 8 hx (by kernel_rfl) (fun k hk => by cases hk) (by kernel_rfl) (nodeRights_laid os))) ?_
  intro W base args ds gs before hval hW _ _ hwt hlaid _ _
  exact nodeRights_contract hwalk H enc W base args ds gs before (glb_of_laid hlaid) hval hW hwt

set_option maxRecDepth 100000 in
theorem nodeRights_said (hwalk : NodeRightsWalk) : Rows.NodeRightsSaid :=
  OpenClaim.holds_of_cond 3 Tryd.f3 rfl rfl rfl rfl rfl rfl rfl ⟨rfl, rfl, rfl, rfl, rfl⟩ rfl rfl rfl rfl rfl (by kernel_rfl) Tryd.func3 (by kernel_rfl)
    (of_decide_eq_true (by kernel_rfl)) (by unfold Func.isWrapper; first | (rw [if_pos (by decide +kernel)]; kernel_rfl) | (rw [if_neg (by decide +kernel)]; exact ⟨rfl, rfl⟩))
    (fun os started H enc _ F => by rw [OpenClaim.pre_eq_preRow]; exact nodeRights_lifted hwalk os started H enc F)

theorem nodeRights_plain (f : FuncId) (fn : Func) (hf : Tryd.pinned.checked.prog.funcNamed "pigeonhole/pigeonholelaw04.NodeRights" = some f) (hfn : Tryd.pinned.checked.prog.funcs[f]? = some fn) :
    false = Tryd.pinned.checked.prog.looks [] ∧ ∀ (j : Nat) t, fn.params[j]? = some t → Tryd.pinned.checked.prog.wantsStandIn t = false := by
  obtain rfl : f = 3 := Option.some.inj ((show Tryd.prog.funcNamed "pigeonhole/pigeonholelaw04.NodeRights" = some 3 by kernel_rfl).symm.trans hf) |>.symm
  obtain rfl : fn = Tryd.f3 := (Option.some.inj (Tryd.func3.symm.trans hfn)).symm
  refine ⟨by kernel_rfl, fun j t ht => ?_⟩
  rw [Tryd.params3] at ht
  have hm : t = 25 := by have := Array.mem_of_getElem? ht; simpa using this
  rcases hm with rfl
  · exact (show Tryd.prog.wantsStandIn 25 = false by kernel_rfl)

/-- The card, of the walk. -/
theorem nodeRights_card (hwalk : NodeRightsWalk) : Rows.NodeRightsCardSaid :=
  Claim7.holds_tied_plain_at .later [] _ _ _ _ (nodeRights_said hwalk) (fun _ h => by cases h) (by kernel_rfl) (fun _ h => by cases h) nodeRights_row_tie rfl ⟨rfl, rfl⟩ (by kernel_rfl) rfl nodeRights_plain (by kernel_rfl)

end Go.Proofs.YtehfoblfmehbdaaDoor
