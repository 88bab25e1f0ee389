/- The frame of the row of WholeProducts: what the walk has to show is its one hypothesis. -/
import Derived.Test.YtpeganecbjefoaaDoorFrW
import Derived.Test.YtpeganecbjefoaaDoorCards
import Derived.Test.YtpeganecbjefoaaDoorTie
namespace Go.Proofs.YtpeganecbjefoaaDoor
open Go.ChangeShapes Go.WideShapes Go.ChangeAt Go.RowKit Go.Joins

/-- What the walk has to show. -/
def WholeProductsWalk : Prop := ∀ (k0 num0 : Int) (neg0 : Bool) (a0 ai0 at0 : Option Addr) (L0 : List Nat) (c0 ni0 ci0 nt0 ct0 : Nat) (s0 : ByteArray) (k1 num1 : Int) (neg1 : Bool) (a1 ai1 at1 : Option Addr) (L1 : List Nat) (c1 ni1 ci1 nt1 ct1 : Nat) (s1 : ByteArray) (W : World) (_hA0 : At W a0 L0) (_hD0 : Dig L0) (_hl0 : L0.length ≤ 9223372036854775807) (_hi0 : ni0 ≤ 9223372036854775807) (_ht0 : nt0 ≤ 9223372036854775807) (_hA1 : At W a1 L1) (_hD1 : Dig L1) (_hl1 : L1.length ≤ 9223372036854775807) (_hi1 : ni1 ≤ 9223372036854775807) (_ht1 : nt1 ≤ 9223372036854775807),
    Calls Tryd.prog 4 #[.agg #[.int .u8 k0, .bool neg0, .slice a0 L0.length c0, .string s0, .int .i64 num0, .slice ai0 ni0 ci0, .slice at0 nt0 ct0], .agg #[.int .u8 k1, .bool neg1, .slice a1 L1.length c1, .string s1, .int .i64 num1, .slice ai1 ni1 ci1, .slice at1 nt1 ct1]] W fun e w' => e = .returned (.bool true) ∧ Upd [] W w'

set_option maxHeartbeats 1000000 in
set_option maxRecDepth 100000 in
theorem wholeProducts_contract (hwalk : WholeProductsWalk) (H : Type) (enc : TypeId × Value → H) (W : World) (base : Nat) (args : Array Value) (ds gs : List (DataW H)) (before : List MemPlace)
    (hval : ∀ (j : Nat) t v, Tryd.f4.params[j]? = some t → args[j]? = some v → Value.okWide Tryd.prog W .any base t v)
    (hW : DataW.Whole enc Tryd.prog Tryd.f4.params.toList Rows.wholeProductsSpec.vars false W args.toList ds gs before) :
    Calls Tryd.prog 4 args W fun e W' => ∃ v, e = .returned v ∧ Rows.wholeProductsSpec.post enc Tryd.prog Tryd.f4 false true false false W args v W' := by
  have hW' := hW
  obtain ⟨p, q, hA0, hV, rfl, hfz, hnd⟩ := hW
  have hA : DataW.TrodAll enc Tryd.prog W 0 (fun _ => true) true Tryd.f4.params.toList args.toList ds p := hA0
  rw [Tryd.params4] at hA hval
  obtain ⟨v0, vs0, d0, ds0, p0, q0, hargs, rfl, rfl, h0, r0⟩ := trodAll_cons hA
  obtain ⟨v1, vs1, d1, ds1, p1, q1, rfl, rfl, rfl, h1, r1⟩ := trodAll_cons r0
  obtain ⟨rfl, rfl, rfl⟩ := trodAll_nil r1
  obtain rfl : args = #[v0, v1] := by cases args; simp_all
  obtain ⟨rfl, rfl⟩ := trodVars_none hV
  clear hA0
  simp only [List.append_nil] at hW'
  have hlt0 : ∀ x ∈ p0, x.block < W.heap.size := fun x hx => by simpa using hW'.lt x (by simp [hx])
  have hlt1 : ∀ x ∈ p1, x.block < W.heap.size := fun x hx => by simpa using hW'.lt x (by simp [hx])
  have hk0 : ∀ (W' : World), Below W.heap.size W W' → DataW.Trod enc Tryd.prog W' 0 (fun b => decide (b < W.heap.size)) true 26 v0 d0 p0 :=
    fun W' hn => Below.trod laidOut (by kernel_rfl) (of_decide_eq_true (by kernel_rfl)) h0 hn hlt0
  obtain ⟨k0, num0, neg0, a0, ai0, at0, L0, c0, ni0, ci0, nt0, ct0, s0, rfl, hA0, hD0, hl0, hi0, ht0⟩ := open_term (hval 0 26 v0 rfl rfl) h0 hlt0
  have hk1 : ∀ (W' : World), Below W.heap.size W W' → DataW.Trod enc Tryd.prog W' 0 (fun b => decide (b < W.heap.size)) true 26 v1 d1 p1 :=
    fun W' hn => Below.trod laidOut (by kernel_rfl) (of_decide_eq_true (by kernel_rfl)) h1 hn hlt1
  obtain ⟨k1, num1, neg1, a1, ai1, at1, L1, c1, ni1, ci1, nt1, ct1, s1, rfl, hA1, hD1, hl1, hi1, ht1⟩ := open_term (hval 1 26 v1 rfl rfl) h1 hlt1
  refine (hwalk k0 num0 neg0 a0 ai0 at0 L0 c0 ni0 ci0 nt0 ct0 s0 k1 num1 neg1 a1 ai1 at1 L1 c1 ni1 ci1 nt1 ct1 s1 W hA0 hD0 hl0 hi0 ht0 hA1 hD1 hl1 hi1 ht1).mono fun e W' ⟨he, hU⟩ => ?_
  subst he
  have hbel := hU.below
  refine ⟨_, rfl, _, _, _, [], p0 ++ (p1 ++ ([])), [], hW', ?_, ?_, rfl, hbel.frame _, fun h => by cases h⟩
  · exact trodAll_cons_mk (shut_bool Tryd.underlying4 _) trodAll_mk0
  · exact (trodAll_cons_mk (hk0 _ hbel) (trodAll_cons_mk (hk1 _ hbel) trodAll_mk0))

theorem wholeProducts_laid (os : Os) : laidMet Tryd.prog Rows.wholeProductsRow.laid (({ World.holding Tryd.prog os ⟨#[], #[], []⟩ with heap := ((World.holding Tryd.prog os ⟨#[], #[], []⟩).heap.modify 0 layFirst).modify 1 layAccept } : World).forCall (fun _ _ => 0) ⟨#[], #[.agg #[.int .u8 0, .bool false, .slice none 0 0, .string ⟨#[]⟩, .int .i64 0, .slice none 0 0, .slice none 0 0], .agg #[.int .u8 0, .bool false, .slice none 0 0, .string ⟨#[]⟩, .int .i64 0, .slice none 0 0, .slice none 0 0]], []⟩).memory := laid_met os _
theorem wholeProducts_reads (os : Os) {H : Type} (enc : TypeId × Value → H) : ∃ places, DataW.whole enc Tryd.prog (({ World.holding Tryd.prog os ⟨#[], #[], []⟩ with heap := ((World.holding Tryd.prog os ⟨#[], #[], []⟩).heap.modify 0 layFirst).modify 1 layAccept } : World).forCall (fun _ _ => 0) ⟨#[], #[.agg #[.int .u8 0, .bool false, .slice none 0 0, .string ⟨#[]⟩, .int .i64 0, .slice none 0 0, .slice none 0 0], .agg #[.int .u8 0, .bool false, .slice none 0 0, .string ⟨#[]⟩, .int .i64 0, .slice none 0 0, .slice none 0 0]], []⟩).memory Tryd.f4.params.toList Rows.wholeProductsSpec.vars false #[.agg #[.int .u8 0, .bool false, .slice none 0 0, .string ⟨#[]⟩, .int .i64 0, .slice none 0 0, .slice none 0 0], .agg #[.int .u8 0, .bool false, .slice none 0 0, .string ⟨#[]⟩, .int .i64 0, .slice none 0 0, .slice none 0 0]].toList 8 = some ([.agg [.lit (.int .u8 0), .lit (.bool false), .nil, .lit (.string []), .lit (.int .i64 0), .nil, .nil], .agg [.lit (.int .u8 0), .lit (.bool false), .nil, .lit (.string []), .lit (.int .i64 0), .nil, .nil]], [], places) :=
  ⟨[], by kernel_rfl⟩

set_option maxHeartbeats 1000000 in
set_option maxRecDepth 100000 in
theorem wholeProducts_lifted (hwalk : WholeProductsWalk) (os : Os) (started : os.Started) (H : Type) (enc : TypeId × Value → H) (F : Stop.Interp) :
    ReturnsInHanded {} Tryd.checked os 4 .any ((OpenSpec.ofChange Rows.wholeProductsSpec).preRow enc Tryd.prog Tryd.f4 Rows.wholeProductsRow.domain false Rows.wholeProductsRow.laid) (((OpenSpec.ofChange Rows.wholeProductsSpec).at F).post enc Tryd.prog Tryd.f4 false true false false) := by
  obtain ⟨places, hx⟩ := wholeProducts_reads os enc
  refine returnsInHanded_of_row (C := Tryd.checked) (s := OpenSpec.ofChange Rows.wholeProductsSpec) own started (by kernel_rfl) Tryd.func4
    (witness_row_at (enc := enc) (C := Tryd.checked) false ({ World.holding Tryd.prog os ⟨#[], #[], []⟩ with heap := ((World.holding Tryd.prog os ⟨#[], #[], []⟩).heap.modify 0 layFirst).modify 1 layAccept } : World) #[.agg #[.int .u8 0, .bool false, .slice none 0 0, .string ⟨#[]⟩, .int .i64 0, .slice none 0 0, .slice none 0 0], .agg #[.int .u8 0, .bool false, .slice none 0 0, .string ⟨#[]⟩, .int .i64 0, .slice none 0 0, .slice none 0 0]] rfl (by kernel_rfl) (by kernel_rfl) (by kernel_rfl)
      (OpenSpec.preRow_of_cond 8 hx (by kernel_rfl) (fun k hk => by cases hk) (by kernel_rfl) (wholeProducts_laid os))) ?_
  intro W base args ds gs before hval hW _ _ _ _ _ _
  exact wholeProducts_contract hwalk H enc W base args ds gs before hval hW

set_option maxRecDepth 100000 in
theorem wholeProducts_said (hwalk : WholeProductsWalk) : Rows.WholeProductsSaid :=
  OpenClaim.holds_of_cond 4 Tryd.f4 rfl rfl rfl rfl rfl rfl rfl ⟨rfl, rfl, rfl, rfl, rfl⟩ rfl rfl rfl rfl rfl (by kernel_rfl) Tryd.func4 (by kernel_rfl)
    (of_decide_eq_true (by kernel_rfl)) (by unfold Func.isWrapper; first | (rw [if_pos (by decide +kernel)]; kernel_rfl) | (rw [if_neg (by decide +kernel)]; exact ⟨rfl, rfl⟩))
    (fun os started H enc _ F => by rw [OpenClaim.pre_eq_preRow]; exact wholeProducts_lifted hwalk os started H enc F)

theorem wholeProducts_plain (f : FuncId) (fn : Func) (hf : Tryd.pinned.checked.prog.funcNamed "pigeonhole/pigeonholelaw01.WholeProducts" = some f) (hfn : Tryd.pinned.checked.prog.funcs[f]? = some fn) :
    false = Tryd.pinned.checked.prog.looks [] ∧ ∀ (j : Nat) t, fn.params[j]? = some t → Tryd.pinned.checked.prog.wantsStandIn t = false := by
  obtain rfl : f = 4 := Option.some.inj ((show Tryd.prog.funcNamed "pigeonhole/pigeonholelaw01.WholeProducts" = some 4 by kernel_rfl).symm.trans hf) |>.symm
  obtain rfl : fn = Tryd.f4 := (Option.some.inj (Tryd.func4.symm.trans hfn)).symm
  refine ⟨by kernel_rfl, fun j t ht => ?_⟩
  rw [Tryd.params4] at ht
  have hm : t = 26 := by have := Array.mem_of_getElem? ht; simpa using this
  subst hm
  exact (show Tryd.prog.wantsStandIn 26 = false by kernel_rfl)

/-- The card, of the walk. -/
theorem wholeProducts_card (hwalk : WholeProductsWalk) : Rows.WholeProductsCardSaid :=
  Claim7.holds_tied_plain_at .later [] _ _ _ _ (wholeProducts_said hwalk) (fun _ h => by cases h) (by kernel_rfl) (fun _ h => by cases h) wholeProducts_row_tie rfl ⟨rfl, rfl⟩ (by kernel_rfl) rfl wholeProducts_plain (by kernel_rfl)

end Go.Proofs.YtpeganecbjefoaaDoor
