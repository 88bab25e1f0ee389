/- The card of TermLists: whatever two terms and whatever bytes it is given, the call returns true and leaves its arguments as they were. Conditions: the row's own alone. -/
import Derived.Test.YtalhbbabijlngaaGreatDoorJAM
import Derived.Deep.DeepWitnessRowRef
import Derived.ChangeMaps5
import Derived.Test.YtalhbbabijlngaaGreatDoorLwList
import Derived.Test.YtalhbbabijlngaaGreatDoorJBK
import Derived.Test.YtalhbbabijlngaaGreatDoorCards
import Derived.Test.YtalhbbabijlngaaGreatDoorTie
namespace Go.Proofs.YtalhbbabijlngaaGreatDoor
open Go.ChangeShapes Go.WideShapes Go.ChangeAt Go.RowKit Go.Joins Go.ChangeMaps
theorem In.lift {w : World} {d : Nat} {cs : List Value} {t : Tm} (h : In w d cs t) : ∀ n, In w (d + n) cs t
 | 0 => h
 | n + 1 => In.more (d + n) cs t (In.lift h n)
set_option maxRecDepth 100000 in
theorem cap_open {H : Type} {enc : TypeId × Value → H} {W : World} {fuel : Nat} {cs : List Value} {x : DataW H × List MemPlace} (h : DataW.trod enc Tryz.prog W 0 (fun _ => true) true fuel 26 cs = some x) : CapC cs := by
 obtain ⟨xs, n, hn, hx, hcl, hlen, hfs⟩ := DataW.trod_struct Tryz.underlying26 h
 obtain ⟨c0, c1, c2, c3, c4, c5, c6, hcs⟩ := array7 (cs := cs.toArray) (by simpa using hcl.trans cells_term)
 have hcs2 : cs = [c0, c1, c2, c3, c4, c5, c6] := by have := congrArg Array.toList hcs; simpa using this
 subst hcs2
 have f5 : DataW.trod enc Tryz.prog W 0 (fun _ => true) true n 24 (List.take (Tryz.prog.cellsOf 24) (List.drop 5 [c0, c1, c2, c3, c4, c5, c6])) = xs[5]? := hfs 5 _ rfl
 have hl7 : xs.length = 7 := hlen
 simp only [cells_terms, List.drop_succ_cons, List.drop_zero, List.take_succ_cons, List.take_zero] at f5
 rw [List.getElem?_eq_getElem (by omega)] at f5
 rcases DataW.trod_slice Tryz.underlying24 f5 with ⟨hcs, _⟩ | ⟨a, len, cap, elems, rest, n, _, hcs, _, hb, hl, hm, _⟩
 ·exact ⟨none, 0, 0, by simpa using hcs, Nat.le_refl _, by omega⟩
 ·unfold maxLen at hm
  exact ⟨some a, len, cap, by simpa using hcs, hl, by omega⟩
theorem Lists_core (W : World) (hg : Glb W) (d : Nat) (cs0 cs1 : List Value) (t0 t1 : Tm) (s : ByteArray) (in0 : In W d cs0 t0) (in1 : In W d cs1 t1) (cp : CapC cs1) (z0 : tsz t0 ≤ 1353245080330) (z1 : tsz t1 ≤ 1353245080330) (y0 : xsz t0 ≤ 140737488355328) (y1 : xsz t1 ≤ 140737488355328) :
  Calls Tryz.prog 5 #[.agg cs0.toArray, .agg cs1.toArray, .string s] W fun e w' => e = .returned (.bool true) ∧ Upd [] W w' := by
 cases d with
 | zero => exact in0.elim
 | succ d =>
  obtain ⟨k, num, neg, L, s0, I, T⟩ := t0
  obtain ⟨k', num', neg', L', s1, I', T'⟩ := t1
  have i0 := in0
  have i1 := in1
  obtain ⟨a, ai, at', c, ci, ct, rfl, _⟩ := in0
  obtain ⟨b, bi, bt, c', ci', ct', rfl, _⟩ := in1
  exact Lists_walk W d _ _ s L.length L'.length c c' a b _ _ _ _ _ _ _ _ _ _ _ _ hg i0 i1 cp z0 z1 y0 y1
set_option maxHeartbeats 1000000 in
set_option maxRecDepth 100000 in
theorem termLists_contract (H : Type) (enc : TypeId × Value → H) (W : World) (base : Nat) (args : Array Value) (ds gs : List (DataW H)) (before : List MemPlace) (hgl : Glb W)
  (hval : ∀ (j : Nat) t v, Tryz.f5.params[j]? = some t → args[j]? = some v → Value.okWide Tryz.prog W .any base t v)
  (hW : DataW.Whole enc Tryz.prog Tryz.f5.params.toList Rows.termListsSpec.vars false W args.toList ds gs before)
  (hwt : (DataW.weightsEach Tryz.prog (Tryz.f5.params.toList ++ (OpenSpec.ofChange Rows.termListsSpec).bare.plain.varTypes Tryz.prog) (ds ++ gs)).all (· ≤ reachBytes) = true) :
  Calls Tryz.prog 5 args W fun e W' => ∃ v, e = .returned v ∧ Rows.termListsSpec.post enc Tryz.prog Tryz.f5 false true false false W args v W' := by
 have hW' := hW
 obtain ⟨p, q, hA0, hV, rfl, hfz, hnd⟩ := hW
 have hA : DataW.TrodAll enc Tryz.prog W 0 (fun _ => true) true Tryz.f5.params.toList args.toList ds p := hA0
 rw [Tryz.params5] at hA hval
 obtain ⟨v0, vs0, d0, ds0, p0, q0, hargs, rfl, rfl, h0, r0⟩ := trodAll_cons hA
 obtain ⟨v1, vs1, d1, ds1, p1, q1, rfl, rfl, rfl, h1, r1⟩ := trodAll_cons r0
 obtain ⟨v2, vs2, d2, ds2, p2, q2, rfl, rfl, rfl, h2, r2⟩ := trodAll_cons r1
 obtain ⟨rfl, rfl, rfl⟩ := trodAll_nil r2
 obtain rfl : args = #[v0, v1, v2] := by cases args; simp_all
 obtain ⟨rfl, rfl⟩ := trodVars_none hV
 clear hA0
 simp only [List.append_nil] at hW'
 have hlt0 : ∀ x ∈ p0, x.block < W.heap.size := fun x hx => by simpa using hW'.lt x (by simp [hx])
 have hlt1 : ∀ x ∈ p1, x.block < W.heap.size := fun x hx => by simpa using hW'.lt x (by simp [hx])
 have hk0 : ∀ (W' : World), Below W.heap.size W W' → DataW.Trod enc Tryz.prog W' 0 (fun b => decide (b < W.heap.size)) true 26 v0 d0 p0 :=
  fun W' hn => Below.trod laidOut (by kernel_rfl) (of_decide_eq_true (by kernel_rfl)) h0 hn hlt0
 obtain ⟨k0, num0, neg0, a0, ai0, at0, L0, c0, ni0, ci0, nt0, ct0, s0, rfl, hA0, hD0, hl0, hi0, ht0⟩ := open_term (hval 0 26 v0 rfl rfl) h0 hlt0
 have hk1 : ∀ (W' : World), Below W.heap.size W W' → DataW.Trod enc Tryz.prog W' 0 (fun b => decide (b < W.heap.size)) true 26 v1 d1 p1 :=
  fun W' hn => Below.trod laidOut (by kernel_rfl) (of_decide_eq_true (by kernel_rfl)) h1 hn hlt1
 obtain ⟨k1, num1, neg1, a1, ai1, at1, L1, c1, ni1, ci1, nt1, ct1, s1, rfl, hA1, hD1, hl1, hi1, ht1⟩ := open_term (hval 1 26 v1 rfl rfl) h1 hlt1
 obtain ⟨s2, rfl, rfl, rfl, hs2⟩ := open_string Tryz.underlying9 (hval 2 9 v2 rfl rfl) h2
 obtain ⟨f0, g0⟩ := h0
 obtain ⟨f1, g1⟩ := h1
 rw [Tryz.params5] at hwt
 have hw0 : ∀ n ∈ DataW.weights Tryz.prog 26 d0, n ≤ reachBytes := fun n hn => by
  have := List.all_eq_true.1 hwt n (DataW.weights_mem_each (j := 0) (t := 26) (d := d0) rfl rfl n hn)
  simpa using this
 have hw1 : ∀ n ∈ DataW.weights Tryz.prog 26 d1, n ≤ reachBytes := fun n hn => by
  have := List.all_eq_true.1 hwt n (DataW.weights_mem_each (j := 1) (t := 26) (d := d1) rfl rfl n hn)
  simpa using this
 obtain ⟨t0, in0, z0, y0⟩ := in_openX f0 _ _ g0 hw0
 obtain ⟨t1, in1, z1, y1⟩ := in_openX f1 _ _ g1 hw1
 have in0' := in0.lift f1
 have in1' := in1.lift f0
 rw [show f1 + f0 = f0 + f1 by omega] at in1'
 refine (Lists_core W hgl _ _ _ t0 t1 _ in0' in1' (cap_open g1) z0 z1 y0 y1).mono fun e W' ⟨he, hU⟩ => ?_
 subst he
 have hbel := hU.below
 refine ⟨_, rfl, _, _, _, [], p0 ++ (p1 ++ ([] ++ [])), [], hW', ?_, ?_, rfl, hbel.frame _, fun h => by cases h⟩
 ·exact trodAll_cons_mk (shut_bool Tryz.underlying4 _) trodAll_mk0
 ·exact (trodAll_cons_mk (hk0 _ hbel) (trodAll_cons_mk (hk1 _ hbel) (trodAll_cons_mk (shut_string Tryz.underlying9 hs2) trodAll_mk0)))
theorem termLists_laid (os : Os) : laidMet Tryz.prog Rows.termListsRow.laid ((witW os).forCall (fun _ _ => 0) ⟨#[], #[.agg #[.int .u8 0, .bool false, .slice none 0 0, .string ⟨#[]⟩, .int .i64 0, .slice none 0 0, .slice none 0 0], .agg #[.int .u8 0, .bool false, .slice none 0 0, .string ⟨#[]⟩, .int .i64 0, .slice none 0 0, .slice none 0 0], .string ⟨#[]⟩], []⟩).memory := laid_met os _
theorem termLists_reads (os : Os) {H : Type} (enc : TypeId × Value → H) : ∃ places, DataW.whole enc Tryz.prog ((witW os).forCall (fun _ _ => 0) ⟨#[], #[.agg #[.int .u8 0, .bool false, .slice none 0 0, .string ⟨#[]⟩, .int .i64 0, .slice none 0 0, .slice none 0 0], .agg #[.int .u8 0, .bool false, .slice none 0 0, .string ⟨#[]⟩, .int .i64 0, .slice none 0 0, .slice none 0 0], .string ⟨#[]⟩], []⟩).memory Tryz.f5.params.toList Rows.termListsSpec.vars false #[.agg #[.int .u8 0, .bool false, .slice none 0 0, .string ⟨#[]⟩, .int .i64 0, .slice none 0 0, .slice none 0 0], .agg #[.int .u8 0, .bool false, .slice none 0 0, .string ⟨#[]⟩, .int .i64 0, .slice none 0 0, .slice none 0 0], .string ⟨#[]⟩].toList 8 = some ([.agg [.lit (.int .u8 0), .lit (.bool false), .nil, .lit (.string []), .lit (.int .i64 0), .nil, .nil], .agg [.lit (.int .u8 0), .lit (.bool false), .nil, .lit (.string []), .lit (.int .i64 0), .nil, .nil], .lit (.string [])], [], places) :=
 ⟨[], by kernel_rfl⟩
set_option maxHeartbeats 1000000 in
set_option maxRecDepth 100000 in
theorem termLists_lifted (os : Os) (started : os.Started) (H : Type) (enc : TypeId × Value → H) (F : Stop.Interp) :
  ReturnsInHanded {} Tryz.checked os 5 .any ((OpenSpec.ofChange Rows.termListsSpec).preRow enc Tryz.prog Tryz.f5 Rows.termListsRow.domain false Rows.termListsRow.laid) (((OpenSpec.ofChange Rows.termListsSpec).at F).post enc Tryz.prog Tryz.f5 false true false false) := by
 obtain ⟨places, hx⟩ := termLists_reads os enc
 refine returnsInHanded_of_row (C := Tryz.checked) (s := OpenSpec.ofChange Rows.termListsSpec) own started (by kernel_rfl) Tryz.func5
  (witness_row_atRef (enc := enc) (C := Tryz.checked) false (witW os) #[.agg #[.int .u8 0, .bool false, .slice none 0 0, .string ⟨#[]⟩, .int .i64 0, .slice none 0 0, .slice none 0 0], .agg #[.int .u8 0, .bool false, .slice none 0 0, .string ⟨#[]⟩, .int .i64 0, .slice none 0 0, .slice none 0 0], .string ⟨#[]⟩] rfl (by kernel_rfl) (by kernel_rfl) (by kernel_rfl)
   (OpenSpec.preRow_of_cond 8 hx (by kernel_rfl) (fun k hk => by cases hk) (by kernel_rfl) (termLists_laid os))) ?_
 intro W base args ds gs before hval hW _ _ hwt hlaid _ _
 exact termLists_contract H enc W base args ds gs before (glb_of_laid (show laidMet Tryz.prog Rows.termOrdersRow.laid _ from hlaid)) hval hW hwt
set_option maxRecDepth 100000 in
theorem termLists_said : Rows.TermListsSaid :=
 OpenClaim.holds_of_cond 5 Tryz.f5 rfl rfl rfl rfl rfl rfl rfl ⟨rfl, rfl, rfl, rfl, rfl⟩ rfl rfl rfl rfl rfl (by kernel_rfl) Tryz.func5 (by kernel_rfl)
  (of_decide_eq_true (by kernel_rfl)) (by unfold Func.isWrapper; first | (rw [if_pos (by decide +kernel)]; kernel_rfl) | (rw [if_neg (by decide +kernel)]; exact ⟨rfl, rfl⟩))
  (fun os started H enc _ F => by rw [OpenClaim.pre_eq_preRow]; exact termLists_lifted  os started H enc F)
theorem termLists_plain (f : FuncId) (fn : Func) (hf : Tryz.pinned.checked.prog.funcNamed "pigeonhole/pigeonholelaw02.TermLists" = some f) (hfn : Tryz.pinned.checked.prog.funcs[f]? = some fn) :
  false = Tryz.pinned.checked.prog.looks [] ∧ ∀ (j : Nat) t, fn.params[j]? = some t → Tryz.pinned.checked.prog.wantsStandIn t = false := by
 obtain rfl : f = 5 := Option.some.inj ((show Tryz.prog.funcNamed "pigeonhole/pigeonholelaw02.TermLists" = some 5 by kernel_rfl).symm.trans hf) |>.symm
 obtain rfl : fn = Tryz.f5 := (Option.some.inj (Tryz.func5.symm.trans hfn)).symm
 refine ⟨by kernel_rfl, fun j t ht => ?_⟩
 rw [Tryz.params5] at ht
 have hm : t = 26 ∨ t = 26 ∨ t = 9 := by have := Array.mem_of_getElem? ht; simpa using this
 rcases hm with rfl | rfl | rfl
 ·exact (show Tryz.prog.wantsStandIn 26 = false by kernel_rfl)
 ·exact (show Tryz.prog.wantsStandIn 26 = false by kernel_rfl)
 ·exact (show Tryz.prog.wantsStandIn 9 = false by kernel_rfl)
theorem termLists_card_holds : Rows.TermListsCardSaid :=
 Claim7.holds_tied_plain_at .later [] _ _ _ _ (termLists_said ) (fun _ h => by cases h) (by kernel_rfl) (fun _ h => by cases h) termLists_row_tie rfl ⟨rfl, rfl⟩ (by kernel_rfl) rfl termLists_plain (by kernel_rfl)
end Go.Proofs.YtalhbbabijlngaaGreatDoor
