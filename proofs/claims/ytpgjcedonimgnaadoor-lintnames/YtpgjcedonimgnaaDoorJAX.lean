/- A region with two appends and a node of their row, in whatever order. -/
import Derived.Test.YtpgjcedonimgnaaDoorJAW
import Derived.Test.YtpgjcedonimgnaaDoorJAV
import Derived.Test.YtpgjcedonimgnaaDoorJBU
import Derived.Test.YtpgjcedonimgnaaDoorLtY

namespace Go.Proofs.YtpgjcedonimgnaaDoor
open Go.RowKit

/-- A block that none of the rows in the making is. -/
def Bk (W w : World) (b0 b3 b6 : Bool) (v0 v3 v6 : Value) (g : Nat) (cs : Array Value) : Prop := W.heap.size ≤ g ∧ Tb w g cs ∧ (b0 = true → b3 = false → v0.ownBlock ≠ some g) ∧ (b3 = true → b6 = false → v3.ownBlock ≠ some g) ∧ (b6 = true → v6.ownBlock ≠ some g)
/-- What has come up: the empty row, the first append, the second, the node built, its block, a row of one. -/
structure ApJ (d : Nat) (W : World) (A B : List Nd) (fcs : Array Value) (mk : Value → Value) (b0 b3 b6 b7 b8 b5 : Bool) (v0 v3 v6 v7 v8 v5 : Value) (w : World) : Prop where
  u : Upd [] W w
  c3 : b3 = true → b0 = true
  c6 : b6 = true → b3 = true
  r0 : b0 = true → b3 = false → OwnK d W w v0 []
  r3 : b3 = true → b6 = false → OwnK d W w v3 A
  r6 : b6 = true → OwnK d W w v6 (A ++ B)
  s6 : b6 = true → ∃ a n c, v6 = .slice a n c
  r7 : b7 = true → b6 = true ∧ v7 = mk v6
  r8 : b8 = true → ∃ g, v8 = .pointer (some ⟨g, 0, none⟩) ∧ Bk W w b0 b3 b6 v0 v3 v6 g #[.int .u8 0, .string ⟨#[]⟩, .int .i64 0, .int .i64 0, .slice none 0 0]
  r5 : b5 = true → ∃ g, v5 = .slice (some ⟨g, 0, none⟩) 1 1 ∧ Bk W w b0 b3 b6 v0 v3 v6 g fcs
variable {d : Nat} {W : World} {A B : List Nd} {fcs : Array Value} {mk : Value → Value} {b0 b3 b6 b7 b8 b5 : Bool} {v0 v3 v6 v7 v8 v5 : Value} {w : World}
theorem Bk.mono {g : Nat} {cs : Array Value} (h : Bk W w b0 b3 b6 v0 v3 v6 g cs) {w' : World} (hu : Upd [] w w') : Bk W w' b0 b3 b6 v0 v3 v6 g cs := ⟨h.1, h.2.1.mono hu (by simp), h.2.2⟩
theorem ApJ.mono (h : ApJ d W A B fcs mk b0 b3 b6 b7 b8 b5 v0 v3 v6 v7 v8 v5 w) {w' : World} (hu : Upd [] w w') : ApJ d W A B fcs mk b0 b3 b6 b7 b8 b5 v0 v3 v6 v7 v8 v5 w' :=
  ⟨h.u.trans hu, h.c3, h.c6, fun x y => (h.r0 x y).upd hu (by simp), fun x y => (h.r3 x y).upd hu (by simp), fun x => (h.r6 x).upd hu (by simp), h.s6, h.r7, fun x => (h.r8 x).imp fun g k => ⟨k.1, k.2.mono hu⟩, fun x => (h.r5 x).imp fun g k => ⟨k.1, k.2.mono hu⟩⟩
theorem ApJ.low (h : ApJ d W A B fcs mk false b3 b6 b7 b8 b5 v0 v3 v6 v7 v8 v5 w) : b3 = false ∧ b6 = false := by
  have h3 : b3 = false := by cases b3 with | false => rfl | true => exact (h.c3 rfl).symm
  subst h3
  exact ⟨rfl, by cases b6 with | false => rfl | true => exact (h.c6 rfl).symm⟩
theorem ApJ.low3 (h : ApJ d W A B fcs mk b0 false b6 b7 b8 b5 v0 v3 v6 v7 v8 v5 w) : b6 = false := by
  cases b6 with | false => rfl | true => exact (h.c6 rfl).symm
theorem Bk.first {g : Nat} {cs : Array Value} (h : Bk W w false false false v0 v3 v6 g cs) : Bk W (w.alloc (.cells #[] 29)) true false false (.slice (some ⟨w.heap.size, 0, none⟩) 0 0) v3 v6 g cs := by
  refine ⟨h.1, h.2.1.old _, fun _ _ e => ?_, fun x => absurd x (by simp), fun x => absurd x (by simp)⟩
  have h1 := h.2.1.lt
  have : w.heap.size = g := by injection e
  omega
/-- The empty row. -/
theorem ApJ.first (h : ApJ d W A B fcs mk false b3 b6 b7 b8 b5 v0 v3 v6 v7 v8 v5 w) : ApJ d W A B fcs mk true b3 b6 b7 b8 b5 (.slice (some ⟨w.heap.size, 0, none⟩) 0 0) v3 v6 v7 v8 v5 (w.alloc (.cells #[] 29)) := by
  obtain ⟨rfl, rfl⟩ := h.low
  refine ⟨h.u.alloc _, fun _ => rfl, h.c6, fun _ _ => ⟨Or.inr ⟨w.heap.size, 0, rfl, by simp, Nat.le_refl _, Nat.zero_le _, there_zero _ _⟩, fun g e => (by cases e; exact h.u.size), fun _ => [], Hs.zero _ _ _ _, fun i hi => by simp at hi⟩, fun x => absurd x (by simp), fun x => absurd x (by simp), fun x => absurd x (by simp), h.r7, fun x => (h.r8 x).imp fun g k => ⟨k.1, k.2.first⟩, fun x => (h.r5 x).imp fun g k => ⟨k.1, k.2.first⟩⟩
theorem ApJ.bk (h : ApJ d W A B fcs mk b0 b3 b6 b7 b8 b5 v0 v3 v6 v7 v8 v5 w) (cs : Array Value) : Bk W (w.alloc (.cells cs 29)) b0 b3 b6 v0 v3 v6 w.heap.size cs :=
  ⟨h.u.size, Tb.new _ _ _ rfl, fun x y e => by have := (h.r0 x y).lt _ e; omega, fun x y e => by have := (h.r3 x y).lt _ e; omega, fun x e => by have := (h.r6 x).lt _ e; omega⟩
/-- The node's block. -/
theorem ApJ.block (h : ApJ d W A B fcs mk b0 b3 b6 b7 false b5 v0 v3 v6 v7 v8 v5 w) : ApJ d W A B fcs mk b0 b3 b6 b7 true b5 v0 v3 v6 v7 (.pointer (some ⟨w.heap.size, 0, none⟩)) v5 (w.alloc (.cells #[.int .u8 0, .string ⟨#[]⟩, .int .i64 0, .int .i64 0, .slice none 0 0] 29)) := by
  have h' := h.mono ((Upd.refl [] w).alloc (.cells #[.int .u8 0, .string ⟨#[]⟩, .int .i64 0, .int .i64 0, .slice none 0 0] 29))
  exact ⟨h'.u, h'.c3, h'.c6, h'.r0, h'.r3, h'.r6, h'.s6, h'.r7, fun _ => ⟨_, rfl, h.bk _⟩, h'.r5⟩
/-- A row of one. -/
theorem ApJ.row (h : ApJ d W A B fcs mk b0 b3 b6 b7 b8 false v0 v3 v6 v7 v8 v5 w) : ApJ d W A B fcs mk b0 b3 b6 b7 b8 true v0 v3 v6 v7 v8 (.slice (some ⟨w.heap.size, 0, none⟩) 1 1) (w.alloc (.cells fcs 29)) := by
  have h' := h.mono ((Upd.refl [] w).alloc (.cells fcs 29))
  exact ⟨h'.u, h'.c3, h'.c6, h'.r0, h'.r3, h'.r6, h'.s6, h'.r7, h'.r8, fun _ => ⟨_, rfl, h.bk _⟩⟩
/-- The first append. -/
theorem ApJ.one (h : ApJ d W A B fcs mk true false b6 b7 b8 b5 v0 v3 v6 v7 v8 v5 w) (a : Option Addr) (c : Nat) (ty : TypeId) (hR : RowN (NIn W d) w a A) (hb : A.length + B.length ≤ 2000000000) : ∃ v w', (Builtin.append_ #[27, 27] ty #[v0, .slice a A.length c]).run Tryd.prog w = .ok v w' ∧ ApJ d W A B fcs mk true true b6 b7 b8 b5 v0 v v6 v7 v8 v5 w' := by
  have h0 := h.r0 rfl rfl
  obtain rfl := h.low3
  obtain ⟨v, w', S, hrun, hown, hu, hS, hS2, hS3⟩ := app_any d W w v0 [] A a c ty h0 h.u hR (by simp; omega)
  have hbk : ∀ g cs, Bk W w true false false v0 v3 v6 g cs → Bk W w' true true false v0 v v6 g cs := fun g cs ⟨hg, ht, k1, k2, k3⟩ => by
    have hn := k1 rfl rfl
    refine ⟨hg, ht.mono hS (fun hm => ?_), fun _ x => absurd x (by simp), fun _ _ e => ?_, fun x => absurd x (by simp)⟩
    · rcases hS2 g hm with e | e
      · exact hn e
      · have := ht.lt; omega
    · rcases hS3 g e with e | e
      · exact hn e
      · have := ht.lt; omega
  exact ⟨v, w', hrun, hu, fun _ => rfl, fun x => absurd x (by simp), fun _ x => absurd x (by simp), fun _ _ => hown, fun x => absurd x (by simp), fun x => absurd x (by simp), h.r7, fun x => (h.r8 x).imp fun g k => ⟨k.1, hbk _ _ k.2⟩, fun x => (h.r5 x).imp fun g k => ⟨k.1, hbk _ _ k.2⟩⟩
/-- The second append. -/
theorem ApJ.two (h : ApJ d W A B fcs mk b0 true false b7 b8 b5 v0 v3 v6 v7 v8 v5 w) (a : Option Addr) (c : Nat) (ty : TypeId) (hR : RowN (NIn W d) w a B) (hb : A.length + B.length ≤ 2000000000) : ∃ v w', (Builtin.append_ #[27, 27] ty #[v3, .slice a B.length c]).run Tryd.prog w = .ok v w' ∧ ApJ d W A B fcs mk b0 true true b7 b8 b5 v0 v3 v v7 v8 v5 w' := by
  have h0 := h.r3 rfl rfl
  obtain ⟨v, w', S, hrun, hown, hu, hS, hS2, hS3⟩ := app_any d W w v3 A B a c ty h0 h.u hR hb
  have hv : ∃ a n c, v = .slice a n c := by
    rcases hown.row with ⟨e, _⟩ | ⟨g, cap, e, _⟩
    · exact ⟨_, _, _, e⟩
    · exact ⟨_, _, _, e⟩
  have hbk : ∀ g cs, Bk W w b0 true false v0 v3 v6 g cs → Bk W w' b0 true true v0 v3 v g cs := fun g cs ⟨hg, ht, k1, k2, k3⟩ => by
    have hn := k2 rfl rfl
    refine ⟨hg, ht.mono hS (fun hm => ?_), fun _ x => absurd x (by simp), fun _ x => absurd x (by simp), fun _ e => ?_⟩
    · rcases hS2 g hm with e | e
      · exact hn e
      · have := ht.lt; omega
    · rcases hS3 g e with e | e
      · exact hn e
      · have := ht.lt; omega
  exact ⟨v, w', hrun, hu, h.c3, fun _ => rfl, fun _ x => absurd x (by simp), fun _ x => absurd x (by simp), fun _ => hown, fun _ => hv, fun x => absurd (h.r7 x).1 (by simp), fun x => (h.r8 x).imp fun g k => ⟨k.1, hbk _ _ k.2⟩, fun x => (h.r5 x).imp fun g k => ⟨k.1, hbk _ _ k.2⟩⟩
/-- The node built. -/
theorem ApJ.built (h : ApJ d W A B fcs mk b0 b3 true b7 b8 b5 v0 v3 v6 v7 v8 v5 w) : ApJ d W A B fcs mk b0 b3 true true b8 b5 v0 v3 v6 (mk v6) v8 v5 w := ⟨h.u, h.c3, h.c6, h.r0, h.r3, h.r6, h.s6, fun _ => ⟨rfl, rfl⟩, h.r8, h.r5⟩
theorem ApJ.new (d : Nat) (W : World) (A B : List Nd) (fcs : Array Value) (mk : Value → Value) (w : World) (hu : Upd [] W w) : ApJ d W A B fcs mk false false false false false false v0 v3 v6 v7 v8 v5 w := by
  constructor <;> first | exact hu | (intro x; cases x)
/-- What is written into the node's block, at last. -/
theorem ApJ.last (h : ApJ d W A B fcs mk b0 true true true true b5 v0 v3 v6 v7 v8 v5 w) : ∃ g a n c, v8 = .pointer (some ⟨g, 0, none⟩) ∧ v7 = mk (.slice a n c) ∧ W.heap.size ≤ g ∧ Tb w g #[.int .u8 0, .string ⟨#[]⟩, .int .i64 0, .int .i64 0, .slice none 0 0] ∧ ∀ w', Upd [g] w w' → Upd [] W w' ∧ OwnK d W w' (.slice a n c) (A ++ B) := by
  obtain ⟨g, e, hg, ht, k1, k2, k3⟩ := h.r8 rfl
  obtain ⟨a, n, c, e6⟩ := h.s6 rfl
  obtain ⟨_, e7⟩ := h.r7 rfl
  subst e6
  exact ⟨g, a, n, c, e, e7, hg, ht, fun w' hu => ⟨h.u.then hu (by simp; omega), (h.r6 rfl).upd hu (fun g' e' hm => k3 rfl (by rw [e']; simpa using hm))⟩⟩

theorem getS_eq {L : List Bool} {i : Nat} (h : i < L.length) : (L.set i true).getD i false = true := by
  rw [List.getD_eq_getElem?_getD, List.getElem?_set_self h]; rfl
theorem getV_eq {L : List Value} {i : Nat} {v : Value} (h : i < L.length) : (L.set i v).getD i undef = v := by
  rw [List.getD_eq_getElem?_getD, List.getElem?_set_self h]; rfl
theorem getS_ne {α : Type} {L : List α} {i j : Nat} {x y : α} (h : i ≠ j) : (L.set i x).getD j y = L.getD j y := by
  rw [List.getD_eq_getElem?_getD, List.getD_eq_getElem?_getD, List.getElem?_set_ne h]
/-- Does an operation wait for another one? -/
def waits (o : Oper) (j : Nat) : Bool := o.after.any fun e => Region.binds .any e && e.on == j
theorem waits_done {o : Oper} {j : Nat} {D : Nat → Prop} (h : waits o j = true) (haf : ∀ e ∈ o.after, Region.binds .any e = true → D e.on) : D j := by
  obtain ⟨e, he, hb⟩ := Array.any_eq_true'.1 h
  simp only [Bool.and_eq_true, beq_iff_eq] at hb
  rw [← hb.2]
  exact haf e he hb.1
theorem getT {L : List Bool} {i : Nat} (h : L[i]? = some true) : L.getD i false = true := by rw [List.getD_eq_getElem?_getD, h]; rfl
theorem getF {L : List Bool} {i : Nat} (h : L[i]? = some false) : L.getD i false = false := by rw [List.getD_eq_getElem?_getD, h]; rfl

set_option maxHeartbeats 2000000 in
theorem region_app {rid : Nat} {ops : Array Oper} {Q : Exit → Act → World → Prop} {a0 : Act} {w0 : World} (hm : Tryd.prog.follows .mixedOrders = true) (n : Nat) (hn : ops.size = n + 1) (ds : List (Option Nat)) (hds : ops.toList.map (·.dst) = ds)
    (hd : ds.Pairwise fun a b => a = none ∨ a ≠ b) (hz : (ds.all fun o => o.all fun d => decide (d < a0.tmps.size)) = true) (hlow : lowOps ops = true) (hla : lastT ops n = true)
    (d : Nat) (W : World) (A B : List Nd) (fcs : Array Value) (mk : Value → Value) (hU0 : Upd [] W w0) (hAB : A.length + B.length ≤ 2000000000)
    (p0 p3 p6 p7 p8 p5 q3 q6 : Nat) (hp : [p0, p3, p6, p7, p8, p5].Nodup) (hpn : p0 < n ∧ p3 < n ∧ p6 < n ∧ p7 < n ∧ p8 < n) (Res : Nat → Value → Prop)
    (h0 : ∃ o, ops[p0]? = some o ∧ o.guard = none ∧ o.op = .buildSlice 27 0 #[]) (h8 : ∃ o, ops[p8]? = some o ∧ o.guard = none ∧ o.op = .alloc 29)
    (h3 : ∃ o x y, ops[p3]? = some o ∧ o.guard = none ∧ o.op = .call { callee := .builtin .append, args := #[.tmp x, .tmp y], argTypes := #[27, 27] } ∧ ds[p0]? = some (some x) ∧ ds[q3]? = some (some y) ∧ waits o p0 = true ∧ waits o q3 = true)
    (h6 : ∃ o x y, ops[p6]? = some o ∧ o.guard = none ∧ o.op = .call { callee := .builtin .append, args := #[.tmp x, .tmp y], argTypes := #[27, 27] } ∧ ds[p3]? = some (some x) ∧ ds[q6]? = some (some y) ∧ waits o p3 = true ∧ waits o q6 = true)
    (hA : q3 ∉ [p0, p3, p6, p7, p8, p5] ∧ ∀ v, Res q3 v → ∃ a c, v = .slice a A.length c ∧ RowN (NIn W d) W a A)
    (hB : (q6 ∉ [p0, p3, p6, p7, p8, p5] ∧ ∀ v, Res q6 v → ∃ a c, v = .slice a B.length c ∧ RowN (NIn W d) W a B) ∨ (q6 = p5 ∧ ∃ f, B = [f] ∧ NIn W d fcs.toList f))
    (h7 : ∃ o x, ops[p7]? = some o ∧ o.guard = none ∧ ds[p6]? = some (some x) ∧ waits o p6 = true ∧ ∀ (D : Nat → Prop) (vs : List Value) a w (K : Act → World → Prop) ad m c, Agr (ds.filterMap id) a0 a → (∀ j, D j → j ∉ [p0, p3, p6, p7, p8, p5] → Res j (vs.getD j undef)) → (∀ j d, ds[j]? = some (some d) → D j → a.tmps.getD d undef = vs.getD j undef) → (∀ e ∈ o.after, Region.binds .any e = true → D e.on) → a.tmps.getD x undef = .slice ad m c → K (a.put o.dst (mk (.slice ad m c))) w → o.wp Tryd.prog a w K Q)
    (h5 : ∀ o, ops[p5]? = some o → o.guard = none ∧ ∀ (D : Nat → Prop) (vs : List Value) a w (K : Act → World → Prop), Agr (ds.filterMap id) a0 a → Upd [] W w → (∀ j, D j → j ∉ [p0, p3, p6, p7, p8, p5] → Res j (vs.getD j undef)) → (∀ j d, ds[j]? = some (some d) → D j → a.tmps.getD d undef = vs.getD j undef) → (∀ e ∈ o.after, Region.binds .any e = true → D e.on) → K (a.put o.dst (.slice (some ⟨w.heap.size, 0, none⟩) 1 1)) (w.alloc (.cells fcs 29)) → o.wp Tryd.prog a w K Q)
    (hpure : ∀ (D : Nat → Prop) (vs : List Value) a w i o, Agr (ds.filterMap id) a0 a → Upd [] W w → (∀ j, D j → j ∉ [p0, p3, p6, p7, p8, p5] → Res j (vs.getD j undef)) → (∀ j d, ds[j]? = some (some d) → D j → a.tmps.getD d undef = vs.getD j undef) → i < n → i ∉ [p0, p3, p6, p7, p8, p5] → ops[i]? = some o → (∀ e ∈ o.after, Region.binds .any e = true → D e.on) →
      wpOp Tryd.prog ops Q i (fun a' w' => ∃ v, a' = a.put o.dst v ∧ Res i v ∧ w' = w) a w)
    (hlast : ∀ (vs : List Value) a w o g ad m c, vs.length = n + 1 → Agr (ds.filterMap id) a0 a → Upd [] W w → (∀ j d, ds[j]? = some (some d) → j < n → a.tmps.getD d undef = vs.getD j undef) → vs.getD p8 undef = .pointer (some ⟨g, 0, none⟩) → vs.getD p7 undef = mk (.slice ad m c) → W.heap.size ≤ g → Tb w g #[.int .u8 0, .string ⟨#[]⟩, .int .i64 0, .int .i64 0, .slice none 0 0] → (∀ w', Upd [g] w w' → Upd [] W w' ∧ OwnK d W w' (.slice ad m c) (A ++ B)) → ops[n]? = some o →
      wpOp Tryd.prog ops Q n (fun a' w' => ∃ v, a' = a.put o.dst v ∧ Q .normal (putAll a0 ds (vs.set n v)) w') a w) :
    (Code.region rid ops true).wp Tryd.prog Q a0 w0 := by
  obtain ⟨l0, l3, l6, l7, l8⟩ := hpn
  have hp' := hp
  simp only [List.nodup_cons, List.mem_cons, List.not_mem_nil, or_false, not_or] at hp'
  obtain ⟨⟨n03, n06, n07, n08, n05⟩, ⟨n36, n37, n38, n35⟩, ⟨n67, n68, n65⟩, ⟨n78, n75⟩, n85, _⟩ := hp'
  refine region_lastJ hm n hn ds hds hd hz hlow hla (fun L vs w => ApJ d W A B fcs mk (L.getD p0 false) (L.getD p3 false) (L.getD p6 false) (L.getD p7 false) (L.getD p8 false) (L.getD p5 false) (vs.getD p0 undef) (vs.getD p3 undef) (vs.getD p6 undef) (vs.getD p7 undef) (vs.getD p8 undef) (vs.getD p5 undef) w ∧ ∀ j, L[j]? = some true → j ∉ [p0, p3, p6, p7, p8, p5] → Res j (vs.getD j undef)) ⟨?_, fun j hj => ?_⟩ ?_ ?_
  · have hf : ∀ p, (List.replicate (n + 1) false).getD p false = false := fun p => by
      rw [List.getD_eq_getElem?_getD, List.getElem?_replicate]
      split <;> rfl
    simp only [hf]
    exact ApJ.new d W A B fcs mk _ hU0.drew
  · rw [List.getElem?_replicate] at hj
    split at hj <;> cases hj
  · rintro L vs a w i o hL hv hagr ⟨hJ, hRes⟩ hS hi hun ho haf
    have hRes' : ∀ v, i ∈ [p0, p3, p6, p7, p8, p5] → ∀ j, (L.set i true)[j]? = some true → j ∉ [p0, p3, p6, p7, p8, p5] → Res j ((vs.set i v).getD j undef) := fun v hin j hj hnj => by
      have hne : i ≠ j := fun e => hnj (e ▸ hin)
      rw [List.getElem?_set_ne hne] at hj
      rw [getS_ne hne]
      exact hRes j hj hnj
    have hiL : i < L.length := by omega
    have hiV : i < vs.length := by omega
    have hbf := getF hun
    by_cases e0 : i = p0
    · subst e0
      obtain ⟨o', ho', hg', hop⟩ := h0
      rw [ho] at ho'; cases ho'
      rw [hbf] at hJ
      refine ops_wp ho hg' (wp_bs0 hop ⟨_, rfl, ?_, hRes' _ (by simp)⟩)
      rw [getS_eq hiL, getV_eq hiV]
      simp only [getS_ne n03, getS_ne n06, getS_ne n07, getS_ne n08, getS_ne n05]
      exact hJ.first
    by_cases e3 : i = p3
    · subst e3
      obtain ⟨o', x, y, ho', hg', hop, hx, hy, w0', w3'⟩ := h3
      rw [ho] at ho'; cases ho'
      have D0 : L[p0]? = some true := waits_done (D := fun j => L[j]? = some true) w0' haf
      have D3 : L[q3]? = some true := waits_done (D := fun j => L[j]? = some true) w3' haf
      obtain ⟨a1, c1, ev, hrow⟩ := hA.2 _ (hRes q3 D3 hA.1)
      rw [hbf, getT D0] at hJ
      obtain ⟨v, w', hrun, hJ'⟩ := hJ.one a1 c1 o.type (hrow.imp hJ.u fun _ _ h => h) hAB
      refine ops_wp ho hg' (wp_app _ _ hop _ _ v w' (hS p0 x hx D0) ((hS q3 y hy D3).trans ev) hrun ⟨_, rfl, ?_, hRes' _ (by simp)⟩)
      rw [getS_eq hiL, getV_eq hiV]
      simp only [getS_ne (Ne.symm n03), getS_ne n36, getS_ne n37, getS_ne n38, getS_ne n35]
      rw [getT D0]
      exact hJ'
    by_cases e6 : i = p6
    · subst e6
      obtain ⟨o', x, y, ho', hg', hop, hx, hy, w0', w3'⟩ := h6
      rw [ho] at ho'; cases ho'
      have D0 : L[p3]? = some true := waits_done (D := fun j => L[j]? = some true) w0' haf
      have D3 : L[q6]? = some true := waits_done (D := fun j => L[j]? = some true) w3' haf
      rw [hbf, getT D0] at hJ
      obtain ⟨a1, c1, ev, hrow⟩ : ∃ a c, vs.getD q6 undef = .slice a B.length c ∧ RowN (NIn W d) w a B := by
        rcases hB with ⟨hq, hB⟩ | ⟨hq, f, hBf, hin⟩
        · obtain ⟨a1, c1, ev, hrow⟩ := hB _ (hRes q6 D3 hq)
          exact ⟨a1, c1, ev, hrow.imp hJ.u fun _ _ h => h⟩
        · rw [hq] at D3 ⊢
          obtain ⟨g, e5, hg, ht, _⟩ := hJ.r5 (getT D3)
          rw [hBf]
          refine ⟨_, _, e5, Or.inr ⟨g, 0, rfl, ht.lt, fun q hq => ?_⟩⟩
          have : q = 0 := by simpa using hq
          subst this
          refine ⟨fcs.toList, hin.len, fun j hj => ?_, hin⟩
          rw [Array.getElem?_toList, Nat.zero_add, Nat.zero_mul, Nat.zero_add]
          exact ht.cell j
      obtain ⟨v, w', hrun, hJ'⟩ := hJ.two a1 c1 o.type hrow hAB
      refine ops_wp ho hg' (wp_app _ _ hop _ _ v w' (hS p3 x hx D0) ((hS q6 y hy D3).trans ev) hrun ⟨_, rfl, ?_, hRes' _ (by simp)⟩)
      rw [getS_eq hiL, getV_eq hiV]
      simp only [getS_ne (Ne.symm n06), getS_ne (Ne.symm n36), getS_ne n67, getS_ne n68, getS_ne n65]
      rw [getT D0]
      exact hJ'
    by_cases e7 : i = p7
    · subst e7
      obtain ⟨o', x, ho', hg', hx, w6', hwp⟩ := h7
      rw [ho] at ho'; cases ho'
      have D6 : L[p6]? = some true := waits_done (D := fun j => L[j]? = some true) w6' haf
      rw [getT D6] at hJ
      obtain ⟨ad, m, c, e6v⟩ := hJ.s6 rfl
      refine ops_wp ho hg' (hwp (fun j => L[j]? = some true) vs a w _ ad m c hagr hRes hS haf ((hS p6 x hx D6).trans e6v) ⟨_, rfl, ?_, hRes' _ (by simp)⟩)
      rw [getS_eq hiL, getV_eq hiV]
      simp only [getS_ne (Ne.symm n07), getS_ne (Ne.symm n37), getS_ne (Ne.symm n67), getS_ne n78, getS_ne n75]
      rw [getT D6, ← e6v]
      exact hJ.built
    by_cases e8 : i = p8
    · subst e8
      obtain ⟨o', ho', hg', hop⟩ := h8
      rw [ho] at ho'; cases ho'
      rw [hbf] at hJ
      refine ops_wp ho hg' (wp_allocN hop ⟨_, rfl, ?_, hRes' _ (by simp)⟩)
      rw [getS_eq hiL, getV_eq hiV]
      simp only [getS_ne (Ne.symm n08), getS_ne (Ne.symm n38), getS_ne (Ne.symm n68), getS_ne (Ne.symm n78), getS_ne n85]
      exact hJ.block
    by_cases e5 : i = p5
    · subst e5
      obtain ⟨hg', hwp⟩ := h5 o ho
      rw [hbf] at hJ
      refine ops_wp ho hg' (hwp (fun j => L[j]? = some true) vs a w _ hagr hJ.u hRes hS haf ⟨_, rfl, ?_, hRes' _ (by simp)⟩)
      rw [getS_eq hiL, getV_eq hiV]
      simp only [getS_ne (Ne.symm n05), getS_ne (Ne.symm n35), getS_ne (Ne.symm n65), getS_ne (Ne.symm n75), getS_ne (Ne.symm n85)]
      exact hJ.row
    have hni : i ∉ [p0, p3, p6, p7, p8, p5] := by simp [e0, e3, e6, e7, e8, e5]
    refine wpOp_mono ?_ (hpure (fun j => L[j]? = some true) vs a w i o hagr hJ.u hRes hS hi hni ho haf)
    rintro a' w' ⟨v, ha, hr, rfl⟩
    refine ⟨v, ha, ?_, fun j hj hnj => ?_⟩
    · simp only [getS_ne e0, getS_ne e3, getS_ne e6, getS_ne e7, getS_ne e8, getS_ne e5]
      exact hJ
    · by_cases e : i = j
      · subst e
        rw [getV_eq hiV]
        exact hr
      · rw [List.getElem?_set_ne e] at hj
        rw [getS_ne e]
        exact hRes j hj hnj
  · rintro L vs a w o hv hagr ⟨hJ, hRes⟩ hall hun hS ho
    rw [getT (hall p3 l3), getT (hall p6 l6), getT (hall p7 l7), getT (hall p8 l8)] at hJ
    obtain ⟨g, ad, m, c, e8, e7, hg, ht, hk⟩ := hJ.last
    exact hlast vs a w o g ad m c hv hagr hJ.u hS e8 e7 hg ht hk ho

end Go.Proofs.YtpgjcedonimgnaaDoor

/- A right function's number of parameters. -/
namespace Go.Proofs.YtpgjcedonimgnaaDoor
open Go.RowKit

theorem len_man : ∀ K : List Nd, K.length ≤ manR K
  | [] => by simp [manR]
  | .mk k s n p L :: K => by rw [manR, manN, List.length_cons]; have := len_man K; omega
theorem par_man (K : List Nd) : parB K ≤ manR K := by
  match K with
  | [] => simp [parB]
  | .mk _ _ _ _ [] :: K => simp [parB]
  | .mk _ _ _ _ (p :: q) :: K =>
    obtain ⟨k, s, n, o, L⟩ := p
    have := len_man L
    simp only [parB, Nd.kids, manR, manN]
    omega
theorem fun_num {f : Nd} (h : isB 2 f = true) : 0 ≤ f.num ∧ f.num ≤ (manN f : Nat) := by
  obtain ⟨k, s, num, pos, K⟩ := f
  rw [isB] at h
  cases hf : formAt k 2 with
  | none => rw [hf] at h; cases h
  | some g =>
    rw [hf] at h
    simp only [Bool.and_eq_true] at h
    obtain ⟨_, _, hfl⟩ := h
    obtain ⟨hg1, hg2, hg3⟩ := form_of hf
    have h2 : g.ro = 2 := by rw [hg2]; simp
    have hk : k = 21 := by
      rw [← hg3]
      have : ∀ g ∈ formsL, g.ro = 2 → g.kd = 21 := by decide
      exact this g hg1 h2
    subst hk
    have hn : num = (parB K : Nat) := by
      simp [fldB, nmB] at hfl
      exact hfl.2.2
    have := par_man K
    show 0 ≤ num ∧ num ≤ (manN (.mk 21 s num pos K) : Nat)
    rw [manN, hn]
    omega
/-- A row's node, as it stands there. -/
theorem row_split {K : List Nd} {k : Nat} (h : k < K.length) : K = K.take k ++ K[k] :: K.drop (k + 1) := by
  rw [← List.drop_eq_getElem_cons h, List.take_append_drop]
theorem calB_mod {s : ByteArray} {n pos : Int} {K : List Nd} : calB s n (.mk 22 ⟨#[]⟩ 0 pos K) = calBs s n K := by
  rw [calB]
  simp

end Go.Proofs.YtpgjcedonimgnaaDoor
