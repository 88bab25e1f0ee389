/- Worlds, and blocks of nodes. -/
import Derived.Test.YtpgjcedonimgnaaDoorProg
import Derived.KernelRfl
import Derived.WalkKit
import Derived.WalkSpells
import Derived.WalkLawsBesides
import Derived.Laws.EntriesVeiled
import Derived.Orders

namespace Go.Proofs.YtpgjcedonimgnaaDoor
open Go.RowKit

/-- Nothing that was there has turned but in the blocks that are named; there may be new ones. -/
structure Upd (S : List Nat) (w w' : World) : Prop where
  os : w'.os = w.os
  tape : w'.tape = w.tape
  output : w'.output = w.output
  size : w.heap.size ≤ w'.heap.size
  block : ∀ k, k < w.heap.size → k ∉ S → w'.heap[k]? = w.heap[k]?

theorem Upd.refl (S : List Nat) (w : World) : Upd S w w := ⟨rfl, rfl, rfl, Nat.le_refl _, fun _ _ _ => rfl⟩
theorem Upd.trans {S : List Nat} {a b c : World} (h : Upd S a b) (k : Upd S b c) : Upd S a c :=
  ⟨k.os.trans h.os, k.tape.trans h.tape, k.output.trans h.output, Nat.le_trans h.size k.size, fun i hi hn => (k.block i (Nat.lt_of_lt_of_le hi h.size) hn).trans (h.block i hi hn)⟩
/-- A second step whose blocks lie beyond what the first one began with, or are among the first one's. -/
theorem Upd.then {S U : List Nat} {a b c : World} (h : Upd S a b) (k : Upd U b c) (hU : ∀ x, x ∈ U → a.heap.size ≤ x ∨ x ∈ S) : Upd S a c :=
  ⟨k.os.trans h.os, k.tape.trans h.tape, k.output.trans h.output, Nat.le_trans h.size k.size, fun i hi hn =>
    (k.block i (Nat.lt_of_lt_of_le hi h.size) (fun hm => by rcases hU i hm with h1 | h1; · omega
                                                            · exact hn h1)).trans (h.block i hi hn)⟩
theorem Upd.drew {S : List Nat} {a b : World} (h : Upd S a b) : Upd S a b.drew := ⟨h.os, h.tape, h.output, h.size, h.block⟩
theorem Upd.drewN {S : List Nat} {a b : World} (h : Upd S a b) (n : Nat) : Upd S a (b.drewN n) := ⟨h.os, h.tape, h.output, h.size, h.block⟩
theorem Upd.alloc {S : List Nat} {a b : World} (h : Upd S a b) (o : Obj) : Upd S a (b.alloc o) :=
  h.trans ⟨rfl, rfl, rfl, by simp, fun k hk _ => Below.heap_alloc _ _ _ hk⟩
theorem Upd.setCell {S : List Nat} {a b : World} (h : Upd S a b) {p : Addr} (hp : a.heap.size ≤ p.block ∨ p.block ∈ S) (u : Value) : Upd S a (b.setCell p u) :=
  ⟨h.os, h.tape, h.output, by rw [World.size_setCell]; exact h.size, fun k hk hn => by
    rw [Below.heap_setCell _ _ _ _ (fun e => by rcases hp with h1 | h1
                                                · omega
                                                · exact hn (e ▸ h1))]; exact h.block k hk hn⟩
theorem Upd.grown {S : List Nat} {a b c : World} {row : Option Nat} (h : Upd S a b) (hg : b.grownBy c row) (hr : ∀ k, row = some k → a.heap.size ≤ k ∨ k ∈ S) : Upd S a c :=
  ⟨hg.os.trans h.os, hg.tape.trans h.tape, hg.output.trans h.output, Nat.le_trans h.size hg.size, fun k hk hn =>
    (hg.block k (Nat.lt_of_lt_of_le hk h.size) (fun e => by rcases hr k e.symm with h1 | h1
                                                            · omega
                                                            · exact hn h1)).trans (h.block k hk hn)⟩
theorem Upd.below {w w' : World} (h : Upd [] w w') : Below w.heap.size w w' := ⟨h.os, h.tape, h.output, h.size, fun k hk => h.block k hk (by simp)⟩
theorem Upd.cell {S : List Nat} {w w' : World} (h : Upd S w w') {p : Addr} (hp : p.block < w.heap.size) (hn : p.block ∉ S) : w'.cell? p = w.cell? p := World.cell?_of_block (w := w) (h.block p.block hp hn)

theorem info_term : (Tryd.prog.info? 29).map (·.size) = some 5 := by kernel_rfl
theorem agg_term : (match (Tryd.prog.underlying 29) with | some (.struct _) => true | _ => false) = true := by kernel_rfl

theorem term_desc : ∃ fs, Tryd.prog.underlying 29 = some (.struct fs) := by
  have h := agg_term
  revert h
  cases hq : Tryd.prog.underlying 29 with
  | none => intro h; simp at h
  | some d =>
    intro h
    cases d <;> simp_all

/-- A block that holds a term. -/
def Tb (w : World) (g : Nat) (cs : Array Value) : Prop := w.heap[g]? = some (.cells cs 29 (0, 0))
theorem Tb.lt {w : World} {g : Nat} {cs : Array Value} (h : Tb w g cs) : g < w.heap.size := lt_of_block h
theorem Tb.mono {S : List Nat} {w w' : World} {g : Nat} {cs : Array Value} (h : Tb w g cs) (hu : Upd S w w') (hn : g ∉ S) : Tb w' g cs := (hu.block g h.lt hn).trans h
theorem Tb.new (w : World) (cs : Array Value) (g : Nat) (h : g = w.heap.size) : Tb (w.alloc (.cells cs 29)) g cs := by
  subst h; exact heap_alloc_new w _
theorem Tb.old {w : World} {g : Nat} {cs : Array Value} (h : Tb w g cs) (o : Obj) : Tb (w.alloc o) g cs := (Below.heap_alloc w o g h.lt).trans h
theorem Tb.cell {w : World} {g : Nat} {cs : Array Value} (h : Tb w g cs) (i : Nat) : w.cell? ⟨g, i, none⟩ = cs[i]? := cell_of_row w g i _ _ _ h

theorem setRow_upd (w : World) (g : Nat) (cs : Array Value) : Upd [g] w (w.setRow g cs) :=
  ⟨rfl, rfl, rfl, by simp, fun k _ hn => by
    have : g ≠ k := fun e => hn (by simp [e])
    simp only [World.setRow, Array.getElem?_modify]
    rw [if_neg this]⟩
theorem setRow_tb {w : World} {g : Nat} {old : Array Value} (h : Tb w g old) (cs : Array Value) : Tb (w.setRow g cs) g cs := by
  unfold Tb at *
  simp only [World.setRow, Array.getElem?_modify, if_true, h]
  rfl

/-- A whole term is stored into a block of the call's own. -/
theorem store_T (w : World) {ops : Array Oper} {rest : List Oper} {o : Oper} {a : Act} {Q : Exit → Act → World → Prop} (hgd : o.guard = none) (x y : Operand) (ho : o.op = .store 29 x y)
    (g : Nat) (cells old : Array Value) (hx : a.eval x = .pointer (some ⟨g, 0, none⟩)) (hy : a.eval y = .agg cells) (hg : Tb w g old) (hold : old.size = 5) (hc : cells.size = 5) (h1 : cells.all (·.oneCell') = true)
    (h : ∀ w', Tb w' g cells → Upd [g] w w' → wpList Tryd.prog ops Q rest (a.put o.dst undef) w') : wpList Tryd.prog ops Q (o :: rest) a w :=
  wpList_store_row hgd 29 x y ho g cells hx hy 29 old hg (by rw [info_term, hc]) (by omega) h1 (h _ (setRow_tb hg cells) (setRow_upd w g cells))

theorem load_T (w : World) {ops : Array Oper} {rest : List Oper} {o : Oper} {a : Act} {Q : Exit → Act → World → Prop} (hgd : o.guard = none) (x : Operand) (ho : o.op = .load 29 x)
    (g : Nat) (cs : Array Value) (hx : a.eval x = .pointer (some ⟨g, 0, none⟩)) (hg : Tb w g cs) (hc : cs.size = 5)
    (h : wpList Tryd.prog ops Q rest (a.put o.dst (.agg cs)) w) : wpList Tryd.prog ops Q (o :: rest) a w := by
  obtain ⟨fs, h1⟩ := term_desc
  exact wpList_load_row hgd 29 x ho g hx 29 cs (0, 0) _ hg h1 rfl (by rw [info_term, hc]) h

theorem load_run (w : World) (g : Nat) (cs : Array Value) (hg : Tb w g cs) (hc : cs.size = 5) : (loadVar 29 ⟨g, 0, none⟩).run Tryd.prog w = .ok (.agg cs) w := by
  obtain ⟨fs, h1⟩ := term_desc
  exact run_loadVar_row w g 29 29 cs (0, 0) _ hg h1 rfl (by rw [info_term, hc])

/-- A term is handed back. -/
theorem ret_T {fn : Func} {R : Ending → World → Prop} {a : Act} {w : World} {p : Tmp} (h : fn.results = #[.cell p 29]) (hd : a.defers = []) (g : Nat) (cs : Array Value)
    (hp : a.tmps.getD p undef = .pointer (some ⟨g, 0, none⟩)) (hg : Tb w g cs) (hc : cs.size = 5) (hR : R (.returned (.agg cs)) w) : bodyPost Tryd.prog fn R .ret a w := by
  obtain ⟨fs, h1⟩ := term_desc
  exact bodyPost_ret (results_cell_row h a.tmps w g 29 cs (0, 0) _ hp hg h1 rfl (by rw [info_term, hc])) hd hR

/-- A term and a word more. -/
theorem ret_Tb {fn : Func} {R : Ending → World → Prop} {a : Act} {w : World} {p u : Tmp} (h : fn.results = #[.cell p 29, .tmp u]) (hd : a.defers = []) (g : Nat) (cs : Array Value) (v : Value)
    (hp : a.tmps.getD p undef = .pointer (some ⟨g, 0, none⟩)) (hg : Tb w g cs) (hc : cs.size = 5) (hu : a.tmps.getD u undef = v) (hR : R (.returned (.tuple #[.agg cs, v])) w) : bodyPost Tryd.prog fn R .ret a w := by
  refine bodyPost_ret (v := .tuple #[.agg cs, v]) ?_ hd hR
  rw [results_cell_tmp h, hp, hu]
  simp only [asAddr, Sem.run_pure, Result.andThen_ok, load_run w g cs hg hc]

/-- Two terms and a word more. -/
theorem ret_TTb {fn : Func} {R : Ending → World → Prop} {a : Act} {w : World} {p q u : Tmp} (h : fn.results = #[.cell p 29, .cell q 29, .tmp u]) (hd : a.defers = []) (g g2 : Nat) (cs cs2 : Array Value) (v : Value)
    (hp : a.tmps.getD p undef = .pointer (some ⟨g, 0, none⟩)) (hg : Tb w g cs) (hc : cs.size = 5) (hq : a.tmps.getD q undef = .pointer (some ⟨g2, 0, none⟩)) (hg2 : Tb w g2 cs2) (hc2 : cs2.size = 5)
    (hu : a.tmps.getD u undef = v) (hR : R (.returned (.tuple #[.agg cs, .agg cs2, v])) w) : bodyPost Tryd.prog fn R .ret a w := by
  refine bodyPost_ret (v := .tuple #[.agg cs, .agg cs2, v]) ?_ hd hR
  have hp' : a.tmps[p]?.getD undef = .pointer (some ⟨g, 0, none⟩) := by simpa using hp
  have hq' : a.tmps[q]?.getD undef = .pointer (some ⟨g2, 0, none⟩) := by simpa using hq
  have hu' : a.tmps[u]?.getD undef = v := by simpa using hu
  simp [results, h, hp', hq', hu', asAddr, load_run w g cs hg hc, load_run w g2 cs2 hg2 hc2]

theorem load_G (w : World) {ops : Array Oper} {rest : List Oper} {o : Oper} {a : Act} {Q : Exit → Act → World → Prop} (x : Operand) (ho : o.op = .load 29 x)
    (g : Nat) (cs : Array Value) (hx : a.eval x = .pointer (some ⟨g, 0, none⟩)) (hg : Tb w g cs) (hc : cs.size = 5) (hw : Region.wanted o (yielded ops a.tmps) = true)
    (h : wpList Tryd.prog ops Q rest (a.put o.dst (.agg cs)) w) : wpList Tryd.prog ops Q (o :: rest) a w := by
  obtain ⟨fs, h1⟩ := term_desc
  refine wpList_step fun K hK => ?_
  rw [if_pos hw]
  exact wp_load_row 29 x ho g hx 29 cs (0, 0) _ hg h1 rfl (by rw [info_term, hc]) (hK _ _ h)
theorem Tb.set {w : World} {g : Nat} {cs : Array Value} (h : Tb w g cs) (i : Nat) (v : Value) : Tb (w.setCell ⟨g, i, none⟩ v) g (cs.setIfInBounds i v) := by
  unfold Tb
  rw [heap_setCell_same w g i _ _ _ h]
theorem Tb.free {w : World} {g : Nat} {cs : Array Value} (h : Tb w g cs) (i : Nat) : w.frozen? ⟨g, i, none⟩ = false := frozen_of_row w g i _ _ h
theorem Tb.other {w : World} {g : Nat} {cs : Array Value} (h : Tb w g cs) (a : Addr) (ha : a.block ≠ g) (u : Value) : Tb (w.setCell a u) g cs := by
  unfold Tb
  rw [heap_setCell_other _ _ _ _ (fun e => ha e.symm)]; exact h

def IntB (w : World) (b : Nat) (n : Int) : Prop := w.heap[b]? = some (.cells #[.int .i64 n] 3 (0, 0))
theorem IntB.lt {w : World} {b : Nat} {n : Int} (h : IntB w b n) : b < w.heap.size := lt_of_block h
theorem IntB.cell {w : World} {b : Nat} {n : Int} (h : IntB w b n) : w.cell? ⟨b, 0, none⟩ = some (.int .i64 n) := cell_of_row w b 0 _ _ _ h
theorem IntB.free {w : World} {b : Nat} {n : Int} (h : IntB w b n) : w.frozen? ⟨b, 0, none⟩ = false := frozen_of_row w b 0 _ _ h
theorem IntB.set {w : World} {b : Nat} {n : Int} (h : IntB w b n) (m : Int) : IntB (w.setCell ⟨b, 0, none⟩ (.int .i64 m)) b m := by
  unfold IntB
  rw [heap_setCell_same w b 0 _ _ _ h]
  rfl
theorem IntB.mono {S : List Nat} {w w' : World} {b : Nat} {n : Int} (h : IntB w b n) (hu : Upd S w w') (hn : b ∉ S) : IntB w' b n := (hu.block b h.lt hn).trans h
def FunB (w : World) (b : Nat) (v : Value) (T : TypeId) : Prop := w.heap[b]? = some (.cells #[v] T (0, 0))
theorem FunB.lt {w : World} {b : Nat} {v : Value} {T : TypeId} (h : FunB w b v T) : b < w.heap.size := lt_of_block h
theorem FunB.cell {w : World} {b : Nat} {v : Value} {T : TypeId} (h : FunB w b v T) : w.cell? ⟨b, 0, none⟩ = some v := cell_of_row w b 0 _ _ _ h
theorem FunB.mono {S : List Nat} {w w' : World} {b : Nat} {v : Value} {T : TypeId} (h : FunB w b v T) (hu : Upd S w w') (hn : b ∉ S) : FunB w' b v T := (hu.block b h.lt hn).trans h

theorem IntB.new (w : World) (n : Int) (g : Nat) (h : g = w.heap.size) : IntB (w.alloc (.cells #[.int .i64 n] 3)) g n := by subst h; exact heap_alloc_new w _
theorem FunB.new (w : World) (v : Value) (T : TypeId) (g : Nat) (h : g = w.heap.size) : FunB (w.alloc (.cells #[v] T)) g v T := by subst h; exact heap_alloc_new w _
theorem FunB.set {w : World} {b : Nat} {v : Value} {T : TypeId} (h : FunB w b v T) (u : Value) : FunB (w.setCell ⟨b, 0, none⟩ u) b u T := by
  unfold FunB
  rw [heap_setCell_same w b 0 _ _ _ h]
  rfl
theorem FunB.free {w : World} {b : Nat} {v : Value} {T : TypeId} (h : FunB w b v T) : w.frozen? ⟨b, 0, none⟩ = false := frozen_of_row w b 0 _ _ h
theorem FunB.ne {w : World} {b b' : Nat} {v v' : Value} {T T' : TypeId} (h : FunB w b v T) (h' : FunB w b' v' T') (hT : T ≠ T') : b ≠ b' := fun e => by
  subst e
  have := h.symm.trans h'
  simp at this
  exact hT this.2
theorem IntB.fun {w : World} {b : Nat} {n : Int} (h : IntB w b n) : FunB w b (.int .i64 n) 3 := h

end Go.Proofs.YtpgjcedonimgnaaDoor

/- Regions that draw their order, by an invariant over what has come up. -/
namespace Go.Proofs.YtpgjcedonimgnaaDoor
open Go.RowKit

/-- How many have not come up. -/
def falses : List Bool → Nat
  | [] => 0
  | b :: l => (if b then 0 else 1) + falses l

theorem falses_set : ∀ (l : List Bool) (i : Nat), l[i]? = some false → falses (l.set i true) + 1 = falses l
  | [], i, h => by simp at h
  | b :: l, 0, h => by simp at h; subst h; simp [falses]; omega
  | b :: l, i + 1, h => by
    have := falses_set l i (by simpa using h)
    simp only [List.set_cons_succ, falses]
    omega

section
variable {P : Program} {ops : Array Oper} {Q : Exit → Act → World → Prop} {md : Region.Mode}

/-- An invariant over what has come up. -/
theorem wpAny_inv (I : Array Bool → Act → World → Prop)
    (hstep : ∀ L a w, I L a w → ∀ i, i ∈ Region.ready md ops L → wpOp P ops Q i (I (L.setIfInBounds i true)) a w)
    (hend : ∀ L a w, I L a w → Region.ready md ops L = [] → Q .normal a w) :
    ∀ (fuel : Nat) (L : Array Bool) (a : Act) (w : World), I L a w → falses L.toList ≤ fuel → wpAny P md ops Q fuel L a w := by
  intro fuel
  induction fuel with
  | zero =>
    intro L a w h hf
    have hr : Region.ready md ops L = [] := by
      cases hr : Region.ready md ops L with
      | nil => rfl
      | cons i r =>
        exfalso
        have hi : i ∈ Region.ready md ops L := by rw [hr]; exact List.mem_cons_self
        have h1 := (mem_ready.1 hi).1
        have h2 : L.toList[i]? = some false := by
          rw [Array.getElem?_toList]
          by_cases hlt : i < L.size
          · rw [Array.getD_eq_getD_getElem?, Array.getElem?_eq_getElem hlt] at h1
            rw [Array.getElem?_eq_getElem hlt]
            simpa using h1
          · rw [Array.getD_eq_getD_getElem?, Array.getElem?_eq_none (by omega)] at h1
            simp at h1
        have := falses_set _ _ h2
        omega
    exact ⟨hr, hend L a w h hr⟩
  | succ fuel ih =>
    intro L a w h hf
    refine ⟨fun hr => hend L a w h hr, fun i hi => wpOp_mono (fun a' w' h' => ih _ a' w' h' ?_) (hstep L a w h i hi)⟩
    have h1 := (mem_ready.1 hi).1
    have h2 : L.toList[i]? = some false := by
      rw [Array.getElem?_toList]
      by_cases hlt : i < L.size
      · rw [Array.getD_eq_getD_getElem?, Array.getElem?_eq_getElem hlt] at h1
        rw [Array.getElem?_eq_getElem hlt]
        simpa using h1
      · rw [Array.getD_eq_getD_getElem?, Array.getElem?_eq_none (by omega)] at h1
        simp at h1
    have := falses_set _ _ h2
    rw [Array.toList_setIfInBounds]
    omega
end

/-- Two frames that agree but in these slots. -/
structure Agr (S : List Nat) (a b : Act) : Prop where
  def' : b.defers = a.defers
  size : b.tmps.size = a.tmps.size
  ev : ∀ t, t ∉ S → b.tmps.getD t undef = a.tmps.getD t undef

theorem ev_put (a : Act) (t t' : Nat) (v : Value) : (a.put (some t) v).tmps.getD t' undef = if t = t' ∧ t < a.tmps.size then v else a.tmps.getD t' undef := by
  unfold Act.put
  simp only [Array.getD_eq_getD_getElem?, Array.getElem?_setIfInBounds]
  by_cases h : t = t'
  · subst h
    by_cases h2 : t < a.tmps.size
    · simp [h2]
    · simp [h2]
  · simp [h]
theorem size_put (a : Act) (t : Nat) (v : Value) : (a.put (some t) v).tmps.size = a.tmps.size := by simp [Act.put]
theorem Agr.put {S : List Nat} {a b : Act} (h : Agr S a b) {t : Nat} (ht : t ∈ S) (v : Value) : Agr S a (b.put (some t) v) :=
  ⟨h.def', by rw [size_put]; exact h.size, fun u hu => by
    rw [ev_put, if_neg (fun (e : t = u ∧ t < b.tmps.size) => hu (e.1 ▸ ht))]; exact h.ev u hu⟩
theorem Act.same {a b : Act} (hd : b.defers = a.defers) (hs : b.tmps.size = a.tmps.size) (h : ∀ t, b.tmps.getD t undef = a.tmps.getD t undef) : b = a := by
  obtain ⟨x, y⟩ := a
  obtain ⟨x', y'⟩ := b
  simp only at hd hs h
  subst hd
  congr 1
  refine Array.ext hs fun i h1 h2 => ?_
  have := h i
  simp only [Array.getD_eq_getD_getElem?, Array.getElem?_eq_getElem h1, Array.getElem?_eq_getElem h2] at this
  simpa using this

theorem ops_wp {P : Program} {ops : Array Oper} {Q : Exit → Act → World → Prop} {i : Nat} {K : Act → World → Prop} {a : Act} {w : World} {o : Oper} (ho : ops[i]? = some o) (hg : o.guard = none) (h : o.wp P a w K Q) : wpOp P ops Q i K a w := by
  unfold wpOp
  simp only [ho, Region.wanted, hg, if_true]
  exact Or.inl h
theorem wp_call' {o : Oper} {a : Act} {w : World} {K : Act → World → Prop} {Q : Exit → Act → World → Prop} {f s : Nat} {ats : Array TypeId} (ho : o.op = .call { callee := .value (.func f), args := #[.tmp s], argTypes := ats })
    (eg : ∀ args w, (callFunc f args).run Tryd.prog w = .ok (.enter f args) w) {v : Value} (hv : a.tmps.getD s undef = v) {R : Value → World → Prop} (hc : Calls Tryd.prog f #[v] w fun e w' => ∃ u, e = .returned u ∧ R u w') (h : ∀ u w', R u w' → K (a.put o.dst u) w') : o.wp Tryd.prog a w K Q := by
  unfold Oper.wp execOp
  have e : a.eval (.tmp s) = v := hv
  simp [ho, resolve, Deferred.ofValue, invoke, Act.eval, hv, eg, Oper.upon]
  refine hc.mono ?_
  rintro e w' ⟨u, rfl, hR⟩
  exact h u w' hR

/-- What the slots of a region hold: those that have come up their values, all others what they had. -/
structure Sl (a0 : Act) (ds : List (Option Nat)) (L : List Bool) (vs : List Value) (a : Act) : Prop where
  agr : Agr (ds.filterMap id) a0 a
  at' : ∀ i d, ds[i]? = some (some d) → L[i]? = some true → a.tmps.getD d undef = vs.getD i undef

theorem far_ne {ds : List (Option Nat)} (hd : ds.Pairwise fun a b => a = none ∨ a ≠ b) {i j d d' : Nat} (hi : ds[i]? = some (some d)) (hj : ds[j]? = some (some d')) (h : i ≠ j) : d ≠ d' := by
  intro e
  subst e
  obtain ⟨h1, e1⟩ := List.getElem?_eq_some_iff.1 hi
  obtain ⟨h2, e2⟩ := List.getElem?_eq_some_iff.1 hj
  rcases Nat.lt_or_gt_of_ne h with hlt | hlt
  · have := List.pairwise_iff_getElem.1 hd i j h1 h2 hlt
    rw [e1, e2] at this
    simp at this
  · have := List.pairwise_iff_getElem.1 hd j i h2 h1 hlt
    rw [e1, e2] at this
    simp at this

theorem Sl.put {a0 a : Act} {ds : List (Option Nat)} {L : List Bool} {vs : List Value} (h : Sl a0 ds L vs a) (hd : ds.Pairwise fun a b => a = none ∨ a ≠ b) (hl : vs.length = ds.length) {i : Nat} {o : Option Nat} (hi : ds[i]? = some o) (hz : ∀ d, o = some d → d < a0.tmps.size) (v : Value) :
    Sl a0 ds (L.set i true) (vs.set i v) (a.put o v) := by
  have hlt : i < ds.length := (List.getElem?_eq_some_iff.1 hi).1
  have oth : ∀ j d, j ≠ i → ds[j]? = some (some d) → (L.set i true)[j]? = some true → a.tmps.getD d undef = (vs.set i v).getD j undef := fun j d hj hdj hL => by
    rw [List.getElem?_set_ne (Ne.symm hj)] at hL
    rw [h.at' j d hdj hL, List.getD_eq_getElem?_getD, List.getD_eq_getElem?_getD, List.getElem?_set_ne (Ne.symm hj)]
  cases o with
  | none =>
    refine ⟨h.agr, fun j d hj hL => ?_⟩
    have hne : j ≠ i := fun e => by subst e; rw [hi] at hj; cases hj
    exact oth j d hne hj hL
  | some d =>
    refine ⟨h.agr.put (List.mem_filterMap.2 ⟨some d, List.mem_of_getElem? hi, rfl⟩) v, fun j d' hj hL => ?_⟩
    rw [ev_put]
    by_cases e : j = i
    · subst e
      rw [hi] at hj
      cases hj
      rw [if_pos ⟨rfl, by rw [h.agr.size]; exact hz _ rfl⟩, List.getD_eq_getElem?_getD, List.getElem?_set_self (by omega)]
      rfl
    · rw [if_neg (fun x => far_ne hd hi hj (Ne.symm e) x.1)]
      exact oth j d' e hj hL

/-- All that has come up, put into the frame. -/
def putAll : Act → List (Option Nat) → List Value → Act
  | a, [], _ => a
  | a, _ :: _, [] => a
  | a, d :: ds, v :: vs => putAll (a.put d v) ds vs
theorem putAll_def : ∀ (ds : List (Option Nat)) (vs : List Value) (a : Act), (putAll a ds vs).defers = a.defers
  | [], _, _ => rfl
  | _ :: _, [], _ => rfl
  | d :: ds, v :: vs, a => by
    rw [putAll, putAll_def ds vs]
    cases d <;> rfl
theorem putAll_size : ∀ (ds : List (Option Nat)) (vs : List Value) (a : Act), (putAll a ds vs).tmps.size = a.tmps.size
  | [], _, _ => rfl
  | _ :: _, [], _ => rfl
  | d :: ds, v :: vs, a => by
    rw [putAll, putAll_size ds vs]
    cases d with
    | none => rfl
    | some d => exact size_put a d v
theorem putAll_off : ∀ (ds : List (Option Nat)) (vs : List Value) (a : Act) (t : Nat), t ∉ ds.filterMap id → (putAll a ds vs).tmps.getD t undef = a.tmps.getD t undef
  | [], _, _, _, _ => rfl
  | _ :: _, [], _, _, _ => rfl
  | d :: ds, v :: vs, a, t, ht => by
    have h2 : t ∉ ds.filterMap id := fun h => ht (by
      obtain ⟨x, h1, h2⟩ := List.mem_filterMap.1 h
      exact List.mem_filterMap.2 ⟨x, List.mem_cons_of_mem _ h1, h2⟩)
    rw [putAll, putAll_off ds vs _ t h2]
    cases d with
    | none => rfl
    | some d =>
      rw [ev_put, if_neg]
      rintro ⟨rfl, _⟩
      exact ht (List.mem_filterMap.2 ⟨some d, List.mem_cons_self, rfl⟩)
theorem putAll_on : ∀ (ds : List (Option Nat)) (vs : List Value) (a : Act) (i t : Nat), vs.length = ds.length → (ds.Pairwise fun a b => a = none ∨ a ≠ b) → ds[i]? = some (some t) → t < a.tmps.size → (putAll a ds vs).tmps.getD t undef = vs.getD i undef
  | [], _, _, _, _, _, _, h, _ => by simp at h
  | _ :: _, [], _, _, _, h, _, _, _ => by simp at h
  | d :: ds, v :: vs, a, 0, t, hl, hd, hi, hz => by
    simp at hi
    subst hi
    rw [putAll, putAll_off, ev_put, if_pos ⟨rfl, hz⟩]
    · rfl
    · intro h
      obtain ⟨x, h1, h2⟩ := List.mem_filterMap.1 h
      have := (List.pairwise_cons.1 hd).1 x h1
      simp at h2
      rw [h2] at this
      simp at this
  | d :: ds, v :: vs, a, i + 1, t, hl, hd, hi, hz => by
    rw [putAll, putAll_on ds vs _ i t (by simpa using hl) (List.pairwise_cons.1 hd).2 (by simpa using hi) (by
      cases d with
      | none => exact hz
      | some d => rw [size_put]; exact hz)]
    simp

theorem Sl.fin {a0 a : Act} {ds : List (Option Nat)} {L : List Bool} {vs : List Value} (h : Sl a0 ds L vs a) (hd : ds.Pairwise fun a b => a = none ∨ a ≠ b) (hl : vs.length = ds.length) (hL : ∀ i, i < ds.length → L[i]? = some true) (hz : ∀ d, some d ∈ ds → d < a0.tmps.size) : a = putAll a0 ds vs := by
  refine Act.same (h.agr.def'.trans (putAll_def ds vs a0).symm) (h.agr.size.trans (putAll_size ds vs a0).symm) fun t => ?_
  by_cases ht : t ∈ ds.filterMap id
  · obtain ⟨x, h1, h2⟩ := List.mem_filterMap.1 ht
    simp at h2
    subst h2
    obtain ⟨i, hi, e⟩ := List.mem_iff_getElem.1 h1
    have hi' : ds[i]? = some (some t) := List.getElem?_eq_some_iff.2 ⟨hi, e⟩
    rw [h.at' i t hi' (hL i hi), putAll_on ds vs a0 i t hl hd hi' (hz t h1)]
  · rw [h.agr.ev t ht, putAll_off ds vs a0 t ht]

/-- Each operation waits for earlier ones alone. -/
def lowOps (ops : Array Oper) : Bool := (List.range ops.size).all fun i => ((ops[i]?).map fun o => o.after.all fun e => !Region.binds .any e || decide (e.on < i)).getD true

/-- A region that draws its order: an invariant over what has come up, and the values that it has put. -/
theorem region_inv {id : Nat} {ops : Array Oper} {Q : Exit → Act → World → Prop} {a0 : Act} {w0 : World} (hm : Tryd.prog.follows .mixedOrders = true) (n : Nat) (hn : ops.size = n) (ds : List (Option Nat)) (hds : ops.toList.map (·.dst) = ds)
    (hd : ds.Pairwise fun a b => a = none ∨ a ≠ b) (hz : (ds.all fun o => o.all fun d => decide (d < a0.tmps.size)) = true) (hlow : lowOps ops = true)
    (Inv : List Bool → List Value → World → Prop) (h0 : Inv (List.replicate n false) (List.replicate n undef) { w0 with drawn := w0.drawn + 1 })
    (hstep : ∀ L vs a w i o, L.length = n → vs.length = n → Sl a0 ds L vs a → Inv L vs w → L[i]? = some false → ops[i]? = some o → (∀ e ∈ o.after, Region.binds .any e = true → L[e.on]? = some true) →
      wpOp Tryd.prog ops Q i (fun a' w' => ∃ v, a' = a.put o.dst v ∧ Inv (L.set i true) (vs.set i v) w') a w)
    (hend : ∀ vs w, vs.length = n → Inv (List.replicate n true) vs w → Q .normal (putAll a0 ds vs) w) :
    (Code.region id ops true).wp Tryd.prog Q a0 w0 := by
  have hdl : ds.length = n := by rw [← hds, List.length_map, Array.length_toList, hn]
  have hzz : ∀ d, some d ∈ ds → d < a0.tmps.size := fun d h => by
    have := List.all_eq_true.1 hz _ h
    simpa using this
  refine wp_region_any hm ?_
  refine wpAny_inv (fun L a w => ∃ vs, L.size = n ∧ vs.length = n ∧ Sl a0 ds L.toList vs a ∧ Inv L.toList vs w) ?_ ?_ _ _ _ _ ?_ ?_
  · rintro L a w ⟨vs, hL, hv, hS, hI⟩ i hi
    obtain ⟨hun, o, ho, haf⟩ := mem_ready.1 hi
    have hin : i < n := by rw [← hn]; exact (Array.getElem?_eq_some_iff.1 ho).1
    have hun' : L.toList[i]? = some false := by
      rw [Array.getElem?_toList, Array.getElem?_eq_getElem (by omega)]
      rw [Array.getD_eq_getD_getElem?, Array.getElem?_eq_getElem (by omega)] at hun
      simpa using hun
    have hdi : ds[i]? = some o.dst := by
      rw [← hds, List.getElem?_map, Array.getElem?_toList, ho]; rfl
    refine wpOp_mono ?_ (hstep L.toList vs a w i o (by simpa using hL) hv hS hI hun' ho (fun e he hb => ?_))
    · rintro a' w' ⟨v, rfl, hI'⟩
      refine ⟨vs.set i v, by simpa using hL, by simpa using hv, ?_, ?_⟩
      · rw [Array.toList_setIfInBounds]
        exact hS.put hd (by omega) hdi (fun d e => hzz d (by rw [← e]; exact List.mem_of_getElem? hdi)) v
      · rw [Array.toList_setIfInBounds]; exact hI'
    · have := haf e he hb
      rw [Array.getElem?_toList]
      rw [Array.getD_eq_getD_getElem?] at this
      cases hx : L[e.on]? with
      | none => rw [hx] at this; simp at this
      | some b => rw [hx] at this; simp at this; rw [this]
  · rintro L a w ⟨vs, hL, hv, hS, hI⟩ hr
    have hall : ∀ i, i < n → L.toList[i]? = some true := by
      intro i
      induction i using Nat.strongRecOn with
      | _ i ih =>
        intro hi
        have hlt : i < L.size := by omega
        cases hb : L[i] with
        | true => rw [Array.getElem?_toList, Array.getElem?_eq_getElem hlt, hb]
        | false =>
          exfalso
          have hio : i < ops.size := by omega
          have hmem : i ∈ Region.ready .any ops L := by
            refine mem_ready.2 ⟨by rw [Array.getD_eq_getD_getElem?, Array.getElem?_eq_getElem hlt, hb]; rfl, ops[i], Array.getElem?_eq_getElem hio, fun e he hbd => ?_⟩
            have hlo := List.all_eq_true.1 hlow i (List.mem_range.2 hio)
            rw [Array.getElem?_eq_getElem hio] at hlo
            simp only [Option.map_some, Option.getD_some, Array.all_eq_true_iff_forall_mem, Bool.or_eq_true, Bool.not_eq_true', decide_eq_true_eq] at hlo
            have hon := (hlo e he).resolve_left (by rw [hbd]; simp)
            have := ih e.on hon (by omega)
            rw [Array.getElem?_toList] at this
            rw [Array.getD_eq_getD_getElem?, this]; rfl
          rw [hr] at hmem
          cases hmem
    have hLe : L.toList = List.replicate n true := by
      refine List.ext_getElem? fun i => ?_
      by_cases hi : i < n
      · rw [hall i hi, List.getElem?_replicate_of_lt hi]
      · rw [List.getElem?_eq_none (by simpa using by omega), List.getElem?_eq_none (by simpa using by omega)]
    have ha := hS.fin hd (by omega) (fun i hi => hall i (by omega)) hzz
    rw [ha]
    refine hend vs w hv ?_
    rw [← hLe]; exact hI
  · refine ⟨List.replicate n undef, by simp [hn], by simp, ⟨⟨rfl, rfl, fun _ _ => rfl⟩, fun i d hi hL => ?_⟩, by rw [Array.toList_replicate, hn]; exact h0⟩
    rw [Array.toList_replicate, List.getElem?_replicate] at hL
    split at hL <;> cases hL
  · have : ∀ m, falses (List.replicate m false) = m := fun m => by
      induction m with
      | zero => rfl
      | succ m ih => rw [List.replicate_succ, falses, ih]; simp; omega
    rw [Array.toList_replicate, this]
    exact Nat.le_refl _

/-- The same, by what each operation has put: each says something of its own value, which the others leave. -/
theorem region_res {rid : Nat} {ops : Array Oper} {Q : Exit → Act → World → Prop} {a0 : Act} {w0 : World} (hm : Tryd.prog.follows .mixedOrders = true) (n : Nat) (hn : ops.size = n) (ds : List (Option Nat)) (hds : ops.toList.map (·.dst) = ds)
    (hd : ds.Pairwise fun a b => a = none ∨ a ≠ b) (hz : (ds.all fun o => o.all fun d => decide (d < a0.tmps.size)) = true) (hlow : lowOps ops = true)
    (S : Nat → List Nat) (Base : World → Prop) (Res : Nat → Value → World → Prop) (h0 : Base { w0 with drawn := w0.drawn + 1 })
    (hstab : ∀ i j v w w', i ≠ j → Base w → Res j v w → Upd (S i) w w' → Res j v w')
    (hstep : ∀ (D : Nat → Prop) (vs : List Value) a w i o, Agr (ds.filterMap id) a0 a → Base w → (∀ j, D j → Res j (vs.getD j undef) w) → (∀ j d, ds[j]? = some (some d) → D j → a.tmps.getD d undef = vs.getD j undef) → i < n → ops[i]? = some o → (∀ e ∈ o.after, Region.binds .any e = true → D e.on) →
      wpOp Tryd.prog ops Q i (fun a' w' => ∃ v, a' = a.put o.dst v ∧ Base w' ∧ Res i v w' ∧ Upd (S i) w w') a w)
    (hend : ∀ vs w, vs.length = n → Base w → (∀ j, j < n → Res j (vs.getD j undef) w) → Q .normal (putAll a0 ds vs) w) :
    (Code.region rid ops true).wp Tryd.prog Q a0 w0 := by
  refine region_inv hm n hn ds hds hd hz hlow (fun L vs w => vs.length = n ∧ Base w ∧ ∀ j, L[j]? = some true → Res j (vs.getD j undef) w) ⟨by simp, h0, fun j hj => ?_⟩ ?_ ?_
  · rw [List.getElem?_replicate] at hj
    split at hj <;> cases hj
  · rintro L vs a w i o hL hv hS ⟨_, hB, hR⟩ hun ho haf
    have hin : i < n := by rw [← hn]; exact (Array.getElem?_eq_some_iff.1 ho).1
    refine wpOp_mono ?_ (hstep (fun j => L[j]? = some true) vs a w i o hS.agr hB hR hS.at' hin ho haf)
    rintro a' w' ⟨v, ha, hB', hr, hu⟩
    refine ⟨v, ha, by simpa using hv, hB', fun j hj => ?_⟩
    by_cases e : i = j
    · subst e
      rw [List.getD_eq_getElem?_getD, List.getElem?_set_self (by omega)]
      exact hr
    · rw [List.getElem?_set_ne e] at hj
      have := hstab i j _ w w' e hB (hR j hj) hu
      rw [List.getD_eq_getElem?_getD, List.getElem?_set_ne e, ← List.getD_eq_getElem?_getD]
      exact this
  · rintro vs w hv ⟨_, hB, hR⟩
    exact hend vs w hv hB fun j hj => hR j (List.getElem?_replicate_of_lt hj)
/-- An operation that only reads. -/
theorem wp_pure {o : Oper} {a : Act} {w : World} {K : Act → World → Prop} {Q : Exit → Act → World → Prop} {v : Value} (h : (execOp a.eval o).run Tryd.prog w = .ok (.value v) w) (hk : K (a.put o.dst v) w) : o.wp Tryd.prog a w K Q := by
  unfold Oper.wp
  rw [h]
  exact hk

theorem list_cons {α : Type} {n : Nat} {l : List α} (h : l.length = n + 1) : ∃ x r, l = x :: r ∧ r.length = n := by
  cases l with
  | nil => simp at h
  | cons x r => exact ⟨x, r, rfl, by simpa using h⟩

theorem set_true {L : List Bool} {i k : Nat} (hi : i < L.length) : (L.set i true)[k]? = some true ↔ k = i ∨ L[k]? = some true := by
  by_cases e : i = k
  · subst e
    rw [List.getElem?_set_self hi]
    simp
  · rw [List.getElem?_set_ne e]
    constructor
    · exact fun h => Or.inr h
    · rintro (h | h)
      · exact absurd h.symm e
      · exact h

theorem region_resD {rid : Nat} {ops : Array Oper} {Q : Exit → Act → World → Prop} {a0 : Act} {w0 : World} (hm : Tryd.prog.follows .mixedOrders = true) (n : Nat) (hn : ops.size = n) (ds : List (Option Nat)) (hds : ops.toList.map (·.dst) = ds)
    (hd : ds.Pairwise fun a b => a = none ∨ a ≠ b) (hz : (ds.all fun o => o.all fun d => decide (d < a0.tmps.size)) = true) (hlow : lowOps ops = true)
    (S : Nat → List Nat) (Base : (Nat → Prop) → World → Prop) (Res : Nat → Value → World → Prop) (h0 : Base (fun _ => False) { w0 with drawn := w0.drawn + 1 }) (hext : ∀ D D' w, (∀ j, D j ↔ D' j) → Base D w → Base D' w)
    (hstab : ∀ (D : Nat → Prop) i j v w w', i ≠ j → ¬ D i → D j → (∀ j o', D j → ops[j]? = some o' → ∀ e ∈ o'.after, Region.binds .any e = true → D e.on) → Res j v w → Upd (S i) w w' → Res j v w')
    (hstep : ∀ (D : Nat → Prop) (vs : List Value) a w i o, Agr (ds.filterMap id) a0 a → Base D w → (∀ j, D j → Res j (vs.getD j undef) w) → (∀ j d, ds[j]? = some (some d) → D j → a.tmps.getD d undef = vs.getD j undef) → i < n → ¬ D i → ops[i]? = some o → (∀ e ∈ o.after, Region.binds .any e = true → D e.on) →
      (∀ j o', D j → ops[j]? = some o' → ∀ e ∈ o'.after, Region.binds .any e = true → D e.on) →
      wpOp Tryd.prog ops Q i (fun a' w' => ∃ v, a' = a.put o.dst v ∧ Base (fun j => j = i ∨ D j) w' ∧ Res i v w' ∧ Upd (S i) w w') a w)
    (hend : ∀ vs w, vs.length = n → Base (fun j => j < n) w → (∀ j, j < n → Res j (vs.getD j undef) w) → Q .normal (putAll a0 ds vs) w) :
    (Code.region rid ops true).wp Tryd.prog Q a0 w0 := by
  refine region_inv hm n hn ds hds hd hz hlow (fun L vs w => (L.length = n ∧ vs.length = n) ∧ Base (fun j => L[j]? = some true) w ∧ (∀ j, L[j]? = some true → Res j (vs.getD j undef) w) ∧ ∀ (j : Nat) (o' : Oper), L[j]? = some true → ops[j]? = some o' → ∀ e ∈ o'.after, Region.binds .any e = true → L[e.on]? = some true) ⟨⟨by simp, by simp⟩, ?_, fun j hj => ?_, fun j _ hj => ?_⟩ ?_ ?_
  · refine hext _ _ _ (fun j => ⟨fun h => h.elim, fun h => ?_⟩) h0
    rw [List.getElem?_replicate] at h
    split at h <;> cases h
  · rw [List.getElem?_replicate] at hj
    split at hj <;> cases hj
  · rw [List.getElem?_replicate] at hj
    split at hj <;> cases hj
  · rintro L vs a w i o hL hv hS ⟨_, hB, hR, hcl⟩ hun ho haf
    have hin : i < n := by rw [← hn]; exact (Array.getElem?_eq_some_iff.1 ho).1
    refine wpOp_mono ?_ (hstep (fun j => L[j]? = some true) vs a w i o hS.agr hB hR hS.at' hin (by rw [hun]; simp) ho haf hcl)
    rintro a' w' ⟨v, ha, hB', hr, hu⟩
    refine ⟨v, ha, ⟨by simpa using hL, by simpa using hv⟩, hext _ _ _ (fun j => (set_true (by omega)).symm) hB', fun j hj => ?_, fun j o' hj ho' e he hb => ?_⟩
    · by_cases e : i = j
      · subst e
        rw [List.getD_eq_getElem?_getD, List.getElem?_set_self (by omega)]
        exact hr
      · rw [List.getElem?_set_ne e] at hj
        have := hstab (fun j => L[j]? = some true) i j _ w w' e (by rw [hun]; simp) hj hcl (hR j hj) hu
        rw [List.getD_eq_getElem?_getD, List.getElem?_set_ne e, ← List.getD_eq_getElem?_getD]
        exact this
    · rw [set_true (by omega)]
      right
      rcases (set_true (by omega)).1 hj with rfl | h
      · rw [ho] at ho'
        cases ho'
        exact haf e he hb
      · exact hcl j o' h ho' e he hb
  · rintro vs w hv ⟨_, hB, hR, _⟩
    refine hend vs w hv (hext _ _ _ (fun j => ?_) hB) fun j hj => hR j (List.getElem?_replicate_of_lt hj)
    constructor
    · intro h
      rw [List.getElem?_replicate] at h
      split at h
      · assumption
      · cases h
    · exact fun h => List.getElem?_replicate_of_lt h

end Go.Proofs.YtpgjcedonimgnaaDoor

/- A region that draws its order, whose last operation waits for all others. -/
namespace Go.Proofs.YtpgjcedonimgnaaDoor
open Go.RowKit

/-- The last operation waits for each other one. -/
def lastOps (ops : Array Oper) (n : Nat) : Bool := (List.range n).all fun j => ((ops[n]?).map fun o => o.after.any fun e => Region.binds .any e && e.on == j).getD false

theorem region_last {rid : Nat} {ops : Array Oper} {Q : Exit → Act → World → Prop} {a0 : Act} {w0 : World} (hm : Tryd.prog.follows .mixedOrders = true) (n : Nat) (hn : ops.size = n + 1) (ds : List (Option Nat)) (hds : ops.toList.map (·.dst) = ds)
    (hd : ds.Pairwise fun a b => a = none ∨ a ≠ b) (hz : (ds.all fun o => o.all fun d => decide (d < a0.tmps.size)) = true) (hlow : lowOps ops = true) (hla : lastOps ops n = true)
    (Res : Nat → Value → World → Prop) (hstab : ∀ j v w w', Res j v w → Upd [] w w' → Res j v w')
    (hstep : ∀ (D : Nat → Prop) (vs : List Value) a w i o, Agr (ds.filterMap id) a0 a → Upd [] w0 w → (∀ j, D j → Res j (vs.getD j undef) w) → (∀ j d, ds[j]? = some (some d) → D j → a.tmps.getD d undef = vs.getD j undef) → i < n → ops[i]? = some o → (∀ e ∈ o.after, Region.binds .any e = true → D e.on) →
      wpOp Tryd.prog ops Q i (fun a' w' => ∃ v, a' = a.put o.dst v ∧ Res i v w' ∧ Upd [] w w') a w)
    (hlast : ∀ (vs : List Value) a w o, vs.length = n + 1 → Agr (ds.filterMap id) a0 a → Upd [] w0 w → (∀ j, j < n → Res j (vs.getD j undef) w) → (∀ j d, ds[j]? = some (some d) → j < n → a.tmps.getD d undef = vs.getD j undef) → ops[n]? = some o →
      wpOp Tryd.prog ops Q n (fun a' w' => ∃ v, a' = a.put o.dst v ∧ Q .normal (putAll a0 ds (vs.set n v)) w') a w) :
    (Code.region rid ops true).wp Tryd.prog Q a0 w0 := by
  refine region_inv hm (n + 1) hn ds hds hd hz hlow (fun L vs w => (L.length = n + 1 ∧ vs.length = n + 1) ∧ ((L[n]? = some false ∧ Upd [] w0 w ∧ ∀ j, L[j]? = some true → Res j (vs.getD j undef) w) ∨ ((∀ j, j < n + 1 → L[j]? = some true) ∧ Q .normal (putAll a0 ds vs) w))) ⟨⟨by simp, by simp⟩, Or.inl ⟨List.getElem?_replicate_of_lt (by omega), (Upd.refl [] w0).drew, fun j hj => ?_⟩⟩ ?_ ?_
  · rw [List.getElem?_replicate] at hj
    split at hj <;> cases hj
  · rintro L vs a w i o hL hv hS ⟨_, hI⟩ hun ho haf
    have hin : i < n + 1 := by rw [← hn]; exact (Array.getElem?_eq_some_iff.1 ho).1
    have hall : i = n → ∀ j, j < n → L[j]? = some true := fun e j hj => by
      subst e
      have h1 := List.all_eq_true.1 hla j (List.mem_range.2 hj)
      rw [ho] at h1
      simp only [Option.map_some, Option.getD_some] at h1
      obtain ⟨x, hx, hb⟩ := Array.any_eq_true'.1 h1
      simp only [Bool.and_eq_true, beq_iff_eq] at hb
      have := haf x hx hb.1
      rwa [hb.2] at this
    rcases hI with ⟨hf, hU, hR⟩ | ⟨ht, _⟩
    · by_cases e : i = n
      · have hA := hall e
        subst e
        refine wpOp_mono ?_ (hlast vs a w o hv hS.agr hU (fun j hj => hR j (hA j hj)) (fun j d hj hjn => hS.at' j d hj (hA j hjn)) ho)
        rintro a' w' ⟨v, ha, hq⟩
        refine ⟨v, ha, ⟨by simpa using hL, by simpa using hv⟩, Or.inr ⟨fun j hj => ?_, hq⟩⟩
        by_cases e : j = i
        · exact (set_true (by omega)).2 (Or.inl e)
        · exact (set_true (by omega)).2 (Or.inr (hA j (by omega)))
      · refine wpOp_mono ?_ (hstep (fun j => L[j]? = some true) vs a w i o hS.agr hU hR hS.at' (by omega) ho haf)
        rintro a' w' ⟨v, ha, hr, hu⟩
        refine ⟨v, ha, ⟨by simpa using hL, by simpa using hv⟩, Or.inl ⟨by rw [List.getElem?_set_ne e]; exact hf, hU.trans hu, fun j hj => ?_⟩⟩
        by_cases e2 : i = j
        · subst e2
          rw [List.getD_eq_getElem?_getD, List.getElem?_set_self (by omega)]
          exact hr
        · rw [List.getElem?_set_ne e2] at hj
          have := hstab j _ w w' (hR j hj) hu
          rw [List.getD_eq_getElem?_getD, List.getElem?_set_ne e2, ← List.getD_eq_getElem?_getD]
          exact this
    · exfalso
      rw [ht i hin] at hun
      cases hun
  · rintro vs w hv ⟨_, ⟨hf, _⟩ | ⟨_, hq⟩⟩
    · rw [List.getElem?_replicate_of_lt (by omega)] at hf; cases hf
    · exact hq

end Go.Proofs.YtpgjcedonimgnaaDoor

/- Nodes as trees, how they stand in memory. -/
namespace Go.Proofs.YtpgjcedonimgnaaDoor
open Go.RowKit

/-- A node as a tree. -/
inductive Nd where
  | mk (k : Int) (s : ByteArray) (num pos : Int) (K : List Nd) : Nd

def Nd.kd : Nd → Int
  | .mk k _ _ _ _ => k
def Nd.kids : Nd → List Nd
  | .mk _ _ _ _ K => K

mutual
/-- How deep. -/
def depN : Nd → Nat
  | .mk _ _ _ _ K => 1 + depR K
def depR : List Nd → Nat
  | [] => 0
  | n :: r => max (depN n) (depR r)
end
mutual
/-- How many. -/
def manN : Nd → Nat
  | .mk _ _ _ _ K => 1 + manR K
def manR : List Nd → Nat
  | [] => 0
  | n :: r => manN n + manR r
end
mutual
/-- What NodesOf counts. -/
def cntN : Nd → Nat
  | .mk _ s _ _ K => 1 + s.size / 8 + cntL K
def cntL : List Nd → Nat
  | [] => 0
  | n :: r => cntN n + cntL r
end
mutual
/-- How long the longest row in a tree is. -/
def nsz : Nd → Nat
  | .mk _ _ _ _ K => nszs K
def nszs : List Nd → Nat
  | [] => 0
  | n :: r => max (r.length + 1) (max (nsz n) (nszs r))
end
mutual
/-- How long the longest text in a tree is. -/
def nxz : Nd → Nat
  | .mk _ s _ _ K => max s.size (nxzs K)
def nxzs : List Nd → Nat
  | [] => 0
  | n :: r => max (nxz n) (nxzs r)
end
theorem nszs_len (K : List Nd) : K.length ≤ nszs K := by
  cases K with
  | nil => simp
  | cons t r => simp only [nszs, List.length_cons]; omega
theorem nszs_get (K : List Nd) (i : Nat) (hi : i < K.length) : nsz K[i] ≤ nszs K := by
  induction K generalizing i with
  | nil => simp at hi
  | cons t r ih =>
    cases i with
    | zero => simp only [nszs, List.getElem_cons_zero]; omega
    | succ i =>
      simp only [nszs, List.getElem_cons_succ]
      have := ih i (by simpa using hi)
      omega
theorem nszs_le (N : Nat) (K : List Nd) (hl : K.length ≤ N) (h : ∀ i (hi : i < K.length), nsz K[i] ≤ N) : nszs K ≤ N := by
  induction K with
  | nil => simp [nszs]
  | cons t r ih =>
    have h0 := h 0 (by simp)
    have h1 := ih (by simp at hl; omega) (fun i hi => by have := h (i + 1) (by simpa using hi); simpa using this)
    simp only [nszs]
    simp at h0 hl
    omega
theorem nxzs_get (K : List Nd) (i : Nat) (hi : i < K.length) : nxz K[i] ≤ nxzs K := by
  induction K generalizing i with
  | nil => simp at hi
  | cons t r ih =>
    cases i with
    | zero => simp only [nxzs, List.getElem_cons_zero]; omega
    | succ i =>
      simp only [nxzs, List.getElem_cons_succ]
      have := ih i (by simpa using hi)
      omega
theorem nxzs_le (N : Nat) (K : List Nd) (h : ∀ i (hi : i < K.length), nxz K[i] ≤ N) : nxzs K ≤ N := by
  induction K with
  | nil => simp [nxzs]
  | cons t r ih =>
    have h0 := h 0 (by simp)
    have h1 := ih (fun i hi => by have := h (i + 1) (by simpa using hi); simpa using this)
    simp only [nxzs]
    simp at h0
    omega
theorem cntL_take (K : List Nd) (k : Nat) (hk : k < K.length) : cntL (K.take (k + 1)) = cntL (K.take k) + cntN K[k] := by
  induction K generalizing k with
  | nil => simp at hk
  | cons t r ih =>
    cases k with
    | zero => simp [cntL]
    | succ k => simp only [List.take_succ_cons, cntL, List.getElem_cons_succ]; rw [ih k (by simpa using hk), Nat.add_assoc]
theorem manR_take (K : List Nd) (k : Nat) (hk : k < K.length) : manR (K.take (k + 1)) = manR (K.take k) + manN K[k] := by
  induction K generalizing k with
  | nil => simp at hk
  | cons t r ih =>
    cases k with
    | zero => simp [manR]
    | succ k => simp only [List.take_succ_cons, manR, List.getElem_cons_succ]; rw [ih k (by simpa using hk), Nat.add_assoc]
theorem manR_le (K : List Nd) (k : Nat) : manR (K.take k) ≤ manR K := by
  induction K generalizing k with
  | nil => simp
  | cons t r ih =>
    cases k with
    | zero => simp [manR]
    | succ k => simp only [List.take_succ_cons, manR]; have := ih k; omega
theorem manR_get (K : List Nd) (k : Nat) (hk : k < K.length) : manN K[k] ≤ manR K := by
  induction K generalizing k with
  | nil => simp at hk
  | cons t r ih =>
    cases k with
    | zero => simp only [List.getElem_cons_zero, manR]; omega
    | succ k => simp only [List.getElem_cons_succ, manR]; have := ih k (by simpa using hk); omega
theorem man_pos (n : Nd) : 0 < manN n := by cases n; rw [manN]; omega
mutual
theorem man_cnt : ∀ n : Nd, manN n ≤ cntN n
  | .mk _ s _ _ K => by rw [manN, cntN]; have := man_cntL K; omega
theorem man_cntL : ∀ K : List Nd, manR K ≤ cntL K
  | [] => by simp [manR, cntL]
  | n :: r => by rw [manR, cntL]; have := man_cnt n; have := man_cntL r; omega
end
mutual
theorem dep_man : ∀ n : Nd, depN n ≤ manN n
  | .mk _ _ _ _ K => by rw [depN, manN]; have := dep_manR K; omega
theorem dep_manR : ∀ K : List Nd, depR K ≤ manR K
  | [] => by simp [depR]
  | n :: r => by rw [depR, manR]; have := dep_man n; have := dep_manR r; omega
end
theorem depR_get (K : List Nd) (k : Nat) (hk : k < K.length) : depN K[k] ≤ depR K := by
  induction K generalizing k with
  | nil => simp at hk
  | cons t r ih =>
    cases k with
    | zero => simp only [List.getElem_cons_zero, depR]; omega
    | succ k => simp only [List.getElem_cons_succ, depR]; have := ih k (by simpa using hk); omega

/-- A row of nodes in memory. -/
def RowN (R : List Value → Nd → Prop) (w : World) (a : Option Addr) (K : List Nd) : Prop :=
  K = [] ∨ ∃ b o, a = some ⟨b, o, none⟩ ∧ b < w.heap.size ∧ ∀ i (hi : i < K.length), ∃ cs : List Value, cs.length = 5 ∧ (∀ j, j < 5 → w.cell? ⟨b, o + (i * 5 + j), none⟩ = cs[j]?) ∧ R cs K[i]
/-- The five cells of a node stand for a tree; each row has the room that it is given. -/
def NIn (w : World) : Nat → List Value → Nd → Prop
  | 0, _, _ => False
  | d + 1, cs, .mk k s num pos K => ∃ (a : Option Addr) (c : Nat), cs = [.int .u8 k, .string s, .int .i64 num, .int .i64 pos, .slice a K.length c] ∧ RowN (NIn w d) w a K ∧ K.length ≤ c ∧ c ≤ 9223372036854775807

theorem RowN.imp {R S : List Value → Nd → Prop} {w w' : World} {a : Option Addr} {K : List Nd} (h : RowN R w a K) (hu : Upd [] w w') (himp : ∀ cs t, R cs t → S cs t) : RowN S w' a K := by
  rcases h with h | ⟨b, o, e, hlt, hc⟩
  · exact Or.inl h
  · refine Or.inr ⟨b, o, e, Nat.lt_of_lt_of_le hlt hu.size, fun i hi => ?_⟩
    obtain ⟨cs, h1, h2, h3⟩ := hc i hi
    exact ⟨cs, h1, fun j hj => (hu.cell (p := ⟨b, o + (i * 5 + j), none⟩) hlt (by simp)).trans (h2 j hj), himp _ _ h3⟩
theorem NIn.mono {w w' : World} (hu : Upd [] w w') : ∀ (d : Nat) (cs : List Value) (t : Nd), NIn w d cs t → NIn w' d cs t := by
  intro d
  induction d with
  | zero => intro cs t h; exact h.elim
  | succ d ih =>
    intro cs t h
    cases t with
    | mk k s num pos K =>
      obtain ⟨a, c, rfl, h1, hcp⟩ := h
      exact ⟨a, c, rfl, h1.imp hu ih, hcp⟩
theorem NIn.more {w : World} : ∀ (d : Nat) (cs : List Value) (t : Nd), NIn w d cs t → NIn w (d + 1) cs t := by
  intro d
  induction d with
  | zero => intro cs t h; exact h.elim
  | succ d ih =>
    intro cs t h
    cases t with
    | mk k s num pos K =>
      obtain ⟨a, c, rfl, h1, hcp⟩ := h
      exact ⟨a, c, rfl, h1.imp (Upd.refl [] w) ih, hcp⟩
theorem NIn.len {w : World} {d : Nat} {cs : List Value} {t : Nd} (h : NIn w d cs t) : cs.length = 5 := by
  cases d with
  | zero => exact h.elim
  | succ d =>
    cases t
    obtain ⟨_, _, rfl, _⟩ := h
    rfl
theorem NIn.five {w : World} {d : Nat} {cs : List Value} {t : Nd} (h : NIn w d cs t) : cs.toArray.size = 5 := by simpa using h.len
theorem NIn.one {w : World} {d : Nat} {cs : List Value} {t : Nd} (h : NIn w d cs t) : cs.toArray.all (·.oneCell') = true := by
  cases d with
  | zero => exact h.elim
  | succ d =>
    cases t
    obtain ⟨_, _, rfl, _⟩ := h
    simp [Value.oneCell']
theorem list5 {cs : List Value} (h : cs.length = 5) : ∃ c0 c1 c2 c3 c4, cs = [c0, c1, c2, c3, c4] := by
  match cs, h with
  | [c0, c1, c2, c3, c4], _ => exact ⟨c0, c1, c2, c3, c4, rfl⟩

end Go.Proofs.YtpgjcedonimgnaaDoor

/- The statements' makers of nodes. -/
namespace Go.Proofs.YtpgjcedonimgnaaDoor
open Go.RowKit

set_option maxHeartbeats 1000000 in
set_option maxRecDepth 100000 in
theorem lnode_any (k : Int) (s : ByteArray) (a : Option Addr) (n c : Nat) (w : World) : Calls Tryd.prog 18 #[.int .u8 k, .string s, .slice a n c] w fun e w' => e = .returned (.agg #[.int .u8 k, .string s, .int .i64 0, .int .i64 0, .slice a n c]) ∧ Upd [] w w' := by
  go_enter Tryd.func18, Tryd.ntmps18
  go_wp2_with fail
  exact ret_T Tryd.results18 rfl _ _ rfl (Tb.new _ _ _ rfl) rfl ⟨rfl, (Upd.refl [] w).alloc _⟩

end Go.Proofs.YtpgjcedonimgnaaDoor
