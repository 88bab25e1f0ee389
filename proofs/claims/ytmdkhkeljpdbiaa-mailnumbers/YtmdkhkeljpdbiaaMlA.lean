/- Worlds, and blocks of nodes. -/
import Derived.Test.YtmdkhkeljpdbiaaProg
import Derived.KernelRfl
import Derived.WalkKit
import Derived.WalkSpells
import Derived.WalkLawsBesides
import Derived.Laws.EntriesVeiled
namespace Go.Proofs.Ytmdkhkeljpdbiaa
open Go.RowKit

/-- Nothing that was there has turned but in the blocks that are named; there may be new ones. -/
structure Upd (S : List Nat) (w w' : World) : Prop where
  os : w'.os = w.os
  tape : w'.tape = w.tape
  output : w'.output = w.output
  size : w.heap.size ≤ w'.heap.size
  block : ∀ k, k < w.heap.size → k ∉ S → w'.heap[k]? = w.heap[k]?

theorem Upd.refl (S : List Nat) (w : World) : Upd S w w := ⟨rfl, rfl, rfl, Nat.le_refl _, fun _ _ _ => rfl⟩
theorem Upd.trans {S : List Nat} {a b c : World} (h : Upd S a b) (k : Upd S b c) : Upd S a c :=
  ⟨k.os.trans h.os, k.tape.trans h.tape, k.output.trans h.output, Nat.le_trans h.size k.size, fun i hi hn => (k.block i (Nat.lt_of_lt_of_le hi h.size) hn).trans (h.block i hi hn)⟩
/-- A second step whose blocks lie beyond what the first one began with, or are among the first one's. -/
theorem Upd.then {S U : List Nat} {a b c : World} (h : Upd S a b) (k : Upd U b c) (hU : ∀ x, x ∈ U → a.heap.size ≤ x ∨ x ∈ S) : Upd S a c :=
  ⟨k.os.trans h.os, k.tape.trans h.tape, k.output.trans h.output, Nat.le_trans h.size k.size, fun i hi hn =>
    (k.block i (Nat.lt_of_lt_of_le hi h.size) (fun hm => by rcases hU i hm with h1 | h1; · omega
                                                            · exact hn h1)).trans (h.block i hi hn)⟩
theorem Upd.drew {S : List Nat} {a b : World} (h : Upd S a b) : Upd S a b.drew := ⟨h.os, h.tape, h.output, h.size, h.block⟩
theorem Upd.drewN {S : List Nat} {a b : World} (h : Upd S a b) (n : Nat) : Upd S a (b.drewN n) := ⟨h.os, h.tape, h.output, h.size, h.block⟩
theorem Upd.alloc {S : List Nat} {a b : World} (h : Upd S a b) (o : Obj) : Upd S a (b.alloc o) :=
  h.trans ⟨rfl, rfl, rfl, by simp, fun k hk _ => Below.heap_alloc _ _ _ hk⟩
theorem Upd.setCell {S : List Nat} {a b : World} (h : Upd S a b) {p : Addr} (hp : a.heap.size ≤ p.block ∨ p.block ∈ S) (u : Value) : Upd S a (b.setCell p u) :=
  ⟨h.os, h.tape, h.output, by rw [World.size_setCell]; exact h.size, fun k hk hn => by
    rw [Below.heap_setCell _ _ _ _ (fun e => by rcases hp with h1 | h1
                                                · omega
                                                · exact hn (e ▸ h1))]; exact h.block k hk hn⟩
theorem Upd.grown {S : List Nat} {a b c : World} {row : Option Nat} (h : Upd S a b) (hg : b.grownBy c row) (hr : ∀ k, row = some k → a.heap.size ≤ k ∨ k ∈ S) : Upd S a c :=
  ⟨hg.os.trans h.os, hg.tape.trans h.tape, hg.output.trans h.output, Nat.le_trans h.size hg.size, fun k hk hn =>
    (hg.block k (Nat.lt_of_lt_of_le hk h.size) (fun e => by rcases hr k e.symm with h1 | h1
                                                            · omega
                                                            · exact hn h1)).trans (h.block k hk hn)⟩
theorem Upd.below {w w' : World} (h : Upd [] w w') : Below w.heap.size w w' := ⟨h.os, h.tape, h.output, h.size, fun k hk => h.block k hk (by simp)⟩
theorem Upd.cell {S : List Nat} {w w' : World} (h : Upd S w w') {p : Addr} (hp : p.block < w.heap.size) (hn : p.block ∉ S) : w'.cell? p = w.cell? p := World.cell?_of_block (w := w) (h.block p.block hp hn)

theorem info_term : (Try.prog.info? 26).map (·.size) = some 7 := by kernel_rfl
theorem agg_term : (match (Try.prog.underlying 26) with | some (.struct _) => true | _ => false) = true := by kernel_rfl

theorem term_desc : ∃ fs, Try.prog.underlying 26 = some (.struct fs) := by
  have h := agg_term
  revert h
  cases hq : Try.prog.underlying 26 with
  | none => intro h; simp at h
  | some d =>
    intro h
    cases d <;> simp_all

/-- A block that holds a term. -/
def Tb (w : World) (g : Nat) (cs : Array Value) : Prop := w.heap[g]? = some (.cells cs 26 (0, 0))
theorem Tb.lt {w : World} {g : Nat} {cs : Array Value} (h : Tb w g cs) : g < w.heap.size := lt_of_block h
theorem Tb.mono {S : List Nat} {w w' : World} {g : Nat} {cs : Array Value} (h : Tb w g cs) (hu : Upd S w w') (hn : g ∉ S) : Tb w' g cs := (hu.block g h.lt hn).trans h
theorem Tb.new (w : World) (cs : Array Value) (g : Nat) (h : g = w.heap.size) : Tb (w.alloc (.cells cs 26)) g cs := by
  subst h; exact heap_alloc_new w _
theorem Tb.old {w : World} {g : Nat} {cs : Array Value} (h : Tb w g cs) (o : Obj) : Tb (w.alloc o) g cs := (Below.heap_alloc w o g h.lt).trans h
theorem Tb.cell {w : World} {g : Nat} {cs : Array Value} (h : Tb w g cs) (i : Nat) : w.cell? ⟨g, i, none⟩ = cs[i]? := cell_of_row w g i _ _ _ h

theorem setRow_upd (w : World) (g : Nat) (cs : Array Value) : Upd [g] w (w.setRow g cs) :=
  ⟨rfl, rfl, rfl, by simp, fun k _ hn => by
    have : g ≠ k := fun e => hn (by simp [e])
    simp only [World.setRow, Array.getElem?_modify]
    rw [if_neg this]⟩
theorem setRow_tb {w : World} {g : Nat} {old : Array Value} (h : Tb w g old) (cs : Array Value) : Tb (w.setRow g cs) g cs := by
  unfold Tb at *
  simp only [World.setRow, Array.getElem?_modify, if_true, h]
  rfl

/-- A whole term is stored into a block of the call's own. -/
theorem store_T (w : World) {ops : Array Oper} {rest : List Oper} {o : Oper} {a : Act} {Q : Exit → Act → World → Prop} (hgd : o.guard = none) (x y : Operand) (ho : o.op = .store 26 x y)
    (g : Nat) (cells old : Array Value) (hx : a.eval x = .pointer (some ⟨g, 0, none⟩)) (hy : a.eval y = .agg cells) (hg : Tb w g old) (hold : old.size = 7) (hc : cells.size = 7) (h1 : cells.all (·.oneCell') = true)
    (h : ∀ w', Tb w' g cells → Upd [g] w w' → wpList Try.prog ops Q rest (a.put o.dst undef) w') : wpList Try.prog ops Q (o :: rest) a w :=
  wpList_store_row hgd 26 x y ho g cells hx hy 26 old hg (by rw [info_term, hc]) (by omega) h1 (h _ (setRow_tb hg cells) (setRow_upd w g cells))

theorem load_T (w : World) {ops : Array Oper} {rest : List Oper} {o : Oper} {a : Act} {Q : Exit → Act → World → Prop} (hgd : o.guard = none) (x : Operand) (ho : o.op = .load 26 x)
    (g : Nat) (cs : Array Value) (hx : a.eval x = .pointer (some ⟨g, 0, none⟩)) (hg : Tb w g cs) (hc : cs.size = 7)
    (h : wpList Try.prog ops Q rest (a.put o.dst (.agg cs)) w) : wpList Try.prog ops Q (o :: rest) a w := by
  obtain ⟨fs, h1⟩ := term_desc
  exact wpList_load_row hgd 26 x ho g hx 26 cs (0, 0) _ hg h1 rfl (by rw [info_term, hc]) h

theorem load_run (w : World) (g : Nat) (cs : Array Value) (hg : Tb w g cs) (hc : cs.size = 7) : (loadVar 26 ⟨g, 0, none⟩).run Try.prog w = .ok (.agg cs) w := by
  obtain ⟨fs, h1⟩ := term_desc
  exact run_loadVar_row w g 26 26 cs (0, 0) _ hg h1 rfl (by rw [info_term, hc])

/-- A term is handed back. -/
theorem ret_T {fn : Func} {R : Ending → World → Prop} {a : Act} {w : World} {p : Tmp} (h : fn.results = #[.cell p 26]) (hd : a.defers = []) (g : Nat) (cs : Array Value)
    (hp : a.tmps.getD p undef = .pointer (some ⟨g, 0, none⟩)) (hg : Tb w g cs) (hc : cs.size = 7) (hR : R (.returned (.agg cs)) w) : bodyPost Try.prog fn R .ret a w := by
  obtain ⟨fs, h1⟩ := term_desc
  exact bodyPost_ret (results_cell_row h a.tmps w g 26 cs (0, 0) _ hp hg h1 rfl (by rw [info_term, hc])) hd hR

/-- A term and a word more. -/
theorem ret_Tb {fn : Func} {R : Ending → World → Prop} {a : Act} {w : World} {p u : Tmp} (h : fn.results = #[.cell p 26, .tmp u]) (hd : a.defers = []) (g : Nat) (cs : Array Value) (v : Value)
    (hp : a.tmps.getD p undef = .pointer (some ⟨g, 0, none⟩)) (hg : Tb w g cs) (hc : cs.size = 7) (hu : a.tmps.getD u undef = v) (hR : R (.returned (.tuple #[.agg cs, v])) w) : bodyPost Try.prog fn R .ret a w := by
  refine bodyPost_ret (v := .tuple #[.agg cs, v]) ?_ hd hR
  rw [results_cell_tmp h, hp, hu]
  simp only [asAddr, Sem.run_pure, Result.andThen_ok, load_run w g cs hg hc]

/-- Two terms and a word more. -/
theorem ret_TTb {fn : Func} {R : Ending → World → Prop} {a : Act} {w : World} {p q u : Tmp} (h : fn.results = #[.cell p 26, .cell q 26, .tmp u]) (hd : a.defers = []) (g g2 : Nat) (cs cs2 : Array Value) (v : Value)
    (hp : a.tmps.getD p undef = .pointer (some ⟨g, 0, none⟩)) (hg : Tb w g cs) (hc : cs.size = 7) (hq : a.tmps.getD q undef = .pointer (some ⟨g2, 0, none⟩)) (hg2 : Tb w g2 cs2) (hc2 : cs2.size = 7)
    (hu : a.tmps.getD u undef = v) (hR : R (.returned (.tuple #[.agg cs, .agg cs2, v])) w) : bodyPost Try.prog fn R .ret a w := by
  refine bodyPost_ret (v := .tuple #[.agg cs, .agg cs2, v]) ?_ hd hR
  have hp' : a.tmps[p]?.getD undef = .pointer (some ⟨g, 0, none⟩) := by simpa using hp
  have hq' : a.tmps[q]?.getD undef = .pointer (some ⟨g2, 0, none⟩) := by simpa using hq
  have hu' : a.tmps[u]?.getD undef = v := by simpa using hu
  simp [results, h, hp', hq', hu', asAddr, load_run w g cs hg hc, load_run w g2 cs2 hg2 hc2]

theorem load_G (w : World) {ops : Array Oper} {rest : List Oper} {o : Oper} {a : Act} {Q : Exit → Act → World → Prop} (x : Operand) (ho : o.op = .load 26 x)
    (g : Nat) (cs : Array Value) (hx : a.eval x = .pointer (some ⟨g, 0, none⟩)) (hg : Tb w g cs) (hc : cs.size = 7) (hw : Region.wanted o (yielded ops a.tmps) = true)
    (h : wpList Try.prog ops Q rest (a.put o.dst (.agg cs)) w) : wpList Try.prog ops Q (o :: rest) a w := by
  obtain ⟨fs, h1⟩ := term_desc
  refine wpList_step fun K hK => ?_
  rw [if_pos hw]
  exact wp_load_row 26 x ho g hx 26 cs (0, 0) _ hg h1 rfl (by rw [info_term, hc]) (hK _ _ h)
theorem Tb.set {w : World} {g : Nat} {cs : Array Value} (h : Tb w g cs) (i : Nat) (v : Value) : Tb (w.setCell ⟨g, i, none⟩ v) g (cs.setIfInBounds i v) := by
  unfold Tb
  rw [heap_setCell_same w g i _ _ _ h]
theorem Tb.free {w : World} {g : Nat} {cs : Array Value} (h : Tb w g cs) (i : Nat) : w.frozen? ⟨g, i, none⟩ = false := frozen_of_row w g i _ _ h
theorem Tb.other {w : World} {g : Nat} {cs : Array Value} (h : Tb w g cs) (a : Addr) (ha : a.block ≠ g) (u : Value) : Tb (w.setCell a u) g cs := by
  unfold Tb
  rw [heap_setCell_other _ _ _ _ (fun e => ha e.symm)]; exact h

def IntB (w : World) (b : Nat) (n : Int) : Prop := w.heap[b]? = some (.cells #[.int .i64 n] 3 (0, 0))
theorem IntB.lt {w : World} {b : Nat} {n : Int} (h : IntB w b n) : b < w.heap.size := lt_of_block h
theorem IntB.cell {w : World} {b : Nat} {n : Int} (h : IntB w b n) : w.cell? ⟨b, 0, none⟩ = some (.int .i64 n) := cell_of_row w b 0 _ _ _ h
theorem IntB.free {w : World} {b : Nat} {n : Int} (h : IntB w b n) : w.frozen? ⟨b, 0, none⟩ = false := frozen_of_row w b 0 _ _ h
theorem IntB.set {w : World} {b : Nat} {n : Int} (h : IntB w b n) (m : Int) : IntB (w.setCell ⟨b, 0, none⟩ (.int .i64 m)) b m := by
  unfold IntB
  rw [heap_setCell_same w b 0 _ _ _ h]
  rfl
theorem IntB.mono {S : List Nat} {w w' : World} {b : Nat} {n : Int} (h : IntB w b n) (hu : Upd S w w') (hn : b ∉ S) : IntB w' b n := (hu.block b h.lt hn).trans h
def FunB (w : World) (b : Nat) (v : Value) (T : TypeId) : Prop := w.heap[b]? = some (.cells #[v] T (0, 0))
theorem FunB.lt {w : World} {b : Nat} {v : Value} {T : TypeId} (h : FunB w b v T) : b < w.heap.size := lt_of_block h
theorem FunB.cell {w : World} {b : Nat} {v : Value} {T : TypeId} (h : FunB w b v T) : w.cell? ⟨b, 0, none⟩ = some v := cell_of_row w b 0 _ _ _ h
theorem FunB.mono {S : List Nat} {w w' : World} {b : Nat} {v : Value} {T : TypeId} (h : FunB w b v T) (hu : Upd S w w') (hn : b ∉ S) : FunB w' b v T := (hu.block b h.lt hn).trans h

theorem IntB.new (w : World) (n : Int) (g : Nat) (h : g = w.heap.size) : IntB (w.alloc (.cells #[.int .i64 n] 3)) g n := by subst h; exact heap_alloc_new w _
theorem FunB.new (w : World) (v : Value) (T : TypeId) (g : Nat) (h : g = w.heap.size) : FunB (w.alloc (.cells #[v] T)) g v T := by subst h; exact heap_alloc_new w _
theorem FunB.set {w : World} {b : Nat} {v : Value} {T : TypeId} (h : FunB w b v T) (u : Value) : FunB (w.setCell ⟨b, 0, none⟩ u) b u T := by
  unfold FunB
  rw [heap_setCell_same w b 0 _ _ _ h]
  rfl
theorem FunB.free {w : World} {b : Nat} {v : Value} {T : TypeId} (h : FunB w b v T) : w.frozen? ⟨b, 0, none⟩ = false := frozen_of_row w b 0 _ _ h
theorem FunB.ne {w : World} {b b' : Nat} {v v' : Value} {T T' : TypeId} (h : FunB w b v T) (h' : FunB w b' v' T') (hT : T ≠ T') : b ≠ b' := fun e => by
  subst e
  have := h.symm.trans h'
  simp at this
  exact hT this.2
theorem IntB.fun {w : World} {b : Nat} {n : Int} (h : IntB w b n) : FunB w b (.int .i64 n) 3 := h

end Go.Proofs.Ytmdkhkeljpdbiaa
