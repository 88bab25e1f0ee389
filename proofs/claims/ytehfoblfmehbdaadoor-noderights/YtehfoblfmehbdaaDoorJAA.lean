/- Worlds, and blocks of nodes. -/
import Derived.Test.YtehfoblfmehbdaaDoorProg
import Derived.KernelRfl
import Derived.WalkKit
import Derived.WalkSpells
import Derived.WalkLawsBesides
import Derived.Laws.EntriesVeiled
import Derived.Deep.RegionWith

namespace Go.Proofs.YtehfoblfmehbdaaDoor
open Go.RowKit

/-- Nothing that was there has turned but in the blocks that are named; there may be new ones. -/
structure Upd (S : List Nat) (w w' : World) : Prop where
  os : w'.os = w.os
  tape : w'.tape = w.tape
  output : w'.output = w.output
  size : w.heap.size ≤ w'.heap.size
  block : ∀ k, k < w.heap.size → k ∉ S → w'.heap[k]? = w.heap[k]?

theorem Upd.refl (S : List Nat) (w : World) : Upd S w w := ⟨rfl, rfl, rfl, Nat.le_refl _, fun _ _ _ => rfl⟩
theorem Upd.trans {S : List Nat} {a b c : World} (h : Upd S a b) (k : Upd S b c) : Upd S a c :=
  ⟨k.os.trans h.os, k.tape.trans h.tape, k.output.trans h.output, Nat.le_trans h.size k.size, fun i hi hn => (k.block i (Nat.lt_of_lt_of_le hi h.size) hn).trans (h.block i hi hn)⟩
/-- A second step whose blocks lie beyond what the first one began with, or are among the first one's. -/
theorem Upd.then {S U : List Nat} {a b c : World} (h : Upd S a b) (k : Upd U b c) (hU : ∀ x, x ∈ U → a.heap.size ≤ x ∨ x ∈ S) : Upd S a c :=
  ⟨k.os.trans h.os, k.tape.trans h.tape, k.output.trans h.output, Nat.le_trans h.size k.size, fun i hi hn =>
    (k.block i (Nat.lt_of_lt_of_le hi h.size) (fun hm => by rcases hU i hm with h1 | h1; · omega
                                                            · exact hn h1)).trans (h.block i hi hn)⟩
theorem Upd.drew {S : List Nat} {a b : World} (h : Upd S a b) : Upd S a b.drew := ⟨h.os, h.tape, h.output, h.size, h.block⟩
theorem Upd.drewN {S : List Nat} {a b : World} (h : Upd S a b) (n : Nat) : Upd S a (b.drewN n) := ⟨h.os, h.tape, h.output, h.size, h.block⟩
theorem Upd.alloc {S : List Nat} {a b : World} (h : Upd S a b) (o : Obj) : Upd S a (b.alloc o) :=
  h.trans ⟨rfl, rfl, rfl, by simp, fun k hk _ => Below.heap_alloc _ _ _ hk⟩
theorem Upd.setCell {S : List Nat} {a b : World} (h : Upd S a b) {p : Addr} (hp : a.heap.size ≤ p.block ∨ p.block ∈ S) (u : Value) : Upd S a (b.setCell p u) :=
  ⟨h.os, h.tape, h.output, by rw [World.size_setCell]; exact h.size, fun k hk hn => by
    rw [Below.heap_setCell _ _ _ _ (fun e => by rcases hp with h1 | h1
                                                · omega
                                                · exact hn (e ▸ h1))]; exact h.block k hk hn⟩
theorem Upd.grown {S : List Nat} {a b c : World} {row : Option Nat} (h : Upd S a b) (hg : b.grownBy c row) (hr : ∀ k, row = some k → a.heap.size ≤ k ∨ k ∈ S) : Upd S a c :=
  ⟨hg.os.trans h.os, hg.tape.trans h.tape, hg.output.trans h.output, Nat.le_trans h.size hg.size, fun k hk hn =>
    (hg.block k (Nat.lt_of_lt_of_le hk h.size) (fun e => by rcases hr k e.symm with h1 | h1
                                                            · omega
                                                            · exact hn h1)).trans (h.block k hk hn)⟩
theorem Upd.below {w w' : World} (h : Upd [] w w') : Below w.heap.size w w' := ⟨h.os, h.tape, h.output, h.size, fun k hk => h.block k hk (by simp)⟩
theorem Upd.cell {S : List Nat} {w w' : World} (h : Upd S w w') {p : Addr} (hp : p.block < w.heap.size) (hn : p.block ∉ S) : w'.cell? p = w.cell? p := World.cell?_of_block (w := w) (h.block p.block hp hn)

theorem info_term : (Tryd.prog.info? 25).map (·.size) = some 5 := by kernel_rfl
theorem agg_term : (match (Tryd.prog.underlying 25) with | some (.struct _) => true | _ => false) = true := by kernel_rfl

theorem term_desc : ∃ fs, Tryd.prog.underlying 25 = some (.struct fs) := by
  have h := agg_term
  revert h
  cases hq : Tryd.prog.underlying 25 with
  | none => intro h; simp at h
  | some d =>
    intro h
    cases d <;> simp_all

/-- A block that holds a term. -/
def Tb (w : World) (g : Nat) (cs : Array Value) : Prop := w.heap[g]? = some (.cells cs 25 (0, 0))
theorem Tb.lt {w : World} {g : Nat} {cs : Array Value} (h : Tb w g cs) : g < w.heap.size := lt_of_block h
theorem Tb.mono {S : List Nat} {w w' : World} {g : Nat} {cs : Array Value} (h : Tb w g cs) (hu : Upd S w w') (hn : g ∉ S) : Tb w' g cs := (hu.block g h.lt hn).trans h
theorem Tb.new (w : World) (cs : Array Value) (g : Nat) (h : g = w.heap.size) : Tb (w.alloc (.cells cs 25)) g cs := by
  subst h; exact heap_alloc_new w _
theorem Tb.old {w : World} {g : Nat} {cs : Array Value} (h : Tb w g cs) (o : Obj) : Tb (w.alloc o) g cs := (Below.heap_alloc w o g h.lt).trans h
theorem Tb.cell {w : World} {g : Nat} {cs : Array Value} (h : Tb w g cs) (i : Nat) : w.cell? ⟨g, i, none⟩ = cs[i]? := cell_of_row w g i _ _ _ h

theorem setRow_upd (w : World) (g : Nat) (cs : Array Value) : Upd [g] w (w.setRow g cs) :=
  ⟨rfl, rfl, rfl, by simp, fun k _ hn => by
    have : g ≠ k := fun e => hn (by simp [e])
    simp only [World.setRow, Array.getElem?_modify]
    rw [if_neg this]⟩
theorem setRow_tb {w : World} {g : Nat} {old : Array Value} (h : Tb w g old) (cs : Array Value) : Tb (w.setRow g cs) g cs := by
  unfold Tb at *
  simp only [World.setRow, Array.getElem?_modify, if_true, h]
  rfl

/-- A whole term is stored into a block of the call's own. -/
theorem store_T (w : World) {ops : Array Oper} {rest : List Oper} {o : Oper} {a : Act} {Q : Exit → Act → World → Prop} (hgd : o.guard = none) (x y : Operand) (ho : o.op = .store 25 x y)
    (g : Nat) (cells old : Array Value) (hx : a.eval x = .pointer (some ⟨g, 0, none⟩)) (hy : a.eval y = .agg cells) (hg : Tb w g old) (hold : old.size = 5) (hc : cells.size = 5) (h1 : cells.all (·.oneCell') = true)
    (h : ∀ w', Tb w' g cells → Upd [g] w w' → wpList Tryd.prog ops Q rest (a.put o.dst undef) w') : wpList Tryd.prog ops Q (o :: rest) a w :=
  wpList_store_row hgd 25 x y ho g cells hx hy 25 old hg (by rw [info_term, hc]) (by omega) h1 (h _ (setRow_tb hg cells) (setRow_upd w g cells))

theorem load_T (w : World) {ops : Array Oper} {rest : List Oper} {o : Oper} {a : Act} {Q : Exit → Act → World → Prop} (hgd : o.guard = none) (x : Operand) (ho : o.op = .load 25 x)
    (g : Nat) (cs : Array Value) (hx : a.eval x = .pointer (some ⟨g, 0, none⟩)) (hg : Tb w g cs) (hc : cs.size = 5)
    (h : wpList Tryd.prog ops Q rest (a.put o.dst (.agg cs)) w) : wpList Tryd.prog ops Q (o :: rest) a w := by
  obtain ⟨fs, h1⟩ := term_desc
  exact wpList_load_row hgd 25 x ho g hx 25 cs (0, 0) _ hg h1 rfl (by rw [info_term, hc]) h

theorem load_run (w : World) (g : Nat) (cs : Array Value) (hg : Tb w g cs) (hc : cs.size = 5) : (loadVar 25 ⟨g, 0, none⟩).run Tryd.prog w = .ok (.agg cs) w := by
  obtain ⟨fs, h1⟩ := term_desc
  exact run_loadVar_row w g 25 25 cs (0, 0) _ hg h1 rfl (by rw [info_term, hc])

/-- A term is handed back. -/
theorem ret_T {fn : Func} {R : Ending → World → Prop} {a : Act} {w : World} {p : Tmp} (h : fn.results = #[.cell p 25]) (hd : a.defers = []) (g : Nat) (cs : Array Value)
    (hp : a.tmps.getD p undef = .pointer (some ⟨g, 0, none⟩)) (hg : Tb w g cs) (hc : cs.size = 5) (hR : R (.returned (.agg cs)) w) : bodyPost Tryd.prog fn R .ret a w := by
  obtain ⟨fs, h1⟩ := term_desc
  exact bodyPost_ret (results_cell_row h a.tmps w g 25 cs (0, 0) _ hp hg h1 rfl (by rw [info_term, hc])) hd hR

/-- A term and a word more. -/
theorem ret_Tb {fn : Func} {R : Ending → World → Prop} {a : Act} {w : World} {p u : Tmp} (h : fn.results = #[.cell p 25, .tmp u]) (hd : a.defers = []) (g : Nat) (cs : Array Value) (v : Value)
    (hp : a.tmps.getD p undef = .pointer (some ⟨g, 0, none⟩)) (hg : Tb w g cs) (hc : cs.size = 5) (hu : a.tmps.getD u undef = v) (hR : R (.returned (.tuple #[.agg cs, v])) w) : bodyPost Tryd.prog fn R .ret a w := by
  refine bodyPost_ret (v := .tuple #[.agg cs, v]) ?_ hd hR
  rw [results_cell_tmp h, hp, hu]
  simp only [asAddr, Sem.run_pure, Result.andThen_ok, load_run w g cs hg hc]

/-- Two terms and a word more. -/
theorem ret_TTb {fn : Func} {R : Ending → World → Prop} {a : Act} {w : World} {p q u : Tmp} (h : fn.results = #[.cell p 25, .cell q 25, .tmp u]) (hd : a.defers = []) (g g2 : Nat) (cs cs2 : Array Value) (v : Value)
    (hp : a.tmps.getD p undef = .pointer (some ⟨g, 0, none⟩)) (hg : Tb w g cs) (hc : cs.size = 5) (hq : a.tmps.getD q undef = .pointer (some ⟨g2, 0, none⟩)) (hg2 : Tb w g2 cs2) (hc2 : cs2.size = 5)
    (hu : a.tmps.getD u undef = v) (hR : R (.returned (.tuple #[.agg cs, .agg cs2, v])) w) : bodyPost Tryd.prog fn R .ret a w := by
  refine bodyPost_ret (v := .tuple #[.agg cs, .agg cs2, v]) ?_ hd hR
  have hp' : a.tmps[p]?.getD undef = .pointer (some ⟨g, 0, none⟩) := by simpa using hp
  have hq' : a.tmps[q]?.getD undef = .pointer (some ⟨g2, 0, none⟩) := by simpa using hq
  have hu' : a.tmps[u]?.getD undef = v := by simpa using hu
  simp [results, h, hp', hq', hu', asAddr, load_run w g cs hg hc, load_run w g2 cs2 hg2 hc2]

theorem load_G (w : World) {ops : Array Oper} {rest : List Oper} {o : Oper} {a : Act} {Q : Exit → Act → World → Prop} (x : Operand) (ho : o.op = .load 25 x)
    (g : Nat) (cs : Array Value) (hx : a.eval x = .pointer (some ⟨g, 0, none⟩)) (hg : Tb w g cs) (hc : cs.size = 5) (hw : Region.wanted o (yielded ops a.tmps) = true)
    (h : wpList Tryd.prog ops Q rest (a.put o.dst (.agg cs)) w) : wpList Tryd.prog ops Q (o :: rest) a w := by
  obtain ⟨fs, h1⟩ := term_desc
  refine wpList_step fun K hK => ?_
  rw [if_pos hw]
  exact wp_load_row 25 x ho g hx 25 cs (0, 0) _ hg h1 rfl (by rw [info_term, hc]) (hK _ _ h)
theorem Tb.set {w : World} {g : Nat} {cs : Array Value} (h : Tb w g cs) (i : Nat) (v : Value) : Tb (w.setCell ⟨g, i, none⟩ v) g (cs.setIfInBounds i v) := by
  unfold Tb
  rw [heap_setCell_same w g i _ _ _ h]
theorem Tb.free {w : World} {g : Nat} {cs : Array Value} (h : Tb w g cs) (i : Nat) : w.frozen? ⟨g, i, none⟩ = false := frozen_of_row w g i _ _ h
theorem Tb.other {w : World} {g : Nat} {cs : Array Value} (h : Tb w g cs) (a : Addr) (ha : a.block ≠ g) (u : Value) : Tb (w.setCell a u) g cs := by
  unfold Tb
  rw [heap_setCell_other _ _ _ _ (fun e => ha e.symm)]; exact h

def IntB (w : World) (b : Nat) (n : Int) : Prop := w.heap[b]? = some (.cells #[.int .i64 n] 3 (0, 0))
theorem IntB.lt {w : World} {b : Nat} {n : Int} (h : IntB w b n) : b < w.heap.size := lt_of_block h
theorem IntB.cell {w : World} {b : Nat} {n : Int} (h : IntB w b n) : w.cell? ⟨b, 0, none⟩ = some (.int .i64 n) := cell_of_row w b 0 _ _ _ h
theorem IntB.free {w : World} {b : Nat} {n : Int} (h : IntB w b n) : w.frozen? ⟨b, 0, none⟩ = false := frozen_of_row w b 0 _ _ h
theorem IntB.set {w : World} {b : Nat} {n : Int} (h : IntB w b n) (m : Int) : IntB (w.setCell ⟨b, 0, none⟩ (.int .i64 m)) b m := by
  unfold IntB
  rw [heap_setCell_same w b 0 _ _ _ h]
  rfl
theorem IntB.mono {S : List Nat} {w w' : World} {b : Nat} {n : Int} (h : IntB w b n) (hu : Upd S w w') (hn : b ∉ S) : IntB w' b n := (hu.block b h.lt hn).trans h
def FunB (w : World) (b : Nat) (v : Value) (T : TypeId) : Prop := w.heap[b]? = some (.cells #[v] T (0, 0))
theorem FunB.lt {w : World} {b : Nat} {v : Value} {T : TypeId} (h : FunB w b v T) : b < w.heap.size := lt_of_block h
theorem FunB.cell {w : World} {b : Nat} {v : Value} {T : TypeId} (h : FunB w b v T) : w.cell? ⟨b, 0, none⟩ = some v := cell_of_row w b 0 _ _ _ h
theorem FunB.mono {S : List Nat} {w w' : World} {b : Nat} {v : Value} {T : TypeId} (h : FunB w b v T) (hu : Upd S w w') (hn : b ∉ S) : FunB w' b v T := (hu.block b h.lt hn).trans h

theorem IntB.new (w : World) (n : Int) (g : Nat) (h : g = w.heap.size) : IntB (w.alloc (.cells #[.int .i64 n] 3)) g n := by subst h; exact heap_alloc_new w _
theorem FunB.new (w : World) (v : Value) (T : TypeId) (g : Nat) (h : g = w.heap.size) : FunB (w.alloc (.cells #[v] T)) g v T := by subst h; exact heap_alloc_new w _
theorem FunB.set {w : World} {b : Nat} {v : Value} {T : TypeId} (h : FunB w b v T) (u : Value) : FunB (w.setCell ⟨b, 0, none⟩ u) b u T := by
  unfold FunB
  rw [heap_setCell_same w b 0 _ _ _ h]
  rfl
theorem FunB.free {w : World} {b : Nat} {v : Value} {T : TypeId} (h : FunB w b v T) : w.frozen? ⟨b, 0, none⟩ = false := frozen_of_row w b 0 _ _ h
theorem FunB.ne {w : World} {b b' : Nat} {v v' : Value} {T T' : TypeId} (h : FunB w b v T) (h' : FunB w b' v' T') (hT : T ≠ T') : b ≠ b' := fun e => by
  subst e
  have := h.symm.trans h'
  simp at this
  exact hT this.2
theorem IntB.fun {w : World} {b : Nat} {n : Int} (h : IntB w b n) : FunB w b (.int .i64 n) 3 := h

end Go.Proofs.YtehfoblfmehbdaaDoor

/- Nodes as trees, how they stand in memory. -/
namespace Go.Proofs.YtehfoblfmehbdaaDoor
open Go.RowKit

/-- A node as a tree. -/
inductive Nd where
  | mk (k : Int) (s : ByteArray) (num pos : Int) (K : List Nd) : Nd

def Nd.kd : Nd → Int
  | .mk k _ _ _ _ => k
def Nd.kids : Nd → List Nd
  | .mk _ _ _ _ K => K

mutual
/-- How deep. -/
def depN : Nd → Nat
  | .mk _ _ _ _ K => 1 + depR K
def depR : List Nd → Nat
  | [] => 0
  | n :: r => max (depN n) (depR r)
end
mutual
/-- How many. -/
def manN : Nd → Nat
  | .mk _ _ _ _ K => 1 + manR K
def manR : List Nd → Nat
  | [] => 0
  | n :: r => manN n + manR r
end
mutual
/-- What NodesOf counts. -/
def cntN : Nd → Nat
  | .mk _ s _ _ K => 1 + s.size / 8 + cntL K
def cntL : List Nd → Nat
  | [] => 0
  | n :: r => cntN n + cntL r
end
mutual
/-- How long the longest row in a tree is. -/
def nsz : Nd → Nat
  | .mk _ _ _ _ K => nszs K
def nszs : List Nd → Nat
  | [] => 0
  | n :: r => max (r.length + 1) (max (nsz n) (nszs r))
end
mutual
/-- How long the longest text in a tree is. -/
def nxz : Nd → Nat
  | .mk _ s _ _ K => max s.size (nxzs K)
def nxzs : List Nd → Nat
  | [] => 0
  | n :: r => max (nxz n) (nxzs r)
end
theorem nszs_len (K : List Nd) : K.length ≤ nszs K := by
  cases K with
  | nil => simp
  | cons t r => simp only [nszs, List.length_cons]; omega
theorem nszs_get (K : List Nd) (i : Nat) (hi : i < K.length) : nsz K[i] ≤ nszs K := by
  induction K generalizing i with
  | nil => simp at hi
  | cons t r ih =>
    cases i with
    | zero => simp only [nszs, List.getElem_cons_zero]; omega
    | succ i =>
      simp only [nszs, List.getElem_cons_succ]
      have := ih i (by simpa using hi)
      omega
theorem nszs_le (N : Nat) (K : List Nd) (hl : K.length ≤ N) (h : ∀ i (hi : i < K.length), nsz K[i] ≤ N) : nszs K ≤ N := by
  induction K with
  | nil => simp [nszs]
  | cons t r ih =>
    have h0 := h 0 (by simp)
    have h1 := ih (by simp at hl; omega) (fun i hi => by have := h (i + 1) (by simpa using hi); simpa using this)
    simp only [nszs]
    simp at h0 hl
    omega
theorem nxzs_get (K : List Nd) (i : Nat) (hi : i < K.length) : nxz K[i] ≤ nxzs K := by
  induction K generalizing i with
  | nil => simp at hi
  | cons t r ih =>
    cases i with
    | zero => simp only [nxzs, List.getElem_cons_zero]; omega
    | succ i =>
      simp only [nxzs, List.getElem_cons_succ]
      have := ih i (by simpa using hi)
      omega
theorem nxzs_le (N : Nat) (K : List Nd) (h : ∀ i (hi : i < K.length), nxz K[i] ≤ N) : nxzs K ≤ N := by
  induction K with
  | nil => simp [nxzs]
  | cons t r ih =>
    have h0 := h 0 (by simp)
    have h1 := ih (fun i hi => by have := h (i + 1) (by simpa using hi); simpa using this)
    simp only [nxzs]
    simp at h0
    omega
theorem cntL_take (K : List Nd) (k : Nat) (hk : k < K.length) : cntL (K.take (k + 1)) = cntL (K.take k) + cntN K[k] := by
  induction K generalizing k with
  | nil => simp at hk
  | cons t r ih =>
    cases k with
    | zero => simp [cntL]
    | succ k => simp only [List.take_succ_cons, cntL, List.getElem_cons_succ]; rw [ih k (by simpa using hk), Nat.add_assoc]
theorem manR_take (K : List Nd) (k : Nat) (hk : k < K.length) : manR (K.take (k + 1)) = manR (K.take k) + manN K[k] := by
  induction K generalizing k with
  | nil => simp at hk
  | cons t r ih =>
    cases k with
    | zero => simp [manR]
    | succ k => simp only [List.take_succ_cons, manR, List.getElem_cons_succ]; rw [ih k (by simpa using hk), Nat.add_assoc]
theorem manR_le (K : List Nd) (k : Nat) : manR (K.take k) ≤ manR K := by
  induction K generalizing k with
  | nil => simp
  | cons t r ih =>
    cases k with
    | zero => simp [manR]
    | succ k => simp only [List.take_succ_cons, manR]; have := ih k; omega
theorem manR_get (K : List Nd) (k : Nat) (hk : k < K.length) : manN K[k] ≤ manR K := by
  induction K generalizing k with
  | nil => simp at hk
  | cons t r ih =>
    cases k with
    | zero => simp only [List.getElem_cons_zero, manR]; omega
    | succ k => simp only [List.getElem_cons_succ, manR]; have := ih k (by simpa using hk); omega
theorem man_pos (n : Nd) : 0 < manN n := by cases n; rw [manN]; omega
mutual
theorem man_cnt : ∀ n : Nd, manN n ≤ cntN n
  | .mk _ s _ _ K => by rw [manN, cntN]; have := man_cntL K; omega
theorem man_cntL : ∀ K : List Nd, manR K ≤ cntL K
  | [] => by simp [manR, cntL]
  | n :: r => by rw [manR, cntL]; have := man_cnt n; have := man_cntL r; omega
end
mutual
theorem dep_man : ∀ n : Nd, depN n ≤ manN n
  | .mk _ _ _ _ K => by rw [depN, manN]; have := dep_manR K; omega
theorem dep_manR : ∀ K : List Nd, depR K ≤ manR K
  | [] => by simp [depR]
  | n :: r => by rw [depR, manR]; have := dep_man n; have := dep_manR r; omega
end
theorem depR_get (K : List Nd) (k : Nat) (hk : k < K.length) : depN K[k] ≤ depR K := by
  induction K generalizing k with
  | nil => simp at hk
  | cons t r ih =>
    cases k with
    | zero => simp only [List.getElem_cons_zero, depR]; omega
    | succ k => simp only [List.getElem_cons_succ, depR]; have := ih k (by simpa using hk); omega

/-- A row of nodes in memory. -/
def RowN (R : List Value → Nd → Prop) (w : World) (a : Option Addr) (K : List Nd) : Prop :=
  K = [] ∨ ∃ b o, a = some ⟨b, o, none⟩ ∧ b < w.heap.size ∧ ∀ i (hi : i < K.length), ∃ cs : List Value, cs.length = 5 ∧ (∀ j, j < 5 → w.cell? ⟨b, o + (i * 5 + j), none⟩ = cs[j]?) ∧ R cs K[i]
/-- The five cells of a node stand for a tree; each row has the room that it is given. -/
def NIn (w : World) : Nat → List Value → Nd → Prop
  | 0, _, _ => False
  | d + 1, cs, .mk k s num pos K => ∃ (a : Option Addr) (c : Nat), cs = [.int .u8 k, .string s, .int .i64 num, .int .i64 pos, .slice a K.length c] ∧ RowN (NIn w d) w a K ∧ K.length ≤ c ∧ c ≤ 9223372036854775807

theorem RowN.imp {R S : List Value → Nd → Prop} {w w' : World} {a : Option Addr} {K : List Nd} (h : RowN R w a K) (hu : Upd [] w w') (himp : ∀ cs t, R cs t → S cs t) : RowN S w' a K := by
  rcases h with h | ⟨b, o, e, hlt, hc⟩
  · exact Or.inl h
  · refine Or.inr ⟨b, o, e, Nat.lt_of_lt_of_le hlt hu.size, fun i hi => ?_⟩
    obtain ⟨cs, h1, h2, h3⟩ := hc i hi
    exact ⟨cs, h1, fun j hj => (hu.cell (p := ⟨b, o + (i * 5 + j), none⟩) hlt (by simp)).trans (h2 j hj), himp _ _ h3⟩
theorem NIn.mono {w w' : World} (hu : Upd [] w w') : ∀ (d : Nat) (cs : List Value) (t : Nd), NIn w d cs t → NIn w' d cs t := by
  intro d
  induction d with
  | zero => intro cs t h; exact h.elim
  | succ d ih =>
    intro cs t h
    cases t with
    | mk k s num pos K =>
      obtain ⟨a, c, rfl, h1, hcp⟩ := h
      exact ⟨a, c, rfl, h1.imp hu ih, hcp⟩
theorem NIn.more {w : World} : ∀ (d : Nat) (cs : List Value) (t : Nd), NIn w d cs t → NIn w (d + 1) cs t := by
  intro d
  induction d with
  | zero => intro cs t h; exact h.elim
  | succ d ih =>
    intro cs t h
    cases t with
    | mk k s num pos K =>
      obtain ⟨a, c, rfl, h1, hcp⟩ := h
      exact ⟨a, c, rfl, h1.imp (Upd.refl [] w) ih, hcp⟩
theorem NIn.len {w : World} {d : Nat} {cs : List Value} {t : Nd} (h : NIn w d cs t) : cs.length = 5 := by
  cases d with
  | zero => exact h.elim
  | succ d =>
    cases t
    obtain ⟨_, _, rfl, _⟩ := h
    rfl
theorem NIn.five {w : World} {d : Nat} {cs : List Value} {t : Nd} (h : NIn w d cs t) : cs.toArray.size = 5 := by simpa using h.len
theorem NIn.one {w : World} {d : Nat} {cs : List Value} {t : Nd} (h : NIn w d cs t) : cs.toArray.all (·.oneCell') = true := by
  cases d with
  | zero => exact h.elim
  | succ d =>
    cases t
    obtain ⟨_, _, rfl, _⟩ := h
    simp [Value.oneCell']
theorem list5 {cs : List Value} (h : cs.length = 5) : ∃ c0 c1 c2 c3 c4, cs = [c0, c1, c2, c3, c4] := by
  match cs, h with
  | [c0, c1, c2, c3, c4], _ => exact ⟨c0, c1, c2, c3, c4, rfl⟩

end Go.Proofs.YtehfoblfmehbdaaDoor

/- NodesOf, great and many: by their contracts. -/
namespace Go.Proofs.YtehfoblfmehbdaaDoor
open Go.RowKit

/-- A count is answered: where it is not past m, it is the tree's. -/
def CntX (m : Int) (t : Nd) (e : Ending) : Prop := ∃ z : Int, e = .returned (.int .i64 z) ∧ 1 ≤ z ∧ z ≤ m + 60000000000000 ∧ (z ≤ m → z = (cntN t : Nat))
/-- How far the count has come. -/
def InvZ (m z : Int) (N : Nat) : Prop := 1 ≤ z ∧ z ≤ m + 60000000000000 ∧ (z ≤ m → z = (N : Int))
theorem InvZ.step {m z zz : Int} {N M c : Nat} (h : InvZ m z N) (hz : z ≤ m) (h1 : 1 ≤ zz) (h2 : zz ≤ m - z + 60000000000000) (h3 : zz ≤ m - z → zz = (c : Int)) (hM : M = N + c) : InvZ m (z + zz) M := by
  obtain ⟨a1, a2, a3⟩ := h
  refine ⟨by omega, by omega, fun h => ?_⟩
  have := a3 hz
  have := h3 (by omega)
  omega
def NofX (d : Nat) : Prop := ∀ (w : World) (cs : List Value) (t : Nd) (m : Int), NIn w d cs t → nsz t ≤ 2199023255488 → nxz t ≤ 140737488355328 → 0 ≤ m → m ≤ 20000 → Calls Tryd.prog 16 #[.agg cs.toArray, .int .i64 m] w fun e w' => CntX m t e ∧ Upd [] w w'

set_option maxHeartbeats 4000000 in
set_option maxRecDepth 100000 in
theorem NofX_step (d : Nat) (ih : NofX d) : NofX (d + 1) := by
  intro w cs t m h hs hx hm0 hm1
  obtain ⟨k, s, num, pos, K⟩ := t
  obtain ⟨a, c, rfl, hK, -⟩ := h
  simp only [nsz] at hs
  simp only [nxz] at hx
  have HZ : Hid (nszs K ≤ 2199023255488) := hs
  have HX : Hid (nxzs K ≤ 140737488355328) := by show _ ≤ _; omega
  have hsz : s.size ≤ 140737488355328 := by omega
  have hl : K.length ≤ 2199023255488 := Nat.le_trans (nszs_len K) hs
  clear hs hx
  have HK : Hid (RowN (NIn w d) w a K) := hK
  have IH : Hid (∀ (w : World) (cs : List Value) (t : Nd) (m : Int), NIn w d cs t → nsz t ≤ 2199023255488 → nxz t ≤ 140737488355328 → 0 ≤ m → m ≤ 20000 → Calls Tryd.prog 16 #[.agg cs.toArray, .int .i64 m] w fun e w' => CntX m t e ∧ Upd [] w w') := ih
  have HTB0 : Hid (Tb (w.alloc (.cells #[.int .u8 k, .string s, .int .i64 num, .int .i64 pos, .slice a K.length c] 25)) w.heap.size #[.int .u8 k, .string s, .int .i64 num, .int .i64 pos, .slice a K.length c]) := Tb.new _ _ _ rfl
  have HU0 : Hid (Upd [] w (w.alloc (.cells #[.int .u8 k, .string s, .int .i64 num, .int .i64 pos, .slice a K.length c] 25))) := (Upd.refl [] w).alloc _
  obtain ⟨n0, hn0⟩ : ∃ n : Nat, n = 1 + s.size / 8 := ⟨_, rfl⟩
  have HW1 : Hid (wrap64 (1 + wrap64 ((s.size : Int) / 8)) = (n0 : Int)) := by show _ = _; unfold wrap64; omega
  have HE : Hid (cntN (.mk k s num pos K) = n0 + cntL K) := by show _ = _; rw [cntN, hn0]
  have HN0 : Hid (1 ≤ n0 ∧ n0 ≤ 60000000000000) := ⟨by omega, by omega⟩
  clear hK ih hn0 hsz
  go_enter Tryd.func16, Tryd.ntmps16
  go_wp2
  go_loopw [5, 6] (fun n i wr => ∃ (j : Nat) (z : Int), j ≤ K.length ∧ i = .int .i64 j ∧ n = .int .i64 z ∧ Upd [] w wr ∧ Tb wr w.heap.size #[.int .u8 k, .string s, .int .i64 num, .int .i64 pos, .slice a K.length c] ∧ InvZ m z (n0 + cntL (K.take j))) (fun _ i _ => K.length - (intOf i).toNat)
  case atStart =>
    refine ⟨0, (n0 : Int), Nat.zero_le _, rfl, by rw [HW1.out], HU0.out, HTB0.out, ?_⟩
    have := HN0.out
    exact ⟨by omega, by omega, fun _ => by simp [cntL]⟩
  case round =>
    obtain ⟨i, z, hi, rfl, rfl, hU, htb, hzf⟩ := hrel
    have y4 : wr.cell? ⟨w.heap.size, 4, none⟩ = some (.slice a K.length c) := htb.cell 4
    by_cases hlt2 : i < K.length
    · have i1 : (i : Int) < (K.length : Int) := by omega
      by_cases hzm : z ≤ m
      · rcases HK.out with h0 | ⟨b, o, rfl, hlt, hc⟩
        · rw [h0] at hlt2; simp at hlt2
        · obtain ⟨cs, hl5, hcell, hin⟩ := hc i hlt2
          obtain ⟨q0, q1, q2, q3, q4, rfl⟩ := list5 hl5
          have HIN : Hid (NIn w d [q0, q1, q2, q3, q4] K[i]) := hin
          have HSZ : Hid (nsz K[i] ≤ 2199023255488) := Nat.le_trans (nszs_get K i hlt2) HZ.out
          have HXK : Hid (nxz K[i] ≤ 140737488355328) := Nat.le_trans (nxzs_get K i hlt2) HX.out
          have x0 : wr.cell? ⟨b, o + i * 5, none⟩ = some q0 := (hU.cell (p := ⟨b, o + (i * 5 + 0), none⟩) hlt (by simp)).trans (hcell 0 (by omega))
          have x1 : wr.cell? ⟨b, o + i * 5 + 1, none⟩ = some q1 := (hU.cell (p := ⟨b, o + (i * 5 + 1), none⟩) hlt (by simp)).trans (hcell 1 (by omega))
          have x2 : wr.cell? ⟨b, o + i * 5 + 2, none⟩ = some q2 := (hU.cell (p := ⟨b, o + (i * 5 + 2), none⟩) hlt (by simp)).trans (hcell 2 (by omega))
          have x3 : wr.cell? ⟨b, o + i * 5 + 3, none⟩ = some q3 := (hU.cell (p := ⟨b, o + (i * 5 + 3), none⟩) hlt (by simp)).trans (hcell 3 (by omega))
          have x4 : wr.cell? ⟨b, o + i * 5 + 4, none⟩ = some q4 := (hU.cell (p := ⟨b, o + (i * 5 + 4), none⟩) hlt (by simp)).trans (hcell 4 (by omega))
          have HU : Hid (Upd [] w wr) := hU
          have HTB : Hid (Tb wr _ _) := htb
          have HZN : Hid (InvZ m z (n0 + cntL (K.take i))) := hzf
          have hwm : IntKind.i64.wrap (m - z) = m - z := by have := hzf.1; have := hzf.2.1; rw [IntKind.wrap_i64]; omega
          have hwn : wrap64 (m - z) = m - z := by have := hzf.1; have := hzf.2.1; unfold wrap64; omega
          clear hc hcell hin hU htb hzf
          go_wp2_with fail
          refine Calls.mono (IH.out wr _ _ _ (NIn.mono HU.out _ _ _ HIN.out) HSZ.out HXK.out (by omega) (by have := HZN.out.1; omega)) ?_
          rintro e w2 ⟨⟨zz, rfl, hz1, hz2, hz3⟩, hU2⟩
          have HU2 : Hid (Upd [] w w2) := HU.out.trans hU2
          have HTB2 : Hid (Tb w2 _ _) := HTB.out.mono hU2 (by simp)
          have hww : IntKind.i64.wrap (z + zz) = z + zz := by have := HZN.out.1; have := HZN.out.2.1; rw [IntKind.wrap_i64]; omega
          have hwx : wrap64 (z + zz) = z + zz := by have := HZN.out.1; have := HZN.out.2.1; unfold wrap64; omega
          have HZM : Hid (1 ≤ zz ∧ zz ≤ (m - z) + 60000000000000 ∧ (zz ≤ (m - z) → zz = cntN K[i])) := ⟨hz1, hz2, hz3⟩
          clear hU2 x0 x1 x2 x3 x4 y4 hz1 hz2 hz3
          go_wp2
          go_roundw
          case rel => exact ⟨i + 1, z + zz, by omega, by go_num, rfl, HU2.out, HTB2.out, HZN.out.step hzm HZM.out.1 HZM.out.2.1 HZM.out.2.2 (by rw [cntL_take K i hlt2]; omega)⟩
          case measure => simp [intOf]; omega
      · have hzb : decide (z ≤ m) = false := by simp; omega
        have HU : Hid (Upd [] w wr) := hU
        have HZS : Hid (1 ≤ z ∧ z ≤ m + 60000000000000) := ⟨hzf.1, hzf.2.1⟩
        clear hU htb hzf
        go_wp2
        go_ret
        exact ⟨⟨_, rfl, HZS.out.1, HZS.out.2, fun h => by omega⟩, HU.out⟩
    · have hd : decide ((i : Int) < (K.length : Int)) = false := by simp; omega
      have HU : Hid (Upd [] w wr) := hU
      have HZS : Hid (1 ≤ z ∧ z ≤ m + 60000000000000 ∧ (z ≤ m → z = (cntN (.mk k s num pos K) : Nat))) := ⟨hzf.1, hzf.2.1, fun h => by have := hzf.2.2 h; rw [List.take_of_length_le (by omega)] at this; rw [HE.out]; exact this⟩
      clear hU htb hzf
      go_wp2
      go_ret
      exact ⟨⟨_, rfl, HZS.out⟩, HU.out⟩
theorem NofX_all : ∀ d, NofX d
  | 0 => fun _ _ _ _ h => h.elim
  | d + 1 => NofX_step d (NofX_all d)

/-- There are not too many. -/
def GreatP (t : Nd) (e : Ending) : Prop := ∃ b : Bool, e = .returned (.bool b) ∧ (b = false → cntN t ≤ 20000)
set_option maxHeartbeats 1000000 in
set_option maxRecDepth 100000 in
theorem great_in (d : Nat) (w : World) (cs : List Value) (t : Nd) (h : NIn w d cs t) (hs : nsz t ≤ 2199023255488) (hx : nxz t ≤ 140737488355328) :
    Calls Tryd.prog 4 #[.agg cs.toArray] w fun e w' => GreatP t e ∧ Upd [] w w' := by
  have hsev := h.five
  have HN : Hid (∀ W, Upd [] w W → Calls Tryd.prog 16 #[.agg cs.toArray, .int .i64 20000] W fun e w' => CntX 20000 t e ∧ Upd [] W w') := fun W hu => NofX_all d W cs t 20000 (NIn.mono hu _ _ _ h) hs hx (by omega) (by omega)
  clear h hs hx
  obtain ⟨C, hC⟩ : ∃ C, C = cs.toArray := ⟨_, rfl⟩
  rw [← hC] at hsev HN ⊢
  have tb0 : Tb (w.alloc (.cells C 25)) w.heap.size C := Tb.new _ _ _ rfl
  have HU : Hid (Upd [] w (w.alloc (.cells C 25))) := (Upd.refl [] w).alloc _
  clear hC
  go_enter Tryd.func4, Tryd.ntmps4
  go_wp2_with (first | (refine load_T _ rfl _ rfl _ _ rfl tb0 hsev ?_) | fail)
  refine Calls.mono (HN.out _ HU.out) ?_
  rintro e w1 ⟨⟨z, rfl, _, _, hz⟩, h1⟩
  have U1 : Hid (Upd [] w w1) := HU.out.trans h1
  have HZ : Hid (z ≤ 20000 → z = (cntN t : Nat)) := hz
  clear h1 hz tb0
  by_cases hgt : (20000 : Int) < z
  · go_wp2
    go_ret
    exact ⟨⟨_, rfl, fun h => by simp at h⟩, U1.out⟩
  · have hd : decide ((20000 : Int) < z) = false := by simp; omega
    go_wp2
    go_ret
    exact ⟨⟨_, rfl, fun _ => by have := HZ.out (by omega); omega⟩, U1.out⟩

end Go.Proofs.YtehfoblfmehbdaaDoor

/- all of package node, of whatever closure. -/
namespace Go.Proofs.YtehfoblfmehbdaaDoor
open Go.RowKit

theorem NIn.kd {w : World} {d : Nat} {cs : List Value} {t : Nd} (h : NIn w d cs t) : cs[0]? = some (.int .u8 t.kd) := by
  cases d with
  | zero => exact h.elim
  | succ d =>
    cases t
    obtain ⟨_, _, rfl, _⟩ := h
    rfl
theorem RowN.turn {R Q : List Value → Nd → Prop} {S : List Nat} {w w' : World} (hu : Upd S w w') (hS : ∀ b ∈ S, ∃ n, IntB w b n) (hkd : ∀ cs t, R cs t → cs[0]? = some (.int .u8 t.kd)) (himp : ∀ cs t, R cs t → Q cs t) (a : Option Addr) (K : List Nd) (h1 : RowN R w a K) : RowN Q w' a K := by
  rcases h1 with h | ⟨b, o, e, hlt, hc⟩
  · exact Or.inl h
  · by_cases hK : K = []
    · exact Or.inl hK
    have hpos : 0 < K.length := by cases K with | nil => exact absurd rfl hK | cons x t => simp
    have hb : b ∉ S := fun hm => by
      obtain ⟨n, hn⟩ := hS b hm
      obtain ⟨cs, k1, k2, k3⟩ := hc 0 hpos
      have hk := k2 0 (by omega)
      rw [hkd _ _ k3] at hk
      have := cell_of_row w b (o + (0 * 5 + 0)) _ _ _ hn
      rw [this] at hk
      cases ho : o + (0 * 5 + 0) with
      | zero => rw [ho] at hk; simp at hk
      | succ m => rw [ho] at hk; simp at hk
    refine Or.inr ⟨b, o, e, Nat.lt_of_lt_of_le hlt hu.size, fun i hi => ?_⟩
    obtain ⟨cs, k1, k2, k3⟩ := hc i hi
    exact ⟨cs, k1, fun j hj => (hu.cell (p := ⟨b, o + (i * 5 + j), none⟩) hlt hb).trans (k2 j hj), himp _ _ k3⟩
/-- Boxes of integers may turn: trees stay. -/
theorem NIn.upd {S : List Nat} {w w' : World} (hu : Upd S w w') (hS : ∀ b ∈ S, ∃ n, IntB w b n) : ∀ (d : Nat) (cs : List Value) (t : Nd), NIn w d cs t → NIn w' d cs t := by
  intro d
  induction d with
  | zero => intro cs t h; exact h.elim
  | succ d ih =>
    intro cs t h
    cases t with
    | mk k s num pos K =>
      obtain ⟨a, c, rfl, h1, hcp⟩ := h
      exact ⟨a, c, rfl, RowN.turn hu hS (fun _ _ h => h.kd) ih a K h1, hcp⟩
theorem RowN.upd {S : List Nat} {w w' : World} (hu : Upd S w w') (hS : ∀ b ∈ S, ∃ n, IntB w b n) (d : Nat) (a : Option Addr) (K : List Nd) (h : RowN (NIn w d) w a K) : RowN (NIn w' d) w' a K :=
  RowN.turn hu hS (fun _ _ h => h.kd) (NIn.upd hu hS d) a K h

/-- Yes or no is answered. -/
def AllP (Y N : World → Prop) (e : Ending) (w' : World) : Prop := ∃ b : Bool, e = .returned (.bool b) ∧ (b = true → Y w') ∧ (b = false → N w')

set_option maxHeartbeats 4000000 in
set_option maxRecDepth 100000 in
theorem all_gen (a : Option Addr) (c d : Nat) (K : List Nd) (fid : Nat) (cp : Array Value) (I : Nat → World → Prop) (F : World → Prop) (w : World) (hs : K.length ≤ 2199023255488)
    (eg : ∀ args w, (callFunc fid args).run Tryd.prog w = .ok (.enter fid args) w) (h0 : I 0 w) (hI : ∀ k W, I k W → RowN (NIn W d) W a K) (hV : ∀ k W V, I k W → Upd [] W V → I k V)
    (hp : ∀ k (hk : k < K.length) (cs : List Value) (W : World), I k W → NIn W d cs K[k] → Calls Tryd.prog fid (#[.agg cs.toArray] ++ cp) W (AllP (I (k + 1)) F)) :
    Calls Tryd.prog 42 #[.slice a K.length c, .func (.func fid) #[] cp] w (AllP (I K.length) F) := by
  have HP : Hid (∀ k (hk : k < K.length) (cs : List Value) (W : World), I k W → NIn W d cs K[k] → Calls Tryd.prog fid (#[.agg cs.toArray] ++ cp) W (AllP (I (k + 1)) F)) := hp
  have HI : Hid (∀ k W, I k W → RowN (NIn W d) W a K) := hI
  have HV : Hid (∀ k W V, I k W → Upd [] W V → I k V) := hV
  clear hp hI hV
  go_enter Tryd.func42, Tryd.ntmps42
  go_wp2
  go_loopw [9] (fun i wr => ∃ k : Nat, k ≤ K.length ∧ i = .int .i64 k ∧ I k wr) (fun i _ => K.length - (intOf i).toNat)
  case atStart => exact ⟨0, Nat.zero_le _, rfl, h0⟩
  case round =>
    obtain ⟨k, hk, rfl, hik⟩ := hrel
    by_cases hlt : k < K.length
    · have i1 : (k : Int) < (K.length : Int) := by omega
      rcases HI.out k _ hik with h1 | ⟨b, o, rfl, hb, hc⟩
      · rw [h1] at hlt; simp at hlt
      obtain ⟨cs, hl5, hcell, hin⟩ := hc k hlt
      have hone := hin.one
      obtain ⟨q0, q1, q2, q3, q4, rfl⟩ := list5 hl5
      have x0 : wr.cell? ⟨b, o + k * 5, none⟩ = some q0 := hcell 0 (by omega)
      have x1 : wr.cell? ⟨b, o + k * 5 + 1, none⟩ = some q1 := hcell 1 (by omega)
      have x2 : wr.cell? ⟨b, o + k * 5 + 2, none⟩ = some q2 := hcell 2 (by omega)
      have x3 : wr.cell? ⟨b, o + k * 5 + 3, none⟩ = some q3 := hcell 3 (by omega)
      have x4 : wr.cell? ⟨b, o + k * 5 + 4, none⟩ = some q4 := hcell 4 (by omega)
      have HIN : Hid (NIn wr d [q0, q1, q2, q3, q4] K[k]) := hin
      have HIK : Hid (I k wr) := hik
      have tz : Tb (wr.alloc (.cells #[.int .u8 0, .string ⟨#[]⟩, .int .i64 0, .int .i64 0, .slice none 0 0] 25)) wr.heap.size #[.int .u8 0, .string ⟨#[]⟩, .int .i64 0, .int .i64 0, .slice none 0 0] := Tb.new _ _ _ rfl
      have HUZ : Hid (Upd [] wr (wr.alloc (.cells #[.int .u8 0, .string ⟨#[]⟩, .int .i64 0, .int .i64 0, .slice none 0 0] 25))) := (Upd.refl [] wr).alloc _
      clear hc hcell hin hik h0
      go_wp2_with (first
        | (refine store_T _ rfl _ _ rfl _ #[q0, q1, q2, q3, q4] _ rfl rfl tz rfl rfl hone ?_; intro w1 t1 u1)
        | (refine load_T _ rfl _ rfl _ _ rfl t1 rfl ?_)
        | fail)
      have U1 : Upd [] wr w1 := HUZ.out.then u1 (by simp)
      refine Calls.mono (HP.out k hlt _ _ (HV.out k _ _ HIK.out U1) (NIn.mono U1 _ _ _ HIN.out)) ?_
      rintro e w2 ⟨bb, rfl, hy, hn⟩
      have HY : Hid (bb = true → I (k + 1) w2) := hy
      have HN : Hid (bb = false → F w2) := hn
      clear hy hn t1 u1 U1 tz x0 x1 x2 x3 x4
      cases bb with
      | true =>
        go_wp2
        go_roundw
        case rel => exact ⟨k + 1, by omega, by go_num, by have := HY.out; simpa using this⟩
        case measure => simp [intOf]; omega
      | false =>
        go_wp2
        go_ret
        exact ⟨false, rfl, fun h => (by cases h), fun _ => (by have := HN.out; simpa using this)⟩
    · have hd : decide ((k : Int) < (K.length : Int)) = false := by simp; omega
      have HIK : Hid (I K.length wr) := by
        have : k = K.length := by omega
        rw [← this]; exact hik
      clear hik h0
      go_wp2
      go_ret
      exact ⟨true, rfl, fun _ => HIK.out, fun h => by cases h⟩

end Go.Proofs.YtehfoblfmehbdaaDoor
