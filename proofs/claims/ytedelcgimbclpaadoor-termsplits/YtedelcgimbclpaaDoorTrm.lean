/- Whole terms stored, loaded, handed back. -/
import Derived.Test.YtedelcgimbclpaaDoorJK
namespace Go.Proofs.YtedelcgimbclpaaDoor
open Go.RowKit

theorem info_term : (Tryd.prog.info? 26).map (·.size) = some 7 := by kernel_rfl
theorem agg_term : (match (Tryd.prog.underlying 26) with | some (.struct _) => true | _ => false) = true := by kernel_rfl

theorem term_desc : ∃ fs, Tryd.prog.underlying 26 = some (.struct fs) := by
  have h := agg_term
  revert h
  cases hq : Tryd.prog.underlying 26 with
  | none => intro h; simp at h
  | some d =>
    intro h
    cases d <;> simp_all

/-- A block that holds a term. -/
def Tb (w : World) (g : Nat) (cs : Array Value) : Prop := w.heap[g]? = some (.cells cs 26 (0, 0))
theorem Tb.lt {w : World} {g : Nat} {cs : Array Value} (h : Tb w g cs) : g < w.heap.size := lt_of_block h
theorem Tb.mono {S : List Nat} {w w' : World} {g : Nat} {cs : Array Value} (h : Tb w g cs) (hu : Upd S w w') (hn : g ∉ S) : Tb w' g cs := (hu.block g h.lt hn).trans h
theorem Tb.new (w : World) (cs : Array Value) (g : Nat) (h : g = w.heap.size) : Tb (w.alloc (.cells cs 26)) g cs := by
  subst h; exact heap_alloc_new w _
theorem Tb.old {w : World} {g : Nat} {cs : Array Value} (h : Tb w g cs) (o : Obj) : Tb (w.alloc o) g cs := (Below.heap_alloc w o g h.lt).trans h
theorem Tb.cell {w : World} {g : Nat} {cs : Array Value} (h : Tb w g cs) (i : Nat) : w.cell? ⟨g, i, none⟩ = cs[i]? := cell_of_row w g i _ _ _ h

theorem setRow_upd (w : World) (g : Nat) (cs : Array Value) : Upd [g] w (w.setRow g cs) :=
  ⟨rfl, rfl, rfl, by simp, fun k _ hn => by
    have : g ≠ k := fun e => hn (by simp [e])
    simp only [World.setRow, Array.getElem?_modify]
    rw [if_neg this]⟩
theorem setRow_tb {w : World} {g : Nat} {old : Array Value} (h : Tb w g old) (cs : Array Value) : Tb (w.setRow g cs) g cs := by
  unfold Tb at *
  simp only [World.setRow, Array.getElem?_modify, if_true, h]
  rfl

/-- Limbs lie in no block that holds a term. -/
theorem At.keep {w w' : World} {a : Option Addr} {M : List Nat} {g : Nat} {k num : Int} {neg : Bool} {s : ByteArray} {a1 a2 a3 : Option Addr} {n1 n2 n3 c1 c2 c3 : Nat} (h : At w a M)
    (ht : Tb w g #[.int .u8 k, .bool neg, .slice a1 n1 c1, .string s, .int .i64 num, .slice a2 n2 c2, .slice a3 n3 c3]) (hu : Upd [g] w w') : At w' a M := by
  rcases h with h | ⟨b, o, e, hlt, hc⟩
  · exact Or.inl h
  · by_cases hM : M = []
    · exact Or.inl hM
    · have hpos : 0 < M.length := by cases M with | nil => exact absurd rfl hM | cons x t => simp
      have hb : b ≠ g := by
        intro e
        subst e
        have h0 := hc 0 hpos
        rw [Nat.add_zero, ht.cell o] at h0
        match o, h0 with
        | 0, h0 => simp at h0
        | 1, h0 => simp at h0
        | 2, h0 => simp at h0
        | 3, h0 => simp at h0
        | 4, h0 => simp at h0
        | 5, h0 => simp at h0
        | 6, h0 => simp at h0
        | n + 7, h0 => simp at h0
      exact Or.inr ⟨b, o, e, Nat.lt_of_lt_of_le hlt hu.size, fun i hi => (hu.cell (p := ⟨b, o + i, none⟩) hlt (by simp [hb])).trans (hc i hi)⟩

/-- A whole term is stored into a block of the call's own. -/
theorem store_T (w : World) {ops : Array Oper} {rest : List Oper} {o : Oper} {a : Act} {Q : Exit → Act → World → Prop} (hgd : o.guard = none) (x y : Operand) (ho : o.op = .store 26 x y)
    (g : Nat) (cells old : Array Value) (hx : a.eval x = .pointer (some ⟨g, 0, none⟩)) (hy : a.eval y = .agg cells) (hg : Tb w g old) (hold : old.size = 7) (hc : cells.size = 7) (h1 : cells.all (·.oneCell') = true)
    (h : ∀ w', Tb w' g cells → Upd [g] w w' → wpList Tryd.prog ops Q rest (a.put o.dst undef) w') : wpList Tryd.prog ops Q (o :: rest) a w :=
  wpList_store_row hgd 26 x y ho g cells hx hy 26 old hg (by rw [info_term, hc]) (by omega) h1 (h _ (setRow_tb hg cells) (setRow_upd w g cells))

theorem store_V (w : World) {ops : Array Oper} {rest : List Oper} {o : Oper} {a : Act} {Q : Exit → Act → World → Prop} (hgd : o.guard = none) (x y : Operand) (ho : o.op = .store 26 x y)
    (g : Nat) (old : Array Value) (k num : Int) (neg : Bool) (s : ByteArray) (a1 a2 a3 : Option Addr) (n1 n2 n3 c1 c2 c3 : Nat) (hx : a.eval x = .pointer (some ⟨g, 0, none⟩))
    (hy : a.eval y = .agg #[.int .u8 k, .bool neg, .slice a1 n1 c1, .string s, .int .i64 num, .slice a2 n2 c2, .slice a3 n3 c3]) (hg : Tb w g old) (hold : old.size = 7)
    (h : ∀ w', Tb w' g #[.int .u8 k, .bool neg, .slice a1 n1 c1, .string s, .int .i64 num, .slice a2 n2 c2, .slice a3 n3 c3] → Upd [g] w w' → wpList Tryd.prog ops Q rest (a.put o.dst undef) w') : wpList Tryd.prog ops Q (o :: rest) a w :=
  store_T w hgd x y ho g _ old hx hy hg hold rfl (by simp [Value.oneCell']) h

/-- .. and loaded. -/
theorem load_T (w : World) {ops : Array Oper} {rest : List Oper} {o : Oper} {a : Act} {Q : Exit → Act → World → Prop} (hgd : o.guard = none) (x : Operand) (ho : o.op = .load 26 x)
    (g : Nat) (cs : Array Value) (hx : a.eval x = .pointer (some ⟨g, 0, none⟩)) (hg : Tb w g cs) (hc : cs.size = 7)
    (h : wpList Tryd.prog ops Q rest (a.put o.dst (.agg cs)) w) : wpList Tryd.prog ops Q (o :: rest) a w := by
  obtain ⟨fs, h1⟩ := term_desc
  exact wpList_load_row hgd 26 x ho g hx 26 cs (0, 0) _ hg h1 rfl (by rw [info_term, hc]) h

theorem load_run (w : World) (g : Nat) (cs : Array Value) (hg : Tb w g cs) (hc : cs.size = 7) : (loadVar 26 ⟨g, 0, none⟩).run Tryd.prog w = .ok (.agg cs) w := by
  obtain ⟨fs, h1⟩ := term_desc
  exact run_loadVar_row w g 26 26 cs (0, 0) _ hg h1 rfl (by rw [info_term, hc])

/-- A term is handed back. -/
theorem ret_T {fn : Func} {R : Ending → World → Prop} {a : Act} {w : World} {p : Tmp} (h : fn.results = #[.cell p 26]) (hd : a.defers = []) (g : Nat) (cs : Array Value)
    (hp : a.tmps.getD p undef = .pointer (some ⟨g, 0, none⟩)) (hg : Tb w g cs) (hc : cs.size = 7) (hR : R (.returned (.agg cs)) w) : bodyPost Tryd.prog fn R .ret a w := by
  obtain ⟨fs, h1⟩ := term_desc
  exact bodyPost_ret (results_cell_row h a.tmps w g 26 cs (0, 0) _ hp hg h1 rfl (by rw [info_term, hc])) hd hR

/-- A term and a word more. -/
theorem ret_Tb {fn : Func} {R : Ending → World → Prop} {a : Act} {w : World} {p u : Tmp} (h : fn.results = #[.cell p 26, .tmp u]) (hd : a.defers = []) (g : Nat) (cs : Array Value) (v : Value)
    (hp : a.tmps.getD p undef = .pointer (some ⟨g, 0, none⟩)) (hg : Tb w g cs) (hc : cs.size = 7) (hu : a.tmps.getD u undef = v) (hR : R (.returned (.tuple #[.agg cs, v])) w) : bodyPost Tryd.prog fn R .ret a w := by
  refine bodyPost_ret (v := .tuple #[.agg cs, v]) ?_ hd hR
  rw [results_cell_tmp h, hp, hu]
  simp only [asAddr, Sem.run_pure, Result.andThen_ok, load_run w g cs hg hc]

/-- Two terms and a word more. -/
theorem ret_TTb {fn : Func} {R : Ending → World → Prop} {a : Act} {w : World} {p q u : Tmp} (h : fn.results = #[.cell p 26, .cell q 26, .tmp u]) (hd : a.defers = []) (g g2 : Nat) (cs cs2 : Array Value) (v : Value)
    (hp : a.tmps.getD p undef = .pointer (some ⟨g, 0, none⟩)) (hg : Tb w g cs) (hc : cs.size = 7) (hq : a.tmps.getD q undef = .pointer (some ⟨g2, 0, none⟩)) (hg2 : Tb w g2 cs2) (hc2 : cs2.size = 7)
    (hu : a.tmps.getD u undef = v) (hR : R (.returned (.tuple #[.agg cs, .agg cs2, v])) w) : bodyPost Tryd.prog fn R .ret a w := by
  refine bodyPost_ret (v := .tuple #[.agg cs, .agg cs2, v]) ?_ hd hR
  have hp' : a.tmps[p]?.getD undef = .pointer (some ⟨g, 0, none⟩) := by simpa using hp
  have hq' : a.tmps[q]?.getD undef = .pointer (some ⟨g2, 0, none⟩) := by simpa using hq
  have hu' : a.tmps[u]?.getD undef = v := by simpa using hu
  simp [results, h, hp', hq', hu', asAddr, load_run w g cs hg hc, load_run w g2 cs2 hg2 hc2]

end Go.Proofs.YtedelcgimbclpaaDoor
