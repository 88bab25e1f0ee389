/- formOf of package node, by its contract. -/
import Derived.Test.YtejcppnleckmfaaDoorNdFl
namespace Go.Proofs.YtejcppnleckmfaaDoor
open Go.RowKit

/-- A form: the role, the kind, how many kids at least, their roles, and whether there may be more. -/
structure Fm where
  ro : Int
  kd : Int
  le : Nat
  ks : List Int
  mo : Bool
def formsL : List Fm := [⟨0, 1, 0, [], false⟩, ⟨0, 2, 0, [], false⟩, ⟨0, 3, 0, [], false⟩, ⟨0, 4, 0, [], false⟩, ⟨0, 5, 0, [0], true⟩, ⟨0, 6, 0, [0], true⟩, ⟨0, 7, 1, [0, 0], false⟩, ⟨0, 8, 2, [0, 0], false⟩, ⟨0, 9, 1, [0], true⟩, ⟨0, 10, 1, [9], true⟩, ⟨0, 11, 0, [], false⟩, ⟨0, 12, 2, [0, 10], true⟩, ⟨0, 13, 1, [11], true⟩, ⟨0, 14, 1, [16], true⟩, ⟨0, 16, 2, [3, 12], true⟩, ⟨0, 17, 2, [0, 17], true⟩, ⟨0, 19, 1, [0], true⟩, ⟨1, 22, 0, [2], true⟩, ⟨2, 21, 1, [9], true⟩, ⟨3, 19, 1, [0], true⟩, ⟨4, 19, 0, [0], true⟩, ⟨5, 19, 1, [0], false⟩, ⟨6, 19, 0, [], false⟩, ⟨7, 19, 0, [3], true⟩, ⟨8, 19, 1, [3], true⟩, ⟨9, 20, 3, [4, 7, 3], false⟩, ⟨10, 20, 3, [5, 7, 3], false⟩, ⟨11, 20, 3, [6, 8, 3], false⟩, ⟨12, 20, 3, [13, 7, 3], false⟩, ⟨13, 19, 1, [14], false⟩, ⟨14, 5, 2, [15, 0], false⟩, ⟨15, 2, 0, [], false⟩, ⟨15, 3, 0, [], false⟩, ⟨16, 20, 3, [5, 7, 3], false⟩, ⟨16, 15, 2, [0, 3], false⟩, ⟨17, 18, 2, [0, 0], false⟩]
theorem forms_len : formsL.length = 36 := rfl
def fm (i : Nat) : Fm := formsL.getD i ⟨0, 0, 0, [], false⟩
/-- The table stands in its block: its rows of roles at A, with the room C. -/
structure Frm (A : Nat → Option Addr) (C : Nat → Nat) (w : World) : Prop where
  lt : 0 < w.heap.size
  c0 : ∀ i, i < 36 → w.cell? ⟨0, i * 5, none⟩ = some (.int .u8 (fm i).ro)
  c1 : ∀ i, i < 36 → w.cell? ⟨0, i * 5 + 1, none⟩ = some (.int .u8 (fm i).kd)
  c2 : ∀ i, i < 36 → w.cell? ⟨0, i * 5 + 2, none⟩ = some (.int .u8 (fm i).le)
  c3 : ∀ i, i < 36 → w.cell? ⟨0, i * 5 + 3, none⟩ = some (.slice (A i) (fm i).ks.length (C i))
  c4 : ∀ i, i < 36 → w.cell? ⟨0, i * 5 + 4, none⟩ = some (.bool (fm i).mo)
  cap : ∀ i, i < 36 → (fm i).ks.length ≤ C i ∧ C i ≤ 9223372036854775807
  row : ∀ i, i < 36 → ∀ j (h : j < (fm i).ks.length), ∃ b o, A i = some ⟨b, o, none⟩ ∧ b < w.heap.size ∧ w.cell? ⟨b, o + j, none⟩ = some (.int .u8 ((fm i).ks[j]'h))
theorem Frm.mono {A : Nat → Option Addr} {C : Nat → Nat} {w w' : World} (h : Frm A C w) (hu : Upd [] w w') : Frm A C w' where
  lt := Nat.lt_of_lt_of_le h.lt hu.size
  c0 := fun i hi => (hu.cell (p := ⟨0, i * 5, none⟩) h.lt (by simp)).trans (h.c0 i hi)
  c1 := fun i hi => (hu.cell (p := ⟨0, i * 5 + 1, none⟩) h.lt (by simp)).trans (h.c1 i hi)
  c2 := fun i hi => (hu.cell (p := ⟨0, i * 5 + 2, none⟩) h.lt (by simp)).trans (h.c2 i hi)
  c3 := fun i hi => (hu.cell (p := ⟨0, i * 5 + 3, none⟩) h.lt (by simp)).trans (h.c3 i hi)
  c4 := fun i hi => (hu.cell (p := ⟨0, i * 5 + 4, none⟩) h.lt (by simp)).trans (h.c4 i hi)
  cap := h.cap
  row := fun i hi j hj => by
    obtain ⟨b, o, e, hb, hc⟩ := h.row i hi j hj
    exact ⟨b, o, e, Nat.lt_of_lt_of_le hb hu.size, (hu.cell (p := ⟨b, o + j, none⟩) hb (by simp)).trans hc⟩
/-- What formOf answers: the first form of the role and the kind. -/
def FoP (A : Nat → Option Addr) (C : Nat → Nat) (w : World) (k r : Int) (e : Ending) (w' : World) : Prop :=
  Upd [] w w' ∧ ((∃ i, i < 36 ∧ (fm i).ro = r ∧ (fm i).kd = k ∧ (∀ j, j < i → ¬ ((fm j).ro = r ∧ (fm j).kd = k)) ∧ e = .returned (.tuple #[.agg #[.int .u8 (fm i).ro, .int .u8 (fm i).kd, .int .u8 (fm i).le, .slice (A i) (fm i).ks.length (C i), .bool (fm i).mo], .bool true])) ∨
    ((∀ j, j < 36 → ¬ ((fm j).ro = r ∧ (fm j).kd = k)) ∧ e = .returned (.tuple #[.agg #[.int .u8 0, .int .u8 0, .int .u8 0, .slice none 0 0, .bool false], .bool false])))

theorem info62 : (Tryd.prog.info? 63).map (·.size) = some 5 := by kernel_rfl
theorem agg62 : (match (Tryd.prog.underlying 63) with | some (.struct _) => true | _ => false) = true := by kernel_rfl
theorem desc62 : ∃ fs, Tryd.prog.underlying 63 = some (.struct fs) := by
  have h := agg62
  revert h
  cases hq : Tryd.prog.underlying 63 with
  | none => intro h; simp at h
  | some d =>
    intro h
    cases d <;> simp_all
theorem load_runF (w : World) (g : Nat) (cs : Array Value) (hg : w.heap[g]? = some (.cells cs 63 (0, 0))) (hc : cs.size = 5) : (loadVar 63 ⟨g, 0, none⟩).run Tryd.prog w = .ok (.agg cs) w := by
  obtain ⟨fs, h1⟩ := desc62
  exact run_loadVar_row w g 63 63 cs (0, 0) _ hg h1 rfl (by rw [info62, hc])
/-- A form and a word more are handed back. -/
theorem ret_F {fn : Func} {R : Ending → World → Prop} {a : Act} {w : World} {p u : Tmp} (h : fn.results = #[.cell p 63, .tmp u]) (hd : a.defers = []) (g : Nat) (cs : Array Value) (v : Value)
    (hp : a.tmps.getD p undef = .pointer (some ⟨g, 0, none⟩)) (hg : w.heap[g]? = some (.cells cs 63 (0, 0))) (hc : cs.size = 5) (hu : a.tmps.getD u undef = v) (hR : R (.returned (.tuple #[.agg cs, v])) w) : bodyPost Tryd.prog fn R .ret a w := by
  refine bodyPost_ret (v := .tuple #[.agg cs, v]) ?_ hd hR
  rw [results_cell_tmp h, hp, hu]
  simp only [asAddr, Sem.run_pure, Result.andThen_ok, load_runF w g cs hg hc]

set_option maxHeartbeats 2000000 in
set_option maxRecDepth 100000 in
theorem fo_a (A : Nat → Option Addr) (C : Nat → Nat) (k r : Int) (w : World) (hF : Frm A C w) (h : r ≠ 17) : Calls Tryd.prog 42 #[.int .u8 k, .int .u8 r] w (FoP A C w k r) := by
  have HF : Hid (Frm A C (w.alloc (.cells #[.int .u8 0, .int .u8 0, .int .u8 0, .slice none 0 0, .bool false] 63))) := hF.mono ((Upd.refl [] w).alloc _)
  have HU0 : Hid (Upd [] w (w.alloc (.cells #[.int .u8 0, .int .u8 0, .int .u8 0, .slice none 0 0, .bool false] 63))) := (Upd.refl [] w).alloc _
  have e0 : (r == 17) = false := beq_eq_false_iff_ne.2 h
  clear hF
  go_enter Tryd.func42, Tryd.ntmps42
  go_wp2
  go_loopw [13] (fun i wr => ∃ j : Nat, j ≤ 36 ∧ i = .int .i64 j ∧ (∀ l, l < j → ¬ ((fm l).ro = r ∧ (fm l).kd = k)) ∧ wr = w.alloc (.cells #[.int .u8 0, .int .u8 0, .int .u8 0, .slice none 0 0, .bool false] 63)) (fun i _ => 36 - (intOf i).toNat)
  case atStart => exact ⟨0, by omega, rfl, fun l hl => by omega, rfl⟩
  case round =>
    obtain ⟨j, hj, rfl, hy, rfl⟩ := hrel
    have HY : Hid (∀ l, l < j → ¬ ((fm l).ro = r ∧ (fm l).kd = k)) := hy
    clear hy
    by_cases hlt : j < 36
    · have i1 : (j : Int) < 36 := by omega
      have x0 := HF.out.c0 j hlt
      have x1 := HF.out.c1 j hlt
      have x2 := HF.out.c2 j hlt
      have x3 := HF.out.c3 j hlt
      have x4 := HF.out.c4 j hlt
      go_wp2
      · rename_i e1 e2
        have e3 : (fm j).kd = k := eq_of_beq e2
        clear x0 x1 x2 x3 x4
        refine ret_F Tryd.results42 rfl w.heap.size _ (.bool true) rfl (heap_alloc_new w _) rfl rfl ?_
        exact ⟨(Upd.refl [] w).alloc _, Or.inl ⟨j, hlt, e1, e3, HY.out, by rw [e1]⟩⟩
      · rename_i e1 e2
        refine ⟨⟨j + 1, by omega, by go_num, fun l hl => ?_, trivial⟩, by simp [intOf]; omega⟩
        by_cases e : l = j
        · subst e; rintro ⟨_, h⟩; rw [h] at e2; simp at e2
        · exact HY.out l (by omega)
      · rename_i e1
        refine ⟨⟨j + 1, by omega, by go_num, fun l hl => ?_, trivial⟩, by simp [intOf]; omega⟩
        by_cases e : l = j
        · subst e; rintro ⟨h, _⟩; exact e1 h
        · exact HY.out l (by omega)
    · have i1 : ¬ (j : Int) < 36 := by omega
      have HJ : Hid (j = 36) := by show j = 36; omega
      go_wp2
      refine ret_F Tryd.results42 rfl w.heap.size #[.int .u8 0, .int .u8 0, .int .u8 0, .slice none 0 0, .bool false] (.bool false) rfl (heap_alloc_new w _) rfl rfl ?_
      exact ⟨HU0.out, Or.inr ⟨fun l hl => HY.out l (by rw [HJ.out]; exact hl), rfl⟩⟩
set_option maxHeartbeats 2000000 in
set_option maxRecDepth 100000 in
theorem fo_b (A : Nat → Option Addr) (C : Nat → Nat)  (w : World) (hF : Frm A C w)  : Calls Tryd.prog 42 #[.int .u8 18, .int .u8 17] w (FoP A C w 18 17) := by
  have HF : Hid (Frm A C (w.alloc (.cells #[.int .u8 0, .int .u8 0, .int .u8 0, .slice none 0 0, .bool false] 63))) := hF.mono ((Upd.refl [] w).alloc _)
  have HU0 : Hid (Upd [] w (w.alloc (.cells #[.int .u8 0, .int .u8 0, .int .u8 0, .slice none 0 0, .bool false] 63))) := (Upd.refl [] w).alloc _
  clear hF
  go_enter Tryd.func42, Tryd.ntmps42
  go_wp2
  go_loopw [13] (fun i wr => ∃ j : Nat, j ≤ 36 ∧ i = .int .i64 j ∧ (∀ l, l < j → ¬ ((fm l).ro = 17 ∧ (fm l).kd = 18)) ∧ wr = w.alloc (.cells #[.int .u8 0, .int .u8 0, .int .u8 0, .slice none 0 0, .bool false] 63)) (fun i _ => 36 - (intOf i).toNat)
  case atStart => exact ⟨0, by omega, rfl, fun l hl => by omega, rfl⟩
  case round =>
    obtain ⟨j, hj, rfl, hy, rfl⟩ := hrel
    have HY : Hid (∀ l, l < j → ¬ ((fm l).ro = 17 ∧ (fm l).kd = 18)) := hy
    clear hy
    by_cases hlt : j < 36
    · have i1 : (j : Int) < 36 := by omega
      have x0 := HF.out.c0 j hlt
      have x1 := HF.out.c1 j hlt
      have x2 := HF.out.c2 j hlt
      have x3 := HF.out.c3 j hlt
      have x4 := HF.out.c4 j hlt
      go_wp2
      · rename_i e1 e2
        have e3 : (fm j).kd = 18 := eq_of_beq e2
        clear x0 x1 x2 x3 x4
        refine ret_F Tryd.results42 rfl w.heap.size _ (.bool true) rfl (heap_alloc_new w _) rfl rfl ?_
        exact ⟨(Upd.refl [] w).alloc _, Or.inl ⟨j, hlt, e1, e3, HY.out, by rw [e1]⟩⟩
      · rename_i e1 e2
        refine ⟨⟨j + 1, by omega, by go_num, fun l hl => ?_, trivial⟩, by simp [intOf]; omega⟩
        by_cases e : l = j
        · subst e; rintro ⟨_, h⟩; rw [h] at e2; simp at e2
        · exact HY.out l (by omega)
      · rename_i e1
        refine ⟨⟨j + 1, by omega, by go_num, fun l hl => ?_, trivial⟩, by simp [intOf]; omega⟩
        by_cases e : l = j
        · subst e; rintro ⟨h, _⟩; exact e1 h
        · exact HY.out l (by omega)
    · have i1 : ¬ (j : Int) < 36 := by omega
      have HJ : Hid (j = 36) := by show j = 36; omega
      go_wp2
      refine ret_F Tryd.results42 rfl w.heap.size #[.int .u8 0, .int .u8 0, .int .u8 0, .slice none 0 0, .bool false] (.bool false) rfl (heap_alloc_new w _) rfl rfl ?_
      exact ⟨HU0.out, Or.inr ⟨fun l hl => HY.out l (by rw [HJ.out]; exact hl), rfl⟩⟩
set_option maxHeartbeats 2000000 in
set_option maxRecDepth 100000 in
theorem fo_c (A : Nat → Option Addr) (C : Nat → Nat) (k : Int) (w : World) (hF : Frm A C w) (h : k ≠ 18) : Calls Tryd.prog 42 #[.int .u8 k, .int .u8 17] w (FoP A C w k 0) := by
  have HF : Hid (Frm A C (w.alloc (.cells #[.int .u8 0, .int .u8 0, .int .u8 0, .slice none 0 0, .bool false] 63))) := hF.mono ((Upd.refl [] w).alloc _)
  have HU0 : Hid (Upd [] w (w.alloc (.cells #[.int .u8 0, .int .u8 0, .int .u8 0, .slice none 0 0, .bool false] 63))) := (Upd.refl [] w).alloc _
  have e0 : (k == 18) = false := beq_eq_false_iff_ne.2 h
  have e9 : (k != 18) = true := by rw [bne, e0]; rfl
  clear hF
  go_enter Tryd.func42, Tryd.ntmps42
  go_wp2
  go_loopw [13] (fun i wr => ∃ j : Nat, j ≤ 36 ∧ i = .int .i64 j ∧ (∀ l, l < j → ¬ ((fm l).ro = 0 ∧ (fm l).kd = k)) ∧ wr = w.alloc (.cells #[.int .u8 0, .int .u8 0, .int .u8 0, .slice none 0 0, .bool false] 63)) (fun i _ => 36 - (intOf i).toNat)
  case atStart => exact ⟨0, by omega, rfl, fun l hl => by omega, rfl⟩
  case round =>
    obtain ⟨j, hj, rfl, hy, rfl⟩ := hrel
    have HY : Hid (∀ l, l < j → ¬ ((fm l).ro = 0 ∧ (fm l).kd = k)) := hy
    clear hy
    by_cases hlt : j < 36
    · have i1 : (j : Int) < 36 := by omega
      have x0 := HF.out.c0 j hlt
      have x1 := HF.out.c1 j hlt
      have x2 := HF.out.c2 j hlt
      have x3 := HF.out.c3 j hlt
      have x4 := HF.out.c4 j hlt
      go_wp2
      · rename_i e1 e2
        have e3 : (fm j).kd = k := eq_of_beq e2
        clear x0 x1 x2 x3 x4
        refine ret_F Tryd.results42 rfl w.heap.size _ (.bool true) rfl (heap_alloc_new w _) rfl rfl ?_
        exact ⟨(Upd.refl [] w).alloc _, Or.inl ⟨j, hlt, e1, e3, HY.out, by rw [e1]⟩⟩
      · rename_i e1 e2
        refine ⟨⟨j + 1, by omega, by go_num, fun l hl => ?_, trivial⟩, by simp [intOf]; omega⟩
        by_cases e : l = j
        · subst e; rintro ⟨_, h⟩; rw [h] at e2; simp at e2
        · exact HY.out l (by omega)
      · rename_i e1
        refine ⟨⟨j + 1, by omega, by go_num, fun l hl => ?_, trivial⟩, by simp [intOf]; omega⟩
        by_cases e : l = j
        · subst e; rintro ⟨h, _⟩; exact e1 h
        · exact HY.out l (by omega)
    · have i1 : ¬ (j : Int) < 36 := by omega
      have HJ : Hid (j = 36) := by show j = 36; omega
      go_wp2
      refine ret_F Tryd.results42 rfl w.heap.size #[.int .u8 0, .int .u8 0, .int .u8 0, .slice none 0 0, .bool false] (.bool false) rfl (heap_alloc_new w _) rfl rfl ?_
      exact ⟨HU0.out, Or.inr ⟨fun l hl => HY.out l (by rw [HJ.out]; exact hl), rfl⟩⟩

end Go.Proofs.YtejcppnleckmfaaDoor
