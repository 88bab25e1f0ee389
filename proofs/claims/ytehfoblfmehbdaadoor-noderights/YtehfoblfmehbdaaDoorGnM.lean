/- A node that came in, to its depth. -/
import Derived.Test.YtehfoblfmehbdaaDoorFrA
namespace Go.Proofs.YtehfoblfmehbdaaDoor
open Go.ChangeShapes Go.WideShapes Go.ChangeAt Go.RowKit Go.Joins

theorem add_at (b o j : Nat) : (⟨b, o, none⟩ : Addr).add j = ⟨b, o + j, none⟩ := by
  rw [Addr.add_lit]
theorem exists_nodes {P : Nat → Nd → Prop} : ∀ n, (∀ i, i < n → ∃ t, P i t) → ∃ I : List Nd, I.length = n ∧ ∀ i (hi : i < I.length), P i I[i] := by
  intro n
  induction n with
  | zero => intro _; exact ⟨[], rfl, fun i hi => by simp at hi⟩
  | succ n ih =>
    intro h
    obtain ⟨I, h1, h2⟩ := ih (fun i hi => h i (by omega))
    obtain ⟨t, ht⟩ := h n (by omega)
    refine ⟨I ++ [t], by simp [h1], fun i hi => ?_⟩
    by_cases e : i < I.length
    · rw [List.getElem_append_left e]; exact h2 i e
    · have : i = n := by simp at hi; omega
      subst this
      rw [List.getElem_append_right (by omega)]
      simpa using ht
theorem weights_allN {H : Type} {P : Program} {e : TypeId} {l : List (DataW H)} {i : Nat} (hi : i < l.length) : ∀ n ∈ DataW.weights P e l[i], n ∈ DataW.weightsAll P e l := by
  induction l generalizing i with
  | nil => simp at hi
  | cons x r ih =>
    intro n hn
    simp only [DataW.weightsAll, List.mem_append]
    cases i with
    | zero => exact Or.inl hn
    | succ i => exact Or.inr (ih (by simpa using hi) n hn)
theorem cells_node : Tryd.prog.cellsOf 25 = 5 := by kernel_rfl
theorem cells_nodes : Tryd.prog.cellsOf 23 = 1 := by kernel_rfl
theorem cells_nkind : Tryd.prog.cellsOf 22 = 1 := by kernel_rfl
theorem cells_strN : Tryd.prog.cellsOf 9 = 1 := by kernel_rfl
theorem cells_intN : Tryd.prog.cellsOf 3 = 1 := by kernel_rfl
theorem bytes_node : Tryd.prog.bytesOf 25 = 64 := by kernel_rfl
/-- A row of nodes that came in, if each of them is opened. -/
theorem nrow_open {H : Type} {enc : TypeId × Value → H} {W : World} {n : Nat} {v : Value} {y : DataW H × List MemPlace}
    (ih : ∀ m, m < n → ∀ cs x, DataW.trod enc Tryd.prog W 0 (fun _ => true) true m 25 cs = some x → (∀ n ∈ DataW.weights Tryd.prog 25 x.1, n ≤ reachBytes) → ∃ t, NIn W m cs t ∧ nsz t ≤ 2199023255488 ∧ nxz t ≤ 140737488355328)
    (h : DataW.trod enc Tryd.prog W 0 (fun _ => true) true n 23 [v] = some y) (hw : ∀ n ∈ DataW.weights Tryd.prog 23 y.1, n ≤ reachBytes) :
    ∃ (a : Option Addr) (I : List Nd) (c : Nat), v = .slice a I.length c ∧ RowN (NIn W n) W a I ∧ nszs I ≤ 2199023255488 ∧ nxzs I ≤ 140737488355328 ∧ I.length ≤ c ∧ c ≤ 9223372036854775807 := by
  rcases DataW.trod_slice Tryd.underlying23 h with ⟨hcs, _⟩ | ⟨a, len, cap, elems, rest, m, hm, hcs, rfl, hb, hl, hmx, hlen, hel, _, _⟩
  · simp only [List.cons.injEq, and_true] at hcs
    subst hcs
    exact ⟨none, [], 0, rfl, Or.inl rfl, by simp [nszs], by simp [nxzs], by simp, by omega⟩
  · simp only [List.cons.injEq, and_true] at hcs
    subst hcs
    rw [cells_node] at hel
    have hw0 := hw ((elems.length + rest.length) * 64) (by simp [DataW.weights, Tryd.underlying23, bytes_node])
    unfold reachBytes at hw0
    have hex : ∀ i, i < len → ∃ t, ∃ cs : List Value, cs.length = 5 ∧ (∀ j, j < 5 → W.cell? ((a.add (i * 5)).add j) = cs[j]?) ∧ NIn W m cs t ∧ nsz t ≤ 2199023255488 ∧ nxz t ≤ 140737488355328 := by
      intro i hi
      have h1 := hel i hi
      have hie : i < elems.length := by omega
      rw [List.getElem?_eq_getElem hie] at h1
      obtain ⟨cs, h2, h3⟩ := Option.bind_eq_some_iff.1 h1
      obtain ⟨_, h4, h5⟩ := World.cells?_some h2
      have hwi : ∀ n ∈ DataW.weights Tryd.prog 25 ((elems.map (·.1))[i]'(by simpa using hie)), n ≤ reachBytes := fun n hn => hw n (by
        have := weights_allN (P := Tryd.prog) (e := 25) (l := elems.map (·.1)) (i := i) (by simpa using hie) n hn
        simp [DataW.weights, Tryd.underlying23, this])
      rw [List.getElem_map] at hwi
      obtain ⟨t, h6, h7⟩ := ih m (by omega) cs _ h3 hwi
      exact ⟨t, cs, h4, h5, h6, h7⟩
    obtain ⟨I, hI, hP⟩ := exists_nodes len hex
    refine ⟨some a, I, cap, by rw [hI], ?_, ?_, ?_, by omega, Nat.le_trans hmx (by decide)⟩
    · by_cases h0 : len = 0
      · exact Or.inl (List.eq_nil_of_length_eq_zero (by omega))
      · obtain ⟨cs0, hc1, hc2, hc3, _⟩ := hP 0 (by omega)
        obtain ⟨b, off, spot⟩ := a
        have hsome : ∃ u, W.cell? (((⟨b, off, spot⟩ : Addr).add (0 * 5)).add 0) = some u := by
          rw [hc2 0 (by omega)]
          exact ⟨cs0[0], List.getElem?_eq_getElem (by omega)⟩
        obtain ⟨u, hu⟩ := hsome
        have hspot : spot = none := by simpa [Addr.add] using World.cell?_spot hu
        subst hspot
        have hlt := World.block_lt_of_cell? _ _ hu
        refine Or.inr ⟨b, off, rfl, by simpa [Addr.add] using hlt, fun i hi => ?_⟩
        obtain ⟨cs, h1, h2, h3, _⟩ := hP i hi
        refine ⟨cs, h1, fun j hj => ?_, ?_⟩
        · have := h2 j hj
          rw [add_at, add_at] at this
          rw [← this, Nat.add_assoc]
        · rw [hm]; exact NIn.more m cs _ h3
    · refine nszs_le _ I (by omega) (fun i hi => ?_)
      obtain ⟨cs, _, _, _, h4, _⟩ := hP i hi
      exact h4
    · refine nxzs_le _ I (fun i hi => ?_)
      obtain ⟨cs, _, _, _, _, h4⟩ := hP i hi
      exact h4

set_option maxRecDepth 100000 in
/-- A node that came in, to its depth. -/
theorem n_open {H : Type} {enc : TypeId × Value → H} {W : World} : ∀ (fuel : Nat) (cs : List Value) (x : DataW H × List MemPlace), DataW.trod enc Tryd.prog W 0 (fun _ => true) true fuel 25 cs = some x → (∀ n ∈ DataW.weights Tryd.prog 25 x.1, n ≤ reachBytes) → ∃ t, NIn W fuel cs t ∧ nsz t ≤ 2199023255488 ∧ nxz t ≤ 140737488355328 := by
  intro fuel
  induction fuel using Nat.strongRecOn with
  | ind fuel ih =>
    intro cs x h hw
    obtain ⟨xs, n, hn, hx, hcl, hlen, hfs⟩ := DataW.trod_struct Tryd.underlying25 h
    obtain ⟨c0, c1, c2, c3, c4, rfl⟩ := list5 (hcl.trans cells_node)
    have f0 : DataW.trod enc Tryd.prog W 0 (fun _ => true) true n 22 (List.take (Tryd.prog.cellsOf 22) (List.drop 0 [c0, c1, c2, c3, c4])) = xs[0]? := hfs 0 _ rfl
    have f1 : DataW.trod enc Tryd.prog W 0 (fun _ => true) true n 9 (List.take (Tryd.prog.cellsOf 9) (List.drop 1 [c0, c1, c2, c3, c4])) = xs[1]? := hfs 1 _ rfl
    have f2 : DataW.trod enc Tryd.prog W 0 (fun _ => true) true n 3 (List.take (Tryd.prog.cellsOf 3) (List.drop 2 [c0, c1, c2, c3, c4])) = xs[2]? := hfs 2 _ rfl
    have f3 : DataW.trod enc Tryd.prog W 0 (fun _ => true) true n 3 (List.take (Tryd.prog.cellsOf 3) (List.drop 3 [c0, c1, c2, c3, c4])) = xs[3]? := hfs 3 _ rfl
    have f4 : DataW.trod enc Tryd.prog W 0 (fun _ => true) true n 23 (List.take (Tryd.prog.cellsOf 23) (List.drop 4 [c0, c1, c2, c3, c4])) = xs[4]? := hfs 4 _ rfl
    have hl5 : xs.length = 5 := hlen
    simp only [cells_nkind, cells_strN, cells_intN, cells_nodes, List.drop_succ_cons, List.drop_zero, List.take_succ_cons, List.take_zero] at f0 f1 f2 f3 f4
    match xs, hl5 with
    | [x0, x1, x2, x3, x4], _ =>
      simp only [List.getElem?_cons_zero, List.getElem?_cons_succ] at f0 f1 f2 f3 f4
      have hw2 : ∀ (j : Nat) (t : TypeId) (d : DataW H), [22, 9, 3, 3, 23][j]? = some t → ([x0, x1, x2, x3, x4].map (·.1))[j]? = some d → ∀ n ∈ DataW.weights Tryd.prog t d, n ≤ reachBytes := fun j t d ht hd n hn => hw n (by
        rw [hx]
        have := DataW.weights_mem_each (P := Tryd.prog) ht hd n hn
        simpa [DataW.weights, Tryd.underlying25] using this)
      obtain ⟨k, e0, _, _⟩ := DataW.trod_int Tryd.underlying22 f0
      obtain ⟨s, e1, e1', _⟩ := DataW.trod_string Tryd.underlying9 f1
      have hss : s.size ≤ 140737488355328 := by
        have := hw2 1 _ _ rfl rfl s.size (by rw [e1']; simp [DataW.weights])
        unfold reachBytes at this
        omega
      obtain ⟨num, e2, _, _⟩ := DataW.trod_int Tryd.underlying3 f2
      obtain ⟨pos, e3, _, _⟩ := DataW.trod_int Tryd.underlying3 f3
      obtain ⟨ai, I, ci, e4, hI, hIs, hIx, hc1, hc2⟩ := nrow_open (fun m hm cs x hx => ih m (by omega) cs x hx) f4 (hw2 4 _ _ rfl rfl)
      simp only [List.cons.injEq, and_true] at e0 e1 e2 e3
      subst e0 e1 e2 e3 e4 hn
      refine ⟨.mk k s num pos I, ⟨ai, ci, rfl, hI, hc1, hc2⟩, ?_, ?_⟩
      · simp only [nsz]
        omega
      · simp only [nxz]
        omega

end Go.Proofs.YtehfoblfmehbdaaDoor
