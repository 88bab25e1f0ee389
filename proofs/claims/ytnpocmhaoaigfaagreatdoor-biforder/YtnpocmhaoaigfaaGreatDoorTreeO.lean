/- A term that came in, opened to its depth. -/
import Derived.Test.YtnpocmhaoaigfaaGreatDoorJAB
import Derived.SizedLaws
namespace Go.Proofs.YtnpocmhaoaigfaaGreatDoor
open Go.ChangeShapes Go.WideShapes Go.ChangeAt Go.RowKit Go.Joins

theorem exists_list {P : Nat → Tm → Prop} : ∀ n, (∀ i, i < n → ∃ t, P i t) → ∃ I : List Tm, I.length = n ∧ ∀ i (hi : i < I.length), P i I[i] := by
  intro n
  induction n with
  | zero => intro _; exact ⟨[], rfl, fun i hi => by simp at hi⟩
  | succ n ih =>
    intro h
    obtain ⟨I, h1, h2⟩ := ih (fun i hi => h i (by omega))
    obtain ⟨t, ht⟩ := h n (by omega)
    refine ⟨I ++ [t], by simp [h1], fun i hi => ?_⟩
    by_cases hin : i < I.length
    · rw [List.getElem_append_left hin]; exact h2 i hin
    · have e : i = n := by simp at hi; omega
      subst e
      rw [List.getElem_append_right (by omega)]
      simp [h1]
      exact ht
theorem weights_all {H : Type} {P : Program} {e : TypeId} {l : List (DataW H)} {i : Nat} (hi : i < l.length) : ∀ n ∈ DataW.weights P e l[i], n ∈ DataW.weightsAll P e l := by
  induction l generalizing i with
  | nil => simp at hi
  | cons x r ih =>
    intro n hn
    simp only [DataW.weightsAll, List.mem_append]
    cases i with
    | zero => exact Or.inl hn
    | succ i => exact Or.inr (ih (by simpa using hi) n hn)
theorem bytes_u32 : Tryz.prog.bytesOf 61 = 4 := by kernel_rfl
theorem bytes_term : Tryz.prog.bytesOf 26 = 104 := by kernel_rfl

/-- The limbs that came in. -/
theorem limbs_open {H : Type} {enc : TypeId × Value → H} {W : World} {n : Nat} {v : Value} {y : DataW H × List MemPlace} (h : DataW.trod enc Tryz.prog W 0 (fun _ => true) true n 23 [v] = some y) (hw : ∀ n ∈ DataW.weights Tryz.prog 23 y.1, n ≤ reachBytes) :
    ∃ (a : Option Addr) (L : List Nat) (c : Nat), v = .slice a L.length c ∧ At W a L ∧ Dig L ∧ L.length / 26 ≤ 1353245080330 := by
  have hb : ∀ a len cap, v = .slice (some a) len cap → len ≤ 35184372087808 := by
    intro a len cap hv
    rcases DataW.trod_slice Tryz.underlying23 h with ⟨hcs, _⟩ | ⟨a', len', cap', elems, rest, m, _, hcs, rfl, _, _, _, he, _⟩
    · rw [hv] at hcs; simp at hcs
    · rw [hv] at hcs
      simp only [List.cons.injEq, Value.slice.injEq, and_true] at hcs
      have := hw ((elems.length + rest.length) * 4) (by simp [DataW.weights, Tryz.underlying23, bytes_u32])
      unfold reachBytes at this
      omega
  rcases open_ints Tryz.underlying23 Tryz.underlying61 cells_u32 h with ⟨hcs, _⟩ | ⟨a, len, cap, zs, hcs, _, hl, hm, hz, hx2, hcell, hwz⟩
  · simp only [List.cons.injEq, and_true] at hcs
    subst hcs
    exact ⟨none, [], 0, rfl, At.nil _ _, Dig.nil, by simp⟩
  · simp only [List.cons.injEq, and_true] at hcs
    have hbl := hb a len cap hcs
    subst hcs
    simp only [if_true] at hz
    have hwf : ∀ z ∈ zs, 0 ≤ z ∧ z < 4294967296 := fun z hz => by
      have := bounds_u32 (hwz z hz); omega
    have hlen2 : ((zs.take len).map Int.toNat).length = len := by simp; omega
    refine ⟨some a, (zs.take len).map Int.toNat, cap, by rw [hlen2], ?_, ?_, by rw [hlen2]; omega⟩
    · by_cases h0 : len = 0
      · exact Or.inl (by subst h0; simp)
      · obtain ⟨b, off, spot⟩ := a
        have hspot : spot = none := by simpa [Addr.add] using World.cell?_spot (hcell 0 (by omega))
        subst hspot
        refine Or.inr ⟨b, off, rfl, ?_, fun i hi => ?_⟩
        · have := World.block_lt_of_cell? _ _ (hcell 0 (by omega))
          simpa [Addr.add] using this
        · rw [hlen2] at hi
          have h1 := hcell i (by omega)
          rw [Addr.add_lit] at h1
          rw [h1]
          have h2 : i < zs.length := by omega
          have h3 := hwf zs[i] (List.getElem_mem h2)
          simp [List.getD, hi, h2]
          omega
    · intro z hz2
      obtain ⟨y, hy, rfl⟩ := List.mem_map.1 hz2
      have := hwf y (List.mem_of_mem_take hy)
      omega

/-- A row of terms that came in, if each of them is opened. -/
theorem row_open {H : Type} {enc : TypeId × Value → H} {W : World} {n : Nat} {v : Value} {y : DataW H × List MemPlace}
    (ih : ∀ m, m < n → ∀ cs x, DataW.trod enc Tryz.prog W 0 (fun _ => true) true m 26 cs = some x → (∀ n ∈ DataW.weights Tryz.prog 26 x.1, n ≤ reachBytes) → ∃ t, In W m cs t ∧ tsz t ≤ 1353245080330)
    (h : DataW.trod enc Tryz.prog W 0 (fun _ => true) true n 24 [v] = some y) (hw : ∀ n ∈ DataW.weights Tryz.prog 24 y.1, n ≤ reachBytes) :
    ∃ (a : Option Addr) (I : List Tm) (c : Nat), v = .slice a I.length c ∧ RowAt (In W n) W a I ∧ tszs I ≤ 1353245080330 := by
  rcases DataW.trod_slice Tryz.underlying24 h with ⟨hcs, _⟩ | ⟨a, len, cap, elems, rest, m, hm, hcs, rfl, hb, hl, hmx, hlen, hel, _, _⟩
  · simp only [List.cons.injEq, and_true] at hcs
    subst hcs
    exact ⟨none, [], 0, rfl, Or.inl rfl, by simp [tszs]⟩
  · simp only [List.cons.injEq, and_true] at hcs
    subst hcs
    rw [cells_term] at hel
    have hw0 := hw ((elems.length + rest.length) * 104) (by simp [DataW.weights, Tryz.underlying24, bytes_term])
    unfold reachBytes at hw0
    have hex : ∀ i, i < len → ∃ t, ∃ cs : List Value, cs.length = 7 ∧ (∀ j, j < 7 → W.cell? ((a.add (i * 7)).add j) = cs[j]?) ∧ In W m cs t ∧ tsz t ≤ 1353245080330 := by
      intro i hi
      have h1 := hel i hi
      have hie : i < elems.length := by omega
      rw [List.getElem?_eq_getElem hie] at h1
      obtain ⟨cs, h2, h3⟩ := Option.bind_eq_some_iff.1 h1
      obtain ⟨_, h4, h5⟩ := World.cells?_some h2
      have hwi : ∀ n ∈ DataW.weights Tryz.prog 26 ((elems.map (·.1))[i]'(by simpa using hie)), n ≤ reachBytes := fun n hn => hw n (by
        have := weights_all (P := Tryz.prog) (e := 26) (l := elems.map (·.1)) (i := i) (by simpa using hie) n hn
        simp [DataW.weights, Tryz.underlying24, this])
      rw [List.getElem_map] at hwi
      obtain ⟨t, h6, h7⟩ := ih m (by omega) cs _ h3 hwi
      exact ⟨t, cs, h4, h5, h6, h7⟩
    obtain ⟨I, hI, hP⟩ := exists_list len hex
    refine ⟨some a, I, cap, by rw [hI], ?_, ?_⟩
    · by_cases h0 : len = 0
      · exact Or.inl (List.eq_nil_of_length_eq_zero (by omega))
      · obtain ⟨cs0, hc1, hc2, hc3, _⟩ := hP 0 (by omega)
        obtain ⟨b, off, spot⟩ := a
        have hsome : ∃ u, W.cell? (((⟨b, off, spot⟩ : Addr).add (0 * 7)).add 0) = some u := by
          rw [hc2 0 (by omega)]
          exact ⟨cs0[0], List.getElem?_eq_getElem (by omega)⟩
        obtain ⟨u, hu⟩ := hsome
        have hspot : spot = none := by simpa [Addr.add] using World.cell?_spot hu
        subst hspot
        have hlt := World.block_lt_of_cell? _ _ hu
        refine Or.inr ⟨b, off, rfl, by simpa [Addr.add] using hlt, fun i hi => ?_⟩
        obtain ⟨cs, h1, h2, h3, _⟩ := hP i hi
        refine ⟨cs, h1, fun j hj => ?_, ?_⟩
        · have := h2 j hj
          rw [Addr.add_lit, Addr.add_lit] at this
          rw [← this, Nat.add_assoc]
        · rw [hm]; exact In.more m cs _ h3
    · refine tszs_le _ I (by omega) (fun i hi => ?_)
      obtain ⟨cs, _, _, _, h4⟩ := hP i hi
      exact h4

set_option maxRecDepth 100000 in
/-- A term that came in, to its depth. -/
theorem in_open {H : Type} {enc : TypeId × Value → H} {W : World} : ∀ (fuel : Nat) (cs : List Value) (x : DataW H × List MemPlace), DataW.trod enc Tryz.prog W 0 (fun _ => true) true fuel 26 cs = some x → (∀ n ∈ DataW.weights Tryz.prog 26 x.1, n ≤ reachBytes) → ∃ t, In W fuel cs t ∧ tsz t ≤ 1353245080330 := by
  intro fuel
  induction fuel using Nat.strongRecOn with
  | ind fuel ih =>
    intro cs x h hw
    obtain ⟨xs, n, hn, hx, hcl, hlen, hfs⟩ := DataW.trod_struct Tryz.underlying26 h
    obtain ⟨c0, c1, c2, c3, c4, c5, c6, hcs⟩ := array7 (cs := cs.toArray) (by simpa using hcl.trans cells_term)
    have hcs2 : cs = [c0, c1, c2, c3, c4, c5, c6] := by have := congrArg Array.toList hcs; simpa using this
    subst hcs2
    have f0 : DataW.trod enc Tryz.prog W 0 (fun _ => true) true n 22 (List.take (Tryz.prog.cellsOf 22) (List.drop 0 [c0, c1, c2, c3, c4, c5, c6])) = xs[0]? := hfs 0 _ rfl
    have f1 : DataW.trod enc Tryz.prog W 0 (fun _ => true) true n 4 (List.take (Tryz.prog.cellsOf 4) (List.drop 1 [c0, c1, c2, c3, c4, c5, c6])) = xs[1]? := hfs 1 _ rfl
    have f2 : DataW.trod enc Tryz.prog W 0 (fun _ => true) true n 23 (List.take (Tryz.prog.cellsOf 23) (List.drop 2 [c0, c1, c2, c3, c4, c5, c6])) = xs[2]? := hfs 2 _ rfl
    have f3 : DataW.trod enc Tryz.prog W 0 (fun _ => true) true n 9 (List.take (Tryz.prog.cellsOf 9) (List.drop 3 [c0, c1, c2, c3, c4, c5, c6])) = xs[3]? := hfs 3 _ rfl
    have f4 : DataW.trod enc Tryz.prog W 0 (fun _ => true) true n 3 (List.take (Tryz.prog.cellsOf 3) (List.drop 4 [c0, c1, c2, c3, c4, c5, c6])) = xs[4]? := hfs 4 _ rfl
    have f5 : DataW.trod enc Tryz.prog W 0 (fun _ => true) true n 24 (List.take (Tryz.prog.cellsOf 24) (List.drop 5 [c0, c1, c2, c3, c4, c5, c6])) = xs[5]? := hfs 5 _ rfl
    have f6 : DataW.trod enc Tryz.prog W 0 (fun _ => true) true n 24 (List.take (Tryz.prog.cellsOf 24) (List.drop 6 [c0, c1, c2, c3, c4, c5, c6])) = xs[6]? := hfs 6 _ rfl
    have hl7 : xs.length = 7 := hlen
    simp only [cells_kind, cells_bool, cells_u32s, cells_str, cells_int, cells_terms, List.drop_succ_cons, List.drop_zero, List.take_succ_cons, List.take_zero] at f0 f1 f2 f3 f4 f5 f6
    match xs, hl7 with
    | [x0, x1, x2, x3, x4, x5, x6], _ =>
      simp only [List.getElem?_cons_zero, List.getElem?_cons_succ] at f0 f1 f2 f3 f4 f5 f6
      have hw2 : ∀ (j : Nat) (t : TypeId) (d : DataW H), [22, 4, 23, 9, 3, 24, 24][j]? = some t → ([x0, x1, x2, x3, x4, x5, x6].map (·.1))[j]? = some d → ∀ n ∈ DataW.weights Tryz.prog t d, n ≤ reachBytes := fun j t d ht hd n hn => hw n (by
        rw [hx]
        have := DataW.weights_mem_each (P := Tryz.prog) ht hd n hn
        simpa [DataW.weights, Tryz.underlying26] using this)
      obtain ⟨k, e0, _, _⟩ := DataW.trod_int Tryz.underlying22 f0
      obtain ⟨neg, e1, _⟩ := DataW.trod_bool Tryz.underlying4 f1
      obtain ⟨s, e3, _, _⟩ := DataW.trod_string Tryz.underlying9 f3
      obtain ⟨num, e4, _, _⟩ := DataW.trod_int Tryz.underlying3 f4
      obtain ⟨a, L, c, e2, hA, hD, hL⟩ := limbs_open f2 (hw2 2 _ _ rfl rfl)
      obtain ⟨ai, I, ci, e5, hI, hIs⟩ := row_open (fun m hm cs x hx => ih m (by omega) cs x hx) f5 (hw2 5 _ _ rfl rfl)
      obtain ⟨at', T, ct, e6, hT, hTs⟩ := row_open (fun m hm cs x hx => ih m (by omega) cs x hx) f6 (hw2 6 _ _ rfl rfl)
      simp only [List.cons.injEq, and_true] at e0 e1 e3 e4
      subst e0 e1 e2 e3 e4 e5 e6 hn
      refine ⟨.mk k num neg L s I T, ⟨a, ai, at', c, ci, ct, rfl, hA, hD, hI, hT⟩, ?_⟩
      simp only [tsz]
      omega

end Go.Proofs.YtnpocmhaoaigfaaGreatDoor
