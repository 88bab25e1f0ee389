/- A row of bytes that began as a text's: what is appended to it. -/
import Derived.Test.YtiapdapkklcliaaGreatDoorAwk
import Derived.ArgAppend
import Derived.Deep.MidRow
namespace Go.Proofs.YtiapdapkklcliaaGreatDoor
open Go.RowKit

def Row8 (w : World) (base : Nat) (v : Value) (D : List UInt8) : Prop :=
  ∃ g cap, v = .slice (some ⟨g, 0, none⟩) D.length cap ∧ base ≤ g ∧ g < w.heap.size ∧ D.length ≤ cap ∧ cap ≤ maxLen ∧ (∀ j, j < cap → (w.cell? ⟨g, j, none⟩).isSome = true ∧ w.frozen? ⟨g, j, none⟩ = false) ∧ ∀ j (hj : j < D.length), w.cell? ⟨g, j, none⟩ = some (.int .u8 D[j].toNat)

theorem Row8.form {w : World} {base : Nat} {v : Value} {D : List UInt8} (h : Row8 w base v D) : ∃ a c, v = .slice a D.length c := by
  obtain ⟨g, cap, rfl, _⟩ := h
  exact ⟨_, cap, rfl⟩
theorem Row8.lt {w : World} {base : Nat} {v : Value} {D : List UInt8} (h : Row8 w base v D) : ∀ k, v.ownBlock = some k → base ≤ k ∧ k < w.heap.size := by
  obtain ⟨g, cap, rfl, h1, h2, _⟩ := h
  intro k hk
  simp only [Value.ownBlock, Option.some.injEq] at hk
  subst hk
  exact ⟨h1, h2⟩
theorem Row8.upd {w w' : World} {base : Nat} {v : Value} {D : List UInt8} (h : Row8 w base v D) (hu : Upd [] w w') : Row8 w' base v D := by
  obtain ⟨g, cap, rfl, h1, h2, h3, h4, h5, h6⟩ := h
  refine ⟨g, cap, rfl, h1, Nat.lt_of_lt_of_le h2 hu.size, h3, h4, fun j hj => ?_, fun j hj => ?_⟩
  · have hb := hu.block g h2 (by simp)
    rw [hu.cell (p := ⟨g, j, none⟩) h2 (by simp), World.frozen?_of_block (w := w) (a := ⟨g, j, none⟩) hb]
    exact h5 j hj
  · rw [hu.cell (p := ⟨g, j, none⟩) h2 (by simp)]; exact h6 j hj

theorem Row8.blk {w W w' : World} {base : Nat} {v : Value} {D : List UInt8} {g : Nat} {cs : Array Value} {t : TypeId} (h : Row8 w base v D) (hW : Upd [] w W) (hg : W.grownBy w' v.ownBlock) (hB : Blk w g cs t) (hlt : g < base) : Blk w' g cs t := by
  have h2 := hB.mono hW (by simp)
  exact (hg.block g h2.lt (fun e => by have := (h.lt _ e.symm).1; omega)).trans h2
theorem Row8.grown {w0 w W w' : World} {base : Nat} {v : Value} {D : List UInt8} {S : List Nat} (h : Row8 w base v D) (hu : Upd S w0 W) (hg : W.grownBy w' v.ownBlock) (hb : w0.heap.size ≤ base) : Upd S w0 w' :=
  hu.grown hg (fun k hk => Or.inl (Nat.le_trans hb (h.lt k hk).1))

theorem setCells_upd (g : Nat) : ∀ (vs : List Value) (o : Nat) (w : World), w.grownBy (w.setCells g o vs) (some g)
  | [], _, w => ⟨rfl, rfl, rfl, Nat.le_refl _, fun _ _ _ => rfl⟩
  | v :: r, o, w => by
    have ih := setCells_upd g r (o + 1) (w.setCell ⟨g, o, none⟩ v)
    exact ⟨ih.os, ih.tape, ih.output, Nat.le_trans (by rw [World.size_setCell]; exact Nat.le_refl _) ih.size, fun k hk hne => (ih.block k (by rw [World.size_setCell]; exact hk) hne).trans (heap_setCell_other _ _ _ _ (fun e => hne (by rw [e])))⟩

/-- Bytes are appended. -/
theorem run_append8 {w : World} {base : Nat} {v : Value} {D : List UInt8} (h : Row8 w base v D) (ty : TypeId) (a : Addr) (c : Nat) (E : List UInt8) (hnews : ∀ j u, (u8s E)[j]? = some u → w.cell? (a.add j) = some u) (hl : D.length + E.length ≤ 1000000) (_hE : 0 < E.length) (hbase : base ≤ w.heap.size) :
    ∃ v' w', (Builtin.append_ #[37, 37] ty #[v, .slice (some a) E.length c]).run Tryz.prog w = .ok v' w' ∧ Row8 w' base v' (D ++ E) ∧ w.grownBy w' v.ownBlock := by
  obtain ⟨i0, hi, hz0, hz1, hz2⟩ := info_parts info_u8
  obtain ⟨g, cap, rfl, h1, h2, h3, h4, h5, h6⟩ := h
  have hnl : (u8s E).length = E.length * i0.size := by rw [hz1]; simp [u8s]
  have hone : ∀ u ∈ u8s E, u.oneCell' = true := fun u hu => by obtain ⟨x, _, rfl⟩ := List.mem_map.1 hu; rfl
  have hEl : (u8s E).length = E.length := by simp [u8s]
  by_cases hroom : D.length + E.length ≤ cap
  · have hr := run_append_room_cells (P := Tryz.prog) w 37 ty 5 i0 Tryz.underlying37 hi g 0 D.length cap a E.length c (u8s E) hnl hnews hone hroom
      (fun j hj => by rw [hz1, Nat.mul_one, Nat.zero_add]; exact (h5 _ (by omega)).1) (fun j hj => by rw [hz1, Nat.mul_one, Nat.zero_add]; exact (h5 _ (by omega)).2)
    rw [hz1, Nat.mul_one, Nat.zero_add] at hr
    have hgr := setCells_upd g (u8s E) D.length w
    refine ⟨_, _, hr, ⟨g, cap, by rw [List.length_append], h1, Nat.lt_of_lt_of_le h2 hgr.size, by rw [List.length_append]; exact hroom, h4, fun j hj => ⟨World.isSome_setCells g _ _ _ _ (h5 j hj).1, ?_⟩, fun j hj => ?_⟩, hgr⟩
    · rw [World.frozen?_setCells]; exact (h5 j hj).2
    · by_cases hjD : j < D.length
      · rw [World.cell?_setCells_out g _ _ _ _ (fun _ _ => Or.inl hjD), List.getElem_append_left hjD]
        exact h6 j hjD
      · have hj' : j - D.length < E.length := by rw [List.length_append] at hj; omega
        have e := World.cell?_setCells_in g (u8s E) D.length w (fun i hi => (h5 _ (by omega)).1) (j - D.length) (by omega)
        rw [show D.length + (j - D.length) = j by omega] at e
        rw [e, List.getElem_append_right (by omega)]
        simp [u8s]
  · have hr := run_append_grow (P := Tryz.prog) w 37 ty 5 i0 (.int .u8 0) Tryz.underlying37 hi hz0 ⟨g, 0, none⟩ D.length cap (u8s D) (by rw [hz1]; simp [u8s])
      (fun j u hu => by
        rw [Addr.add_lit, Nat.zero_add]
        have hj : j < D.length := by have := (List.getElem?_eq_some_iff.1 hu).1; simpa [u8s] using this
        rw [h6 j hj, ← hu]; simp [u8s, hj]) a E.length c (u8s E) hnl hnews (by omega) (by omega) (growslice_fits (by omega) (by rw [hz2]; omega))
    refine ⟨_, _, hr, ⟨w.heap.size, grownCap w (D.length + E.length) cap 5, by rw [List.length_append], hbase, by simp, by rw [List.length_append]; exact grownCap_ge _ _ _ _, grownCap_le_maxLen _ _ _ _ (by unfold maxLen; omega), fun j hj => ?_, fun j hj => ?_⟩, ?_⟩
    · have hb : (w.drew.alloc (.cells ((u8s D).toArray ++ (u8s E).toArray ++ Builtin.zeroCells (Value.int .u8 0).cells (grownCap w (D.length + E.length) cap 5 - (D.length + E.length))) 5)).heap[w.heap.size]? = some (.cells ((u8s D).toArray ++ (u8s E).toArray ++ Builtin.zeroCells (Value.int .u8 0).cells (grownCap w (D.length + E.length) cap 5 - (D.length + E.length))) 5 (0, 0)) := heap_alloc_new w.drew _
      refine ⟨?_, frozen_of_row _ _ _ _ _ hb⟩
      rw [cell_of_row _ _ _ _ _ _ hb]
      have hge := grownCap_ge w (D.length + E.length) cap 5
      have hsz : ((u8s D).toArray ++ (u8s E).toArray ++ Builtin.zeroCells (Value.int .u8 0).cells (grownCap w (D.length + E.length) cap 5 - (D.length + E.length))).size = grownCap w (D.length + E.length) cap 5 := by
        simp only [Array.size_append, List.size_toArray, size_zeroCells, u8s, List.length_map]
        have : (Value.int .u8 0).cells.size = 1 := rfl
        rw [this]; omega
      rw [Array.getElem?_eq_getElem (by rw [hsz]; exact hj)]
      rfl
    · have hb : (w.drew.alloc (.cells ((u8s D).toArray ++ (u8s E).toArray ++ Builtin.zeroCells (Value.int .u8 0).cells (grownCap w (D.length + E.length) cap 5 - (D.length + E.length))) 5)).heap[w.heap.size]? = some (.cells ((u8s D).toArray ++ (u8s E).toArray ++ Builtin.zeroCells (Value.int .u8 0).cells (grownCap w (D.length + E.length) cap 5 - (D.length + E.length))) 5 (0, 0)) := heap_alloc_new w.drew _
      rw [cell_of_row _ _ _ _ _ _ hb, ← Array.getElem?_toList]
      simp only [Array.toList_append]
      have e1 : (u8s D ++ u8s E)[j]? = some (.int .u8 (D ++ E)[j].toNat) := by
        have : u8s D ++ u8s E = u8s (D ++ E) := by simp [u8s]
        rw [this]; unfold u8s; rw [List.getElem?_map, List.getElem?_eq_getElem hj]; rfl
      rw [List.getElem?_append_left (by simp [u8s] at hj ⊢; omega)]
      exact e1
    · exact ⟨rfl, rfl, rfl, by simp, fun k hk _ => Below.heap_alloc w.drew _ k hk⟩

/-- .. at a step of a region that draws its order. -/
theorem step_append8 {ops : Array Oper} {o : Oper} {a : Act} {w : World} {K : Act → World → Prop} {Q : Exit → Act → World → Prop} {E : Prop} (hgd : o.guard = none) (s x : Operand)
    (ho : o.op = .call { callee := .builtin .append, args := #[s, x], argTypes := #[37, 37] }) (base : Nat) (v : Value) (D F : List UInt8) (hs : a.eval s = v) (hown : Row8 w base v D)
    (ad : Addr) (n c : Nat) (hx : a.eval x = .slice (some ad) n c) (hn : n = F.length) (hnews : ∀ j u, (u8s F)[j]? = some u → w.cell? (ad.add j) = some u) (hl : D.length + F.length ≤ 1000000) (hF : 0 < F.length) (hbase : base ≤ w.heap.size)
    (h : ∀ v' w', Row8 w' base v' (D ++ F) → w.grownBy w' v.ownBlock → K (a.put o.dst v') w') :
    if Region.wanted o (yielded ops a.tmps) = true then Oper.wp Tryz.prog o a w K Q else E := by
  subst hn
  have hw : Region.wanted o (yielded ops a.tmps) = true := by simp [Region.wanted, hgd]
  rw [if_pos hw]
  obtain ⟨v', w', hr, h2, h3⟩ := run_append8 hown o.type ad c F hnews hl hF hbase
  unfold Oper.wp execOp
  simp only [ho, resolve, invoke, builtin, Sem.run_bind, Sem.run_pure, Result.andThen_ok, List.map_toArray, List.map_cons, List.map_nil, hs, hx, hr]
  exact h v' w' h2 h3

/-- A text's bytes. -/
theorem conv_row (w : World) (l : List UInt8) (hl : l.length ≤ 1000) : ∃ v w', (convert 9 37 (.string (str l))).run Tryz.prog w = .ok v w' ∧ Row8 w' w.heap.size v l ∧ Upd [] w w' := by
  have hr := run_bytes_of_string (P := Tryz.prog) w 9 37 5 (str l) Tryz.underlying9 Tryz.underlying37 Tryz.underlying5
  have hsz : (str l).size = l.length := str_size l
  have hge := grownCap_ge w (str l).size 0 5
  refine ⟨_, _, hr, ?_, ((Upd.refl [] w).drew.alloc _)⟩
  rw [hsz] at hge ⊢
  obtain ⟨cap, hcap⟩ : ∃ cap, cap = grownCap w l.length 0 5 := ⟨_, rfl⟩
  have hm : cap ≤ maxLen := by rw [hcap]; exact grownCap_le_maxLen _ _ _ _ (by unfold maxLen; omega)
  rw [← hcap] at hge ⊢
  have hbs : (bytesRow (str l) cap).size = cap := by
    simp only [bytesRow, Array.size_append, Array.size_map, Array.size_replicate]
    have : (str l).data.size = l.length := by rw [← hsz]; rfl
    rw [this, hsz]; omega
  refine ⟨w.heap.size, cap, rfl, Nat.le_refl _, by simp, hge, hm, fun j hj => ⟨?_, ?_⟩, fun j hj => ?_⟩
  · have := World.cell?_alloc_mark w.drew (bytesRow (str l) cap) 5 ((bytesRow (str l) cap).size, (bytesRow (str l) cap).size + 1) j
    rw [show w.drew.heap.size = w.heap.size from rfl] at this
    rw [this, Array.getElem?_eq_getElem (by rw [hbs]; exact hj)]
    rfl
  · have := World.frozen?_alloc_mark w.drew (bytesRow (str l) cap) 5 (bytesRow (str l) cap).size ((bytesRow (str l) cap).size + 1) j
    rw [show w.drew.heap.size = w.heap.size from rfl] at this
    rw [this, hbs]
    simp; omega
  · have := World.cell?_alloc_mark w.drew (bytesRow (str l) cap) 5 ((bytesRow (str l) cap).size, (bytesRow (str l) cap).size + 1) j
    rw [show w.drew.heap.size = w.heap.size from rfl] at this
    rw [this, bytesRow_at (str l) cap j (by simpa [str] using hj)]
    simp [str]
theorem Row8.conv {w : World} {base : Nat} {v : Value} {D : List UInt8} (h : Row8 w base v D) : (convert 37 9 v).run Tryz.prog w = .ok (.string (str D)) w := by
  obtain ⟨g, cap, rfl, h1, h2, h3, h4, h5, h6⟩ := h
  refine run_convert_bytes_back (P := Tryz.prog) w 37 9 5 ⟨g, 0, none⟩ cap D Tryz.underlying37 Tryz.underlying5 Tryz.underlying9 (fun j hj => ?_)
  rw [Addr.add_lit, Nat.zero_add]
  exact h6 j hj

end Go.Proofs.YtiapdapkklcliaaGreatDoor
