/- Put. -/
import Derived.Test.YtmdkhkeljpdbiaaDrC
namespace Go.Proofs.Ytmdkhkeljpdbiaa
open Go.RowKit

/-- A box: its letters, and its look. -/
structure BoxV (w : World) (b : Nat) (v : Value) (L : List (List Value)) (k : Nat) : Prop where
  bx : Bx w b v k
  row : RowG w 7 v L.length
  has : Hs w 7 v L.length (fun i => L.getD i [])
  far : v.ownBlock ≠ some b
/-- Nothing that was there has turned but the box's own. -/
structure UpdB (b : Nat) (v : Value) (w w' : World) (v' : Value) : Prop where
  os : w'.os = w.os
  tape : w'.tape = w.tape
  output : w'.output = w.output
  size : w.heap.size ≤ w'.heap.size
  block : ∀ k, k < w.heap.size → k ≠ b → v.ownBlock ≠ some k → w'.heap[k]? = w.heap[k]?
  own : ∀ k, k < w.heap.size → v.ownBlock ≠ some k → v'.ownBlock ≠ some k
theorem UpdB.trans {b : Nat} {v v' v2 : Value} {w w' w2 : World} (h : UpdB b v w w' v') (k : UpdB b v' w' w2 v2) : UpdB b v w w2 v2 :=
  ⟨k.os.trans h.os, k.tape.trans h.tape, k.output.trans h.output, Nat.le_trans h.size k.size, fun i hi hb hv => (k.block i (Nat.lt_of_lt_of_le hi h.size) hb (h.own i hi hv)).trans (h.block i hi hb hv), fun i hi hv => k.own i (Nat.lt_of_lt_of_le hi h.size) (h.own i hi hv)⟩
theorem UpdB.refl (b : Nat) (v : Value) (w : World) : UpdB b v w w v := ⟨rfl, rfl, rfl, Nat.le_refl _, fun _ _ _ _ => rfl, fun _ _ h => h⟩
theorem UpdB.of {b : Nat} {v : Value} {w w' : World} (h : Upd [b] w w') : UpdB b v w w' v := ⟨h.os, h.tape, h.output, h.size, fun k hk hb _ => h.block k hk (by simpa using hb), fun _ _ h => h⟩
theorem UpdB.of0 {b : Nat} {v : Value} {w w' : World} (h : Upd [] w w') : UpdB b v w w' v := ⟨h.os, h.tape, h.output, h.size, fun k hk _ _ => h.block k hk (by simp), fun _ _ h => h⟩
theorem BoxV.lt {w : World} {b : Nat} {v : Value} {L : List (List Value)} {k : Nat} (h : BoxV w b v L k) : b < w.heap.size := h.bx.lt
theorem BoxV.upd {S : List Nat} {w w' : World} {b : Nat} {v : Value} {L : List (List Value)} {k : Nat} (h : BoxV w b v L k) (hu : Upd S w w') (hb : b ∉ S) (hv : ∀ g, v.ownBlock = some g → g ∉ S) : BoxV w' b v L k :=
  ⟨h.bx.mono hu hb, h.row.upd hu hv, h.has.upd h.row hu hv, h.far⟩
theorem BoxV.up {w w' : World} {b : Nat} {v : Value} {L : List (List Value)} {k : Nat} (h : BoxV w b v L k) (hu : Upd [] w w') : BoxV w' b v L k := h.upd hu (by simp) (fun _ _ => by simp)
theorem BoxV.form {w : World} {b : Nat} {v : Value} {L : List (List Value)} {k : Nat} (h : BoxV w b v L k) : ∃ p c, v = .slice p L.length c := by
  obtain ⟨a, c, h1, _⟩ := h.row.form
  exact ⟨a, c, h1⟩

theorem wp_appendG {o : Oper} {a : Act} {w : World} {K : Act → World → Prop} {Q : Exit → Act → World → Prop} (s x : Operand) (t : TypeId) (ho : o.op = .call { callee := .builtin .append, args := #[s, x], argTypes := #[t, t] })
    {e : TypeId} {i : TypeInfo} {z : Value} {sz bytes : Nat} (ht : Try.prog.underlying t = some (.slice e)) (hi : Try.prog.info? e = some i) (hz : i.zero = some z) (hsize : i.size = sz) (hby : i.bytes = bytes) (hzs : z.cells.size = sz)
    {v : Value} {n : Nat} (hs : a.eval s = v) (hr : RowG w sz v n) (ad : Addr) (m c : Nat) (news : List Value) (hx : a.eval x = .slice (some ad) m c) (hl : news.length = m * sz) (hnews : ∀ j u, news[j]? = some u → w.cell? (ad.add j) = some u) (h1 : ∀ u ∈ news, u.oneCell' = true)
    (hm : 0 < m) (h63 : n + m ≤ 1000000000000000) (hbytes : (n + m) * bytes ≤ 140737488355328)
    (h : ∀ g' cap' w', RowG w' sz (.slice (some ⟨g', 0, none⟩) (n + m) cap') (n + m) → Grew sz w w' v n g' → (∀ j, j < m * sz → w'.cell? ⟨g', n * sz + j, none⟩ = news[j]?) → K (a.put o.dst (.slice (some ⟨g', 0, none⟩) (n + m) cap')) w') : o.wp Try.prog a w K Q := by
  obtain ⟨g', cap', w', hrun, h2, h3, h4⟩ := run_appendG (ty := o.type) ht hi hz hsize hby hzs hr ad m c news hl hnews h1 hm h63 hbytes
  unfold Oper.wp execOp
  simp only [ho, resolve, invoke, builtin, Sem.run_bind, Sem.run_pure, Result.andThen_ok, List.map_toArray, List.map_cons, List.map_nil, hs, hx, hrun]
  exact h g' cap' w' h2 h3 h4
theorem info_termP : (Try.prog.info? 26).map (fun i => (i.zero, i.size, i.bytes)) = some (some (.agg #[.int .u8 0, .bool false, .slice none 0 0, .string ⟨#[]⟩, .int .i64 0, .slice none 0 0, .slice none 0 0]), 7, 104) := by kernel_rfl
theorem info_partsN {t : TypeId} {z : Value} {a b : Nat} (h : (Try.prog.info? t).map (fun i => (i.zero, i.size, i.bytes)) = some (some z, a, b)) : ∃ i, Try.prog.info? t = some i ∧ i.zero = some z ∧ i.size = a ∧ i.bytes = b := by
  cases hq : Try.prog.info? t with
  | none => rw [hq] at h; cases h
  | some i => rw [hq] at h; simp at h; exact ⟨i, rfl, h.1, h.2.1, h.2.2⟩

theorem put_fin1 {w3 w4 : World} {b g' cap' k : Nat} {v : Value} {L : List (List Value)} {c : List Value} (hb : BoxV w3 b v L k) (hG : Grew 7 w3 w4 v L.length g') (_hR : RowG w4 7 (.slice (some ⟨g', 0, none⟩) (L.length + 1) cap') (L.length + 1)) (_hc : c.length = 7) :
    g' ≠ b ∧ Bx w4 b v k ∧ Hs w4 7 (.slice (some ⟨g', 0, none⟩) (L.length + 1) cap') L.length (fun i => (L ++ [c]).getD i []) := by
  have hgb : g' ≠ b := fun e => by
    rcases hG.at' with h1 | h1
    · exact hb.far (by rw [h1, e])
    · have := hb.lt; omega
  refine ⟨hgb, hb.bx.mono hG.upd (by simpa using fun e => hgb e.symm), ?_⟩
  intro g l c2 e i j hi hj
  simp only [Value.slice.injEq, Option.some.injEq, Addr.mk.injEq, and_true] at e
  obtain ⟨rfl, _, _⟩ := e
  have e2 : (L ++ [c]).getD i [] = L.getD i [] := by
    rw [List.getD_eq_getElem?_getD, List.getD_eq_getElem?_getD, List.getElem?_append_left hi]
  have hij : i * 7 + j < L.length * 7 := by have := mul_room (sz := 7) hi; omega
  rcases hb.row with ⟨h1, h2⟩ | ⟨g0, cap0, h1, _⟩
  · omega
  · subst h1
    show _ = ((L ++ [c]).getD i [])[j]?
    rw [hG.new g0 L.length cap0 rfl (i * 7 + j) hij, e2]
    exact hb.has g0 L.length cap0 rfl i j hi hj
theorem getD_last {α : Type} (L : List α) (c d : α) : (L ++ [c]).getD L.length d = c := by simp
theorem put_fin2 {w3 w4 w5 wF : World} {b g' cap' k : Nat} {v : Value} {L : List (List Value)} {c : List Value} (hb : BoxV w3 b v L k) (hG : Grew 7 w3 w4 v L.length g') (hR : RowG w4 7 (.slice (some ⟨g', 0, none⟩) (L.length + 1) cap') (L.length + 1)) (hc : c.length = 7)
    (hw : (w5 = w4.setCells g' (L.length * 7) c ∧ wF = w5.setCell ⟨b, 1, none⟩ (.slice (some ⟨g', 0, none⟩) (L.length + 1) cap')) ∨ (w5 = w4.setCell ⟨b, 1, none⟩ (.slice (some ⟨g', 0, none⟩) (L.length + 1) cap') ∧ wF = w5.setCells g' (L.length * 7) c)) :
    BoxV wF b (.slice (some ⟨g', 0, none⟩) (L.length + 1) cap') (L ++ [c]) k ∧ UpdB b v w3 wF (.slice (some ⟨g', 0, none⟩) (L.length + 1) cap') := by
  obtain ⟨hgb, hB4, hH4⟩ := put_fin1 hb hG hR hc
  have hbg : b ≠ g' := fun e => hgb e.symm
  have hlen : (L ++ [c]).length = L.length + 1 := by simp
  have hCn := getD_last L c []
  have key : BoxV wF b (.slice (some ⟨g', 0, none⟩) (L.length + 1) cap') (L ++ [c]) k ∧ Upd [b, g'] w4 wF := by
    rcases hw with ⟨rfl, rfl⟩ | ⟨rfl, rfl⟩
    · have hu := setCells_Upd w4 g' (L.length * 7) c
      have hR5 := hR.set (L.length * 7) c
      have hH5 := Hs.set (i := L.length) hH4 hR (by omega) (by rw [hCn]; exact hc)
      rw [hCn] at hH5
      have hB5 := hB4.mono hu (by simpa using hbg)
      have hu6 : Upd [b] (w4.setCells g' (L.length * 7) c) _ := (Upd.refl [b] _).setCell (p := ⟨b, 1, none⟩) (Or.inr (by simp)) (.slice (some ⟨g', 0, none⟩) (L.length + 1) cap')
      refine ⟨⟨hB5.set1 _, ?_, ?_, by simpa [Value.ownBlock] using hgb⟩, ?_⟩
      · rw [hlen]; exact hR5.upd hu6 (fun g hg => by simp [Value.ownBlock] at hg; subst hg; simpa using hgb)
      · rw [hlen]; exact hH5.upd hR5 hu6 (fun g hg => by simp [Value.ownBlock] at hg; subst hg; simpa using hgb)
      · exact ((Upd.refl [b, g'] w4).then hu (by simp)).then hu6 (by simp)
    · have hu5 : Upd [b] w4 _ := (Upd.refl [b] _).setCell (p := ⟨b, 1, none⟩) (Or.inr (by simp)) (.slice (some ⟨g', 0, none⟩) (L.length + 1) cap')
      have hB5 := hB4.set1 (.slice (some ⟨g', 0, none⟩) (L.length + 1) cap')
      have hR5 := hR.upd hu5 (fun g hg => by simp [Value.ownBlock] at hg; subst hg; simpa using hgb)
      have hH5 := hH4.upd hR hu5 (fun g hg => by simp [Value.ownBlock] at hg; subst hg; simpa using hgb)
      have hu6 := setCells_Upd (w4.setCell ⟨b, 1, none⟩ (.slice (some ⟨g', 0, none⟩) (L.length + 1) cap')) g' (L.length * 7) c
      have hH6 := Hs.set (i := L.length) hH5 hR5 (by omega) (by rw [hCn]; exact hc)
      rw [hCn] at hH6
      refine ⟨⟨hB5.mono hu6 (by simpa using hbg), ?_, ?_, by simpa [Value.ownBlock] using hgb⟩, ?_⟩
      · rw [hlen]; exact hR5.set _ _
      · rw [hlen]; exact hH6
      · exact ((Upd.refl [b, g'] w4).then hu5 (by simp)).then hu6 (by simp)
  refine ⟨key.1, ⟨key.2.os.trans hG.upd.os, key.2.tape.trans hG.upd.tape, key.2.output.trans hG.upd.output, Nat.le_trans hG.upd.size key.2.size, fun i hi hib hiv => ?_, fun i hi hiv => ?_⟩⟩
  · have hig : i ≠ g' := fun e => by
      rcases hG.at' with h1 | h1
      · exact hiv (by rw [h1, e])
      · omega
    exact (key.2.block i (Nat.lt_of_lt_of_le hi hG.upd.size) (by simp [hib, hig])).trans (hG.upd.block i hi (by simpa using hig))
  · have hig : i ≠ g' := fun e => by
      rcases hG.at' with h1 | h1
      · exact hiv (by rw [h1, e])
      · omega
    simpa [Value.ownBlock] using fun e => hig e.symm

end Go.Proofs.Ytmdkhkeljpdbiaa
