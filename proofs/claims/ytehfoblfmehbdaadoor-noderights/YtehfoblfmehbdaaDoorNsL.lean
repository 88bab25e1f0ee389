/- unmet and deepest of package node. -/
import Derived.Test.YtehfoblfmehbdaaDoorJAJ
namespace Go.Proofs.YtehfoblfmehbdaaDoor
open Go.RowKit

theorem wpList_appendG {w : World} {ops : Array Oper} {rest : List Oper} {o : Oper} {a : Act} {Q : Exit → Act → World → Prop} (hgd : o.guard = none) (s x : Operand) (t : TypeId) (ho : o.op = .call { callee := .builtin .append, args := #[s, x], argTypes := #[t, t] })
    {e : TypeId} {i : TypeInfo} {z : Value} {sz bytes : Nat} (ht : Tryd.prog.underlying t = some (.slice e)) (hi : Tryd.prog.info? e = some i) (hz : i.zero = some z) (hsize : i.size = sz) (hby : i.bytes = bytes) (hzs : z.cells.size = sz)
    {v : Value} {n : Nat} (hs : a.eval s = v) (hr : RowG w sz v n) (ad : Addr) (m c : Nat) (news : List Value) (hx : a.eval x = .slice (some ad) m c) (hl : news.length = m * sz) (hnews : ∀ j u, news[j]? = some u → w.cell? (ad.add j) = some u) (h1 : ∀ u ∈ news, u.oneCell' = true)
    (hm : 0 < m) (h63 : n + m ≤ 1000000000000000) (hbytes : (n + m) * bytes ≤ 140737488355328)
    (h : ∀ g' cap' w', RowG w' sz (.slice (some ⟨g', 0, none⟩) (n + m) cap') (n + m) → Grew sz w w' v n g' → (∀ j, j < m * sz → w'.cell? ⟨g', n * sz + j, none⟩ = news[j]?) → wpList Tryd.prog ops Q rest (a.put o.dst (.slice (some ⟨g', 0, none⟩) (n + m) cap')) w') : wpList Tryd.prog ops Q (o :: rest) a w := by
  refine wpList_plain hgd fun K hK => ?_
  obtain ⟨g', cap', w', hrun, h2, h3, h4⟩ := run_appendG (ty := o.type) ht hi hz hsize hby hzs hr ad m c news hl hnews h1 hm h63 hbytes
  unfold Oper.wp execOp
  simp only [ho, resolve, invoke, builtin, Sem.run_bind, Sem.run_pure, Result.andThen_ok, List.map_toArray, List.map_cons, List.map_nil, hs, hx, hrun]
  exact hK _ _ (h g' cap' w' h2 h3 h4)
theorem info_nodesP : (Tryd.prog.info? 23).map (fun i => (i.zero, i.size, i.bytes)) = some (some (.slice none 0 0), 1, 24) := by kernel_rfl
set_option maxHeartbeats 2000000 in
set_option maxRecDepth 100000 in
theorem un1_nil (w : World) (bd bm br : Nat) (k num pos : Int) (s : ByteArray) (l : List (Option Addr × Int × Int)) (a : Option Addr) (c : Nat) (hl : ∃ l2, l = (none, 0, 0) :: l2) (hbd : FunB w bd (.map (some bm)) 44) (hD : DM w bm l) :
    Calls Tryd.prog 60 #[.agg #[.int .u8 k, .string s, .int .i64 num, .int .i64 pos, .slice a 0 c], .pointer (some ⟨bd, 0, none⟩), .pointer (some ⟨br, 0, none⟩)] w fun e w' => e = .returned (.bool true) ∧ Upd [] w w' := by
  have u0 : Upd [] w (w.alloc (.cells #[.int .u8 k, .string s, .int .i64 num, .int .i64 pos, .slice a 0 c] 25)) := (Upd.refl [] w).alloc _
  have tb := Tb.new w #[.int .u8 k, .string s, .int .i64 num, .int .i64 pos, .slice a 0 c] _ rfl
  have HU0 : Hid (Upd [] w (w.alloc (.cells #[.int .u8 k, .string s, .int .i64 num, .int .i64 pos, .slice a 0 c] 25))) := u0
  go_enter Tryd.func60, Tryd.ntmps60
  go_wp2
  refine wp_region_held_drew (S := (fun W => FunB W bd (.map (some bm)) 44 ∧ Tb W w.heap.size #[.int .u8 k, .string s, .int .i64 num, .int .i64 pos, .slice a 0 c] ∧ DM W bm l)) (by kernel_rfl) ⟨hbd.mono u0.drew (by simp), tb, hD.upd u0.drew (by simp)⟩ (fun hS => ?_)
  refine wpAnyH_take (i := 0) (v := .map (some bm)) rfl (by kernel_rfl) (by kernel_rfl) (by kernel_rfl) (fun _ _ _ h => h) (Or.inl ⟨by rfl, ?_⟩) hS ?_
  · intro W hW; obtain ⟨h1, h2, h3⟩ := hW; have e0 := h1.cell; have e1 : W.cell? ⟨w.heap.size, 4, none⟩ = some (.slice a 0 c) := h2.cell 4; go_simp
  refine wpAnyH_take (i := 1) (v := .pointer (some ⟨w.heap.size, 4, none⟩)) rfl (by kernel_rfl) (by kernel_rfl) (by kernel_rfl) (fun _ _ _ h => h) (Or.inl ⟨by rfl, ?_⟩) hS ?_
  · intro W hW; obtain ⟨h1, h2, h3⟩ := hW; have e0 := h1.cell; have e1 : W.cell? ⟨w.heap.size, 4, none⟩ = some (.slice a 0 c) := h2.cell 4; go_simp
  refine wpAnyH_take (i := 2) (v := .slice a 0 c) rfl (by kernel_rfl) (by kernel_rfl) (by kernel_rfl) (fun _ _ _ h => h) (Or.inl ⟨by rfl, ?_⟩) hS ?_
  · intro W hW; obtain ⟨h1, h2, h3⟩ := hW; have e0 := h1.cell; have e1 : W.cell? ⟨w.heap.size, 4, none⟩ = some (.slice a 0 c) := h2.cell 4; go_simp
  simp only [Act.put, List.getElem_toArray, List.getElem_cons_succ, List.getElem_cons_zero, List.setIfInBounds_toArray, List.set_cons_succ, List.set_cons_zero]
  refine wpAnyH_ready (rs := [3]) (by kernel_rfl) (by simp) (AllReadyH.cons rfl (fun K hK => ?_) AllReadyH.nil)
  go_simp
  refine (placeOf_none _ a c).mono ?_
  rintro en w1 ⟨rfl, hU1⟩
  have hS1 : (fun W => FunB W bd (.map (some bm)) 44 ∧ Tb W w.heap.size #[.int .u8 k, .string s, .int .i64 num, .int .i64 pos, .slice a 0 c] ∧ DM W bm l) w1 := ⟨hS.1.mono hU1 (by simp), hS.2.1.mono hU1 (by simp), hS.2.2.upd hU1 (by simp)⟩
  have U1 : Hid (Upd [] w w1) := HU0.out.drew.trans hU1
  refine hK.out _ _ hS1 (fun _ => ?_)
  clear hK K hU1 hS u0 tb
  refine wpAnyH_take (i := 4) (v := .tuple #[.int .i64 0, .bool true]) rfl (by kernel_rfl) (by kernel_rfl) (by kernel_rfl) (fun _ _ _ h => h) (Or.inl ⟨by rfl, ?_⟩) hS1 ?_
  · intro W hW; obtain ⟨h1, h2, h3⟩ := hW; have e2 := (hl.elim fun l2 hl2 => (DM.look_at (l1 := []) (l2 := l2) (by rw [List.nil_append, ← hl2]; exact h3) (by simp)).1); go_simp
  refine wpAnyH_take (i := 5) (v := .tuple #[.int .i64 0, .bool true]) rfl (by kernel_rfl) (by kernel_rfl) (by kernel_rfl) (fun _ _ _ h => h) (Or.inl ⟨by rfl, ?_⟩) hS1 ?_
  · intro W hW; go_simp
  refine wpAnyH_take (i := 6) (v := .int .i64 0) rfl (by kernel_rfl) (by kernel_rfl) (by kernel_rfl) (fun _ _ _ h => h) (Or.inl ⟨by rfl, ?_⟩) hS1 ?_
  · intro W hW; go_simp
  refine wpAnyH_take (i := 7) (v := .bool true) rfl (by kernel_rfl) (by kernel_rfl) (by kernel_rfl) (fun _ _ _ h => h) (Or.inl ⟨by rfl, ?_⟩) hS1 ?_
  · intro W hW; go_simp
  refine wpAnyH_take (i := 8) (v := .int .i64 0) rfl (by kernel_rfl) (by kernel_rfl) (by kernel_rfl) (fun _ _ _ h => h) (Or.inl ⟨by rfl, ?_⟩) hS1 ?_
  · intro W hW; go_simp
  refine wpAnyH_take (i := 9) (v := .bool true) rfl (by kernel_rfl) (by kernel_rfl) (by kernel_rfl) (fun _ _ _ h => h) (Or.inl ⟨by rfl, ?_⟩) hS1 ?_
  · intro W hW; go_simp
  simp only [Act.put, List.getElem_toArray, List.getElem_cons_succ, List.getElem_cons_zero, List.setIfInBounds_toArray, List.set_cons_succ, List.set_cons_zero]
  refine wpAnyH_done (by kernel_rfl) ?_ _
  clear hl hbd hD
  go_wp2
  go_ret
  exact ⟨rfl, U1.out⟩
set_option maxHeartbeats 2000000 in
set_option maxRecDepth 100000 in
theorem un1_new (w : World) (bd bm br : Nat) (k num pos : Int) (s : ByteArray) (l : List (Option Addr × Int × Int)) (g n c : Nat) (hn : 0 < n) (hn2 : n ≤ 20000) (hl : ∀ t ∈ l, ∀ W, Upd [] w W → Far W (some ⟨g, 0, none⟩) t.1) (hbr : FunB w br (.slice none 0 0) 45) (hbd : FunB w bd (.map (some bm)) 44) (hD : DM w bm l) :
    Calls Tryd.prog 60 #[.agg #[.int .u8 k, .string s, .int .i64 num, .int .i64 pos, .slice (some ⟨g, 0, none⟩) n c], .pointer (some ⟨bd, 0, none⟩), .pointer (some ⟨br, 0, none⟩)] w fun e w' => e = .returned (.bool true) ∧ Upd [br] w w' ∧ ∃ b1 c1, FunB w' br (.slice (some ⟨b1, 0, none⟩) 1 c1) 45 ∧ w.heap.size ≤ b1 ∧ b1 < w'.heap.size ∧ w'.cell? ⟨b1, 0, none⟩ = some (.slice (some ⟨g, 0, none⟩) n c) ∧ 1 ≤ c1 ∧ c1 ≤ 9223372036854775807 := by
  have u0 : Upd [] w (w.alloc (.cells #[.int .u8 k, .string s, .int .i64 num, .int .i64 pos, .slice (some ⟨g, 0, none⟩) n c] 25)) := (Upd.refl [] w).alloc _
  have tb := Tb.new w #[.int .u8 k, .string s, .int .i64 num, .int .i64 pos, .slice (some ⟨g, 0, none⟩) n c] _ rfl
  have HU0 : Hid (Upd [] w (w.alloc (.cells #[.int .u8 k, .string s, .int .i64 num, .int .i64 pos, .slice (some ⟨g, 0, none⟩) n c] 25))) := u0
  go_enter Tryd.func60, Tryd.ntmps60
  go_wp2
  refine wp_region_held_drew (S := (fun W => FunB W bd (.map (some bm)) 44 ∧ Tb W w.heap.size #[.int .u8 k, .string s, .int .i64 num, .int .i64 pos, .slice (some ⟨g, 0, none⟩) n c] ∧ DM W bm l ∧ Upd [] w W)) (by kernel_rfl) ⟨hbd.mono u0.drew (by simp), tb, hD.upd u0.drew (by simp), u0.drew⟩ (fun hS => ?_)
  refine wpAnyH_take (i := 0) (v := .map (some bm)) rfl (by kernel_rfl) (by kernel_rfl) (by kernel_rfl) (fun _ _ _ h => h) (Or.inl ⟨by rfl, ?_⟩) hS ?_
  · intro W hW; obtain ⟨h1, h2, h3, h4⟩ := hW; have e0 := h1.cell; have e1 : W.cell? ⟨w.heap.size, 4, none⟩ = some (.slice (some ⟨g, 0, none⟩) n c) := h2.cell 4; go_simp
  refine wpAnyH_take (i := 1) (v := .pointer (some ⟨w.heap.size, 4, none⟩)) rfl (by kernel_rfl) (by kernel_rfl) (by kernel_rfl) (fun _ _ _ h => h) (Or.inl ⟨by rfl, ?_⟩) hS ?_
  · intro W hW; obtain ⟨h1, h2, h3, h4⟩ := hW; have e0 := h1.cell; have e1 : W.cell? ⟨w.heap.size, 4, none⟩ = some (.slice (some ⟨g, 0, none⟩) n c) := h2.cell 4; go_simp
  refine wpAnyH_take (i := 2) (v := .slice (some ⟨g, 0, none⟩) n c) rfl (by kernel_rfl) (by kernel_rfl) (by kernel_rfl) (fun _ _ _ h => h) (Or.inl ⟨by rfl, ?_⟩) hS ?_
  · intro W hW; obtain ⟨h1, h2, h3, h4⟩ := hW; have e0 := h1.cell; have e1 : W.cell? ⟨w.heap.size, 4, none⟩ = some (.slice (some ⟨g, 0, none⟩) n c) := h2.cell 4; go_simp
  simp only [Act.put, List.getElem_toArray, List.getElem_cons_succ, List.getElem_cons_zero, List.setIfInBounds_toArray, List.set_cons_succ, List.set_cons_zero]
  refine wpAnyH_ready (rs := [3]) (by kernel_rfl) (by simp) (AllReadyH.cons rfl (fun K hK => ?_) AllReadyH.nil)
  go_simp
  refine (placeOf_some _ g n c hn hn2).mono ?_
  rintro en w1 ⟨rfl, hU1⟩
  have hS1 : (fun W => FunB W bd (.map (some bm)) 44 ∧ Tb W w.heap.size #[.int .u8 k, .string s, .int .i64 num, .int .i64 pos, .slice (some ⟨g, 0, none⟩) n c] ∧ DM W bm l ∧ Upd [] w W) w1 := ⟨hS.1.mono hU1 (by simp), hS.2.1.mono hU1 (by simp), hS.2.2.1.upd hU1 (by simp), hS.2.2.2.trans hU1⟩
  have U1 : Hid (Upd [] w w1) := HU0.out.drew.trans hU1
  refine hK.out _ _ hS1 (fun _ => ?_)
  clear hK K hU1 hS u0 tb
  refine wpAnyH_take (i := 4) (v := .tuple #[.int .i64 0, .bool false]) rfl (by kernel_rfl) (by kernel_rfl) (by kernel_rfl) (fun _ _ _ h => h) (Or.inl ⟨by rfl, ?_⟩) hS1 ?_
  · intro W hW; obtain ⟨h1, h2, h3, h4⟩ := hW; have e2 := (DM.look_no (p := some ⟨g, 0, none⟩) h3 (n : Int) (fun t ht => hl t ht W h4)); go_simp
  refine wpAnyH_take (i := 5) (v := .tuple #[.int .i64 0, .bool false]) rfl (by kernel_rfl) (by kernel_rfl) (by kernel_rfl) (fun _ _ _ h => h) (Or.inl ⟨by rfl, ?_⟩) hS1 ?_
  · intro W hW; go_simp
  refine wpAnyH_take (i := 6) (v := .int .i64 0) rfl (by kernel_rfl) (by kernel_rfl) (by kernel_rfl) (fun _ _ _ h => h) (Or.inl ⟨by rfl, ?_⟩) hS1 ?_
  · intro W hW; go_simp
  refine wpAnyH_take (i := 7) (v := .bool false) rfl (by kernel_rfl) (by kernel_rfl) (by kernel_rfl) (fun _ _ _ h => h) (Or.inl ⟨by rfl, ?_⟩) hS1 ?_
  · intro W hW; go_simp
  refine wpAnyH_take (i := 8) (v := .int .i64 0) rfl (by kernel_rfl) (by kernel_rfl) (by kernel_rfl) (fun _ _ _ h => h) (Or.inl ⟨by rfl, ?_⟩) hS1 ?_
  · intro W hW; go_simp
  refine wpAnyH_take (i := 9) (v := .bool false) rfl (by kernel_rfl) (by kernel_rfl) (by kernel_rfl) (fun _ _ _ h => h) (Or.inl ⟨by rfl, ?_⟩) hS1 ?_
  · intro W hW; go_simp
  simp only [Act.put, List.getElem_toArray, List.getElem_cons_succ, List.getElem_cons_zero, List.setIfInBounds_toArray, List.set_cons_succ, List.set_cons_zero]
  refine wpAnyH_done (by kernel_rfl) ?_ _
  obtain ⟨i0, hi, hz0, hzs, hzb⟩ := info_partsN info_nodesP
  have hr1 : FunB w1 br (.slice none 0 0) 45 := hbr.mono U1.out (by simp)
  have e0 := hr1.cell
  have e1 : w1.cell? ⟨w.heap.size, 4, none⟩ = some (.slice (some ⟨g, 0, none⟩) n c) := hS1.2.1.cell 4
  have hnb : (w1.alloc (.cells #[.slice (some ⟨g, 0, none⟩) n c] 23)).heap[w1.heap.size]? = some (.cells #[.slice (some ⟨g, 0, none⟩) n c] 23 (0, 0)) := heap_alloc_new w1 _
  have HR1 : Hid (FunB w1 br (.slice none 0 0) 45) := hr1
  have hlb : br < w1.heap.size := hr1.lt
  clear hl hbd hD hbr hr1
  go_wp2_with (first
    | (at_builtin; refine wpList_appendG rfl _ _ 45 rfl Tryd.underlying45 hi hz0 hzs hzb rfl (v := .slice none 0 0) (n := 0) rfl (Or.inl ⟨rfl, rfl⟩) ⟨w1.heap.size, 0, none⟩ 1 1 [.slice (some ⟨g, 0, none⟩) n c] rfl rfl (fun j u hj => by rw [Addr.add_lit, Nat.zero_add, cell_of_row _ _ _ _ _ _ hnb]; simpa using hj) (by intro u hu; simp at hu; subst hu; rfl) (by omega) (by omega) (by omega) ?_; intro b1 c1 w2 hR2 hG2 hC2
       have hb1 : b1 = w1.heap.size + 1 := by
         rcases hG2.at' with h1 | h1
         · cases h1
         · simpa using h1
       have hr2 : FunB w2 br (.slice none 0 0) 45 := (HR1.out.mono ((Upd.refl [] w1).alloc _) (by simp)).mono hG2.upd (by simp; omega)
       have f0 := hr2.cell
       have f1 := hr2.free
       have HB1 : Hid (b1 = w1.heap.size + 1) := hb1
       have HG2 : Hid (Upd [b1] (w1.alloc (.cells #[.slice (some ⟨g, 0, none⟩) n c] 23)) w2 ∧ FunB w2 br (.slice none 0 0) 45) := ⟨hG2.upd, hr2⟩
       have HR2 : Hid (RowG w2 1 (.slice (some ⟨b1, 0, none⟩) 1 c1) 1 ∧ w2.cell? ⟨b1, 0, none⟩ = some (.slice (some ⟨g, 0, none⟩) n c)) := ⟨hR2, hC2 0 (by omega)⟩
       clear hb1 hr2 hR2 hG2 hC2)
    | fail)
  go_ret
  have hb1 := HB1.out
  have u2 : Upd [] w w2 := (U1.out.alloc _).then HG2.out.1 (fun x hx => Or.inl (by simp at hx; have := U1.out.size; omega))
  have hbl := HR2.out.1.lt b1 rfl
  obtain ⟨g2, cap2, e2, hc1, hc2, hc3⟩ := RowG.slice HR2.out.1
  simp only [Value.slice.injEq, Option.some.injEq, Addr.mk.injEq, and_true, true_and] at e2
  obtain ⟨rfl, rfl⟩ := e2
  refine ⟨rfl, ((Upd.refl [br] w).then u2 (by simp)).setCell (Or.inr (by simp)) _, b1, c1, HG2.out.2.set _, by have := U1.out.size; omega, by simpa using hbl, ?_, by omega, hc2⟩
  rw [((Upd.refl [br] w2).setCell (p := ⟨br, 0, none⟩) (Or.inr (by simp)) _).cell (p := ⟨b1, 0, none⟩) hbl (by simp; omega)]
  exact HR2.out.2

end Go.Proofs.YtehfoblfmehbdaaDoor
