/- Deep of a node whose kids have none. -/
import Derived.Test.YtehfoblfmehbdaaDoorNsN
namespace Go.Proofs.YtehfoblfmehbdaaDoor
open Go.RowKit

/-- What holds while Deep goes on. -/
structure DS (w W : World) (bd bm bt : Nat) (tc : Array Value) (l : List (Option Addr × Int × Int)) : Prop where
  f : FunB W bd (.map (some bm)) 44
  m : DM W bm l
  t : Tb W bt tc
  u : Upd [] w W
theorem DS.later {w W V : World} {bd bm bt : Nat} {tc : Array Value} {l : List (Option Addr × Int × Int)} (h : DS w W bd bm bt tc l) (hu : Upd [] W V) : DS w V bd bm bt tc l := ⟨h.f.mono hu (by simp), h.m.upd hu (by simp), h.t.mono hu (by simp), h.u.trans hu⟩
theorem DS.put {w W V : World} {bd bm bt : Nat} {tc : Array Value} {l l' : List (Option Addr × Int × Int)} (h : DS w W bd bm bt tc l) (hu : Upd [bm] W V) (hd : DM V bm l') (hb : bd ≠ bm ∧ bt ≠ bm ∧ w.heap.size ≤ bm) : DS w V bd bm bt tc l' :=
  ⟨h.f.mono hu (by simpa using hb.1), hd, h.t.mono hu (by simpa using hb.2.1), h.u.then hu (by simp; omega)⟩
theorem DS.far {w W : World} {bd bm bt : Nat} {tc : Array Value} {l : List (Option Addr × Int × Int)} (h : DS w W bd bm bt tc l) {g : Nat} (hg : Unm w g) (hb : g ≠ bt) : Far W (some ⟨g, 0, none⟩) (some ⟨bt, 0, none⟩) :=
  Or.inr (Or.inr ⟨g, bt, rfl, rfl, hb, hg.upd h.u (by simp), ⟨_, h.t⟩⟩)
theorem DS.grow {w W V : World} {bd bm bt b : Nat} {tc : Array Value} {l : List (Option Addr × Int × Int)} (h : DS w W bd bm bt tc l) (hu : Upd [b] W V) (hb : b ≠ bd ∧ b ≠ bm ∧ b ≠ bt ∧ w.heap.size ≤ b) : DS w V bd bm bt tc l :=
  ⟨h.f.mono hu (by simp; omega), h.m.upd hu (by simp; omega), h.t.mono hu (by simp; omega), h.u.then hu (by simp; omega)⟩
theorem far_none (W : World) (g : Nat) : Far W (some ⟨g, 0, none⟩) none := Or.inr (Or.inl ⟨rfl, g, rfl⟩)
theorem app_noneR (v : Value) (w : World) (n : Nat) (ty : TypeId) (h : RowG w 1 v n) : (Builtin.append_ #[45, 45] ty #[v, .slice none 0 0]).run Tryd.prog w = .ok v w := by
  obtain ⟨i0, hi, hz0, hzs, hzb⟩ := info_partsN info_nodesP
  rcases h with ⟨rfl, rfl⟩ | ⟨g, cap, rfl, hg, hc, hm, _⟩
  · unfold Builtin.append_
    simp [run_underlying Tryd.underlying45, go_sem, Result.andThen]
  · unfold Builtin.append_
    simp [run_underlying Tryd.underlying45, go_sem, Result.andThen, hc]
theorem wpList_appNone {w : World} {ops : Array Oper} {rest : List Oper} {o : Oper} {a : Act} {Q : Exit → Act → World → Prop} (hgd : o.guard = none) (s x : Operand) (ho : o.op = .call { callee := .builtin .append, args := #[s, x], argTypes := #[45, 45] })
    {v : Value} {n : Nat} (hs : a.eval s = v) (hr : RowG w 1 v n) (hx : a.eval x = .slice none 0 0) (h : wpList Tryd.prog ops Q rest (a.put o.dst v) w) : wpList Tryd.prog ops Q (o :: rest) a w := by
  refine wpList_plain hgd fun K hK => ?_
  have hrun := app_noneR v w n o.type hr
  unfold Oper.wp execOp
  simp only [ho, resolve, invoke, builtin, Sem.run_bind, Sem.run_pure, Result.andThen_ok, List.map_toArray, List.map_cons, List.map_nil, hs, hx, hrun]
  exact hK _ _ h

set_option maxHeartbeats 4000000 in
set_option maxRecDepth 100000 in
theorem Deep_flat (w : World) (k num pos : Int) (s : ByteArray) (g c d : Nat) (J : List Nd) (hJ : RowN (NIn w d) w (some ⟨g, 0, none⟩) J) (hg : Unm w g) (hn : 0 < J.length) (hn2 : J.length ≤ 20000) (h0 : ∀ W cs i (hi : i < J.length), NIn W d cs J[i] → ∃ k s num pos a c, cs = [.int .u8 k, .string s, .int .i64 num, .int .i64 pos, .slice a 0 c]) :
    Calls Tryd.prog 13 #[.agg #[.int .u8 k, .string s, .int .i64 num, .int .i64 pos, .slice (some ⟨g, 0, none⟩) J.length c]] w fun e w' => e = .returned (.int .i64 2) ∧ Upd [] w w' := by
  have hmm := @run_makeMap Tryd.prog
  have tb0 := (Tb.new w #[.int .u8 k, .string s, .int .i64 num, .int .i64 pos, .slice (some ⟨g, 0, none⟩) J.length c] _ rfl).old (.map #[] 0)
  have u0 : Upd [] w ((w.alloc (.cells #[.int .u8 k, .string s, .int .i64 num, .int .i64 pos, .slice (some ⟨g, 0, none⟩) J.length c] 25)).alloc (.map #[] 0)) := ((Upd.refl [] w).alloc _).alloc _
  have hd0 : DM ((w.alloc (.cells #[.int .u8 k, .string s, .int .i64 num, .int .i64 pos, .slice (some ⟨g, 0, none⟩) J.length c] 25)).alloc (.map #[] 0)) (w.heap.size + 1) [] := ⟨#[], 0, by rw [show w.heap.size + 1 = (w.alloc (.cells #[.int .u8 k, .string s, .int .i64 num, .int .i64 pos, .slice (some ⟨g, 0, none⟩) J.length c] 25)).heap.size by simp]; exact heap_alloc_new _ _, rfl⟩
  have HJ : Hid (RowN (NIn w d) w (some ⟨g, 0, none⟩) J) := hJ
  have HG : Hid (Unm w g) := hg
  have H0 : Hid (∀ W cs i (hi : i < J.length), NIn W d cs J[i] → ∃ k s num pos a c, cs = [.int .u8 k, .string s, .int .i64 num, .int .i64 pos, .slice a 0 c]) := h0
  have hgl : g < w.heap.size := hg.lt
  clear hJ hg h0
  go_enter Tryd.func13, Tryd.ntmps13
  go_wp2_with fail
  refine Calls.mono (placeOf_none _ none 0) ?_
  rintro e w1 ⟨rfl, hU1⟩
  obtain ⟨w2, hM2, hU2, hz2, hD2⟩ := (hd0.upd hU1 (by simp)).put_new (p := none) 0 0 (by simp)
  have tb2 : Tb w2 w.heap.size #[.int .u8 k, .string s, .int .i64 num, .int .i64 pos, .slice (some ⟨g, 0, none⟩) J.length c] := (tb0.mono hU1 (by simp)).mono hU2 (by simp)
  have U2 : Hid (Upd [] w w2) := (u0.trans hU1).then hU2 (by simp)
  have HD2 : Hid (DM w2 (w.heap.size + 1) [(none, 0, 0)]) := hD2
  have hs2 : w.heap.size + 2 ≤ w2.heap.size := by have := hU1.size; simp at this; omega
  have tb3 : Tb (w2.alloc (.cells #[.map (some (w.heap.size + 1))] 44)) w.heap.size #[.int .u8 k, .string s, .int .i64 num, .int .i64 pos, .slice (some ⟨g, 0, none⟩) J.length c] := tb2.old _
  clear u0 hd0 tb0 hU1 hU2 hz2 hD2
  go_wp2_with (first | (refine load_T _ rfl _ rfl _ _ rfl tb3 rfl ?_) | fail)
  have hbm : w2.heap.size ≠ w.heap.size + 1 ∧ w2.heap.size + 1 ≠ w.heap.size + 1 ∧ w.heap.size ≤ w.heap.size + 1 := ⟨by omega, by omega, by omega⟩
  obtain ⟨w3, hw3⟩ : ∃ w3, w3 = ((w2.alloc (.cells #[.map (some (w.heap.size + 1))] 44)).alloc (.cells #[.int .u8 k, .string s, .int .i64 num, .int .i64 pos, .slice (some ⟨g, 0, none⟩) J.length c] 25)).alloc (.cells #[.slice (some ⟨w2.heap.size + 1, 0, none⟩) 1 1] 23) := ⟨_, rfl⟩
  have u3 : Upd [] w2 w3 := by rw [hw3]; exact (((Upd.refl [] w2).alloc _).alloc _).alloc _
  have hS_w3 : DS w w3 w2.heap.size (w.heap.size + 1) (w2.heap.size + 1) #[.int .u8 k, .string s, .int .i64 num, .int .i64 pos, .slice (some ⟨g, 0, none⟩) J.length c] [(none, 0, 0)] := ⟨by rw [hw3]; exact ((FunB.new w2 _ _ _ rfl).mono ((Upd.refl [] _).alloc _) (by simp)).mono ((Upd.refl [] _).alloc _) (by simp), HD2.out.upd u3 (by simp), by rw [hw3]; exact (Tb.new _ _ _ (by simp)).old _, U2.out.trans u3⟩
  have hT3 : w3.heap[w2.heap.size + 1 + 1]? = some (.cells #[.slice (some ⟨w2.heap.size + 1, 0, none⟩) 1 1] 23 (0, 0)) := by
    rw [hw3, show w2.heap.size + 1 + 1 = ((w2.alloc (.cells #[.map (some (w.heap.size + 1))] 44)).alloc (.cells #[.int .u8 k, .string s, .int .i64 num, .int .i64 pos, .slice (some ⟨g, 0, none⟩) J.length c] 25)).heap.size by simp]
    exact heap_alloc_new _ _
  have hz3 : w3.heap.size = w2.heap.size + 3 := by rw [hw3]; simp
  rw [← hw3]
  clear hw3 tb2 tb3 HD2 U2 u3
  have x0 : w3.cell? ⟨w2.heap.size + 1 + 1, 0, none⟩ = some (.slice (some ⟨w2.heap.size + 1, 0, none⟩) 1 1) := cell_of_row w3 _ 0 _ _ _ hT3
  refine wp_loop_rounds 5 ?_
  rw [rounds_succ]
  go_wp2
  refine wp_region_held_drew (S := (fun W => DS w W w2.heap.size (w.heap.size + 1) (w2.heap.size + 1) #[.int .u8 k, .string s, .int .i64 num, .int .i64 pos, .slice (some ⟨g, 0, none⟩) J.length c] [(none, 0, 0)])) (by kernel_rfl) (hS_w3.later (Upd.refl [] _).drew) (fun hS => ?_)
  refine wpAnyH_take (i := 0) (v := .map (some (w.heap.size + 1))) rfl (by kernel_rfl) (by kernel_rfl) (by kernel_rfl) (fun _ _ _ h => h) (Or.inl ⟨by rfl, ?_⟩) hS ?_
  · intro W hW; have e0 := hW.f.cell; go_simp
  refine wpAnyH_take (i := 1) (v := .slice (some ⟨w2.heap.size + 1, 0, none⟩) 1 1) rfl (by kernel_rfl) (by kernel_rfl) (by kernel_rfl) (fun _ _ _ h => h) (Or.inl ⟨by rfl, ?_⟩) hS ?_
  · intro W hW; go_simp
  simp only [Act.put, List.getElem_toArray, List.getElem_cons_succ, List.getElem_cons_zero, List.setIfInBounds_toArray, List.set_cons_succ, List.set_cons_zero]
  refine wpAnyH_ready (rs := [2]) (by kernel_rfl) (by simp) (AllReadyH.cons rfl (fun K hK => ?_) AllReadyH.nil)
  go_simp
  refine Calls.mono (placeOf_some _ (w2.heap.size + 1) 1 1 (by omega) (by omega)) ?_
  rintro en w4 ⟨rfl, hU⟩
  have U_w4 : Upd [] w3 w4 := Upd.trans (Upd.refl [] _).drew hU
  have hS_w4 : DS w w4 w2.heap.size (w.heap.size + 1) (w2.heap.size + 1) #[.int .u8 k, .string s, .int .i64 num, .int .i64 pos, .slice (some ⟨g, 0, none⟩) J.length c] [(none, 0, 0)] := hS.later hU
  refine hK.out _ _ hS_w4 (fun _ => ?_)
  clear hK K hU hS hS_w3
  refine wpAnyH_take (i := 3) (v := .tuple #[.int .i64 0, .bool false]) rfl (by kernel_rfl) (by kernel_rfl) (by kernel_rfl) (fun _ _ _ h => h) (Or.inl ⟨by rfl, ?_⟩) hS_w4 ?_
  · intro W hW; have e2 := (DM.look_no (p := some ⟨w2.heap.size + 1, 0, none⟩) hW.m (1 : Int) (by intro t ht; simp at ht; subst ht; exact far_none _ _)); go_simp
  refine wpAnyH_take (i := 4) (v := .tuple #[.int .i64 0, .bool false]) rfl (by kernel_rfl) (by kernel_rfl) (by kernel_rfl) (fun _ _ _ h => h) (Or.inl ⟨by rfl, ?_⟩) hS_w4 ?_
  · intro W hW; go_simp
  refine wpAnyH_take (i := 5) (v := .int .i64 0) rfl (by kernel_rfl) (by kernel_rfl) (by kernel_rfl) (fun _ _ _ h => h) (Or.inl ⟨by rfl, ?_⟩) hS_w4 ?_
  · intro W hW; go_simp
  refine wpAnyH_take (i := 6) (v := .bool false) rfl (by kernel_rfl) (by kernel_rfl) (by kernel_rfl) (fun _ _ _ h => h) (Or.inl ⟨by rfl, ?_⟩) hS_w4 ?_
  · intro W hW; go_simp
  refine wpAnyH_take (i := 7) (v := .int .i64 0) rfl (by kernel_rfl) (by kernel_rfl) (by kernel_rfl) (fun _ _ _ h => h) (Or.inl ⟨by rfl, ?_⟩) hS_w4 ?_
  · intro W hW; go_simp
  refine wpAnyH_take (i := 8) (v := .bool false) rfl (by kernel_rfl) (by kernel_rfl) (by kernel_rfl) (fun _ _ _ h => h) (Or.inl ⟨by rfl, ?_⟩) hS_w4 ?_
  · intro W hW; go_simp
  simp only [Act.put, List.getElem_toArray, List.getElem_cons_succ, List.getElem_cons_zero, List.setIfInBounds_toArray, List.set_cons_succ, List.set_cons_zero]
  refine wpAnyH_done (by kernel_rfl) ?_ _
  go_wp2_with fail
  refine wp_region_held_drew (S := (fun W => FunB W w2.heap.size (.map (some (w.heap.size + 1))) 44)) (by kernel_rfl) (hS_w4.f.mono (Upd.refl [] _).drew (by simp)) (fun hS => ?_)
  refine wpAnyH_take (i := 0) (v := .map (some (w.heap.size + 1))) rfl (by kernel_rfl) (by kernel_rfl) (by kernel_rfl) (fun _ _ _ h => h) (Or.inl ⟨by rfl, ?_⟩) hS ?_
  · intro W hW; have e0 := FunB.cell hW; go_simp
  refine wpAnyH_take (i := 1) (v := .slice (some ⟨w2.heap.size + 1, 0, none⟩) 1 1) rfl (by kernel_rfl) (by kernel_rfl) (by kernel_rfl) (fun _ _ _ h => h) (Or.inl ⟨by rfl, ?_⟩) hS ?_
  · intro W hW; go_simp
  simp only [Act.put, List.getElem_toArray, List.getElem_cons_succ, List.getElem_cons_zero, List.setIfInBounds_toArray, List.set_cons_succ, List.set_cons_zero]
  clear hS
  refine wpAnyH_ready (rs := [2]) (by kernel_rfl) (by simp) (AllReadyH.cons rfl (fun K hK => ?_) AllReadyH.nil)
  go_simp
  refine Calls.mono (placeOf_some _ (w2.heap.size + 1) 1 1 (by omega) (by omega)) ?_
  rintro en w5 ⟨rfl, hU⟩
  have U_w5 : Upd [] w4 w5 := Upd.trans (Upd.refl [] _).drew hU
  have hS_w5 : DS w w5 w2.heap.size (w.heap.size + 1) (w2.heap.size + 1) #[.int .u8 k, .string s, .int .i64 num, .int .i64 pos, .slice (some ⟨g, 0, none⟩) J.length c] [(none, 0, 0)] := hS_w4.later U_w5
  refine hK.out _ _ hS_w5.f (fun hS => ?_)
  clear hK K hU hS_w4
  obtain ⟨w6, hM, hV, _, hDn⟩ := hS_w5.m.put_new (p := some ⟨w2.heap.size + 1, 0, none⟩) 1 (-1) (by intro t ht; simp at ht; subst ht; exact far_none _ _)
  have hS_w6 : DS w w6 w2.heap.size (w.heap.size + 1) (w2.heap.size + 1) #[.int .u8 k, .string s, .int .i64 num, .int .i64 pos, .slice (some ⟨g, 0, none⟩) J.length c] [(none, 0, 0), (some ⟨w2.heap.size + 1, 0, none⟩, 1, -1)] := hS_w5.put hV hDn hbm
  refine wpAnyH_ready (rs := [3]) (by kernel_rfl) (by simp) (AllReadyH.cons rfl (fun K hK => ?_) AllReadyH.nil)
  go_simp
  refine hK.out _ _ hS_w6.f (fun _ => ?_)
  have V_w6 : Upd [(w.heap.size + 1)] w5 w6 := hV
  clear hK K hM hDn hV hS_w5
  refine wpAnyH_done (by kernel_rfl) ?_ _
  have e0 := hS_w6.f.cell
  go_wp2_with fail
  refine Calls.mono (unmet_one w6 (w.heap.size + 1) (w2.heap.size + 1) 1 k num pos s [(none, 0, 0), (some ⟨w2.heap.size + 1, 0, none⟩, 1, -1)] g J.length c hn hn2 hS_w6.t (fun t ht W hW => ?_) hS_w6.m) ?_
  · have hWS := hS_w6.later hW
    simp at ht
    rcases ht with rfl | rfl
    · exact far_none _ _
    · exact hWS.far HG.out (by omega)
  rintro en w7 ⟨b1, c1, rfl, hU7, hb1, hb2, hb3, hb4⟩
  have hS_w7 : DS w w7 w2.heap.size (w.heap.size + 1) (w2.heap.size + 1) #[.int .u8 k, .string s, .int .i64 num, .int .i64 pos, .slice (some ⟨g, 0, none⟩) J.length c] [(none, 0, 0), (some ⟨w2.heap.size + 1, 0, none⟩, 1, -1)] := hS_w6.later hU7
  have hT7 : w7.heap[w2.heap.size + 1 + 1]? = some (.cells #[.slice (some ⟨w2.heap.size + 1, 0, none⟩) 1 1] 23 (0, 0)) := by
    have l3 := lt_of_block hT3
    have s4 := U_w4.size
    have s5 := U_w5.size
    have s6 := V_w6.size
    rw [hU7.block _ (by omega) (by simp), V_w6.block _ (by omega) (by simp; omega), U_w5.block _ (by omega) (by simp), U_w4.block _ (by omega) (by simp)]
    exact hT3
  have hR7 : RowG w7 1 (.slice (some ⟨w2.heap.size + 1 + 1, 0, none⟩) 1 1) 1 := Or.inr ⟨_, 1, rfl, lt_of_block hT7, by omega, by unfold maxLen; omega, fun j hj => ⟨by rw [cell_of_row _ _ _ _ _ _ hT7, Nat.zero_add, Array.getElem?_eq_getElem (by simpa using hj)]; rfl, frozen_of_row _ _ _ _ _ hT7⟩⟩
  obtain ⟨i0, hi, hz0, hzs, hzb⟩ := info_partsN info_nodesP
  have hz7 : w3.heap.size ≤ w7.heap.size := Nat.le_trans U_w4.size (Nat.le_trans U_w5.size (Nat.le_trans V_w6.size hU7.size))
  clear e0 hS_w6 U_w4 U_w5 V_w6 hU7 x0
  go_wp2_with (first
    | (at_builtin; refine wpList_appendG rfl _ _ 45 rfl Tryd.underlying45 hi hz0 hzs hzb rfl (v := .slice (some ⟨w2.heap.size + 1 + 1, 0, none⟩) 1 1) (n := 1) rfl hR7 ⟨b1, 0, none⟩ 1 c1 [.slice (some ⟨g, 0, none⟩) J.length c] rfl rfl (fun j u hj => by (cases j with | zero => (simp at hj; subst hj; exact hb3) | succ j => simp at hj)) (by intro u hu; simp at hu; subst hu; rfl) (by omega) (by omega) (by omega) ?_; intro b2 c2 w8 hR8 hG8 hC8)
    | fail)
  have hb2' : b2 = w2.heap.size + 1 + 1 ∨ b2 = w7.heap.size := by
    rcases hG8.at' with h1 | h1
    · simp only [Value.ownBlock, Option.some.injEq] at h1
      exact Or.inl h1.symm
    · exact Or.inr h1
  have hbb : b2 ≠ w2.heap.size ∧ b2 ≠ w.heap.size + 1 ∧ b2 ≠ w2.heap.size + 1 ∧ w.heap.size ≤ b2 := by omega
  have hS_w8 : DS w w8 w2.heap.size (w.heap.size + 1) (w2.heap.size + 1) #[.int .u8 k, .string s, .int .i64 num, .int .i64 pos, .slice (some ⟨g, 0, none⟩) J.length c] [(none, 0, 0), (some ⟨w2.heap.size + 1, 0, none⟩, 1, -1)] := hS_w7.grow hG8.upd hbb
  have y0 : w8.cell? ⟨b2, 0, none⟩ = some (.slice (some ⟨w2.heap.size + 1, 0, none⟩) 1 1) := by
    rw [hG8.new _ _ _ rfl 0 (by omega), cell_of_row _ _ _ _ _ _ hT7]
    rfl
  have y1 : w8.cell? ⟨b2, 1, none⟩ = some (.slice (some ⟨g, 0, none⟩) J.length c) := hC8 0 (by omega)
  have hR8' : RowG w8 1 (.slice (some ⟨b2, 0, none⟩) 2 c2) 2 := hR8
  have hl8 : b2 < w8.heap.size := hR8'.lt b2 rfl
  obtain ⟨gx, cx, ex, hc1, hc2, _⟩ := RowG.slice (n := 1) hR8'
  simp only [Value.slice.injEq, Option.some.injEq, Addr.mk.injEq, and_true] at ex
  obtain ⟨rfl, _, rfl⟩ := ex
  clear hR8 hG8 hC8 hT7 hT3 hR7 hb1 hb2 hb3 hb4 hS_w7 hz7 hb2' hz3
  rw [rounds_succ]
  go_wp2
  refine wp_region_held_drew (S := (fun W => DS w W w2.heap.size (w.heap.size + 1) (w2.heap.size + 1) #[.int .u8 k, .string s, .int .i64 num, .int .i64 pos, .slice (some ⟨g, 0, none⟩) J.length c] [(none, 0, 0), (some ⟨w2.heap.size + 1, 0, none⟩, 1, -1)])) (by kernel_rfl) (hS_w8.later (Upd.refl [] _).drew) (fun hS => ?_)
  refine wpAnyH_take (i := 0) (v := .map (some (w.heap.size + 1))) rfl (by kernel_rfl) (by kernel_rfl) (by kernel_rfl) (fun _ _ _ h => h) (Or.inl ⟨by rfl, ?_⟩) hS ?_
  · intro W hW; have e0 := hW.f.cell; go_simp
  refine wpAnyH_take (i := 1) (v := .slice (some ⟨g, 0, none⟩) J.length c) rfl (by kernel_rfl) (by kernel_rfl) (by kernel_rfl) (fun _ _ _ h => h) (Or.inl ⟨by rfl, ?_⟩) hS ?_
  · intro W hW; go_simp
  simp only [Act.put, List.getElem_toArray, List.getElem_cons_succ, List.getElem_cons_zero, List.setIfInBounds_toArray, List.set_cons_succ, List.set_cons_zero]
  refine wpAnyH_ready (rs := [2]) (by kernel_rfl) (by simp) (AllReadyH.cons rfl (fun K hK => ?_) AllReadyH.nil)
  go_simp
  refine Calls.mono (placeOf_some _ g J.length c hn hn2) ?_
  rintro en w9 ⟨rfl, hU⟩
  have U_w9 : Upd [] w8 w9 := Upd.trans (Upd.refl [] _).drew hU
  have hS_w9 : DS w w9 w2.heap.size (w.heap.size + 1) (w2.heap.size + 1) #[.int .u8 k, .string s, .int .i64 num, .int .i64 pos, .slice (some ⟨g, 0, none⟩) J.length c] [(none, 0, 0), (some ⟨w2.heap.size + 1, 0, none⟩, 1, -1)] := hS.later hU
  refine hK.out _ _ hS_w9 (fun _ => ?_)
  clear hK K hU hS hS_w8
  refine wpAnyH_take (i := 3) (v := .tuple #[.int .i64 0, .bool false]) rfl (by kernel_rfl) (by kernel_rfl) (by kernel_rfl) (fun _ _ _ h => h) (Or.inl ⟨by rfl, ?_⟩) hS_w9 ?_
  · intro W hW; have e2 := (DM.look_no (p := some ⟨g, 0, none⟩) hW.m (J.length : Int) (by intro t ht; simp at ht; rcases ht with rfl | rfl; (exact far_none _ _); exact hW.far HG.out (by omega))); go_simp
  refine wpAnyH_take (i := 4) (v := .tuple #[.int .i64 0, .bool false]) rfl (by kernel_rfl) (by kernel_rfl) (by kernel_rfl) (fun _ _ _ h => h) (Or.inl ⟨by rfl, ?_⟩) hS_w9 ?_
  · intro W hW; go_simp
  refine wpAnyH_take (i := 5) (v := .int .i64 0) rfl (by kernel_rfl) (by kernel_rfl) (by kernel_rfl) (fun _ _ _ h => h) (Or.inl ⟨by rfl, ?_⟩) hS_w9 ?_
  · intro W hW; go_simp
  refine wpAnyH_take (i := 6) (v := .bool false) rfl (by kernel_rfl) (by kernel_rfl) (by kernel_rfl) (fun _ _ _ h => h) (Or.inl ⟨by rfl, ?_⟩) hS_w9 ?_
  · intro W hW; go_simp
  refine wpAnyH_take (i := 7) (v := .int .i64 0) rfl (by kernel_rfl) (by kernel_rfl) (by kernel_rfl) (fun _ _ _ h => h) (Or.inl ⟨by rfl, ?_⟩) hS_w9 ?_
  · intro W hW; go_simp
  refine wpAnyH_take (i := 8) (v := .bool false) rfl (by kernel_rfl) (by kernel_rfl) (by kernel_rfl) (fun _ _ _ h => h) (Or.inl ⟨by rfl, ?_⟩) hS_w9 ?_
  · intro W hW; go_simp
  simp only [Act.put, List.getElem_toArray, List.getElem_cons_succ, List.getElem_cons_zero, List.setIfInBounds_toArray, List.set_cons_succ, List.set_cons_zero]
  refine wpAnyH_done (by kernel_rfl) ?_ _
  go_wp2_with fail
  refine wp_region_held_drew (S := (fun W => FunB W w2.heap.size (.map (some (w.heap.size + 1))) 44)) (by kernel_rfl) (hS_w9.f.mono (Upd.refl [] _).drew (by simp)) (fun hS => ?_)
  refine wpAnyH_take (i := 0) (v := .map (some (w.heap.size + 1))) rfl (by kernel_rfl) (by kernel_rfl) (by kernel_rfl) (fun _ _ _ h => h) (Or.inl ⟨by rfl, ?_⟩) hS ?_
  · intro W hW; have e0 := FunB.cell hW; go_simp
  refine wpAnyH_take (i := 1) (v := .slice (some ⟨g, 0, none⟩) J.length c) rfl (by kernel_rfl) (by kernel_rfl) (by kernel_rfl) (fun _ _ _ h => h) (Or.inl ⟨by rfl, ?_⟩) hS ?_
  · intro W hW; go_simp
  simp only [Act.put, List.getElem_toArray, List.getElem_cons_succ, List.getElem_cons_zero, List.setIfInBounds_toArray, List.set_cons_succ, List.set_cons_zero]
  clear hS
  refine wpAnyH_ready (rs := [2]) (by kernel_rfl) (by simp) (AllReadyH.cons rfl (fun K hK => ?_) AllReadyH.nil)
  go_simp
  refine Calls.mono (placeOf_some _ g J.length c hn hn2) ?_
  rintro en w10 ⟨rfl, hU⟩
  have U_w10 : Upd [] w9 w10 := Upd.trans (Upd.refl [] _).drew hU
  have hS_w10 : DS w w10 w2.heap.size (w.heap.size + 1) (w2.heap.size + 1) #[.int .u8 k, .string s, .int .i64 num, .int .i64 pos, .slice (some ⟨g, 0, none⟩) J.length c] [(none, 0, 0), (some ⟨w2.heap.size + 1, 0, none⟩, 1, -1)] := hS_w9.later U_w10
  refine hK.out _ _ hS_w10.f (fun hS => ?_)
  clear hK K hU hS_w9
  obtain ⟨w11, hM, hV, _, hDn⟩ := hS_w10.m.put_new (p := some ⟨g, 0, none⟩) (J.length : Int) (-1) (by intro t ht; simp at ht; rcases ht with rfl | rfl; (exact far_none _ _); exact hS_w10.far HG.out (by omega))
  have hS_w11 : DS w w11 w2.heap.size (w.heap.size + 1) (w2.heap.size + 1) #[.int .u8 k, .string s, .int .i64 num, .int .i64 pos, .slice (some ⟨g, 0, none⟩) J.length c] [(none, 0, 0), (some ⟨w2.heap.size + 1, 0, none⟩, 1, -1), (some ⟨g, 0, none⟩, (J.length : Int), -1)] := hS_w10.put hV hDn hbm
  refine wpAnyH_ready (rs := [3]) (by kernel_rfl) (by simp) (AllReadyH.cons rfl (fun K hK => ?_) AllReadyH.nil)
  go_simp
  refine hK.out _ _ hS_w11.f (fun _ => ?_)
  have V_w11 : Upd [(w.heap.size + 1)] w10 w11 := hV
  clear hK K hM hDn hV hS_w10
  refine wpAnyH_done (by kernel_rfl) ?_ _
  have e0 := hS_w11.f.cell
  go_wp2_with fail
  refine Calls.mono (unmet_nil w11 d (w.heap.size + 1) (some ⟨g, 0, none⟩) c J [(none, 0, 0), (some ⟨w2.heap.size + 1, 0, none⟩, 1, -1), (some ⟨g, 0, none⟩, (J.length : Int), -1)] (HJ.out.imp hS_w11.u (NIn.mono hS_w11.u d)) ⟨_, rfl⟩ hn2 H0.out hS_w11.m) ?_
  rintro en w12 ⟨rfl, U_w12⟩
  have X12 : Upd [(w.heap.size + 1)] w8 w12 := ((((Upd.refl [(w.heap.size + 1)] w8).then U_w9 (by simp)).then U_w10 (by simp)).trans V_w11).then U_w12 (by simp)
  have hS_w12 : DS w w12 w2.heap.size (w.heap.size + 1) (w2.heap.size + 1) #[.int .u8 k, .string s, .int .i64 num, .int .i64 pos, .slice (some ⟨g, 0, none⟩) J.length c] [(none, 0, 0), (some ⟨w2.heap.size + 1, 0, none⟩, 1, -1), (some ⟨g, 0, none⟩, (J.length : Int), -1)] := hS_w11.later U_w12
  have hR12 : RowG w12 1 (.slice (some ⟨b2, 0, none⟩) 2 c2) 2 := hR8'.upd X12 (fun x hx => by simp only [Value.ownBlock, Option.some.injEq] at hx; simp; omega)
  have z0 : w12.cell? ⟨b2, 0, none⟩ = some (.slice (some ⟨w2.heap.size + 1, 0, none⟩) 1 1) := (X12.cell (p := ⟨b2, 0, none⟩) hl8 (by simp; omega)).trans y0
  have z1 : w12.cell? ⟨b2, 1, none⟩ = some (.slice (some ⟨g, 0, none⟩) J.length c) := (X12.cell (p := ⟨b2, 1, none⟩) hl8 (by simp; omega)).trans y1
  have hl12 : b2 < w12.heap.size := Nat.lt_of_lt_of_le hl8 X12.size
  clear e0 hS_w11 U_w9 U_w10 V_w11 U_w12 X12 y0 y1 hR8' hl8
  go_wp2_with (first | (at_builtin; refine wpList_appNone rfl _ _ rfl rfl hR12 rfl ?_) | fail)
  rw [rounds_succ]
  go_wp2
  refine wp_region_held_drew (S := (fun W => DS w W w2.heap.size (w.heap.size + 1) (w2.heap.size + 1) #[.int .u8 k, .string s, .int .i64 num, .int .i64 pos, .slice (some ⟨g, 0, none⟩) J.length c] [(none, 0, 0), (some ⟨w2.heap.size + 1, 0, none⟩, 1, -1), (some ⟨g, 0, none⟩, (J.length : Int), -1)])) (by kernel_rfl) (hS_w12.later (Upd.refl [] _).drew) (fun hS => ?_)
  refine wpAnyH_take (i := 0) (v := .map (some (w.heap.size + 1))) rfl (by kernel_rfl) (by kernel_rfl) (by kernel_rfl) (fun _ _ _ h => h) (Or.inl ⟨by rfl, ?_⟩) hS ?_
  · intro W hW; have e0 := hW.f.cell; go_simp
  refine wpAnyH_take (i := 1) (v := .slice (some ⟨g, 0, none⟩) J.length c) rfl (by kernel_rfl) (by kernel_rfl) (by kernel_rfl) (fun _ _ _ h => h) (Or.inl ⟨by rfl, ?_⟩) hS ?_
  · intro W hW; go_simp
  simp only [Act.put, List.getElem_toArray, List.getElem_cons_succ, List.getElem_cons_zero, List.setIfInBounds_toArray, List.set_cons_succ, List.set_cons_zero]
  refine wpAnyH_ready (rs := [2]) (by kernel_rfl) (by simp) (AllReadyH.cons rfl (fun K hK => ?_) AllReadyH.nil)
  go_simp
  refine Calls.mono (placeOf_some _ g J.length c hn hn2) ?_
  rintro en w13 ⟨rfl, hU⟩
  have U_w13 : Upd [] w12 w13 := Upd.trans (Upd.refl [] _).drew hU
  have hS_w13 : DS w w13 w2.heap.size (w.heap.size + 1) (w2.heap.size + 1) #[.int .u8 k, .string s, .int .i64 num, .int .i64 pos, .slice (some ⟨g, 0, none⟩) J.length c] [(none, 0, 0), (some ⟨w2.heap.size + 1, 0, none⟩, 1, -1), (some ⟨g, 0, none⟩, (J.length : Int), -1)] := hS.later hU
  refine hK.out _ _ hS_w13 (fun _ => ?_)
  clear hK K hU hS hS_w12
  refine wpAnyH_take (i := 3) (v := .tuple #[.int .i64 (-1), .bool true]) rfl (by kernel_rfl) (by kernel_rfl) (by kernel_rfl) (fun _ _ _ h => h) (Or.inl ⟨by rfl, ?_⟩) hS_w13 ?_
  · intro W hW; have e2 := (DM.look_at (l1 := [(none, 0, 0), (some ⟨w2.heap.size + 1, 0, none⟩, 1, -1)]) (l2 := []) hW.m (by intro t ht; simp at ht; rcases ht with rfl | rfl; (exact far_none _ _); exact hW.far HG.out (by omega))).1; go_simp
  refine wpAnyH_take (i := 4) (v := .tuple #[.int .i64 (-1), .bool true]) rfl (by kernel_rfl) (by kernel_rfl) (by kernel_rfl) (fun _ _ _ h => h) (Or.inl ⟨by rfl, ?_⟩) hS_w13 ?_
  · intro W hW; go_simp
  refine wpAnyH_take (i := 5) (v := .int .i64 (-1)) rfl (by kernel_rfl) (by kernel_rfl) (by kernel_rfl) (fun _ _ _ h => h) (Or.inl ⟨by rfl, ?_⟩) hS_w13 ?_
  · intro W hW; go_simp
  refine wpAnyH_take (i := 6) (v := .bool true) rfl (by kernel_rfl) (by kernel_rfl) (by kernel_rfl) (fun _ _ _ h => h) (Or.inl ⟨by rfl, ?_⟩) hS_w13 ?_
  · intro W hW; go_simp
  refine wpAnyH_take (i := 7) (v := .int .i64 (-1)) rfl (by kernel_rfl) (by kernel_rfl) (by kernel_rfl) (fun _ _ _ h => h) (Or.inl ⟨by rfl, ?_⟩) hS_w13 ?_
  · intro W hW; go_simp
  refine wpAnyH_take (i := 8) (v := .bool true) rfl (by kernel_rfl) (by kernel_rfl) (by kernel_rfl) (fun _ _ _ h => h) (Or.inl ⟨by rfl, ?_⟩) hS_w13 ?_
  · intro W hW; go_simp
  simp only [Act.put, List.getElem_toArray, List.getElem_cons_succ, List.getElem_cons_zero, List.setIfInBounds_toArray, List.set_cons_succ, List.set_cons_zero]
  refine wpAnyH_done (by kernel_rfl) ?_ _
  go_wp2
  refine wp_region_held_drew (S := (fun W => FunB W w2.heap.size (.map (some (w.heap.size + 1))) 44)) (by kernel_rfl) (hS_w13.f.mono (Upd.refl [] _).drew (by simp)) (fun hS => ?_)
  refine wpAnyH_take (i := 0) (v := .map (some (w.heap.size + 1))) rfl (by kernel_rfl) (by kernel_rfl) (by kernel_rfl) (fun _ _ _ h => h) (Or.inl ⟨by rfl, ?_⟩) hS ?_
  · intro W hW; have e0 := FunB.cell hW; go_simp
  refine wpAnyH_take (i := 1) (v := .slice (some ⟨g, 0, none⟩) J.length c) rfl (by kernel_rfl) (by kernel_rfl) (by kernel_rfl) (fun _ _ _ h => h) (Or.inl ⟨by rfl, ?_⟩) hS ?_
  · intro W hW; go_simp
  refine wpAnyH_take (i := 3) (v := .slice (some ⟨g, 0, none⟩) J.length c) rfl (by kernel_rfl) (by kernel_rfl) (by kernel_rfl) (fun _ _ _ h => h) (Or.inl ⟨by rfl, ?_⟩) hS ?_
  · intro W hW; go_simp
  refine wpAnyH_take (i := 4) (v := .func (.func 37) #[] #[.pointer (some ⟨w2.heap.size, 0, none⟩)]) rfl (by kernel_rfl) (by kernel_rfl) (by kernel_rfl) (fun _ _ _ h => h) (Or.inl ⟨by rfl, ?_⟩) hS ?_
  · intro W hW; go_simp
  simp only [Act.put, List.getElem_toArray, List.getElem_cons_succ, List.getElem_cons_zero, List.setIfInBounds_toArray, List.set_cons_succ, List.set_cons_zero]
  clear hS
  refine wpAnyH_ready (rs := [2]) (by kernel_rfl) (by simp) (AllReadyH.cons rfl (fun K hK => ?_) AllReadyH.nil)
  go_simp
  refine Calls.mono (placeOf_some _ g J.length c hn hn2) ?_
  rintro en w14 ⟨rfl, hU⟩
  have U_w14 : Upd [] w13 w14 := Upd.trans (Upd.refl [] _).drew hU
  have hS_w14 : DS w w14 w2.heap.size (w.heap.size + 1) (w2.heap.size + 1) #[.int .u8 k, .string s, .int .i64 num, .int .i64 pos, .slice (some ⟨g, 0, none⟩) J.length c] [(none, 0, 0), (some ⟨w2.heap.size + 1, 0, none⟩, 1, -1), (some ⟨g, 0, none⟩, (J.length : Int), -1)] := hS_w13.later U_w14
  refine hK.out _ _ hS_w14.f (fun hS => ?_)
  clear hK K hU hS_w13
  refine wpAnyH_ready (rs := [5]) (by kernel_rfl) (by simp) (AllReadyH.cons rfl (fun K hK => ?_) AllReadyH.nil)
  go_simp
  refine Calls.mono (deepest_nil w14 d w2.heap.size (w.heap.size + 1) (some ⟨g, 0, none⟩) c J [(none, 0, 0), (some ⟨w2.heap.size + 1, 0, none⟩, 1, -1), (some ⟨g, 0, none⟩, (J.length : Int), -1)] (HJ.out.imp hS_w14.u (NIn.mono hS_w14.u d)) ⟨_, rfl⟩ hn2 H0.out hS_w14.f hS_w14.m) ?_
  rintro en w15 ⟨rfl, hU⟩
  have U_w15 : Upd [] w14 w15 := hU
  have hS_w15 : DS w w15 w2.heap.size (w.heap.size + 1) (w2.heap.size + 1) #[.int .u8 k, .string s, .int .i64 num, .int .i64 pos, .slice (some ⟨g, 0, none⟩) J.length c] [(none, 0, 0), (some ⟨w2.heap.size + 1, 0, none⟩, 1, -1), (some ⟨g, 0, none⟩, (J.length : Int), -1)] := hS_w14.later U_w15
  refine hK.out _ _ hS_w15.f (fun hS => ?_)
  clear hK K hU hS_w14
  refine wpAnyH_take (i := 6) (v := .int .i64 1) rfl (by kernel_rfl) (by kernel_rfl) (by kernel_rfl) (fun _ _ _ h => h) (Or.inl ⟨by rfl, ?_⟩) hS ?_
  · intro W hW; have ew : IntKind.i64.wrap 1 = 1 := (by decide); go_simp
  simp only [Act.put, List.getElem_toArray, List.getElem_cons_succ, List.getElem_cons_zero, List.setIfInBounds_toArray, List.set_cons_succ, List.set_cons_zero]
  clear hS
  obtain ⟨w16, hM, hV, _, hDn⟩ := DM.put_at (l1 := [(none, 0, 0), (some ⟨w2.heap.size + 1, 0, none⟩, 1, -1)]) (l2 := []) hS_w15.m (by intro t ht; simp at ht; rcases ht with rfl | rfl; (exact far_none _ _); exact hS_w15.far HG.out (by omega)) 1
  have hS_w16 : DS w w16 w2.heap.size (w.heap.size + 1) (w2.heap.size + 1) #[.int .u8 k, .string s, .int .i64 num, .int .i64 pos, .slice (some ⟨g, 0, none⟩) J.length c] [(none, 0, 0), (some ⟨w2.heap.size + 1, 0, none⟩, 1, -1), (some ⟨g, 0, none⟩, (J.length : Int), 1)] := hS_w15.put hV hDn hbm
  refine wpAnyH_ready (rs := [7]) (by kernel_rfl) (by simp) (AllReadyH.cons rfl (fun K hK => ?_) AllReadyH.nil)
  go_simp
  refine hK.out _ _ hS_w16.f (fun _ => ?_)
  have V_w16 : Upd [(w.heap.size + 1)] w15 w16 := hV
  clear hK K hM hDn hV hS_w15
  refine wpAnyH_done (by kernel_rfl) ?_ _
  go_wp2
  have X16 : Upd [(w.heap.size + 1)] w12 w16 := ((((Upd.refl [(w.heap.size + 1)] w12).then U_w13 (by simp)).then U_w14 (by simp)).then U_w15 (by simp)).trans V_w16
  have q0 : w16.cell? ⟨b2, 0, none⟩ = some (.slice (some ⟨w2.heap.size + 1, 0, none⟩) 1 1) := (X16.cell (p := ⟨b2, 0, none⟩) hl12 (by simp; omega)).trans z0
  clear X16 U_w13 U_w14 U_w15 V_w16 z0 z1 hR12 hl12
  rw [rounds_succ]
  go_wp2
  refine wp_region_held_drew (S := (fun W => DS w W w2.heap.size (w.heap.size + 1) (w2.heap.size + 1) #[.int .u8 k, .string s, .int .i64 num, .int .i64 pos, .slice (some ⟨g, 0, none⟩) J.length c] [(none, 0, 0), (some ⟨w2.heap.size + 1, 0, none⟩, 1, -1), (some ⟨g, 0, none⟩, (J.length : Int), 1)])) (by kernel_rfl) (hS_w16.later (Upd.refl [] _).drew) (fun hS => ?_)
  refine wpAnyH_take (i := 0) (v := .map (some (w.heap.size + 1))) rfl (by kernel_rfl) (by kernel_rfl) (by kernel_rfl) (fun _ _ _ h => h) (Or.inl ⟨by rfl, ?_⟩) hS ?_
  · intro W hW; have e0 := hW.f.cell; go_simp
  refine wpAnyH_take (i := 1) (v := .slice (some ⟨w2.heap.size + 1, 0, none⟩) 1 1) rfl (by kernel_rfl) (by kernel_rfl) (by kernel_rfl) (fun _ _ _ h => h) (Or.inl ⟨by rfl, ?_⟩) hS ?_
  · intro W hW; go_simp
  simp only [Act.put, List.getElem_toArray, List.getElem_cons_succ, List.getElem_cons_zero, List.setIfInBounds_toArray, List.set_cons_succ, List.set_cons_zero]
  refine wpAnyH_ready (rs := [2]) (by kernel_rfl) (by simp) (AllReadyH.cons rfl (fun K hK => ?_) AllReadyH.nil)
  go_simp
  refine Calls.mono (placeOf_some _ (w2.heap.size + 1) 1 1 (by omega) (by omega)) ?_
  rintro en w17 ⟨rfl, hU⟩
  have U_w17 : Upd [] w16 w17 := Upd.trans (Upd.refl [] _).drew hU
  have hS_w17 : DS w w17 w2.heap.size (w.heap.size + 1) (w2.heap.size + 1) #[.int .u8 k, .string s, .int .i64 num, .int .i64 pos, .slice (some ⟨g, 0, none⟩) J.length c] [(none, 0, 0), (some ⟨w2.heap.size + 1, 0, none⟩, 1, -1), (some ⟨g, 0, none⟩, (J.length : Int), 1)] := hS.later hU
  refine hK.out _ _ hS_w17 (fun _ => ?_)
  clear hK K hU hS hS_w16
  refine wpAnyH_take (i := 3) (v := .tuple #[.int .i64 (-1), .bool true]) rfl (by kernel_rfl) (by kernel_rfl) (by kernel_rfl) (fun _ _ _ h => h) (Or.inl ⟨by rfl, ?_⟩) hS_w17 ?_
  · intro W hW; have e2 := (DM.look_at (l1 := [(none, 0, 0)]) (l2 := [(some ⟨g, 0, none⟩, (J.length : Int), 1)]) hW.m (by intro t ht; simp at ht; subst ht; exact far_none _ _)).1; go_simp
  refine wpAnyH_take (i := 4) (v := .tuple #[.int .i64 (-1), .bool true]) rfl (by kernel_rfl) (by kernel_rfl) (by kernel_rfl) (fun _ _ _ h => h) (Or.inl ⟨by rfl, ?_⟩) hS_w17 ?_
  · intro W hW; go_simp
  refine wpAnyH_take (i := 5) (v := .int .i64 (-1)) rfl (by kernel_rfl) (by kernel_rfl) (by kernel_rfl) (fun _ _ _ h => h) (Or.inl ⟨by rfl, ?_⟩) hS_w17 ?_
  · intro W hW; go_simp
  refine wpAnyH_take (i := 6) (v := .bool true) rfl (by kernel_rfl) (by kernel_rfl) (by kernel_rfl) (fun _ _ _ h => h) (Or.inl ⟨by rfl, ?_⟩) hS_w17 ?_
  · intro W hW; go_simp
  refine wpAnyH_take (i := 7) (v := .int .i64 (-1)) rfl (by kernel_rfl) (by kernel_rfl) (by kernel_rfl) (fun _ _ _ h => h) (Or.inl ⟨by rfl, ?_⟩) hS_w17 ?_
  · intro W hW; go_simp
  refine wpAnyH_take (i := 8) (v := .bool true) rfl (by kernel_rfl) (by kernel_rfl) (by kernel_rfl) (fun _ _ _ h => h) (Or.inl ⟨by rfl, ?_⟩) hS_w17 ?_
  · intro W hW; go_simp
  simp only [Act.put, List.getElem_toArray, List.getElem_cons_succ, List.getElem_cons_zero, List.setIfInBounds_toArray, List.set_cons_succ, List.set_cons_zero]
  refine wpAnyH_done (by kernel_rfl) ?_ _
  go_wp2
  refine wp_region_held_drew (S := (fun W => FunB W w2.heap.size (.map (some (w.heap.size + 1))) 44)) (by kernel_rfl) (hS_w17.f.mono (Upd.refl [] _).drew (by simp)) (fun hS => ?_)
  refine wpAnyH_take (i := 0) (v := .map (some (w.heap.size + 1))) rfl (by kernel_rfl) (by kernel_rfl) (by kernel_rfl) (fun _ _ _ h => h) (Or.inl ⟨by rfl, ?_⟩) hS ?_
  · intro W hW; have e0 := FunB.cell hW; go_simp
  refine wpAnyH_take (i := 1) (v := .slice (some ⟨w2.heap.size + 1, 0, none⟩) 1 1) rfl (by kernel_rfl) (by kernel_rfl) (by kernel_rfl) (fun _ _ _ h => h) (Or.inl ⟨by rfl, ?_⟩) hS ?_
  · intro W hW; go_simp
  refine wpAnyH_take (i := 3) (v := .slice (some ⟨w2.heap.size + 1, 0, none⟩) 1 1) rfl (by kernel_rfl) (by kernel_rfl) (by kernel_rfl) (fun _ _ _ h => h) (Or.inl ⟨by rfl, ?_⟩) hS ?_
  · intro W hW; go_simp
  refine wpAnyH_take (i := 4) (v := .func (.func 37) #[] #[.pointer (some ⟨w2.heap.size, 0, none⟩)]) rfl (by kernel_rfl) (by kernel_rfl) (by kernel_rfl) (fun _ _ _ h => h) (Or.inl ⟨by rfl, ?_⟩) hS ?_
  · intro W hW; go_simp
  simp only [Act.put, List.getElem_toArray, List.getElem_cons_succ, List.getElem_cons_zero, List.setIfInBounds_toArray, List.set_cons_succ, List.set_cons_zero]
  clear hS
  refine wpAnyH_ready (rs := [2]) (by kernel_rfl) (by simp) (AllReadyH.cons rfl (fun K hK => ?_) AllReadyH.nil)
  go_simp
  refine Calls.mono (placeOf_some _ (w2.heap.size + 1) 1 1 (by omega) (by omega)) ?_
  rintro en w18 ⟨rfl, hU⟩
  have U_w18 : Upd [] w17 w18 := Upd.trans (Upd.refl [] _).drew hU
  have hS_w18 : DS w w18 w2.heap.size (w.heap.size + 1) (w2.heap.size + 1) #[.int .u8 k, .string s, .int .i64 num, .int .i64 pos, .slice (some ⟨g, 0, none⟩) J.length c] [(none, 0, 0), (some ⟨w2.heap.size + 1, 0, none⟩, 1, -1), (some ⟨g, 0, none⟩, (J.length : Int), 1)] := hS_w17.later U_w18
  refine hK.out _ _ hS_w18.f (fun hS => ?_)
  clear hK K hU hS_w17
  refine wpAnyH_ready (rs := [5]) (by kernel_rfl) (by simp) (AllReadyH.cons rfl (fun K hK => ?_) AllReadyH.nil)
  go_simp
  refine Calls.mono (deepest_one w18 w2.heap.size (w.heap.size + 1) (w2.heap.size + 1) 1 k num pos s [(none, 0, 0), (some ⟨w2.heap.size + 1, 0, none⟩, 1, -1), (some ⟨g, 0, none⟩, (J.length : Int), 1)] g J.length c 1 (by omega) hn hn2 hS_w18.t [(none, 0, 0), (some ⟨w2.heap.size + 1, 0, none⟩, 1, -1)] [] rfl (fun t ht W hW => by have hWS := hS_w18.later hW; simp at ht; rcases ht with rfl | rfl; (exact far_none _ _); exact hWS.far HG.out (by omega)) hS_w18.f hS_w18.m) ?_
  rintro en w19 ⟨rfl, hU⟩
  have U_w19 : Upd [] w18 w19 := hU
  have hS_w19 : DS w w19 w2.heap.size (w.heap.size + 1) (w2.heap.size + 1) #[.int .u8 k, .string s, .int .i64 num, .int .i64 pos, .slice (some ⟨g, 0, none⟩) J.length c] [(none, 0, 0), (some ⟨w2.heap.size + 1, 0, none⟩, 1, -1), (some ⟨g, 0, none⟩, (J.length : Int), 1)] := hS_w18.later U_w19
  refine hK.out _ _ hS_w19.f (fun hS => ?_)
  clear hK K hU hS_w18
  refine wpAnyH_take (i := 6) (v := .int .i64 2) rfl (by kernel_rfl) (by kernel_rfl) (by kernel_rfl) (fun _ _ _ h => h) (Or.inl ⟨by rfl, ?_⟩) hS ?_
  · intro W hW; have ew : IntKind.i64.wrap 2 = 2 := (by decide); go_simp
  simp only [Act.put, List.getElem_toArray, List.getElem_cons_succ, List.getElem_cons_zero, List.setIfInBounds_toArray, List.set_cons_succ, List.set_cons_zero]
  clear hS
  obtain ⟨w20, hM, hV, _, hDn⟩ := DM.put_at (l1 := [(none, 0, 0)]) (l2 := [(some ⟨g, 0, none⟩, (J.length : Int), 1)]) hS_w19.m (by intro t ht; simp at ht; subst ht; exact far_none _ _) 2
  have hS_w20 : DS w w20 w2.heap.size (w.heap.size + 1) (w2.heap.size + 1) #[.int .u8 k, .string s, .int .i64 num, .int .i64 pos, .slice (some ⟨g, 0, none⟩) J.length c] [(none, 0, 0), (some ⟨w2.heap.size + 1, 0, none⟩, 1, 2), (some ⟨g, 0, none⟩, (J.length : Int), 1)] := hS_w19.put hV hDn hbm
  refine wpAnyH_ready (rs := [7]) (by kernel_rfl) (by simp) (AllReadyH.cons rfl (fun K hK => ?_) AllReadyH.nil)
  go_simp
  refine hK.out _ _ hS_w20.f (fun _ => ?_)
  have V_w20 : Upd [(w.heap.size + 1)] w19 w20 := hV
  clear hK K hM hDn hV hS_w19
  refine wpAnyH_done (by kernel_rfl) ?_ _
  go_wp2
  rw [rounds_succ]
  go_wp2
  refine wp_region_held_drew (S := (fun W => DS w W w2.heap.size (w.heap.size + 1) (w2.heap.size + 1) #[.int .u8 k, .string s, .int .i64 num, .int .i64 pos, .slice (some ⟨g, 0, none⟩) J.length c] [(none, 0, 0), (some ⟨w2.heap.size + 1, 0, none⟩, 1, 2), (some ⟨g, 0, none⟩, (J.length : Int), 1)])) (by kernel_rfl) (hS_w20.later (Upd.refl [] _).drew) (fun hS => ?_)
  refine wpAnyH_take (i := 0) (v := .map (some (w.heap.size + 1))) rfl (by kernel_rfl) (by kernel_rfl) (by kernel_rfl) (fun _ _ _ h => h) (Or.inl ⟨by rfl, ?_⟩) hS ?_
  · intro W hW; have e0 := hW.f.cell; go_simp
  refine wpAnyH_take (i := 1) (v := .slice (some ⟨w2.heap.size + 1, 0, none⟩) 1 1) rfl (by kernel_rfl) (by kernel_rfl) (by kernel_rfl) (fun _ _ _ h => h) (Or.inl ⟨by rfl, ?_⟩) hS ?_
  · intro W hW; go_simp
  simp only [Act.put, List.getElem_toArray, List.getElem_cons_succ, List.getElem_cons_zero, List.setIfInBounds_toArray, List.set_cons_succ, List.set_cons_zero]
  refine wpAnyH_ready (rs := [2]) (by kernel_rfl) (by simp) (AllReadyH.cons rfl (fun K hK => ?_) AllReadyH.nil)
  go_simp
  refine Calls.mono (placeOf_some _ (w2.heap.size + 1) 1 1 (by omega) (by omega)) ?_
  rintro en w21 ⟨rfl, hU⟩
  have U_w21 : Upd [] w20 w21 := Upd.trans (Upd.refl [] _).drew hU
  have hS_w21 : DS w w21 w2.heap.size (w.heap.size + 1) (w2.heap.size + 1) #[.int .u8 k, .string s, .int .i64 num, .int .i64 pos, .slice (some ⟨g, 0, none⟩) J.length c] [(none, 0, 0), (some ⟨w2.heap.size + 1, 0, none⟩, 1, 2), (some ⟨g, 0, none⟩, (J.length : Int), 1)] := hS.later hU
  refine hK.out _ _ hS_w21 (fun _ => ?_)
  clear hK K hU hS hS_w20
  refine wpAnyH_take (i := 3) (v := .int .i64 2) rfl (by kernel_rfl) (by kernel_rfl) (by kernel_rfl) (fun _ _ _ h => h) (Or.inl ⟨by rfl, ?_⟩) hS_w21 ?_
  · intro W hW; have e2 := (DM.look_at (l1 := [(none, 0, 0)]) (l2 := [(some ⟨g, 0, none⟩, (J.length : Int), 1)]) hW.m (by intro t ht; simp at ht; subst ht; exact far_none _ _)).2; go_simp
  refine wpAnyH_take (i := 4) (v := .int .i64 2) rfl (by kernel_rfl) (by kernel_rfl) (by kernel_rfl) (fun _ _ _ h => h) (Or.inl ⟨by rfl, ?_⟩) hS_w21 ?_
  · intro W hW; go_simp
  simp only [Act.put, List.getElem_toArray, List.getElem_cons_succ, List.getElem_cons_zero, List.setIfInBounds_toArray, List.set_cons_succ, List.set_cons_zero]
  refine wpAnyH_done (by kernel_rfl) ?_ _
  go_wp2
  go_ret
  exact ⟨rfl, hS_w21.u⟩

end Go.Proofs.YtehfoblfmehbdaaDoor
