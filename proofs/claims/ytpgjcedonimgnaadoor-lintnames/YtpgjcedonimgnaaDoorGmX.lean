/- lint's expressions, kind by kind: two calls. -/
import Derived.Test.YtpgjcedonimgnaaDoorGmW
namespace Go.Proofs.YtpgjcedonimgnaaDoor
open Go.RowKit

theorem wp_slx {o : Oper} {a : Act} {w : World} {K : Act → World → Prop} {Q : Exit → Act → World → Prop} (x : Operand) (ho : o.op = .slice 27 x (some (.const (.int .i64 1))) none none) (ad ad2 : Option Addr) (n c n2 c2 : Nat) (hsl : ∀ w, (Instr.sliceAt 27 (.slice ad n c) (some (.int .i64 1)) none none).run Tryd.prog w = .ok (.slice ad2 n2 c2) w) (hx : a.eval x = .slice ad n c) (h : K (a.put o.dst (.slice ad2 n2 c2)) w) : o.wp Tryd.prog a w K Q := by
  refine wp_pure ?_ h
  unfold execOp
  have hk : a.eval (.const (.int .i64 1)) = .int .i64 1 := rfl
  simp only [ho, hx, hk, Option.map_some, Option.map_none]
  simp [hsl]

set_option maxHeartbeats 4000000 in
set_option maxRecDepth 100000 in
theorem ex_case (w : World) (num pos : Int) (s : ByteArray) (K : List Nd) (a : Option Addr) (c bc bm b : Nat) (G : Except Flt Fr) (f : Fr) (HN : Hid (NmIs w bm f)) (b2 o : Nat) (ha : a = some ⟨b2, o, none⟩) (h0 : 0 < K.length) (p0 p1 p2 p3 p4 : Value) (x0 : w.cell? ⟨b2, o, none⟩ = some p0) (x1 : w.cell? ⟨b2, o + 1, none⟩ = some p1) (x2 : w.cell? ⟨b2, o + 2, none⟩ = some p2) (x3 : w.cell? ⟨b2, o + 3, none⟩ = some p3) (x4 : w.cell? ⟨b2, o + 4, none⟩ = some p4) (a2 : Option Addr) (n2 c2 : Nat) (hsl : ∀ w, (Instr.sliceAt 27 (.slice a K.length c) (some (.int .i64 1)) none none).run Tryd.prog w = .ok (.slice a2 n2 c2) w) (R1 : Except Flt Fr) (G2 : Fr → Except Flt Fr) (HG : Hid (G = (match R1 with | .ok f1 => G2 f1 | .error e => .error e))) (HC1 : Hid (∀ W, Upd [] w W → Calls Tryd.prog 54 #[.pointer (some ⟨bc, 0, none⟩), .agg #[p0, p1, p2, p3, p4], .pointer (some ⟨b, 0, none⟩)] W (Ret R1 bm W))) (HC2 : Hid (∀ W f1, Upd [bm] w W → NmIs W bm f1 → Calls Tryd.prog 62 #[.pointer (some ⟨bc, 0, none⟩), .slice a2 n2 c2, .pointer (some ⟨b, 0, none⟩)] W (Ret (G2 f1) bm W))) :
    Calls Tryd.prog 54 #[.pointer (some ⟨bc, 0, none⟩), .agg #[.int .u8 12, .string s, .int .i64 num, .int .i64 pos, .slice a K.length c], .pointer (some ⟨b, 0, none⟩)] w (Ret G bm w) := by
  have U1 : Hid (Upd [] w ((w.alloc (.cells #[.pointer (some ⟨bc, 0, none⟩)] 48)).alloc (.cells #[.int .u8 12, .string s, .int .i64 num, .int .i64 pos, .slice a K.length c] 29))) := ((Upd.refl [] w).alloc _).alloc _
  have tN : Tb ((w.alloc (.cells #[.pointer (some ⟨bc, 0, none⟩)] 48)).alloc (.cells #[.int .u8 12, .string s, .int .i64 num, .int .i64 pos, .slice a K.length c] 29)) (w.heap.size + 1) #[.int .u8 12, .string s, .int .i64 num, .int .i64 pos, .slice a K.length c] := Tb.new _ _ _ (by simp)
  have c3 : ((w.alloc (.cells #[.pointer (some ⟨bc, 0, none⟩)] 48)).alloc (.cells #[.int .u8 12, .string s, .int .i64 num, .int .i64 pos, .slice a K.length c] 29)).cell? ⟨w.heap.size, 0, none⟩ = some (.pointer (some ⟨bc, 0, none⟩)) := cell_of_row _ _ 0 _ _ _ ((Below.heap_alloc _ _ _ (by simp)).trans (heap_alloc_new w _))
  have j0 := (U1.out.cell (cell_lt x0) (by simp)).trans x0
  have j1 := (U1.out.cell (cell_lt x1) (by simp)).trans x1
  have j2 := (U1.out.cell (cell_lt x2) (by simp)).trans x2
  have j3 := (U1.out.cell (cell_lt x3) (by simp)).trans x3
  have j4 := (U1.out.cell (cell_lt x4) (by simp)).trans x4
  clear x0 x1 x2 x3 x4
  subst ha
  go_enter Tryd.func54, Tryd.ntmps54
  go_wp2_with fail
  rename_i K1 hK1
  obtain ⟨w0, hw0⟩ : ∃ w0, w0 = ((w.alloc (.cells #[.pointer (some ⟨bc, 0, none⟩)] 48)).alloc (.cells #[.int .u8 12, .string s, .int .i64 num, .int .i64 pos, .slice (some ⟨b2, o, none⟩) K.length c] 29)) := ⟨_, rfl⟩
  rw [← hw0] at U1 tN c3 j0 j1 j2 j3 j4 ⊢
  clear hw0
  refine region_lastT (by kernel_rfl) 6 rfl [some 60, some 61, some 62, some 63, some 64, some 65, some 66] rfl (by decide) rfl (by kernel_rfl) (by kernel_rfl) (fun j v _ => match j with | 0 => v = .pointer (some ⟨bc, 0, none⟩) | 1 => v = .pointer (some ⟨w.heap.size + 1, 4, none⟩) | 2 => v = .slice (some ⟨b2, o, none⟩) K.length c | 3 => v = .pointer (some ⟨b2, o, none⟩) | 4 => v = .agg #[p0, p1, p2, p3, p4] | 5 => v = .pointer (some ⟨b, 0, none⟩) | _ => True) (fun j v w w' h _ => h) ?_ ?_
  · intro D vs a' w5 i o' hA hU hV hS hi ho haf
    have hc5 : i = 0 ∨ i = 1 ∨ i = 2 ∨ i = 3 ∨ i = 4 ∨ i = 5 := by omega
    rcases hc5 with rfl | rfl | rfl | rfl | rfl | rfl <;> cases ho
    · exact ops_wp rfl rfl (wp_lchk (.tmp 3) rfl _ _ (hA.ev 3 (by decide)) ((hU.cell (cell_lt c3) (by simp)).trans c3) ⟨_, rfl, rfl, Upd.refl _ _⟩)
    · exact ops_wp rfl rfl (wp_nf4 (.tmp 4) rfl _ (hA.ev 4 (by decide)) ⟨_, rfl, rfl, Upd.refl _ _⟩)
    · have D1 := haf ⟨1, .data⟩ (by simp) rfl
      exact ops_wp rfl rfl (wp_lrow (.tmp 61) rfl _ _ ((hS 1 61 rfl D1).trans (hV 1 D1)) ((tN.mono hU (by simp)).cell 4) ⟨_, rfl, rfl, Upd.refl _ _⟩)
    · have D2 := haf ⟨2, .data⟩ (by simp) rfl
      exact ops_wp rfl rfl (wp_idx0 (.tmp 62) rfl b2 o K.length c h0 ((hS 2 62 rfl D2).trans (hV 2 D2)) ⟨_, rfl, rfl, Upd.refl _ _⟩)
    · have D3 := haf ⟨3, .data⟩ (by simp) rfl
      exact ops_wp rfl rfl (wp_row5 (.tmp 63) rfl b2 o p0 p1 p2 p3 p4 ((hS 3 63 rfl D3).trans (hV 3 D3)) ((hU.cell (cell_lt j0) (by simp)).trans j0) ((hU.cell (cell_lt j1) (by simp)).trans j1) ((hU.cell (cell_lt j2) (by simp)).trans j2) ((hU.cell (cell_lt j3) (by simp)).trans j3) ((hU.cell (cell_lt j4) (by simp)).trans j4) ⟨_, rfl, rfl, Upd.refl _ _⟩)
    · exact ops_wp rfl rfl (wp_move (.tmp 2) rfl _ (hA.ev 2 (by decide)) ⟨_, rfl, rfl, Upd.refl _ _⟩)
  · intro vs a' w5 o' hv hA hU hV hS ho
    cases ho
    have D0 : 0 < 6 := by omega
    have D1 : 1 < 6 := by omega
    have D2 : 2 < 6 := by omega
    have D3 : 3 < 6 := by omega
    have D4 : 4 < 6 := by omega
    have D5 : 5 < 6 := by omega
    have e60 : a'.eval (.tmp 60) = _ := ((hS 0 60 rfl D0).trans (hV 0 D0))
    have e64 : a'.eval (.tmp 64) = _ := ((hS 4 64 rfl D4).trans (hV 4 D4))
    have e65 : a'.eval (.tmp 65) = _ := ((hS 5 65 rfl D5).trans (hV 5 D5))
    refine ops_wp rfl rfl (wp_callB rfl Tryd.call54 (vs := #[.pointer (some ⟨bc, 0, none⟩), .agg #[p0, p1, p2, p3, p4], .pointer (some ⟨b, 0, none⟩)]) (by simp only [List.map_toArray, List.map_cons, List.map_nil, e60, e64, e65]) ?_)
    refine Calls.mono (HC1.out w5 (U1.out.trans hU)) ?_
    rintro e w6 ⟨hu, hm6⟩
    have U6 : Hid (Upd [bm] w0 w6) := hU.into.trans hu
    have HU1 : Hid (Upd [bm] w w6) := U1.out.into.trans U6.out
    cases R1 with
    | error x =>
      have hm3 : e = .panicked [{ v := .iface 33 (.agg #[.int .i64 x.1, .int .i64 x.2]), recovered := false }] := hm6
      exact Or.inr ⟨_, hm3, hA.def', ret_err HG.out HU1.out⟩
    | ok f1 =>
      obtain ⟨⟨u, rfl⟩, hn⟩ := hm6
      refine Or.inl ⟨u, rfl, u, rfl, ?_⟩
      obtain ⟨v0, r0, rfl, hv0⟩ := list_cons hv
      obtain ⟨v1, r1, rfl, hv1⟩ := list_cons hv0
      obtain ⟨v2, r2, rfl, hv2⟩ := list_cons hv1
      obtain ⟨v3, r3, rfl, hv3⟩ := list_cons hv2
      obtain ⟨v4, r4, rfl, hv4⟩ := list_cons hv3
      obtain ⟨v5, r5, rfl, hv5⟩ := list_cons hv4
      obtain ⟨v6, r6, rfl, hv6⟩ := list_cons hv5
      simp only [List.set_cons_succ, List.set_cons_zero, putAll, Act.put, List.setIfInBounds_toArray]
      have HG1 : Hid (G = G2 f1) := HG.out
      have HN1 : Hid (NmIs w6 bm f1) := hn
      have N0 := HN.out.mono U1.out (by simp)
      have c6 := N0.cell U6.out c3
      have t6 := N0.keepBlock U6.out tN
      clear hV hS hA hU hu e60 e64 e65 D0 D1 D2 D3 D4 D5 hv hv0 hv1 hv2 hv3 hv4 hv5 hv6 HG N0 j0 j1 j2 j3 j4 tN c3
      show K1 _ _
      refine hK1 _ _ ?_
      clear hK1
      go_wp2_with fail
      refine region_lastT (by kernel_rfl) 5 rfl [some 67, some 68, some 69, some 70, some 71, some 72] rfl (by decide) rfl (by kernel_rfl) (by kernel_rfl) (fun j v _ => match j with | 0 => v = .pointer (some ⟨bc, 0, none⟩) | 1 => v = .pointer (some ⟨w.heap.size + 1, 4, none⟩) | 2 => v = .slice (some ⟨b2, o, none⟩) K.length c | 3 => v = .slice a2 n2 c2 | 4 => v = .pointer (some ⟨b, 0, none⟩) | _ => True) (fun j v w w' h _ => h) ?_ ?_
      · intro D vs a' w5 i o' hA hU hV hS hi ho haf
        have hc5 : i = 0 ∨ i = 1 ∨ i = 2 ∨ i = 3 ∨ i = 4 := by omega
        rcases hc5 with rfl | rfl | rfl | rfl | rfl <;> cases ho
        · exact ops_wp rfl rfl (wp_lchk (.tmp 3) rfl _ _ (hA.ev 3 (by decide)) ((hU.cell (cell_lt c6) (by simp)).trans c6) ⟨_, rfl, rfl, Upd.refl _ _⟩)
        · exact ops_wp rfl rfl (wp_nf4 (.tmp 4) rfl _ (hA.ev 4 (by decide)) ⟨_, rfl, rfl, Upd.refl _ _⟩)
        · have D1 := haf ⟨1, .data⟩ (by simp) rfl
          exact ops_wp rfl rfl (wp_lrow (.tmp 68) rfl _ _ ((hS 1 68 rfl D1).trans (hV 1 D1)) ((Tb.mono t6 hU (by simp)).cell 4) ⟨_, rfl, rfl, Upd.refl _ _⟩)
        · have D2 := haf ⟨2, .data⟩ (by simp) rfl
          exact ops_wp rfl rfl (wp_slx (.tmp 69) rfl _ _ _ _ _ _ hsl ((hS 2 69 rfl D2).trans (hV 2 D2)) ⟨_, rfl, rfl, Upd.refl _ _⟩)
        · exact ops_wp rfl rfl (wp_move (.tmp 2) rfl _ (hA.ev 2 (by decide)) ⟨_, rfl, rfl, Upd.refl _ _⟩)
      · intro vs a' w5 o' hv hA hU hV hS ho
        cases ho
        have D0 : 0 < 5 := by omega
        have D1 : 1 < 5 := by omega
        have D2 : 2 < 5 := by omega
        have D3 : 3 < 5 := by omega
        have D4 : 4 < 5 := by omega
        have e67 : a'.eval (.tmp 67) = _ := ((hS 0 67 rfl D0).trans (hV 0 D0))
        have e70 : a'.eval (.tmp 70) = _ := ((hS 3 70 rfl D3).trans (hV 3 D3))
        have e71 : a'.eval (.tmp 71) = _ := ((hS 4 71 rfl D4).trans (hV 4 D4))
        refine ops_wp rfl rfl (wp_callB rfl Tryd.call62 (vs := #[.pointer (some ⟨bc, 0, none⟩), .slice a2 n2 c2, .pointer (some ⟨b, 0, none⟩)]) (by simp only [List.map_toArray, List.map_cons, List.map_nil, e67, e70, e71]) ?_)
        refine Calls.mono (HC2.out w5 f1 (HU1.out.trans hU.into) (HN1.out.mono hU (by simp))) ?_
        rintro e w7 ⟨hu, hm7⟩
        have U7 : Hid (Upd [bm] w w7) := (HU1.out.trans hU.into).trans hu
        cases hg2 : G2 f1 with
        | error x =>
          rw [hg2] at hm7
          have hm3 : e = .panicked [{ v := .iface 33 (.agg #[.int .i64 x.1, .int .i64 x.2]), recovered := false }] := hm7
          exact Or.inr ⟨_, hm3, hA.def', ret_err (HG1.out.trans hg2) U7.out⟩
        | ok f7 =>
          rw [hg2] at hm7
          obtain ⟨⟨u, rfl⟩, hn⟩ := hm7
          refine Or.inl ⟨u, rfl, u, rfl, ?_⟩
          obtain ⟨v0, r0, rfl, hv0⟩ := list_cons hv
          obtain ⟨v1, r1, rfl, hv1⟩ := list_cons hv0
          obtain ⟨v2, r2, rfl, hv2⟩ := list_cons hv1
          obtain ⟨v3, r3, rfl, hv3⟩ := list_cons hv2
          obtain ⟨v4, r4, rfl, hv4⟩ := list_cons hv3
          obtain ⟨v5, r5, rfl, hv5⟩ := list_cons hv4
          simp only [List.set_cons_succ, List.set_cons_zero, putAll, Act.put, List.setIfInBounds_toArray]
          have HG7 : Hid (G = .ok f7) := HG1.out.trans hg2
          have N7 : Hid (NmIs w7 bm f7) := hn
          clear hV hS hA hU hu e67 e70 e71 D0 D1 D2 D3 D4 hv hv0 hv1 hv2 hv3 hv4 hv5
          go_wp2_with fail
          exact bodyPost_end (results_none rfl _ _ _) rfl (ret_ok HG7.out U7.out N7.out)

set_option maxHeartbeats 4000000 in
set_option maxRecDepth 100000 in
theorem ex_try (w : World) (num pos : Int) (s : ByteArray) (K : List Nd) (a : Option Addr) (c bc bm b : Nat) (G : Except Flt Fr) (f : Fr) (HN : Hid (NmIs w bm f)) (b2 o : Nat) (ha : a = some ⟨b2, o, none⟩) (h0 : 0 < K.length) (p0 p1 p2 p3 p4 : Value) (x0 : w.cell? ⟨b2, o, none⟩ = some p0) (x1 : w.cell? ⟨b2, o + 1, none⟩ = some p1) (x2 : w.cell? ⟨b2, o + 2, none⟩ = some p2) (x3 : w.cell? ⟨b2, o + 3, none⟩ = some p3) (x4 : w.cell? ⟨b2, o + 4, none⟩ = some p4) (a2 : Option Addr) (n2 c2 : Nat) (hsl : ∀ w, (Instr.sliceAt 27 (.slice a K.length c) (some (.int .i64 1)) none none).run Tryd.prog w = .ok (.slice a2 n2 c2) w) (R1 : Except Flt Fr) (G2 : Fr → Except Flt Fr) (HG : Hid (G = (match R1 with | .ok f1 => G2 f1 | .error e => .error e))) (HC1 : Hid (∀ W, Upd [] w W → Calls Tryd.prog 64 #[.pointer (some ⟨bc, 0, none⟩), .agg #[p0, p1, p2, p3, p4], .pointer (some ⟨b, 0, none⟩)] W (Ret R1 bm W))) (HC2 : Hid (∀ W f1, Upd [bm] w W → NmIs W bm f1 → Calls Tryd.prog 62 #[.pointer (some ⟨bc, 0, none⟩), .slice a2 n2 c2, .pointer (some ⟨b, 0, none⟩)] W (Ret (G2 f1) bm W))) :
    Calls Tryd.prog 54 #[.pointer (some ⟨bc, 0, none⟩), .agg #[.int .u8 16, .string s, .int .i64 num, .int .i64 pos, .slice a K.length c], .pointer (some ⟨b, 0, none⟩)] w (Ret G bm w) := by
  have U1 : Hid (Upd [] w ((w.alloc (.cells #[.pointer (some ⟨bc, 0, none⟩)] 48)).alloc (.cells #[.int .u8 16, .string s, .int .i64 num, .int .i64 pos, .slice a K.length c] 29))) := ((Upd.refl [] w).alloc _).alloc _
  have tN : Tb ((w.alloc (.cells #[.pointer (some ⟨bc, 0, none⟩)] 48)).alloc (.cells #[.int .u8 16, .string s, .int .i64 num, .int .i64 pos, .slice a K.length c] 29)) (w.heap.size + 1) #[.int .u8 16, .string s, .int .i64 num, .int .i64 pos, .slice a K.length c] := Tb.new _ _ _ (by simp)
  have c3 : ((w.alloc (.cells #[.pointer (some ⟨bc, 0, none⟩)] 48)).alloc (.cells #[.int .u8 16, .string s, .int .i64 num, .int .i64 pos, .slice a K.length c] 29)).cell? ⟨w.heap.size, 0, none⟩ = some (.pointer (some ⟨bc, 0, none⟩)) := cell_of_row _ _ 0 _ _ _ ((Below.heap_alloc _ _ _ (by simp)).trans (heap_alloc_new w _))
  have j0 := (U1.out.cell (cell_lt x0) (by simp)).trans x0
  have j1 := (U1.out.cell (cell_lt x1) (by simp)).trans x1
  have j2 := (U1.out.cell (cell_lt x2) (by simp)).trans x2
  have j3 := (U1.out.cell (cell_lt x3) (by simp)).trans x3
  have j4 := (U1.out.cell (cell_lt x4) (by simp)).trans x4
  clear x0 x1 x2 x3 x4
  subst ha
  go_enter Tryd.func54, Tryd.ntmps54
  go_wp2_with fail
  rename_i K1 hK1
  obtain ⟨w0, hw0⟩ : ∃ w0, w0 = ((w.alloc (.cells #[.pointer (some ⟨bc, 0, none⟩)] 48)).alloc (.cells #[.int .u8 16, .string s, .int .i64 num, .int .i64 pos, .slice (some ⟨b2, o, none⟩) K.length c] 29)) := ⟨_, rfl⟩
  rw [← hw0] at U1 tN c3 j0 j1 j2 j3 j4 ⊢
  clear hw0
  refine region_lastT (by kernel_rfl) 6 rfl [some 88, some 89, some 90, some 91, some 92, some 93, some 94] rfl (by decide) rfl (by kernel_rfl) (by kernel_rfl) (fun j v _ => match j with | 0 => v = .pointer (some ⟨bc, 0, none⟩) | 1 => v = .pointer (some ⟨w.heap.size + 1, 4, none⟩) | 2 => v = .slice (some ⟨b2, o, none⟩) K.length c | 3 => v = .pointer (some ⟨b2, o, none⟩) | 4 => v = .agg #[p0, p1, p2, p3, p4] | 5 => v = .pointer (some ⟨b, 0, none⟩) | _ => True) (fun j v w w' h _ => h) ?_ ?_
  · intro D vs a' w5 i o' hA hU hV hS hi ho haf
    have hc5 : i = 0 ∨ i = 1 ∨ i = 2 ∨ i = 3 ∨ i = 4 ∨ i = 5 := by omega
    rcases hc5 with rfl | rfl | rfl | rfl | rfl | rfl <;> cases ho
    · exact ops_wp rfl rfl (wp_lchk (.tmp 3) rfl _ _ (hA.ev 3 (by decide)) ((hU.cell (cell_lt c3) (by simp)).trans c3) ⟨_, rfl, rfl, Upd.refl _ _⟩)
    · exact ops_wp rfl rfl (wp_nf4 (.tmp 4) rfl _ (hA.ev 4 (by decide)) ⟨_, rfl, rfl, Upd.refl _ _⟩)
    · have D1 := haf ⟨1, .data⟩ (by simp) rfl
      exact ops_wp rfl rfl (wp_lrow (.tmp 89) rfl _ _ ((hS 1 89 rfl D1).trans (hV 1 D1)) ((tN.mono hU (by simp)).cell 4) ⟨_, rfl, rfl, Upd.refl _ _⟩)
    · have D2 := haf ⟨2, .data⟩ (by simp) rfl
      exact ops_wp rfl rfl (wp_idx0 (.tmp 90) rfl b2 o K.length c h0 ((hS 2 90 rfl D2).trans (hV 2 D2)) ⟨_, rfl, rfl, Upd.refl _ _⟩)
    · have D3 := haf ⟨3, .data⟩ (by simp) rfl
      exact ops_wp rfl rfl (wp_row5 (.tmp 91) rfl b2 o p0 p1 p2 p3 p4 ((hS 3 91 rfl D3).trans (hV 3 D3)) ((hU.cell (cell_lt j0) (by simp)).trans j0) ((hU.cell (cell_lt j1) (by simp)).trans j1) ((hU.cell (cell_lt j2) (by simp)).trans j2) ((hU.cell (cell_lt j3) (by simp)).trans j3) ((hU.cell (cell_lt j4) (by simp)).trans j4) ⟨_, rfl, rfl, Upd.refl _ _⟩)
    · exact ops_wp rfl rfl (wp_move (.tmp 2) rfl _ (hA.ev 2 (by decide)) ⟨_, rfl, rfl, Upd.refl _ _⟩)
  · intro vs a' w5 o' hv hA hU hV hS ho
    cases ho
    have D0 : 0 < 6 := by omega
    have D1 : 1 < 6 := by omega
    have D2 : 2 < 6 := by omega
    have D3 : 3 < 6 := by omega
    have D4 : 4 < 6 := by omega
    have D5 : 5 < 6 := by omega
    have e88 : a'.eval (.tmp 88) = _ := ((hS 0 88 rfl D0).trans (hV 0 D0))
    have e92 : a'.eval (.tmp 92) = _ := ((hS 4 92 rfl D4).trans (hV 4 D4))
    have e93 : a'.eval (.tmp 93) = _ := ((hS 5 93 rfl D5).trans (hV 5 D5))
    refine ops_wp rfl rfl (wp_callB rfl Tryd.call64 (vs := #[.pointer (some ⟨bc, 0, none⟩), .agg #[p0, p1, p2, p3, p4], .pointer (some ⟨b, 0, none⟩)]) (by simp only [List.map_toArray, List.map_cons, List.map_nil, e88, e92, e93]) ?_)
    refine Calls.mono (HC1.out w5 (U1.out.trans hU)) ?_
    rintro e w6 ⟨hu, hm6⟩
    have U6 : Hid (Upd [bm] w0 w6) := hU.into.trans hu
    have HU1 : Hid (Upd [bm] w w6) := U1.out.into.trans U6.out
    cases R1 with
    | error x =>
      have hm3 : e = .panicked [{ v := .iface 33 (.agg #[.int .i64 x.1, .int .i64 x.2]), recovered := false }] := hm6
      exact Or.inr ⟨_, hm3, hA.def', ret_err HG.out HU1.out⟩
    | ok f1 =>
      obtain ⟨⟨u, rfl⟩, hn⟩ := hm6
      refine Or.inl ⟨u, rfl, u, rfl, ?_⟩
      obtain ⟨v0, r0, rfl, hv0⟩ := list_cons hv
      obtain ⟨v1, r1, rfl, hv1⟩ := list_cons hv0
      obtain ⟨v2, r2, rfl, hv2⟩ := list_cons hv1
      obtain ⟨v3, r3, rfl, hv3⟩ := list_cons hv2
      obtain ⟨v4, r4, rfl, hv4⟩ := list_cons hv3
      obtain ⟨v5, r5, rfl, hv5⟩ := list_cons hv4
      obtain ⟨v6, r6, rfl, hv6⟩ := list_cons hv5
      simp only [List.set_cons_succ, List.set_cons_zero, putAll, Act.put, List.setIfInBounds_toArray]
      have HG1 : Hid (G = G2 f1) := HG.out
      have HN1 : Hid (NmIs w6 bm f1) := hn
      have N0 := HN.out.mono U1.out (by simp)
      have c6 := N0.cell U6.out c3
      have t6 := N0.keepBlock U6.out tN
      clear hV hS hA hU hu e88 e92 e93 D0 D1 D2 D3 D4 D5 hv hv0 hv1 hv2 hv3 hv4 hv5 hv6 HG N0 j0 j1 j2 j3 j4 tN c3
      show K1 _ _
      refine hK1 _ _ ?_
      clear hK1
      go_wp2_with fail
      refine region_lastT (by kernel_rfl) 5 rfl [some 95, some 96, some 97, some 98, some 99, some 100] rfl (by decide) rfl (by kernel_rfl) (by kernel_rfl) (fun j v _ => match j with | 0 => v = .pointer (some ⟨bc, 0, none⟩) | 1 => v = .pointer (some ⟨w.heap.size + 1, 4, none⟩) | 2 => v = .slice (some ⟨b2, o, none⟩) K.length c | 3 => v = .slice a2 n2 c2 | 4 => v = .pointer (some ⟨b, 0, none⟩) | _ => True) (fun j v w w' h _ => h) ?_ ?_
      · intro D vs a' w5 i o' hA hU hV hS hi ho haf
        have hc5 : i = 0 ∨ i = 1 ∨ i = 2 ∨ i = 3 ∨ i = 4 := by omega
        rcases hc5 with rfl | rfl | rfl | rfl | rfl <;> cases ho
        · exact ops_wp rfl rfl (wp_lchk (.tmp 3) rfl _ _ (hA.ev 3 (by decide)) ((hU.cell (cell_lt c6) (by simp)).trans c6) ⟨_, rfl, rfl, Upd.refl _ _⟩)
        · exact ops_wp rfl rfl (wp_nf4 (.tmp 4) rfl _ (hA.ev 4 (by decide)) ⟨_, rfl, rfl, Upd.refl _ _⟩)
        · have D1 := haf ⟨1, .data⟩ (by simp) rfl
          exact ops_wp rfl rfl (wp_lrow (.tmp 96) rfl _ _ ((hS 1 96 rfl D1).trans (hV 1 D1)) ((Tb.mono t6 hU (by simp)).cell 4) ⟨_, rfl, rfl, Upd.refl _ _⟩)
        · have D2 := haf ⟨2, .data⟩ (by simp) rfl
          exact ops_wp rfl rfl (wp_slx (.tmp 97) rfl _ _ _ _ _ _ hsl ((hS 2 97 rfl D2).trans (hV 2 D2)) ⟨_, rfl, rfl, Upd.refl _ _⟩)
        · exact ops_wp rfl rfl (wp_move (.tmp 2) rfl _ (hA.ev 2 (by decide)) ⟨_, rfl, rfl, Upd.refl _ _⟩)
      · intro vs a' w5 o' hv hA hU hV hS ho
        cases ho
        have D0 : 0 < 5 := by omega
        have D1 : 1 < 5 := by omega
        have D2 : 2 < 5 := by omega
        have D3 : 3 < 5 := by omega
        have D4 : 4 < 5 := by omega
        have e95 : a'.eval (.tmp 95) = _ := ((hS 0 95 rfl D0).trans (hV 0 D0))
        have e98 : a'.eval (.tmp 98) = _ := ((hS 3 98 rfl D3).trans (hV 3 D3))
        have e99 : a'.eval (.tmp 99) = _ := ((hS 4 99 rfl D4).trans (hV 4 D4))
        refine ops_wp rfl rfl (wp_callB rfl Tryd.call62 (vs := #[.pointer (some ⟨bc, 0, none⟩), .slice a2 n2 c2, .pointer (some ⟨b, 0, none⟩)]) (by simp only [List.map_toArray, List.map_cons, List.map_nil, e95, e98, e99]) ?_)
        refine Calls.mono (HC2.out w5 f1 (HU1.out.trans hU.into) (HN1.out.mono hU (by simp))) ?_
        rintro e w7 ⟨hu, hm7⟩
        have U7 : Hid (Upd [bm] w w7) := (HU1.out.trans hU.into).trans hu
        cases hg2 : G2 f1 with
        | error x =>
          rw [hg2] at hm7
          have hm3 : e = .panicked [{ v := .iface 33 (.agg #[.int .i64 x.1, .int .i64 x.2]), recovered := false }] := hm7
          exact Or.inr ⟨_, hm3, hA.def', ret_err (HG1.out.trans hg2) U7.out⟩
        | ok f7 =>
          rw [hg2] at hm7
          obtain ⟨⟨u, rfl⟩, hn⟩ := hm7
          refine Or.inl ⟨u, rfl, u, rfl, ?_⟩
          obtain ⟨v0, r0, rfl, hv0⟩ := list_cons hv
          obtain ⟨v1, r1, rfl, hv1⟩ := list_cons hv0
          obtain ⟨v2, r2, rfl, hv2⟩ := list_cons hv1
          obtain ⟨v3, r3, rfl, hv3⟩ := list_cons hv2
          obtain ⟨v4, r4, rfl, hv4⟩ := list_cons hv3
          obtain ⟨v5, r5, rfl, hv5⟩ := list_cons hv4
          simp only [List.set_cons_succ, List.set_cons_zero, putAll, Act.put, List.setIfInBounds_toArray]
          have HG7 : Hid (G = .ok f7) := HG1.out.trans hg2
          have N7 : Hid (NmIs w7 bm f7) := hn
          clear hV hS hA hU hu e95 e98 e99 D0 D1 D2 D3 D4 hv hv0 hv1 hv2 hv3 hv4 hv5
          go_wp2_with fail
          exact bodyPost_end (results_none rfl _ _ _) rfl (ret_ok HG7.out U7.out N7.out)

theorem wp_nf4o {o : Oper} {a : Act} {w : World} {K : Act → World → Prop} {Q : Exit → Act → World → Prop} (x : Operand) (ho : o.op = .fieldAddr 29 x 4) (g off : Nat) (hx : a.eval x = .pointer (some ⟨g, off, none⟩)) (h : K (a.put o.dst (.pointer (some ⟨g, off + 4, none⟩))) w) : o.wp Tryd.prog a w K Q := by
  refine wp_pure ?_ h
  unfold execOp
  simp only [ho, hx]
  kernel_rfl

set_option maxHeartbeats 4000000 in
set_option maxRecDepth 100000 in
theorem ex_name (w : World) (num pos : Int) (s : ByteArray) (K : List Nd) (a : Option Addr) (c bc bm b : Nat) (G : Except Flt Fr) (hs : ByteArray → Int → Bool) (bf : Nat) (f : Fr) (HN : Hid (NmIs w bm f)) (HE : Hid (Env w bc bf hs)) (HG : Hid (G = if hs s num then .ok f else .error (215, pos))) :
    Calls Tryd.prog 54 #[.pointer (some ⟨bc, 0, none⟩), .agg #[.int .u8 11, .string s, .int .i64 num, .int .i64 pos, .slice a K.length c], .pointer (some ⟨b, 0, none⟩)] w (Ret G bm w) := by
  have U1 : Hid (Upd [] w ((w.alloc (.cells #[.pointer (some ⟨bc, 0, none⟩)] 48)).alloc (.cells #[.int .u8 11, .string s, .int .i64 num, .int .i64 pos, .slice a K.length c] 29))) := ((Upd.refl [] w).alloc _).alloc _
  have tN : Tb ((w.alloc (.cells #[.pointer (some ⟨bc, 0, none⟩)] 48)).alloc (.cells #[.int .u8 11, .string s, .int .i64 num, .int .i64 pos, .slice a K.length c] 29)) (w.heap.size + 1) #[.int .u8 11, .string s, .int .i64 num, .int .i64 pos, .slice a K.length c] := Tb.new _ _ _ (by simp)
  have c3 : ((w.alloc (.cells #[.pointer (some ⟨bc, 0, none⟩)] 48)).alloc (.cells #[.int .u8 11, .string s, .int .i64 num, .int .i64 pos, .slice a K.length c] 29)).cell? ⟨w.heap.size, 0, none⟩ = some (.pointer (some ⟨bc, 0, none⟩)) := cell_of_row _ _ 0 _ _ _ ((Below.heap_alloc _ _ _ (by simp)).trans (heap_alloc_new w _))
  obtain ⟨fs, hdesc⟩ := term_desc
  obtain ⟨z, hz⟩ : ∃ z, z = hs s num := ⟨_, rfl⟩
  have HZ : Hid (z = hs s num) := hz
  clear hz
  go_enter Tryd.func54, Tryd.ntmps54
  go_wp2_with fail
  obtain ⟨w0, hw0⟩ : ∃ w0, w0 = ((w.alloc (.cells #[.pointer (some ⟨bc, 0, none⟩)] 48)).alloc (.cells #[.int .u8 11, .string s, .int .i64 num, .int .i64 pos, .slice a K.length c] 29)) := ⟨_, rfl⟩
  rw [← hw0] at U1 tN c3 ⊢
  clear hw0
  refine region_lastT (by kernel_rfl) 8 rfl [some 30, some 31, some 32, some 33, some 34, some 35, some 36, some 37, some 38] rfl (by decide) rfl (by kernel_rfl) (by kernel_rfl) (fun j v _ => match j with | 0 => v = .pointer (some ⟨bc, 0, none⟩) | 1 => v = .pointer (some ⟨w.heap.size + 1, 1, none⟩) | 2 => v = .string s | 3 => v = .pointer (some ⟨w.heap.size + 1, 2, none⟩) | 4 => v = .int .i64 num | 5 => v = .bool z | 6 => v = .bool (!z) | 7 => v = .agg #[.int .u8 11, .string s, .int .i64 num, .int .i64 pos, .slice a K.length c] | _ => True) (fun j v w w' h _ => h) ?_ ?_
  · intro D vs a' w5 i o' hA hU hV hS hi ho haf
    have hc5 : i = 0 ∨ i = 1 ∨ i = 2 ∨ i = 3 ∨ i = 4 ∨ i = 5 ∨ i = 6 ∨ i = 7 := by omega
    have t5 := tN.mono hU (by simp)
    rcases hc5 with rfl | rfl | rfl | rfl | rfl | rfl | rfl | rfl <;> cases ho
    · exact ops_wp rfl rfl (wp_lchk (.tmp 3) rfl _ _ (hA.ev 3 (by decide)) ((hU.cell (cell_lt c3) (by simp)).trans c3) ⟨_, rfl, rfl, Upd.refl _ _⟩)
    · exact ops_wp rfl rfl (wp_nf1 (.tmp 4) rfl _ (hA.ev 4 (by decide)) ⟨_, rfl, rfl, Upd.refl _ _⟩)
    · have D1 := haf ⟨1, .data⟩ (by simp) rfl
      exact ops_wp rfl rfl (wp_lstr (.tmp 31) rfl _ _ ((hS 1 31 rfl D1).trans (hV 1 D1)) ((tN.mono hU (by simp)).cell 1) ⟨_, rfl, rfl, Upd.refl _ _⟩)
    · exact ops_wp rfl rfl (wp_nf2 (.tmp 4) rfl _ (hA.ev 4 (by decide)) ⟨_, rfl, rfl, Upd.refl _ _⟩)
    · have D3 := haf ⟨3, .data⟩ (by simp) rfl
      exact ops_wp rfl rfl (wp_lint (.tmp 33) rfl _ _ ((hS 3 33 rfl D3).trans (hV 3 D3)) ((tN.mono hU (by simp)).cell 2) ⟨_, rfl, rfl, Upd.refl _ _⟩)
    · have D0 := haf ⟨0, .data⟩ (by simp) rfl
      have D2 := haf ⟨2, .data⟩ (by simp) rfl
      have D4 := haf ⟨4, .data⟩ (by simp) rfl
      refine ops_wp rfl rfl (wp_callA rfl Tryd.call37 (vs := #[.pointer (some ⟨bc, 0, none⟩), .string s, .int .i64 num]) ?_ (R := fun u w' => u = .bool z ∧ Upd [] w5 w') ?_ ?_)
      · have e0 : a'.eval (.tmp 30) = _ := ((hS 0 30 rfl D0).trans (hV 0 D0)); have e1 : a'.eval (.tmp 32) = _ := ((hS 2 32 rfl D2).trans (hV 2 D2)); have e2 : a'.eval (.tmp 34) = _ := ((hS 4 34 rfl D4).trans (hV 4 D4)); simp only [List.map_toArray, List.map_cons, List.map_nil, e0, e1, e2]
      · exact (has_in bc bf hs s num w5 (HE.out.mono (U1.out.trans hU))).mono fun e w' ⟨he, hu⟩ => ⟨_, he, by rw [HZ.out], hu⟩
      · rintro u w6 ⟨rfl, hu⟩; exact ⟨_, rfl, rfl, hu⟩
    · have D5 := haf ⟨5, .data⟩ (by simp) rfl
      exact ops_wp rfl rfl (wp_not (.tmp 35) rfl _ ((hS 5 35 rfl D5).trans (hV 5 D5)) ⟨_, rfl, rfl, Upd.refl _ _⟩)
    · exact ops_wp rfl rfl (wp_load_row 29 (.tmp 4) rfl _ (hA.ev 4 (by decide)) 29 _ (0, 0) _ t5 hdesc rfl (by rw [info_term]; rfl) ⟨_, rfl, rfl, Upd.refl _ _⟩)
  · intro vs a' w5 o' hv hA hU hV hS ho
    cases ho
    have D0 : 0 < 8 := by omega
    have D1 : 1 < 8 := by omega
    have D2 : 2 < 8 := by omega
    have D3 : 3 < 8 := by omega
    have D4 : 4 < 8 := by omega
    have D5 : 5 < 8 := by omega
    have D6 : 6 < 8 := by omega
    have D7 : 7 < 8 := by omega
    have e36 : a'.eval (.tmp 36) = _ := ((hS 6 36 rfl D6).trans (hV 6 D6))
    have e37 : a'.eval (.tmp 37) = _ := ((hS 7 37 rfl D7).trans (hV 7 D7))
    refine ops_wp rfl rfl (wp_callB rfl Tryd.call26 (vs := #[.bool (!z), .int .i64 215, .agg #[.int .u8 11, .string s, .int .i64 num, .int .i64 pos, .slice a K.length c]]) (by simp only [List.map_toArray, List.map_cons, List.map_nil, e36, e37]; rfl) ?_)
    cases z with
    | true =>
      refine (refuse_no 215 11 num pos s a K.length c w5).mono ?_
      rintro e w6 ⟨⟨u, rfl⟩, hu⟩
      refine Or.inl ⟨u, rfl, u, rfl, ?_⟩
      have U6 : Hid (Upd [] w w6) := (U1.out.trans hU).trans hu
      have N6 : Hid (NmIs w6 bm f) := HN.out.mono U6.out (by simp)
      have HG6 : Hid (G = .ok f) := by have := HG.out; rw [← HZ.out] at this; exact this
      obtain ⟨v0, r0, rfl, hv0⟩ := list_cons hv
      obtain ⟨v1, r1, rfl, hv1⟩ := list_cons hv0
      obtain ⟨v2, r2, rfl, hv2⟩ := list_cons hv1
      obtain ⟨v3, r3, rfl, hv3⟩ := list_cons hv2
      obtain ⟨v4, r4, rfl, hv4⟩ := list_cons hv3
      obtain ⟨v5, r5, rfl, hv5⟩ := list_cons hv4
      obtain ⟨v6, r6, rfl, hv6⟩ := list_cons hv5
      obtain ⟨v7, r7, rfl, hv7⟩ := list_cons hv6
      obtain ⟨v8, r8, rfl, hv8⟩ := list_cons hv7
      simp only [List.set_cons_succ, List.set_cons_zero, putAll, Act.put, List.setIfInBounds_toArray]
      clear hV hS hA hU hu e36 e37 D0 D1 D2 D3 D4 D5 D6 D7 hv hv0 hv1 hv2 hv3 hv4 hv5 hv6 hv7 hv8 tN c3 HG HZ
      go_wp2_with fail
      exact bodyPost_end (results_none rfl _ _ _) rfl (ret_ok HG6.out U6.out.into N6.out)
    | false =>
      refine (refuse_yes 215 11 num pos s a K.length c w5).mono ?_
      rintro e w6 ⟨rfl, hu⟩
      exact Or.inr ⟨_, rfl, hA.def', ret_err (x := (215, pos)) (by have := HG.out; rw [← HZ.out] at this; exact this) ((U1.out.trans hU).trans hu).into⟩

set_option maxHeartbeats 4000000 in
set_option maxRecDepth 100000 in
theorem ex_fun (w : World) (num pos : Int) (s : ByteArray) (K : List Nd) (a : Option Addr) (c bc bm b : Nat) (G : Except Flt Fr) (b2 o : Nat) (ha : a = some ⟨b2, o, none⟩) (h0 : 0 < K.length) (b3 o3 n3 c3x : Nat) (h3 : 0 < n3) (a4 : Option Addr) (n4 c4 : Nat) (x0 : w.cell? ⟨b2, o + 4, none⟩ = some (.slice (some ⟨b3, o3, none⟩) n3 c3x)) (x1 : w.cell? ⟨b3, o3 + 4, none⟩ = some (.slice a4 n4 c4)) (ao : Option Flt) (G2 : Except Flt Fr) (HG : Hid (G = (match ao with | none => G2 | some e => .error e))) (HC1 : Hid (∀ W, Upd [] w W → Calls Tryd.prog 28 #[.slice a K.length c, .int .i64 (n4 : Nat)] W (RetO ao W))) (HC2 : Hid (∀ W, Upd [] w W → Calls Tryd.prog 23 #[.pointer (some ⟨bc, 0, none⟩), .slice a K.length c, .pointer (some ⟨b, 0, none⟩)] W (Ret G2 bm W))) :
    Calls Tryd.prog 54 #[.pointer (some ⟨bc, 0, none⟩), .agg #[.int .u8 10, .string s, .int .i64 num, .int .i64 pos, .slice a K.length c], .pointer (some ⟨b, 0, none⟩)] w (Ret G bm w) := by
  have U1 : Hid (Upd [] w ((w.alloc (.cells #[.pointer (some ⟨bc, 0, none⟩)] 48)).alloc (.cells #[.int .u8 10, .string s, .int .i64 num, .int .i64 pos, .slice a K.length c] 29))) := ((Upd.refl [] w).alloc _).alloc _
  have tN : Tb ((w.alloc (.cells #[.pointer (some ⟨bc, 0, none⟩)] 48)).alloc (.cells #[.int .u8 10, .string s, .int .i64 num, .int .i64 pos, .slice a K.length c] 29)) (w.heap.size + 1) #[.int .u8 10, .string s, .int .i64 num, .int .i64 pos, .slice a K.length c] := Tb.new _ _ _ (by simp)
  have c3 : ((w.alloc (.cells #[.pointer (some ⟨bc, 0, none⟩)] 48)).alloc (.cells #[.int .u8 10, .string s, .int .i64 num, .int .i64 pos, .slice a K.length c] 29)).cell? ⟨w.heap.size, 0, none⟩ = some (.pointer (some ⟨bc, 0, none⟩)) := cell_of_row _ _ 0 _ _ _ ((Below.heap_alloc _ _ _ (by simp)).trans (heap_alloc_new w _))
  have j0 := (U1.out.cell (cell_lt x0) (by simp)).trans x0
  have j1 := (U1.out.cell (cell_lt x1) (by simp)).trans x1
  clear x0 x1
  subst ha
  go_enter Tryd.func54, Tryd.ntmps54
  go_wp2_with fail
  rename_i K1 hK1
  obtain ⟨w0, hw0⟩ : ∃ w0, w0 = ((w.alloc (.cells #[.pointer (some ⟨bc, 0, none⟩)] 48)).alloc (.cells #[.int .u8 10, .string s, .int .i64 num, .int .i64 pos, .slice (some ⟨b2, o, none⟩) K.length c] 29)) := ⟨_, rfl⟩
  rw [← hw0] at U1 tN c3 j0 j1 ⊢
  clear hw0
  refine region_lastT (by kernel_rfl) 11 rfl [some 41, some 42, some 43, some 44, some 45, some 46, some 47, some 48, some 49, some 50, some 51, some 52] rfl (by decide) rfl (by kernel_rfl) (by kernel_rfl) (fun j v _ => match j with | 0 => v = .pointer (some ⟨w.heap.size + 1, 4, none⟩) | 1 => v = .slice (some ⟨b2, o, none⟩) K.length c | 2 => v = .pointer (some ⟨w.heap.size + 1, 4, none⟩) | 3 => v = .slice (some ⟨b2, o, none⟩) K.length c | 4 => v = .pointer (some ⟨b2, o, none⟩) | 5 => v = .pointer (some ⟨b2, o + 4, none⟩) | 6 => v = .slice (some ⟨b3, o3, none⟩) n3 c3x | 7 => v = .pointer (some ⟨b3, o3, none⟩) | 8 => v = .pointer (some ⟨b3, o3 + 4, none⟩) | 9 => v = .slice a4 n4 c4 | 10 => v = .int .i64 (n4 : Nat) | _ => True) (fun j v w w' h _ => h) ?_ ?_
  · intro D vs a' w5 i o' hA hU hV hS hi ho haf
    have hc5 : i = 0 ∨ i = 1 ∨ i = 2 ∨ i = 3 ∨ i = 4 ∨ i = 5 ∨ i = 6 ∨ i = 7 ∨ i = 8 ∨ i = 9 ∨ i = 10 := by omega
    rcases hc5 with rfl | rfl | rfl | rfl | rfl | rfl | rfl | rfl | rfl | rfl | rfl <;> cases ho
    · exact ops_wp rfl rfl (wp_nf4 (.tmp 4) rfl _ (hA.ev 4 (by decide)) ⟨_, rfl, rfl, Upd.refl _ _⟩)
    · have D0 := haf ⟨0, .data⟩ (by simp) rfl
      exact ops_wp rfl rfl (wp_lrow (.tmp 41) rfl _ _ ((hS 0 41 rfl D0).trans (hV 0 D0)) ((tN.mono hU (by simp)).cell 4) ⟨_, rfl, rfl, Upd.refl _ _⟩)
    · exact ops_wp rfl rfl (wp_nf4 (.tmp 4) rfl _ (hA.ev 4 (by decide)) ⟨_, rfl, rfl, Upd.refl _ _⟩)
    · have D2 := haf ⟨2, .data⟩ (by simp) rfl
      exact ops_wp rfl rfl (wp_lrow (.tmp 43) rfl _ _ ((hS 2 43 rfl D2).trans (hV 2 D2)) ((tN.mono hU (by simp)).cell 4) ⟨_, rfl, rfl, Upd.refl _ _⟩)
    · have D3 := haf ⟨3, .data⟩ (by simp) rfl
      exact ops_wp rfl rfl (wp_idx0 (.tmp 44) rfl b2 o K.length c h0 ((hS 3 44 rfl D3).trans (hV 3 D3)) ⟨_, rfl, rfl, Upd.refl _ _⟩)
    · have D4 := haf ⟨4, .data⟩ (by simp) rfl
      exact ops_wp rfl rfl (wp_nf4o (.tmp 45) rfl _ _ ((hS 4 45 rfl D4).trans (hV 4 D4)) ⟨_, rfl, rfl, Upd.refl _ _⟩)
    · have D5 := haf ⟨5, .data⟩ (by simp) rfl
      exact ops_wp rfl rfl (wp_lrow (.tmp 46) rfl _ _ ((hS 5 46 rfl D5).trans (hV 5 D5)) ((hU.cell (cell_lt j0) (by simp)).trans j0) ⟨_, rfl, rfl, Upd.refl _ _⟩)
    · have D6 := haf ⟨6, .data⟩ (by simp) rfl
      exact ops_wp rfl rfl (wp_idx0 (.tmp 47) rfl b3 o3 n3 c3x h3 ((hS 6 47 rfl D6).trans (hV 6 D6)) ⟨_, rfl, rfl, Upd.refl _ _⟩)
    · have D7 := haf ⟨7, .data⟩ (by simp) rfl
      exact ops_wp rfl rfl (wp_nf4o (.tmp 48) rfl _ _ ((hS 7 48 rfl D7).trans (hV 7 D7)) ⟨_, rfl, rfl, Upd.refl _ _⟩)
    · have D8 := haf ⟨8, .data⟩ (by simp) rfl
      exact ops_wp rfl rfl (wp_lrow (.tmp 49) rfl _ _ ((hS 8 49 rfl D8).trans (hV 8 D8)) ((hU.cell (cell_lt j1) (by simp)).trans j1) ⟨_, rfl, rfl, Upd.refl _ _⟩)
    · have D9 := haf ⟨9, .data⟩ (by simp) rfl
      exact ops_wp rfl rfl (wp_len (.tmp 50) rfl _ _ _ ((hS 9 50 rfl D9).trans (hV 9 D9)) ⟨_, rfl, rfl, Upd.refl _ _⟩)
  · intro vs a' w5 o' hv hA hU hV hS ho
    cases ho
    have D0 : 0 < 11 := by omega
    have D1 : 1 < 11 := by omega
    have D2 : 2 < 11 := by omega
    have D3 : 3 < 11 := by omega
    have D4 : 4 < 11 := by omega
    have D5 : 5 < 11 := by omega
    have D6 : 6 < 11 := by omega
    have D7 : 7 < 11 := by omega
    have D8 : 8 < 11 := by omega
    have D9 : 9 < 11 := by omega
    have D10 : 10 < 11 := by omega
    have e42 : a'.eval (.tmp 42) = _ := ((hS 1 42 rfl D1).trans (hV 1 D1))
    have e51 : a'.eval (.tmp 51) = _ := ((hS 10 51 rfl D10).trans (hV 10 D10))
    refine ops_wp rfl rfl (wp_callB rfl Tryd.call28 (vs := #[.slice (some ⟨b2, o, none⟩) K.length c, .int .i64 (n4 : Nat)]) (by simp only [List.map_toArray, List.map_cons, List.map_nil, e42, e51]) ?_)
    refine Calls.mono (HC1.out w5 (U1.out.trans hU)) ?_
    rintro e w6 ⟨hu, hm6⟩
    have U6 : Hid (Upd [] w w6) := (U1.out.trans hU).trans hu
    cases ao with
    | some x =>
      have hm3 : e = .panicked [{ v := .iface 33 (.agg #[.int .i64 x.1, .int .i64 x.2]), recovered := false }] := hm6
      exact Or.inr ⟨_, hm3, hA.def', ret_err HG.out U6.out.into⟩
    | none =>
      obtain ⟨u, rfl⟩ := hm6
      refine Or.inl ⟨u, rfl, u, rfl, ?_⟩
      obtain ⟨v0, r0, rfl, hv0⟩ := list_cons hv
      obtain ⟨v1, r1, rfl, hv1⟩ := list_cons hv0
      obtain ⟨v2, r2, rfl, hv2⟩ := list_cons hv1
      obtain ⟨v3, r3, rfl, hv3⟩ := list_cons hv2
      obtain ⟨v4, r4, rfl, hv4⟩ := list_cons hv3
      obtain ⟨v5, r5, rfl, hv5⟩ := list_cons hv4
      obtain ⟨v6, r6, rfl, hv6⟩ := list_cons hv5
      obtain ⟨v7, r7, rfl, hv7⟩ := list_cons hv6
      obtain ⟨v8, r8, rfl, hv8⟩ := list_cons hv7
      obtain ⟨v9, r9, rfl, hv9⟩ := list_cons hv8
      obtain ⟨v10, r10, rfl, hv10⟩ := list_cons hv9
      obtain ⟨v11, r11, rfl, hv11⟩ := list_cons hv10
      simp only [List.set_cons_succ, List.set_cons_zero, putAll, Act.put, List.setIfInBounds_toArray]
      have HG1 : Hid (G = G2) := HG.out
      have UU := hU.trans hu
      have c6 := (UU.cell (cell_lt c3) (by simp)).trans c3
      have t6 := tN.mono UU (by simp)
      have z4 : w6.cell? ⟨w.heap.size + 1, 4, none⟩ = some (.slice (some ⟨b2, o, none⟩) K.length c) := t6.cell 4
      clear hV hS hA hU hu e42 e51 D0 D1 D2 D3 D4 D5 D6 D7 D8 D9 D10 hv hv0 hv1 hv2 hv3 hv4 hv5 hv6 hv7 hv8 hv9 hv10 hv11 HG UU j0 j1 tN c3 t6
      show K1 _ _
      refine hK1 _ _ ?_
      clear hK1
      go_wp2_with fail
      refine Calls.mono (HC2.out w6 U6.out) ?_
      rintro e w7 ⟨hu7, hm7⟩
      have U7 : Hid (Upd [bm] w w7) := U6.out.into.trans hu7
      clear hu7 z4 c6
      cases G2 with
      | ok g =>
        obtain ⟨⟨u, rfl⟩, hn⟩ := hm7
        have N7 : Hid (NmIs w7 bm g) := hn
        clear hn
        go_wp2_with fail
        exact bodyPost_end (results_none rfl _ _ _) rfl (ret_ok HG1.out U7.out N7.out)
      | error x =>
        have hm3 : e = .panicked [{ v := .iface 33 (.agg #[.int .i64 x.1, .int .i64 x.2]), recovered := false }] := hm7
        subst hm3
        clear hm7
        go_wp2_with fail
        exact ⟨rfl, ret_err HG1.out U7.out⟩

set_option maxHeartbeats 2000000 in
set_option maxRecDepth 100000 in
theorem exprc_in (w : World) (cs : List Value) (h5 : cs.toArray.size = 5) (bc g3 g4 : Nat) (bs : List Nat) (r : List Fr) (R : Except Flt Fr) (c3 : w.cell? ⟨g3, 0, none⟩ = some (.pointer (some ⟨bc, 0, none⟩))) (t4 : Tb w g4 cs.toArray) (hc : ∀ (W : World) (mi bi : Nat), Upd [] w W → w.heap.size ≤ mi → Chn W (mi :: bs) (Fr0 :: r) (some ⟨bi, 0, none⟩) → Calls Tryd.prog 66 #[.pointer (some ⟨bc, 0, none⟩), .agg cs.toArray, .pointer (some ⟨bi, 0, none⟩)] W (Ret R mi W)) :
    PartOk 65 #[.pointer (some ⟨g3, 0, none⟩), .pointer (some ⟨g4, 0, none⟩)] w bs r R := by
  intro W mi bi hu hm hCh
  have HK : Hid (Calls Tryd.prog 66 #[.pointer (some ⟨bc, 0, none⟩), .agg cs.toArray, .pointer (some ⟨bi, 0, none⟩)] W (Ret R mi W)) := hc W mi bi hu hm hCh
  have c3' : W.cell? ⟨g3, 0, none⟩ = some (.pointer (some ⟨bc, 0, none⟩)) := (hu.cell (cell_lt c3) (by simp)).trans c3
  have t7' := t4.mono hu (by simp)
  show Calls Tryd.prog 65 #[.pointer (some ⟨bi, 0, none⟩), .pointer (some ⟨g3, 0, none⟩), .pointer (some ⟨g4, 0, none⟩)] W (Ret R mi W)
  clear hc c3 t4 hCh hu
  go_enter Tryd.func65, Tryd.ntmps65
  go_wp2_with (first | (refine load_T _ rfl _ rfl _ _ rfl t7' h5 ?_) | fail)
  refine Calls.mono HK.out ?_
  rintro e w1 ⟨hu, hm1⟩
  have HU : Hid (Upd [mi] W w1) := hu
  clear HK hu t7' c3'
  cases R with
  | ok g =>
    obtain ⟨⟨u, rfl⟩, hn⟩ := hm1
    have HN : Hid (NmIs w1 mi g) := hn
    clear hn
    go_wp2_with fail
    exact bodyPost_end (results_none rfl _ _ _) rfl (ret_ok rfl HU.out HN.out)
  | error x =>
    have hm3 : e = .panicked [{ v := .iface 33 (.agg #[.int .i64 x.1, .int .i64 x.2]), recovered := false }] := hm1
    subst hm3
    clear hm1
    go_wp2_with fail
    exact ⟨rfl, ret_err rfl HU.out⟩

set_option maxHeartbeats 4000000 in
set_option maxRecDepth 100000 in
theorem ex_comp (w : World) (num pos : Int) (s : ByteArray) (K : List Nd) (a : Option Addr) (c bc bm b : Nat) (G : Except Flt Fr) (f : Fr) (HN : Hid (NmIs w bm f)) (ao : Option Flt) (HG : Hid (G = (match ao with | none => .ok f | some e => .error e))) (HC1 : Hid (Calls Tryd.prog 29 #[.pointer (some ⟨b, 0, none⟩), .func (.func 65) #[] #[.pointer (some ⟨w.heap.size, 0, none⟩), .pointer (some ⟨w.heap.size + 1, 0, none⟩)]] ((w.alloc (.cells #[.pointer (some ⟨bc, 0, none⟩)] 48)).alloc (.cells #[.int .u8 17, .string s, .int .i64 num, .int .i64 pos, .slice a K.length c] 29)) (RetO ao ((w.alloc (.cells #[.pointer (some ⟨bc, 0, none⟩)] 48)).alloc (.cells #[.int .u8 17, .string s, .int .i64 num, .int .i64 pos, .slice a K.length c] 29))))) :
    Calls Tryd.prog 54 #[.pointer (some ⟨bc, 0, none⟩), .agg #[.int .u8 17, .string s, .int .i64 num, .int .i64 pos, .slice a K.length c], .pointer (some ⟨b, 0, none⟩)] w (Ret G bm w) := by
  have U1 : Hid (Upd [] w ((w.alloc (.cells #[.pointer (some ⟨bc, 0, none⟩)] 48)).alloc (.cells #[.int .u8 17, .string s, .int .i64 num, .int .i64 pos, .slice a K.length c] 29))) := ((Upd.refl [] w).alloc _).alloc _
  have tN : Tb ((w.alloc (.cells #[.pointer (some ⟨bc, 0, none⟩)] 48)).alloc (.cells #[.int .u8 17, .string s, .int .i64 num, .int .i64 pos, .slice a K.length c] 29)) (w.heap.size + 1) #[.int .u8 17, .string s, .int .i64 num, .int .i64 pos, .slice a K.length c] := Tb.new _ _ _ (by simp)
  have c3 : ((w.alloc (.cells #[.pointer (some ⟨bc, 0, none⟩)] 48)).alloc (.cells #[.int .u8 17, .string s, .int .i64 num, .int .i64 pos, .slice a K.length c] 29)).cell? ⟨w.heap.size, 0, none⟩ = some (.pointer (some ⟨bc, 0, none⟩)) := cell_of_row _ _ 0 _ _ _ ((Below.heap_alloc _ _ _ (by simp)).trans (heap_alloc_new w _))
  have hmf : ∀ (fn : Fn) (first cap : Array Value) (w : World), (Instr.makeFunc fn first cap).run Tryd.prog w = .ok (.func fn first cap) w := fun _ _ _ _ => rfl

  go_enter Tryd.func54, Tryd.ntmps54
  go_wp2_with (first | (refine load_T _ rfl _ rfl _ _ rfl tN rfl ?_) | fail)

  refine Calls.mono HC1.out ?_
  rintro e w1 ⟨hu, hm1⟩
  have HU : Hid (Upd [] w w1) := U1.out.trans hu
  clear hu tN c3 HC1
  cases ao with
  | none =>
    obtain ⟨u, rfl⟩ := hm1
    have HN1 : Hid (NmIs w1 bm f) := HN.out.mono HU.out (by simp)
    go_wp2_with fail
    exact bodyPost_end (results_none rfl _ _ _) rfl (ret_ok HG.out HU.out.into HN1.out)
  | some x =>
    have hm3 : e = .panicked [{ v := .iface 33 (.agg #[.int .i64 x.1, .int .i64 x.2]), recovered := false }] := hm1
    subst hm3
    clear hm1
    go_wp2_with fail
    exact ⟨rfl, ret_err HG.out HU.out.into⟩

end Go.Proofs.YtpgjcedonimgnaaDoor
