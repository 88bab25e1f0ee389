/- lint's heads: one clause of one variable. -/
import Derived.Test.YtpgjcedonimgnaaDoorJAD
namespace Go.Proofs.YtpgjcedonimgnaaDoor
open Go.RowKit

set_option maxHeartbeats 2000000 in
set_option maxRecDepth 100000 in
theorem clause_E (bad : Bool) (s : ByteArray) (p : Int) (hE : isE bad s p) (bc b bm b0 b1 b2 b3 : Nat) (w : World) (h : Scp w b bm b0) (hm : w.heap[bm]? = some (.map #[] 0)) (t1 : Tb w b1 #[.int .u8 3, .string ⟨#[88]⟩, .int .i64 0, .int .i64 0, .slice none 0 0]) (t2 : Tb w b2 #[.int .u8 3, .string s, .int .i64 0, .int .i64 p, .slice none 0 0]) (t3 : Tb w b3 #[.int .u8 19, .string ⟨#[]⟩, .int .i64 0, .int .i64 0, .slice (some ⟨b1, 0, none⟩) 1 1, .int .u8 19, .string ⟨#[]⟩, .int .i64 0, .int .i64 0, .slice none 0 0, .int .u8 19, .string ⟨#[]⟩, .int .i64 0, .int .i64 0, .slice (some ⟨b2, 0, none⟩) 1 1]) : Calls Tryd.prog 31 #[.pointer (some ⟨bc, 0, none⟩), .agg #[.int .u8 20, .string ⟨#[]⟩, .int .i64 0, .int .i64 0, .slice (some ⟨b3, 0, none⟩) 3 3], .pointer (some ⟨b, 0, none⟩)] w fun e w' => Out2 bad e ∧ Upd [bm] w w' := by
  have HE : Hid (isE bad s p) := hE
  clear hE
  obtain ⟨O, hO⟩ : ∃ O, O = Out2 bad := ⟨_, rfl⟩
  have HO : Hid (O = Out2 bad) := hO
  rw [← hO]
  clear hO
  have HS : Hid (Scp w b bm b0) := h
  have nb : Hid (b ∉ [bm] ∧ b0 ∉ [bm] ∧ b2 ∉ [bm] ∧ b3 ∉ [bm]) := by
    refine ⟨?_, ?_, ?_, ?_⟩ <;> simp <;> intro e <;> subst e
    · have := h.s.symm.trans hm; cases this
    · have := h.o.symm.trans hm; cases this
    · have := t2.symm.trans hm; cases this
    · have := t3.symm.trans hm; cases this
  have HM : Hid (w.heap[bm]? = some (.map #[] 0)) := hm
  have lm := lt_of_block hm
  clear h hm
  go_enter Tryd.func31, Tryd.ntmps31
  have y4 : (w.alloc (.cells #[.int .u8 20, .string ⟨#[]⟩, .int .i64 0, .int .i64 0, .slice (some ⟨b3, 0, none⟩) 3 3] 29)).cell? ⟨b3, 4, none⟩ = some (.slice (some ⟨b1, 0, none⟩) 1 1) := (t3.old _).cell 4
  go_wp2_with fail
  obtain ⟨w1, hw1⟩ : ∃ w1, w1 = w.alloc (.cells #[.int .u8 20, .string ⟨#[]⟩, .int .i64 0, .int .i64 0, .slice (some ⟨b3, 0, none⟩) 3 3] 29) := ⟨_, rfl⟩
  have U1 : Hid (Upd [] w w1) := by rw [hw1]; exact (Upd.refl [] w).alloc _
  have tC : Tb w1 w.heap.size #[.int .u8 20, .string ⟨#[]⟩, .int .i64 0, .int .i64 0, .slice (some ⟨b3, 0, none⟩) 3 3] := by rw [hw1]; exact Tb.new _ _ _ rfl
  have T1 : Tb w1 b1 #[.int .u8 3, .string ⟨#[88]⟩, .int .i64 0, .int .i64 0, .slice none 0 0] := t1.mono U1.out (by simp)
  have T3 : Tb w1 b3 #[.int .u8 19, .string ⟨#[]⟩, .int .i64 0, .int .i64 0, .slice (some ⟨b1, 0, none⟩) 1 1, .int .u8 19, .string ⟨#[]⟩, .int .i64 0, .int .i64 0, .slice none 0 0, .int .u8 19, .string ⟨#[]⟩, .int .i64 0, .int .i64 0, .slice (some ⟨b2, 0, none⟩) 1 1] := t3.mono U1.out (by simp)
  have T2 : Hid (Tb w1 b2 #[.int .u8 3, .string s, .int .i64 0, .int .i64 p, .slice none 0 0]) := t2.mono U1.out (by simp)
  have x0 : w1.cell? ⟨b1, 0, none⟩ = some (.int .u8 3) := T1.cell 0
  have x1 : w1.cell? ⟨b1, 1, none⟩ = some (.string ⟨#[88]⟩) := T1.cell 1
  have x2 : w1.cell? ⟨b1, 2, none⟩ = some (.int .i64 0) := T1.cell 2
  have x3 : w1.cell? ⟨b1, 3, none⟩ = some (.int .i64 0) := T1.cell 3
  have x4 : w1.cell? ⟨b1, 4, none⟩ = some (.slice none 0 0) := T1.cell 4
  have tz : Tb (w1.alloc (.cells #[.int .u8 0, .string ⟨#[]⟩, .int .i64 0, .int .i64 0, .slice none 0 0] 29)) w1.heap.size #[.int .u8 0, .string ⟨#[]⟩, .int .i64 0, .int .i64 0, .slice none 0 0] := Tb.new _ _ _ rfl
  have HUZ : Hid (Upd [] w1 (w1.alloc (.cells #[.int .u8 0, .string ⟨#[]⟩, .int .i64 0, .int .i64 0, .slice none 0 0] 29))) := (Upd.refl [] w1).alloc _
  have HC : Hid (Tb w1 w.heap.size #[.int .u8 20, .string ⟨#[]⟩, .int .i64 0, .int .i64 0, .slice (some ⟨b3, 0, none⟩) 3 3]) := tC
  have H3 : Hid (Tb w1 b3 #[.int .u8 19, .string ⟨#[]⟩, .int .i64 0, .int .i64 0, .slice (some ⟨b1, 0, none⟩) 1 1, .int .u8 19, .string ⟨#[]⟩, .int .i64 0, .int .i64 0, .slice none 0 0, .int .u8 19, .string ⟨#[]⟩, .int .i64 0, .int .i64 0, .slice (some ⟨b2, 0, none⟩) 1 1]) := T3
  rw [← hw1]
  clear hw1 t1 t2 t3 y4 tC T3
  refine wp_loop_rounds 2 ?_
  rw [rounds_succ]
  go_wp2_with (first
    | (refine store_T _ rfl _ _ rfl _ #[.int .u8 3, .string ⟨#[88]⟩, .int .i64 0, .int .i64 0, .slice none 0 0] _ rfl rfl tz rfl rfl (by simp [Value.oneCell']) ?_; intro w3 s3 u3; have U3 : Hid (Upd [] w1 w3) := HUZ.out.then u3 (by simp))
    | (refine load_T _ rfl _ rfl _ _ rfl s3 rfl ?_)
    | fail)
  have U13 : Hid (Upd [] w w3) := U1.out.trans U3.out
  refine Calls.mono (pattern_X b bm b0 w3 (HS.out.mono U13.out (by simp) (by simp)) ((U13.out.block bm lm (by simp)).trans HM.out)) ?_
  rintro e w4 ⟨⟨u4, rfl⟩, hu4, hm4⟩
  have HX4 : Hid (HasX w4 b bm b0) := ⟨(HS.out.mono U13.out (by simp) (by simp)).mono hu4 nb.out.1 nb.out.2.1, hm4⟩
  have U4 : Hid (Upd [bm] w w4) := U13.out.into.trans hu4
  have T24 : Hid (Tb w4 b2 #[.int .u8 3, .string s, .int .i64 0, .int .i64 p, .slice none 0 0]) := (T2.out.mono U3.out (by simp)).mono hu4 nb.out.2.2.1
  have T34 : Tb w4 b3 #[.int .u8 19, .string ⟨#[]⟩, .int .i64 0, .int .i64 0, .slice (some ⟨b1, 0, none⟩) 1 1, .int .u8 19, .string ⟨#[]⟩, .int .i64 0, .int .i64 0, .slice none 0 0, .int .u8 19, .string ⟨#[]⟩, .int .i64 0, .int .i64 0, .slice (some ⟨b2, 0, none⟩) 1 1] := (H3.out.mono U3.out (by simp)).mono hu4 nb.out.2.2.2
  have TC4 : Tb w4 w.heap.size #[.int .u8 20, .string ⟨#[]⟩, .int .i64 0, .int .i64 0, .slice (some ⟨b3, 0, none⟩) 3 3] := (HC.out.mono U3.out (by simp)).mono hu4 (by simp; omega)
  clear U1 U3 U13 hu4 hm4 HS HM HC H3 T2 T1 x0 x1 x2 x3 x4 tz HUZ s3 u3
  have z4 : w4.cell? ⟨w.heap.size, 4, none⟩ = some (.slice (some ⟨b3, 0, none⟩) 3 3) := TC4.cell 4
  have y9 : w4.cell? ⟨b3, 9, none⟩ = some (.slice none 0 0) := T34.cell 9
  have v0 : w4.cell? ⟨b3, 10, none⟩ = some (.int .u8 19) := T34.cell 10
  have v1 : w4.cell? ⟨b3, 11, none⟩ = some (.string ⟨#[]⟩) := T34.cell 11
  have v2 : w4.cell? ⟨b3, 12, none⟩ = some (.int .i64 0) := T34.cell 12
  have v3 : w4.cell? ⟨b3, 13, none⟩ = some (.int .i64 0) := T34.cell 13
  have v4 : w4.cell? ⟨b3, 14, none⟩ = some (.slice (some ⟨b2, 0, none⟩) 1 1) := T34.cell 14
  go_wp2_with fail
  rw [rounds_succ]
  go_wp2_with fail
  refine wp_loop_rounds 1 ?_
  rw [rounds_succ]
  go_wp2_with fail
  refine Calls.mono (body_E bad s p HE.out bc b bm b0 b2 w4 HX4.out T24.out) ?_
  rintro e w5 ⟨he, hu⟩
  have HU : Hid (Upd [bm] w w5) := U4.out.trans hu.into
  clear U4 hu HX4 T24 T34 TC4 z4 y9 v0 v1 v2 v3 v4 HE
  have hO := HO.out
  clear HO
  subst hO
  cases bad
  · obtain ⟨u, rfl⟩ := he
    go_wp2_with fail
    exact bodyPost_end (results_none rfl _ _ _) rfl ⟨⟨_, rfl⟩, HU.out⟩
  · cases he
    go_wp2_with fail
    exact ⟨rfl, rfl, HU.out⟩

set_option maxHeartbeats 1000000 in
set_option maxRecDepth 100000 in
theorem headc_E (bad : Bool) (s : ByteArray) (p : Int) (hE : isE bad s p) (bc b bm b0 b1 b2 b3 g3 g7 : Nat) (w : World) (h : Scp w b bm b0) (hm : w.heap[bm]? = some (.map #[] 0)) (t1 : Tb w b1 #[.int .u8 3, .string ⟨#[88]⟩, .int .i64 0, .int .i64 0, .slice none 0 0]) (t2 : Tb w b2 #[.int .u8 3, .string s, .int .i64 0, .int .i64 p, .slice none 0 0]) (t3 : Tb w b3 #[.int .u8 19, .string ⟨#[]⟩, .int .i64 0, .int .i64 0, .slice (some ⟨b1, 0, none⟩) 1 1, .int .u8 19, .string ⟨#[]⟩, .int .i64 0, .int .i64 0, .slice none 0 0, .int .u8 19, .string ⟨#[]⟩, .int .i64 0, .int .i64 0, .slice (some ⟨b2, 0, none⟩) 1 1]) (c3 : w.cell? ⟨g3, 0, none⟩ = some (.pointer (some ⟨bc, 0, none⟩))) (t7 : Tb w g7 #[.int .u8 20, .string ⟨#[]⟩, .int .i64 0, .int .i64 0, .slice (some ⟨b3, 0, none⟩) 3 3]) : Calls Tryd.prog 30 #[.pointer (some ⟨b, 0, none⟩), .pointer (some ⟨g3, 0, none⟩), .pointer (some ⟨g7, 0, none⟩)] w fun e w' => Out2 bad e ∧ Upd [bm] w w' := by
  have HE : Hid (isE bad s p) := hE
  clear hE
  obtain ⟨O, hO⟩ : ∃ O, O = Out2 bad := ⟨_, rfl⟩
  have HO : Hid (O = Out2 bad) := hO
  rw [← hO]
  clear hO
  have K := clause_E bad s p HE.out bc b bm b0 b1 b2 b3 w h hm t1 t2 t3
  have HK : Hid (Calls Tryd.prog 31 #[.pointer (some ⟨bc, 0, none⟩), .agg #[.int .u8 20, .string ⟨#[]⟩, .int .i64 0, .int .i64 0, .slice (some ⟨b3, 0, none⟩) 3 3], .pointer (some ⟨b, 0, none⟩)] w fun e w' => Out2 bad e ∧ Upd [bm] w w') := K
  clear K h hm t1 t2 t3 HE
  go_enter Tryd.func30, Tryd.ntmps30
  go_wp2_with (first | (refine load_T _ rfl _ rfl _ _ rfl t7 rfl ?_) | fail)
  refine Calls.mono HK.out ?_
  rintro e w1 ⟨he, hu⟩
  clear HK
  have hO := HO.out
  clear HO
  subst hO
  cases bad
  · obtain ⟨u, rfl⟩ := he
    go_wp2_with fail
    exact bodyPost_end (results_none rfl _ _ _) rfl ⟨⟨_, rfl⟩, hu⟩
  · cases he
    go_wp2_with fail
    exact ⟨rfl, rfl, hu⟩

set_option maxHeartbeats 1000000 in
set_option maxRecDepth 100000 in
theorem apart_E (bad : Bool) (s : ByteArray) (p : Int) (hE : isE bad s p) (bc b0 b1 b2 b3 g3 g7 : Nat) (w : World) (h : w.heap[b0]? = some (.cells #[.map none, .pointer none] 57 (0, 0))) (t1 : Tb w b1 #[.int .u8 3, .string ⟨#[88]⟩, .int .i64 0, .int .i64 0, .slice none 0 0]) (t2 : Tb w b2 #[.int .u8 3, .string s, .int .i64 0, .int .i64 p, .slice none 0 0]) (t3 : Tb w b3 #[.int .u8 19, .string ⟨#[]⟩, .int .i64 0, .int .i64 0, .slice (some ⟨b1, 0, none⟩) 1 1, .int .u8 19, .string ⟨#[]⟩, .int .i64 0, .int .i64 0, .slice none 0 0, .int .u8 19, .string ⟨#[]⟩, .int .i64 0, .int .i64 0, .slice (some ⟨b2, 0, none⟩) 1 1]) (c3 : w.cell? ⟨g3, 0, none⟩ = some (.pointer (some ⟨bc, 0, none⟩))) (t7 : Tb w g7 #[.int .u8 20, .string ⟨#[]⟩, .int .i64 0, .int .i64 0, .slice (some ⟨b3, 0, none⟩) 3 3]) : Calls Tryd.prog 29 #[.pointer (some ⟨b0, 0, none⟩), .func (Fn.func 30) #[] #[.pointer (some ⟨g3, 0, none⟩), .pointer (some ⟨g7, 0, none⟩)]] w fun e w' => Out2 bad e ∧ Upd [] w w' := by
  have HE : Hid (isE bad s p) := hE
  clear hE
  obtain ⟨O, hO⟩ : ∃ O, O = Out2 bad := ⟨_, rfl⟩
  have HO : Hid (O = Out2 bad) := hO
  rw [← hO]
  clear hO
  go_enter Tryd.func29, Tryd.ntmps29
  go_wp2_with fail
  refine Calls.mono (inner_any _ w) ?_
  rintro e w1 ⟨rfl, U1, m1, s1, _⟩
  have K := headc_E bad s p HE.out bc (w.heap.size + 1) w.heap.size b0 b1 b2 b3 g3 g7 w1 ⟨s1, (U1.block b0 (lt_of_block h) (by simp)).trans h⟩ m1 (t1.mono U1 (by simp)) (t2.mono U1 (by simp)) (t3.mono U1 (by simp)) ((U1.cell (cell_lt c3) (by simp)).trans c3) (t7.mono U1 (by simp))
  have HK : Hid (Calls Tryd.prog 30 #[.pointer (some ⟨w.heap.size + 1, 0, none⟩), .pointer (some ⟨g3, 0, none⟩), .pointer (some ⟨g7, 0, none⟩)] w1 fun e w' => Out2 bad e ∧ Upd [w.heap.size] w1 w') := K
  have HU1 : Hid (Upd [] w w1) := U1
  clear K U1 m1 s1 h t1 t2 t3 c3 t7 HE
  go_wp2_with fail
  refine Calls.mono HK.out ?_
  rintro e w2 ⟨he, hu⟩
  have HU : Hid (Upd [] w w2) := HU1.out.then hu (by simp)
  clear HK HU1 hu
  have hO := HO.out
  clear HO
  subst hO
  cases bad
  · obtain ⟨u, rfl⟩ := he
    go_wp2_with fail
    exact bodyPost_end (results_none rfl _ _ _) rfl ⟨⟨_, rfl⟩, HU.out⟩
  · cases he
    go_wp2_with fail
    exact ⟨rfl, rfl, HU.out⟩

set_option maxHeartbeats 1000000 in
set_option maxRecDepth 100000 in
theorem heads_E (bad : Bool) (s : ByteArray) (p : Int) (hE : isE bad s p) (bc b0 b1 b2 b3 b4 : Nat) (w : World) (h : w.heap[b0]? = some (.cells #[.map none, .pointer none] 57 (0, 0))) (t1 : Tb w b1 #[.int .u8 3, .string ⟨#[88]⟩, .int .i64 0, .int .i64 0, .slice none 0 0]) (t2 : Tb w b2 #[.int .u8 3, .string s, .int .i64 0, .int .i64 p, .slice none 0 0]) (t3 : Tb w b3 #[.int .u8 19, .string ⟨#[]⟩, .int .i64 0, .int .i64 0, .slice (some ⟨b1, 0, none⟩) 1 1, .int .u8 19, .string ⟨#[]⟩, .int .i64 0, .int .i64 0, .slice none 0 0, .int .u8 19, .string ⟨#[]⟩, .int .i64 0, .int .i64 0, .slice (some ⟨b2, 0, none⟩) 1 1]) (t4 : Tb w b4 #[.int .u8 20, .string ⟨#[]⟩, .int .i64 0, .int .i64 0, .slice (some ⟨b3, 0, none⟩) 3 3]) : Calls Tryd.prog 23 #[.pointer (some ⟨bc, 0, none⟩), .slice (some ⟨b4, 0, none⟩) 1 1, .pointer (some ⟨b0, 0, none⟩)] w fun e w' => Out2 bad e ∧ Upd [] w w' := by
  have HE : Hid (isE bad s p) := hE
  clear hE
  obtain ⟨O, hO⟩ : ∃ O, O = Out2 bad := ⟨_, rfl⟩
  have HO : Hid (O = Out2 bad) := hO
  rw [← hO]
  clear hO
  have hmf : ∀ (fn : Fn) (first cap : Array Value) (w : World), (Instr.makeFunc fn first cap).run Tryd.prog w = .ok (.func fn first cap) w := fun _ _ _ _ => rfl
  go_enter Tryd.func23, Tryd.ntmps23
  go_wp2_with fail
  obtain ⟨w1, hw1⟩ : ∃ w1, w1 = w.alloc (.cells #[.pointer (some ⟨bc, 0, none⟩)] 48) := ⟨_, rfl⟩
  have U1 : Hid (Upd [] w w1) := by rw [hw1]; exact (Upd.refl [] w).alloc _
  have l1 : w.heap.size < w1.heap.size := by rw [hw1]; simp
  have cC : Hid (w1.cell? ⟨w.heap.size, 0, none⟩ = some (.pointer (some ⟨bc, 0, none⟩))) := by rw [hw1]; exact cell_of_row _ _ 0 _ _ _ (heap_alloc_new w _)
  have T4 : Tb w1 b4 #[.int .u8 20, .string ⟨#[]⟩, .int .i64 0, .int .i64 0, .slice (some ⟨b3, 0, none⟩) 3 3] := t4.mono U1.out (by simp)
  have x0 : w1.cell? ⟨b4, 0, none⟩ = some (.int .u8 20) := T4.cell 0
  have x1 : w1.cell? ⟨b4, 1, none⟩ = some (.string ⟨#[]⟩) := T4.cell 1
  have x2 : w1.cell? ⟨b4, 2, none⟩ = some (.int .i64 0) := T4.cell 2
  have x3 : w1.cell? ⟨b4, 3, none⟩ = some (.int .i64 0) := T4.cell 3
  have x4 : w1.cell? ⟨b4, 4, none⟩ = some (.slice (some ⟨b3, 0, none⟩) 3 3) := T4.cell 4
  have tz : Tb (w1.alloc (.cells #[.int .u8 0, .string ⟨#[]⟩, .int .i64 0, .int .i64 0, .slice none 0 0] 29)) w1.heap.size #[.int .u8 0, .string ⟨#[]⟩, .int .i64 0, .int .i64 0, .slice none 0 0] := Tb.new _ _ _ rfl
  have HUZ : Hid (Upd [] w1 (w1.alloc (.cells #[.int .u8 0, .string ⟨#[]⟩, .int .i64 0, .int .i64 0, .slice none 0 0] 29))) := (Upd.refl [] w1).alloc _
  have HT : Hid (Tb w b1 #[.int .u8 3, .string ⟨#[88]⟩, .int .i64 0, .int .i64 0, .slice none 0 0] ∧ Tb w b2 #[.int .u8 3, .string s, .int .i64 0, .int .i64 p, .slice none 0 0] ∧ Tb w b3 #[.int .u8 19, .string ⟨#[]⟩, .int .i64 0, .int .i64 0, .slice (some ⟨b1, 0, none⟩) 1 1, .int .u8 19, .string ⟨#[]⟩, .int .i64 0, .int .i64 0, .slice none 0 0, .int .u8 19, .string ⟨#[]⟩, .int .i64 0, .int .i64 0, .slice (some ⟨b2, 0, none⟩) 1 1] ∧ w.heap[b0]? = some (.cells #[.map none, .pointer none] 57 (0, 0))) := ⟨t1, t2, t3, h⟩
  rw [← hw1]
  clear hw1 t1 t2 t3 t4 h T4
  refine wp_loop_rounds 2 ?_
  rw [rounds_succ]
  go_wp2_with (first
    | (refine store_T _ rfl _ _ rfl _ #[.int .u8 20, .string ⟨#[]⟩, .int .i64 0, .int .i64 0, .slice (some ⟨b3, 0, none⟩) 3 3] _ rfl rfl tz rfl rfl (by simp [Value.oneCell']) ?_; intro w3 s3 u3; have U3 : Hid (Upd [] w1 w3) := HUZ.out.then u3 (by simp))
    | fail)
  have U13 : Hid (Upd [] w w3) := U1.out.trans U3.out
  refine Calls.mono (apart_E bad s p HE.out bc b0 b1 b2 b3 w.heap.size w1.heap.size w3 ((U13.out.block b0 (lt_of_block HT.out.2.2.2) (by simp)).trans HT.out.2.2.2) (HT.out.1.mono U13.out (by simp)) (HT.out.2.1.mono U13.out (by simp)) (HT.out.2.2.1.mono U13.out (by simp)) ((U3.out.cell (p := ⟨w.heap.size, 0, none⟩) l1 (by simp)).trans cC.out) s3) ?_
  rintro e w4 ⟨he, hu⟩
  have HU : Hid (Upd [] w w4) := U13.out.trans hu
  clear U1 U3 U13 hu HT cC x0 x1 x2 x3 x4 tz HUZ s3 u3 HE
  have hO := HO.out
  clear HO
  subst hO
  cases bad
  · obtain ⟨u, rfl⟩ := he
    go_wp2_with fail
    rw [rounds_succ]
    go_wp2_with fail
    exact bodyPost_end (results_none rfl _ _ _) rfl ⟨⟨_, rfl⟩, HU.out⟩
  · cases he
    go_wp2_with fail
    exact ⟨rfl, rfl, HU.out⟩

end Go.Proofs.YtpgjcedonimgnaaDoor
