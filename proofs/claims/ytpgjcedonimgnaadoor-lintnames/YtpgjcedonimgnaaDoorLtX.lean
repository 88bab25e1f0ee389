/- lint's Check of the module of one function. -/
import Derived.Test.YtpgjcedonimgnaaDoorJAE
import Derived.Test.YtpgjcedonimgnaaDoorJAK
namespace Go.Proofs.YtpgjcedonimgnaaDoor
open Go.RowKit

/-- The module as a tree. -/
def oneT (s : ByteArray) (p : Int) : Nd := .mk 22 ⟨#[]⟩ 0 0 [.mk 21 ⟨#[102]⟩ 1 0 [.mk 20 ⟨#[]⟩ 0 0 [.mk 19 ⟨#[]⟩ 0 0 [.mk 3 ⟨#[88]⟩ 0 0 []], .mk 19 ⟨#[]⟩ 0 0 [], .mk 19 ⟨#[]⟩ 0 0 [.mk 3 s 0 p []]]]]
theorem oneT_right {bad : Bool} {s : ByteArray} {p : Int} (h : isE bad s p) : rgtB (oneT s p) = true ∧ nsz (oneT s p) ≤ 2199023255488 ∧ nxz (oneT s p) ≤ 140737488355328 := by
  rcases h with ⟨_, rfl, rfl⟩ | ⟨_, rfl, rfl⟩
  · exact ⟨by kernel_rfl, by decide, by decide⟩
  · exact ⟨by kernel_rfl, by decide, by decide⟩
theorem row_one {R : List Value → Nd → Prop} {w : World} {b : Nat} {cs : Array Value} {t : Nd} (hb : Tb w b cs) (hc : cs.size = 5) (h : R cs.toList t) : RowN R w (some ⟨b, 0, none⟩) [t] :=
  Or.inr ⟨b, 0, rfl, hb.lt, fun i hi => by
    have e : i = 0 := by simp at hi; exact hi
    subst e
    refine ⟨cs.toList, by simpa using hc, fun j hj => ?_, h⟩
    rw [show 0 + (0 * 5 + j) = j by omega, hb.cell j]
    simp⟩
theorem oneT_in {w : World} {lo b1 b2 b3 b4 b5 : Nat} {s : ByteArray} {p : Int} (h : OneM w lo b1 b2 b3 b4 b5 #[.int .u8 3, .string s, .int .i64 0, .int .i64 p, .slice none 0 0]) : NIn w 6 (#[.int .u8 22, .string ⟨#[]⟩, .int .i64 0, .int .i64 0, .slice (some ⟨b5, 0, none⟩) 1 1] : Array Value).toList (oneT s p) := by
  refine ⟨_, _, rfl, row_one h.t5 rfl ⟨_, _, rfl, row_one h.t4 rfl ⟨_, _, rfl, ?_, by simp, by decide⟩, by simp, by decide⟩, by simp, by decide⟩
  refine Or.inr ⟨b3, 0, rfl, h.t3.lt, fun i hi => ?_⟩
  have hc : i = 0 ∨ i = 1 ∨ i = 2 := by simp at hi; omega
  have h3 := fun k => h.t3.cell k
  rcases hc with rfl | rfl | rfl
  · refine ⟨[.int .u8 19, .string ⟨#[]⟩, .int .i64 0, .int .i64 0, .slice (some ⟨b1, 0, none⟩) 1 1], rfl, fun j hj => ?_, ⟨_, _, rfl, row_one h.t1 rfl ⟨_, _, rfl, Or.inl rfl, by decide, by decide⟩, by decide, by decide⟩⟩
    have hj' : j = 0 ∨ j = 1 ∨ j = 2 ∨ j = 3 ∨ j = 4 := by omega
    rcases hj' with rfl | rfl | rfl | rfl | rfl <;> exact h3 _
  · refine ⟨[.int .u8 19, .string ⟨#[]⟩, .int .i64 0, .int .i64 0, .slice none 0 0], rfl, fun j hj => ?_, ⟨_, _, rfl, Or.inl rfl, by decide, by decide⟩⟩
    have hj' : j = 0 ∨ j = 1 ∨ j = 2 ∨ j = 3 ∨ j = 4 := by omega
    rcases hj' with rfl | rfl | rfl | rfl | rfl <;> exact h3 _
  · refine ⟨[.int .u8 19, .string ⟨#[]⟩, .int .i64 0, .int .i64 0, .slice (some ⟨b2, 0, none⟩) 1 1], rfl, fun j hj => ?_, ⟨_, _, rfl, row_one h.t2 rfl ⟨_, _, rfl, Or.inl rfl, by simp, by decide⟩, by simp, by decide⟩⟩
    have hj' : j = 0 ∨ j = 1 ∨ j = 2 ∨ j = 3 ∨ j = 4 := by omega
    rcases hj' with rfl | rfl | rfl | rfl | rfl <;> exact h3 _
theorem OneM.mono {w w' : World} {S : List Nat} {lo b1 b2 b3 b4 b5 : Nat} {Ev : Array Value} (h : OneM w lo b1 b2 b3 b4 b5 Ev) (hu : Upd S w w') (hn : b1 ∉ S ∧ b2 ∉ S ∧ b3 ∉ S ∧ b4 ∉ S ∧ b5 ∉ S) : OneM w' lo b1 b2 b3 b4 b5 Ev :=
  ⟨h.l, h.t1.mono hu hn.1, h.t2.mono hu hn.2.1, h.t3.mono hu hn.2.2.1, h.t4.mono hu hn.2.2.2.1, h.t5.mono hu hn.2.2.2.2⟩
theorem heap_two (v : World) (o1 o2 : Obj) : ((v.alloc o1).alloc o2).heap[v.heap.size + 1]? = some o2 := by
  have := heap_alloc_new (v.alloc o1) o2
  simpa using this
/-- What the check answers. -/
def Ans (bad : Bool) (e : Ending) : Prop := e = .returned (.agg #[.int .i64 (if bad then 212 else 0), .int .i64 (if bad then 7 else 0)])

set_option maxHeartbeats 4000000 in
set_option maxRecDepth 100000 in
theorem Check_E (A : Nat → Option Addr) (C : Nat → Nat) (bad : Bool) (s : ByteArray) (p : Int) (hE : isE bad s p) (lo b1 b2 b3 b4 b5 : Nat) (w : World) (hF : Frm A C w) (hO : Ops w) (hB : Blt w) (hM : OneM w lo b1 b2 b3 b4 b5 #[.int .u8 3, .string s, .int .i64 0, .int .i64 p, .slice none 0 0]) : Calls Tryd.prog 11 #[.agg #[.int .u8 22, .string ⟨#[]⟩, .int .i64 0, .int .i64 0, .slice (some ⟨b5, 0, none⟩) 1 1]] w fun e w' => Ans bad e ∧ Upd [] w w' := by
  obtain ⟨O, hOO⟩ : ∃ O, O = Ans bad := ⟨_, rfl⟩
  have HO : Hid (O = Ans bad) := hOO
  rw [← hOO]
  clear hOO
  have HE : Hid (isE bad s p) := hE
  have HF : Hid (Frm A C w ∧ Ops w ∧ Blt w) := ⟨hF, hO, hB⟩
  have HM : Hid (OneM w lo b1 b2 b3 b4 b5 #[.int .u8 3, .string s, .int .i64 0, .int .i64 p, .slice none 0 0]) := hM
  have hmf : ∀ (fn : Fn) (first cap : Array Value) (w : World), (Instr.makeFunc fn first cap).run Tryd.prog w = .ok (.func fn first cap) w := fun _ _ _ _ => rfl
  have hmm := @run_makeMap Tryd.prog
  have tb0 : Tb ((w.alloc (.cells #[.int .u8 22, .string ⟨#[]⟩, .int .i64 0, .int .i64 0, .slice (some ⟨b5, 0, none⟩) 1 1] 29)).alloc (.cells #[.int .i64 0, .int .i64 0] 33)) w.heap.size #[.int .u8 22, .string ⟨#[]⟩, .int .i64 0, .int .i64 0, .slice (some ⟨b5, 0, none⟩) 1 1] := (Tb.new _ _ _ rfl).old _
  have f0 : (Fb ((w.alloc (.cells #[.int .u8 22, .string ⟨#[]⟩, .int .i64 0, .int .i64 0, .slice (some ⟨b5, 0, none⟩) 1 1] 29)).alloc (.cells #[.int .i64 0, .int .i64 0] 33)) (w.heap.size + 1) 0 0) := by
    have := heap_alloc_new (w.alloc (.cells #[.int .u8 22, .string ⟨#[]⟩, .int .i64 0, .int .i64 0, .slice (some ⟨b5, 0, none⟩) 1 1] 29)) (.cells #[.int .i64 0, .int .i64 0] 33)
    simpa [Fb] using this
  have U0 : Hid (Upd [] w ((w.alloc (.cells #[.int .u8 22, .string ⟨#[]⟩, .int .i64 0, .int .i64 0, .slice (some ⟨b5, 0, none⟩) 1 1] 29)).alloc (.cells #[.int .i64 0, .int .i64 0] 33))) := ((Upd.refl [] w).alloc _).alloc _
  clear hE hF hO hB hM
  go_enter_defers Tryd.func11, Tryd.ntmps11
  go_wp2_with (first | (refine load_G _ _ rfl _ _ rfl tb0 rfl rfl ?_) | fail)
  refine Calls.mono (Right_in A C 6 _ _ (oneT s p) (NIn.mono U0.out _ _ _ (oneT_in HM.out)) (oneT_right HE.out).2.1 (oneT_right HE.out).2.2 (HF.out.1.mono U0.out) (HF.out.2.1.mono U0.out)) ?_
  rintro e v1 ⟨he, hu⟩
  rw [(oneT_right HE.out).1] at he
  subst he
  have V1 : Hid (Upd [] w v1) := U0.out.trans hu
  have tb1 := tb0.mono hu (by simp)
  have f1 : Fb v1 (w.heap.size + 1) 0 0 := (hu.block _ (lt_of_block f0) (by simp)).trans f0
  have l1 : w.heap.size + 1 < v1.heap.size := lt_of_block f1
  have U12 : Hid (Upd [] v1 ((v1.alloc (.map #[] 0)).alloc (.cells #[.map (some v1.heap.size)] 51))) := ((Upd.refl [] v1).alloc _).alloc _
  have z4 : ((v1.alloc (.map #[] 0)).alloc (.cells #[.map (some v1.heap.size)] 51)).cell? ⟨w.heap.size, 4, none⟩ = some (.slice (some ⟨b5, 0, none⟩) 1 1) := (tb1.mono U12.out (by simp)).cell 4
  clear hu tb0 f0 U0
  go_wp2_with fail
  obtain ⟨v2, hv2⟩ : ∃ v2, v2 = (v1.alloc (.map #[] 0)).alloc (.cells #[.map (some v1.heap.size)] 51) := ⟨_, rfl⟩
  have c2 : Hid (v2.cell? ⟨v1.heap.size + 1, 0, none⟩ = some (.map (some v1.heap.size))) := by
    rw [hv2]
    exact cell_of_row _ _ 0 _ _ _ (heap_two v1 _ _)
  have m2 : Hid (v2.heap[v1.heap.size]? = some (.map #[] 0)) := by rw [hv2, Below.heap_alloc _ _ _ (by simp)]; exact heap_alloc_new v1 _
  rw [← hv2] at U12 z4 ⊢
  clear hv2
  have lm2 := lt_of_block m2.out
  have W2 : Hid (Upd [] w v2) := V1.out.trans U12.out
  have tb2 : Hid (Tb v2 w.heap.size #[.int .u8 22, .string ⟨#[]⟩, .int .i64 0, .int .i64 0, .slice (some ⟨b5, 0, none⟩) 1 1]) := tb1.mono U12.out (by simp)
  have f2 : Hid (Fb v2 (w.heap.size + 1) 0 0) := (U12.out.block _ (lt_of_block f1) (by simp)).trans f1
  have M2 : Hid (OneM v2 lo b1 b2 b3 b4 b5 #[.int .u8 3, .string s, .int .i64 0, .int .i64 p, .slice none 0 0]) := HM.out.mono W2.out (by simp)
  have T5 : Tb v2 b5 #[.int .u8 21, .string ⟨#[102]⟩, .int .i64 1, .int .i64 0, .slice (some ⟨b4, 0, none⟩) 1 1] := M2.out.t5
  have x0 : v2.cell? ⟨b5, 0, none⟩ = some (.int .u8 21) := T5.cell 0
  have x1 : v2.cell? ⟨b5, 1, none⟩ = some (.string ⟨#[102]⟩) := T5.cell 1
  have x2 : v2.cell? ⟨b5, 2, none⟩ = some (.int .i64 1) := T5.cell 2
  have x3 : v2.cell? ⟨b5, 3, none⟩ = some (.int .i64 0) := T5.cell 3
  have x4 : v2.cell? ⟨b5, 4, none⟩ = some (.slice (some ⟨b4, 0, none⟩) 1 1) := T5.cell 4
  have tz : Tb (v2.alloc (.cells #[.int .u8 0, .string ⟨#[]⟩, .int .i64 0, .int .i64 0, .slice none 0 0] 29)) v2.heap.size #[.int .u8 0, .string ⟨#[]⟩, .int .i64 0, .int .i64 0, .slice none 0 0] := Tb.new _ _ _ rfl
  have HUZ : Hid (Upd [] v2 (v2.alloc (.cells #[.int .u8 0, .string ⟨#[]⟩, .int .i64 0, .int .i64 0, .slice none 0 0] 29))) := (Upd.refl [] v2).alloc _
  have bne : Hid (b1 ≠ v1.heap.size ∧ b2 ≠ v1.heap.size ∧ b3 ≠ v1.heap.size ∧ b4 ≠ v1.heap.size ∧ b5 ≠ v1.heap.size) := by
    refine ⟨?_, ?_, ?_, ?_, ?_⟩ <;> intro e
    · have := M2.out.t1; rw [e] at this; have := this.symm.trans m2.out; cases this
    · have := M2.out.t2; rw [e] at this; have := this.symm.trans m2.out; cases this
    · have := M2.out.t3; rw [e] at this; have := this.symm.trans m2.out; cases this
    · have := M2.out.t4; rw [e] at this; have := this.symm.trans m2.out; cases this
    · have := M2.out.t5; rw [e] at this; have := this.symm.trans m2.out; cases this
  clear T5 HM V1 U12 tb1 f1 z4
  refine wp_loop_rounds 2 ?_
  rw [rounds_succ]
  go_wp2_with (first
    | (refine store_T _ rfl _ _ rfl _ #[.int .u8 21, .string ⟨#[102]⟩, .int .i64 1, .int .i64 0, .slice (some ⟨b4, 0, none⟩) 1 1] _ rfl rfl tz rfl rfl (by simp [Value.oneCell']) ?_; intro w3 s3 u3; have U3 : Hid (Upd [] v2 w3) := HUZ.out.then u3 (by simp))
    | (refine load_T _ rfl _ rfl _ _ rfl s3 rfl ?_)
    | fail)
  have M3 : Hid (OneM w3 lo b1 b2 b3 b4 b5 #[.int .u8 3, .string s, .int .i64 0, .int .i64 p, .slice none 0 0]) := M2.out.mono U3.out (by simp)
  refine Calls.mono (declare_one (v1.heap.size + 1) v1.heap.size b3 b4 (some ⟨b1, 0, none⟩) 1 _ w3 (HF.out.2.2.mono (W2.out.trans U3.out)) ((U3.out.cell (cell_lt c2.out) (by simp)).trans c2.out) ((U3.out.block _ lm2 (by simp)).trans m2.out) M3.out.t4 M3.out.t3 rfl) ?_
  rintro e w4 ⟨⟨u4, rfl⟩, h4⟩
  have U4 : Hid (Upd [] w w4) := (W2.out.trans U3.out).then h4 (by simp; omega)
  have M4 : Hid (OneM w4 lo b1 b2 b3 b4 b5 #[.int .u8 3, .string s, .int .i64 0, .int .i64 p, .slice none 0 0]) := M3.out.mono h4 (by simpa using bne.out)
  have tb4 : Tb w4 w.heap.size #[.int .u8 22, .string ⟨#[]⟩, .int .i64 0, .int .i64 0, .slice (some ⟨b5, 0, none⟩) 1 1] := (tb2.out.mono U3.out (by simp)).mono h4 (by simp; omega)
  have f4 : Hid (Fb w4 (w.heap.size + 1) 0 0) := (h4.block _ (lt_of_block ((U3.out.block _ (lt_of_block f2.out) (by simp)).trans f2.out)) (by simp; omega)).trans ((U3.out.block _ (lt_of_block f2.out) (by simp)).trans f2.out)
  clear U3 M3 h4 tb2 f2 W2 M2 x0 x1 x2 x3 x4 tz HUZ bne c2 m2 lm2 s3 u3
  have z4 : w4.cell? ⟨w.heap.size, 4, none⟩ = some (.slice (some ⟨b5, 0, none⟩) 1 1) := tb4.cell 4
  have T5 : Tb w4 b5 #[.int .u8 21, .string ⟨#[102]⟩, .int .i64 1, .int .i64 0, .slice (some ⟨b4, 0, none⟩) 1 1] := M4.out.t5
  have x0 : w4.cell? ⟨b5, 0, none⟩ = some (.int .u8 21) := T5.cell 0
  have x1 : w4.cell? ⟨b5, 1, none⟩ = some (.string ⟨#[102]⟩) := T5.cell 1
  have x2 : w4.cell? ⟨b5, 2, none⟩ = some (.int .i64 1) := T5.cell 2
  have x3 : w4.cell? ⟨b5, 3, none⟩ = some (.int .i64 0) := T5.cell 3
  have x4 : w4.cell? ⟨b5, 4, none⟩ = some (.slice (some ⟨b4, 0, none⟩) 1 1) := T5.cell 4
  have tz : Tb (w4.alloc (.cells #[.int .u8 0, .string ⟨#[]⟩, .int .i64 0, .int .i64 0, .slice none 0 0] 29)) w4.heap.size #[.int .u8 0, .string ⟨#[]⟩, .int .i64 0, .int .i64 0, .slice none 0 0] := Tb.new _ _ _ rfl
  have HUZ : Hid (Upd [] w4 (w4.alloc (.cells #[.int .u8 0, .string ⟨#[]⟩, .int .i64 0, .int .i64 0, .slice none 0 0] 29))) := (Upd.refl [] w4).alloc _
  clear T5 tb4
  go_wp2_with fail
  rw [rounds_succ]
  go_wp2_with fail
  refine wp_loop_rounds 2 ?_
  rw [rounds_succ]
  go_wp2_with (first
    | (refine store_T _ rfl _ _ rfl _ #[.int .u8 21, .string ⟨#[102]⟩, .int .i64 1, .int .i64 0, .slice (some ⟨b4, 0, none⟩) 1 1] _ rfl rfl tz rfl rfl (by simp [Value.oneCell']) ?_; intro w5 s5 u5; have U5 : Hid (Upd [] w4 w5) := HUZ.out.then u5 (by simp); have y4 : w5.cell? ⟨w4.heap.size, 4, none⟩ = some (.slice (some ⟨b4, 0, none⟩) 1 1) := s5.cell 4)
    | fail)
  obtain ⟨w6, hw6⟩ : ∃ w6, w6 = w5.alloc (.cells #[.map none, .pointer none] 57) := ⟨_, rfl⟩
  have U6 : Hid (Upd [] w4 w6) := by rw [hw6]; exact U5.out.alloc _
  have o6 : Hid (w6.heap[w5.heap.size]? = some (.cells #[.map none, .pointer none] 57 (0, 0))) := by rw [hw6]; exact heap_alloc_new w5 _
  rw [← hw6]
  have M6 : Hid (OneM w6 lo b1 b2 b3 b4 b5 #[.int .u8 3, .string s, .int .i64 0, .int .i64 p, .slice none 0 0]) := M4.out.mono U6.out (by simp)
  refine Calls.mono (heads_E bad s p HE.out (v1.heap.size + 1) w5.heap.size b1 b2 b3 b4 w6 o6.out M6.out.t1 M6.out.t2 M6.out.t3 M6.out.t4) ?_
  rintro e w7 ⟨he, h7⟩
  have U7 : Hid (Upd [] w w7) := (U4.out.trans U6.out).trans h7
  have f7 : Fb w7 (w.heap.size + 1) 0 0 := by
    have e6 := (U6.out.block _ (lt_of_block f4.out) (by simp)).trans f4.out
    exact (h7.block _ (lt_of_block e6) (by simp)).trans e6
  clear hw6 U6 o6 M6 M4 h7 U4 f4 z4 x0 x1 x2 x3 x4 tz HUZ y4 s5 u5 U5 HE HF
  have hO := HO.out
  clear HO
  subst hO
  cases bad
  · obtain ⟨u, rfl⟩ := he
    go_wp2_with fail
    rw [rounds_succ]
    go_wp2_with (first | (refine store_F _ rfl _ _ rfl _ _ _ _ _ rfl rfl f7 ?_; intro w8 f8 u8) | fail)
    have U8 : Hid (Upd [] w w8) := U7.out.then u8 (by simp)
    refine leaves_cons (f := 21) (args := #[.pointer (some ⟨w.heap.size + 1, 0, none⟩)]) (by simp) (by simp [go_sem]) ?_
    refine (catch_idle (w.heap.size + 1) w8).mono ?_
    rintro e u' w9 ⟨rfl, rfl, h9⟩
    have U9 : Upd [] w w9 := U8.out.trans h9
    have f9 : Fb w9 (w.heap.size + 1) 0 0 := (h9.block _ (lt_of_block f8) (by simp)).trans f8
    have k0 : w9.cell? ⟨w.heap.size + 1, 0, none⟩ = some (.int .i64 0) := cell_of_row _ _ 0 _ _ _ f9
    have k1 : w9.cell? ⟨w.heap.size + 1, 1, none⟩ = some (.int .i64 0) := cell_of_row _ _ 1 _ _ _ f9
    simp [Leaves, settle, results, Tryd.results11, go_sem, k0, k1, Ans]
    exact U9
  · cases he
    go_wp2_with fail
    refine leaves_cons (f := 21) (args := #[.pointer (some ⟨w.heap.size + 1, 0, none⟩)]) (by simp) (by simp [go_sem]) ?_
    refine (catch_bad (w.heap.size + 1) 212 7 w7 f7).mono ?_
    rintro e u' w9 ⟨rfl, rfl, h9, f9⟩
    have U9 : Upd [] w w9 := U7.out.then h9 (by simp)
    have k0 : w9.cell? ⟨w.heap.size + 1, 0, none⟩ = some (.int .i64 212) := cell_of_row _ _ 0 _ _ _ f9
    have k1 : w9.cell? ⟨w.heap.size + 1, 1, none⟩ = some (.int .i64 7) := cell_of_row _ _ 1 _ _ _ f9
    simp [Leaves, settle, results, Tryd.results11, go_sem, k0, k1, Ans]
    exact U9

end Go.Proofs.YtpgjcedonimgnaaDoor
