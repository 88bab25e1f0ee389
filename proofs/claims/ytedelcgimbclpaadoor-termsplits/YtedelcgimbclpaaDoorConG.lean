/- Cons of package term, of whatever two terms: by its contract. -/
import Derived.Test.YtedelcgimbclpaaDoorJO
namespace Go.Proofs.YtedelcgimbclpaaDoor
open Go.RowKit

theorem cellA {W : World} {p : Addr} {v : Value} (h : W.cell? p = some v) (o : Obj) : (W.alloc o).cell? p = some v := (((Upd.refl [] W).alloc o).cell (World.block_lt_of_cell? _ _ h) (by simp)).trans h
theorem cellD {W : World} {p : Addr} {v : Value} (h : W.cell? p = some v) : W.drew.cell? p = some v := (((Upd.refl [] W).drew).cell (World.block_lt_of_cell? _ _ h) (by simp)).trans h
theorem cellU {W W' : World} {p : Addr} {v : Value} (hu : Upd [] W W') (h : W.cell? p = some v) : W'.cell? p = some v := (hu.cell (World.block_lt_of_cell? _ _ h) (by simp)).trans h
theorem Upd.wid {S : List Nat} {a b : World} (h : Upd [] a b) : Upd S a b := ⟨h.os, h.tape, h.output, h.size, fun k hk _ => h.block k hk (by simp)⟩
theorem cellN {W : World} {v : Value} (T : TypeId) {g : Nat} (h : g = W.heap.size) : (W.alloc (.cells #[v] T)).cell? ⟨g, 0, none⟩ = some v := by subst h; exact nw0 W v T
theorem cellN2 {W : World} {v : Value} (u : Value) (T : TypeId) {g : Nat} (h : g = W.heap.size) : (W.alloc (.cells #[v, u] T)).cell? ⟨g, 0, none⟩ = some v := by subst h; exact nt0 W v u T
theorem cellN2b {W : World} {u : Value} (v : Value) (T : TypeId) {g : Nat} (h : g = W.heap.size) : (W.alloc (.cells #[v, u] T)).cell? ⟨g, 1, none⟩ = some u := by subst h; exact nt1 W v u T

/-- fresh of two rows, the first one of one term. -/
theorem fresh_twoC (B b c c0 c1 d : Nat) (a0 a1 : Option Addr) (h : Tm) (I : List Tm) (Q0 Q1 : Nat → Prop) (w : World) (hb : b < w.heap.size) (hB : B ≤ w.heap.size) (hc0 : w.cell? ⟨b, 0, none⟩ = some (.slice a0 1 c0)) (hc1 : w.cell? ⟨b, 1, none⟩ = some (.slice a1 I.length c1))
    (hR0 : RowB Q0 (InB (fun b => b < B) w d) w a0 [h]) (hR1 : RowB Q1 (InB (fun b => b < B) w d) w a1 I) (hn : (h :: I).length + belR (h :: I) ≤ 65536) (hsz : tszs (h :: I) ≤ 1353245080330) :
    Calls Tryd.prog 27 #[.slice (some ⟨b, 0, none⟩) 2 c] w (FreshC B w d (h :: I)) := by
  obtain ⟨xs, hx, hxs⟩ := hR0.rd (fun cs t h => InB.one cs t h)
  obtain ⟨ys, hy, hys⟩ := hR1.rd (fun cs t h => InB.one cs t h)
  have two : ∀ i, i < 2 → i = 0 ∨ i = 1 := fun i hi => by omega
  refine fresh_anyC B b 0 2 c d [⟨a0, 1, c0, xs⟩, ⟨a1, I.length, c1, ys⟩] (h :: I) w rfl ⟨hb, fun i hi => ?_, fun i hi => ?_⟩ ⟨by simp [sumN]; omega, fun i hi => ?_⟩ hB (by simp) (by omega) (by omega) hsz
  · rcases two i hi with rfl | rfl
    · exact hc0
    · exact hc1
  · rcases two i hi with rfl | rfl
    · exact hx
    · exact hy
  · have hxl := hx.len
    simp only [List.length_cons, List.length_nil, Nat.zero_add, Nat.one_mul] at hxl
    cases i with
    | zero =>
      obtain ⟨cs, k1, k2, k3⟩ := hxs 0 (by simp)
      refine ⟨cs, k1, fun j hj => ?_, k3⟩
      have := k2 j hj
      simp only [catX, List.flatMap_cons, List.flatMap_nil, List.append_nil]
      rw [List.getElem?_append_left (by omega)]
      exact this
    | succ i =>
      obtain ⟨cs, k1, k2, k3⟩ := hys i (by simpa using hi)
      refine ⟨cs, k1, fun j hj => ?_, by simpa using k3⟩
      simp only [catX, List.flatMap_cons, List.flatMap_nil, List.append_nil]
      rw [List.getElem?_append_right (by omega), ← k2 j hj]
      congr 1
      omega

/-- What stands, if it fits; zero, if not. -/
def fk (b : Bool) : Int := if b then 7 else 0
def fa (b : Bool) (a : Option Addr) : Option Addr := if b then a else none
def fn (b : Bool) (n : Nat) : Nat := if b then n else 0
theorem fit_gen (d a3n c3 a4n c4 : Nat) (a3 a4 : Option Addr) (V : World) (t : Tm) (b : Bool) (hb : okS t = b) (hin : In V d [.int .u8 7, .bool false, .slice none 0 0, .string ⟨#[]⟩, .int .i64 0, .slice a3 a3n c3, .slice a4 a4n c4] t) (hz : tsz t ≤ 1353245080330) :
    Calls Tryd.prog 28 #[.agg #[.int .u8 7, .bool false, .slice none 0 0, .string ⟨#[]⟩, .int .i64 0, .slice a3 a3n c3, .slice a4 a4n c4]] V fun e w' => e = .returned (.agg #[.int .u8 (fk b), .bool false, .slice none 0 0, .string ⟨#[]⟩, .int .i64 0, .slice (fa b a3) (fn b a3n) (fn b c3), .slice (fa b a4) (fn b a4n) (fn b c4)]) ∧ Upd [] V w' := by
  have := fitting_in d V _ t hin hz
  unfold fitC at this
  rw [hb] at this
  cases b
  · exact this
  · exact this
/-- How much room a list's row of items has. -/
def CapC (cs : List Value) : Prop := ∃ a n c, cs[5]? = some (.slice a n c) ∧ n ≤ c ∧ c ≤ 9223372036854775807
/-- That term, or a zero one. -/
def pickT (b : Bool) (t : Tm) : Tm := if b then t else zeroT
/-- What Cons answers. -/
def ConsP (w : World) (d : Nat) (t : Tm) (e : Ending) (w' : World) : Prop := ∃ cs : List Value, cs.length = 7 ∧ e = .returned (.agg cs.toArray) ∧ In w' d cs t ∧ CapC cs ∧ Upd [] w w'
theorem zero_in (w : World) (d : Nat) : In w (d + 1) zeroC zeroT := ⟨none, none, none, 0, 0, 0, rfl, At.nil _ _, Dig.nil, Or.inl rfl, Or.inl rfl⟩
theorem cons_end (B lo d g n3 c3 n4 c4 : Nat) (a3 a4 : Option Addr) (t : Tm) (b : Bool) (w w5 : World) (hg0 : w.heap.size ≤ g) (hg : g < lo) (hB : B ≤ w.heap.size) (hu : Upd [] w w5) (ht : Tb w5 g #[.int .u8 0, .bool false, .slice none 0 0, .string ⟨#[]⟩, .int .i64 0, .slice none 0 0, .slice none 0 0]) (h3 : n3 ≤ c3) (h3' : c3 ≤ 9223372036854775807) (hin : InB (Pl B lo) w5 (d + 1) [.int .u8 7, .bool false, .slice none 0 0, .string ⟨#[]⟩, .int .i64 0, .slice a3 n3 c3, .slice a4 n4 c4] t) :
    ∃ W5, W5 = ((((((w5.setCell ⟨g, 0, none⟩ (.int .u8 (fk b))).setCell ⟨g, 1, none⟩ (.bool false)).setCell ⟨g, 2, none⟩ (.slice none 0 0)).setCell ⟨g, 3, none⟩ (.string ⟨#[]⟩)).setCell ⟨g, 4, none⟩ (.int .i64 0)).setCell ⟨g, 5, none⟩ (.slice (fa b a3) (fn b n3) (fn b c3))).setCell ⟨g, 6, none⟩ (.slice (fa b a4) (fn b n4) (fn b c4)) ∧ Tb W5 g #[.int .u8 (fk b), .bool false, .slice none 0 0, .string ⟨#[]⟩, .int .i64 0, .slice (fa b a3) (fn b n3) (fn b c3), .slice (fa b a4) (fn b n4) (fn b c4)] ∧ ∀ S' : World, S' = W5 → ConsP w (d + 1) (pickT b t) (.returned (.agg #[.int .u8 (fk b), .bool false, .slice none 0 0, .string ⟨#[]⟩, .int .i64 0, .slice (fa b a3) (fn b n3) (fn b c3), .slice (fa b a4) (fn b n4) (fn b c4)])) S' := by
  obtain ⟨W5, h1, h2, h3u⟩ := set7 w5 g #[.int .u8 0, .bool false, .slice none 0 0, .string ⟨#[]⟩, .int .i64 0, .slice none 0 0, .slice none 0 0] (.int .u8 (fk b)) (.bool false) (.slice none 0 0) (.string ⟨#[]⟩) (.int .i64 0) (.slice (fa b a3) (fn b n3) (fn b c3)) (.slice (fa b a4) (fn b n4) (fn b c4)) ht rfl
  refine ⟨W5, h1, h2, fun S' hS' => ?_⟩
  subst hS'
  have hU5 : Upd [] w S' := hu.then h3u (fun x hx => by simp at hx; subst hx; exact Or.inl hg0)
  refine ⟨_, rfl, rfl, ?_, ⟨_, _, _, rfl, ?_, ?_⟩, hU5⟩
  · cases b with
    | false => exact zero_in _ _
    | true =>
      rw [pickT, if_pos rfl]
      refine InB.plain _ _ _ (InB.upd (Q := fun _ => True) h3u (fun b hb hm => ?_) (fun _ _ _ => trivial) _ _ _ hin)
      simp at hm
      subst hm
      rcases hb with hb | hb
      · omega
      · omega
  · cases b <;> simp [fn]; exact h3
  · cases b <;> simp [fn]; exact h3'

set_option maxHeartbeats 4000000 in
set_option maxRecDepth 100000 in
theorem Cons_bad (d : Nat) (w : World) (h t : Tm) (q0 q1 q2 q3 q4 q5 q6 p0 p1 p2 p3 p4 p5 p6 : Value) (hh : In w d [q0, q1, q2, q3, q4, q5, q6] h) (hin : In w d [p0, p1, p2, p3, p4, p5, p6] t) (hzh : tsz h ≤ 1353245080330) (hz : tsz t ≤ 1353245080330) (hok : (okS h && okS t) = false) :
    Calls Tryd.prog 13 #[.agg #[q0, q1, q2, q3, q4, q5, q6], .agg #[p0, p1, p2, p3, p4, p5, p6]] w (ConsP w (d + 1) zeroT) := by
  obtain ⟨o0, ho0⟩ : ∃ o, okS h = o := ⟨_, rfl⟩
  obtain ⟨o1, ho1⟩ : ∃ o, okS t = o := ⟨_, rfl⟩
  have HR1 : Hid (∀ V, Upd [] w V → Calls Tryd.prog 8 #[.agg #[q0, q1, q2, q3, q4, q5, q6]] V fun e w' => e = .returned (.bool o0) ∧ Upd [] V w') := fun V hU => by
    have := TRight_in d V _ _ (In.mono hU _ _ _ hh) hzh
    rw [ho0] at this
    exact this
  have HR2 : Hid (∀ V, Upd [] w V → Calls Tryd.prog 8 #[.agg #[p0, p1, p2, p3, p4, p5, p6]] V fun e w' => e = .returned (.bool o1) ∧ Upd [] V w') := fun V hU => by
    have := TRight_in d V _ _ (In.mono hU _ _ _ hin) hz
    rw [ho1] at this
    exact this
  rw [ho0, ho1] at hok
  have hU0 : Upd [] w (((w.alloc (.cells #[q0, q1, q2, q3, q4, q5, q6] 26)).alloc (.cells #[p0, p1, p2, p3, p4, p5, p6] 26)).alloc (.cells #[.int .u8 0, .bool false, .slice none 0 0, .string ⟨#[]⟩, .int .i64 0, .slice none 0 0, .slice none 0 0] 26)) := (((Upd.refl [] w).alloc _).alloc _).alloc _
  have tb0 : Tb (((w.alloc (.cells #[q0, q1, q2, q3, q4, q5, q6] 26)).alloc (.cells #[p0, p1, p2, p3, p4, p5, p6] 26)).alloc (.cells #[.int .u8 0, .bool false, .slice none 0 0, .string ⟨#[]⟩, .int .i64 0, .slice none 0 0, .slice none 0 0] 26)) w.heap.size #[q0, q1, q2, q3, q4, q5, q6] := ((Tb.new _ _ _ rfl).old _).old _
  have tb1 : Tb (((w.alloc (.cells #[q0, q1, q2, q3, q4, q5, q6] 26)).alloc (.cells #[p0, p1, p2, p3, p4, p5, p6] 26)).alloc (.cells #[.int .u8 0, .bool false, .slice none 0 0, .string ⟨#[]⟩, .int .i64 0, .slice none 0 0, .slice none 0 0] 26)) (w.heap.size + 1) #[p0, p1, p2, p3, p4, p5, p6] := (Tb.new _ _ _ (by simp)).old _
  have tb2 : Tb (((w.alloc (.cells #[q0, q1, q2, q3, q4, q5, q6] 26)).alloc (.cells #[p0, p1, p2, p3, p4, p5, p6] 26)).alloc (.cells #[.int .u8 0, .bool false, .slice none 0 0, .string ⟨#[]⟩, .int .i64 0, .slice none 0 0, .slice none 0 0] 26)) (w.heap.size + 1 + 1) #[.int .u8 0, .bool false, .slice none 0 0, .string ⟨#[]⟩, .int .i64 0, .slice none 0 0, .slice none 0 0] := Tb.new _ _ _ (by simp)
  have ENDZ : Hid (∀ V1 V2, Upd [] w V1 → Upd [w.heap.size + 1 + 1] V1 V2 → ConsP w (d + 1) zeroT (.returned (.agg #[.int .u8 0, .bool false, .slice none 0 0, .string ⟨#[]⟩, .int .i64 0, .slice none 0 0, .slice none 0 0])) V2) := fun V1 V2 h1 h2 => ⟨zeroC, rfl, rfl, zero_in _ _, ⟨none, 0, 0, rfl, Nat.le_refl _, by omega⟩, h1.then h2 (by simp; omega)⟩
  have HU0 : Hid _ := hU0
  clear hU0 hh hin hzh hz ho0 ho1
  go_enter Tryd.func13, Tryd.ntmps13
  go_wp2_with (first | (refine load_T _ rfl _ rfl _ _ rfl tb0 rfl ?_) | fail)
  refine Calls.mono (HR1.out _ HU0.out) ?_
  rintro e w1 ⟨rfl, hU1⟩
  have tc1 := tb1.mono hU1 (by simp)
  have tc2 := tb2.mono hU1 (by simp)
  have U1 : Hid (Upd [] w w1) := HU0.out.trans hU1
  clear hU1 tb0 tb1 tb2 HU0
  cases o0 with
  | false =>
    go_wp2_with (refine store_V _ rfl _ _ rfl _ _ _ _ _ _ _ _ _ _ _ _ _ _ _ rfl rfl tc2 rfl ?_; intro w2 hT2 hU2)
    exact ret_T Tryd.results13 rfl _ _ rfl hT2 rfl (ENDZ.out _ _ U1.out hU2)
  | true =>
    have h1 : o1 = false := by simpa using hok
    subst h1
    go_wp2_with (first | (refine load_G _ _ rfl _ _ rfl tc1 rfl rfl ?_) | fail)
    refine Calls.mono (HR2.out w1 U1.out) ?_
    rintro e w2 ⟨rfl, hU2⟩
    have td2 := tc2.mono hU2 (by simp)
    have U2 : Hid (Upd [] w w2) := U1.out.trans hU2
    clear hU2 tc1 tc2
    go_wp2_with (refine store_V _ rfl _ _ rfl _ _ _ _ _ _ _ _ _ _ _ _ _ _ _ rfl rfl td2 rfl ?_; intro w3 hT3 hU3)
    exact ret_T Tryd.results13 rfl _ _ rfl hT3 rfl (ENDZ.out _ _ U2.out hU3)

end Go.Proofs.YtedelcgimbclpaaDoor
