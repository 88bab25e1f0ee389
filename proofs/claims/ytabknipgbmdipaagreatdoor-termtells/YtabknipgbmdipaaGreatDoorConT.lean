/- fitting and Cons of package term, of a list: by their contracts. -/
import Derived.Test.YtabknipgbmdipaaGreatDoorJAS
namespace Go.Proofs.YtabknipgbmdipaaGreatDoor
open Go.RowKit

def zeroC : List Value := [.int .u8 0, .bool false, .slice none 0 0, .string ⟨#[]⟩, .int .i64 0, .slice none 0 0, .slice none 0 0]

def fitC (t : Tm) (cs : List Value) : List Value := if okS t then cs else zeroC

set_option maxHeartbeats 4000000 in
set_option maxRecDepth 100000 in
theorem fitting_in (d : Nat) (w : World) (cs : List Value) (t : Tm) (h : In w d cs t) (hs : tsz t ≤ 1353245080330) :
    Calls Tryz.prog 63 #[.agg cs.toArray] w fun e w' => e = .returned (.agg (fitC t cs).toArray) ∧ Upd [] w w' := by
  have h7 := h.seven
  have hone := h.one
  have HR : Hid (∀ W, Upd [] w W → Calls Tryz.prog 9 #[.agg cs.toArray] W fun e w' => e = .returned (.bool (okS t)) ∧ Upd [] W w') := fun W hu => TRight_in d W cs t (In.mono hu _ _ _ h) hs
  obtain ⟨C, hC⟩ : ∃ C, C = cs.toArray := ⟨_, rfl⟩
  have HC : Hid (cs.toArray = C) := hC.symm
  rw [← hC] at h7 hone HR ⊢
  clear hC h hs
  have tb0 : Tb ((w.alloc (.cells C 26)).alloc (.cells #[.int .u8 0, .bool false, .slice none 0 0, .string ⟨#[]⟩, .int .i64 0, .slice none 0 0, .slice none 0 0] 26)) w.heap.size C := (Tb.new _ _ _ rfl).old _
  have tbz : Tb ((w.alloc (.cells C 26)).alloc (.cells #[.int .u8 0, .bool false, .slice none 0 0, .string ⟨#[]⟩, .int .i64 0, .slice none 0 0, .slice none 0 0] 26)) (w.heap.size + 1) #[.int .u8 0, .bool false, .slice none 0 0, .string ⟨#[]⟩, .int .i64 0, .slice none 0 0, .slice none 0 0] := Tb.new _ _ _ (by simp)
  have hU0 : Upd [] w ((w.alloc (.cells C 26)).alloc (.cells #[.int .u8 0, .bool false, .slice none 0 0, .string ⟨#[]⟩, .int .i64 0, .slice none 0 0, .slice none 0 0] 26)) := ((Upd.refl [] w).alloc _).alloc _
  have HU0 : Hid _ := hU0
  clear hU0
  go_enter Tryz.func63, Tryz.ntmps63
  go_wp2_with (first | (refine load_T _ rfl _ rfl _ _ rfl tb0 h7 ?_) | fail)
  refine Calls.mono (HR.out _ HU0.out) ?_
  rintro e w1 ⟨rfl, hU1⟩
  have tb1 := tb0.mono hU1 (by simp)
  have tbz1 := tbz.mono hU1 (by simp)
  have HU1 : Hid (Upd [] w w1) := HU0.out.trans hU1
  clear hU1 tb0 tbz HU0
  cases ht : okS t with
  | false =>
    go_wp2_with (refine store_V _ rfl _ _ rfl _ _ _ _ _ _ _ _ _ _ _ _ _ _ _ rfl rfl tbz1 rfl ?_; intro w2 hT2 hU2)
    exact ret_T Tryz.results63 rfl _ _ rfl hT2 rfl ⟨by unfold fitC; rw [ht]; rfl, HU1.out.then hU2 (by simp)⟩
  | true =>
    go_wp2_with (first | (refine load_T _ rfl _ rfl _ _ rfl tb1 h7 ?_) | (refine store_T _ rfl _ _ rfl _ C _ rfl rfl tbz1 rfl h7 hone ?_; intro w2 hT2 hU2))
    exact ret_T Tryz.results63 rfl _ _ rfl hT2 h7 ⟨by unfold fitC; rw [ht, if_pos rfl, HC.out], HU1.out.then hU2 (by simp)⟩

/-- fresh of two rows, the first one of one term. -/
theorem fresh_two (B b c c0 c1 d : Nat) (a0 a1 : Option Addr) (h : Tm) (I : List Tm) (Q0 Q1 : Nat → Prop) (w : World) (hb : b < w.heap.size) (hB : B ≤ w.heap.size) (hc0 : w.cell? ⟨b, 0, none⟩ = some (.slice a0 1 c0)) (hc1 : w.cell? ⟨b, 1, none⟩ = some (.slice a1 I.length c1))
    (hR0 : RowB Q0 (InB (fun b => b < B) w d) w a0 [h]) (hR1 : RowB Q1 (InB (fun b => b < B) w d) w a1 I) (hn : (h :: I).length + belR (h :: I) ≤ 65536) (hsz : tszs (h :: I) ≤ 1353245080330) :
    Calls Tryz.prog 50 #[.slice (some ⟨b, 0, none⟩) 2 c] w (FreshP B w d (h :: I)) := by
  obtain ⟨xs, hx, hxs⟩ := hR0.rd (fun cs t h => InB.one cs t h)
  obtain ⟨ys, hy, hys⟩ := hR1.rd (fun cs t h => InB.one cs t h)
  have two : ∀ i, i < 2 → i = 0 ∨ i = 1 := fun i hi => by omega
  refine fresh_any B b 0 2 c d [⟨a0, 1, c0, xs⟩, ⟨a1, I.length, c1, ys⟩] (h :: I) w rfl ⟨hb, fun i hi => ?_, fun i hi => ?_⟩ ⟨by simp [sumN]; omega, fun i hi => ?_⟩ hB (by simp) (by omega) (by omega) hsz
  · rcases two i hi with rfl | rfl
    · exact hc0
    · exact hc1
  · rcases two i hi with rfl | rfl
    · exact hx
    · exact hy
  · have hxl := hx.len
    simp only [List.length_cons, List.length_nil, Nat.zero_add, Nat.one_mul] at hxl
    cases i with
    | zero =>
      obtain ⟨cs, k1, k2, k3⟩ := hxs 0 (by simp)
      refine ⟨cs, k1, fun j hj => ?_, k3⟩
      have := k2 j hj
      simp only [catX, List.flatMap_cons, List.flatMap_nil, List.append_nil]
      rw [List.getElem?_append_left (by omega)]
      exact this
    | succ i =>
      obtain ⟨cs, k1, k2, k3⟩ := hys i (by simpa using hi)
      refine ⟨cs, k1, fun j hj => ?_, by simpa using k3⟩
      simp only [catX, List.flatMap_cons, List.flatMap_nil, List.append_nil]
      rw [List.getElem?_append_right (by omega), ← k2 j hj]
      congr 1
      omega

theorem nt0 (W : World) (v u : Value) (T : TypeId) : (W.alloc (.cells #[v, u] T)).cell? ⟨W.heap.size, 0, none⟩ = some v := cell_of_row _ _ 0 _ _ _ (heap_alloc_new W (.cells #[v, u] T))
theorem nt1 (W : World) (v u : Value) (T : TypeId) : (W.alloc (.cells #[v, u] T)).cell? ⟨W.heap.size, 1, none⟩ = some u := cell_of_row _ _ 1 _ _ _ (heap_alloc_new W (.cells #[v, u] T))
theorem ntl (W : World) (v u : Value) (T : TypeId) : W.heap.size < (W.alloc (.cells #[v, u] T)).heap.size := by simp
theorem nu0 (W : World) (v u x : Value) (T U : TypeId) : ((W.alloc (.cells #[v, u] T)).alloc (.cells #[x] U)).cell? ⟨W.heap.size, 0, none⟩ = some v := (((Upd.refl [] _).alloc (.cells #[x] U)).cell (p := ⟨W.heap.size, 0, none⟩) (ntl W v u T) (by simp)).trans (nt0 W v u T)
theorem nu1 (W : World) (v u x : Value) (T U : TypeId) : ((W.alloc (.cells #[v, u] T)).alloc (.cells #[x] U)).cell? ⟨W.heap.size, 1, none⟩ = some u := (((Upd.refl [] _).alloc (.cells #[x] U)).cell (p := ⟨W.heap.size, 1, none⟩) (ntl W v u T) (by simp)).trans (nt1 W v u T)
theorem nul (W : World) (v u x : Value) (T U : TypeId) : W.heap.size < ((W.alloc (.cells #[v, u] T)).alloc (.cells #[x] U)).heap.size := by simp; omega
theorem nv (W : World) (v u x : Value) (T U : TypeId) : ((W.alloc (.cells #[v, u] T)).alloc (.cells #[x] U)).cell? ⟨W.heap.size + 1, 0, none⟩ = some x := (FunB.new (W.alloc (.cells #[v, u] T)) x U _ (by simp)).cell
theorem nvl (W : World) (v u x : Value) (T U : TypeId) : W.heap.size + 1 < ((W.alloc (.cells #[v, u] T)).alloc (.cells #[x] U)).heap.size := by simp
theorem ny (W : World) (v u x : Value) (T U : TypeId) : ((W.alloc (.cells #[x] U)).alloc (.cells #[v, u] T)).cell? ⟨W.heap.size, 0, none⟩ = some x := ((FunB.new W x U _ rfl).mono ((Upd.refl [] _).alloc _) (by simp)).cell
theorem nyl (W : World) (v u x : Value) (T U : TypeId) : W.heap.size < ((W.alloc (.cells #[x] U)).alloc (.cells #[v, u] T)).heap.size := by simp; omega
theorem ny0 (W : World) (v u x : Value) (T U : TypeId) : ((W.alloc (.cells #[x] U)).alloc (.cells #[v, u] T)).cell? ⟨W.heap.size + 1, 0, none⟩ = some v := by have := nt0 (W.alloc (.cells #[x] U)) v u T; rwa [show (W.alloc (.cells #[x] U)).heap.size = W.heap.size + 1 by simp] at this
theorem ny1 (W : World) (v u x : Value) (T U : TypeId) : ((W.alloc (.cells #[x] U)).alloc (.cells #[v, u] T)).cell? ⟨W.heap.size + 1, 1, none⟩ = some u := by have := nt1 (W.alloc (.cells #[x] U)) v u T; rwa [show (W.alloc (.cells #[x] U)).heap.size = W.heap.size + 1 by simp] at this
theorem nyl0 (W : World) (v u x : Value) (T U : TypeId) : W.heap.size + 1 < ((W.alloc (.cells #[x] U)).alloc (.cells #[v, u] T)).heap.size := by simp

/-- A term ahead of a list. -/
def consT (h : Tm) (I T : List Tm) : Tm := .mk 7 0 false [] ⟨#[]⟩ (h :: I) T

set_option maxHeartbeats 8000000 in
set_option maxRecDepth 100000 in
theorem Cons_list (B d ci ct c : Nat) (num : Int) (neg : Bool) (s : ByteArray) (L : List Nat) (a ai at' : Option Addr) (I T : List Tm) (h : Tm) (q0 q1 q2 q3 q4 q5 q6 : Value) (w : World) (hB : B ≤ w.heap.size) (hh : InB (fun b => b < B) w (d + 1) [q0, q1, q2, q3, q4, q5, q6] h) (hin : InB (fun b => b < B) w (d + 1) [.int .u8 7, .bool neg, .slice a L.length c, .string s, .int .i64 num, .slice ai I.length ci, .slice at' T.length ct] (.mk 7 num neg L s I T))
    (hzh : tsz h ≤ 1353245080330) (hz : tsz (.mk 7 num neg L s I T) ≤ 1353245080330) (hok : okS (.mk 7 num neg L s I T) = true) (hokh : okS h = true) (hokc : okS (consT h I T) = true) :
    Calls Tryz.prog 24 #[.agg #[q0, q1, q2, q3, q4, q5, q6], .agg #[.int .u8 7, .bool neg, .slice a L.length c, .string s, .int .i64 num, .slice ai I.length ci, .slice at' T.length ct]] w (TermP B w (d + 2) (consT h I T)) := by
  have HR1 : Hid (∀ V, Upd [] w V → Calls Tryz.prog 9 #[.agg #[q0, q1, q2, q3, q4, q5, q6]] V fun e w' => e = .returned (.bool true) ∧ Upd [] V w') := fun V hU => by
    have := TRight_in (d + 1) V _ _ (In.mono hU _ _ _ (InB.plain _ _ _ hh)) hzh
    rw [hokh] at this
    exact this
  have HR2 : Hid (∀ V, Upd [] w V → Calls Tryz.prog 9 #[.agg #[.int .u8 7, .bool neg, .slice a L.length c, .string s, .int .i64 num, .slice ai I.length ci, .slice at' T.length ct]] V fun e w' => e = .returned (.bool true) ∧ Upd [] V w') := fun V hU => by
    have := TRight_in (d + 1) V _ _ (In.mono hU _ _ _ (InB.plain _ _ _ hin)) hz
    rw [hok] at this
    exact this
  have hone := (InB.plain _ _ _ hh).one
  have hbl : (h :: I).length + belR (h :: I) + (T.length + belR T) ≤ 60000 := by
    unfold okS at hokc
    rw [Bool.and_eq_true, decide_eq_true_eq] at hokc
    have := bel_lt (consT h I T)
    unfold consT at this hokc
    rw [belT] at this
    omega
  simp only [tsz] at hz
  have hzI : tszs I ≤ 1353245080330 := by omega
  have hzT : tszs T ≤ 1353245080330 := by omega
  have hzJ : tszs (h :: I) ≤ 1353245080330 := by
    have h1 : I.length ≤ 60000 := by simp only [List.length_cons] at hbl; omega
    simp only [tszs]; omega
  obtain ⟨_, _, _, _, _, _, e, _, _, hI, hT⟩ := hin
  simp only [List.cons.injEq, Value.slice.injEq, true_and, and_true] at e
  obtain ⟨e2, ⟨e5, e5'⟩, e6, e6'⟩ := e
  rw [← e5] at hI
  rw [← e6] at hT
  clear e2 e5 e5' e6 e6' hz hok hokh
  have hU0 : Upd [] w (((w.alloc (.cells #[q0, q1, q2, q3, q4, q5, q6] 26)).alloc (.cells #[.int .u8 7, .bool neg, .slice a L.length c, .string s, .int .i64 num, .slice ai I.length ci, .slice at' T.length ct] 26)).alloc (.cells #[.int .u8 0, .bool false, .slice none 0 0, .string ⟨#[]⟩, .int .i64 0, .slice none 0 0, .slice none 0 0] 26)) := (((Upd.refl [] w).alloc _).alloc _).alloc _
  have tb0 : Tb (((w.alloc (.cells #[q0, q1, q2, q3, q4, q5, q6] 26)).alloc (.cells #[.int .u8 7, .bool neg, .slice a L.length c, .string s, .int .i64 num, .slice ai I.length ci, .slice at' T.length ct] 26)).alloc (.cells #[.int .u8 0, .bool false, .slice none 0 0, .string ⟨#[]⟩, .int .i64 0, .slice none 0 0, .slice none 0 0] 26)) w.heap.size #[q0, q1, q2, q3, q4, q5, q6] := ((Tb.new _ _ _ rfl).old _).old _
  have tb1 : Tb (((w.alloc (.cells #[q0, q1, q2, q3, q4, q5, q6] 26)).alloc (.cells #[.int .u8 7, .bool neg, .slice a L.length c, .string s, .int .i64 num, .slice ai I.length ci, .slice at' T.length ct] 26)).alloc (.cells #[.int .u8 0, .bool false, .slice none 0 0, .string ⟨#[]⟩, .int .i64 0, .slice none 0 0, .slice none 0 0] 26)) (w.heap.size + 1) #[.int .u8 7, .bool neg, .slice a L.length c, .string s, .int .i64 num, .slice ai I.length ci, .slice at' T.length ct] := (Tb.new _ _ _ (by simp)).old _
  have tb2 : Tb (((w.alloc (.cells #[q0, q1, q2, q3, q4, q5, q6] 26)).alloc (.cells #[.int .u8 7, .bool neg, .slice a L.length c, .string s, .int .i64 num, .slice ai I.length ci, .slice at' T.length ct] 26)).alloc (.cells #[.int .u8 0, .bool false, .slice none 0 0, .string ⟨#[]⟩, .int .i64 0, .slice none 0 0, .slice none 0 0] 26)) (w.heap.size + 1 + 1) #[.int .u8 0, .bool false, .slice none 0 0, .string ⟨#[]⟩, .int .i64 0, .slice none 0 0, .slice none 0 0] := Tb.new _ _ _ (by simp)
  obtain ⟨W, hW⟩ : ∃ W, W = (((w.alloc (.cells #[q0, q1, q2, q3, q4, q5, q6] 26)).alloc (.cells #[.int .u8 7, .bool neg, .slice a L.length c, .string s, .int .i64 num, .slice ai I.length ci, .slice at' T.length ct] 26)).alloc (.cells #[.int .u8 0, .bool false, .slice none 0 0, .string ⟨#[]⟩, .int .i64 0, .slice none 0 0, .slice none 0 0] 26)) := ⟨_, rfl⟩
  have hsW : W.heap.size = w.heap.size + 3 := by rw [hW]; simp
  have hIl : I.length ≤ 1353245080330 := Nat.le_trans (tszs_len I) hzI
  have hTl : T.length ≤ 1353245080330 := Nat.le_trans (tszs_len T) hzT
  have HI : Hid (RowB (fun b => b < B) (InB (fun b => b < B) w (d + 1)) w ai I) := by
    rcases hI with h | ⟨b, o, e, hb, hlt, hc⟩
    · exact Or.inl h
    · refine Or.inr ⟨b, o, e, hb, hlt, fun i hi => ?_⟩
      obtain ⟨cs, k1, k2, k3⟩ := hc i hi
      exact ⟨cs, k1, k2, InB.more _ _ _ k3⟩
  have HT : Hid (RowB (fun b => b < B) (InB (fun b => b < B) w (d + 1)) w at' T) := by
    rcases hT with h | ⟨b, o, e, hb, hlt, hc⟩
    · exact Or.inl h
    · refine Or.inr ⟨b, o, e, hb, hlt, fun i hi => ?_⟩
      obtain ⟨cs, k1, k2, k3⟩ := hc i hi
      exact ⟨cs, k1, k2, InB.more _ _ _ k3⟩
  have HX0 : Hid (InB (fun b => b < B) w (d + 1) [q0, q1, q2, q3, q4, q5, q6] h) := hh
  have HOC : Hid (okS (consT h I T) = true) := hokc
  have HW : Hid (W = (((w.alloc (.cells #[q0, q1, q2, q3, q4, q5, q6] 26)).alloc (.cells #[.int .u8 7, .bool neg, .slice a L.length c, .string s, .int .i64 num, .slice ai I.length ci, .slice at' T.length ct] 26)).alloc (.cells #[.int .u8 0, .bool false, .slice none 0 0, .string ⟨#[]⟩, .int .i64 0, .slice none 0 0, .slice none 0 0] 26))) := hW
  clear hI hT hh hokc
  go_enter Tryz.func24, Tryz.ntmps24
  go_wp2_with (first | (refine load_T _ rfl _ rfl _ _ rfl tb0 rfl ?_) | fail)
  rw [← hW] at hU0 tb0 tb1 tb2 ⊢
  clear hW
  refine Calls.mono (HR1.out W hU0) ?_
  rintro e w1 ⟨rfl, hU1⟩
  have tc1 := tb1.mono hU1 (by simp)
  go_wp2_with (first | (refine load_G _ _ rfl _ _ rfl tc1 rfl rfl ?_) | fail)
  refine Calls.mono (HR2.out w1 (hU0.trans hU1)) ?_
  rintro e w2 ⟨rfl, hU2⟩
  have hU3 : Upd [] W w2 := hU1.trans hU2
  have td0 := tb0.mono hU3 (by simp)
  have td1 := tb1.mono hU3 (by simp)
  have td2 := tb2.mono hU3 (by simp)
  have hUa : Upd [] w2 (w2.alloc (.cells #[q0, q1, q2, q3, q4, q5, q6] 26)) := (Upd.refl [] w2).alloc _
  have te1 := td1.old (.cells #[q0, q1, q2, q3, q4, q5, q6] 26)
  have te2 := td2.old (.cells #[q0, q1, q2, q3, q4, q5, q6] 26)
  have tef : Tb (w2.alloc (.cells #[q0, q1, q2, q3, q4, q5, q6] 26)) w2.heap.size #[q0, q1, q2, q3, q4, q5, q6] := Tb.new _ _ _ rfl
  have x0 : (w2.alloc (.cells #[q0, q1, q2, q3, q4, q5, q6] 26)).cell? ⟨w.heap.size + 1, 0, none⟩ = some (.int .u8 7) := te1.cell 0
  have hUW2 : Upd [] w w2 := hU0.trans hU3
  have hsz2 : w.heap.size + 3 ≤ w2.heap.size := by have := hU3.size; omega
  obtain ⟨X, hX⟩ : ∃ X, X = w2.alloc (.cells #[q0, q1, q2, q3, q4, q5, q6] 26) := ⟨_, rfl⟩
  have HSX : Hid (X.heap.size = w2.heap.size + 1) := by show _ = _; rw [hX]; simp
  go_wp2_with (first | (refine load_T _ rfl _ rfl _ _ rfl td0 rfl ?_) | fail)
  rw [← hX] at hUa te1 te2 tef x0 ⊢
  have HUX : Hid (Upd [] w X) := hUW2.trans hUa
  have HTE2 : Hid (Tb X _ _) := te2
  have HTF : Hid (Tb X w2.heap.size #[q0, q1, q2, q3, q4, q5, q6]) := tef
  have x5 : X.cell? ⟨w.heap.size + 1, 5, none⟩ = some (.slice ai I.length ci) := te1.cell 5
  have x6 : X.cell? ⟨w.heap.size + 1, 6, none⟩ = some (.slice at' T.length ct) := te1.cell 6
  have hl1 : w.heap.size + 1 < X.heap.size := te1.lt
  clear td0 td1 td2 tb0 tb1 tb2 tc1 hU1 hU2 hU3 hU0 hUa te1 te2 tef hX hUW2 x0
  have HF1 : Hid (∀ V g, Upd [] X V → g < V.heap.size → V.cell? ⟨g, 0, none⟩ = some (.slice (some ⟨w2.heap.size, 0, none⟩) 1 1) → V.cell? ⟨g, 1, none⟩ = some (.slice ai I.length ci) → Calls Tryz.prog 50 #[.slice (some ⟨g, 0, none⟩) 2 2] V (FreshP B V (d + 1) (h :: I))) := fun V g hU hg hc0 hc1 => by
    have hUV := HUX.out.trans hU
    have hr0 := Tb.row (R := InB (fun b => b < B) V (d + 1)) (cs := [q0, q1, q2, q3, q4, q5, q6]) (HTF.out.mono hU (by simp)) rfl (InB.upd hUV (by simp) (fun b hb _ => hb) _ _ _ HX0.out)
    exact fresh_two B g 2 1 ci (d + 1) _ ai h I _ (fun b => b < B) V hg (Nat.le_trans hB hUV.size) hc0 hc1 hr0 (RowB.upd hUV (by simp) (fun b hb _ => hb) HI.out) (by omega) hzJ
  have HF2 : Hid (∀ V g, Upd [] X V → g < V.heap.size → V.cell? ⟨g, 0, none⟩ = some (.slice at' T.length ct) → Calls Tryz.prog 50 #[.slice (some ⟨g, 0, none⟩) 1 1] V (FreshP B V (d + 1) T)) := fun V g hU hg hc => by
    have hUV := HUX.out.trans hU
    exact fresh_one B g 0 1 ct (d + 1) (fun b => b < B) at' T V hg (Nat.le_trans hB hUV.size) hc (RowB.upd hUV (by simp) (fun b hb _ => hb) HT.out) (by omega) hzT
  have hzC : tsz (consT h I T) ≤ 1353245080330 := by unfold consT; simp only [tsz, List.length_nil]; omega
  have HF3 : Hid (∀ V a3 c3 a4 c4, InB (Pl B X.heap.size) V (d + 2) [.int .u8 7, .bool false, .slice none 0 0, .string ⟨#[]⟩, .int .i64 0, .slice a3 (I.length + 1) c3, .slice a4 T.length c4] (consT h I T) → Calls Tryz.prog 63 #[.agg #[.int .u8 7, .bool false, .slice none 0 0, .string ⟨#[]⟩, .int .i64 0, .slice a3 (I.length + 1) c3, .slice a4 T.length c4]] V fun e w' => e = .returned (.agg #[.int .u8 7, .bool false, .slice none 0 0, .string ⟨#[]⟩, .int .i64 0, .slice a3 (I.length + 1) c3, .slice a4 T.length c4]) ∧ Upd [] V w') := fun V a3 c3 a4 c4 hin => by
    have := fitting_in (d + 2) V _ _ (InB.plain _ _ _ hin) hzC
    unfold fitC at this
    rw [HOC.out, if_pos rfl] at this
    exact this
  clear HR1 HR2
  go_wp2_with fail
  go_region_held3 (fun w' => w'.cell? ⟨w.heap.size + 1, 5, none⟩ = some (.slice ai I.length ci) ∧ w'.cell? ⟨w.heap.size + 1, 6, none⟩ = some (.slice at' T.length ct))
    (go_keep)
    (first
      | (go_at_call 63; go_loud (refine Calls.mono (HF3.out _ a3 c3 a4 c4 ?_) ?_); go_loud (exact ⟨none, a3, a4, 0, c3, c4, rfl, Or.inl rfl, Dig.nil, RowB.upd (S := []) (w := w3) (Upd.trans uw4.out (by repeat (first | exact Upd.refl _ _ | refine Upd.drew ?_ | refine Upd.alloc ?_ _))) (by simp) (fun b hb _ => hb) HR3.out, RowB.upd (S := []) (w := w4) (by repeat (first | exact Upd.refl _ _ | refine Upd.drew ?_ | refine Upd.alloc ?_ _)) (by simp) (fun b hb _ => hb) HR4.out⟩); rintro e w5 ⟨rfl, hU5⟩; have uw5 : Hid (Upd [] w4 w5) := Upd.trans (by repeat (first | exact Upd.refl _ _ | refine Upd.drew ?_ | refine Upd.alloc ?_ _)) hU5; clear hU5; have mx5 : w5.cell? ⟨w.heap.size + 1, 5, none⟩ = some (.slice ai I.length ci) := (((uw3.out.trans uw4.out).trans uw5.out).cell (p := ⟨w.heap.size + 1, 5, none⟩) hl1 (by simp)).trans x5; have mx6 : w5.cell? ⟨w.heap.size + 1, 6, none⟩ = some (.slice at' T.length ct) := (((uw3.out.trans uw4.out).trans uw5.out).cell (p := ⟨w.heap.size + 1, 6, none⟩) hl1 (by simp)).trans x6; have tbx := ((HTE2.out.mono uw3.out (by simp)).mono uw4.out (by simp)).mono uw5.out (by simp); have z0 : w5.cell? ⟨w.heap.size + 1 + 1, 0, none⟩ = some (.int .u8 0) := tbx.cell 0; have f0 : w5.frozen? ⟨w.heap.size + 1 + 1, 0, none⟩ = false := tbx.free 0; have z1 : w5.cell? ⟨w.heap.size + 1 + 1, 1, none⟩ = some (.bool false) := tbx.cell 1; have f1 : w5.frozen? ⟨w.heap.size + 1 + 1, 1, none⟩ = false := tbx.free 1; have z2 : w5.cell? ⟨w.heap.size + 1 + 1, 2, none⟩ = some (.slice none 0 0) := tbx.cell 2; have f2 : w5.frozen? ⟨w.heap.size + 1 + 1, 2, none⟩ = false := tbx.free 2; have z3 : w5.cell? ⟨w.heap.size + 1 + 1, 3, none⟩ = some (.string ⟨#[]⟩) := tbx.cell 3; have f3 : w5.frozen? ⟨w.heap.size + 1 + 1, 3, none⟩ = false := tbx.free 3; have z4 : w5.cell? ⟨w.heap.size + 1 + 1, 4, none⟩ = some (.int .i64 0) := tbx.cell 4; have f4 : w5.frozen? ⟨w.heap.size + 1 + 1, 4, none⟩ = false := tbx.free 4; have z5 : w5.cell? ⟨w.heap.size + 1 + 1, 5, none⟩ = some (.slice none 0 0) := tbx.cell 5; have f5 : w5.frozen? ⟨w.heap.size + 1 + 1, 5, none⟩ = false := tbx.free 5; have z6 : w5.cell? ⟨w.heap.size + 1 + 1, 6, none⟩ = some (.slice none 0 0) := tbx.cell 6; have f6 : w5.frozen? ⟨w.heap.size + 1 + 1, 6, none⟩ = false := tbx.free 6; have HTX : Hid (Tb w5 _ _) := tbx; clear tbx)
      | (go_at_call 50; (have _hw := uw3); go_loud (refine Calls.mono (HF2.out _ _ (by repeat (first | exact Upd.refl _ _ | exact uw3.out | refine Upd.drew ?_ | refine Upd.alloc ?_ _)) ?_ ?_) ?_); go_loud (first | exact nw0l _ _ _ | exact Nat.lt_of_lt_of_le (nvl _ _ _ _ _ _) HU3.out.size | exact Nat.lt_of_lt_of_le (nyl _ _ _ _ _ _) HU3.out.size); go_loud (first | exact nw0 _ _ _ | exact (HU3.out.cell (nvl _ _ _ _ _ _) (by simp)).trans (nv _ _ _ _ _ _) | exact (HU3.out.cell (nyl _ _ _ _ _ _) (by simp)).trans (ny _ _ _ _ _ _)); rintro e w4 ⟨a4, c4, rfl, hR4, hU4⟩; have uw4 : Hid (Upd [] w3 w4) := Upd.trans (by repeat (first | exact Upd.refl _ _ | refine Upd.drew ?_ | refine Upd.alloc ?_ _)) hU4; have HR4 : Hid (RowB (Pl B X.heap.size) (InB (Pl B X.heap.size) w4 (d + 1)) w4 a4 T) := hR4.weak (Nat.le_trans uw3.out.size (Upd.size (w := w3) (S := []) (by repeat (first | exact Upd.refl _ _ | refine Upd.drew ?_ | refine Upd.alloc ?_ _)))); clear hR4 hU4; have lx5 : w4.cell? ⟨w.heap.size + 1, 5, none⟩ = some (.slice ai I.length ci) := ((uw3.out.trans uw4.out).cell (p := ⟨w.heap.size + 1, 5, none⟩) hl1 (by simp)).trans x5; have lx6 : w4.cell? ⟨w.heap.size + 1, 6, none⟩ = some (.slice at' T.length ct) := ((uw3.out.trans uw4.out).cell (p := ⟨w.heap.size + 1, 6, none⟩) hl1 (by simp)).trans x6)
      | (go_at_call 50; go_loud (refine Calls.mono (HF1.out _ _ (by repeat (first | exact Upd.refl _ _ | refine Upd.drew ?_ | refine Upd.alloc ?_ _)) ?_ ?_ ?_) ?_); go_loud (first | exact ntl _ _ _ _ | exact nul _ _ _ _ _ _ | exact nyl0 _ _ _ _ _ _); go_loud (first | exact nt0 _ _ _ _ | exact nu0 _ _ _ _ _ _ | exact ny0 _ _ _ _ _ _); go_loud (first | exact nt1 _ _ _ _ | exact nu1 _ _ _ _ _ _ | exact ny1 _ _ _ _ _ _); rintro e w3 ⟨a3, c3, rfl, hR3, hU3⟩; have uw3 : Hid (Upd [] X w3) := Upd.trans (by repeat (first | exact Upd.refl _ _ | refine Upd.drew ?_ | refine Upd.alloc ?_ _)) hU3; have HR3 : Hid (RowB (Pl B X.heap.size) (InB (Pl B X.heap.size) w3 (d + 1)) w3 a3 (h :: I)) := hR3.weak (Upd.size (w := X) (S := []) (by repeat (first | exact Upd.refl _ _ | refine Upd.drew ?_ | refine Upd.alloc ?_ _))); have HU3 : Hid (Upd [] _ w3) := hU3; clear hR3 hU3; have kx5 : w3.cell? ⟨w.heap.size + 1, 5, none⟩ = some (.slice ai I.length ci) := (uw3.out.cell (p := ⟨w.heap.size + 1, 5, none⟩) hl1 (by simp)).trans x5; have kx6 : w3.cell? ⟨w.heap.size + 1, 6, none⟩ = some (.slice at' T.length ct) := (uw3.out.cell (p := ⟨w.heap.size + 1, 6, none⟩) hl1 (by simp)).trans x6))
  all_goals
    have hsX2 := HSX.out
    obtain ⟨W5, hW5, hT5, hin5, hU5⟩ := list_end B X.heap.size (d + 1) (w.heap.size + 1 + 1) (I.length + 1) c3 T.length c4 a3 a4 (h :: I) T w w5 (by simp) rfl (by omega) (by omega) hB (((HUX.out.trans uw3.out).trans uw4.out).trans uw5.out) HTX.out (RowB.upd (S := []) (uw4.out.trans uw5.out) (by simp) (fun b hb _ => hb) HR3.out) (RowB.upd (S := []) uw5.out (by simp) (fun b hb _ => hb) HR4.out)
    rw [← hW5]
    have HIN5 : Hid (InB (fun b => b < B ∨ w.heap.size ≤ b) W5 (d + 2) _ (consT h I T)) := hin5
    have HU5 : Hid (Upd [] w W5) := hU5
    clear z0 z1 z2 z3 z4 z5 z6 f0 f1 f2 f3 f4 f5 f6 hW5 hin5 hU5 x5 x6 kx5 kx6 lx5 lx6 mx5 mx6 hsX2
    go_wp2
    exact ret_T Tryz.results24 rfl _ _ rfl hT5 rfl ⟨_, rfl, rfl, HIN5.out, HU5.out⟩

end Go.Proofs.YtabknipgbmdipaaGreatDoor
