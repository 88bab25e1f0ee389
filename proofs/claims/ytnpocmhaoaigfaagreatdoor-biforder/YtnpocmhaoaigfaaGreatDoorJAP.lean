/- fitting and Cons of package term, of a list: by their contracts. -/
import Derived.Test.YtnpocmhaoaigfaaGreatDoorSplT

namespace Go.Proofs.YtnpocmhaoaigfaaGreatDoor
open Go.RowKit

def zeroC : List Value := [.int .u8 0, .bool false, .slice none 0 0, .string ⟨#[]⟩, .int .i64 0, .slice none 0 0, .slice none 0 0]

def fitC (t : Tm) (cs : List Value) : List Value := if okS t then cs else zeroC

set_option maxHeartbeats 4000000 in
set_option maxRecDepth 100000 in
theorem fitting_in (d : Nat) (w : World) (cs : List Value) (t : Tm) (h : In w d cs t) (hs : tsz t ≤ 1353245080330) :
    Calls Tryz.prog 133 #[.agg cs.toArray] w fun e w' => e = .returned (.agg (fitC t cs).toArray) ∧ Upd [] w w' := by
  have h7 := h.seven
  have hone := h.one
  have HR : Hid (∀ W, Upd [] w W → Calls Tryz.prog 7 #[.agg cs.toArray] W fun e w' => e = .returned (.bool (okS t)) ∧ Upd [] W w') := fun W hu => TRight_in d W cs t (In.mono hu _ _ _ h) hs
  obtain ⟨C, hC⟩ : ∃ C, C = cs.toArray := ⟨_, rfl⟩
  have HC : Hid (cs.toArray = C) := hC.symm
  rw [← hC] at h7 hone HR ⊢
  clear hC h hs
  have tb0 : Tb ((w.alloc (.cells C 26)).alloc (.cells #[.int .u8 0, .bool false, .slice none 0 0, .string ⟨#[]⟩, .int .i64 0, .slice none 0 0, .slice none 0 0] 26)) w.heap.size C := (Tb.new _ _ _ rfl).old _
  have tbz : Tb ((w.alloc (.cells C 26)).alloc (.cells #[.int .u8 0, .bool false, .slice none 0 0, .string ⟨#[]⟩, .int .i64 0, .slice none 0 0, .slice none 0 0] 26)) (w.heap.size + 1) #[.int .u8 0, .bool false, .slice none 0 0, .string ⟨#[]⟩, .int .i64 0, .slice none 0 0, .slice none 0 0] := Tb.new _ _ _ (by simp)
  have hU0 : Upd [] w ((w.alloc (.cells C 26)).alloc (.cells #[.int .u8 0, .bool false, .slice none 0 0, .string ⟨#[]⟩, .int .i64 0, .slice none 0 0, .slice none 0 0] 26)) := ((Upd.refl [] w).alloc _).alloc _
  have HU0 : Hid _ := hU0
  clear hU0
  go_enter Tryz.func133, Tryz.ntmps133
  go_wp2_with (first | (refine load_T _ rfl _ rfl _ _ rfl tb0 h7 ?_) | fail)
  refine Calls.mono (HR.out _ HU0.out) ?_
  rintro e w1 ⟨rfl, hU1⟩
  have tb1 := tb0.mono hU1 (by simp)
  have tbz1 := tbz.mono hU1 (by simp)
  have HU1 : Hid (Upd [] w w1) := HU0.out.trans hU1
  clear hU1 tb0 tbz HU0
  cases ht : okS t with
  | false =>
    go_wp2_with (refine store_V _ rfl _ _ rfl _ _ _ _ _ _ _ _ _ _ _ _ _ _ _ rfl rfl tbz1 rfl ?_; intro w2 hT2 hU2)
    exact ret_T Tryz.results133 rfl _ _ rfl hT2 rfl ⟨by unfold fitC; rw [ht]; rfl, HU1.out.then hU2 (by simp)⟩
  | true =>
    go_wp2_with (first | (refine load_T _ rfl _ rfl _ _ rfl tb1 h7 ?_) | (refine store_T _ rfl _ _ rfl _ C _ rfl rfl tbz1 rfl h7 hone ?_; intro w2 hT2 hU2))
    exact ret_T Tryz.results133 rfl _ _ rfl hT2 h7 ⟨by unfold fitC; rw [ht, if_pos rfl, HC.out], HU1.out.then hU2 (by simp)⟩

/-- fresh of two rows, the first one of one term. -/
theorem fresh_two (B b c c0 c1 d : Nat) (a0 a1 : Option Addr) (h : Tm) (I : List Tm) (Q0 Q1 : Nat → Prop) (w : World) (hb : b < w.heap.size) (hB : B ≤ w.heap.size) (hc0 : w.cell? ⟨b, 0, none⟩ = some (.slice a0 1 c0)) (hc1 : w.cell? ⟨b, 1, none⟩ = some (.slice a1 I.length c1))
    (hR0 : RowB Q0 (InB (fun b => b < B) w d) w a0 [h]) (hR1 : RowB Q1 (InB (fun b => b < B) w d) w a1 I) (hn : (h :: I).length + belR (h :: I) ≤ 65536) (hsz : tszs (h :: I) ≤ 1353245080330) :
    Calls Tryz.prog 50 #[.slice (some ⟨b, 0, none⟩) 2 c] w (FreshP B w d (h :: I)) := by
  obtain ⟨xs, hx, hxs⟩ := hR0.rd (fun cs t h => InB.one cs t h)
  obtain ⟨ys, hy, hys⟩ := hR1.rd (fun cs t h => InB.one cs t h)
  have two : ∀ i, i < 2 → i = 0 ∨ i = 1 := fun i hi => by omega
  refine fresh_any B b 0 2 c d [⟨a0, 1, c0, xs⟩, ⟨a1, I.length, c1, ys⟩] (h :: I) w rfl ⟨hb, fun i hi => ?_, fun i hi => ?_⟩ ⟨by simp [sumN]; omega, fun i hi => ?_⟩ hB (by simp) (by omega) (by omega) hsz
  · rcases two i hi with rfl | rfl
    · exact hc0
    · exact hc1
  · rcases two i hi with rfl | rfl
    · exact hx
    · exact hy
  · have hxl := hx.len
    simp only [List.length_cons, List.length_nil, Nat.zero_add, Nat.one_mul] at hxl
    cases i with
    | zero =>
      obtain ⟨cs, k1, k2, k3⟩ := hxs 0 (by simp)
      refine ⟨cs, k1, fun j hj => ?_, k3⟩
      have := k2 j hj
      simp only [catX, List.flatMap_cons, List.flatMap_nil, List.append_nil]
      rw [List.getElem?_append_left (by omega)]
      exact this
    | succ i =>
      obtain ⟨cs, k1, k2, k3⟩ := hys i (by simpa using hi)
      refine ⟨cs, k1, fun j hj => ?_, by simpa using k3⟩
      simp only [catX, List.flatMap_cons, List.flatMap_nil, List.append_nil]
      rw [List.getElem?_append_right (by omega), ← k2 j hj]
      congr 1
      omega

theorem nt0 (W : World) (v u : Value) (T : TypeId) : (W.alloc (.cells #[v, u] T)).cell? ⟨W.heap.size, 0, none⟩ = some v := cell_of_row _ _ 0 _ _ _ (heap_alloc_new W (.cells #[v, u] T))
theorem nt1 (W : World) (v u : Value) (T : TypeId) : (W.alloc (.cells #[v, u] T)).cell? ⟨W.heap.size, 1, none⟩ = some u := cell_of_row _ _ 1 _ _ _ (heap_alloc_new W (.cells #[v, u] T))
theorem ntl (W : World) (v u : Value) (T : TypeId) : W.heap.size < (W.alloc (.cells #[v, u] T)).heap.size := by simp
theorem nu0 (W : World) (v u x : Value) (T U : TypeId) : ((W.alloc (.cells #[v, u] T)).alloc (.cells #[x] U)).cell? ⟨W.heap.size, 0, none⟩ = some v := (((Upd.refl [] _).alloc (.cells #[x] U)).cell (p := ⟨W.heap.size, 0, none⟩) (ntl W v u T) (by simp)).trans (nt0 W v u T)
theorem nu1 (W : World) (v u x : Value) (T U : TypeId) : ((W.alloc (.cells #[v, u] T)).alloc (.cells #[x] U)).cell? ⟨W.heap.size, 1, none⟩ = some u := (((Upd.refl [] _).alloc (.cells #[x] U)).cell (p := ⟨W.heap.size, 1, none⟩) (ntl W v u T) (by simp)).trans (nt1 W v u T)
theorem nul (W : World) (v u x : Value) (T U : TypeId) : W.heap.size < ((W.alloc (.cells #[v, u] T)).alloc (.cells #[x] U)).heap.size := by simp; omega
theorem nv (W : World) (v u x : Value) (T U : TypeId) : ((W.alloc (.cells #[v, u] T)).alloc (.cells #[x] U)).cell? ⟨W.heap.size + 1, 0, none⟩ = some x := (FunB.new (W.alloc (.cells #[v, u] T)) x U _ (by simp)).cell
theorem nvl (W : World) (v u x : Value) (T U : TypeId) : W.heap.size + 1 < ((W.alloc (.cells #[v, u] T)).alloc (.cells #[x] U)).heap.size := by simp
theorem ny (W : World) (v u x : Value) (T U : TypeId) : ((W.alloc (.cells #[x] U)).alloc (.cells #[v, u] T)).cell? ⟨W.heap.size, 0, none⟩ = some x := ((FunB.new W x U _ rfl).mono ((Upd.refl [] _).alloc _) (by simp)).cell
theorem nyl (W : World) (v u x : Value) (T U : TypeId) : W.heap.size < ((W.alloc (.cells #[x] U)).alloc (.cells #[v, u] T)).heap.size := by simp; omega
theorem ny0 (W : World) (v u x : Value) (T U : TypeId) : ((W.alloc (.cells #[x] U)).alloc (.cells #[v, u] T)).cell? ⟨W.heap.size + 1, 0, none⟩ = some v := by have := nt0 (W.alloc (.cells #[x] U)) v u T; rwa [show (W.alloc (.cells #[x] U)).heap.size = W.heap.size + 1 by simp] at this
theorem ny1 (W : World) (v u x : Value) (T U : TypeId) : ((W.alloc (.cells #[x] U)).alloc (.cells #[v, u] T)).cell? ⟨W.heap.size + 1, 1, none⟩ = some u := by have := nt1 (W.alloc (.cells #[x] U)) v u T; rwa [show (W.alloc (.cells #[x] U)).heap.size = W.heap.size + 1 by simp] at this
theorem nyl0 (W : World) (v u x : Value) (T U : TypeId) : W.heap.size + 1 < ((W.alloc (.cells #[x] U)).alloc (.cells #[v, u] T)).heap.size := by simp

/-- A term ahead of a list. -/
def consT (h : Tm) (I T : List Tm) : Tm := .mk 7 0 false [] ⟨#[]⟩ (h :: I) T

end Go.Proofs.YtnpocmhaoaigfaaGreatDoor

/- Lists put together and parted, as plain mathematics. -/
namespace Go.Proofs.YtnpocmhaoaigfaaGreatDoor
open Go.RowKit

def zeroT : Tm := .mk 0 0 false [] ⟨#[]⟩ [] []
/-- A term ahead of another one. -/
def consI (h : Tm) : Tm → Tm
  | .mk k num neg L s I T => if k = 7 then consT h I T else consT h [] [.mk k num neg L s I T]
/-- What Cons tells. -/
def consS (h t : Tm) : Tm := if okS h && okS t && okS (consI h t) then consI h t else zeroT
/-- What a list has behind its first item. -/
def restT : Tm → Tm
  | .mk _ _ _ _ _ I T => if I.length ≤ 1 then T.headD nilT else .mk 7 0 false [] ⟨#[]⟩ (I.drop 1) T
def headT : Tm → Tm
  | .mk _ _ _ _ _ I _ => I.headD nilT
/-- A list that has items. -/
def splits : Tm → Bool
  | .mk k _ _ _ _ I _ => decide (k = 7) && decide (0 < I.length)

theorem consI_l (h : Tm) (num : Int) (neg : Bool) (L : List Nat) (s : ByteArray) (I T : List Tm) : consI h (.mk 7 num neg L s I T) = consT h I T := by rw [consI, if_pos rfl]
theorem consI_e (h : Tm) (k num : Int) (neg : Bool) (L : List Nat) (s : ByteArray) (I T : List Tm) (hk : ¬ k = 7) : consI h (.mk k num neg L s I T) = consT h [] [.mk k num neg L s I T] := by rw [consI, if_neg hk]
theorem okS_iff (t : Tm) : okS t = true ↔ okT' t = true ∧ szT t ≤ 4096 := by
  unfold okS
  rw [Bool.and_eq_true, decide_eq_true_eq]
theorem empty_bytes {s : ByteArray} (h : s.size = 0) : s = ⟨#[]⟩ := by
  obtain ⟨⟨l⟩⟩ := s
  cases l with
  | nil => rfl
  | cons x r => simp [ByteArray.size] at h
/-- A right list's fields. -/
theorem okF_list {num : Int} {neg : Bool} {L : List Nat} {s : ByteArray} {n : Nat} {T : List Tm} (h : okF 7 num neg L s n T = true) : num = 0 ∧ neg = false ∧ L = [] ∧ s = ⟨#[]⟩ ∧ (T = [] ∨ ∃ u, T = [u] ∧ 0 < n ∧ u.kd ≠ 7) := by
  unfold okF at h
  simp only [show ¬ ((7 : Int) = 1) by decide, show ¬ ((7 : Int) = 2) by decide, show ¬ ((7 : Int) = 3 ∨ (7 : Int) = 5) by decide, show ¬ ((7 : Int) = 4) by decide, show ¬ ((7 : Int) = 6) by decide, if_false, if_true, Bool.and_eq_true, decide_eq_true_eq] at h
  obtain ⟨⟨h1, h2⟩, ⟨h3, h4⟩, h5⟩ := h
  refine ⟨h4, h1, List.eq_nil_of_length_eq_zero h2, empty_bytes h3, ?_⟩
  match T, h5 with
  | [], _ => exact Or.inl rfl
  | [u], h5 =>
    simp only [Bool.and_eq_true, decide_eq_true_eq] at h5
    exact Or.inr ⟨u, rfl, h5.1, h5.2⟩
  | _ :: _ :: _, h5 => simp at h5
theorem okF_mk (n : Nat) (T : List Tm) (h : T = [] ∨ ∃ u, T = [u] ∧ 0 < n ∧ u.kd ≠ 7) : okF 7 0 false [] ⟨#[]⟩ n T = true := by
  rcases h with rfl | ⟨u, rfl, h1, h2⟩
  · rfl
  · unfold okF
    simp [h1, h2]
    rfl
/-- Two right terms, one ahead of the other, are right but for their size. -/
theorem cons_ok (h t : Tm) (hh : okT' h = true) (ht : okT' t = true) : okT' (consI h t) = true := by
  obtain ⟨k, num, neg, L, s, I, T⟩ := t
  by_cases hk : k = 7
  · subst hk
    rw [consI_l, consT, okT']
    rw [okT', Bool.and_eq_true, Bool.and_eq_true] at ht
    obtain ⟨_, _, _, _, hT⟩ := okF_list ht.1.1
    rw [okR, hh, ht.1.2, ht.2, okF_mk _ _ (by
      rcases hT with h | ⟨u, h1, _, h3⟩
      · exact Or.inl h
      · exact Or.inr ⟨u, h1, by simp, h3⟩)]
    rfl
  · rw [consI_e _ _ _ _ _ _ _ _ hk, consT, okT', okR, okR, okR, okR, hh, ht, okF_mk [h].length [.mk k num neg L s I T] (Or.inr ⟨.mk k num neg L s I T, rfl, by simp, hk⟩)]
    rfl
/-- How great they are. -/
theorem cons_sz (h t : Tm) : szT (consI h t) = szT h + szT t + (if t.kd = 7 then 1 else 2) := by
  obtain ⟨k, num, neg, L, s, I, T⟩ := t
  by_cases hk : k = 7
  · subst hk
    rw [consI_l]
    have e1 : ownZ 7 ([] : List Nat).length (h :: I).length = 1 + (I.length + 1) := rfl
    have e2 : ownZ 7 L.length I.length = 1 + I.length := rfl
    rw [consT, szT, szT, szR, e1, e2]
    simp only [Tm.kd, if_true]
    omega
  · rw [consI_e _ _ _ _ _ _ _ _ hk, consT, szT, szR, szR, szR, szR]
    have e1 : ownZ 7 ([] : List Nat).length [h].length = 2 := rfl
    rw [e1, show (Tm.mk k num neg L s I T).kd = k from rfl, if_neg hk]
    omega
theorem sz_pos (t : Tm) : 0 < szT t := by have := bel_lt t; omega
theorem cons_okS (h t : Tm) (hh : okS h = true) (ht : okS t = true) : okS (consI h t) = decide (szT h + szT t + (if t.kd = 7 then 1 else 2) ≤ 4096) := by
  rw [okS_iff] at hh ht
  unfold okS
  rw [cons_ok h t hh.1 ht.1, cons_sz]
  simp
theorem cons_kd (h t : Tm) : (consI h t).kd = 7 := by
  obtain ⟨k, num, neg, L, s, I, T⟩ := t
  by_cases hk : k = 7
  · subst hk; rw [consI_l, consT]; simp [Tm.kd]
  · rw [consI_e _ _ _ _ _ _ _ _ hk, consT]; simp [Tm.kd]
theorem cons_splits (h t : Tm) : splits (consI h t) = true := by
  obtain ⟨k, num, neg, L, s, I, T⟩ := t
  by_cases hk : k = 7
  · subst hk; rw [consI_l, consT]; simp [splits]
  · rw [consI_e _ _ _ _ _ _ _ _ hk, consT]; simp [splits]
theorem cons_head (h t : Tm) : headT (consI h t) = h := by
  obtain ⟨k, num, neg, L, s, I, T⟩ := t
  by_cases hk : k = 7
  · subst hk; rw [consI_l, consT]; simp [headT]
  · rw [consI_e _ _ _ _ _ _ _ _ hk, consT]; simp [headT]
theorem cons_rest (h t : Tm) (ht : okT' t = true) : restT (consI h t) = t := by
  obtain ⟨k, num, neg, L, s, I, T⟩ := t
  by_cases hk : k = 7
  · subst hk
    rw [okT', Bool.and_eq_true, Bool.and_eq_true] at ht
    obtain ⟨rfl, rfl, rfl, rfl, hT⟩ := okF_list ht.1.1
    rw [consI_l, consT, restT]
    cases I with
    | nil =>
      rcases hT with rfl | ⟨u, rfl, h1, _⟩
      · rfl
      · simp at h1
    | cons x r => simp
  · rw [consI_e _ _ _ _ _ _ _ _ hk, consT, restT]
    simp
/-- A right list parted: both are right, and put together they are the list. -/
theorem parts_ok (t : Tm) (ht : okS t = true) (hs : splits t = true) : okS (headT t) = true ∧ okS (restT t) = true ∧ consI (headT t) (restT t) = t := by
  obtain ⟨k, num, neg, L, s, I, T⟩ := t
  rw [okS_iff] at ht
  unfold splits at hs
  rw [Bool.and_eq_true, decide_eq_true_eq, decide_eq_true_eq] at hs
  obtain ⟨rfl, hI⟩ := hs
  obtain ⟨ht, hz⟩ := ht
  rw [okT', Bool.and_eq_true, Bool.and_eq_true] at ht
  obtain ⟨rfl, rfl, rfl, rfl, hT⟩ := okF_list ht.1.1
  cases I with
  | nil => simp at hI
  | cons x r =>
    rw [szT, szR, List.length_cons] at hz
    have hr := ht.1.2
    rw [okR, Bool.and_eq_true] at hr
    have ho : ownZ 7 ([] : List Nat).length (r.length + 1) = 1 + (r.length + 1) := rfl
    rw [ho] at hz
    refine ⟨?_, ?_, ?_⟩
    · rw [okS_iff]; exact ⟨hr.1, by simp only [headT, List.headD_cons]; omega⟩
    · rw [okS_iff, restT]
      cases r with
      | nil =>
        rw [if_pos (by simp)]
        rcases hT with rfl | ⟨u, rfl, h1, h2⟩
        · exact ⟨rfl, by decide⟩
        · have h3 := ht.2
          rw [okR, Bool.and_eq_true] at h3
          rw [szR, szR, szR] at hz
          exact ⟨h3.1, by simp only [List.headD_cons]; omega⟩
      | cons y q =>
        rw [if_neg (by simp), okT', List.drop_one, List.tail_cons, hr.2, ht.2, okF_mk _ _ (by
          rcases hT with h | ⟨u, h1, _, h3⟩
          · exact Or.inl h
          · exact Or.inr ⟨u, h1, by simp, h3⟩)]
        refine ⟨rfl, ?_⟩
        rw [szT]
        have ho2 : ownZ 7 ([] : List Nat).length (y :: q).length = 1 + (y :: q).length := rfl
        rw [ho2]
        omega
    · rw [restT, headT]
      cases r with
      | nil =>
        rw [if_pos (by simp)]
        rcases hT with rfl | ⟨u, rfl, h1, h2⟩
        · rfl
        · obtain ⟨k, num, neg, L, s, I, T⟩ := u
          simp only [List.headD_cons]
          rw [consI_e _ _ _ _ _ _ _ _ (show ¬ k = 7 from h2)]
          rfl
      | cons y q =>
        rw [if_neg (by simp)]
        simp only [List.headD_cons, List.drop_one, List.tail_cons]
        rw [consI_l]
        rfl

end Go.Proofs.YtnpocmhaoaigfaaGreatDoor

/- Cons of package term, of whatever two terms: by its contract. -/
namespace Go.Proofs.YtnpocmhaoaigfaaGreatDoor
open Go.RowKit

theorem cellA {W : World} {p : Addr} {v : Value} (h : W.cell? p = some v) (o : Obj) : (W.alloc o).cell? p = some v := (((Upd.refl [] W).alloc o).cell (World.block_lt_of_cell? _ _ h) (by simp)).trans h
theorem cellD {W : World} {p : Addr} {v : Value} (h : W.cell? p = some v) : W.drew.cell? p = some v := (((Upd.refl [] W).drew).cell (World.block_lt_of_cell? _ _ h) (by simp)).trans h
theorem cellU {W W' : World} {p : Addr} {v : Value} (hu : Upd [] W W') (h : W.cell? p = some v) : W'.cell? p = some v := (hu.cell (World.block_lt_of_cell? _ _ h) (by simp)).trans h
theorem Upd.wid {S : List Nat} {a b : World} (h : Upd [] a b) : Upd S a b := ⟨h.os, h.tape, h.output, h.size, fun k hk _ => h.block k hk (by simp)⟩
theorem cellN {W : World} {v : Value} (T : TypeId) {g : Nat} (h : g = W.heap.size) : (W.alloc (.cells #[v] T)).cell? ⟨g, 0, none⟩ = some v := by subst h; exact nw0 W v T
theorem cellN2 {W : World} {v : Value} (u : Value) (T : TypeId) {g : Nat} (h : g = W.heap.size) : (W.alloc (.cells #[v, u] T)).cell? ⟨g, 0, none⟩ = some v := by subst h; exact nt0 W v u T
theorem cellN2b {W : World} {u : Value} (v : Value) (T : TypeId) {g : Nat} (h : g = W.heap.size) : (W.alloc (.cells #[v, u] T)).cell? ⟨g, 1, none⟩ = some u := by subst h; exact nt1 W v u T

/-- fresh of two rows, the first one of one term. -/
theorem fresh_twoC (B b c c0 c1 d : Nat) (a0 a1 : Option Addr) (h : Tm) (I : List Tm) (Q0 Q1 : Nat → Prop) (w : World) (hb : b < w.heap.size) (hB : B ≤ w.heap.size) (hc0 : w.cell? ⟨b, 0, none⟩ = some (.slice a0 1 c0)) (hc1 : w.cell? ⟨b, 1, none⟩ = some (.slice a1 I.length c1))
    (hR0 : RowB Q0 (InB (fun b => b < B) w d) w a0 [h]) (hR1 : RowB Q1 (InB (fun b => b < B) w d) w a1 I) (hn : (h :: I).length + belR (h :: I) ≤ 65536) (hsz : tszs (h :: I) ≤ 1353245080330) :
    Calls Tryz.prog 50 #[.slice (some ⟨b, 0, none⟩) 2 c] w (FreshC B w d (h :: I)) := by
  obtain ⟨xs, hx, hxs⟩ := hR0.rd (fun cs t h => InB.one cs t h)
  obtain ⟨ys, hy, hys⟩ := hR1.rd (fun cs t h => InB.one cs t h)
  have two : ∀ i, i < 2 → i = 0 ∨ i = 1 := fun i hi => by omega
  refine fresh_anyC B b 0 2 c d [⟨a0, 1, c0, xs⟩, ⟨a1, I.length, c1, ys⟩] (h :: I) w rfl ⟨hb, fun i hi => ?_, fun i hi => ?_⟩ ⟨by simp [sumN]; omega, fun i hi => ?_⟩ hB (by simp) (by omega) (by omega) hsz
  · rcases two i hi with rfl | rfl
    · exact hc0
    · exact hc1
  · rcases two i hi with rfl | rfl
    · exact hx
    · exact hy
  · have hxl := hx.len
    simp only [List.length_cons, List.length_nil, Nat.zero_add, Nat.one_mul] at hxl
    cases i with
    | zero =>
      obtain ⟨cs, k1, k2, k3⟩ := hxs 0 (by simp)
      refine ⟨cs, k1, fun j hj => ?_, k3⟩
      have := k2 j hj
      simp only [catX, List.flatMap_cons, List.flatMap_nil, List.append_nil]
      rw [List.getElem?_append_left (by omega)]
      exact this
    | succ i =>
      obtain ⟨cs, k1, k2, k3⟩ := hys i (by simpa using hi)
      refine ⟨cs, k1, fun j hj => ?_, by simpa using k3⟩
      simp only [catX, List.flatMap_cons, List.flatMap_nil, List.append_nil]
      rw [List.getElem?_append_right (by omega), ← k2 j hj]
      congr 1
      omega

/-- What stands, if it fits; zero, if not. -/
def fk (b : Bool) : Int := if b then 7 else 0
def fa (b : Bool) (a : Option Addr) : Option Addr := if b then a else none
def fn (b : Bool) (n : Nat) : Nat := if b then n else 0
theorem fit_gen (d a3n c3 a4n c4 : Nat) (a3 a4 : Option Addr) (V : World) (t : Tm) (b : Bool) (hb : okS t = b) (hin : In V d [.int .u8 7, .bool false, .slice none 0 0, .string ⟨#[]⟩, .int .i64 0, .slice a3 a3n c3, .slice a4 a4n c4] t) (hz : tsz t ≤ 1353245080330) :
    Calls Tryz.prog 133 #[.agg #[.int .u8 7, .bool false, .slice none 0 0, .string ⟨#[]⟩, .int .i64 0, .slice a3 a3n c3, .slice a4 a4n c4]] V fun e w' => e = .returned (.agg #[.int .u8 (fk b), .bool false, .slice none 0 0, .string ⟨#[]⟩, .int .i64 0, .slice (fa b a3) (fn b a3n) (fn b c3), .slice (fa b a4) (fn b a4n) (fn b c4)]) ∧ Upd [] V w' := by
  have := fitting_in d V _ t hin hz
  unfold fitC at this
  rw [hb] at this
  cases b
  · exact this
  · exact this
/-- How much room a list's row of items has. -/
def CapC (cs : List Value) : Prop := ∃ a n c, cs[5]? = some (.slice a n c) ∧ n ≤ c ∧ c ≤ 9223372036854775807
/-- That term, or a zero one. -/
def pickT (b : Bool) (t : Tm) : Tm := if b then t else zeroT
/-- What Cons answers. -/
def ConsP (w : World) (d : Nat) (t : Tm) (e : Ending) (w' : World) : Prop := ∃ cs : List Value, cs.length = 7 ∧ e = .returned (.agg cs.toArray) ∧ In w' d cs t ∧ CapC cs ∧ Upd [] w w'
theorem zero_in (w : World) (d : Nat) : In w (d + 1) zeroC zeroT := ⟨none, none, none, 0, 0, 0, rfl, At.nil _ _, Dig.nil, Or.inl rfl, Or.inl rfl⟩
theorem cons_end (B lo d g n3 c3 n4 c4 : Nat) (a3 a4 : Option Addr) (t : Tm) (b : Bool) (w w5 : World) (hg0 : w.heap.size ≤ g) (hg : g < lo) (hB : B ≤ w.heap.size) (hu : Upd [] w w5) (ht : Tb w5 g #[.int .u8 0, .bool false, .slice none 0 0, .string ⟨#[]⟩, .int .i64 0, .slice none 0 0, .slice none 0 0]) (h3 : n3 ≤ c3) (h3' : c3 ≤ 9223372036854775807) (hin : InB (Pl B lo) w5 (d + 1) [.int .u8 7, .bool false, .slice none 0 0, .string ⟨#[]⟩, .int .i64 0, .slice a3 n3 c3, .slice a4 n4 c4] t) :
    ∃ W5, W5 = ((((((w5.setCell ⟨g, 0, none⟩ (.int .u8 (fk b))).setCell ⟨g, 1, none⟩ (.bool false)).setCell ⟨g, 2, none⟩ (.slice none 0 0)).setCell ⟨g, 3, none⟩ (.string ⟨#[]⟩)).setCell ⟨g, 4, none⟩ (.int .i64 0)).setCell ⟨g, 5, none⟩ (.slice (fa b a3) (fn b n3) (fn b c3))).setCell ⟨g, 6, none⟩ (.slice (fa b a4) (fn b n4) (fn b c4)) ∧ Tb W5 g #[.int .u8 (fk b), .bool false, .slice none 0 0, .string ⟨#[]⟩, .int .i64 0, .slice (fa b a3) (fn b n3) (fn b c3), .slice (fa b a4) (fn b n4) (fn b c4)] ∧ ∀ S' : World, S' = W5 → ConsP w (d + 1) (pickT b t) (.returned (.agg #[.int .u8 (fk b), .bool false, .slice none 0 0, .string ⟨#[]⟩, .int .i64 0, .slice (fa b a3) (fn b n3) (fn b c3), .slice (fa b a4) (fn b n4) (fn b c4)])) S' := by
  obtain ⟨W5, h1, h2, h3u⟩ := set7 w5 g #[.int .u8 0, .bool false, .slice none 0 0, .string ⟨#[]⟩, .int .i64 0, .slice none 0 0, .slice none 0 0] (.int .u8 (fk b)) (.bool false) (.slice none 0 0) (.string ⟨#[]⟩) (.int .i64 0) (.slice (fa b a3) (fn b n3) (fn b c3)) (.slice (fa b a4) (fn b n4) (fn b c4)) ht rfl
  refine ⟨W5, h1, h2, fun S' hS' => ?_⟩
  subst hS'
  have hU5 : Upd [] w S' := hu.then h3u (fun x hx => by simp at hx; subst hx; exact Or.inl hg0)
  refine ⟨_, rfl, rfl, ?_, ⟨_, _, _, rfl, ?_, ?_⟩, hU5⟩
  · cases b with
    | false => exact zero_in _ _
    | true =>
      rw [pickT, if_pos rfl]
      refine InB.plain _ _ _ (InB.upd (Q := fun _ => True) h3u (fun b hb hm => ?_) (fun _ _ _ => trivial) _ _ _ hin)
      simp at hm
      subst hm
      rcases hb with hb | hb
      · omega
      · omega
  · cases b <;> simp [fn]; exact h3
  · cases b <;> simp [fn]; exact h3'

end Go.Proofs.YtnpocmhaoaigfaaGreatDoor

/- Cons of a term and a list. -/
namespace Go.Proofs.YtnpocmhaoaigfaaGreatDoor
open Go.RowKit

end Go.Proofs.YtnpocmhaoaigfaaGreatDoor

/- Cons of a term and what is no list; of whatever two terms. -/
namespace Go.Proofs.YtnpocmhaoaigfaaGreatDoor
open Go.RowKit

end Go.Proofs.YtnpocmhaoaigfaaGreatDoor
