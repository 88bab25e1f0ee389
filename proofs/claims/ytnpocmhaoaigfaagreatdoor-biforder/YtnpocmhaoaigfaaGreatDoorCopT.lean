/- Copy of package term, by its contract. -/
import Derived.Test.YtnpocmhaoaigfaaGreatDoorFrsG
namespace Go.Proofs.YtnpocmhaoaigfaaGreatDoor
open Go.RowKit

/-- A term is answered, that stands for this tree. -/
def TermP (B : Nat) (w : World) (d : Nat) (t : Tm) (e : Ending) (w' : World) : Prop := ∃ cs : List Value, cs.length = 7 ∧ e = .returned (.agg cs.toArray) ∧ InB (fun b => b < B ∨ w.heap.size ≤ b) w' d cs t ∧ Upd [] w w'

theorem RowB.plain {P : Nat → Prop} {w : World} {d : Nat} {a : Option Addr} {I : List Tm} (h : RowB P (InB P w d) w a I) : RowAt (In w d) w a I := by
  rcases h with h | ⟨b, o, e, _, hlt, hc⟩
  · exact Or.inl h
  · refine Or.inr ⟨b, o, e, hlt, fun i hi => ?_⟩
    obtain ⟨cs, k1, k2, k3⟩ := hc i hi
    exact ⟨cs, k1, k2, InB.plain _ _ _ k3⟩
/-- The cells of a row of trees. -/
theorem RowB.rd {R : List Value → Tm → Prop} {P : Nat → Prop} {w : World} {a : Option Addr} {I : List Tm} (hone : ∀ cs t, R cs t → ∀ u ∈ cs, u.oneCell' = true) (h : RowB P R w a I) : ∃ xs, Rd w a I.length 7 xs ∧ ∀ i (hi : i < I.length), ∃ cs : List Value, cs.length = 7 ∧ (∀ j, j < 7 → xs[i * 7 + j]? = cs[j]?) ∧ R cs I[i] := by
  by_cases h0 : I = []
  · subst h0
    exact ⟨[], ⟨rfl, fun _ => rfl, fun u hu => by simp at hu, fun ad _ j u hj => by simp at hj⟩, fun i hi => by simp at hi⟩
  rcases h with h | ⟨b, o, rfl, _, hlt, hc⟩
  · exact absurd h h0
  have key : ∀ n, n ≤ I.length → ∃ xs : List Value, xs.length = n * 7 ∧ (∀ j u, xs[j]? = some u → w.cell? ⟨b, o + j, none⟩ = some u) ∧ (∀ u ∈ xs, u.oneCell' = true) ∧ ∀ i (hi : i < I.length), i < n → ∃ cs : List Value, cs.length = 7 ∧ (∀ j, j < 7 → xs[i * 7 + j]? = cs[j]?) ∧ R cs I[i] := by
    intro n
    induction n with
    | zero => intro _; exact ⟨[], rfl, fun j u hj => by simp at hj, fun u hu => by simp at hu, fun i _ hi => by omega⟩
    | succ n ih =>
      intro hn
      obtain ⟨xs, h1, h2, h3, h4⟩ := ih (by omega)
      obtain ⟨cs, k1, k2, k3⟩ := hc n (by omega)
      refine ⟨xs ++ cs, by rw [List.length_append, h1, k1]; omega, fun j u hj => ?_, fun u hu => ?_, fun i hi hin => ?_⟩
      · by_cases hjx : j < xs.length
        · rw [List.getElem?_append_left hjx] at hj; exact h2 j u hj
        · rw [List.getElem?_append_right (by omega)] at hj
          have hj7 : j - xs.length < 7 := by
            have := (List.getElem?_eq_some_iff.1 hj).1
            omega
          have := k2 (j - xs.length) hj7
          rw [hj] at this
          have e : o + (n * 7 + (j - xs.length)) = o + j := by omega
          rw [e] at this
          exact this
      · rcases List.mem_append.1 hu with hu | hu
        · exact h3 u hu
        · exact hone _ _ k3 u hu
      · by_cases hi2 : i < n
        · obtain ⟨cs2, m1, m2, m3⟩ := h4 i hi hi2
          exact ⟨cs2, m1, fun j hj => by rw [List.getElem?_append_left (by omega)]; exact m2 j hj, m3⟩
        · have e : i = n := by omega
          subst e
          exact ⟨cs, k1, fun j hj => by rw [List.getElem?_append_right (by omega)]; congr 1; omega, k3⟩
  obtain ⟨xs, h1, h2, h3, h4⟩ := key I.length (Nat.le_refl _)
  refine ⟨xs, ⟨h1, fun e => (by cases e), h3, fun ad e j u hj => ?_⟩, fun i hi => h4 i hi hi⟩
  cases e
  rw [Addr.add_lit]
  exact h2 j u hj
theorem InB.one {P : Nat → Prop} {w : World} {d : Nat} (cs : List Value) (t : Tm) (h : InB P w d cs t) : ∀ u ∈ cs, u.oneCell' = true := by
  have := (InB.plain _ _ _ h).one
  simp only [List.all_toArray, List.all_eq_true] at this
  exact this

/-- fresh of one row. -/
theorem fresh_oneC (B b o c c' d : Nat) (Q : Nat → Prop) (a : Option Addr) (I : List Tm) (w : World) (hb : b < w.heap.size) (hB : B ≤ w.heap.size) (hc : w.cell? ⟨b, o, none⟩ = some (.slice a I.length c')) (hR : RowB Q (InB (fun b => b < B) w d) w a I) (hn : I.length + belR I ≤ 65536) (hsz : tszs I ≤ 1353245080330) :
    Calls Tryz.prog 50 #[.slice (some ⟨b, o, none⟩) 1 c] w (FreshC B w d I) := by
  obtain ⟨xs, hx, hxs⟩ := hR.rd (fun cs t h => InB.one cs t h)
  refine fresh_anyC B b o 1 c d [⟨a, I.length, c', xs⟩] I w rfl ⟨hb, fun i hi => ?_, fun i hi => ?_⟩ ⟨by simp [sumN], fun i hi => ?_⟩ hB (by simp) (by omega) (by omega) hsz
  · have e : i = 0 := by simp at hi; exact hi
    subst e
    exact hc
  · have e : i = 0 := by simp at hi; exact hi
    subst e
    exact hx
  · obtain ⟨cs, k1, k2, k3⟩ := hxs i hi
    exact ⟨cs, k1, fun j hj => by simpa [catX] using k2 j hj, k3⟩
theorem fresh_one (B b o c c' d : Nat) (Q : Nat → Prop) (a : Option Addr) (I : List Tm) (w : World) (hb : b < w.heap.size) (hB : B ≤ w.heap.size) (hc : w.cell? ⟨b, o, none⟩ = some (.slice a I.length c')) (hR : RowB Q (InB (fun b => b < B) w d) w a I) (hn : I.length + belR I ≤ 65536) (hsz : tszs I ≤ 1353245080330) :
    Calls Tryz.prog 50 #[.slice (some ⟨b, o, none⟩) 1 c] w (FreshP B w d I) := (fresh_oneC B b o c c' d Q a I w hb hB hc hR hn hsz).mono fun _ _ h => h.p
theorem Tb.row {R : List Value → Tm → Prop} {w : World} {g : Nat} {cs : List Value} {t : Tm} (h : Tb w g cs.toArray) (h7 : cs.length = 7) (hin : R cs t) : RowB (fun _ => True) R w (some ⟨g, 0, none⟩) [t] :=
  Or.inr ⟨g, 0, rfl, trivial, h.lt, fun i hi => by
    have e : i = 0 := by simp at hi; exact hi
    subst e
    exact ⟨cs, h7, fun j hj => by rw [Nat.zero_mul, Nat.zero_add, Nat.zero_add, h.cell j]; simp, hin⟩⟩
theorem In.len {w : World} {d : Nat} {cs : List Value} {t : Tm} (h : In w d cs t) : cs.length = 7 := by have := h.seven; simpa using this

set_option maxHeartbeats 4000000 in
set_option maxRecDepth 100000 in
theorem Copy_in (B d : Nat) (w : World) (cs : List Value) (t : Tm) (hB : B ≤ w.heap.size) (h' : InB (fun b => b < B) w d cs t) (hs : tsz t ≤ 1353245080330) (hb : belT t ≤ 60000) :
    Calls Tryz.prog 28 #[.agg cs.toArray] w (TermP B w d t) := by
  have h := InB.plain _ _ _ h'
  have hone := h.one
  have hl7 := h.len
  obtain ⟨q0, q1, q2, q3, q4, q5, q6, rfl⟩ := list7 hl7
  have HIN : Hid (InB (fun b => b < B) w d [q0, q1, q2, q3, q4, q5, q6] t) := h'
  have tb0 : Tb ((w.alloc (.cells #[q0, q1, q2, q3, q4, q5, q6] 26)).alloc (.cells #[.int .u8 0, .bool false, .slice none 0 0, .string ⟨#[]⟩, .int .i64 0, .slice none 0 0, .slice none 0 0] 26)) w.heap.size #[q0, q1, q2, q3, q4, q5, q6] := (Tb.new _ _ _ rfl).old _
  have tbz : Tb ((w.alloc (.cells #[q0, q1, q2, q3, q4, q5, q6] 26)).alloc (.cells #[.int .u8 0, .bool false, .slice none 0 0, .string ⟨#[]⟩, .int .i64 0, .slice none 0 0, .slice none 0 0] 26)) (w.heap.size + 1) #[.int .u8 0, .bool false, .slice none 0 0, .string ⟨#[]⟩, .int .i64 0, .slice none 0 0, .slice none 0 0] := Tb.new _ _ _ (by simp)
  have hU0 : Upd [] w ((w.alloc (.cells #[q0, q1, q2, q3, q4, q5, q6] 26)).alloc (.cells #[.int .u8 0, .bool false, .slice none 0 0, .string ⟨#[]⟩, .int .i64 0, .slice none 0 0, .slice none 0 0] 26)) := ((Upd.refl [] w).alloc _).alloc _
  have HS : Hid (tszs [t] ≤ 1353245080330 ∧ belR [t] ≤ 60000) := ⟨by simp only [tszs, List.length_nil]; omega, by simp only [belR]; omega⟩
  have HONE : Hid _ := hone
  clear h h' hs hb hl7
  obtain ⟨W, hW⟩ : ∃ W, W = (w.alloc (.cells #[q0, q1, q2, q3, q4, q5, q6] 26)).alloc (.cells #[.int .u8 0, .bool false, .slice none 0 0, .string ⟨#[]⟩, .int .i64 0, .slice none 0 0, .slice none 0 0] 26) := ⟨_, rfl⟩
  go_enter Tryz.func28, Tryz.ntmps28
  go_wp2_with (first | (refine load_T _ rfl _ rfl _ _ rfl tb0 rfl ?_) | fail)
  rw [← hW] at tb0 tbz hU0 ⊢
  have hsW : W.heap.size = w.heap.size + 1 + 1 := by rw [hW]; simp
  have hU1 : Upd [] W ((W.alloc (.cells #[q0, q1, q2, q3, q4, q5, q6] 26)).alloc (.cells #[.slice (some ⟨w.heap.size + 1 + 1, 0, none⟩) 1 1] 24)) := ((Upd.refl [] W).alloc _).alloc _
  have tb1 : Tb ((W.alloc (.cells #[q0, q1, q2, q3, q4, q5, q6] 26)).alloc (.cells #[.slice (some ⟨w.heap.size + 1 + 1, 0, none⟩) 1 1] 24)) (w.heap.size + 1 + 1) #[q0, q1, q2, q3, q4, q5, q6] := (Tb.new _ _ _ hsW.symm).old _
  have hf := FunB.new (W.alloc (.cells #[q0, q1, q2, q3, q4, q5, q6] 26)) (.slice (some ⟨w.heap.size + 1 + 1, 0, none⟩) 1 1) 24 (w.heap.size + 1 + 1 + 1) (by simp [hsW])
  have hU2 := hU0.trans hU1
  have HSZ : Hid (((W.alloc (.cells #[q0, q1, q2, q3, q4, q5, q6] 26)).alloc (.cells #[.slice (some ⟨w.heap.size + 1 + 1, 0, none⟩) 1 1] 24)).heap.size = w.heap.size + 4) := by show _ = _; simp [hsW]
  have hrow := Tb.row (cs := [q0, q1, q2, q3, q4, q5, q6]) tb1 rfl (InB.upd hU2 (by simp) (fun b hb _ => hb) _ _ _ HIN.out)
  refine Calls.mono (fresh_one B (w.heap.size + 1 + 1 + 1) 0 1 1 d _ (some ⟨w.heap.size + 1 + 1, 0, none⟩) [t] _ hf.lt (Nat.le_trans hB hU2.size) hf.cell hrow (by have := HS.out.2; simp; omega) HS.out.1) ?_
  rintro e w3 ⟨a3, c3, rfl, hR3, hU3⟩
  simp only [List.length_cons, List.length_nil, Nat.zero_add]
  rcases hR3 with h0 | ⟨b3, o3, rfl, _, hlt3, hc3⟩
  · cases h0
  obtain ⟨cs3, k1, k2, k3⟩ := hc3 0 (by simp)
  have hone3 := (InB.plain _ _ _ k3).one
  obtain ⟨p0, p1, p2, p3, p4, p5, p6, rfl⟩ := list7 k1
  have HIN3 : Hid (InB _ w3 d [p0, p1, p2, p3, p4, p5, p6] t) := k3
  have HU3 : Hid (Upd [] w w3) := hU2.trans hU3
  have tbz3 := (tbz.mono hU1 (by simp)).mono hU3 (by simp)
  have x0 : w3.cell? ⟨b3, o3, none⟩ = some p0 := by have := k2 0 (by omega); simpa using this
  have x1 : w3.cell? ⟨b3, o3 + 1, none⟩ = some p1 := by have := k2 1 (by omega); simpa using this
  have x2 : w3.cell? ⟨b3, o3 + 2, none⟩ = some p2 := by have := k2 2 (by omega); simpa using this
  have x3 : w3.cell? ⟨b3, o3 + 3, none⟩ = some p3 := by have := k2 3 (by omega); simpa using this
  have x4 : w3.cell? ⟨b3, o3 + 4, none⟩ = some p4 := by have := k2 4 (by omega); simpa using this
  have x5 : w3.cell? ⟨b3, o3 + 5, none⟩ = some p5 := by have := k2 5 (by omega); simpa using this
  have x6 : w3.cell? ⟨b3, o3 + 6, none⟩ = some p6 := by have := k2 6 (by omega); simpa using this
  clear hc3 k2 k3 hrow hf tb1 tb0 hU1 hU2 hU3 hU0 tbz hW hsW
  go_wp2_with (refine store_T _ rfl _ _ rfl _ #[p0, p1, p2, p3, p4, p5, p6] _ rfl rfl tbz3 rfl rfl hone3 ?_; intro w4 hT4 hU4)
  have hin4 : InB (fun b => b < B ∨ w.heap.size ≤ b) w4 d [p0, p1, p2, p3, p4, p5, p6] t := by
    refine InB.upd hU4 (fun b hb hm => ?_) (fun b hb _ => ?_) _ _ _ HIN3.out
    · simp at hm
      subst hm
      rcases hb with hb | ⟨hb, _⟩
      · simp only at hb; omega
      · rw [HSZ.out] at hb; simp only at hb; omega
    · rcases hb with hb | ⟨hb, _⟩
      · exact Or.inl hb
      · rw [HSZ.out] at hb; simp only at hb; exact Or.inr (by omega)
  exact ret_T Tryz.results28 rfl _ _ rfl hT4 rfl ⟨[p0, p1, p2, p3, p4, p5, p6], rfl, rfl, hin4, HU3.out.then hU4 (by simp)⟩

end Go.Proofs.YtnpocmhaoaigfaaGreatDoor
