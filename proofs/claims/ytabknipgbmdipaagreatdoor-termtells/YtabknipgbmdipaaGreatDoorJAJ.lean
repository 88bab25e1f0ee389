/- Copy of package term, by its contract. -/
import Derived.Test.YtabknipgbmdipaaGreatDoorFrsG
import Derived.Deep.RegionHeld3

namespace Go.Proofs.YtabknipgbmdipaaGreatDoor
open Go.RowKit

/-- A term is answered, that stands for this tree. -/
def TermP (B : Nat) (w : World) (d : Nat) (t : Tm) (e : Ending) (w' : World) : Prop := ∃ cs : List Value, cs.length = 7 ∧ e = .returned (.agg cs.toArray) ∧ InB (fun b => b < B ∨ w.heap.size ≤ b) w' d cs t ∧ Upd [] w w'

theorem RowB.plain {P : Nat → Prop} {w : World} {d : Nat} {a : Option Addr} {I : List Tm} (h : RowB P (InB P w d) w a I) : RowAt (In w d) w a I := by
  rcases h with h | ⟨b, o, e, _, hlt, hc⟩
  · exact Or.inl h
  · refine Or.inr ⟨b, o, e, hlt, fun i hi => ?_⟩
    obtain ⟨cs, k1, k2, k3⟩ := hc i hi
    exact ⟨cs, k1, k2, InB.plain _ _ _ k3⟩
/-- The cells of a row of trees. -/
theorem RowB.rd {R : List Value → Tm → Prop} {P : Nat → Prop} {w : World} {a : Option Addr} {I : List Tm} (hone : ∀ cs t, R cs t → ∀ u ∈ cs, u.oneCell' = true) (h : RowB P R w a I) : ∃ xs, Rd w a I.length 7 xs ∧ ∀ i (hi : i < I.length), ∃ cs : List Value, cs.length = 7 ∧ (∀ j, j < 7 → xs[i * 7 + j]? = cs[j]?) ∧ R cs I[i] := by
  by_cases h0 : I = []
  · subst h0
    exact ⟨[], ⟨rfl, fun _ => rfl, fun u hu => by simp at hu, fun ad _ j u hj => by simp at hj⟩, fun i hi => by simp at hi⟩
  rcases h with h | ⟨b, o, rfl, _, hlt, hc⟩
  · exact absurd h h0
  have key : ∀ n, n ≤ I.length → ∃ xs : List Value, xs.length = n * 7 ∧ (∀ j u, xs[j]? = some u → w.cell? ⟨b, o + j, none⟩ = some u) ∧ (∀ u ∈ xs, u.oneCell' = true) ∧ ∀ i (hi : i < I.length), i < n → ∃ cs : List Value, cs.length = 7 ∧ (∀ j, j < 7 → xs[i * 7 + j]? = cs[j]?) ∧ R cs I[i] := by
    intro n
    induction n with
    | zero => intro _; exact ⟨[], rfl, fun j u hj => by simp at hj, fun u hu => by simp at hu, fun i _ hi => by omega⟩
    | succ n ih =>
      intro hn
      obtain ⟨xs, h1, h2, h3, h4⟩ := ih (by omega)
      obtain ⟨cs, k1, k2, k3⟩ := hc n (by omega)
      refine ⟨xs ++ cs, by rw [List.length_append, h1, k1]; omega, fun j u hj => ?_, fun u hu => ?_, fun i hi hin => ?_⟩
      · by_cases hjx : j < xs.length
        · rw [List.getElem?_append_left hjx] at hj; exact h2 j u hj
        · rw [List.getElem?_append_right (by omega)] at hj
          have hj7 : j - xs.length < 7 := by
            have := (List.getElem?_eq_some_iff.1 hj).1
            omega
          have := k2 (j - xs.length) hj7
          rw [hj] at this
          have e : o + (n * 7 + (j - xs.length)) = o + j := by omega
          rw [e] at this
          exact this
      · rcases List.mem_append.1 hu with hu | hu
        · exact h3 u hu
        · exact hone _ _ k3 u hu
      · by_cases hi2 : i < n
        · obtain ⟨cs2, m1, m2, m3⟩ := h4 i hi hi2
          exact ⟨cs2, m1, fun j hj => by rw [List.getElem?_append_left (by omega)]; exact m2 j hj, m3⟩
        · have e : i = n := by omega
          subst e
          exact ⟨cs, k1, fun j hj => by rw [List.getElem?_append_right (by omega)]; congr 1; omega, k3⟩
  obtain ⟨xs, h1, h2, h3, h4⟩ := key I.length (Nat.le_refl _)
  refine ⟨xs, ⟨h1, fun e => (by cases e), h3, fun ad e j u hj => ?_⟩, fun i hi => h4 i hi hi⟩
  cases e
  rw [Addr.add_lit]
  exact h2 j u hj
theorem InB.one {P : Nat → Prop} {w : World} {d : Nat} (cs : List Value) (t : Tm) (h : InB P w d cs t) : ∀ u ∈ cs, u.oneCell' = true := by
  have := (InB.plain _ _ _ h).one
  simp only [List.all_toArray, List.all_eq_true] at this
  exact this

/-- fresh of one row. -/
theorem fresh_oneC (B b o c c' d : Nat) (Q : Nat → Prop) (a : Option Addr) (I : List Tm) (w : World) (hb : b < w.heap.size) (hB : B ≤ w.heap.size) (hc : w.cell? ⟨b, o, none⟩ = some (.slice a I.length c')) (hR : RowB Q (InB (fun b => b < B) w d) w a I) (hn : I.length + belR I ≤ 65536) (hsz : tszs I ≤ 1353245080330) :
    Calls Tryz.prog 50 #[.slice (some ⟨b, o, none⟩) 1 c] w (FreshC B w d I) := by
  obtain ⟨xs, hx, hxs⟩ := hR.rd (fun cs t h => InB.one cs t h)
  refine fresh_anyC B b o 1 c d [⟨a, I.length, c', xs⟩] I w rfl ⟨hb, fun i hi => ?_, fun i hi => ?_⟩ ⟨by simp [sumN], fun i hi => ?_⟩ hB (by simp) (by omega) (by omega) hsz
  · have e : i = 0 := by simp at hi; exact hi
    subst e
    exact hc
  · have e : i = 0 := by simp at hi; exact hi
    subst e
    exact hx
  · obtain ⟨cs, k1, k2, k3⟩ := hxs i hi
    exact ⟨cs, k1, fun j hj => by simpa [catX] using k2 j hj, k3⟩
theorem fresh_one (B b o c c' d : Nat) (Q : Nat → Prop) (a : Option Addr) (I : List Tm) (w : World) (hb : b < w.heap.size) (hB : B ≤ w.heap.size) (hc : w.cell? ⟨b, o, none⟩ = some (.slice a I.length c')) (hR : RowB Q (InB (fun b => b < B) w d) w a I) (hn : I.length + belR I ≤ 65536) (hsz : tszs I ≤ 1353245080330) :
    Calls Tryz.prog 50 #[.slice (some ⟨b, o, none⟩) 1 c] w (FreshP B w d I) := (fresh_oneC B b o c c' d Q a I w hb hB hc hR hn hsz).mono fun _ _ h => h.p
theorem Tb.row {R : List Value → Tm → Prop} {w : World} {g : Nat} {cs : List Value} {t : Tm} (h : Tb w g cs.toArray) (h7 : cs.length = 7) (hin : R cs t) : RowB (fun _ => True) R w (some ⟨g, 0, none⟩) [t] :=
  Or.inr ⟨g, 0, rfl, trivial, h.lt, fun i hi => by
    have e : i = 0 := by simp at hi; exact hi
    subst e
    exact ⟨cs, h7, fun j hj => by rw [Nat.zero_mul, Nat.zero_add, Nat.zero_add, h.cell j]; simp, hin⟩⟩
theorem In.len {w : World} {d : Nat} {cs : List Value} {t : Tm} (h : In w d cs t) : cs.length = 7 := by have := h.seven; simpa using this

set_option maxHeartbeats 4000000 in
set_option maxRecDepth 100000 in
theorem Copy_in (B d : Nat) (w : World) (cs : List Value) (t : Tm) (hB : B ≤ w.heap.size) (h' : InB (fun b => b < B) w d cs t) (hs : tsz t ≤ 1353245080330) (hb : belT t ≤ 60000) :
    Calls Tryz.prog 12 #[.agg cs.toArray] w (TermP B w d t) := by
  have h := InB.plain _ _ _ h'
  have hone := h.one
  have hl7 := h.len
  obtain ⟨q0, q1, q2, q3, q4, q5, q6, rfl⟩ := list7 hl7
  have HIN : Hid (InB (fun b => b < B) w d [q0, q1, q2, q3, q4, q5, q6] t) := h'
  have tb0 : Tb ((w.alloc (.cells #[q0, q1, q2, q3, q4, q5, q6] 26)).alloc (.cells #[.int .u8 0, .bool false, .slice none 0 0, .string ⟨#[]⟩, .int .i64 0, .slice none 0 0, .slice none 0 0] 26)) w.heap.size #[q0, q1, q2, q3, q4, q5, q6] := (Tb.new _ _ _ rfl).old _
  have tbz : Tb ((w.alloc (.cells #[q0, q1, q2, q3, q4, q5, q6] 26)).alloc (.cells #[.int .u8 0, .bool false, .slice none 0 0, .string ⟨#[]⟩, .int .i64 0, .slice none 0 0, .slice none 0 0] 26)) (w.heap.size + 1) #[.int .u8 0, .bool false, .slice none 0 0, .string ⟨#[]⟩, .int .i64 0, .slice none 0 0, .slice none 0 0] := Tb.new _ _ _ (by simp)
  have hU0 : Upd [] w ((w.alloc (.cells #[q0, q1, q2, q3, q4, q5, q6] 26)).alloc (.cells #[.int .u8 0, .bool false, .slice none 0 0, .string ⟨#[]⟩, .int .i64 0, .slice none 0 0, .slice none 0 0] 26)) := ((Upd.refl [] w).alloc _).alloc _
  have HS : Hid (tszs [t] ≤ 1353245080330 ∧ belR [t] ≤ 60000) := ⟨by simp only [tszs, List.length_nil]; omega, by simp only [belR]; omega⟩
  have HONE : Hid _ := hone
  clear h h' hs hb hl7
  obtain ⟨W, hW⟩ : ∃ W, W = (w.alloc (.cells #[q0, q1, q2, q3, q4, q5, q6] 26)).alloc (.cells #[.int .u8 0, .bool false, .slice none 0 0, .string ⟨#[]⟩, .int .i64 0, .slice none 0 0, .slice none 0 0] 26) := ⟨_, rfl⟩
  go_enter Tryz.func12, Tryz.ntmps12
  go_wp2_with (first | (refine load_T _ rfl _ rfl _ _ rfl tb0 rfl ?_) | fail)
  rw [← hW] at tb0 tbz hU0 ⊢
  have hsW : W.heap.size = w.heap.size + 1 + 1 := by rw [hW]; simp
  have hU1 : Upd [] W ((W.alloc (.cells #[q0, q1, q2, q3, q4, q5, q6] 26)).alloc (.cells #[.slice (some ⟨w.heap.size + 1 + 1, 0, none⟩) 1 1] 24)) := ((Upd.refl [] W).alloc _).alloc _
  have tb1 : Tb ((W.alloc (.cells #[q0, q1, q2, q3, q4, q5, q6] 26)).alloc (.cells #[.slice (some ⟨w.heap.size + 1 + 1, 0, none⟩) 1 1] 24)) (w.heap.size + 1 + 1) #[q0, q1, q2, q3, q4, q5, q6] := (Tb.new _ _ _ hsW.symm).old _
  have hf := FunB.new (W.alloc (.cells #[q0, q1, q2, q3, q4, q5, q6] 26)) (.slice (some ⟨w.heap.size + 1 + 1, 0, none⟩) 1 1) 24 (w.heap.size + 1 + 1 + 1) (by simp [hsW])
  have hU2 := hU0.trans hU1
  have HSZ : Hid (((W.alloc (.cells #[q0, q1, q2, q3, q4, q5, q6] 26)).alloc (.cells #[.slice (some ⟨w.heap.size + 1 + 1, 0, none⟩) 1 1] 24)).heap.size = w.heap.size + 4) := by show _ = _; simp [hsW]
  have hrow := Tb.row (cs := [q0, q1, q2, q3, q4, q5, q6]) tb1 rfl (InB.upd hU2 (by simp) (fun b hb _ => hb) _ _ _ HIN.out)
  refine Calls.mono (fresh_one B (w.heap.size + 1 + 1 + 1) 0 1 1 d _ (some ⟨w.heap.size + 1 + 1, 0, none⟩) [t] _ hf.lt (Nat.le_trans hB hU2.size) hf.cell hrow (by have := HS.out.2; simp; omega) HS.out.1) ?_
  rintro e w3 ⟨a3, c3, rfl, hR3, hU3⟩
  simp only [List.length_cons, List.length_nil, Nat.zero_add]
  rcases hR3 with h0 | ⟨b3, o3, rfl, _, hlt3, hc3⟩
  · cases h0
  obtain ⟨cs3, k1, k2, k3⟩ := hc3 0 (by simp)
  have hone3 := (InB.plain _ _ _ k3).one
  obtain ⟨p0, p1, p2, p3, p4, p5, p6, rfl⟩ := list7 k1
  have HIN3 : Hid (InB _ w3 d [p0, p1, p2, p3, p4, p5, p6] t) := k3
  have HU3 : Hid (Upd [] w w3) := hU2.trans hU3
  have tbz3 := (tbz.mono hU1 (by simp)).mono hU3 (by simp)
  have x0 : w3.cell? ⟨b3, o3, none⟩ = some p0 := by have := k2 0 (by omega); simpa using this
  have x1 : w3.cell? ⟨b3, o3 + 1, none⟩ = some p1 := by have := k2 1 (by omega); simpa using this
  have x2 : w3.cell? ⟨b3, o3 + 2, none⟩ = some p2 := by have := k2 2 (by omega); simpa using this
  have x3 : w3.cell? ⟨b3, o3 + 3, none⟩ = some p3 := by have := k2 3 (by omega); simpa using this
  have x4 : w3.cell? ⟨b3, o3 + 4, none⟩ = some p4 := by have := k2 4 (by omega); simpa using this
  have x5 : w3.cell? ⟨b3, o3 + 5, none⟩ = some p5 := by have := k2 5 (by omega); simpa using this
  have x6 : w3.cell? ⟨b3, o3 + 6, none⟩ = some p6 := by have := k2 6 (by omega); simpa using this
  clear hc3 k2 k3 hrow hf tb1 tb0 hU1 hU2 hU3 hU0 tbz hW hsW
  go_wp2_with (refine store_T _ rfl _ _ rfl _ #[p0, p1, p2, p3, p4, p5, p6] _ rfl rfl tbz3 rfl rfl hone3 ?_; intro w4 hT4 hU4)
  have hin4 : InB (fun b => b < B ∨ w.heap.size ≤ b) w4 d [p0, p1, p2, p3, p4, p5, p6] t := by
    refine InB.upd hU4 (fun b hb hm => ?_) (fun b hb _ => ?_) _ _ _ HIN3.out
    · simp at hm
      subst hm
      rcases hb with hb | ⟨hb, _⟩
      · simp only at hb; omega
      · rw [HSZ.out] at hb; simp only at hb; omega
    · rcases hb with hb | ⟨hb, _⟩
      · exact Or.inl hb
      · rw [HSZ.out] at hb; simp only at hb; exact Or.inr (by omega)
  exact ret_T Tryz.results12 rfl _ _ rfl hT4 rfl ⟨[p0, p1, p2, p3, p4, p5, p6], rfl, rfl, hin4, HU3.out.then hU4 (by simp)⟩

end Go.Proofs.YtabknipgbmdipaaGreatDoor

/- rest of package term, by its contract. -/
namespace Go.Proofs.YtabknipgbmdipaaGreatDoor
open Go.RowKit

/-- A row of trees, its first ones left off. -/
theorem RowB.drop {P : Nat → Prop} {R : List Value → Tm → Prop} {w : World} {b o : Nat} {I : List Tm} (h : RowB P R w (some ⟨b, o, none⟩) I) (k : Nat) : RowB P R w (some ⟨b, o + k * 7, none⟩) (I.drop k) := by
  by_cases h0 : I.drop k = []
  · exact Or.inl h0
  rcases h with h | ⟨b', o', e, hp, hlt, hc⟩
  · rw [h] at h0; simp at h0
  · cases e
    refine Or.inr ⟨b, o + k * 7, rfl, hp, hlt, fun i hi => ?_⟩
    rw [List.length_drop] at hi
    obtain ⟨cs, k1, k2, k3⟩ := hc (k + i) (by omega)
    refine ⟨cs, k1, fun j hj => ?_, by rw [List.getElem_drop]; exact k3⟩
    have e : o + k * 7 + (i * 7 + j) = o + ((k + i) * 7 + j) := by rw [Nat.add_mul]; omega
    rw [e]; exact k2 j hj

/-- Rows below B, or made from lo on. -/
def Pl (B lo : Nat) (b : Nat) : Prop := b < B ∨ lo ≤ b
theorem RowT.weak {B lo lo' : Nat} {w : World} {d : Nat} {a : Option Addr} {I : List Tm} (h : RowT (B, lo) w d a I) (hl : lo' ≤ lo) : RowB (Pl B lo') (InB (Pl B lo') w d) w a I := by
  have hp : ∀ b, Ty (B, lo) w b → Pl B lo' b := fun b hb => by
    rcases hb with hb | ⟨hb, _⟩
    · exact Or.inl hb
    · exact Or.inr (Nat.le_trans hl hb)
  rcases h with h | ⟨b, o, e, hb, hlt, hc⟩
  · exact Or.inl h
  · refine Or.inr ⟨b, o, e, hp b hb, hlt, fun i hi => ?_⟩
    obtain ⟨cs, k1, k2, k3⟩ := hc i hi
    exact ⟨cs, k1, k2, InB.upd (Upd.refl [] w) (by simp) (fun b hb _ => hp b hb) _ _ _ k3⟩
theorem RowB.upd {P Q : Nat → Prop} {S : List Nat} {w w' : World} {d : Nat} {a : Option Addr} {I : List Tm} (hu : Upd S w w') (hS : ∀ b, P b → b ∉ S) (hPQ : ∀ b, P b → b < w.heap.size → Q b) (h : RowB P (InB P w d) w a I) : RowB Q (InB Q w' d) w' a I := by
  rcases h with h | ⟨b, o, e, hb, hlt, hc⟩
  · exact Or.inl h
  · refine Or.inr ⟨b, o, e, hPQ b hb hlt, Nat.lt_of_lt_of_le hlt hu.size, fun i hi => ?_⟩
    obtain ⟨cs, k1, k2, k3⟩ := hc i hi
    exact ⟨cs, k1, fun j hj => (hu.cell (p := ⟨b, o + (i * 7 + j), none⟩) hlt (hS b hb)).trans (k2 j hj), InB.upd hu hS hPQ _ _ _ k3⟩
theorem nw0 (W : World) (v : Value) (T : TypeId) : (W.alloc (.cells #[v] T)).cell? ⟨W.heap.size, 0, none⟩ = some v := (FunB.new W v T _ rfl).cell
theorem nw0l (W : World) (v : Value) (T : TypeId) : W.heap.size < (W.alloc (.cells #[v] T)).heap.size := (FunB.new W v T _ rfl).lt
theorem nw1 (W : World) (v u : Value) (T U : TypeId) : ((W.alloc (.cells #[v] T)).alloc (.cells #[u] U)).cell? ⟨W.heap.size, 0, none⟩ = some v := ((FunB.new W v T _ rfl).mono ((Upd.refl [] _).alloc _) (by simp)).cell
theorem nw1l (W : World) (v u : Value) (T U : TypeId) : W.heap.size < ((W.alloc (.cells #[v] T)).alloc (.cells #[u] U)).heap.size := ((FunB.new W v T _ rfl).mono ((Upd.refl [] _).alloc (.cells #[u] U)) (by simp)).lt
theorem nw2 (W : World) (v u : Value) (T U : TypeId) : ((W.alloc (.cells #[v] T)).alloc (.cells #[u] U)).cell? ⟨W.heap.size + 1, 0, none⟩ = some u := (FunB.new (W.alloc (.cells #[v] T)) u U _ (by simp)).cell
theorem nw2l (W : World) (v u : Value) (T U : TypeId) : W.heap.size + 1 < ((W.alloc (.cells #[v] T)).alloc (.cells #[u] U)).heap.size := (FunB.new (W.alloc (.cells #[v] T)) u U (W.heap.size + 1) (by simp)).lt
/-- A list is laid in its box. -/
theorem list_end (B lo d g n3 c3 n4 c4 : Nat) (a3 a4 : Option Addr) (I T : List Tm) (w w4 : World) (e3 : n3 = I.length) (e4 : n4 = T.length) (hg0 : w.heap.size ≤ g) (hg : g < lo) (hB : B ≤ w.heap.size) (hu : Upd [] w w4) (ht : Tb w4 g #[.int .u8 0, .bool false, .slice none 0 0, .string ⟨#[]⟩, .int .i64 0, .slice none 0 0, .slice none 0 0]) (hI : RowB (Pl B lo) (InB (Pl B lo) w4 d) w4 a3 I) (hT : RowB (Pl B lo) (InB (Pl B lo) w4 d) w4 a4 T) :
    ∃ W5, W5 = ((((((w4.setCell ⟨g, 0, none⟩ (.int .u8 7)).setCell ⟨g, 1, none⟩ (.bool false)).setCell ⟨g, 2, none⟩ (.slice none 0 0)).setCell ⟨g, 3, none⟩ (.string ⟨#[]⟩)).setCell ⟨g, 4, none⟩ (.int .i64 0)).setCell ⟨g, 5, none⟩ (.slice a3 n3 c3)).setCell ⟨g, 6, none⟩ (.slice a4 n4 c4) ∧ Tb W5 g #[.int .u8 7, .bool false, .slice none 0 0, .string ⟨#[]⟩, .int .i64 0, .slice a3 n3 c3, .slice a4 n4 c4] ∧ InB (fun b => b < B ∨ w.heap.size ≤ b) W5 (d + 1) [.int .u8 7, .bool false, .slice none 0 0, .string ⟨#[]⟩, .int .i64 0, .slice a3 n3 c3, .slice a4 n4 c4] (.mk 7 0 false [] ⟨#[]⟩ I T) ∧ Upd [] w W5 := by
  subst e3 e4
  have t1 : Tb (w4.setCell ⟨g, 0, none⟩ (.int .u8 7)) g #[.int .u8 7, .bool false, .slice none 0 0, .string ⟨#[]⟩, .int .i64 0, .slice none 0 0, .slice none 0 0] := ht.set 0 _
  have u1 : Upd [g] w4 (w4.setCell ⟨g, 0, none⟩ (.int .u8 7)) := (Upd.refl [g] w4).setCell (Or.inr (by simp)) _
  obtain ⟨x1, h1⟩ : ∃ x, x = w4.setCell ⟨g, 0, none⟩ (.int .u8 7) := ⟨_, rfl⟩
  rw [← h1] at t1 u1 ⊢
  have t2 : Tb (x1.setCell ⟨g, 1, none⟩ (.bool false)) g #[.int .u8 7, .bool false, .slice none 0 0, .string ⟨#[]⟩, .int .i64 0, .slice none 0 0, .slice none 0 0] := t1.set 1 _
  have u2 := u1.setCell (p := ⟨g, 1, none⟩) (Or.inr (by simp)) (.bool false)
  obtain ⟨x2, h2⟩ : ∃ x, x = x1.setCell ⟨g, 1, none⟩ (.bool false) := ⟨_, rfl⟩
  rw [← h2] at t2 u2 ⊢
  have t3 : Tb (x2.setCell ⟨g, 2, none⟩ (.slice none 0 0)) g #[.int .u8 7, .bool false, .slice none 0 0, .string ⟨#[]⟩, .int .i64 0, .slice none 0 0, .slice none 0 0] := t2.set 2 _
  have u3 := u2.setCell (p := ⟨g, 2, none⟩) (Or.inr (by simp)) (.slice none 0 0)
  obtain ⟨x3, h3⟩ : ∃ x, x = x2.setCell ⟨g, 2, none⟩ (.slice none 0 0) := ⟨_, rfl⟩
  rw [← h3] at t3 u3 ⊢
  have t4 : Tb (x3.setCell ⟨g, 3, none⟩ (.string ⟨#[]⟩)) g #[.int .u8 7, .bool false, .slice none 0 0, .string ⟨#[]⟩, .int .i64 0, .slice none 0 0, .slice none 0 0] := t3.set 3 _
  have u4 := u3.setCell (p := ⟨g, 3, none⟩) (Or.inr (by simp)) (.string ⟨#[]⟩)
  obtain ⟨x4, h4⟩ : ∃ x, x = x3.setCell ⟨g, 3, none⟩ (.string ⟨#[]⟩) := ⟨_, rfl⟩
  rw [← h4] at t4 u4 ⊢
  have t5 : Tb (x4.setCell ⟨g, 4, none⟩ (.int .i64 0)) g #[.int .u8 7, .bool false, .slice none 0 0, .string ⟨#[]⟩, .int .i64 0, .slice none 0 0, .slice none 0 0] := t4.set 4 _
  have u5 := u4.setCell (p := ⟨g, 4, none⟩) (Or.inr (by simp)) (.int .i64 0)
  obtain ⟨x5, h5⟩ : ∃ x, x = x4.setCell ⟨g, 4, none⟩ (.int .i64 0) := ⟨_, rfl⟩
  rw [← h5] at t5 u5 ⊢
  have t6 : Tb (x5.setCell ⟨g, 5, none⟩ (.slice a3 I.length c3)) g #[.int .u8 7, .bool false, .slice none 0 0, .string ⟨#[]⟩, .int .i64 0, .slice a3 I.length c3, .slice none 0 0] := t5.set 5 _
  have u6 := u5.setCell (p := ⟨g, 5, none⟩) (Or.inr (by simp)) (.slice a3 I.length c3)
  obtain ⟨x6, h6⟩ : ∃ x, x = x5.setCell ⟨g, 5, none⟩ (.slice a3 I.length c3) := ⟨_, rfl⟩
  rw [← h6] at t6 u6 ⊢
  have t7 : Tb (x6.setCell ⟨g, 6, none⟩ (.slice a4 T.length c4)) g #[.int .u8 7, .bool false, .slice none 0 0, .string ⟨#[]⟩, .int .i64 0, .slice a3 I.length c3, .slice a4 T.length c4] := t6.set 6 _
  have u7 := u6.setCell (p := ⟨g, 6, none⟩) (Or.inr (by simp)) (.slice a4 T.length c4)
  have hS : ∀ b, Pl B lo b → b ∉ [g] := fun b hb hm => by
    simp at hm; subst hm
    rcases hb with hb | hb <;> omega
  have hPQ : ∀ b, Pl B lo b → b < w4.heap.size → (b < B ∨ w.heap.size ≤ b) := fun b hb _ => by
    rcases hb with hb | hb
    · exact Or.inl hb
    · exact Or.inr (by omega)
  exact ⟨_, rfl, t7, ⟨none, a3, a4, 0, c3, c4, rfl, Or.inl rfl, Dig.nil, RowB.upd u7 hS hPQ hI, RowB.upd u7 hS hPQ hT⟩, hu.then u7 (by simp; exact hg0)⟩

theorem belR_drop1 (I : List Tm) : belR (I.drop 1) ≤ belR I := by
  cases I with
  | nil => simp
  | cons t r => simp only [List.drop_succ_cons, List.drop_zero, belR]; omega
theorem tszs_drop (I : List Tm) (k : Nat) : tszs (I.drop k) ≤ tszs I := by
  induction I generalizing k with
  | nil => simp
  | cons t r ih =>
    cases k with
    | zero => simp
    | succ k => simp only [List.drop_succ_cons, tszs]; have := ih k; omega

set_option maxHeartbeats 4000000 in
set_option maxRecDepth 100000 in
theorem rest_many (B d b o ci ct n c : Nat) (num : Int) (neg : Bool) (s : ByteArray) (a at' : Option Addr) (I T : List Tm) (w : World) (hB : B ≤ w.heap.size) (hI : RowB (fun b => b < B) (InB (fun b => b < B) w d) w (some ⟨b, o, none⟩) I) (hT : RowB (fun b => b < B) (InB (fun b => b < B) w d) w at' T)
    (h2 : 2 ≤ I.length) (hz : tszs I ≤ 1353245080330) (hzT : tszs T ≤ 1353245080330) (hbl : I.length + belR I + (T.length + belR T) ≤ 60000) (hcap : I.length ≤ ci) (_hci : ci ≤ 9223372036854775807) :
    Calls Tryz.prog 64 #[.agg #[.int .u8 7, .bool neg, .slice a n c, .string s, .int .i64 num, .slice (some ⟨b, o, none⟩) I.length ci, .slice at' T.length ct]] w (TermP B w (d + 1) (.mk 7 0 false [] ⟨#[]⟩ (I.drop 1) T)) := by
  have tb0 : Tb ((w.alloc (.cells #[.int .u8 7, .bool neg, .slice a n c, .string s, .int .i64 num, .slice (some ⟨b, o, none⟩) I.length ci, .slice at' T.length ct] 26)).alloc (.cells #[.int .u8 0, .bool false, .slice none 0 0, .string ⟨#[]⟩, .int .i64 0, .slice none 0 0, .slice none 0 0] 26)) w.heap.size #[.int .u8 7, .bool neg, .slice a n c, .string s, .int .i64 num, .slice (some ⟨b, o, none⟩) I.length ci, .slice at' T.length ct] := (Tb.new _ _ _ rfl).old _
  have tbz : Tb ((w.alloc (.cells #[.int .u8 7, .bool neg, .slice a n c, .string s, .int .i64 num, .slice (some ⟨b, o, none⟩) I.length ci, .slice at' T.length ct] 26)).alloc (.cells #[.int .u8 0, .bool false, .slice none 0 0, .string ⟨#[]⟩, .int .i64 0, .slice none 0 0, .slice none 0 0] 26)) (w.heap.size + 1) #[.int .u8 0, .bool false, .slice none 0 0, .string ⟨#[]⟩, .int .i64 0, .slice none 0 0, .slice none 0 0] := Tb.new _ _ _ (by simp)
  have hU0 : Upd [] w ((w.alloc (.cells #[.int .u8 7, .bool neg, .slice a n c, .string s, .int .i64 num, .slice (some ⟨b, o, none⟩) I.length ci, .slice at' T.length ct] 26)).alloc (.cells #[.int .u8 0, .bool false, .slice none 0 0, .string ⟨#[]⟩, .int .i64 0, .slice none 0 0, .slice none 0 0] 26)) := ((Upd.refl [] w).alloc _).alloc _
  obtain ⟨W, hW⟩ : ∃ W, W = ((w.alloc (.cells #[.int .u8 7, .bool neg, .slice a n c, .string s, .int .i64 num, .slice (some ⟨b, o, none⟩) I.length ci, .slice at' T.length ct] 26)).alloc (.cells #[.int .u8 0, .bool false, .slice none 0 0, .string ⟨#[]⟩, .int .i64 0, .slice none 0 0, .slice none 0 0] 26)) := ⟨_, rfl⟩
  have i1 : ((I.length : Int) == 1) = false := by simp; omega
  have i2 : (1 : Int) ≤ (I.length : Int) := by omega
  have hIl : I.length ≤ 1353245080330 := Nat.le_trans (tszs_len I) hz
  have hTl : T.length ≤ 1353245080330 := Nat.le_trans (tszs_len T) hzT
  have HI : Hid (RowB (fun b => b < B) (InB (fun b => b < B) w d) w (some ⟨b, o, none⟩) I) := hI
  have HT : Hid (RowB (fun b => b < B) (InB (fun b => b < B) w d) w at' T) := hT
  clear hI hT
  go_enter Tryz.func64, Tryz.ntmps64
  go_wp2_with fail
  rw [← hW] at tb0 tbz hU0 ⊢
  have x5 : W.cell? ⟨w.heap.size, 5, none⟩ = some (.slice (some ⟨b, o, none⟩) I.length ci) := tb0.cell 5
  have x6 : W.cell? ⟨w.heap.size, 6, none⟩ = some (.slice at' T.length ct) := tb0.cell 6
  have HW : Hid (W = _) := hW
  have HTB0 : Hid (Tb W _ _) := tb0
  have HTBZ : Hid (Tb W _ _) := tbz
  have HU0 : Hid (Upd [] w W) := hU0
  clear hW tb0 tbz hU0
  have hc1 : ¬ ci = 1 := by omega
  have hlt0 : w.heap.size < W.heap.size := HTB0.out.lt
  have HF1 : Hid (∀ V g, Upd [] W V → g < V.heap.size → V.cell? ⟨g, 0, none⟩ = some (.slice (some ⟨b, o + 7, none⟩) (I.length - 1) (ci - 1)) → Calls Tryz.prog 50 #[.slice (some ⟨g, 0, none⟩) 1 1] V (FreshP B V d (I.drop 1))) := fun V g hU hg hc => by
    have hUV := HU0.out.trans hU
    have hR := (HI.out.drop 1)
    rw [Nat.one_mul] at hR
    refine fresh_one B g 0 1 (ci - 1) d (fun b => b < B) (some ⟨b, o + 7, none⟩) (I.drop 1) V hg (Nat.le_trans hB hUV.size) (by rw [hc, List.length_drop]) ?_ ?_ ?_
    · rcases hR with h | ⟨b', o', e, hp, hlt, hcc⟩
      · exact Or.inl h
      · refine Or.inr ⟨b', o', e, hp, Nat.lt_of_lt_of_le hlt hUV.size, fun i hi => ?_⟩
        obtain ⟨cs, k1, k2, k3⟩ := hcc i hi
        exact ⟨cs, k1, fun j hj => (hUV.cell (p := ⟨b', o' + (i * 7 + j), none⟩) hlt (by simp)).trans (k2 j hj), InB.upd hUV (by simp) (fun b hb _ => hb) _ _ _ k3⟩
    · have h1 := belR_drop1 I
      rw [List.length_drop]; omega
    · exact Nat.le_trans (tszs_drop I 1) hz
  have HF2 : Hid (∀ V g, Upd [] W V → g < V.heap.size → V.cell? ⟨g, 0, none⟩ = some (.slice at' T.length ct) → Calls Tryz.prog 50 #[.slice (some ⟨g, 0, none⟩) 1 1] V (FreshP B V d T)) := fun V g hU hg hc => by
    have hUV := HU0.out.trans hU
    refine fresh_one B g 0 1 ct d (fun b => b < B) at' T V hg (Nat.le_trans hB hUV.size) hc ?_ (by omega) hzT
    rcases HT.out with h | ⟨b', o', e, hp, hlt, hcc⟩
    · exact Or.inl h
    · refine Or.inr ⟨b', o', e, hp, Nat.lt_of_lt_of_le hlt hUV.size, fun i hi => ?_⟩
      obtain ⟨cs, k1, k2, k3⟩ := hcc i hi
      exact ⟨cs, k1, fun j hj => (hUV.cell (p := ⟨b', o' + (i * 7 + j), none⟩) hlt (by simp)).trans (k2 j hj), InB.upd hUV (by simp) (fun b hb _ => hb) _ _ _ k3⟩
  go_region_held3 (fun w' => w'.cell? ⟨w.heap.size, 5, none⟩ = some (.slice (some ⟨b, o, none⟩) I.length ci) ∧ w'.cell? ⟨w.heap.size, 6, none⟩ = some (.slice at' T.length ct))
    (go_keep)
    (first
      | (go_at_call 50; refine Calls.mono (HF1.out _ _ (by repeat (first | exact Upd.refl _ _ | refine Upd.drew ?_ | refine Upd.alloc ?_ _)) ?_ ?_) ?_; go_loud (first | exact nw0l _ _ _ | exact nw1l _ _ _ _ _ | exact nw2l _ _ _ _ _); go_loud (first | exact nw0 _ _ _ | exact nw1 _ _ _ _ _ | exact nw2 _ _ _ _ _); rintro e w3 ⟨a3, c3, rfl, hR3, hU3⟩; have uw3 : Hid (Upd [] W w3) := Upd.trans (by repeat (first | exact Upd.refl _ _ | refine Upd.drew ?_ | refine Upd.alloc ?_ _)) hU3; have HR3 : Hid (RowB (Pl B W.heap.size) (InB (Pl B W.heap.size) w3 d) w3 a3 (I.drop 1)) := hR3.weak (Upd.size (w := W) (S := []) (by repeat (first | exact Upd.refl _ _ | refine Upd.drew ?_ | refine Upd.alloc ?_ _))); have HU3 : Hid (Upd [] _ w3) := hU3; clear hR3 hU3; have y5 : w3.cell? ⟨w.heap.size, 5, none⟩ = some (.slice (some ⟨b, o, none⟩) I.length ci) := (uw3.out.cell (p := ⟨w.heap.size, 5, none⟩) hlt0 (by simp)).trans x5; have y6 : w3.cell? ⟨w.heap.size, 6, none⟩ = some (.slice at' T.length ct) := (uw3.out.cell (p := ⟨w.heap.size, 6, none⟩) hlt0 (by simp)).trans x6)
      | (go_at_call 50; go_loud (refine Calls.mono (HF2.out _ _ (by repeat (first | exact Upd.refl _ _ | exact uw3.out | refine Upd.drew ?_ | refine Upd.alloc ?_ _)) ?_ ?_) ?_); go_loud (first | exact nw0l _ _ _ | exact Nat.lt_of_lt_of_le (nw1l _ _ _ _ _) HU3.out.size | exact Nat.lt_of_lt_of_le (nw2l _ _ _ _ _) HU3.out.size); go_loud (first | exact nw0 _ _ _ | exact (HU3.out.cell (nw1l _ _ _ _ _) (by simp)).trans (nw1 _ _ _ _ _) | exact (HU3.out.cell (nw2l _ _ _ _ _) (by simp)).trans (nw2 _ _ _ _ _)); rintro e w4 ⟨a4, c4, rfl, hR4, hU4⟩; have uw4 : Hid (Upd [] w3 w4) := Upd.trans (by repeat (first | exact Upd.refl _ _ | refine Upd.drew ?_ | refine Upd.alloc ?_ _)) hU4; have HR4 : Hid (RowB (Pl B W.heap.size) (InB (Pl B W.heap.size) w4 d) w4 a4 T) := hR4.weak (Nat.le_trans uw3.out.size (Upd.size (w := w3) (S := []) (by repeat (first | exact Upd.refl _ _ | refine Upd.drew ?_ | refine Upd.alloc ?_ _)))); clear hR4 hU4; have q5 : w4.cell? ⟨w.heap.size, 5, none⟩ = some (.slice (some ⟨b, o, none⟩) I.length ci) := ((uw3.out.trans uw4.out).cell (p := ⟨w.heap.size, 5, none⟩) hlt0 (by simp)).trans x5; have q6 : w4.cell? ⟨w.heap.size, 6, none⟩ = some (.slice at' T.length ct) := ((uw3.out.trans uw4.out).cell (p := ⟨w.heap.size, 6, none⟩) hlt0 (by simp)).trans x6; have tb4 := (HTBZ.out.mono uw3.out (by simp)).mono uw4.out (by simp); have z0 : w4.cell? ⟨w.heap.size + 1, 0, none⟩ = some (.int .u8 0) := tb4.cell 0; have f0 : w4.frozen? ⟨w.heap.size + 1, 0, none⟩ = false := tb4.free 0; have z1 : w4.cell? ⟨w.heap.size + 1, 1, none⟩ = some (.bool false) := tb4.cell 1; have f1 : w4.frozen? ⟨w.heap.size + 1, 1, none⟩ = false := tb4.free 1; have z2 : w4.cell? ⟨w.heap.size + 1, 2, none⟩ = some (.slice none 0 0) := tb4.cell 2; have f2 : w4.frozen? ⟨w.heap.size + 1, 2, none⟩ = false := tb4.free 2; have z3 : w4.cell? ⟨w.heap.size + 1, 3, none⟩ = some (.string ⟨#[]⟩) := tb4.cell 3; have f3 : w4.frozen? ⟨w.heap.size + 1, 3, none⟩ = false := tb4.free 3; have z4 : w4.cell? ⟨w.heap.size + 1, 4, none⟩ = some (.int .i64 0) := tb4.cell 4; have f4 : w4.frozen? ⟨w.heap.size + 1, 4, none⟩ = false := tb4.free 4; have z5 : w4.cell? ⟨w.heap.size + 1, 5, none⟩ = some (.slice none 0 0) := tb4.cell 5; have f5 : w4.frozen? ⟨w.heap.size + 1, 5, none⟩ = false := tb4.free 5; have z6 : w4.cell? ⟨w.heap.size + 1, 6, none⟩ = some (.slice none 0 0) := tb4.cell 6; have f6 : w4.frozen? ⟨w.heap.size + 1, 6, none⟩ = false := tb4.free 6; have HTB4 : Hid (Tb w4 _ _) := tb4; clear tb4))
  all_goals
    have hsW : W.heap.size = w.heap.size + 2 := by rw [HW.out]; simp
    obtain ⟨W5, hW5, hT5, hin5, hU5⟩ := list_end B W.heap.size d (w.heap.size + 1) (I.length - 1) c3 T.length c4 a3 a4 (I.drop 1) T w w4 (by rw [List.length_drop]) rfl (by omega) (by omega) hB ((HU0.out.trans uw3.out).trans uw4.out) HTB4.out (RowB.upd uw4.out (by simp) (fun b hb _ => hb) HR3.out) HR4.out
    rw [← hW5]
    have HIN5 : Hid _ := hin5
    have HU5 : Hid (Upd [] w W5) := hU5
    clear z0 z1 z2 z3 z4 z5 z6 f0 f1 f2 f3 f4 f5 f6 hW5 hin5 hU5 x5 x6 y5 y6 q5 q6
    go_wp2
    exact ret_T Tryz.results64 rfl _ _ rfl hT5 rfl ⟨_, rfl, rfl, HIN5.out, HU5.out⟩

end Go.Proofs.YtabknipgbmdipaaGreatDoor
