/- rest of package term, by its contract. -/
import Derived.Test.YtnpocmhaoaigfaaGreatDoorCopT
import Derived.Deep.RegionHeld3
namespace Go.Proofs.YtnpocmhaoaigfaaGreatDoor
open Go.RowKit

/-- A row of trees, its first ones left off. -/
theorem RowB.drop {P : Nat → Prop} {R : List Value → Tm → Prop} {w : World} {b o : Nat} {I : List Tm} (h : RowB P R w (some ⟨b, o, none⟩) I) (k : Nat) : RowB P R w (some ⟨b, o + k * 7, none⟩) (I.drop k) := by
  by_cases h0 : I.drop k = []
  · exact Or.inl h0
  rcases h with h | ⟨b', o', e, hp, hlt, hc⟩
  · rw [h] at h0; simp at h0
  · cases e
    refine Or.inr ⟨b, o + k * 7, rfl, hp, hlt, fun i hi => ?_⟩
    rw [List.length_drop] at hi
    obtain ⟨cs, k1, k2, k3⟩ := hc (k + i) (by omega)
    refine ⟨cs, k1, fun j hj => ?_, by rw [List.getElem_drop]; exact k3⟩
    have e : o + k * 7 + (i * 7 + j) = o + ((k + i) * 7 + j) := by rw [Nat.add_mul]; omega
    rw [e]; exact k2 j hj

/-- Rows below B, or made from lo on. -/
def Pl (B lo : Nat) (b : Nat) : Prop := b < B ∨ lo ≤ b
theorem RowT.weak {B lo lo' : Nat} {w : World} {d : Nat} {a : Option Addr} {I : List Tm} (h : RowT (B, lo) w d a I) (hl : lo' ≤ lo) : RowB (Pl B lo') (InB (Pl B lo') w d) w a I := by
  have hp : ∀ b, Ty (B, lo) w b → Pl B lo' b := fun b hb => by
    rcases hb with hb | ⟨hb, _⟩
    · exact Or.inl hb
    · exact Or.inr (Nat.le_trans hl hb)
  rcases h with h | ⟨b, o, e, hb, hlt, hc⟩
  · exact Or.inl h
  · refine Or.inr ⟨b, o, e, hp b hb, hlt, fun i hi => ?_⟩
    obtain ⟨cs, k1, k2, k3⟩ := hc i hi
    exact ⟨cs, k1, k2, InB.upd (Upd.refl [] w) (by simp) (fun b hb _ => hp b hb) _ _ _ k3⟩
theorem RowB.upd {P Q : Nat → Prop} {S : List Nat} {w w' : World} {d : Nat} {a : Option Addr} {I : List Tm} (hu : Upd S w w') (hS : ∀ b, P b → b ∉ S) (hPQ : ∀ b, P b → b < w.heap.size → Q b) (h : RowB P (InB P w d) w a I) : RowB Q (InB Q w' d) w' a I := by
  rcases h with h | ⟨b, o, e, hb, hlt, hc⟩
  · exact Or.inl h
  · refine Or.inr ⟨b, o, e, hPQ b hb hlt, Nat.lt_of_lt_of_le hlt hu.size, fun i hi => ?_⟩
    obtain ⟨cs, k1, k2, k3⟩ := hc i hi
    exact ⟨cs, k1, fun j hj => (hu.cell (p := ⟨b, o + (i * 7 + j), none⟩) hlt (hS b hb)).trans (k2 j hj), InB.upd hu hS hPQ _ _ _ k3⟩
theorem nw0 (W : World) (v : Value) (T : TypeId) : (W.alloc (.cells #[v] T)).cell? ⟨W.heap.size, 0, none⟩ = some v := (FunB.new W v T _ rfl).cell
theorem nw0l (W : World) (v : Value) (T : TypeId) : W.heap.size < (W.alloc (.cells #[v] T)).heap.size := (FunB.new W v T _ rfl).lt
theorem nw1 (W : World) (v u : Value) (T U : TypeId) : ((W.alloc (.cells #[v] T)).alloc (.cells #[u] U)).cell? ⟨W.heap.size, 0, none⟩ = some v := ((FunB.new W v T _ rfl).mono ((Upd.refl [] _).alloc _) (by simp)).cell
theorem nw1l (W : World) (v u : Value) (T U : TypeId) : W.heap.size < ((W.alloc (.cells #[v] T)).alloc (.cells #[u] U)).heap.size := ((FunB.new W v T _ rfl).mono ((Upd.refl [] _).alloc (.cells #[u] U)) (by simp)).lt
theorem nw2 (W : World) (v u : Value) (T U : TypeId) : ((W.alloc (.cells #[v] T)).alloc (.cells #[u] U)).cell? ⟨W.heap.size + 1, 0, none⟩ = some u := (FunB.new (W.alloc (.cells #[v] T)) u U _ (by simp)).cell
theorem nw2l (W : World) (v u : Value) (T U : TypeId) : W.heap.size + 1 < ((W.alloc (.cells #[v] T)).alloc (.cells #[u] U)).heap.size := (FunB.new (W.alloc (.cells #[v] T)) u U (W.heap.size + 1) (by simp)).lt
/-- A list is laid in its box. -/
theorem list_end (B lo d g n3 c3 n4 c4 : Nat) (a3 a4 : Option Addr) (I T : List Tm) (w w4 : World) (e3 : n3 = I.length) (e4 : n4 = T.length) (hg0 : w.heap.size ≤ g) (hg : g < lo) (hB : B ≤ w.heap.size) (hu : Upd [] w w4) (ht : Tb w4 g #[.int .u8 0, .bool false, .slice none 0 0, .string ⟨#[]⟩, .int .i64 0, .slice none 0 0, .slice none 0 0]) (hI : RowB (Pl B lo) (InB (Pl B lo) w4 d) w4 a3 I) (hT : RowB (Pl B lo) (InB (Pl B lo) w4 d) w4 a4 T) :
    ∃ W5, W5 = ((((((w4.setCell ⟨g, 0, none⟩ (.int .u8 7)).setCell ⟨g, 1, none⟩ (.bool false)).setCell ⟨g, 2, none⟩ (.slice none 0 0)).setCell ⟨g, 3, none⟩ (.string ⟨#[]⟩)).setCell ⟨g, 4, none⟩ (.int .i64 0)).setCell ⟨g, 5, none⟩ (.slice a3 n3 c3)).setCell ⟨g, 6, none⟩ (.slice a4 n4 c4) ∧ Tb W5 g #[.int .u8 7, .bool false, .slice none 0 0, .string ⟨#[]⟩, .int .i64 0, .slice a3 n3 c3, .slice a4 n4 c4] ∧ InB (fun b => b < B ∨ w.heap.size ≤ b) W5 (d + 1) [.int .u8 7, .bool false, .slice none 0 0, .string ⟨#[]⟩, .int .i64 0, .slice a3 n3 c3, .slice a4 n4 c4] (.mk 7 0 false [] ⟨#[]⟩ I T) ∧ Upd [] w W5 := by
  subst e3 e4
  have t1 : Tb (w4.setCell ⟨g, 0, none⟩ (.int .u8 7)) g #[.int .u8 7, .bool false, .slice none 0 0, .string ⟨#[]⟩, .int .i64 0, .slice none 0 0, .slice none 0 0] := ht.set 0 _
  have u1 : Upd [g] w4 (w4.setCell ⟨g, 0, none⟩ (.int .u8 7)) := (Upd.refl [g] w4).setCell (Or.inr (by simp)) _
  obtain ⟨x1, h1⟩ : ∃ x, x = w4.setCell ⟨g, 0, none⟩ (.int .u8 7) := ⟨_, rfl⟩
  rw [← h1] at t1 u1 ⊢
  have t2 : Tb (x1.setCell ⟨g, 1, none⟩ (.bool false)) g #[.int .u8 7, .bool false, .slice none 0 0, .string ⟨#[]⟩, .int .i64 0, .slice none 0 0, .slice none 0 0] := t1.set 1 _
  have u2 := u1.setCell (p := ⟨g, 1, none⟩) (Or.inr (by simp)) (.bool false)
  obtain ⟨x2, h2⟩ : ∃ x, x = x1.setCell ⟨g, 1, none⟩ (.bool false) := ⟨_, rfl⟩
  rw [← h2] at t2 u2 ⊢
  have t3 : Tb (x2.setCell ⟨g, 2, none⟩ (.slice none 0 0)) g #[.int .u8 7, .bool false, .slice none 0 0, .string ⟨#[]⟩, .int .i64 0, .slice none 0 0, .slice none 0 0] := t2.set 2 _
  have u3 := u2.setCell (p := ⟨g, 2, none⟩) (Or.inr (by simp)) (.slice none 0 0)
  obtain ⟨x3, h3⟩ : ∃ x, x = x2.setCell ⟨g, 2, none⟩ (.slice none 0 0) := ⟨_, rfl⟩
  rw [← h3] at t3 u3 ⊢
  have t4 : Tb (x3.setCell ⟨g, 3, none⟩ (.string ⟨#[]⟩)) g #[.int .u8 7, .bool false, .slice none 0 0, .string ⟨#[]⟩, .int .i64 0, .slice none 0 0, .slice none 0 0] := t3.set 3 _
  have u4 := u3.setCell (p := ⟨g, 3, none⟩) (Or.inr (by simp)) (.string ⟨#[]⟩)
  obtain ⟨x4, h4⟩ : ∃ x, x = x3.setCell ⟨g, 3, none⟩ (.string ⟨#[]⟩) := ⟨_, rfl⟩
  rw [← h4] at t4 u4 ⊢
  have t5 : Tb (x4.setCell ⟨g, 4, none⟩ (.int .i64 0)) g #[.int .u8 7, .bool false, .slice none 0 0, .string ⟨#[]⟩, .int .i64 0, .slice none 0 0, .slice none 0 0] := t4.set 4 _
  have u5 := u4.setCell (p := ⟨g, 4, none⟩) (Or.inr (by simp)) (.int .i64 0)
  obtain ⟨x5, h5⟩ : ∃ x, x = x4.setCell ⟨g, 4, none⟩ (.int .i64 0) := ⟨_, rfl⟩
  rw [← h5] at t5 u5 ⊢
  have t6 : Tb (x5.setCell ⟨g, 5, none⟩ (.slice a3 I.length c3)) g #[.int .u8 7, .bool false, .slice none 0 0, .string ⟨#[]⟩, .int .i64 0, .slice a3 I.length c3, .slice none 0 0] := t5.set 5 _
  have u6 := u5.setCell (p := ⟨g, 5, none⟩) (Or.inr (by simp)) (.slice a3 I.length c3)
  obtain ⟨x6, h6⟩ : ∃ x, x = x5.setCell ⟨g, 5, none⟩ (.slice a3 I.length c3) := ⟨_, rfl⟩
  rw [← h6] at t6 u6 ⊢
  have t7 : Tb (x6.setCell ⟨g, 6, none⟩ (.slice a4 T.length c4)) g #[.int .u8 7, .bool false, .slice none 0 0, .string ⟨#[]⟩, .int .i64 0, .slice a3 I.length c3, .slice a4 T.length c4] := t6.set 6 _
  have u7 := u6.setCell (p := ⟨g, 6, none⟩) (Or.inr (by simp)) (.slice a4 T.length c4)
  have hS : ∀ b, Pl B lo b → b ∉ [g] := fun b hb hm => by
    simp at hm; subst hm
    rcases hb with hb | hb <;> omega
  have hPQ : ∀ b, Pl B lo b → b < w4.heap.size → (b < B ∨ w.heap.size ≤ b) := fun b hb _ => by
    rcases hb with hb | hb
    · exact Or.inl hb
    · exact Or.inr (by omega)
  exact ⟨_, rfl, t7, ⟨none, a3, a4, 0, c3, c4, rfl, Or.inl rfl, Dig.nil, RowB.upd u7 hS hPQ hI, RowB.upd u7 hS hPQ hT⟩, hu.then u7 (by simp; exact hg0)⟩

theorem belR_drop1 (I : List Tm) : belR (I.drop 1) ≤ belR I := by
  cases I with
  | nil => simp
  | cons t r => simp only [List.drop_succ_cons, List.drop_zero, belR]; omega
theorem tszs_drop (I : List Tm) (k : Nat) : tszs (I.drop k) ≤ tszs I := by
  induction I generalizing k with
  | nil => simp
  | cons t r ih =>
    cases k with
    | zero => simp
    | succ k => simp only [List.drop_succ_cons, tszs]; have := ih k; omega

set_option maxHeartbeats 4000000 in
set_option maxRecDepth 100000 in
theorem rest_many (B d b o ci ct n c : Nat) (num : Int) (neg : Bool) (s : ByteArray) (a at' : Option Addr) (I T : List Tm) (w : World) (hB : B ≤ w.heap.size) (hI : RowB (fun b => b < B) (InB (fun b => b < B) w d) w (some ⟨b, o, none⟩) I) (hT : RowB (fun b => b < B) (InB (fun b => b < B) w d) w at' T)
    (h2 : 2 ≤ I.length) (hz : tszs I ≤ 1353245080330) (hzT : tszs T ≤ 1353245080330) (hbl : I.length + belR I + (T.length + belR T) ≤ 60000) (hcap : I.length ≤ ci) (_hci : ci ≤ 9223372036854775807) :
    Calls Tryz.prog 132 #[.agg #[.int .u8 7, .bool neg, .slice a n c, .string s, .int .i64 num, .slice (some ⟨b, o, none⟩) I.length ci, .slice at' T.length ct]] w (TermP B w (d + 1) (.mk 7 0 false [] ⟨#[]⟩ (I.drop 1) T)) := by
  have tb0 : Tb ((w.alloc (.cells #[.int .u8 7, .bool neg, .slice a n c, .string s, .int .i64 num, .slice (some ⟨b, o, none⟩) I.length ci, .slice at' T.length ct] 26)).alloc (.cells #[.int .u8 0, .bool false, .slice none 0 0, .string ⟨#[]⟩, .int .i64 0, .slice none 0 0, .slice none 0 0] 26)) w.heap.size #[.int .u8 7, .bool neg, .slice a n c, .string s, .int .i64 num, .slice (some ⟨b, o, none⟩) I.length ci, .slice at' T.length ct] := (Tb.new _ _ _ rfl).old _
  have tbz : Tb ((w.alloc (.cells #[.int .u8 7, .bool neg, .slice a n c, .string s, .int .i64 num, .slice (some ⟨b, o, none⟩) I.length ci, .slice at' T.length ct] 26)).alloc (.cells #[.int .u8 0, .bool false, .slice none 0 0, .string ⟨#[]⟩, .int .i64 0, .slice none 0 0, .slice none 0 0] 26)) (w.heap.size + 1) #[.int .u8 0, .bool false, .slice none 0 0, .string ⟨#[]⟩, .int .i64 0, .slice none 0 0, .slice none 0 0] := Tb.new _ _ _ (by simp)
  have hU0 : Upd [] w ((w.alloc (.cells #[.int .u8 7, .bool neg, .slice a n c, .string s, .int .i64 num, .slice (some ⟨b, o, none⟩) I.length ci, .slice at' T.length ct] 26)).alloc (.cells #[.int .u8 0, .bool false, .slice none 0 0, .string ⟨#[]⟩, .int .i64 0, .slice none 0 0, .slice none 0 0] 26)) := ((Upd.refl [] w).alloc _).alloc _
  obtain ⟨W, hW⟩ : ∃ W, W = ((w.alloc (.cells #[.int .u8 7, .bool neg, .slice a n c, .string s, .int .i64 num, .slice (some ⟨b, o, none⟩) I.length ci, .slice at' T.length ct] 26)).alloc (.cells #[.int .u8 0, .bool false, .slice none 0 0, .string ⟨#[]⟩, .int .i64 0, .slice none 0 0, .slice none 0 0] 26)) := ⟨_, rfl⟩
  have i1 : ((I.length : Int) == 1) = false := by simp; omega
  have i2 : (1 : Int) ≤ (I.length : Int) := by omega
  have hIl : I.length ≤ 1353245080330 := Nat.le_trans (tszs_len I) hz
  have hTl : T.length ≤ 1353245080330 := Nat.le_trans (tszs_len T) hzT
  have HI : Hid (RowB (fun b => b < B) (InB (fun b => b < B) w d) w (some ⟨b, o, none⟩) I) := hI
  have HT : Hid (RowB (fun b => b < B) (InB (fun b => b < B) w d) w at' T) := hT
  clear hI hT
  go_enter Tryz.func132, Tryz.ntmps132
  go_wp2_with fail
  rw [← hW] at tb0 tbz hU0 ⊢
  have x5 : W.cell? ⟨w.heap.size, 5, none⟩ = some (.slice (some ⟨b, o, none⟩) I.length ci) := tb0.cell 5
  have x6 : W.cell? ⟨w.heap.size, 6, none⟩ = some (.slice at' T.length ct) := tb0.cell 6
  have HW : Hid (W = _) := hW
  have HTB0 : Hid (Tb W _ _) := tb0
  have HTBZ : Hid (Tb W _ _) := tbz
  have HU0 : Hid (Upd [] w W) := hU0
  clear hW tb0 tbz hU0
  have hc1 : ¬ ci = 1 := by omega
  have hlt0 : w.heap.size < W.heap.size := HTB0.out.lt
  have HF1 : Hid (∀ V g, Upd [] W V → g < V.heap.size → V.cell? ⟨g, 0, none⟩ = some (.slice (some ⟨b, o + 7, none⟩) (I.length - 1) (ci - 1)) → Calls Tryz.prog 50 #[.slice (some ⟨g, 0, none⟩) 1 1] V (FreshP B V d (I.drop 1))) := fun V g hU hg hc => by
    have hUV := HU0.out.trans hU
    have hR := (HI.out.drop 1)
    rw [Nat.one_mul] at hR
    refine fresh_one B g 0 1 (ci - 1) d (fun b => b < B) (some ⟨b, o + 7, none⟩) (I.drop 1) V hg (Nat.le_trans hB hUV.size) (by rw [hc, List.length_drop]) ?_ ?_ ?_
    · rcases hR with h | ⟨b', o', e, hp, hlt, hcc⟩
      · exact Or.inl h
      · refine Or.inr ⟨b', o', e, hp, Nat.lt_of_lt_of_le hlt hUV.size, fun i hi => ?_⟩
        obtain ⟨cs, k1, k2, k3⟩ := hcc i hi
        exact ⟨cs, k1, fun j hj => (hUV.cell (p := ⟨b', o' + (i * 7 + j), none⟩) hlt (by simp)).trans (k2 j hj), InB.upd hUV (by simp) (fun b hb _ => hb) _ _ _ k3⟩
    · have h1 := belR_drop1 I
      rw [List.length_drop]; omega
    · exact Nat.le_trans (tszs_drop I 1) hz
  have HF2 : Hid (∀ V g, Upd [] W V → g < V.heap.size → V.cell? ⟨g, 0, none⟩ = some (.slice at' T.length ct) → Calls Tryz.prog 50 #[.slice (some ⟨g, 0, none⟩) 1 1] V (FreshP B V d T)) := fun V g hU hg hc => by
    have hUV := HU0.out.trans hU
    refine fresh_one B g 0 1 ct d (fun b => b < B) at' T V hg (Nat.le_trans hB hUV.size) hc ?_ (by omega) hzT
    rcases HT.out with h | ⟨b', o', e, hp, hlt, hcc⟩
    · exact Or.inl h
    · refine Or.inr ⟨b', o', e, hp, Nat.lt_of_lt_of_le hlt hUV.size, fun i hi => ?_⟩
      obtain ⟨cs, k1, k2, k3⟩ := hcc i hi
      exact ⟨cs, k1, fun j hj => (hUV.cell (p := ⟨b', o' + (i * 7 + j), none⟩) hlt (by simp)).trans (k2 j hj), InB.upd hUV (by simp) (fun b hb _ => hb) _ _ _ k3⟩
  go_region_held3 (fun w' => w'.cell? ⟨w.heap.size, 5, none⟩ = some (.slice (some ⟨b, o, none⟩) I.length ci) ∧ w'.cell? ⟨w.heap.size, 6, none⟩ = some (.slice at' T.length ct))
    (go_keep)
    (first
      | (go_at_call 50; refine Calls.mono (HF1.out _ _ (by repeat (first | exact Upd.refl _ _ | refine Upd.drew ?_ | refine Upd.alloc ?_ _)) ?_ ?_) ?_; go_loud (first | exact nw0l _ _ _ | exact nw1l _ _ _ _ _ | exact nw2l _ _ _ _ _); go_loud (first | exact nw0 _ _ _ | exact nw1 _ _ _ _ _ | exact nw2 _ _ _ _ _); rintro e w3 ⟨a3, c3, rfl, hR3, hU3⟩; have uw3 : Hid (Upd [] W w3) := Upd.trans (by repeat (first | exact Upd.refl _ _ | refine Upd.drew ?_ | refine Upd.alloc ?_ _)) hU3; have HR3 : Hid (RowB (Pl B W.heap.size) (InB (Pl B W.heap.size) w3 d) w3 a3 (I.drop 1)) := hR3.weak (Upd.size (w := W) (S := []) (by repeat (first | exact Upd.refl _ _ | refine Upd.drew ?_ | refine Upd.alloc ?_ _))); have HU3 : Hid (Upd [] _ w3) := hU3; clear hR3 hU3; have y5 : w3.cell? ⟨w.heap.size, 5, none⟩ = some (.slice (some ⟨b, o, none⟩) I.length ci) := (uw3.out.cell (p := ⟨w.heap.size, 5, none⟩) hlt0 (by simp)).trans x5; have y6 : w3.cell? ⟨w.heap.size, 6, none⟩ = some (.slice at' T.length ct) := (uw3.out.cell (p := ⟨w.heap.size, 6, none⟩) hlt0 (by simp)).trans x6)
      | (go_at_call 50; go_loud (refine Calls.mono (HF2.out _ _ (by repeat (first | exact Upd.refl _ _ | exact uw3.out | refine Upd.drew ?_ | refine Upd.alloc ?_ _)) ?_ ?_) ?_); go_loud (first | exact nw0l _ _ _ | exact Nat.lt_of_lt_of_le (nw1l _ _ _ _ _) HU3.out.size | exact Nat.lt_of_lt_of_le (nw2l _ _ _ _ _) HU3.out.size); go_loud (first | exact nw0 _ _ _ | exact (HU3.out.cell (nw1l _ _ _ _ _) (by simp)).trans (nw1 _ _ _ _ _) | exact (HU3.out.cell (nw2l _ _ _ _ _) (by simp)).trans (nw2 _ _ _ _ _)); rintro e w4 ⟨a4, c4, rfl, hR4, hU4⟩; have uw4 : Hid (Upd [] w3 w4) := Upd.trans (by repeat (first | exact Upd.refl _ _ | refine Upd.drew ?_ | refine Upd.alloc ?_ _)) hU4; have HR4 : Hid (RowB (Pl B W.heap.size) (InB (Pl B W.heap.size) w4 d) w4 a4 T) := hR4.weak (Nat.le_trans uw3.out.size (Upd.size (w := w3) (S := []) (by repeat (first | exact Upd.refl _ _ | refine Upd.drew ?_ | refine Upd.alloc ?_ _)))); clear hR4 hU4; have q5 : w4.cell? ⟨w.heap.size, 5, none⟩ = some (.slice (some ⟨b, o, none⟩) I.length ci) := ((uw3.out.trans uw4.out).cell (p := ⟨w.heap.size, 5, none⟩) hlt0 (by simp)).trans x5; have q6 : w4.cell? ⟨w.heap.size, 6, none⟩ = some (.slice at' T.length ct) := ((uw3.out.trans uw4.out).cell (p := ⟨w.heap.size, 6, none⟩) hlt0 (by simp)).trans x6; have tb4 := (HTBZ.out.mono uw3.out (by simp)).mono uw4.out (by simp); have z0 : w4.cell? ⟨w.heap.size + 1, 0, none⟩ = some (.int .u8 0) := tb4.cell 0; have f0 : w4.frozen? ⟨w.heap.size + 1, 0, none⟩ = false := tb4.free 0; have z1 : w4.cell? ⟨w.heap.size + 1, 1, none⟩ = some (.bool false) := tb4.cell 1; have f1 : w4.frozen? ⟨w.heap.size + 1, 1, none⟩ = false := tb4.free 1; have z2 : w4.cell? ⟨w.heap.size + 1, 2, none⟩ = some (.slice none 0 0) := tb4.cell 2; have f2 : w4.frozen? ⟨w.heap.size + 1, 2, none⟩ = false := tb4.free 2; have z3 : w4.cell? ⟨w.heap.size + 1, 3, none⟩ = some (.string ⟨#[]⟩) := tb4.cell 3; have f3 : w4.frozen? ⟨w.heap.size + 1, 3, none⟩ = false := tb4.free 3; have z4 : w4.cell? ⟨w.heap.size + 1, 4, none⟩ = some (.int .i64 0) := tb4.cell 4; have f4 : w4.frozen? ⟨w.heap.size + 1, 4, none⟩ = false := tb4.free 4; have z5 : w4.cell? ⟨w.heap.size + 1, 5, none⟩ = some (.slice none 0 0) := tb4.cell 5; have f5 : w4.frozen? ⟨w.heap.size + 1, 5, none⟩ = false := tb4.free 5; have z6 : w4.cell? ⟨w.heap.size + 1, 6, none⟩ = some (.slice none 0 0) := tb4.cell 6; have f6 : w4.frozen? ⟨w.heap.size + 1, 6, none⟩ = false := tb4.free 6; have HTB4 : Hid (Tb w4 _ _) := tb4; clear tb4))
  all_goals
    have hsW : W.heap.size = w.heap.size + 2 := by rw [HW.out]; simp
    obtain ⟨W5, hW5, hT5, hin5, hU5⟩ := list_end B W.heap.size d (w.heap.size + 1) (I.length - 1) c3 T.length c4 a3 a4 (I.drop 1) T w w4 (by rw [List.length_drop]) rfl (by omega) (by omega) hB ((HU0.out.trans uw3.out).trans uw4.out) HTB4.out (RowB.upd uw4.out (by simp) (fun b hb _ => hb) HR3.out) HR4.out
    rw [← hW5]
    have HIN5 : Hid _ := hin5
    have HU5 : Hid (Upd [] w W5) := hU5
    clear z0 z1 z2 z3 z4 z5 z6 f0 f1 f2 f3 f4 f5 f6 hW5 hin5 hU5 x5 x6 y5 y6 q5 q6
    go_wp2
    exact ret_T Tryz.results132 rfl _ _ rfl hT5 rfl ⟨_, rfl, rfl, HIN5.out, HU5.out⟩

end Go.Proofs.YtnpocmhaoaigfaaGreatDoor
