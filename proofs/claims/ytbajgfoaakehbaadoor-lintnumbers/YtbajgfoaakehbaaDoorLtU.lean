/- lint's clause of one variable. -/
import Derived.Test.YtbajgfoaakehbaaDoorLtT
namespace Go.Proofs.YtbajgfoaakehbaaDoor
open Go.RowKit

/-- X is in scope. -/
def HasX (w : World) (b bm b0 : Nat) : Prop := Scp w b bm b0 ∧ w.heap[bm]? = some (.map #[{ key := .string ⟨#[88]⟩, val := .int .i64 1, born := 0 }] 1)
theorem HasX.mono {w w' : World} {b bm b0 : Nat} (h : HasX w b bm b0) (hu : Upd [] w w') : HasX w' b bm b0 :=
  ⟨h.1.mono hu (by simp) (by simp), (hu.block bm (lt_of_block h.2) (by simp)).trans h.2⟩
/-- How a check goes out: well, or with the fault. -/
def Out2 : Bool → Ending → Prop
  | false, e => ∃ u, e = .returned u
  | true, e => e = .panicked [{ v := .iface 33 (.agg #[.int .i64 212, .int .i64 7]), recovered := false }]
/-- The two names. -/
def isE (bad : Bool) (s : ByteArray) (p : Int) : Prop := (bad = false ∧ s = ⟨#[88]⟩ ∧ p = 0) ∨ (bad = true ∧ s = ⟨#[89]⟩ ∧ p = 7)
theorem variable_E (bad : Bool) (s : ByteArray) (p : Int) (hE : isE bad s p) (b bm b0 : Nat) (w : World) (h : HasX w b bm b0) : Calls Tryd.prog 47 #[.agg #[.int .u8 3, .string s, .int .i64 0, .int .i64 p, .slice none 0 0], .pointer (some ⟨b, 0, none⟩)] w fun e w' => Out2 bad e ∧ Upd [] w w' := by
  rcases hE with ⟨rfl, rfl, rfl⟩ | ⟨rfl, rfl, rfl⟩
  · exact (variable_X b bm b0 w h.1 h.2).mono fun e w' h => h
  · exact (variable_Y b bm b0 w h.1 h.2).mono fun e w' h => h

set_option maxHeartbeats 1000000 in
set_option maxRecDepth 100000 in
theorem expression_E (bad : Bool) (s : ByteArray) (p : Int) (hE : isE bad s p) (bc b bm b0 : Nat) (w : World) (h : HasX w b bm b0) : Calls Tryd.prog 54 #[.pointer (some ⟨bc, 0, none⟩), .agg #[.int .u8 3, .string s, .int .i64 0, .int .i64 p, .slice none 0 0], .pointer (some ⟨b, 0, none⟩)] w fun e w' => Out2 bad e ∧ Upd [] w w' := by
  have HE : Hid (isE bad s p) := hE
  have HX : Hid (HasX w b bm b0) := h
  clear hE h
  obtain ⟨O, hO⟩ : ∃ O, O = Out2 bad := ⟨_, rfl⟩
  have HO : Hid (O = Out2 bad) := hO
  rw [← hO]
  clear hO
  go_enter Tryd.func54, Tryd.ntmps54
  go_wp2_with (first | (refine load_T _ rfl _ rfl _ _ rfl (Tb.new _ _ _ (by simp)) rfl ?_) | fail)
  have U : Hid (Upd [] w ((w.alloc (.cells #[.pointer (some ⟨bc, 0, none⟩)] 48)).alloc (.cells #[.int .u8 3, .string s, .int .i64 0, .int .i64 p, .slice none 0 0] 29))) := ((Upd.refl [] w).alloc _).alloc _
  refine Calls.mono (variable_E bad s p HE.out b bm b0 _ (HX.out.mono U.out)) ?_
  rintro e w1 ⟨he, hu⟩
  have HU : Hid (Upd [] w w1) := U.out.trans hu
  clear U hu HX HE
  have hO := HO.out
  clear HO
  subst hO
  cases bad
  · obtain ⟨u, rfl⟩ := he
    go_wp2_with fail
    exact bodyPost_end (results_none rfl _ _ _) rfl ⟨⟨_, rfl⟩, HU.out⟩
  · cases he
    go_wp2_with fail
    exact ⟨rfl, rfl, HU.out⟩
set_option maxHeartbeats 1000000 in
set_option maxRecDepth 100000 in
theorem item_E (bad : Bool) (s : ByteArray) (p : Int) (hE : isE bad s p) (bc b bm b0 : Nat) (w : World) (h : HasX w b bm b0) : Calls Tryd.prog 48 #[.pointer (some ⟨bc, 0, none⟩), .agg #[.int .u8 3, .string s, .int .i64 0, .int .i64 p, .slice none 0 0], .pointer (some ⟨b, 0, none⟩)] w fun e w' => Out2 bad e ∧ Upd [] w w' := by
  have HE : Hid (isE bad s p) := hE
  have HX : Hid (HasX w b bm b0) := h
  clear hE h
  obtain ⟨O, hO⟩ : ∃ O, O = Out2 bad := ⟨_, rfl⟩
  have HO : Hid (O = Out2 bad) := hO
  rw [← hO]
  clear hO
  go_enter Tryd.func48, Tryd.ntmps48
  go_wp2_with (first | (refine load_T _ rfl _ rfl _ _ rfl (Tb.new _ _ _ (by simp)) rfl ?_) | fail)
  have U : Hid (Upd [] w (w.alloc (.cells #[.int .u8 3, .string s, .int .i64 0, .int .i64 p, .slice none 0 0] 29))) := (Upd.refl [] w).alloc _
  refine Calls.mono (expression_E bad s p HE.out bc b bm b0 _ (HX.out.mono U.out)) ?_
  rintro e w1 ⟨he, hu⟩
  have HU : Hid (Upd [] w w1) := U.out.trans hu
  clear U hu HX HE
  have hO := HO.out
  clear HO
  subst hO
  cases bad
  · obtain ⟨u, rfl⟩ := he
    go_wp2_with fail
    exact bodyPost_ret (results_none rfl _ _ _) rfl ⟨⟨_, rfl⟩, HU.out⟩
  · cases he
    go_wp2_with fail
    exact ⟨rfl, rfl, HU.out⟩
set_option maxHeartbeats 1000000 in
set_option maxRecDepth 100000 in
theorem body_E (bad : Bool) (s : ByteArray) (p : Int) (hE : isE bad s p) (bc b bm b0 b2 : Nat) (w : World) (h : HasX w b bm b0) (t2 : Tb w b2 #[.int .u8 3, .string s, .int .i64 0, .int .i64 p, .slice none 0 0]) : Calls Tryd.prog 41 #[.pointer (some ⟨bc, 0, none⟩), .agg #[.int .u8 19, .string ⟨#[]⟩, .int .i64 0, .int .i64 0, .slice (some ⟨b2, 0, none⟩) 1 1], .pointer (some ⟨b, 0, none⟩)] w fun e w' => Out2 bad e ∧ Upd [] w w' := by
  have HE : Hid (isE bad s p) := hE
  have HX : Hid (HasX w b bm b0) := h
  clear hE h
  obtain ⟨O, hO⟩ : ∃ O, O = Out2 bad := ⟨_, rfl⟩
  have HO : Hid (O = Out2 bad) := hO
  rw [← hO]
  clear hO
  go_enter Tryd.func41, Tryd.ntmps41
  go_wp2_with fail
  obtain ⟨w1, hw1⟩ : ∃ w1, w1 = w.alloc (.cells #[.int .u8 19, .string ⟨#[]⟩, .int .i64 0, .int .i64 0, .slice (some ⟨b2, 0, none⟩) 1 1] 29) := ⟨_, rfl⟩
  have U1 : Hid (Upd [] w w1) := by rw [hw1]; exact (Upd.refl [] w).alloc _
  have T2 : Tb w1 b2 #[.int .u8 3, .string s, .int .i64 0, .int .i64 p, .slice none 0 0] := t2.mono U1.out (by simp)
  have x0 : w1.cell? ⟨b2, 0, none⟩ = some (.int .u8 3) := T2.cell 0
  have x1 : w1.cell? ⟨b2, 1, none⟩ = some (.string s) := T2.cell 1
  have x2 : w1.cell? ⟨b2, 2, none⟩ = some (.int .i64 0) := T2.cell 2
  have x3 : w1.cell? ⟨b2, 3, none⟩ = some (.int .i64 p) := T2.cell 3
  have x4 : w1.cell? ⟨b2, 4, none⟩ = some (.slice none 0 0) := T2.cell 4
  have tz : Tb (w1.alloc (.cells #[.int .u8 0, .string ⟨#[]⟩, .int .i64 0, .int .i64 0, .slice none 0 0] 29)) w1.heap.size #[.int .u8 0, .string ⟨#[]⟩, .int .i64 0, .int .i64 0, .slice none 0 0] := Tb.new _ _ _ rfl
  have HUZ : Hid (Upd [] w1 (w1.alloc (.cells #[.int .u8 0, .string ⟨#[]⟩, .int .i64 0, .int .i64 0, .slice none 0 0] 29))) := (Upd.refl [] w1).alloc _
  rw [← hw1]
  clear hw1 t2
  refine wp_loop_rounds 2 ?_
  rw [rounds_succ]
  go_wp2_with (first
    | (refine store_T _ rfl _ _ rfl _ #[.int .u8 3, .string s, .int .i64 0, .int .i64 p, .slice none 0 0] _ rfl rfl tz rfl rfl (by simp [Value.oneCell']) ?_; intro w3 t3 u3; have U3 : Hid (Upd [] w1 w3) := HUZ.out.then u3 (by simp))
    | (refine load_T _ rfl _ rfl _ _ rfl t3 rfl ?_)
    | fail)
  refine Calls.mono (item_E bad s p HE.out bc b bm b0 w3 (HX.out.mono (U1.out.trans U3.out))) ?_
  rintro e w4 ⟨he, hu⟩
  have HU : Hid (Upd [] w w4) := (U1.out.trans U3.out).trans hu
  clear U1 U3 hu HX HE T2 x0 x1 x2 x3 x4 tz HUZ t3 u3
  have hO := HO.out
  clear HO
  subst hO
  cases bad
  · obtain ⟨u, rfl⟩ := he
    go_wp2_with fail
    rw [rounds_succ]
    go_wp2_with fail
    exact bodyPost_end (results_none rfl _ _ _) rfl ⟨⟨_, rfl⟩, HU.out⟩
  · cases he
    go_wp2_with fail
    exact ⟨rfl, rfl, HU.out⟩

end Go.Proofs.YtbajgfoaakehbaaDoor
