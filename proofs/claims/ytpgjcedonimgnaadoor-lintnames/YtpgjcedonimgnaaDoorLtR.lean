/- The reference's Kind, by its contract: it is the program's. -/
import Derived.Test.YtpgjcedonimgnaaDoorJAB
namespace Go.Proofs.YtpgjcedonimgnaaDoor
open Go.RowKit

set_option maxHeartbeats 4000000 in
set_option maxRecDepth 100000 in
theorem among_any (s : ByteArray) (a : Option Addr) (c : Nat) (L : List ByteArray) (w : World) (hl : L.length ≤ 100) (hS : StrAt w a L) : Calls Tryd.prog 19 #[.string s, .slice a L.length c] w fun e w' => e = .returned (.bool (inL s L)) ∧ w' = w := by
  obtain ⟨R, hR⟩ : ∃ R, R = inL s L := ⟨_, rfl⟩
  rw [← hR]
  have HR : Hid (R = inL s L) := hR
  clear hR
  go_enter Tryd.func19, Tryd.ntmps19
  go_wp2_with fail
  go_loopw [5] (fun j wr => ∃ i : Nat, i ≤ L.length ∧ j = .int .i64 i ∧ wr = w ∧ inL s (L.take i) = false) (fun j _ => L.length - (intOf j).toNat)
  case atStart => exact ⟨0, by omega, rfl, rfl, rfl⟩
  case round =>
    obtain ⟨i, hi, rfl, rfl, hN⟩ := hrel
    have HN : Hid (inL s (L.take i) = false) := hN
    clear hN
    by_cases hlt : i < L.length
    · rcases hS with h0 | ⟨b, o, rfl, hc⟩
      · rw [h0] at hlt; simp at hlt
      have hci := hc i hlt
      have hlt' : (i : Int) < (L.length : Int) := by omega
      obtain ⟨x, hx⟩ : ∃ x, x = L[i] := ⟨_, rfl⟩
      rw [← hx] at hci
      have HT : Hid (inL s (L.take (i + 1)) = (inL s (L.take i) || (x.toList == s.toList))) := by
        show _ = _
        rw [hx, List.take_succ_eq_append_getElem hlt]
        unfold inL
        rw [List.any_append]
        simp
      have HL : Hid (inL s (L.take (i + 1)) = true → inL s L = true) := fun h => by
        unfold inL at h ⊢
        rw [List.any_eq_true] at h ⊢
        obtain ⟨y, h1, h2⟩ := h
        exact ⟨y, List.mem_of_mem_take h1, h2⟩
      clear hx hc
      cases hxs : (x.toList == s.toList) with
      | true =>
        go_wp2_with fail
        go_ret
        have e : inL s L = true := HL.out (by rw [HT.out, hxs, Bool.or_true])
        refine ⟨?_, rfl⟩
        rw [HR.out, e]
        rfl
      | false =>
        go_wp2_with fail
        first
          | exact ⟨⟨i + 1, by omega, by simp, trivial, by rw [HT.out, HN.out, hxs]; rfl⟩, by simp [intOf]; omega⟩
          | (go_roundw
             case rel => exact ⟨i + 1, by omega, by go_num, rfl, by rw [HT.out, HN.out, hxs]; rfl⟩
             case measure => simp [intOf]; omega)
    · have hii : i = L.length := by omega
      subst hii
      have e : inL s L = false := by have := HN.out; rwa [List.take_length] at this
      have e2 : R = false := by rw [HR.out, e]
      subst e2
      clear hlt hi
      go_wp2_with fail
      go_ret
      exact ⟨rfl, rfl⟩

/-- A row of strings in new memory. -/
theorem new_strs (w : World) (L : List ByteArray) (cs : Array Value) (T : TypeId) (h : cs = (L.map Value.string).toArray) : StrAt (w.alloc (.cells cs T)) (some ⟨w.heap.size, 0, none⟩) L := by
  refine Or.inr ⟨w.heap.size, 0, rfl, fun i hi => ?_⟩
  subst h
  rw [cell_of_row _ _ _ _ _ _ (heap_alloc_new w _)]
  simp [hi]

theorem new_strs2 (w : World) (L : List ByteArray) (cs : Array Value) (T : TypeId) (h : cs = (L.map Value.string).toArray) {g : Nat} (hg : w.heap.size = g) : StrAt (w.alloc (.cells cs T)) (some ⟨g, 0, none⟩) L := by subst hg; exact new_strs w L cs T h

def kindR (s : ByteArray) (a : Int) : Nat :=
  if a = 0 then (if inL s (bltT 3 0) then 3 else 0)
  else if a = 1 then (if inL s (bltT 2 1) then 2 else if inL s (bltT 1 1) then 1 else if inL s (bltT 3 1) then 3 else 0)
  else if a = 2 then (if inL s (bltT 2 2) then 2 else if inL s (bltT 1 2) then 1 else if inL s (bltT 3 2) then 3 else 0)
  else if a = 3 then (if inL s (bltT 1 3) then 1 else 0) else 0
theorem inL_apart (s : ByteArray) (A B : List ByteArray) (h : (A.all fun x => B.all fun y => !(x.toList == y.toList)) = true) (h1 : inL s A = true) : inL s B = false := by
  cases h2 : inL s B with
  | false => rfl
  | true =>
    exfalso
    unfold inL at h1 h2
    rw [List.any_eq_true] at h1 h2
    obtain ⟨x, hx, ex⟩ := h1
    obtain ⟨y, hy, ey⟩ := h2
    have := List.all_eq_true.1 (List.all_eq_true.1 h x hx) y hy
    rw [beq_iff_eq] at ex ey
    rw [ex, ey] at this
    simp at this
theorem kind_same (s : ByteArray) (a : Int) : kindR s a = kindS s a := by
  unfold kindS kindR
  by_cases h : a < 0 ∨ 4 ≤ a
  · rw [if_pos h, if_neg (by omega), if_neg (by omega), if_neg (by omega), if_neg (by omega)]
  · rw [if_neg h]
    have h4 : a = 0 ∨ a = 1 ∨ a = 2 ∨ a = 3 := by omega
    have e0 : ∀ n, inL s (bltT 0 n) = false := fun n => by unfold bltT; rfl
    rcases h4 with rfl | rfl | rfl | rfl
    · simp [kindF, bltT, inL]
    · have ap := inL_apart s (bltT 1 1) (bltT 2 1) (by kernel_rfl)
      simp only [kindF, e0, Int.toNat_one]
      by_cases h1 : inL s (bltT 1 1) = true
      · simp [h1, ap h1]
      · simp [h1]
    · have ap := inL_apart s (bltT 1 2) (bltT 2 2) (by kernel_rfl)
      simp only [kindF, e0, show (2 : Int).toNat = 2 from rfl]
      by_cases h1 : inL s (bltT 1 2) = true
      · simp [h1, ap h1]
      · simp [h1]
    · simp [kindF, bltT, inL]

set_option maxHeartbeats 4000000 in
set_option maxRecDepth 100000 in
theorem rKind_any (s : ByteArray) (a : Int) (w : World) : Calls Tryd.prog 9 #[.string s, .int .i64 a] w fun e w' => e = .returned (.int .i64 (kindS s a : Nat)) ∧ Upd [] w w' := by
  obtain ⟨R, hR⟩ : ∃ R, R = kindS s a := ⟨_, rfl⟩
  have HR : Hid (R = kindR s a) := hR.trans (kind_same s a).symm
  rw [← hR]
  clear hR
  have fin : ∀ (n : Nat), kindR s a = n → R = n := fun n h => HR.out.trans h
  clear HR
  by_cases h0 : a = 0
  · subst h0
    go_enter Tryd.func9, Tryd.ntmps9
    go_wp2_with fail
    refine Calls.mono (among_any s _ _ (bltT 3 0) _ (by decide) (new_strs w (bltT 3 0) _ _ rfl)) ?_
    rintro e w1 ⟨rfl, rfl⟩
    cases i0 : inL s (bltT 3 0) with
    | true =>
      obtain rfl := fin 3 (by unfold kindR; simp [i0])
      clear fin
      go_wp2_with fail
      go_ret
      exact ⟨rfl, (Upd.refl [] w).alloc _⟩
    | false =>
      obtain rfl := fin 0 (by unfold kindR; simp [i0])
      clear fin
      go_wp2_with fail
      go_ret
      exact ⟨rfl, (Upd.refl [] w).alloc _⟩
  by_cases h3 : a = 3
  · subst h3
    have hse : (⟨#[115, 101, 116, 101, 108, 101, 109, 101, 110, 116]⟩ : ByteArray).toList = [115, 101, 116, 101, 108, 101, 109, 101, 110, 116] := by kernel_rfl
    have hb : inL s (bltT 1 3) = ((⟨#[115, 101, 116, 101, 108, 101, 109, 101, 110, 116]⟩ : ByteArray).toList == s.toList) := by
      unfold inL bltT
      simp
    rw [hse] at hb
    clear hse
    cases i0 : inL s (bltT 1 3) with
    | true =>
      obtain rfl := fin 1 (by unfold kindR; simp [i0])
      rw [i0] at hb
      have hb2 : (s.toList == [115, 101, 116, 101, 108, 101, 109, 101, 110, 116]) = true := by rw [beq_iff_eq]; exact ((beq_iff_eq.1 hb.symm)).symm
      clear fin hb i0
      go_enter Tryd.func9, Tryd.ntmps9
      go_wp2_with fail
      go_ret
      exact ⟨rfl, Upd.refl [] w⟩
    | false =>
      obtain rfl := fin 0 (by unfold kindR; simp [i0])
      rw [i0] at hb
      have hb2 : (s.toList == [115, 101, 116, 101, 108, 101, 109, 101, 110, 116]) = false := by
        rw [beq_eq_false_iff_ne]
        exact fun e => beq_eq_false_iff_ne.1 hb.symm e.symm
      clear fin hb i0
      go_enter Tryd.func9, Tryd.ntmps9
      go_wp2_with fail
      go_ret
      exact ⟨rfl, Upd.refl [] w⟩
  by_cases h1 : a = 1
  · subst h1
    go_enter Tryd.func9, Tryd.ntmps9
    go_wp2_with fail
    refine Calls.mono (among_any s _ _ (bltT 2 1) _ (by decide) (new_strs w (bltT 2 1) _ _ rfl)) ?_
    rintro e w1 ⟨rfl, rfl⟩
    cases i2 : inL s (bltT 2 1) with
    | true =>
      obtain rfl := fin 2 (by unfold kindR; simp [i2])
      clear fin
      go_wp2_with fail
      go_ret
      exact ⟨rfl, (Upd.refl [] w).alloc _⟩
    | false =>
    go_wp2_with fail
    refine Calls.mono (among_any s _ _ (bltT 1 1) _ (by decide) (new_strs2 (w.alloc (.cells ((bltT 2 1).map Value.string).toArray 9)) (bltT 1 1) _ _ rfl (by simp))) ?_
    rintro e w1 ⟨rfl, rfl⟩
    cases i1 : inL s (bltT 1 1) with
    | true =>
      obtain rfl := fin 1 (by unfold kindR; simp [i2, i1])
      clear fin
      go_wp2_with fail
      go_ret
      exact ⟨rfl, ((Upd.refl [] w).alloc _).alloc _⟩
    | false =>
    go_wp2_with fail
    refine Calls.mono (among_any s _ _ (bltT 3 1) _ (by decide) (new_strs2 ((w.alloc (.cells ((bltT 2 1).map Value.string).toArray 9)).alloc (.cells ((bltT 1 1).map Value.string).toArray 9)) (bltT 3 1) _ _ rfl (by simp))) ?_
    rintro e w1 ⟨rfl, rfl⟩
    cases i3 : inL s (bltT 3 1) with
    | true =>
      obtain rfl := fin 3 (by unfold kindR; simp [i2, i1, i3])
      clear fin
      go_wp2_with fail
      go_ret
      exact ⟨rfl, (((Upd.refl [] w).alloc _).alloc _).alloc _⟩
    | false =>
      obtain rfl := fin 0 (by unfold kindR; simp [i2, i1, i3])
      clear fin
      go_wp2_with fail
      go_ret
      exact ⟨rfl, (((Upd.refl [] w).alloc _).alloc _).alloc _⟩
  by_cases h2 : a = 2
  · subst h2
    go_enter Tryd.func9, Tryd.ntmps9
    go_wp2_with fail
    refine Calls.mono (among_any s _ _ (bltT 2 2) _ (by decide) (new_strs w (bltT 2 2) _ _ rfl)) ?_
    rintro e w1 ⟨rfl, rfl⟩
    cases i2 : inL s (bltT 2 2) with
    | true =>
      obtain rfl := fin 2 (by unfold kindR; simp [i2])
      clear fin
      go_wp2_with fail
      go_ret
      exact ⟨rfl, (Upd.refl [] w).alloc _⟩
    | false =>
    go_wp2_with fail
    refine Calls.mono (among_any s _ _ (bltT 1 2) _ (by decide) (new_strs2 (w.alloc (.cells ((bltT 2 2).map Value.string).toArray 9)) (bltT 1 2) _ _ rfl (by simp))) ?_
    rintro e w1 ⟨rfl, rfl⟩
    cases i1 : inL s (bltT 1 2) with
    | true =>
      obtain rfl := fin 1 (by unfold kindR; simp [i2, i1])
      clear fin
      go_wp2_with fail
      go_ret
      exact ⟨rfl, ((Upd.refl [] w).alloc _).alloc _⟩
    | false =>
    go_wp2_with fail
    refine Calls.mono (among_any s _ _ (bltT 3 2) _ (by decide) (new_strs2 ((w.alloc (.cells ((bltT 2 2).map Value.string).toArray 9)).alloc (.cells ((bltT 1 2).map Value.string).toArray 9)) (bltT 3 2) _ _ rfl (by simp))) ?_
    rintro e w1 ⟨rfl, rfl⟩
    cases i3 : inL s (bltT 3 2) with
    | true =>
      obtain rfl := fin 3 (by unfold kindR; simp [i2, i1, i3])
      clear fin
      go_wp2_with fail
      go_ret
      exact ⟨rfl, (((Upd.refl [] w).alloc _).alloc _).alloc _⟩
    | false =>
      obtain rfl := fin 0 (by unfold kindR; simp [i2, i1, i3])
      clear fin
      go_wp2_with fail
      go_ret
      exact ⟨rfl, (((Upd.refl [] w).alloc _).alloc _).alloc _⟩
  obtain rfl := fin 0 (by unfold kindR; simp [h0, h1, h2, h3])
  clear fin
  have e0 : (a == 0) = false := beq_eq_false_iff_ne.2 h0
  have e1 : (a == 1) = false := beq_eq_false_iff_ne.2 h1
  have e2 : (a == 2) = false := beq_eq_false_iff_ne.2 h2
  have e3 : (a == 3) = false := beq_eq_false_iff_ne.2 h3
  go_enter Tryd.func9, Tryd.ntmps9
  go_wp2_with fail
  go_ret
  exact ⟨rfl, Upd.refl [] w⟩

end Go.Proofs.YtpgjcedonimgnaaDoor
