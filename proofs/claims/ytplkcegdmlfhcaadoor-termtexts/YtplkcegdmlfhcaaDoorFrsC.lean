/- cloning's closure and fresh's: by their contracts. -/
import Derived.Test.YtplkcegdmlfhcaaDoorJJ
import Derived.Deep.AppendLies
namespace Go.Proofs.YtplkcegdmlfhcaaDoor
open Go.RowKit

theorem addr_block (a : Addr) (j : Nat) : (a.add j).block = a.block := by unfold Addr.add; split <;> rfl
theorem Rd.upd {S : List Nat} {w w' : World} {a : Option Addr} {n sz : Nat} {xs : List Value} (h : Rd w a n sz xs) (hu : Upd S w w') (hb : ∀ ad, a = some ad → n ≠ 0 → ad.block ∉ S) : Rd w' a n sz xs :=
  ⟨h.len, h.nil, h.one, fun ad e j u hj => by
    have h1 := h.get ad e j u hj
    exact (hu.cell (World.block_lt_of_cell? _ _ h1) (by rw [addr_block]; exact hb ad e (fun h0 => by have := h.len; rw [h0, Nat.zero_mul] at this; rw [List.eq_nil_of_length_eq_zero this] at hj; simp at hj))).trans h1⟩
theorem tupleret {a b c d : Value} (h1 : a = c) (h2 : b = d) : Ending.returned (.tuple #[a, b]) = .returned (.tuple #[c, d]) := by rw [h1, h2]

set_option maxHeartbeats 4000000 in
set_option maxRecDepth 100000 in
/-- A row is cloned, as long as there is something left. -/
theorem cln_any (a : Option Addr) (n c gl gm lf : Nat) (xs : List Value) (w : World) (h : Rd w a n 7 xs) (hb : ∀ ad, a = some ad → n ≠ 0 → ad.block ≠ gl) (hl : IntB w gl lf) (hlf : n ≤ lf) (hlf2 : lf ≤ 65536) :
    Calls Tryd.prog 70 #[.slice a n c, .pointer (some ⟨gl, 0, none⟩), .pointer (some ⟨gm, 0, none⟩)] w fun e w' => ∃ v, e = .returned (.tuple #[v, .bool (decide (0 < n))]) ∧ Own w' w.heap.size 26 7 n v xs ∧ IntB w' gl ((lf - n : Nat) : Int) ∧ Upd [gl] w w' := by
  have y0 : w.cell? ⟨gl, 0, none⟩ = some (.int .i64 (lf : Int)) := hl.cell
  have z0 : w.frozen? ⟨gl, 0, none⟩ = false := hl.free
  have hsub : IntKind.i64.wrap ((lf : Int) - (n : Int)) = ((lf - n : Nat) : Int) := by rw [IntKind.wrap_i64]; omega
  obtain ⟨m, hm⟩ : ∃ m, m = lf - n := ⟨_, rfl⟩
  rw [← hm] at hsub ⊢
  have hB1 : IntB (w.setCell ⟨gl, 0, none⟩ (.int .i64 (m : Int))) gl (m : Int) := hl.set _
  have hU1 : Upd [gl] w (w.setCell ⟨gl, 0, none⟩ (.int .i64 (m : Int))) := (Upd.refl [gl] w).setCell (Or.inr (by simp)) _
  have y1 : (w.setCell ⟨gl, 0, none⟩ (.int .i64 (m : Int))).cell? ⟨gl, 0, none⟩ = some (.int .i64 (m : Int)) := hB1.cell
  have HC : Hid _ := CloneT_any a n c xs _ (h.upd hU1 (fun ad e h0 => by simp; exact hb ad e h0)) (by omega)
  have HB1 : Hid (IntB _ gl (m : Int)) := hB1
  have HU1 : Hid (Upd [gl] w _) := hU1
  have hsz : (w.setCell ⟨gl, 0, none⟩ (.int .i64 (m : Int))).heap.size = w.heap.size := by simp
  have hm0 : decide ((m : Int) ≥ 0) = true := by simp
  have hm1 : (0 : Int) ≤ (m : Int) := by omega
  clear h hl hB1 hU1
  by_cases h0 : n = 0
  · subst h0
    have hm2 : m = lf := by omega
    subst hm2
    clear hm hsub
    go_enter Tryd.func70, Tryd.ntmps70
    go_wp2_with fail
    refine Calls.mono HC.out ?_
    rintro e w2 ⟨v, rfl, hO, hU2⟩
    rw [hsz] at hO
    go_wp2
    go_ret2
    exact ⟨v, rfl, hO, HB1.out.mono hU2 (by simp), HU1.out.then hU2 (by simp)⟩
  · have n0 : ((n : Int) == 0) = false := by simp; omega
    have n1 : (0 : Int) < (n : Int) := by omega
    have hd : decide (0 < n) = true := by simp; omega
    clear hm h0
    go_enter Tryd.func70, Tryd.ntmps70
    go_wp2_with fail
    refine Calls.mono HC.out ?_
    rintro e w2 ⟨v, rfl, hO, hU2⟩
    rw [hsz] at hO
    go_wp2
    go_ret2
    exact ⟨v, tupleret rfl (by simp <;> omega), hO, HB1.out.mono hU2 (by simp), HU1.out.then hU2 (by simp)⟩

theorem info_terms : (Tryd.prog.info? 24).map (fun i => (i.zero, i.size, i.bytes)) = some (some (.slice none 0 0), 1, 24) := by kernel_rfl
theorem FunB.set {w : World} {b : Nat} {v : Value} {T : TypeId} (h : FunB w b v T) (u : Value) : FunB (w.setCell ⟨b, 0, none⟩ u) b u T := by
  unfold FunB
  rw [heap_setCell_same w b 0 _ _ _ h]
  rfl
theorem FunB.free {w : World} {b : Nat} {v : Value} {T : TypeId} (h : FunB w b v T) : w.frozen? ⟨b, 0, none⟩ = false := frozen_of_row w b 0 _ _ h
theorem FunB.ne {w : World} {b b' : Nat} {v v' : Value} {T T' : TypeId} (h : FunB w b v T) (h' : FunB w b' v' T') (hT : T ≠ T') : b ≠ b' := fun e => by
  subst e
  have := h.symm.trans h'
  simp at this
  exact hT this.2
theorem IntB.fun {w : World} {b : Nat} {n : Int} (h : IntB w b n) : FunB w b (.int .i64 n) 3 := h
/-- A row of one's own lies in no block of another type. -/
theorem own_ne {w : World} {base : Nat} {T T' : TypeId} {sz n b : Nat} {v u : Value} {xs : List Value} (h : w.ownsRow base T sz v n xs) (hb : FunB w b u T') (hT : T ≠ T') : v.ownBlock ≠ some b := fun e => by
  obtain ⟨_, ⟨rfl, _⟩ | ⟨g, cap, cur, rfl, _, hh, _⟩⟩ := h
  · cases e
  · simp only [Value.ownBlock, Option.some.injEq] at e
    subst e
    have := hh.symm.trans hb
    simp at this
    exact hT this.2
theorem own_upd {S : List Nat} {w w' : World} {base : Nat} {T : TypeId} {sz n : Nat} {v : Value} {xs : List Value} (h : w.ownsRow base T sz v n xs) (hu : Upd S w w') (hn : ∀ x, v.ownBlock = some x → x ∉ S) : w'.ownsRow base T sz v n xs := by
  obtain ⟨h0, h1 | ⟨g, cap, cur, hv, hb, hh, h2⟩⟩ := h
  · exact ⟨h0, Or.inl h1⟩
  · exact ⟨h0, Or.inr ⟨g, cap, cur, hv, hb, (hu.block g (lt_of_block hh) (hn g (by rw [hv]; rfl))).trans hh, h2⟩⟩

theorem own_form {w : World} {base : Nat} {T : TypeId} {sz n : Nat} {v : Value} {xs : List Value} (h : w.ownsRow base T sz v n xs) : ∃ a c, v = .slice a n c := by
  obtain ⟨_, ⟨rfl, rfl⟩ | ⟨g, cap, cur, rfl, _⟩⟩ := h
  · exact ⟨none, 0, rfl⟩
  · exact ⟨_, _, rfl⟩
def InsP (w : World) (gl gt lf base n : Nat) (xs ys : List Value) (tv : Value) (e : Ending) (w' : World) : Prop := ∃ v tv', e = .returned v ∧ Own w' w.heap.size 26 7 n v xs ∧ IntB w' gl ((lf - n : Nat) : Int) ∧ FunB w' gt tv' 68 ∧ w'.ownsRow base 24 1 tv' (if 0 < n then ys ++ [v] else ys).length (if 0 < n then ys ++ [v] else ys) ∧ Upd ([gl, gt] ++ tv.ownBlock.toList) w w'

set_option maxHeartbeats 4000000 in
set_option maxRecDepth 100000 in
/-- What is inside a term is cloned, and set down to be gone through, if there is something in it. -/
theorem inside_any (a : Option Addr) (n c gl gm gc gt lf base : Nat) (xs ys : List Value) (tv : Value) (w : World) (h : Rd w a n 7 xs) (hb : ∀ ad, a = some ad → n ≠ 0 → ad.block ≠ gl) (hl : IntB w gl lf) (hlf : n ≤ lf) (hlf2 : lf ≤ 65536)
    (hF : FunB w gc (.func (.func 70) #[] #[.pointer (some ⟨gl, 0, none⟩), .pointer (some ⟨gm, 0, none⟩)]) 69) (hT : FunB w gt tv 68) (hY : w.ownsRow base 24 1 tv ys.length ys) (hys : ys.length ≤ 1000000) (hbase : base ≤ w.heap.size) :
    Calls Tryd.prog 50 #[.slice a n c, .pointer (some ⟨gc, 0, none⟩), .pointer (some ⟨gt, 0, none⟩)] w (InsP w gl gt lf base n xs ys tv) := by
  have y0 : w.cell? ⟨gc, 0, none⟩ = some (.func (.func 70) #[] #[.pointer (some ⟨gl, 0, none⟩), .pointer (some ⟨gm, 0, none⟩)]) := hF.cell
  have HC : Hid _ := cln_any a n c gl gm lf xs w h hb hl hlf hlf2
  have HT : Hid (FunB w gt tv 68) := hT
  have HY : Hid (w.ownsRow base 24 1 tv ys.length ys) := hY
  have hgt : gt ≠ gl := hT.ne hl.fun (by decide)
  have hnl := own_ne hY hl.fun (by decide)
  have hnt := own_ne hY hT (by decide)
  have hcall : ∀ args w, (callFunc 70 args).run Tryd.prog w = .ok (.enter 70 args) w := Tryd.call70
  obtain ⟨i0, hi, hz0, hz1, hz2⟩ := info_parts info_terms
  clear h hl hF hT hY
  go_enter Tryd.func50, Tryd.ntmps50
  go_wp2_with fail
  refine Calls.mono HC.out ?_
  rintro e w2 ⟨v, rfl, hO, hB2, hU2⟩
  have hT2 : FunB w2 gt tv 68 := HT.out.mono hU2 (by simp; exact hgt)
  have hY2 : w2.ownsRow base 24 1 tv ys.length ys := own_upd HY.out hU2 (fun x hx => by simp; intro e; subst e; exact hnl hx)
  have HO : Hid (Own w2 w.heap.size 26 7 n v xs) := hO
  have HB2 : Hid (IntB w2 gl _) := hB2
  have HU2 : Hid (Upd [gl] w w2) := hU2
  clear hO hB2 hU2
  by_cases h0 : n = 0
  · subst h0
    have HT2 : Hid (FunB w2 gt tv 68) := hT2
    have HY2 : Hid (w2.ownsRow base 24 1 tv ys.length ys) := hY2
    clear hT2 hY2
    go_wp2
    go_ret
    exact ⟨v, tv, rfl, HO.out, HB2.out, HT2.out, by simpa using HY2.out, (Upd.refl _ w).then HU2.out (by simp)⟩
  · have n1 : (0 : Int) < (n : Int) := by omega
    have n2 : decide (0 < n) = true := by simp; omega
    have yt : w2.cell? ⟨gt, 0, none⟩ = some tv := hT2.cell
    obtain ⟨_, a', c', hv⟩ := HO.out
    subst hv
    have hsz2 := HU2.out.size
    go_wp2_with (first
      | (at_builtin; (refine wpList_append_own _ rfl _ _ 68 rfl base 24 i0 _ 1 24 Tryd.underlying68 hi hz0 hz1 hz2 rfl (by decide) tv _ _ rfl (hY2.alloc _) ⟨w2.heap.size, 0, none⟩ 1 1 [.slice a' n c'] rfl rfl (World.news_of_block (heap_alloc_new _ _)) (by intro u hu; simp at hu; subst hu; rfl) (by unfold maxLen; omega) (by omega) (by simp; omega) ?_); intro tv' w3 hown' hgrow _; obtain ⟨t3, k3, hv3⟩ := own_form hown'; subst hv3
         have hT3 : FunB w3 gt tv 68 := (hgrow.block gt (by simp; have := hT2.lt; omega) (fun e => hnt e.symm)).trans ((Below.heap_alloc w2 _ _ hT2.lt).trans hT2)
         have z3 : w3.frozen? ⟨gt, 0, none⟩ = false := hT3.free
         have y3 : w3.cell? ⟨gt, 0, none⟩ = some tv := hT3.cell)
      | fail)
    have hU3 : Upd ([gl, gt] ++ tv.ownBlock.toList) w w3 := (((Upd.refl _ w).then HU2.out (by simp)).alloc _).grown hgrow (fun k hk => Or.inr (by simp [hk]))
    have hU4 := hU3.setCell (p := ⟨gt, 0, none⟩) (Or.inr (by simp)) (.slice t3 (ys.length + 1) k3)
    have hlt2 := HO.out.1
    have hO3 : Own w3 w.heap.size 26 7 n (.slice a' n c') xs := by
      refine ⟨?_, HO.out.2⟩
      have h1 : (w2.alloc (.cells #[.slice a' n c'] 24)).ownsRow w.heap.size 26 7 (.slice a' n c') n xs := HO.out.1.alloc _
      refine World.ownsRow.kept h1 hgrow ?_
      by_cases hv : (Value.slice a' n c').ownBlock = none
      · exact Or.inl hv
      · refine Or.inr fun e => ?_
        cases ho : (Value.slice a' n c').ownBlock with
        | none => exact hv ho
        | some k =>
          have k1 := (World.ownsRow.lt HO.out.1 k ho).1
          have k2 := (World.ownsRow.lt HY.out k (by rw [← e, ho])).2
          omega
    have hB3 : IntB w3 gl _ := (hgrow.block gl (by simp; have := HB2.out.lt; omega) (fun e => hnl e.symm)).trans ((Below.heap_alloc w2 _ _ HB2.out.lt).trans HB2.out)
    have hO4 : Own (w3.setCell ⟨gt, 0, none⟩ (.slice t3 (ys.length + 1) k3)) w.heap.size 26 7 n (.slice a' n c') xs := ⟨own_upd hO3.1 ((Upd.refl [gt] w3).setCell (Or.inr (by simp)) (.slice t3 (ys.length + 1) k3)) (fun x hx => by simp; intro e; subst e; exact own_ne hO3.1 hT3 (by decide) hx), hO3.2⟩
    have hB4 : IntB (w3.setCell ⟨gt, 0, none⟩ (.slice t3 (ys.length + 1) k3)) gl _ := hB3.mono ((Upd.refl [gt] w3).setCell (Or.inr (by simp)) (.slice t3 (ys.length + 1) k3)) (by simp; exact fun e => hgt e.symm)
    have hT4 := hT3.set (.slice t3 (ys.length + 1) k3)
    have hY4 : (w3.setCell ⟨gt, 0, none⟩ (.slice t3 (ys.length + 1) k3)).ownsRow base 24 1 (.slice t3 (ys.length + 1) k3) (ys.length + 1) (ys ++ [.slice a' n c']) := own_upd hown' ((Upd.refl [gt] w3).setCell (Or.inr (by simp)) (.slice t3 (ys.length + 1) k3)) (fun x hx => by simp; intro e; subst e; exact own_ne hown' hT3 (by decide) hx)
    go_wp2
    go_ret
    refine ⟨_, _, rfl, hO4, hB4, hT4, ?_, hU4⟩
    rw [if_pos (by omega), List.length_append]
    exact hY4

end Go.Proofs.YtplkcegdmlfhcaaDoor
