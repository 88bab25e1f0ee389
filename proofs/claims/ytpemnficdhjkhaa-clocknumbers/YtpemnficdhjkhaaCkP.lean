/- Clocks: first: the place of the first one that is so; the mathematics of order. -/
import Derived.Test.YtpemnficdhjkhaaCkF
import Derived.Test.YtpemnficdhjkhaaCkS
namespace Go.Proofs.Ytpemnficdhjkhaa
open Go.RowKit Go.Maps

/-- Where a row falls into two, and how many stand in the first part. -/
theorem parted {p : Int → Bool} : ∀ {xs : List Int}, xs.Pairwise (fun a b => p a = true → p b = true) →
    xs.countP (fun x => !p x) ≤ xs.length ∧ (∀ x ∈ xs.take (xs.countP fun x => !p x), p x = false) ∧ ∀ x ∈ xs.drop (xs.countP fun x => !p x), p x = true
  | [], _ => by simp
  | a :: r, h => by
    obtain ⟨h1, h2⟩ := List.pairwise_cons.1 h
    obtain ⟨i1, i2, i3⟩ := parted h2
    cases hp : p a with
    | true =>
      have h0 : r.countP (fun x => !p x) = 0 := List.countP_eq_zero.2 (fun x hx => by simp [h1 x hx hp])
      rw [List.countP_cons_of_neg (by simp [hp]), h0]
      refine ⟨by simp, by simp, fun x hx => ?_⟩
      rcases List.mem_cons.1 (by simpa using hx) with rfl | hx
      · exact hp
      · exact h1 x hx hp
    | false =>
      rw [List.countP_cons_of_pos (by simp [hp])]
      refine ⟨by simp; omega, fun x hx => ?_, fun x hx => i3 x (by simpa using hx)⟩
      rw [List.take_succ_cons] at hx
      rcases List.mem_cons.1 hx with rfl | hx
      · exact hp
      · exact i2 x hx

theorem bef_trans {T : TF} {x y z : Int} (h : bef T x y) (k : bef T y z) : bef T x z := by
  obtain ⟨s, t, h1, h2, h3⟩ := h
  obtain ⟨t', u, h4, h5, h6⟩ := k
  rw [h2] at h4; cases h4
  exact ⟨s, u, h1, h5, by omega⟩
theorem tmAt_some {T : TF} {x t : Int} (h : T x = some t) : tmAt T x = t := by unfold tmAt; rw [h]; rfl
/-- Of who waits, pl tells that it is not ahead of pid. -/
theorem pl_iff {T : TF} {x its pid : Int} (hx : T x ≠ none) (hp : T pid = some its) : pl T its pid x = true ↔ ¬ bef T x pid := by
  obtain ⟨t, ht⟩ := Option.ne_none_iff_exists'.1 hx
  unfold pl
  rw [tmAt_some ht]
  constructor
  · rintro h ⟨s, u, h1, h2, h3⟩
    rw [ht] at h1; cases h1
    rw [hp] at h2; cases h2
    simp at h
    omega
  · intro h
    have : ¬ (t < its ∨ t = its ∧ x < pid) := fun hc => h ⟨t, its, ht, hp, hc⟩
    simp
    omega
theorem pl_mono {T : TF} {its pid : Int} {xs : List Int} (hs : xs.Pairwise (bef T)) (hm : ∀ x ∈ xs, T x ≠ none) (hp : T pid = some its) : xs.Pairwise (fun a b => pl T its pid a = true → pl T its pid b = true) :=
  hs.imp_of_mem (fun {a b} ha hb hab h => by
    rw [pl_iff (hm a ha) hp] at h
    rw [pl_iff (hm b hb) hp]
    exact fun hc => h (bef_trans hab hc))
/-- Who is not yet due stands behind who is. -/
theorem due_mono {T : TF} {now : Int} {xs : List Int} (hs : xs.Pairwise (bef T)) : xs.Pairwise (fun a b => decide (now < tmAt T a) = true → decide (now < tmAt T b) = true) :=
  hs.imp (fun {a b} hab h => by
    obtain ⟨s, t, h1, h2, h3⟩ := hab
    rw [tmAt_some h1] at h
    rw [tmAt_some h2]
    simp at h ⊢
    omega)

set_option maxRecDepth 10000 in
theorem first1_any {w : World} {c n g : Nat} {v : Value} {gb : Option Nat} {now : Int} {T : TF} {xs : List Int} (o : CkR w c n g v gb now T xs) {W : World} (hu : Upd [] w W) {bc bs f i : Nat} {cb : Array Value} {b : Bool}
    (h1 : W.cell? ⟨bc, 0, none⟩ = some (.pointer (some ⟨c, 0, none⟩))) (h2 : W.cell? ⟨bs, 0, none⟩ = some (.func (.func f) #[] cb)) (hi : i < xs.length)
    (ef : ∀ args w, (callFunc f args).run Try.prog w = .ok (.enter f args) w) (hf : ∀ m, Calls Try.prog f (#[.int .i64 (xs.getD i 0)] ++ cb) (W.drewN m) fun e W' => e = .returned (.bool b) ∧ ∃ m', W' = (W.drewN m).drewN m') :
    Calls Try.prog 55 #[.int .i64 i, .pointer (some ⟨bs, 0, none⟩), .pointer (some ⟨bc, 0, none⟩)] W fun e W' => e = .returned (.bool b) ∧ ∃ m, W' = W.drewN m := by
  have o' := o.upd hu
  obtain ⟨k, off, cap, hgb, hv, hc⟩ := o'.cells.cell hi
  have c3 : W.cell? ⟨c, 3, none⟩ = some (.slice (some ⟨k, off, none⟩) xs.length cap) := by rw [o'.row.cell, ← hv]; rfl
  have i1 : (i : Int) < (xs.length : Int) := by omega
  clear o o' hu hgb hv
  generalize xs.getD i 0 = x at hf hc
  go_enter Try.func55, Try.ntmps55
  go_wp2
  go_quiet (first | (go_at_fn f; exact Calls.quiet_of (hf _)))
  go_wp2
  go_ret
  exact ⟨rfl, _, rfl⟩

theorem enters_first1 : ∀ args w, (callFunc 55 args).run Try.prog w = .ok (.enter 55 args) w := enters_of Try.func55 (by kernel_rfl) rfl
theorem enters_place1 : ∀ args w, (callFunc 53 args).run Try.prog w = .ok (.enter 53 args) w := enters_of Try.func53 (by kernel_rfl) rfl
theorem enters_tick1 : ∀ args w, (callFunc 30 args).run Try.prog w = .ok (.enter 30 args) w := enters_of Try.func30 (by kernel_rfl) rfl

set_option maxRecDepth 10000 in
theorem first_any {w : World} {c n g : Nat} {v : Value} {gb : Option Nat} {now : Int} {T : TF} {xs : List Int} (o : CkR w c n g v gb now T xs) (hn : n ≤ 1073741824) {f : Nat} {cb : Array Value} {p : Int → Bool}
    (ef : ∀ args w, (callFunc f args).run Try.prog w = .ok (.enter f args) w) (hf : Tells w f cb p xs) (hm : xs.Pairwise (fun a b => p a = true → p b = true)) :
    Calls Try.prog 29 #[.pointer (some ⟨c, 0, none⟩), .func (.func f) #[] cb] w fun e w' => e = .returned (.int .i64 (xs.countP (fun x => !p x) : Nat)) ∧ Gw w w' := by
  obtain ⟨w1, hw1⟩ : ∃ w1, (w.alloc (.cells #[.pointer (some ⟨c, 0, none⟩)] 23)).alloc (.cells #[.func (.func f) #[] cb] 41) = w1 := ⟨_, rfl⟩
  have hG : Gw w w1 := by rw [← hw1]; exact ((Gw.refl w).alloc _).alloc _
  have o1 := o.upd hG.upd
  have s0 : w1.heap.size = w.heap.size + 2 := by rw [← hw1]; simp
  have b0 : w1.cell? ⟨w.heap.size, 0, none⟩ = some (.pointer (some ⟨c, 0, none⟩)) := by
    rw [← hw1]
    exact cell_alloc_sl _ (cell_new_sl w _ _)
  have b1 : w1.cell? ⟨w.heap.size + 1, 0, none⟩ = some (.func (.func f) #[] cb) := by
    rw [← hw1, World.cell?_alloc_at _ _ _ _ (by simp)]; rfl
  obtain ⟨q, cap, hv⟩ := o1.cells.form
  have c3 : w1.cell? ⟨c, 3, none⟩ = some (.slice q xs.length cap) := by rw [o1.row.cell, ← hv]; rfl
  have hs : Calls Try.prog 54 #[.int .i64 (xs.length : Nat), .func (.func 55) #[] #[.pointer (some ⟨w.heap.size + 1, 0, none⟩), .pointer (some ⟨w.heap.size, 0, none⟩)]] w1 fun e w' => e = .returned (.int .i64 (xs.countP (fun x => !p x) : Nat)) ∧ Gw w1 w' := by
    have hl : xs.length < 4611686018427387904 := by have := o.len; omega
    have := Any.sort_Search searchA 55 #[.pointer (some ⟨w.heap.size + 1, 0, none⟩), .pointer (some ⟨w.heap.size, 0, none⟩)] xs.length (fun i => p (xs.toArray[i]!)) w1 enters_first1 hl (fun m os i hi => by
      have hGW : Gw w1 (Sort.grow (w1.drewN m) os) := ⟨m, os, rfl⟩
      have hu := hGW.upd
      have hx : xs.toArray[i]! = xs.getD i 0 := by simp
      have := first1_any (i := i) (b := p (xs.getD i 0)) (W := Sort.grow (w1.drewN m) os) (bc := w.heap.size) (bs := w.heap.size + 1) (f := f) (cb := cb) o1 hu ((hu.cell (p := ⟨w.heap.size, 0, none⟩) (by show w.heap.size < _; omega) (by simp)).trans b0) ((hu.cell (p := ⟨w.heap.size + 1, 0, none⟩) (by show w.heap.size + 1 < _; omega) (by simp)).trans b1) hi ef (fun m' => by
        refine hf _ ((hG.trans hGW).drewN m') _ ?_
        rw [List.getD_eq_getElem?_getD, List.getElem?_eq_getElem hi]
        exact List.getElem_mem hi)
      refine Calls.mono this ?_
      rintro e w' ⟨rfl, m', rfl⟩
      exact ⟨by rw [hx], m', #[], by rw [Sort.grow_empty]⟩) (fun a b hab hb ha => by
      rcases Nat.lt_or_ge a b with h | h
      · have := List.pairwise_iff_getElem.1 hm a b (by omega) hb h
        simp only [List.getElem!_toArray] at ha ⊢
        rw [getElem!_pos xs a (by omega)] at ha
        rw [getElem!_pos xs b (by omega)]
        exact this ha
      · obtain rfl : a = b := by omega
        exact ha)
    refine Calls.mono this ?_
    rintro e w' ⟨rfl, q, os, rfl⟩
    have hc := Go.Lib.countP_range xs.toArray (fun x => !p x)
    simp only [List.size_toArray] at hc
    exact ⟨by rw [hc], q, os, rfl⟩
  have HG : Hid (Gw w w1) := hG
  subst hw1
  clear o o1 hf hm hG b0 b1 s0 hv
  go_enter Try.func29, Try.ntmps29
  go_wp2_with fail
  refine Calls.mono hs ?_
  rintro e w' ⟨rfl, h⟩
  go_wp2
  go_ret
  exact ⟨rfl, HG.out.trans h⟩

end Go.Proofs.Ytpemnficdhjkhaa
