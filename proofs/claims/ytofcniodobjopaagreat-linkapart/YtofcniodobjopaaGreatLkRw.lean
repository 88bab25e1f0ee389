/- The reference's Watch. -/
import Derived.Test.YtofcniodobjopaaGreatLkRc
namespace Go.Proofs.YtofcniodobjopaaGreat
open Go.RowKit Go.Maps

theorem NR.updS {S : List Nat} {w w' : World} {B : Nat} {v : Value} {xs : List Mon} (h : NR w B v xs) (hu : Upd S w w') (hn : ∀ g, v.ownBlock = some g → g ∉ S) : NR w' B v xs := by
  obtain ⟨h1, h2⟩ := h
  refine ⟨h1, ?_⟩
  rcases h2 with h2 | ⟨g, cap, cur, rfl, hB, hg, r⟩
  · exact Or.inl h2
  · exact Or.inr ⟨g, cap, cur, rfl, hB, (hu.block g (Array.getElem?_eq_some_iff.1 hg).1 (hn g rfl)).trans hg, r⟩
theorem srcN_head {w : World} {B : Nat} {xs : List Mon} {g c : Nat} (h : NR w B (.slice (some ⟨g, 0, none⟩) xs.length c) xs) {t : Nat} (ht : t ≤ xs.length) (c2 : Nat) : SrcN w (.slice (some ⟨g, 0, none⟩) t c2) (xs.take t) := by
  have := srcN_row h (t := 0) (n := t) (by omega) c2
  rw [List.drop_zero] at this
  exact this
theorem srcN_tail {w : World} {B : Nat} {xs : List Mon} {g c : Nat} (h : NR w B (.slice (some ⟨g, 0, none⟩) xs.length c) xs) {t : Nat} (ht : t ≤ xs.length) (c2 : Nat) : SrcN w (.slice (some ⟨g, t * 3, none⟩) (xs.length - t) c2) (xs.drop t) := by
  have := srcN_row h (t := t) (n := xs.length - t) (by omega) c2
  rw [List.take_of_length_le (by simp)] at this
  exact this
/-- The new row is put in. -/
theorem put_row {w w3 : World} {b g c n : Nat} {v u : Value} {zs : List Mon} {B : Nat} (hb : Cl w b #[v, u] 41) (hu : Upd [] w w3) (hr : NR w3 w.heap.size (.slice (some ⟨g, 0, none⟩) n c) zs) (hB : B ≤ w.heap.size) :
    Cl (w3.setCell ⟨b, 1, none⟩ (.slice (some ⟨g, 0, none⟩) n c)) b #[v, .slice (some ⟨g, 0, none⟩) n c] 41 ∧ NR (w3.setCell ⟨b, 1, none⟩ (.slice (some ⟨g, 0, none⟩) n c)) B (.slice (some ⟨g, 0, none⟩) n c) zs ∧ Upd [b] w (w3.setCell ⟨b, 1, none⟩ (.slice (some ⟨g, 0, none⟩) n c)) := by
  have h3 : Cl w3 b #[v, u] 41 := hb.upd hu (by simp)
  refine ⟨h3.set 1 _, (hr.updS (S := [b]) (((Upd.refl [b] w3)).setCell (Or.inr (by simp)) _) (fun g2 hg2 => ?_)).base hB, ?_⟩
  · have h4 := (hr.own hg2).1
    have h5 := hb.lt
    simp
    omega
  · have h6 : Upd [b] w w3 := ⟨hu.os, hu.tape, hu.output, hu.size, fun k hk _ => hu.block k hk (by simp)⟩
    exact h6.setCell (Or.inr (by simp)) _

set_option maxHeartbeats 8000000 in
set_option maxRecDepth 100000 in
theorem watchRef_any (w : World) (B b : Nat) (v u : Value) (ms : List Mon) (r a c : Int) (hb : Cl w b #[v, u] 41) (hr : NR w B u ms) (hB : B ≤ w.heap.size) (hs : ms.Pairwise (fun x y => x.1 < y.1)) (hn : ms.length ≤ 1000) :
    Calls Tryz.prog 30 #[.pointer (some ⟨b, 0, none⟩), .int .i64 r, .int .i64 a, .int .i64 c] w fun e w' => ∃ t : Nat, t ≤ ms.length ∧ (∀ j (hj : j < ms.length), j < t → ms[j].1 < r) ∧ (∀ j (hj : j < ms.length), t ≤ j → r ≤ ms[j].1) ∧
      ((∃ hj : t < ms.length, ms[t].1 = r ∧ e = .returned (.bool false) ∧ Upd [] w w') ∨ ((∀ hj : t < ms.length, ms[t].1 ≠ r) ∧ e = .returned (.bool true) ∧ ∃ u', Cl w' b #[v, u'] 41 ∧ NR w' w.heap.size u' (ms.take t ++ [(r, a, c)] ++ ms.drop t) ∧ Upd [b] w w')) := by
  obtain ⟨p, cu, hv⟩ := hr.form
  subst hv
  have HR : Hid (NR w B (.slice p ms.length cu) ms ∧ Cl w b #[v, .slice p ms.length cu] 41 ∧ B ≤ w.heap.size) := ⟨hr, hb, hB⟩
  have cb : w.cell? ⟨b, 1, none⟩ = some (.slice p ms.length cu) := by rw [hb.cell]; rfl
  have HS : Hid (ms.Pairwise (fun x y => x.1 < y.1)) := hs
  clear hr hb hB hs
  go_enter Tryz.func30, Tryz.ntmps30
  go_wp2_with fail
  go_loopw [9] (fun s9 wx => ∃ t : Nat, s9 = .int .i64 (t : Nat) ∧ t ≤ ms.length ∧ wx = w ∧ ∀ j (hj : j < ms.length), j < t → ms[j].1 < r) (fun s9 _ => ms.length - (intOf s9).toNat)
  case atStart => exact ⟨0, rfl, Nat.zero_le _, rfl, fun j hj h => by omega⟩
  case round =>
    obtain ⟨t, rfl, ht, hw, hlo⟩ := hrel
    rw [hw]
    clear hw
    have HLo : Hid (∀ j (hj : j < ms.length), j < t → ms[j].1 < r) := hlo
    clear hlo
    by_cases hlt : t < ms.length
    · have j1 : (t : Int) < (ms.length : Int) := by omega
      obtain ⟨g, c9, e1, d0, d1, d2⟩ := HR.out.1.cells hlt
      simp only [Value.slice.injEq] at e1
      obtain ⟨rfl, _, rfl⟩ := e1
      obtain ⟨y, hy⟩ : ∃ y, y = ms[t].1 := ⟨_, rfl⟩
      rw [← hy] at d0
      have HY : Hid (y = ms[t].1) := hy
      have hge : Hid (∀ j (hj : j < ms.length), t ≤ j → y ≤ ms[j].1) := fun j hj h => by
        rcases Nat.lt_or_ge t j with h5 | h5
        · have := List.pairwise_iff_getElem.1 HS.out t j hlt hj h5
          rw [hy]; omega
        · obtain rfl : j = t := by omega
          rw [hy]; omega
      clear hy d1 d2
      cases hyr : decide (y < r) with
      | true =>
        have hyr2 : y < r := by simpa using hyr
        have HL2 : Hid (∀ j (hj : j < ms.length), j < t + 1 → ms[j].1 < r) := fun j hj h => by
          rcases Nat.lt_or_ge j t with h5 | h5
          · exact HLo.out j hj h5
          · obtain rfl : j = t := by omega
            rw [← HY.out]; exact hyr2
        clear hyr2
        go_wp2_with fail
        go_roundw
        case rel => exact ⟨t + 1, by go_num, hlt, trivial, HL2.out⟩
        case measure => simp [intOf]; omega
      | false =>
        have hyn : ¬ y < r := by simpa using hyr
        have HHi : Hid (∀ j (hj : j < ms.length), t ≤ j → r ≤ ms[j].1) := fun j hj h => by have := hge.out j hj h; omega
        cases hye : y == r with
        | true =>
          have HE : Hid (y = r) := by show _ = _; simpa using hye
          clear hyn
          go_wp2_with fail
          go_ret
          exact ⟨t, ht, HLo.out, HHi.out, Or.inl ⟨hlt, by rw [← HY.out]; exact HE.out, rfl, Upd.refl [] w⟩⟩
        | false =>
          have HE : Hid (y ≠ r) := by show ¬ _; simpa using hye
          have hcap := HR.out.1.cap
          have hct : ¬ cu = t := by omega
          have htc : t ≤ cu := by omega
          have htc2 : (t : Int) ≤ (cu : Int) := by omega
          clear hyn
          have cb0 : (w.alloc (.cells #[] 122)).cell? ⟨b, 1, none⟩ = some (.slice (some ⟨g, 0, none⟩) ms.length cu) := (((Upd.refl [] w).alloc (.cells #[] 122)).cell (p := ⟨b, 1, none⟩) HR.out.2.1.lt (by simp)).trans cb
          go_wp2_with (first
            | (at_builtin; refine wp_appN rfl _ _ rfl w.heap.size _ _ _ _ [] (ms.take t) (ms.take t) (t) rfl rfl (nr_lit0 w) rfl (srcN_head (HR.out.1.upd ((Upd.refl [] w).alloc (.cells #[] 122))) ht _) rfl (by first | omega | (simp; done) | (simp; omega)) (by first | omega | (simp; done) | (simp; omega)) (by simp) ?_; intro g1 c1 w1 hI1 hg1
               have hu1 : Upd [] w w1 := (((Upd.refl [] w).alloc (.cells #[] 122)).toN.trans (upP_grown hg1)).upd (fun x hx => by cases hx; exact Nat.le_refl _)
               have H1 : Hid (NR w1 w.heap.size (.slice (some ⟨g1, 0, none⟩) (t) c1) (ms.take t) ∧ Upd [] w w1) := ⟨hI1, hu1⟩
               clear hI1 hg1 hu1)
            | (at_builtin; refine wp_appN rfl _ _ rfl w.heap.size _ _ _ _ (ms.take t) [(r, a, c)] (ms.take t ++ [(r, a, c)]) (t + 1) rfl rfl (H1.out.1.upd ((Upd.refl [] w1).alloc _)) (by first | omega | (simp; done) | (simp; omega)) (srcN_one w1 r a c) rfl (by first | omega | (simp; done) | (simp; omega)) (by first | omega | (simp; done) | (simp; omega)) (by have := H1.out.2.size; simp; omega) ?_; intro g2 c2 w2 hI2 hg2
               have hu2 : Upd [] w w2 := (((H1.out.2.alloc (.cells #[.int .i64 r, .int .i64 a, .int .i64 c] 122)).toN (P := fun x => some g1 = some x)).trans (upP_grown hg2)).upd (fun x hx => by cases hx; exact (H1.out.1.own rfl).1)
               have cb2 : w2.cell? ⟨b, 1, none⟩ = some (.slice (some ⟨g, 0, none⟩) ms.length cu) := (hu2.cell (p := ⟨b, 1, none⟩) HR.out.2.1.lt (by simp)).trans cb
               have H2 : Hid (NR w2 w.heap.size (.slice (some ⟨g2, 0, none⟩) (t + 1) c2) (ms.take t ++ [(r, a, c)]) ∧ Upd [] w w2) := ⟨hI2, hu2⟩
               clear hI2 hg2 hu2)
            | (at_builtin; refine wp_appN rfl _ _ rfl w.heap.size _ _ _ _ (ms.take t ++ [(r, a, c)]) (ms.drop t) (ms.take t ++ [(r, a, c)] ++ ms.drop t) (ms.length + 1) rfl rfl H2.out.1 (by first | omega | (simp; done) | (simp; omega)) (srcN_tail (HR.out.1.upd H2.out.2) ht _) rfl (by first | omega | (simp; done) | (simp; omega)) (by first | omega | (simp; done) | (simp; omega)) H2.out.2.size ?_; intro g3 c3 w3 hI3 hg3
               have hu3 : Upd [] w w3 := ((H2.out.2.toN (P := fun x => some g2 = some x)).trans (upP_grown hg3)).upd (fun x hx => by cases hx; exact (H2.out.1.own rfl).1)
               have cb3 : w3.cell? ⟨b, 1, none⟩ = some (.slice (some ⟨g, 0, none⟩) ms.length cu) := (hu3.cell (p := ⟨b, 1, none⟩) HR.out.2.1.lt (by simp)).trans cb
               have cf3 : w3.frozen? ⟨b, 1, none⟩ = false := (HR.out.2.1.upd hu3 (by simp)).free 1
               have H3 : Hid (NR w3 w.heap.size (.slice (some ⟨g3, 0, none⟩) (ms.length + 1) c3) (ms.take t ++ [(r, a, c)] ++ ms.drop t) ∧ Upd [] w w3) := ⟨hI3, hu3⟩
               clear hI3 hg3 hu3)
            | fail)
          go_ret
          exact ⟨t, ht, HLo.out, HHi.out, Or.inr ⟨fun _ e => HE.out (by rw [HY.out]; exact e), rfl, _, put_row HR.out.2.1 H3.out.2 H3.out.1 (Nat.le_refl _)⟩⟩
    · obtain rfl : t = ms.length := by omega
      have hd0 : decide ((ms.length : Int) < (ms.length : Int)) = false := decide_eq_false (by omega)
      rcases HR.out.1.2 with ⟨hnil, hx0⟩ | ⟨g, cap, cur, hform, _⟩
      · simp only [Value.slice.injEq] at hnil
        obtain ⟨rfl, _, rfl⟩ := hnil
        obtain rfl : ms = [] := List.eq_nil_of_length_eq_zero hx0
        have cb0 : (w.alloc (.cells #[] 122)).cell? ⟨b, 1, none⟩ = some (.slice none 0 0) := (((Upd.refl [] w).alloc (.cells #[] 122)).cell (p := ⟨b, 1, none⟩) HR.out.2.1.lt (by simp)).trans cb
        go_wp2_with (first
          | (at_builtin; refine wp_appN rfl _ _ rfl w.heap.size _ _ _ _ [] (([] : List Mon)) (([] : List Mon)) 0 rfl rfl (nr_lit0 w) rfl (Or.inl ⟨_, rfl, rfl⟩) rfl (by first | omega | (simp; done) | (simp; omega)) (by first | omega | (simp; done) | (simp; omega)) (by simp) ?_; intro g1 c1 w1 hI1 hg1
             have hu1 : Upd [] w w1 := (((Upd.refl [] w).alloc (.cells #[] 122)).toN.trans (upP_grown hg1)).upd (fun x hx => by cases hx; exact Nat.le_refl _)
             have H1 : Hid (NR w1 w.heap.size (.slice (some ⟨g1, 0, none⟩) 0 c1) (([] : List Mon)) ∧ Upd [] w w1) := ⟨hI1, hu1⟩
             clear hI1 hg1 hu1)
          | (at_builtin; refine wp_appN rfl _ _ rfl w.heap.size _ _ _ _ (([] : List Mon)) [(r, a, c)] (([] : List Mon) ++ [(r, a, c)]) 1 rfl rfl (H1.out.1.upd ((Upd.refl [] w1).alloc _)) (by first | omega | (simp; done) | (simp; omega)) (srcN_one w1 r a c) rfl (by first | omega | (simp; done) | (simp; omega)) (by first | omega | (simp; done) | (simp; omega)) (by have := H1.out.2.size; simp; omega) ?_; intro g2 c2 w2 hI2 hg2
             have hu2 : Upd [] w w2 := (((H1.out.2.alloc (.cells #[.int .i64 r, .int .i64 a, .int .i64 c] 122)).toN (P := fun x => some g1 = some x)).trans (upP_grown hg2)).upd (fun x hx => by cases hx; exact (H1.out.1.own rfl).1)
             have cb2 : w2.cell? ⟨b, 1, none⟩ = some (.slice none 0 0) := (hu2.cell (p := ⟨b, 1, none⟩) HR.out.2.1.lt (by simp)).trans cb
             have H2 : Hid (NR w2 w.heap.size (.slice (some ⟨g2, 0, none⟩) 1 c2) (([] : List Mon) ++ [(r, a, c)]) ∧ Upd [] w w2) := ⟨hI2, hu2⟩
             clear hI2 hg2 hu2)
          | (at_builtin; refine wp_appN rfl _ _ rfl w.heap.size _ _ _ _ (([] : List Mon) ++ [(r, a, c)]) (([] : List Mon)) (([] : List Mon) ++ [(r, a, c)] ++ ([] : List Mon)) 1 rfl rfl H2.out.1 (by first | omega | (simp; done) | (simp; omega)) (Or.inl ⟨_, rfl, rfl⟩) rfl (by first | omega | (simp; done) | (simp; omega)) (by first | omega | (simp; done) | (simp; omega)) H2.out.2.size ?_; intro g3 c3 w3 hI3 hg3
             have hu3 : Upd [] w w3 := ((H2.out.2.toN (P := fun x => some g2 = some x)).trans (upP_grown hg3)).upd (fun x hx => by cases hx; exact (H2.out.1.own rfl).1)
             have cb3 : w3.cell? ⟨b, 1, none⟩ = some (.slice none 0 0) := (hu3.cell (p := ⟨b, 1, none⟩) HR.out.2.1.lt (by simp)).trans cb
             have cf3 : w3.frozen? ⟨b, 1, none⟩ = false := (HR.out.2.1.upd hu3 (by simp)).free 1
             have H3 : Hid (NR w3 w.heap.size (.slice (some ⟨g3, 0, none⟩) 1 c3) (([] : List Mon) ++ [(r, a, c)] ++ ([] : List Mon)) ∧ Upd [] w w3) := ⟨hI3, hu3⟩
             clear hI3 hg3 hu3)
          | fail)
        go_ret
        exact ⟨0, Nat.le_refl _, HLo.out, fun j hj _ => by simp at hj, Or.inr ⟨fun h => by simp at h, rfl, _, put_row HR.out.2.1 H3.out.2 H3.out.1 (Nat.le_refl _)⟩⟩
      · simp only [Value.slice.injEq] at hform
        obtain ⟨rfl, _, rfl⟩ := hform
        have hcap := HR.out.1.cap
        have htc2 : (ms.length : Int) ≤ (cu : Int) := by omega
        by_cases hct : cu = ms.length
        · have HCT : Hid (cu = ms.length) := hct
          have cb0 : (w.alloc (.cells #[] 122)).cell? ⟨b, 1, none⟩ = some (.slice (some ⟨g, 0, none⟩) ms.length cu) := (((Upd.refl [] w).alloc (.cells #[] 122)).cell (p := ⟨b, 1, none⟩) HR.out.2.1.lt (by simp)).trans cb
          go_wp2_with (first
            | (at_builtin; refine wp_appN rfl _ _ rfl w.heap.size _ _ _ _ [] (ms.take ms.length) (ms.take ms.length) (ms.length) rfl rfl (nr_lit0 w) rfl (srcN_head (HR.out.1.upd ((Upd.refl [] w).alloc (.cells #[] 122))) (Nat.le_refl _) _) rfl (by first | omega | (simp; done) | (simp; omega)) (by first | omega | (simp; done) | (simp; omega)) (by simp) ?_; intro g1 c1 w1 hI1 hg1
               have hu1 : Upd [] w w1 := (((Upd.refl [] w).alloc (.cells #[] 122)).toN.trans (upP_grown hg1)).upd (fun x hx => by cases hx; exact Nat.le_refl _)
               have H1 : Hid (NR w1 w.heap.size (.slice (some ⟨g1, 0, none⟩) (ms.length) c1) (ms.take ms.length) ∧ Upd [] w w1) := ⟨hI1, hu1⟩
               clear hI1 hg1 hu1)
            | (at_builtin; refine wp_appN rfl _ _ rfl w.heap.size _ _ _ _ (ms.take ms.length) [(r, a, c)] (ms.take ms.length ++ [(r, a, c)]) (ms.length + 1) rfl rfl (H1.out.1.upd ((Upd.refl [] w1).alloc _)) (by first | omega | (simp; done) | (simp; omega)) (srcN_one w1 r a c) rfl (by first | omega | (simp; done) | (simp; omega)) (by first | omega | (simp; done) | (simp; omega)) (by have := H1.out.2.size; simp; omega) ?_; intro g2 c2 w2 hI2 hg2
               have hu2 : Upd [] w w2 := (((H1.out.2.alloc (.cells #[.int .i64 r, .int .i64 a, .int .i64 c] 122)).toN (P := fun x => some g1 = some x)).trans (upP_grown hg2)).upd (fun x hx => by cases hx; exact (H1.out.1.own rfl).1)
               have cb2 : w2.cell? ⟨b, 1, none⟩ = some (.slice (some ⟨g, 0, none⟩) ms.length cu) := (hu2.cell (p := ⟨b, 1, none⟩) HR.out.2.1.lt (by simp)).trans cb
               have H2 : Hid (NR w2 w.heap.size (.slice (some ⟨g2, 0, none⟩) (ms.length + 1) c2) (ms.take ms.length ++ [(r, a, c)]) ∧ Upd [] w w2) := ⟨hI2, hu2⟩
               clear hI2 hg2 hu2)
            | (at_builtin; refine wp_appN rfl _ _ rfl w.heap.size _ _ _ _ (ms.take ms.length ++ [(r, a, c)]) (ms.drop ms.length) (ms.take ms.length ++ [(r, a, c)] ++ ms.drop ms.length) (ms.length + 1) rfl rfl H2.out.1 (by first | omega | (simp; done) | (simp; omega)) (srcN_empty _ _ _ _ _ (by omega) (by simp)) rfl (by first | omega | (simp; done) | (simp; omega)) (by first | omega | (simp; done) | (simp; omega)) H2.out.2.size ?_; intro g3 c3 w3 hI3 hg3
               have hu3 : Upd [] w w3 := ((H2.out.2.toN (P := fun x => some g2 = some x)).trans (upP_grown hg3)).upd (fun x hx => by cases hx; exact (H2.out.1.own rfl).1)
               have cb3 : w3.cell? ⟨b, 1, none⟩ = some (.slice (some ⟨g, 0, none⟩) ms.length cu) := (hu3.cell (p := ⟨b, 1, none⟩) HR.out.2.1.lt (by simp)).trans cb
               have cf3 : w3.frozen? ⟨b, 1, none⟩ = false := (HR.out.2.1.upd hu3 (by simp)).free 1
               have H3 : Hid (NR w3 w.heap.size (.slice (some ⟨g3, 0, none⟩) (ms.length + 1) c3) (ms.take ms.length ++ [(r, a, c)] ++ ms.drop ms.length) ∧ Upd [] w w3) := ⟨hI3, hu3⟩
               clear hI3 hg3 hu3)
            | fail)
          go_ret
          exact ⟨ms.length, Nat.le_refl _, HLo.out, fun j hj h => by omega, Or.inr ⟨fun h => by omega, rfl, _, put_row HR.out.2.1 H3.out.2 H3.out.1 (Nat.le_refl _)⟩⟩
        · skip
          have cb0 : (w.alloc (.cells #[] 122)).cell? ⟨b, 1, none⟩ = some (.slice (some ⟨g, 0, none⟩) ms.length cu) := (((Upd.refl [] w).alloc (.cells #[] 122)).cell (p := ⟨b, 1, none⟩) HR.out.2.1.lt (by simp)).trans cb
          go_wp2_with (first
            | (at_builtin; refine wp_appN rfl _ _ rfl w.heap.size _ _ _ _ [] (ms.take ms.length) (ms.take ms.length) (ms.length) rfl rfl (nr_lit0 w) rfl (srcN_head (HR.out.1.upd ((Upd.refl [] w).alloc (.cells #[] 122))) (Nat.le_refl _) _) rfl (by first | omega | (simp; done) | (simp; omega)) (by first | omega | (simp; done) | (simp; omega)) (by simp) ?_; intro g1 c1 w1 hI1 hg1
               have hu1 : Upd [] w w1 := (((Upd.refl [] w).alloc (.cells #[] 122)).toN.trans (upP_grown hg1)).upd (fun x hx => by cases hx; exact Nat.le_refl _)
               have H1 : Hid (NR w1 w.heap.size (.slice (some ⟨g1, 0, none⟩) (ms.length) c1) (ms.take ms.length) ∧ Upd [] w w1) := ⟨hI1, hu1⟩
               clear hI1 hg1 hu1)
            | (at_builtin; refine wp_appN rfl _ _ rfl w.heap.size _ _ _ _ (ms.take ms.length) [(r, a, c)] (ms.take ms.length ++ [(r, a, c)]) (ms.length + 1) rfl rfl (H1.out.1.upd ((Upd.refl [] w1).alloc _)) (by first | omega | (simp; done) | (simp; omega)) (srcN_one w1 r a c) rfl (by first | omega | (simp; done) | (simp; omega)) (by first | omega | (simp; done) | (simp; omega)) (by have := H1.out.2.size; simp; omega) ?_; intro g2 c2 w2 hI2 hg2
               have hu2 : Upd [] w w2 := (((H1.out.2.alloc (.cells #[.int .i64 r, .int .i64 a, .int .i64 c] 122)).toN (P := fun x => some g1 = some x)).trans (upP_grown hg2)).upd (fun x hx => by cases hx; exact (H1.out.1.own rfl).1)
               have cb2 : w2.cell? ⟨b, 1, none⟩ = some (.slice (some ⟨g, 0, none⟩) ms.length cu) := (hu2.cell (p := ⟨b, 1, none⟩) HR.out.2.1.lt (by simp)).trans cb
               have H2 : Hid (NR w2 w.heap.size (.slice (some ⟨g2, 0, none⟩) (ms.length + 1) c2) (ms.take ms.length ++ [(r, a, c)]) ∧ Upd [] w w2) := ⟨hI2, hu2⟩
               clear hI2 hg2 hu2)
            | (at_builtin; refine wp_appN rfl _ _ rfl w.heap.size _ _ _ _ (ms.take ms.length ++ [(r, a, c)]) (ms.drop ms.length) (ms.take ms.length ++ [(r, a, c)] ++ ms.drop ms.length) (ms.length + 1) rfl rfl H2.out.1 (by first | omega | (simp; done) | (simp; omega)) (srcN_empty _ _ _ _ _ (by omega) (by simp)) rfl (by first | omega | (simp; done) | (simp; omega)) (by first | omega | (simp; done) | (simp; omega)) H2.out.2.size ?_; intro g3 c3 w3 hI3 hg3
               have hu3 : Upd [] w w3 := ((H2.out.2.toN (P := fun x => some g2 = some x)).trans (upP_grown hg3)).upd (fun x hx => by cases hx; exact (H2.out.1.own rfl).1)
               have cb3 : w3.cell? ⟨b, 1, none⟩ = some (.slice (some ⟨g, 0, none⟩) ms.length cu) := (hu3.cell (p := ⟨b, 1, none⟩) HR.out.2.1.lt (by simp)).trans cb
               have cf3 : w3.frozen? ⟨b, 1, none⟩ = false := (HR.out.2.1.upd hu3 (by simp)).free 1
               have H3 : Hid (NR w3 w.heap.size (.slice (some ⟨g3, 0, none⟩) (ms.length + 1) c3) (ms.take ms.length ++ [(r, a, c)] ++ ms.drop ms.length) ∧ Upd [] w w3) := ⟨hI3, hu3⟩
               clear hI3 hg3 hu3)
            | fail)
          go_ret
          exact ⟨ms.length, Nat.le_refl _, HLo.out, fun j hj h => by omega, Or.inr ⟨fun h => by omega, rfl, _, put_row HR.out.2.1 H3.out.2 H3.out.1 (Nat.le_refl _)⟩⟩

end Go.Proofs.YtofcniodobjopaaGreat
