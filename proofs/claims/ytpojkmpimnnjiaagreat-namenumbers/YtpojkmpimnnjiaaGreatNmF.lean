/- slices.SortFunc, slices.SortedFunc of names; All. -/
import Derived.Test.YtpojkmpimnnjiaaGreatNmE
import Derived.Test.YtpojkmpimnnjiaaGreatNmK
namespace Go.Proofs.YtpojkmpimnnjiaaGreat
open Go.RowKit Go.Maps Go.Sort Go.Shelf Go.Lib

theorem enters_byName : ∀ args w, (callFunc 25 args).run Tryz.prog w = .ok (.enter 25 args) w := enters_of Tryz.func25 (by kernel_rfl) rfl
theorem enters_values1 : ∀ args w, (callFunc 35 args).run Tryz.prog w = .ok (.enter 35 args) w := enters_of Tryz.func35 (by kernel_rfl) rfl

/-- slices.SortFunc by Refs, of a row of monitors. -/
theorem sortFunc_nam (w : World) (B : Nat) (v : Value) (ms : List Nd) (h : MR w B v ms) (hl : ms.length ≤ 1073741824) :
    Calls Tryz.prog 34 #[v, .func (.func 25) #[] #[]] w fun e w' => e = .returned (.tuple #[]) ∧ ∃ ms', MR w' B v ms' ∧ ms'.Perm ms ∧ ms'.Pairwise (fun a b => ¬ b.1 < a.1) ∧ ∃ S, Upd S w w' ∧ ∀ x, x ∈ S → B ≤ x := by
  obtain ⟨h1, h2⟩ := h
  rcases h2 with ⟨rfl, h0⟩ | ⟨g, cap, cur, rfl, hB, hg, hc1, hc2, hc3, hc4⟩
  · have hms : ms = [] := List.eq_nil_of_length_eq_zero h0
    subst hms
    refine (AnyF.slices_SortFunc_none { sortF with } none 0 _ w).mono ?_
    rintro e w' ⟨rfl, rfl⟩
    exact ⟨rfl, [], ⟨rfl, Or.inl ⟨rfl, rfl⟩⟩, List.Perm.refl _, List.Pairwise.nil, [], Upd.refl _ _, by simp⟩
  · have hH := holds_nam hg hc4
    have hcon := AnyQ.slices_SortFunc sortF 2 Tryz.isAgg42 Tryz.sizeOf42 cellsN (fun _ => rfl) (fun x v hv => by simp at hv; rcases hv with rfl | rfl <;> rfl) (fun x y : Nd => Lib.compareBytes x.1 y.1) swoName 25 #[] g 0 cap ms.toArray w enters_byName (fun _ _ _ _ x y => byName x y _) hH (Array.getElem?_eq_some_iff.1 hg).1 (by simp; omega)
    have hsz : ms.toArray.size = ms.length := by simp
    rw [hsz] at hcon
    refine hcon.mono ?_
    rintro e w' ⟨rfl, d', n, os, hp, hs, rfl⟩
    have hds : d'.size = ms.length := by rw [hp.1]; simp
    have hlen : d'.toList.length = ms.length := by simpa using hds
    refine ⟨rfl, d'.toList, ?_, ?_, ?_, [g], upd_sorted_nam d', by simp; exact hB⟩
    · unfold MR
      rw [hlen]
      refine ⟨by rw [len_cellsN, hlen], Or.inr ⟨g, cap, _, rfl, hB, heap_sorted_nam d' hg, hc1, hc2, by simp [putCells, hc3], ?_⟩⟩
      rw [← hds]
      exact take_putCells_nam cur d' (by rw [hds, hc3]; exact Nat.mul_le_mul_right 2 hc1)
    · have h3 := hp.2.2
      have e1 : d'.extract 0 ms.length = d' := by rw [← hds]; simp
      have e2 : ms.toArray.extract 0 ms.length = ms.toArray := by rw [← hsz]; exact Array.extract_size
      rw [e1, e2] at h3
      simpa using h3
    · rw [List.pairwise_iff_getElem]
      intro i j hi hj hij
      have hj' : j < ms.length := by omega
      have := hs i j (Nat.zero_le _) hij hj'
      rw [ltName] at this
      have hjd : j < d'.size := by omega
      have hid : i < d'.size := by omega
      rw [getElem!_pos d' j hjd, getElem!_pos d' i hid] at this
      simp at this
      simpa using this

/-- slices.SortedFunc of the monitors' values. -/
theorem sortedFunc_nam (w : World) (bx b n : Nat) (f : BS → Option Nd) (hf : ∀ r m, f r = some m → m.1 = r) (hbx : bx < w.heap.size) (hm : w.cell? ⟨bx, 0, none⟩ = some (.map (some b))) (hB : StrB w b n f) (hn : n ≤ 1073741824) :
    Calls Tryz.prog 23 #[.func (.func 35) #[] #[.pointer (some ⟨bx, 0, none⟩)], .func (.func 25) #[] #[]] w fun e w' => ∃ v ms, e = .returned v ∧ MR w' w.heap.size v ms ∧ ms.Pairwise (fun a b => a.1 < b.1) ∧ (∀ m, m ∈ ms ↔ f m.1 = some m) ∧ Upd [] w w' := by
  have c1 := collect_nam 4 (by omega) 35 #[.pointer (some ⟨bx, 0, none⟩)] enters_values1 (SM f n) n (by unfold maxLen; omega) (by omega) w (values_gives w f hf 2 (by omega) bx b n hbx hm hB)
  clear hB hm
  have hn' : Hid (n ≤ 1073741824) := hn
  clear hn
  go_enter Tryz.func23, Tryz.ntmps23
  go_wp2_with fail
  refine Calls.mono c1 ?_
  rintro e w1 ⟨v, ms, rfl, hS, hrow, _, hu⟩
  have c2 := sortFunc_nam w1 w.heap.size v ms hrow (Nat.le_trans hS.2.2 hn'.out)
  go_wp2_with fail
  refine Calls.mono c2 ?_
  rintro e w2 ⟨rfl, ms', hrow', hp, hpw, S, hu2, hS2⟩
  go_wp2
  go_ret
  refine ⟨v, ms', rfl, hrow', ?_, fun m => ?_, hu.then hu2 (fun x hx => Or.inl (hS2 x hx))⟩
  · have hnd : (ms'.map (·.1)).Nodup := (hp.map _).nodup_iff.2 hS.1
    have hnd2 : ms'.Pairwise (fun a b => a.1 ≠ b.1) := List.pairwise_map.1 hnd
    exact hpw.imp₂ (fun a b h1 h2 => by
      rcases List.le_iff_lt_or_eq.1 (List.not_lt.1 h1) with h3 | h3
      · exact h3
      · exact absurd h3 h2) hnd2
  · rw [hp.mem_iff]; exact hS.2.1 m


theorem all_any : AllSaid := fun w l n b1 b2 F G o hn => by
  have hm := o.made
  have c1 : w.cell? ⟨l, 1, none⟩ = some (.map (some b1)) := by rw [o.row.cell]; rfl
  have U0 : Upd [] w (w.alloc (.cells #[.map (some b1)] 48)) := (Upd.refl [] w).alloc _
  have C0 : Cl (w.alloc (.cells #[.map (some b1)] 48)) w.heap.size #[.map (some b1)] 48 := Cl.new _ _ _ _ rfl
  have HS : Hid (Calls Tryz.prog 23 #[.func (.func 35) #[] #[.pointer (some ⟨w.heap.size, 0, none⟩)], .func (.func 25) #[] #[]] (w.alloc (.cells #[.map (some b1)] 48)) fun e w' => ∃ v ms, e = .returned v ∧ MR w' (w.alloc (.cells #[.map (some b1)] 48)).heap.size v ms ∧ ms.Pairwise (fun a b => a.1 < b.1) ∧ (∀ m, m ∈ ms ↔ nmF F m.1 = some m) ∧ Upd [] (w.alloc (.cells #[.map (some b1)] 48)) w') :=
    sortedFunc_nam _ w.heap.size b1 n (nmF F) (fun r m h => by
      unfold nmF at h
      cases hF : F r with
      | none => rw [hF] at h; cases h
      | some p => rw [hF] at h; cases h; rfl) (by simp) (by rw [C0.cell]; rfl) (o.upd U0).byN (by omega)
  have HU : Hid (Upd [] w (w.alloc (.cells #[.map (some b1)] 48))) := U0
  clear o hn U0 C0
  go_enter Tryz.func10, Tryz.ntmps10
  go_wp2_with fail
  refine Calls.mono hm ?_
  rintro e w' ⟨rfl, rfl⟩
  clear hm
  go_wp2_with fail
  refine (values_call _ _).mono ?_
  rintro e w2 ⟨rfl, rfl⟩
  go_wp2_with fail
  refine Calls.mono HS.out ?_
  rintro e w3 ⟨v, ms, rfl, h1, h2, h3, h4⟩
  have H : Hid (MR w3 w'.heap.size v ms ∧ ms.Pairwise (fun a b => a.1 < b.1) ∧ (∀ m : Nd, m ∈ ms ↔ F m.1 = some m.2) ∧ Upd [] w' w3) := by
    refine ⟨h1.base HU.out.size, h2, fun m => ?_, HU.out.trans h4⟩
    rw [h3]
    obtain ⟨s, p⟩ := m
    unfold nmF
    cases F s <;> simp
  clear h1 h2 h3 h4 HS
  go_wp2_with fail
  go_ret
  exact ⟨v, ms, rfl, H.out⟩

end Go.Proofs.YtpojkmpimnnjiaaGreat
