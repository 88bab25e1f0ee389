/- slices.SortFunc, slices.SortedFunc of monitors. -/
import Derived.Test.YtofcniodobjopaaGreatLkE
namespace Go.Proofs.YtofcniodobjopaaGreat
open Go.RowKit Go.Maps Go.Sort Go.Shelf Go.Lib

theorem MR.le {w : World} {B : Nat} {v : Value} {ms : List Mon} (h : MR w B v ms) : ms.length ≤ maxLen := by
  rcases h.2 with ⟨_, h2⟩ | ⟨g, cap, cur, _, _, _, h1, h2, _⟩
  · omega
  · omega
theorem IR.le {w : World} {B : Nat} {v : Value} {ms : List Int} (h : IR w B v ms) : ms.length ≤ maxLen := by
  rcases h.2 with ⟨_, h2⟩ | ⟨g, cap, cur, _, _, _, h1, h2, _⟩
  · omega
  · omega

theorem enters_byRef : ∀ args w, (callFunc 16 args).run Tryz.prog w = .ok (.enter 16 args) w := enters_of Tryz.func16 (by kernel_rfl) rfl
theorem enters_values1 : ∀ args w, (callFunc 36 args).run Tryz.prog w = .ok (.enter 36 args) w := enters_of Tryz.func36 (by kernel_rfl) rfl

/-- slices.SortFunc by Refs, of a row of monitors. -/
theorem sortFunc_mon (w : World) (B : Nat) (v : Value) (ms : List Mon) (h : MR w B v ms) (hl : ms.length ≤ 1073741824) :
    Calls Tryz.prog 35 #[v, .func (.func 16) #[] #[]] w fun e w' => e = .returned (.tuple #[]) ∧ ∃ ms', MR w' B v ms' ∧ ms'.Perm ms ∧ ms'.Pairwise (fun a b => a.1 ≤ b.1) ∧ ∃ S, Upd S w w' ∧ ∀ x, x ∈ S → B ≤ x := by
  obtain ⟨h1, h2⟩ := h
  rcases h2 with ⟨rfl, h0⟩ | ⟨g, cap, cur, rfl, hB, hg, hc1, hc2, hc3, hc4⟩
  · have hms : ms = [] := List.eq_nil_of_length_eq_zero h0
    subst hms
    refine (AnyF.slices_SortFunc_none { sortF with } none 0 _ w).mono ?_
    rintro e w' ⟨rfl, rfl⟩
    exact ⟨rfl, [], ⟨rfl, Or.inl ⟨rfl, rfl⟩⟩, List.Perm.refl _, List.Pairwise.nil, [], Upd.refl _ _, by simp⟩
  · have hH := holds_mon hg hc4
    have hcon := AnyQ.slices_SortFunc sortF 3 Tryz.isAgg33 Tryz.sizeOf33 cellsM (fun _ => rfl) (fun x v hv => by simp at hv; rcases hv with rfl | rfl | rfl <;> rfl) (fun x y => Lib.compareInt x.1 y.1) swoRef 16 #[] g 0 cap ms.toArray w enters_byRef (fun _ _ _ _ x y => byRef x y _) hH (Array.getElem?_eq_some_iff.1 hg).1 (by simp; omega)
    have hsz : ms.toArray.size = ms.length := by simp
    rw [hsz] at hcon
    refine hcon.mono ?_
    rintro e w' ⟨rfl, d', n, os, hp, hs, rfl⟩
    have hds : d'.size = ms.length := by rw [hp.1]; simp
    have hlen : d'.toList.length = ms.length := by simpa using hds
    refine ⟨rfl, d'.toList, ?_, ?_, ?_, [g], upd_sorted_mon d', by simp; exact hB⟩
    · unfold MR
      rw [hlen]
      refine ⟨by rw [len_cellsM, hlen], Or.inr ⟨g, cap, _, rfl, hB, heap_sorted_mon d' hg, hc1, hc2, by simp [putCells, hc3], ?_⟩⟩
      rw [← hds]
      exact take_putCells_mon cur d' (by rw [hds, hc3]; exact Nat.mul_le_mul_right 3 hc1)
    · have h3 := hp.2.2
      have e1 : d'.extract 0 ms.length = d' := by rw [← hds]; simp
      have e2 : ms.toArray.extract 0 ms.length = ms.toArray := by rw [← hsz]; exact Array.extract_size
      rw [e1, e2] at h3
      simpa using h3
    · rw [List.pairwise_iff_getElem]
      intro i j hi hj hij
      have hj' : j < ms.length := by omega
      have := hs i j (Nat.zero_le _) hij hj'
      rw [ltRef] at this
      have hjd : j < d'.size := by omega
      have hid : i < d'.size := by omega
      rw [getElem!_pos d' j hjd, getElem!_pos d' i hid] at this
      simp at this
      simpa using this

/-- slices.SortedFunc of the monitors' values. -/
theorem sortedFunc_mon (w : World) (bx b n : Nat) (f : Int → Option Mon) (hf : ∀ r m, f r = some m → m.1 = r) (hbx : bx < w.heap.size) (hm : w.cell? ⟨bx, 0, none⟩ = some (.map (some b))) (hB : MonB w b n f) (hn : n ≤ 1073741824) :
    Calls Tryz.prog 14 #[.func (.func 36) #[] #[.pointer (some ⟨bx, 0, none⟩)], .func (.func 16) #[] #[]] w fun e w' => ∃ v ms, e = .returned v ∧ MR w' w.heap.size v ms ∧ ms.Pairwise (fun a b => a.1 < b.1) ∧ (∀ m, m ∈ ms ↔ f m.1 = some m) ∧ Upd [] w w' := by
  have c1 := collect_mon 4 (by omega) 36 #[.pointer (some ⟨bx, 0, none⟩)] enters_values1 (SM f n) n (by unfold maxLen; omega) (by omega) w (values_gives w f hf 2 (by omega) bx b n hbx hm hB)
  clear hB hm
  have hn' : Hid (n ≤ 1073741824) := hn
  clear hn
  go_enter Tryz.func14, Tryz.ntmps14
  go_wp2_with fail
  refine Calls.mono c1 ?_
  rintro e w1 ⟨v, ms, rfl, hS, hrow, _, hu⟩
  have c2 := sortFunc_mon w1 w.heap.size v ms hrow (Nat.le_trans hS.2.2 hn'.out)
  go_wp2_with fail
  refine Calls.mono c2 ?_
  rintro e w2 ⟨rfl, ms', hrow', hp, hpw, S, hu2, hS2⟩
  go_wp2
  go_ret
  refine ⟨v, ms', rfl, hrow', ?_, fun m => ?_, hu.then hu2 (fun x hx => Or.inl (hS2 x hx))⟩
  · have hnd : (ms'.map (·.1)).Nodup := (hp.map _).nodup_iff.2 hS.1
    have hnd2 : ms'.Pairwise (fun a b => a.1 ≠ b.1) := List.pairwise_map.1 hnd
    exact hpw.imp₂ (fun a b h1 h2 => by omega) hnd2
  · rw [hp.mem_iff]; exact hS.2.1 m

end Go.Proofs.YtofcniodobjopaaGreat
