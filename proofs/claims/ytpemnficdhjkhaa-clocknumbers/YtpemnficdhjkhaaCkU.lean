/- Clocks: Set of one who does not wait. -/
import Derived.Test.YtpemnficdhjkhaaCkT
import Derived.Deep.Cut
namespace Go.Proofs.Ytpemnficdhjkhaa
open Go.RowKit Go.Maps

theorem Gw.drew {w W : World} (h : Gw w W) : Gw w W.drew := h.drewN 1
/-- The clock is whole again. -/
theorem set_shut {W2 : World} {c m g : Nat} {p : Option Addr} {cap : Nat} {gb : Option Nat} {now its pid : Int} {T : TF} {xs : List Int}
    (o : CkR W2 c m g (.slice p xs.length cap) gb now (at1 T pid (some its)) xs) (h0 : 0 ≤ now) (h1 : now ≤ 1099511627776) (hm : ∀ x, x ∈ xs ↔ T x ≠ none) (hs : xs.Pairwise (bef T)) (hr : ∀ x t, T x = some t → 0 ≤ t ∧ t ≤ 2199023255552)
    (hl : xs.length + 1 ≤ m) (hp : I64 pid) (hn : T pid = none) (hi : 0 ≤ its ∧ its ≤ 2199023255552) (v' : Value) (gb' : Option Nat) (W4 : World)
    (hR : RowB W4 v' (insL xs (xs.countP fun x => !pl (at1 T pid (some its)) its pid x) pid) gb') (hgb : ∀ b, gb' = some b → gb = some b ∨ W2.heap.size ≤ b) (hu : UpP (fun x => gb = some x) W2 W4) :
    CkO (W4.setCell ⟨c, 3, none⟩ v') c m g v' gb' now (at1 T pid (some its)) (insL xs (xs.countP fun x => !pl (at1 T pid (some its)) its pid x) pid) ∧ (∀ b, gb' = some b → gb = some b ∨ W2.heap.size ≤ b) ∧ UpP (fun x => x = c ∨ gb = some x) W2 (W4.setCell ⟨c, 3, none⟩ v') := by
  have hnx : pid ∉ xs := fun h => ((hm pid).1 h) hn
  have hcl := o.row.lt
  have us : Upd [c] W4 (W4.setCell ⟨c, 3, none⟩ v') := (Upd.refl [c] W4).setCell (p := ⟨c, 3, none⟩) (Or.inr (by simp)) v'
  have hgl : g < W2.heap.size := MapB.lt o.times
  have hmx : ∀ x ∈ xs, at1 T pid (some its) x ≠ none := fun x hx => by
    by_cases e : x = pid
    · exact absurd (e ▸ hx) hnx
    · rw [at1_other _ _ e]; exact (hm x).1 hx
  have hk : (xs.countP fun x => !pl (at1 T pid (some its)) its pid x) ≤ xs.length := List.countP_le_length
  refine ⟨⟨⟨?_, ?_, ?_, ?_, fun x hx => ?_⟩, h0, h1, fun x => ?_, ?_, fun x t hx => ?_⟩, hgb, (hu.mono (fun x hx => Or.inr hx)).trans (us.toP.mono (fun x hx => by simp at hx; exact Or.inl hx))⟩
  · exact (o.row.mono hu (fun hb => (o.bne hb).1 rfl)).set 3 v'
  · exact MapB.upP (MapB.upP o.times hu (fun hb => (o.bne hb).2 rfl)) us.toP (by simp; exact o.gne)
  · refine hR.mono us.toP (fun b hb => ?_)
    rcases hgb b hb with h | h
    · simp; exact (o.bne h).1
    · simp; omega
  · rw [insL_len xs pid hk]; omega
  · rcases (ins_mem xs _ pid x).1 hx with h | rfl
    · exact o.key x h
    · exact hp
  · rw [ins_mem]
    by_cases e : x = pid
    · subst e; simp [at1_same]
    · rw [at1_other _ _ e, ← hm x]; simp [e]
  · exact ins_srt (srt_other hs hnx) hmx (at1_same _ _ _) hnx
  · by_cases e : x = pid
    · subst e; rw [at1_same] at hx; cases hx; exact hi
    · rw [at1_other _ _ e] at hx; exact hr x t hx

set_option maxHeartbeats 4000000 in
set_option maxRecDepth 100000 in
theorem set_new {w : World} {c n g : Nat} {v : Value} {gb : Option Nat} {now : Int} {T : TF} {xs : List Int} (o : CkO w c n g v gb now T xs) (hn : n + 1 ≤ 1073741824) {pid after : Int} (hp : I64 pid) (hT : T pid = none) (ha0 : 0 ≤ after) (ha1 : after ≤ 1099511627776) :
    Calls Try.prog 13 #[.pointer (some ⟨c, 0, none⟩), .int .i64 pid, .int .i64 after] w fun e w' => e = .returned (.bool true) ∧ ∃ v' gb', CkO w' c (n + 1) g v' gb' now (at1 T pid (some (now + after))) (insL xs (xs.countP fun x => !pl (at1 T pid (some (now + after))) (now + after) pid x) pid) ∧ (∀ b, gb' = some b → gb = some b ∨ w.heap.size ≤ b) ∧ UpP (fun x => x = c ∨ x = g ∨ gb = some x) w w' := by
  have hmade := o.toCkR.made
  have hw := o.toCkR.waits hp
  rw [hT] at hw
  have hnow0 := o.now0
  have hnow1 := o.now1
  obtain ⟨its, hits⟩ : ∃ its, now + after = its := ⟨_, rfl⟩
  obtain ⟨W2, hput, hT2, ht⟩ := TmB.put (MapB.upP (P := fun _ => False) o.times ((Upd.refl [] w).drew).toN (fun h => h) : TmB w.drew g n T) (by unfold maxLen; omega) hp its
  have hu := turned_upP ht
  obtain ⟨p, cap, hv⟩ := o.cells.form
  subst hv
  have R2 : CkR W2 c (n + 1) g (.slice p xs.length cap) gb now (at1 T pid (some its)) xs := by
    have h' := o.upd ((Upd.refl [] w).drew)
    exact ⟨h'.row.mono hu (fun e => o.gne e.symm), hT2, h'.cells.mono hu (fun b hb e => (o.bne hb).2 e), Nat.le_succ_of_le h'.len, h'.key⟩
  have H : Hid (CkR W2 c (n + 1) g (.slice p xs.length cap) gb now (at1 T pid (some its)) xs) := R2
  have HU : Hid (UpP (fun x => x = g) w W2) := (UpP.refl _ w).drew.trans hu
  have hnx : pid ∉ xs := fun h => ((o.mem pid).1 h) hT
  obtain ⟨k, hk⟩ : ∃ k, (xs.countP fun x => !pl (at1 T pid (some its)) its pid x) = k := ⟨_, rfl⟩
  have hkl : k ≤ xs.length := by rw [← hk]; exact List.countP_le_length
  have HP : Hid (∀ W, Gw W2 W → Calls Try.prog 27 #[.pointer (some ⟨c, 0, none⟩), .int .i64 pid] W fun e w' => e = .returned (.int .i64 (k : Nat)) ∧ Gw W w') := fun W hG => by
    have h := place_any (R2.upd hG.upd) hn hp (by
      rw [tmAt_same]
      refine pl_mono (srt_other o.srt hnx) (fun x hx => ?_) (at1_same _ _ _)
      by_cases e : x = pid
      · exact absurd (e ▸ hx) hnx
      · rw [at1_other _ _ e]; exact (o.mem x).1 hx)
    rw [tmAt_same, hk] at h
    exact h
  have HI : Hid (∀ W, Gw W2 W → ∀ vb, Cl W vb #[.int .i64 pid] 3 → W2.heap.size ≤ vb → Calls Try.prog 26 #[.slice p xs.length cap, .int .i64 k, .slice (some ⟨vb, 0, none⟩) 1 1] W fun e W' => InsE W gb (insL xs k pid) e W') := fun W hG vb hV hvb =>
    insert_any (R2.cells.upd hG.upd) (by have := o.len; omega) hV (fun b hb => by have := R2.cells.lt hb; omega) hkl 1
  have HE : Hid (∀ v' gb' W4, RowB W4 v' (insL xs k pid) gb' → (∀ b, gb' = some b → gb = some b ∨ W2.heap.size ≤ b) → UpP (fun x => gb = some x) W2 W4 →
      CkO (W4.setCell ⟨c, 3, none⟩ v') c (n + 1) g v' gb' now (at1 T pid (some (now + after))) (insL xs (xs.countP fun x => !pl (at1 T pid (some (now + after))) (now + after) pid x) pid) ∧ (∀ b, gb' = some b → gb = some b ∨ w.heap.size ≤ b) ∧ UpP (fun x => x = c ∨ x = g ∨ gb = some x) w (W4.setCell ⟨c, 3, none⟩ v')) := fun v' gb' W4 h1 h2 h3 => by
    have h := set_shut R2 o.now0 o.now1 o.mem o.srt o.rng (by have := o.len; omega) hp hT ⟨by omega, by omega⟩ v' gb' W4 (by rw [hk]; exact h1) h2 h3
    rw [hits]
    refine ⟨h.1, fun b hb => (h.2.1 b hb).imp id (fun hh => Nat.le_trans HU.out.size hh), (HU.out.mono (fun x hx => Or.inr (Or.inl hx))).trans (h.2.2.mono (fun x hx => hx.imp id Or.inr))⟩
  have c1 : w.cell? ⟨c, 1, none⟩ = some (.int .i64 now) := by rw [o.row.cell]; rfl
  have c2 : w.cell? ⟨c, 2, none⟩ = some (.map (some g)) := by rw [o.row.cell]; rfl
  have c3 : W2.cell? ⟨c, 3, none⟩ = some (.slice p xs.length cap) := by rw [R2.row.cell]; rfl
  have d1 : decide (after < 0) = false := by simpa using ha0
  have d2 : decide (1099511627776 < after) = false := by simpa using ha1
  have hwr : IntKind.i64.wrap (now + after) = its := by rw [hits]; exact IntWalk.i64_in _ ⟨by omega, by omega⟩
  have hsum : now + after = its := hits
  clear o R2 hT2 ht hu hits
  generalize hX : (insL xs (xs.countP fun x => !pl (at1 T pid (some (now + after))) (now + after) pid x) pid) = X at HE ⊢
  clear hX
  go_enter Try.func13, Try.ntmps13
  go_wp2_with fail
  refine Calls.mono hmade ?_
  rintro e w' ⟨rfl, rfl⟩
  go_wp2_with fail
  refine Calls.mono hw ?_
  rintro e w1 ⟨rfl, rfl⟩
  clear hmade hw
  go_wp2_with fail
  go_region
  all_goals
    go_upto_region 4 with fail
    refine wp_region_cut_drew (S := fun W => UpP (fun x => gb = some x) W2 W) 13 (by kernel_rfl) (UpP.refl _ W2).drew (fun hS => ?_)
    refine wpAnyC_take (i := 0) (v := .pointer (some ⟨c, 0, none⟩)) rfl (by kernel_rfl) (by kernel_rfl) (by kernel_rfl) (by kernel_rfl) (fun _ _ _ h => h) (Or.inl ⟨by rfl, ?_⟩) hS ?_
    · intro W hW; go_simp
    refine wpAnyC_take (i := 1) (v := .pointer (some ⟨c, 0, none⟩)) rfl (by kernel_rfl) (by kernel_rfl) (by kernel_rfl) (by kernel_rfl) (fun _ _ _ h => h) (Or.inl ⟨by rfl, ?_⟩) hS ?_
    · intro W hW; go_simp
    simp only [Act.put, List.getElem_toArray, List.getElem_cons_succ, List.getElem_cons_zero, List.setIfInBounds_toArray, List.set_cons_succ, List.set_cons_zero]
    refine wpAnyC_take (i := 2) (v := .pointer (some ⟨c, 0, none⟩)) rfl (by kernel_rfl) (by kernel_rfl) (by kernel_rfl) (by kernel_rfl) (fun _ _ _ h => h) (Or.inl ⟨by rfl, ?_⟩) hS ?_
    · intro W hW; go_simp
    simp only [Act.put, List.getElem_toArray, List.getElem_cons_succ, List.getElem_cons_zero, List.setIfInBounds_toArray, List.set_cons_succ, List.set_cons_zero]
    refine wpAnyC_take (i := 3) (v := .pointer (some ⟨c, 3, none⟩)) rfl (by kernel_rfl) (by kernel_rfl) (by kernel_rfl) (by kernel_rfl) (fun _ _ _ h => h) (Or.inl ⟨by rfl, ?_⟩) hS ?_
    · intro W hW; go_simp
    simp only [Act.put, List.getElem_toArray, List.getElem_cons_succ, List.getElem_cons_zero, List.setIfInBounds_toArray, List.set_cons_succ, List.set_cons_zero]
    refine wpAnyC_take (i := 4) (v := .slice p xs.length cap) rfl (by kernel_rfl) (by kernel_rfl) (by kernel_rfl) (by kernel_rfl) (fun _ _ _ h => h) (Or.inl ⟨by rfl, ?_⟩) hS ?_
    · intro W hW; have e1 : W.cell? ⟨c, 3, none⟩ = some (.slice p xs.length cap) := (UpP.cell hW (p := ⟨c, 3, none⟩) H.out.row.lt (fun hb => (H.out.bne hb).1 rfl)).trans c3; go_simp
    refine wpAnyC_take (i := 5) (v := .pointer (some ⟨c, 0, none⟩)) rfl (by kernel_rfl) (by kernel_rfl) (by kernel_rfl) (by kernel_rfl) (fun _ _ _ h => h) (Or.inl ⟨by rfl, ?_⟩) hS ?_
    · intro W hW; go_simp
    refine wpAnyC_take (i := 6) (v := .int .i64 pid) rfl (by kernel_rfl) (by kernel_rfl) (by kernel_rfl) (by kernel_rfl) (fun _ _ _ h => h) (Or.inl ⟨by rfl, ?_⟩) hS ?_
    · intro W hW; go_simp
    refine wpAnyC_take (i := 8) (v := .int .i64 pid) rfl (by kernel_rfl) (by kernel_rfl) (by kernel_rfl) (by kernel_rfl) (fun _ _ _ h => h) (Or.inl ⟨by rfl, ?_⟩) hS ?_
    · intro W hW; go_simp
    simp only [Act.put, List.getElem_toArray, List.getElem_cons_succ, List.getElem_cons_zero, List.setIfInBounds_toArray, List.set_cons_succ, List.set_cons_zero]
    refine wpAnyC_ready (rs := [7, 9]) (by kernel_rfl) (by simp) (AllReadyC.cons rfl (by decide) (fun K hK => ?_) (AllReadyC.cons rfl (by decide) (fun K hK => ?_) (AllReadyC.nil)))
    · go_simp
      refine Calls.mono (HP.out _ (Gw.refl _).drew) ?_
      rintro e W1 ⟨rfl, h⟩
      have hS : UpP (fun x => gb = some x) W2 W1 := (Gw.upd ((Gw.refl _).drew.trans h)).toN
      have HG1 : Hid (Gw W2 W1) := (Gw.refl _).drew.trans h
      clear h
      refine hK.out _ _ hS (fun _ => ?_)
      clear hK K
      refine wpAnyC_ready (rs := [9]) (by kernel_rfl) (by simp) (AllReadyC.cons rfl (by decide) (fun K hK => ?_) AllReadyC.nil)
      go_simp
      obtain ⟨W3, hW3⟩ : ∃ W3, W3 = W1.alloc (.cells #[.int .i64 pid] 3) := ⟨_, rfl⟩
      have HG3 : Hid (Gw W2 W3) := by show Gw _ _; rw [hW3]; exact HG1.out.alloc _
      have HV : Hid (Cl W3 W1.heap.size #[.int .i64 pid] 3 ∧ W2.heap.size ≤ W1.heap.size) := ⟨by rw [hW3]; exact Cl.new _ _ _ _ rfl, HG1.out.upd.size⟩
      rw [← hW3]
      refine hK.out _ _ HG3.out.upd.toN (fun _ => ?_)
      clear hK K hW3 hS
      -- Insert
      refine wpAnyC_ready (rs := [10]) (by kernel_rfl) (by simp) (AllReadyC.cons rfl (by decide) (fun K hK => ?_) AllReadyC.nil)
      go_simp
      refine Calls.mono (HI.out W3 HG3.out _ HV.out.1 HV.out.2) ?_
      rintro e W4 ⟨v', gb', rfl, h1, h2, h3⟩
      obtain ⟨p', cap', hv'⟩ := h1.form
      subst hv'
      have hS4 : UpP (fun x => gb = some x) W2 W4 := (HG3.out.upd.toN).trans h3
      have HR : Hid (RowB W4 (.slice p' (insL xs k pid).length cap') (insL xs k pid) gb' ∧ (∀ b, gb' = some b → gb = some b ∨ W2.heap.size ≤ b) ∧ UpP (fun x => gb = some x) W2 W4) := ⟨h1, fun b hb => (h2 b hb).imp id (fun h => Nat.le_trans HG3.out.upd.size h), hS4⟩
      clear h1 h2 h3
      refine hK.out _ _ hS4 (fun _ => ?_)
      clear hK K
      refine wpAnyC_ready (rs := [11]) (by kernel_rfl) (by simp) (AllReadyC.cons rfl (by decide) (fun K hK => ?_) AllReadyC.nil)
      go_simp
      refine hK.out _ _ hS4 (fun _ => ?_)
      clear hK K
      refine wpAnyC_ready (rs := [12]) (by kernel_rfl) (by simp) (AllReadyC.cons rfl (by decide) (fun K hK => ?_) AllReadyC.nil)
      go_simp
      refine hK.out _ _ hS4 (fun _ => ?_)
      clear hK K
      have cb3 : W4.cell? ⟨c, 3, none⟩ = some (.slice p xs.length cap) := (UpP.cell hS4 (p := ⟨c, 3, none⟩) H.out.row.lt (fun hb => (H.out.bne hb).1 rfl)).trans c3
      have cf3 : W4.frozen? ⟨c, 3, none⟩ = false := (H.out.row.mono hS4 (fun hb => (H.out.bne hb).1 rfl)).free 3
      clear hS4
      refine wpAnyC_cut (fun _ => True) (by kernel_rfl) rfl (fun K hK => ?_)
      go_simp
      refine hK.out _ _ trivial (fun _ => ?_)
      clear hK K
      refine wpAnyH_done (by kernel_rfl) ?_ _
      go_wp2
      go_ret
      exact ⟨rfl, _, _, HE.out _ _ _ HR.out.1 HR.out.2.1 HR.out.2.2⟩
    · go_simp
      obtain ⟨W1, hW1⟩ : ∃ W1, W1 = (W2.alloc (.cells #[.int .i64 pid] 3)).drew := ⟨_, rfl⟩
      have HG1 : Hid (Gw W2 W1) := by show Gw _ _; rw [hW1]; exact ((Gw.refl _).alloc _).drew
      have HV1 : Hid (Cl W1 W2.heap.size #[.int .i64 pid] 3) := by show Cl _ _ _ _; rw [hW1]; exact Cl.new W2 _ _ _ rfl
      rw [← hW1]
      refine hK.out _ _ HG1.out.upd.toN (fun _ => ?_)
      clear hK K hW1
      refine wpAnyC_ready (rs := [7]) (by kernel_rfl) (by simp) (AllReadyC.cons rfl (by decide) (fun K hK => ?_) AllReadyC.nil)
      go_simp
      refine Calls.mono (HP.out W1 HG1.out) ?_
      rintro e W3 ⟨rfl, h⟩
      have HG3 : Hid (Gw W2 W3) := HG1.out.trans h
      have HV : Hid (Cl W3 W2.heap.size #[.int .i64 pid] 3 ∧ W2.heap.size ≤ W2.heap.size) := ⟨HV1.out.upd h.upd (by simp), Nat.le_refl _⟩
      clear h
      refine hK.out _ _ HG3.out.upd.toN (fun _ => ?_)
      clear hK K
      -- Insert
      refine wpAnyC_ready (rs := [10]) (by kernel_rfl) (by simp) (AllReadyC.cons rfl (by decide) (fun K hK => ?_) AllReadyC.nil)
      go_simp
      refine Calls.mono (HI.out W3 HG3.out _ HV.out.1 HV.out.2) ?_
      rintro e W4 ⟨v', gb', rfl, h1, h2, h3⟩
      obtain ⟨p', cap', hv'⟩ := h1.form
      subst hv'
      have hS4 : UpP (fun x => gb = some x) W2 W4 := (HG3.out.upd.toN).trans h3
      have HR : Hid (RowB W4 (.slice p' (insL xs k pid).length cap') (insL xs k pid) gb' ∧ (∀ b, gb' = some b → gb = some b ∨ W2.heap.size ≤ b) ∧ UpP (fun x => gb = some x) W2 W4) := ⟨h1, fun b hb => (h2 b hb).imp id (fun h => Nat.le_trans HG3.out.upd.size h), hS4⟩
      clear h1 h2 h3
      refine hK.out _ _ hS4 (fun _ => ?_)
      clear hK K
      refine wpAnyC_ready (rs := [11]) (by kernel_rfl) (by simp) (AllReadyC.cons rfl (by decide) (fun K hK => ?_) AllReadyC.nil)
      go_simp
      refine hK.out _ _ hS4 (fun _ => ?_)
      clear hK K
      refine wpAnyC_ready (rs := [12]) (by kernel_rfl) (by simp) (AllReadyC.cons rfl (by decide) (fun K hK => ?_) AllReadyC.nil)
      go_simp
      refine hK.out _ _ hS4 (fun _ => ?_)
      clear hK K
      have cb3 : W4.cell? ⟨c, 3, none⟩ = some (.slice p xs.length cap) := (UpP.cell hS4 (p := ⟨c, 3, none⟩) H.out.row.lt (fun hb => (H.out.bne hb).1 rfl)).trans c3
      have cf3 : W4.frozen? ⟨c, 3, none⟩ = false := (H.out.row.mono hS4 (fun hb => (H.out.bne hb).1 rfl)).free 3
      clear hS4
      refine wpAnyC_cut (fun _ => True) (by kernel_rfl) rfl (fun K hK => ?_)
      go_simp
      refine hK.out _ _ trivial (fun _ => ?_)
      clear hK K
      refine wpAnyH_done (by kernel_rfl) ?_ _
      go_wp2
      go_ret
      exact ⟨rfl, _, _, HE.out _ _ _ HR.out.1 HR.out.2.1 HR.out.2.2⟩
end Go.Proofs.Ytpemnficdhjkhaa
