/- ScanCut: where both are tokens. -/
import Derived.Test.YtfejdflbilakoaaDoorCutW
namespace Go.Proofs.YtfejdflbilakoaaDoor
open Go.RowKit

theorem Own.off {w w' : World} {base : Nat} {T : TypeId} {sz : Nat} {v : Value} {n : Nat} {xs : List Value} {S : List Nat} (h : Own w base T sz v n xs) (hu : Upd S w w') (hn : ∀ b, v.ownBlock = some b → b ∉ S) : Own w' base T sz v n xs := by
  obtain ⟨h0, h1 | ⟨g, cap, cur, hv, hb, hh, h2⟩⟩ := h
  · exact ⟨h0, Or.inl h1⟩
  · exact ⟨h0, Or.inr ⟨g, cap, cur, hv, hb, (hu.block g (lt_blk hh) (hn g (by rw [hv]; rfl))).trans hh, h2⟩⟩
/-- Behind an append onto another row. -/
theorem Own.kept {w w' : World} {base : Nat} {T : TypeId} {sz : Nat} {v : Value} {n : Nat} {xs : List Value} {row : Option Nat} (h : Own w base T sz v n xs) (hg : w.grownBy w' row) (hn : ∀ b, v.ownBlock = some b → some b ≠ row) : Own w' base T sz v n xs := by
  obtain ⟨h0, h1 | ⟨g, cap, cur, hv, hb, hh, h2⟩⟩ := h
  · exact ⟨h0, Or.inl h1⟩
  · exact ⟨h0, Or.inr ⟨g, cap, cur, hv, hb, (hg.block g (lt_blk hh) (hn g (by rw [hv]; rfl))).trans hh, h2⟩⟩
theorem OT.some {w : World} {base n c : Nat} {a : Option Addr} {l : List Sc.Tok} (h : OT w base (.slice a n c) l) (hl : 0 < l.length) : ∃ g, a = some ⟨g, 0, none⟩ ∧ base ≤ g ∧ g < w.heap.size := by
  obtain ⟨g, cap, hv, hb, hlt⟩ := World.ownsRow.form h hl
  cases hv
  exact ⟨g, rfl, hb, hlt⟩

def sh (n : Nat) (t : Sc.Tok) : Sc.Tok := ⟨t.kind, t.text, t.place + n⟩
def shK (n : Nat) (l : List Sc.Tok) (k : Nat) : List Sc.Tok := (l.take k).map (sh n) ++ l.drop k
theorem shK_len (n : Nat) (l : List Sc.Tok) (k : Nat) (hk : k ≤ l.length) : (shK n l k).length = l.length := by simp [shK]; omega
theorem shK_get? (n : Nat) (l : List Sc.Tok) (k : Nat) (hk : k < l.length) : (shK n l k)[k]? = some l[k] := by
  unfold shK
  rw [List.getElem?_append_right (by simp; omega), List.getElem?_drop]
  have e : k + (k - ((l.take k).map (sh n)).length) = k := by simp; omega
  rw [e, List.getElem?_eq_getElem hk]
theorem shK_get (n : Nat) (l : List Sc.Tok) (k : Nat) (hk : k < l.length) (h : k < (shK n l k).length) : (shK n l k)[k] = l[k] := by
  have := shK_get? n l k hk
  rw [List.getElem?_eq_getElem h] at this
  exact Option.some.inj this
theorem shK_succ (n : Nat) (l : List Sc.Tok) (k : Nat) (hk : k < l.length) : (shK n l k).set k (sh n l[k]) = shK n l (k + 1) := by
  unfold shK
  rw [List.set_append_right _ _ (by simp; omega), List.take_succ_eq_append_getElem hk, List.map_append, List.append_assoc]
  congr 1
  have e : k - ((l.take k).map (sh n)).length = 0 := by simp; omega
  rw [e, List.drop_eq_getElem_cons hk]
  rfl
theorem shK_all (n : Nat) (l : List Sc.Tok) : shK n l l.length = l.map (sh n) := by simp [shK]

set_option maxHeartbeats 4000000 in
set_option maxRecDepth 100000 in
theorem Cut_ok (a b : ByteArray) (w : World) (hg : Glb w) (h : a.size + b.size ≤ 20000) (la lb : List Sc.Tok) (hla : 0 < la.length) (hla2 : la.length ≤ 30000) (hlb : 0 < lb.length) (hlb2 : lb.length ≤ 30000) (hpl : ∀ k (hk : k < lb.length), lb[k].place ≤ 30000)
    (hTa : TokSaid w a (.ok la)) (hTb : TokSaid w b (.ok lb)) (hTc : TokSaid w (a ++ ⟨#[10]⟩ ++ b) (.ok (la.dropLast ++ lb.map (sh (a.size + 1))))) :
    Calls Tryd.prog 4 #[.string a, .string b] w fun e w' => e = .returned (.bool true) ∧ Upd [] w w' := by
  have hd : decide ((20000 : Int) < (a.size : Int) + (b.size : Int)) = false := by simp; omega
  have HG : Hid (Glb w) := hg
  have HA : Hid (TokSaid w a (.ok la)) := hTa
  have HB : Hid (TokSaid w b (.ok lb)) := hTb
  have HC : Hid (TokSaid w (a ++ ⟨#[10]⟩ ++ b) (.ok (la.dropLast ++ lb.map (sh (a.size + 1))))) := hTc
  have HPL : Hid (∀ k (hk : k < lb.length), lb[k].place ≤ 30000) := hpl
  clear hg hTa hTb hTc hpl
  go_enter Tryd.func4, Tryd.ntmps4
  go_wp2_with fail
  refine (awake_any _ HG.out).mono ?_
  rintro e w1 ⟨rfl, hU1⟩
  go_wp2_with fail
  refine (HA.out _ hU1).mono ?_
  rintro e w2 ⟨hU2, a2, c2, rfl, hX2⟩
  have V2 := hU1.trans hU2
  have hw2 := V2.size
  have hw1 := hU1.size
  obtain ⟨gx, rfl, hgx1, hgx2⟩ := OT.some hX2 hla
  go_wp2_with fail
  refine (HB.out _ (V2.alloc _)).mono ?_
  rintro e w3 ⟨hU3, a3, c3, rfl, hY3⟩
  obtain ⟨gy, rfl, hgy1, hgy2⟩ := OT.some hY3 hlb
  have B3 := (Blk.new w2 #[.int .i64 0, .int .i64 0] 26).mono hU3 (by simp)
  have X3 : OT w3 _ _ la := Own.off (Own.off hX2 ((Upd.refl [] w2).alloc _) (by simp)) hU3 (by simp)
  have V3 := (V2.alloc _).trans hU3
  have s3 := hU3.size
  simp only [World.size_alloc] at s3 hgy1
  go_wp2_with fail
  refine (HC.out _ (V3.alloc _)).mono ?_
  rintro e w4 ⟨hU4, a4, c4, rfl, hZ4⟩
  have B4 := (B3.mono ((Upd.refl [] w3).alloc _) (by simp)).mono hU4 (by simp)
  have D4 := (Blk.new w3 #[.int .i64 0, .int .i64 0] 26).mono hU4 (by simp)
  have X4 : OT w4 _ _ la := Own.off (Own.off X3 ((Upd.refl [] w3).alloc _) (by simp)) hU4 (by simp)
  have Y4 : OT w4 _ _ lb := Own.off (Own.off hY3 ((Upd.refl [] w3).alloc _) (by simp)) hU4 (by simp)
  have V4 := (V3.alloc _).trans hU4
  have s4 := hU4.size
  simp only [World.size_alloc] at s4
  have hZlen : 0 < (la.dropLast ++ lb.map (sh (a.size + 1))).length := by simp; omega
  obtain ⟨gz, rfl, hgz1, hgz2⟩ := OT.some hZ4 hZlen
  simp only [World.size_alloc] at hgz1
  have c0 : w4.cell? ⟨w2.heap.size, 0, none⟩ = some (.int .i64 0) := B4.cell 0
  have d0 : w4.cell? ⟨w3.heap.size, 0, none⟩ = some (.int .i64 0) := D4.cell 0
  have hlt := B4.lt
  have hlt2 := D4.lt
  clear B3 X3 hX2 hY3 hU1 hU2 hU3 hU4 V2 V3
  obtain ⟨Z, hZ⟩ : ∃ Z, Z = la.dropLast ++ lb.map (sh (a.size + 1)) := ⟨_, rfl⟩
  have HZ : Hid (Z = la.dropLast ++ lb.map (sh (a.size + 1))) := hZ
  rw [← hZ] at hZ4 ⊢
  clear hZ hZlen HC
  go_wp2_with fail
  obtain ⟨W, hW⟩ : ∃ W, W = w4.alloc (.cells #[.int .i64 0, .int .i64 0] 26) := ⟨_, rfl⟩
  have EW : Blk W w4.heap.size #[.int .i64 0, .int .i64 0] 26 := by rw [hW]; exact Blk.new _ _ _
  have XW : OT W (w1.heap.size + 1) (.slice (some ⟨gx, 0, none⟩) la.length c2) la := by rw [hW]; exact Own.off X4 ((Upd.refl [] w4).alloc _) (by simp)
  have YW : OT W (w2.heap.size + 2) (.slice (some ⟨gy, 0, none⟩) lb.length c3) lb := by rw [hW]; exact Own.lower (Own.off Y4 ((Upd.refl [] w4).alloc _) (by simp)) (by simp)
  have ZW : OT W (w3.heap.size + 2) (.slice (some ⟨gz, 0, none⟩) Z.length c4) Z := by rw [hW]; exact Own.lower (Own.off hZ4 ((Upd.refl [] w4).alloc _) (by simp)) (by simp)
  have VW : Upd [] w W := by rw [hW]; exact V4.alloc _
  have hW4 := EW.lt
  rw [← hW]
  clear hW X4 Y4 hZ4 V4 B4 D4 c0 d0
  have hsz1 := VW.size
  go_loopw [11] (fun i wr => ∃ k : Nat, k ≤ lb.length ∧ i = .int .i64 k ∧ OT wr (w1.heap.size + 1) (.slice (some ⟨gx, 0, none⟩) la.length c2) la ∧ OT wr (w2.heap.size + 2) (.slice (some ⟨gy, 0, none⟩) lb.length c3) (shK (a.size + 1) lb k) ∧ OT wr (w3.heap.size + 2) (.slice (some ⟨gz, 0, none⟩) Z.length c4) Z ∧ Blk wr w4.heap.size #[.int .i64 0, .int .i64 0] 26 ∧ Upd [gy] W wr) (fun i _ => lb.length - (intOf i).toNat)
  case atStart => exact ⟨0, Nat.zero_le _, rfl, XW, by simpa [shK] using YW, ZW, EW, Upd.refl _ _⟩
  case round =>
    obtain ⟨k, hk, rfl, hX, hY, hZ, hE, hU⟩ := hrel
    clear XW YW ZW EW
    by_cases hlt3 : k < lb.length
    · have i1 : (k : Int) < (lb.length : Int) := by omega
      have hkl : k < (shK (a.size + 1) lb k).length := by rw [shK_len _ _ _ hk]; exact hlt3
      have hp := HPL.out k hlt3
      have hc : wr.cell? ⟨gy, k * 3 + 2, none⟩ = some (.int .i64 lb[k].place) := by
        rw [Own.cell hY gy c3 (by rw [shK_len _ _ _ hk]) (k * 3 + 2) (by omega), toksC_get _ k 2 hkl (by omega), shK_get _ _ _ hlt3]
        rfl
      have hf : wr.frozen? ⟨gy, k * 3 + 2, none⟩ = false := by
        have h9 : OT wr (w2.heap.size + 2) (.slice (some ⟨gy, 0, none⟩) lb.length c3) (shK (a.size + 1) lb k) := hY
        unfold OT Own at h9
        rw [shK_len _ _ _ hk] at h9
        exact World.ownsRow.frozenAt h9 _
      have HN : Hid (∀ (p : Nat), p = lb[k].place + (a.size + 1) → OT (wr.setCell ⟨gy, k * 3 + 2, none⟩ (.int .i64 p)) (w2.heap.size + 2) (.slice (some ⟨gy, 0, none⟩) lb.length c3) (shK (a.size + 1) lb (k + 1))) := by
        intro p hp
        have h9 := OT.place hY (by rw [shK_len _ _ _ hk]) k hkl p
        rw [shK_get _ _ _ hlt3, hp] at h9
        rw [hp, ← shK_succ _ _ _ hlt3]
        exact h9
      obtain ⟨pl, hpl⟩ : ∃ pl, pl = lb[k].place := ⟨_, rfl⟩
      rw [← hpl] at hp hc HN
      have HX : Hid _ := hX
      have HZZ : Hid _ := hZ
      have HEE : Hid _ := hE
      clear hpl hX hZ hE hY
      have es : (pl : Int) + (a.size : Int) + 1 = ((pl + (a.size + 1) : Nat) : Int) := by omega
      have HES : Hid ((pl : Int) + (a.size : Int) + 1 = ((pl + (a.size + 1) : Nat) : Int)) := es
      clear es
      go_wp2
      rw [HES.out]
      have hu1 : Upd [gy] wr (wr.setCell ⟨gy, k * 3 + 2, none⟩ (.int .i64 ((pl + (a.size + 1) : Nat) : Int))) := (Upd.refl _ _).setCell (Or.inr (by simp)) _
      go_roundw
      case rel => exact ⟨k + 1, by omega, by go_num, Own.off HX.out hu1 (fun b hb => by simp [Value.ownBlock] at hb; simp; omega), HN.out _ rfl, Own.off HZZ.out hu1 (fun b hb => by simp [Value.ownBlock] at hb; simp; omega), Blk.mono HEE.out hu1 (by simp; omega), hU.trans hu1⟩
      case measure => simp [intOf]; omega
    · have hd3 : decide ((k : Int) < (lb.length : Int)) = false := by simp; omega
      have hkk : k = lb.length := by omega
      rw [hkk, shK_all] at hY
      have e0 : wr.cell? ⟨w4.heap.size, 0, none⟩ = some (.int .i64 0) := hE.cell 0
      have hXt : OT wr (w1.heap.size + 1) (.slice (some ⟨gx, 0, none⟩) (la.length - 1) c2) la.dropLast := by
        have h9 := Own.take hX (la.length - 1) (by omega)
        rw [toksC_take, ← List.dropLast_eq_take] at h9
        unfold OT
        rw [List.length_dropLast]
        exact h9
      have hi : ((la.length : Int) - 1).toNat = la.length - 1 := by omega
      have hcap : la.length ≤ c2 := by
        obtain ⟨_, ⟨h1, _⟩ | ⟨g', cap', cur, hv, _, _, hc, _⟩⟩ := hX
        · cases h1
        · cases hv; exact hc
      have hcap2 : c2 ≤ 9223372036854775807 := by
        obtain ⟨_, _, hv, hc⟩ := Own.form hX
        cases hv; exact hc
      have hsub : (la.length : Int) - 1 = ((la.length - 1 : Nat) : Int) := by omega
      have hs := hU.size
      have hYl : (lb.map (sh (a.size + 1))).length = lb.length := by simp
      have hYA := OT.at hY
      have HW2 : Hid (Upd [] w wr) := VW.then hU (by simp; omega)
      have HZ2 : Hid (OT wr (w3.heap.size + 2) (.slice (some ⟨gz, 0, none⟩) Z.length c4) Z) := hZ
      have hZl : Z.length ≤ 100000 := by rw [HZ.out]; simp; omega
      have hdl : la.dropLast.length = la.length - 1 := by simp
      clear hX hE hZ hkk hk
      go_wp2_with (refine append_G _ _ _ rfl (w1.heap.size + 1) (.slice (some ⟨gx, 0, none⟩) (la.length - 1) c2) la.dropLast (lb.map (sh (a.size + 1))) rfl hXt ⟨gy, 0, none⟩ lb.length c3 rfl hYl.symm hYA (by omega) (by omega) rfl ?_; intro v' w5 hO5 hgrow)
      obtain ⟨v5, c5, hv5, _⟩ := Own.form hO5
      subst hv5
      have hZ5 : OT w5 (w3.heap.size + 2) (.slice (some ⟨gz, 0, none⟩) Z.length c4) Z := Own.kept HZ2.out hgrow (fun b hb => by simp [Value.ownBlock] at hb ⊢; omega)
      have HU5 : Hid (Upd [] w w5) := HW2.out.grown hgrow (fun k hk => by simp [Value.ownBlock] at hk; left; omega)
      have hA5 := OT.at hZ5
      have hB5 := OT.at hO5
      rw [← HZ.out] at hB5
      have HA5 : Hid (TokAt w5 _ Z) := hA5
      have HB5 : Hid (TokAt w5 _ Z) := hB5
      have hln : la.dropLast.length + (lb.map (sh (a.size + 1))).length = Z.length := by rw [HZ.out, List.length_append]
      clear hgrow hA5 hB5 hZ5 hO5
      rw [← HZ.out]
      refine (SameTokens_eq _ _ _ _ Z _ (by omega) HA5.out HB5.out).mono ?_
      rintro e w6 ⟨rfl, hU6⟩
      go_wp2
      go_ret
      exact ⟨rfl, HU5.out.trans hU6⟩

theorem ScanCut_any (a b : ByteArray) (w : World) (hg : Glb w) (ha : a.size ≤ 140737488355328) (hb : b.size ≤ 140737488355328) :
    Calls Tryd.prog 4 #[.string a, .string b] w fun e w' => e = .returned (.bool true) ∧ Upd [] w w' := by
  by_cases h : 20000 < a.size + b.size
  · exact Cut_long a b w hg ha hb h
  · have hc := Sc.tokens_cut (byt a) (byt b) (by rw [byt_len, byt_len]; omega)
    have ec : byt (a ++ ⟨#[10]⟩ ++ b) = byt a ++ 10 :: byt b := by
      rw [byt_app, byt_app, List.append_assoc]; rfl
    rw [← ec, byt_len] at hc
    cases hA : Sc.tokens (byt a) with
    | fault x k =>
      have h1 := Sc.tokens_fault (byt a) x k (by rw [byt_len]; omega) hA
      rw [hA] at hc
      exact Cut_fault a b w hg (by omega) x k h1.1 _ (TokSaid.mk w a hg _ hA) (TokSaid.mk w b hg _ rfl) (TokSaid.mk w _ hg _ hc)
    | ok la =>
      have l1 := Sc.tokens_len _ _ hA
      have r1 := Sc.tokens_row _ _ hA
      rw [byt_len] at l1
      cases hB : Sc.tokens (byt b) with
      | fault x k =>
        have h1 := Sc.tokens_fault (byt b) x k (by rw [byt_len]; omega) hB
        rw [byt_len] at h1
        rw [hA, hB] at hc
        exact Cut_fault2 a b w hg (by omega) x k h1.1 (by omega) la (TokSaid.mk w a hg _ hA) (TokSaid.mk w b hg _ hB) (TokSaid.mk w _ hg _ hc)
      | ok lb =>
        have l2 := Sc.tokens_len _ _ hB
        have r2 := Sc.tokens_row _ _ hB
        rw [byt_len] at l2
        rw [hA, hB] at hc
        refine Cut_ok a b w hg (by omega) la lb r1.ne (by omega) r2.ne (by omega) (fun k hk => ?_) (TokSaid.mk w a hg _ hA) (TokSaid.mk w b hg _ hB) (TokSaid.mk w _ hg _ hc)
        by_cases hl : k + 1 < lb.length
        · have := (r2.fine k hk hl).2
          rw [byt_len] at this
          omega
        · have e : k = lb.length - 1 := by omega
          subst e
          have := r2.last hk
          rw [this, byt_len]
          simp only; omega

end Go.Proofs.YtfejdflbilakoaaDoor
