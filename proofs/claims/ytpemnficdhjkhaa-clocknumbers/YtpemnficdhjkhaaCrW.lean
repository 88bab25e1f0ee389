/- The document's Waits. -/
import Derived.Test.YtpemnficdhjkhaaCrT
namespace Go.Proofs.Ytpemnficdhjkhaa
open Go.RowKit Go.Maps

theorem srcP_all {w : World} {B : Nat} {v : Value} {xs : List (Int × Int)} (h : PR w B v xs) : SrcP w v xs := by
  rcases h.2 with ⟨h1, h2⟩ | ⟨g, cap, cur, rfl, r⟩
  · exact Or.inl ⟨0, by rw [h1], List.eq_nil_of_length_eq_zero h2⟩
  · have := srcP_head h (t := xs.length) (Nat.le_refl _) cap
    rwa [List.take_length] at this

set_option maxHeartbeats 8000000 in
set_option maxRecDepth 100000 in
theorem waitsRef_any (w : World) (B b : Nat) (nv : Int) (lv : Value) (T : TF) (ps : List (Int × Int)) (hb : Cl w b #[.int .i64 nv, lv] 28) (hr : PR w B lv ps) (hn : ps.length ≤ 1000) (hs : SimC T ps) :
    Calls Try.prog 10 #[.pointer (some ⟨b, 0, none⟩)] w fun e w' => ∃ v ys, e = .returned v ∧ (∃ gb, RowB w' v ys gb ∧ ∀ g, gb = some g → w.heap.size ≤ g) ∧ Srt T ys ∧ Upd [] w w' := by
  obtain ⟨p, c, hv⟩ := hr.form
  subst hv
  have u1 : Upd [] w (w.alloc (.cells #[] 50)) := (Upd.refl [] w).alloc _
  have c1 : (w.alloc (.cells #[] 50)).cell? ⟨b, 1, none⟩ = some (.slice p ps.length c) := by rw [(hb.upd u1 (by simp)).cell]; rfl
  have HSr : Hid (SrcP (w.alloc (.cells #[] 50)) (.slice p ps.length c) ps) := srcP_all (hr.upd u1)
  have HS : Hid (SimC T ps) := hs
  clear hb hr hs u1
  go_enter Try.func10, Try.ntmps10
  go_wp2_with (first
    | (at_builtin; refine wp_appP rfl _ _ rfl w.heap.size _ _ _ _ [] ps ps ps.length rfl rfl (pr_lit0 w) rfl HSr.out rfl rfl (by omega) (by simp) ?_; intro g1 c1' w1 hI1 hg1
       have hu1 : Upd [] w w1 := (((Upd.refl [] w).alloc (.cells #[] 50)).toN.trans (upP_grown hg1)).upd (fun x hx => by cases hx; exact Nat.le_refl _)
       have H1 : Hid (PR w1 w.heap.size (.slice (some ⟨g1, 0, none⟩) ps.length c1') ps ∧ Upd [] w w1) := ⟨hI1, hu1⟩
       clear hI1 hg1 hu1))
  generalize hw2 : World.alloc w1 _ = w2
  obtain ⟨d, hd⟩ : ∃ d, d = w1.heap.size := ⟨_, rfl⟩
  have u2 : Upd [] w1 w2 := by rw [← hw2]; exact (Upd.refl [] w1).alloc _
  have hcd : Cl w2 d #[.int .i64 0, .slice (some ⟨g1, 0, none⟩) ps.length c1'] 28 := by rw [← hw2, hd]; exact Cl.new _ _ _ _ rfl
  have HD : Hid (w.heap.size ≤ d) := by show _ ≤ _; rw [hd]; exact H1.out.2.size
  have H0 : Hid (TkR w w2 d 0 T w.heap.size (.slice none 0 0) ps.length (.slice none 0 0) [] (.slice (some ⟨g1, 0, none⟩) ps.length c1') ps) := ⟨hcd, H1.out.1.upd u2, fun g hg => Or.inr (H1.out.1.own hg).1, ⟨none, Or.inl ⟨rfl, rfl, rfl⟩, fun g hg => by cases hg⟩, by
    have h := H1.out.2.trans u2
    exact ⟨h.os, h.tape, h.output, h.size, fun x hx _ => h.block x hx (by simp)⟩, Pre.start HS.out, by simp⟩
  rw [← hd]
  clear hw2 hd u2 hcd c1
  go_loopw [4] (fun s4 wr => ∃ xs lv' L, TkR w wr d 0 T w.heap.size (.slice none 0 0) ps.length s4 xs lv' L) (fun s4 _ => ps.length - lenV s4)
  case atStart => exact ⟨[], _, ps, H0.out⟩
  case round =>
    obtain ⟨xs, lv', L, hk⟩ := hrel
    obtain ⟨p2, c2, hlv⟩ := hk.row.form
    subst hlv
    obtain ⟨gb, hrow, hgb⟩ := hk.out
    obtain ⟨p6, c6, hs6⟩ := hrow.form
    subst hs6
    have hlen := hk.len
    have HK : Hid (TkR w wr d 0 T w.heap.size (.slice none 0 0) ps.length (.slice p6 xs.length c6) xs (.slice p2 L.length c2) L) := hk
    have k1 : wr.cell? ⟨d, 1, none⟩ = some (.slice p2 L.length c2) := by rw [hk.box.cell]; rfl
    clear hk hrow hgb gb
    have HLL := fold_all L
    have hll : ∀ q, Calls Try.prog 22 #[.slice p2 L.length c2] (wr.drewN q) fun e w' => e = .returned (.int .i64 (foldI L L.length)) ∧ ∃ m, w' = (wr.drewN q).drewN m := fun q => least_any (wr.drewN q) w.heap.size _ L (HK.out.drewN q).row (by omega)
    generalize foldI L L.length = r at HLL hll
    rcases HLL with ⟨hL, rfl⟩ | ⟨k, hl, rfl⟩
    · have HF : Hid (Srt T xs) := by
        have h := HK.out.pre
        rw [hL] at h
        exact h.all
      have hz : L.length = 0 := by rw [hL]; rfl
      have hdz : decide ((0 : Int) < (L.length : Int)) = false := by rw [hz]; rfl
      clear hL hll
      go_wp2_with fail
      go_ret
      refine ⟨_, xs, rfl, HK.out.out, HF.out, HK.out.up.os, HK.out.up.tape, HK.out.up.output, HK.out.up.size, fun x hx _ => HK.out.up.block x hx ?_⟩
      have := HD.out
      simp
      omega
    · have hkL : k < L.length := hl.1
      have hki : (k : Int) < (L.length : Int) := by omega
      have hkn : ¬ (k : Int) < 0 := by omega
      have hdz : decide ((0 : Int) < (L.length : Int)) = true := decide_eq_true (by omega)
      obtain ⟨t, x, htx⟩ : ∃ t x, L[k] = (t, x) := ⟨_, _, rfl⟩
      have HX : Hid (L[k] = (t, x) ∧ Lst L L.length k) := ⟨htx, hl⟩
      obtain ⟨g, c', hv, q0, q1⟩ := HK.out.row.cells hkL
      simp only [Value.slice.injEq] at hv
      obtain ⟨rfl, _, rfl⟩ := hv
      rw [htx] at q1
      simp only at q1
      clear htx hl q0
      go_upto_region 4 with fail
      go_quiet (first | (go_at_call 22; refine Calls.quiet_of (hll _)))
      obtain ⟨w3, hw3⟩ : ∃ w3, w3 = wr.drewN nq := ⟨_, rfl⟩
      have HK3 : Hid (TkR w w3 d 0 T w.heap.size (.slice none 0 0) ps.length (.slice p6 xs.length c6) xs (.slice (some ⟨g, 0, none⟩) L.length c2) L) := by rw [hw3]; exact HK.out.drewN nq
      rw [← hw3]
      clear hw3 q1 k1 hll
      obtain ⟨v', w4, hr4, hrow4, hbox4, hpr4, hup4⟩ := HK3.out.push (by omega) x
      obtain ⟨gb4, hrb4, hgb4⟩ := hrow4
      obtain ⟨p4, c4, hv4⟩ := hrb4.form
      subst hv4
      have H4 : Hid ((∃ gb, RowB w4 (.slice p4 (xs ++ [x]).length c4) (xs ++ [x]) gb ∧ ∀ g, gb = some g → w.heap.size ≤ g) ∧ Cl w4 d #[.int .i64 0, .slice (some ⟨g, 0, none⟩) L.length c2] 28 ∧ Upd [d] w w4) := ⟨⟨gb4, hrb4, hgb4⟩, hbox4, hup4⟩
      have hdr := dropRef_any w4 w.heap.size d 0 _ L x hbox4 hpr4 (by omega)
      clear hrb4 hgb4 hbox4 hpr4 hup4
      go_wp2_with (first | (at_builtin; refine Lib.wpList_append_run _ rfl _ _ _ _ rfl _ _ rfl rfl _ _ (hr4 _) ?_))
      refine Calls.mono hdr ?_
      rintro e w5 hd
      rcases hd with ⟨hno, _, _⟩ | ⟨k', hk', hx', rfl, lv5, hb5, hp5, hu5⟩
      · exact absurd (by rw [HX.out.1]) (hno L[k] (List.getElem_mem hkL))
      · have hkk : k' = k := nd_one HK3.out.pre.sim.nd hk' hkL (by rw [hx', HX.out.1])
        subst hkk
        have HN : Hid (TkR w w5 d 0 T w.heap.size (.slice none 0 0) ps.length (.slice p4 (xs ++ [x]).length c4) (xs ++ [x]) lv5 (L.take k' ++ L.drop (k' + 1))) := by
          obtain ⟨gb5, h51, h52⟩ := H4.out.1
          have hsz := H4.out.2.2.size
          exact ⟨hb5, hp5.base (by omega), fun g hg => Or.inr (by have := (hp5.own hg).1; omega), ⟨gb5, h51.mono hu5.toP (fun g hg e => h51.neC H4.out.2.1 (by have : g = d := (by simpa using e); rw [hg, this])), h52⟩, H4.out.2.2.trans hu5, HK3.out.pre.step HX.out.2 hkL HX.out.1, by simp; omega⟩
        clear hb5 hp5 hu5
        go_wp2_with fail
        go_roundw
        case rel => exact ⟨xs ++ [x], lv5, _, by
          have e : (xs ++ [x]).length = xs.length + 1 := by simp
          rw [← e]
          exact HN.out⟩
        case measure => simp [lenV]; omega

end Go.Proofs.Ytpemnficdhjkhaa
