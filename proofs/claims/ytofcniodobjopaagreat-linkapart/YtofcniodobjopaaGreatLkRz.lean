/- The reference's End. -/
import Derived.Test.YtofcniodobjopaaGreatLkRy
namespace Go.Proofs.YtofcniodobjopaaGreat
open Go.RowKit Go.Maps

theorem PR.nb {w : World} {B b : Nat} {v : Value} {xs : List (Int × Int)} {cs : Array Value} (h : PR w B v xs) (hb : Cl w b cs 41) : ∀ g, v.ownBlock = some g → g ∉ [b] := by
  intro g hg
  rcases h.2 with ⟨e, _⟩ | ⟨g5, cap, cur, e, _, hg5, _⟩
  · rw [e] at hg; cases hg
  · rw [e] at hg
    cases hg
    have hne := hb.ne (T' := 115) hg5 (by decide)
    simp
    exact fun e => hne e.symm
theorem IR.updS {S : List Nat} {w w' : World} {B : Nat} {v : Value} {xs : List Int} (h : IR w B v xs) (hu : Upd S w w') (hn : ∀ g, v.ownBlock = some g → g ∉ S) : IR w' B v xs := h.upP hu.toP hn
theorem far_of {b n : Nat} {v : Value} (hb : b < n) (h : ∀ g, v.ownBlock = some g → n ≤ g) : ∀ g, v.ownBlock = some g → g ∉ [b] := fun g hg => by
  have := h g hg
  simp
  omega

set_option maxHeartbeats 8000000 in
set_option maxRecDepth 100000 in
theorem endRef_any (w : World) (B b : Nat) (v u : Value) (ps : List (Int × Int)) (ms : List Mon) (a : Int) (hb : Cl w b #[v, u] 41) (hr : PR w B v ps) (hm : NR w B u ms) (hB : B ≤ w.heap.size) (hps : PsOk ps) (hn1 : ps.length ≤ 1000) (hn2 : ms.length ≤ 1000) :
    Calls Tryz.prog 24 #[.pointer (some ⟨b, 0, none⟩), .int .i64 a] w fun e w' => ∃ s xs t v' u', e = .returned (.tuple #[s, t]) ∧ IR w' w.heap.size s xs ∧ OutK ps a ps.length xs ∧ NR w' w.heap.size t (ms.filter fun m => m.2.2 == a) ∧ Cl w' b #[v', u'] 41 ∧ PR w' B v' (without ps a xs) ∧ NR w' w.heap.size u' (ms.filter fun m => !(m.2.2 == a) && !(m.2.1 == a)) ∧ Upd [b] w w' ∧ (∀ g, v'.ownBlock = some g → v.ownBlock = some g ∨ w.heap.size ≤ g) := by
  obtain ⟨pu, cu, huf⟩ := hm.form
  subst huf
  have HR : Hid (Cl w b #[v, .slice pu ms.length cu] 41 ∧ PR w B v ps ∧ NR w B (.slice pu ms.length cu) ms ∧ B ≤ w.heap.size ∧ PsOk ps) := ⟨hb, hr, hm, hB, hps⟩
  clear hb hr hm hB hps
  go_enter Tryz.func24, Tryz.ntmps24
  go_wp2_with fail
  refine Calls.mono (ofRef_any w B b v _ ps a HR.out.1 HR.out.2.1 HR.out.2.2.2.2 hn1) ?_
  rintro e w1 ⟨s, xs, rfl, hI, hO, hu1⟩
  obtain ⟨px, cx, hsf⟩ := hI.form
  subst hsf
  have H1 : Hid (Cl w1 b #[v, .slice pu ms.length cu] 41 ∧ PR w1 B v ps ∧ NR w1 B (.slice pu ms.length cu) ms ∧ IR w1 w.heap.size (.slice px xs.length cx) xs ∧ OutK ps a ps.length xs ∧ Upd [] w w1) := ⟨HR.out.1.upd hu1 (by simp), HR.out.2.1.upd hu1, HR.out.2.2.1.upd hu1, hI, hO, hu1⟩
  have cb1 : w1.cell? ⟨b, 1, none⟩ = some (.slice pu ms.length cu) := by rw [H1.out.1.cell]; rfl
  clear hI hO hu1
  go_wp2_with fail
  go_loopw [7, 8, 9] (fun s7 s8 s9 wx => ∃ (k : Nat) (ts ks : List Mon), s9 = .int .i64 (k : Nat) ∧ k ≤ ms.length ∧ ts = (ms.take k).filter (fun m => m.2.2 == a) ∧ ks = (ms.take k).filter (fun m => !(m.2.2 == a) && !(m.2.1 == a)) ∧ NR wx w1.heap.size s7 ts ∧ NR wx w1.heap.size s8 ks ∧ (∀ g, s7.ownBlock = some g → s8.ownBlock ≠ some g) ∧ Upd [] w1 wx) (fun _ _ s9 _ => ms.length - (intOf s9).toNat)
  case atStart => exact ⟨0, [], [], rfl, Nat.zero_le _, by simp, by simp, ⟨rfl, Or.inl ⟨rfl, rfl⟩⟩, ⟨rfl, Or.inl ⟨rfl, rfl⟩⟩, fun g hg => (by cases hg), Upd.refl [] w1⟩
  case round =>
    obtain ⟨k, ts, ks, rfl, hk, hts, hks, hT, hK, hd, hu⟩ := hrel
    obtain ⟨pt, ct, htf⟩ := hT.form
    subst htf
    obtain ⟨pk, ck, hkf⟩ := hK.form
    subst hkf
    have HK : Hid (NR wr w1.heap.size (.slice pt ts.length ct) ts ∧ NR wr w1.heap.size (.slice pk ks.length ck) ks ∧ (∀ g, Value.ownBlock (.slice pt ts.length ct) = some g → Value.ownBlock (.slice pk ks.length ck) ≠ some g) ∧ Upd [] w1 wr ∧ ts = (ms.take k).filter (fun m => m.2.2 == a) ∧ ks = (ms.take k).filter (fun m => !(m.2.2 == a) && !(m.2.1 == a))) := ⟨hT, hK, hd, hu, hts, hks⟩
    have htl : ts.length ≤ k := by rw [hts]; exact Nat.le_trans (List.length_filter_le _ _) (by simp; omega)
    have hkl : ks.length ≤ k := by rw [hks]; exact Nat.le_trans (List.length_filter_le _ _) (by simp; omega)
    have cbr : wr.cell? ⟨b, 1, none⟩ = some (.slice pu ms.length cu) := (hu.cell (p := ⟨b, 1, none⟩) H1.out.1.lt (by simp)).trans cb1
    have hsz : w1.heap.size ≤ wr.heap.size := hu.size
    clear hts hks hT hK hd hu
    by_cases hlk : k < ms.length
    · have j1 : (k : Int) < (ms.length : Int) := by omega
      obtain ⟨g, c9, e1, d0, d1, d2⟩ := (H1.out.2.2.1.upd HK.out.2.2.2.1).cells hlk
      simp only [Value.slice.injEq] at e1
      obtain ⟨rfl, _, rfl⟩ := e1
      obtain ⟨y0, y1, y2, hy⟩ : ∃ y0 y1 y2, ms[k] = (y0, y1, y2) := ⟨_, _, _, rfl⟩
      rw [hy] at d0 d1 d2
      simp only at d0 d1 d2
      have HS : Hid ((ms.take (k + 1)).filter (fun m => m.2.2 == a) = ts ++ (if (y2 == a) = true then [(y0, y1, y2)] else []) ∧ (ms.take (k + 1)).filter (fun m => !(m.2.2 == a) && !(m.2.1 == a)) = ks ++ (if (!(y2 == a) && !(y1 == a)) = true then [(y0, y1, y2)] else [])) := ⟨by rw [filt_succ _ _ hlk, ← HK.out.2.2.2.2.1, hy], by rw [filt_succ _ _ hlk, ← HK.out.2.2.2.2.2, hy]⟩
      clear hy
      go_upto_region 7 with fail
      generalize hwp : World.alloc _ _ = wp
      have hup : Upd [] wr wp := by rw [← hwp]; exact (Upd.refl [] wr).alloc _
      have hC : Cl wp wr.heap.size #[.int .i64 y0, .int .i64 y1, .int .i64 y2] 122 := by rw [← hwp]; exact Cl.new _ _ _ _ rfl
      obtain ⟨x, hx⟩ : ∃ x, x = wr.heap.size := ⟨_, rfl⟩
      rw [← hx] at hC ⊢
      have q0 : wp.cell? ⟨x, 0, none⟩ = some (.int .i64 y0) := by rw [hC.cell]; rfl
      have q1 : wp.cell? ⟨x, 1, none⟩ = some (.int .i64 y1) := by rw [hC.cell]; rfl
      have q2 : wp.cell? ⟨x, 2, none⟩ = some (.int .i64 y2) := by rw [hC.cell]; rfl
      have HP : Hid (NR wp w1.heap.size (.slice pt ts.length ct) ts ∧ NR wp w1.heap.size (.slice pk ks.length ck) ks ∧ Upd [] w1 wp ∧ (∀ g, Value.ownBlock (.slice pt ts.length ct) = some g → g < x) ∧ (∀ g, Value.ownBlock (.slice pk ks.length ck) = some g → g < x) ∧ x < wp.heap.size ∧ w1.heap.size ≤ x) := ⟨HK.out.1.upd hup, HK.out.2.1.upd hup, HK.out.2.2.2.1.trans hup, fun g hg => by rw [hx]; exact (HK.out.1.own hg).2, fun g hg => by rw [hx]; exact (HK.out.2.1.own hg).2, hC.lt, by rw [hx]; exact hsz⟩
      have hszp : w1.heap.size ≤ wp.heap.size := HP.out.2.2.1.size
      clear hup hC hx hwp d0 d1 d2 cbr
      cases h2 : y2 == a with
      | true =>
        rw [h2] at HS
        have b2 : (y2 != a) = false := by unfold bne; rw [h2]; rfl
        go_wp2_with (first
          | (at_builtin; refine wp_pushN rfl _ _ rfl w1.heap.size _ _ ts (y0, y1, y2) rfl rfl (HP.out.1.upd ((Upd.refl [] wp).alloc _)) (srcN_one wp y0 y1 y2) (by omega) (by simp; omega) ?_; intro g9 c8 w9 hI9 hg9 hat
             have hub := (((Upd.refl [] wp).alloc (.cells #[.int .i64 y0, .int .i64 y1, .int .i64 y2] 122)).toN (P := fun z => Value.ownBlock (.slice pt ts.length ct) = some z)).trans (upP_grown hg9)
             have z1 : w9.cell? ⟨x, 1, none⟩ = some (.int .i64 y1) := (World.cell?_of_block (a := ⟨x, 1, none⟩) (hub.block x HP.out.2.2.2.2.2.1 (fun e => by have := HP.out.2.2.2.1 x e; omega))).trans q1
             have z2 : w9.cell? ⟨x, 2, none⟩ = some (.int .i64 y2) := (World.cell?_of_block (a := ⟨x, 2, none⟩) (hub.block x HP.out.2.2.2.2.2.1 (fun e => by have := HP.out.2.2.2.1 x e; omega))).trans q2
             have H9 : Hid (NR w9 w1.heap.size (.slice (some ⟨g9, 0, none⟩) (ts.length + 1) c8) (ts ++ [(y0, y1, y2)]) ∧ UpP (fun z => Value.ownBlock (.slice pt ts.length ct) = some z) wp w9 ∧ (some g9 = Value.ownBlock (.slice pt ts.length ct) ∨ wp.heap.size ≤ g9)) := ⟨hI9, hub, hat.imp (fun e => e) (fun e => by rw [e]; simp)⟩
             clear hI9 hg9 hat hub)
          | fail)
        go_roundw
        case rel => exact ⟨k + 1, ts ++ [(y0, y1, y2)], ks, by go_num, hlk, by rw [HS.out.1]; simp, by rw [HS.out.2]; simp, H9.out.1, HP.out.2.1.upP H9.out.2.1 (fun g h1 h3 => HK.out.2.2.1 g h3 h1), fun g hg hk2 => by
            cases hg
            rcases H9.out.2.2 with e | e
            · exact HK.out.2.2.1 _ e.symm hk2
            · have : g9 < x := HP.out.2.2.2.2.1 _ hk2
              have := HP.out.2.2.2.2.2.1
              omega, ((HP.out.2.2.1.toN (P := fun z => Value.ownBlock (.slice pt ts.length ct) = some z)).trans H9.out.2.1).upd (fun z hz => (HK.out.1.own hz).1)⟩
        case measure => simp [intOf]; omega
      | false =>
        rw [h2] at HS
        have b2 : (y2 != a) = true := by unfold bne; rw [h2]; rfl
        cases h1 : y1 == a with
        | true =>
          rw [h1] at HS
          have b1 : (y1 != a) = false := by unfold bne; rw [h1]; rfl
          go_wp2_with fail
          go_roundw
          case rel => exact ⟨k + 1, ts, ks, by go_num, hlk, by rw [HS.out.1]; simp, by rw [HS.out.2]; simp, HP.out.1, HP.out.2.1, HK.out.2.2.1, HP.out.2.2.1⟩
          case measure => simp [intOf]; omega
        | false =>
          rw [h1] at HS
          have b1 : (y1 != a) = true := by unfold bne; rw [h1]; rfl
          go_wp2_with (first
            | (at_builtin; refine wp_pushN rfl _ _ rfl w1.heap.size _ _ ks (y0, y1, y2) rfl rfl (HP.out.2.1.upd ((Upd.refl [] wp).alloc _)) (srcN_one wp y0 y1 y2) (by omega) (by simp; omega) ?_; intro g9 c8 w9 hI9 hg9 hat
               have hub := (((Upd.refl [] wp).alloc (.cells #[.int .i64 y0, .int .i64 y1, .int .i64 y2] 122)).toN (P := fun z => Value.ownBlock (.slice pk ks.length ck) = some z)).trans (upP_grown hg9)
               have H9 : Hid (NR w9 w1.heap.size (.slice (some ⟨g9, 0, none⟩) (ks.length + 1) c8) (ks ++ [(y0, y1, y2)]) ∧ UpP (fun z => Value.ownBlock (.slice pk ks.length ck) = some z) wp w9 ∧ (some g9 = Value.ownBlock (.slice pk ks.length ck) ∨ wp.heap.size ≤ g9)) := ⟨hI9, hub, hat.imp (fun e => e) (fun e => by rw [e]; simp)⟩
               clear hI9 hg9 hat hub)
            | fail)
          go_roundw
          case rel => exact ⟨k + 1, ts, ks ++ [(y0, y1, y2)], by go_num, hlk, by rw [HS.out.1]; simp, by rw [HS.out.2]; simp, HP.out.1.upP H9.out.2.1 (fun g h1 h3 => HK.out.2.2.1 g h1 h3), H9.out.1, fun g hg hk2 => by
              cases hk2
              rcases H9.out.2.2 with e | e
              · exact HK.out.2.2.1 _ hg e.symm
              · have : g9 < x := HP.out.2.2.2.1 _ hg
                have := HP.out.2.2.2.2.2.1
                omega, ((HP.out.2.2.1.toN (P := fun z => Value.ownBlock (.slice pk ks.length ck) = some z)).trans H9.out.2.1).upd (fun z hz => (HK.out.2.1.own hz).1)⟩
          case measure => simp [intOf]; omega
    · obtain rfl : k = ms.length := by omega
      have HZ : Hid (ts = ms.filter (fun m => m.2.2 == a) ∧ ks = ms.filter (fun m => !(m.2.2 == a) && !(m.2.1 == a))) := ⟨by rw [HK.out.2.2.2.2.1, List.take_length], by rw [HK.out.2.2.2.2.2, List.take_length]⟩
      have hfr : wr.frozen? ⟨b, 1, none⟩ = false := (H1.out.1.upd HK.out.2.2.2.1 (by simp)).free 1
      obtain ⟨wS, hwS⟩ : ∃ wS, wS = wr.setCell ⟨b, 1, none⟩ (.slice pk ks.length ck) := ⟨_, rfl⟩
      have huS : Upd [b] wr wS := by rw [hwS]; exact (Upd.refl [b] wr).setCell (Or.inr (by simp)) _
      have hclS : Cl wS b #[v, .slice pk ks.length ck] 41 := by rw [hwS]; exact (H1.out.1.upd HK.out.2.2.2.1 (by simp)).set 1 _
      have hbl := H1.out.1.lt
      have hblw := HR.out.1.lt
      have HL : Hid (∃ v', Cl wS b #[v', .slice pk ks.length ck] 41 ∧ PR wS B v' (without ps a (xs.take 0)) ∧ IR wS w.heap.size (.slice px xs.length cx) xs ∧ NR wS w1.heap.size (.slice pt ts.length ct) ts ∧ NR wS w1.heap.size (.slice pk ks.length ck) ks ∧ Upd [b] w wS ∧ (∀ g, v'.ownBlock = some g → v.ownBlock = some g ∨ w.heap.size ≤ g)) := by
        refine ⟨v, hclS, ?_, ?_, ?_, ?_, ?_, fun g hg => Or.inl hg⟩
        · rw [List.take_zero, without_nil]
          exact (H1.out.2.1.upd HK.out.2.2.2.1).updS huS ((H1.out.2.1.upd HK.out.2.2.2.1).nb (H1.out.1.upd HK.out.2.2.2.1 (by simp)))
        · exact (H1.out.2.2.2.1.upd HK.out.2.2.2.1).updS huS (far_of hblw fun g hg => (H1.out.2.2.2.1.own hg).1)
        · exact HK.out.1.updS huS (far_of hbl fun g hg => (HK.out.1.own hg).1)
        · exact HK.out.2.1.updS huS (far_of hbl fun g hg => (HK.out.2.1.own hg).1)
        · have h5 : Upd [] w wr := H1.out.2.2.2.2.2.trans HK.out.2.2.2.1
          exact Upd.trans ⟨h5.os, h5.tape, h5.output, h5.size, fun k hk _ => h5.block k hk (by simp)⟩ huS
      clear huS hclS
      go_wp2_with fail
      rw [← hwS]
      clear hwS
      have HX : Hid (xs.length ≤ 1000 ∧ xs.length ≤ maxLen) := ⟨by have := H1.out.2.2.2.2.1.2.1; omega, by have := H1.out.2.2.2.2.1.2.1; unfold maxLen; omega⟩
      go_loopw [11] (fun s11 wx => ∃ (j : Nat) (v' : Value), s11 = .int .i64 (j : Nat) ∧ j ≤ xs.length ∧ Cl wx b #[v', .slice pk ks.length ck] 41 ∧ PR wx B v' (without ps a (xs.take j)) ∧ IR wx w.heap.size (.slice px xs.length cx) xs ∧ NR wx w1.heap.size (.slice pt ts.length ct) ts ∧ NR wx w1.heap.size (.slice pk ks.length ck) ks ∧ Upd [b] w wx ∧ (∀ g, v'.ownBlock = some g → v.ownBlock = some g ∨ w.heap.size ≤ g)) (fun s11 _ => xs.length - (intOf s11).toNat)
      case atStart =>
        obtain ⟨v', h⟩ := HL.out
        exact ⟨0, v', rfl, Nat.zero_le _, h⟩
      case round =>
        obtain ⟨j, v', rfl, hj, hc, hp, hi, ht, hk5, hu, hnew⟩ := hrel
        have HJ : Hid (Cl wr b #[v', .slice pk ks.length ck] 41 ∧ PR wr B v' (without ps a (xs.take j)) ∧ IR wr w.heap.size (.slice px xs.length cx) xs ∧ NR wr w1.heap.size (.slice pt ts.length ct) ts ∧ NR wr w1.heap.size (.slice pk ks.length ck) ks ∧ Upd [b] w wr) := ⟨hc, hp, hi, ht, hk5, hu⟩
        have HNW : Hid (∀ g, v'.ownBlock = some g → v.ownBlock = some g ∨ w.heap.size ≤ g) := hnew
        clear hc hp hi ht hk5 hu hnew
        by_cases hjl : j < xs.length
        · have j2 : (j : Int) < (xs.length : Int) := by omega
          obtain ⟨g6, c6, e6, d6⟩ := HJ.out.2.2.1.cell hjl
          simp only [Value.slice.injEq] at e6
          obtain ⟨rfl, _, rfl⟩ := e6
          have HY : Hid (xs.take (j + 1) = xs.take j ++ [xs[j]]) := List.take_succ_eq_append_getElem hjl
          generalize hy : xs[j] = y at d6 HY
          clear hy
          have HU : Hid (Calls Tryz.prog 27 #[.pointer (some ⟨b, 0, none⟩), .int .i64 a, .int .i64 y] wr fun e w' => (∃ bb, e = .returned (.bool bb)) ∧ ∃ v2, Cl w' b #[v2, .slice pk ks.length ck] 41 ∧ PR w' B v2 (without ps a (xs.take (j + 1))) ∧ Upd [b] wr w' ∧ (∀ g, v2.ownBlock = some g → v.ownBlock = some g ∨ w.heap.size ≤ g)) := by
            refine (unlinkRef_any wr B b v' _ _ a y HJ.out.1 HJ.out.2.1 (Nat.le_trans HR.out.2.2.2.1 HJ.out.2.2.2.2.2.size) (Nat.le_trans (without_le _ _ _) hn1)).mono ?_
            rintro e w2 (⟨hno, rfl, hu⟩ | ⟨k2, hk2, he2, rfl, v2, h1, h2, hu⟩)
            · refine ⟨⟨_, rfl⟩, v', HJ.out.1.upd hu (by simp), ?_, ⟨hu.os, hu.tape, hu.output, hu.size, fun q hq _ => hu.block q hq (by simp)⟩, HNW.out⟩
              rw [HY.out, without_snoc, filter_not hno]
              exact HJ.out.2.1.upd hu
            · refine ⟨⟨_, rfl⟩, v2, h1, ?_, hu, fun g hg => Or.inr (Nat.le_trans HJ.out.2.2.2.2.2.size (h2.own hg).1)⟩
              rw [HY.out, without_snoc, ← he2, filter_out (without_nodup HR.out.2.2.2.2.1 _ _) hk2]
              exact h2.base (Nat.le_trans HR.out.2.2.2.1 HJ.out.2.2.2.2.2.size)
          go_wp2_with fail
          refine Calls.mono HU.out ?_
          rintro e w2 ⟨⟨bb, rfl⟩, v2, h1, h2, hu, hnew⟩
          have HV : Hid (Cl w2 b #[v2, .slice pk ks.length ck] 41 ∧ PR w2 B v2 (without ps a (xs.take (j + 1))) ∧ IR w2 w.heap.size (.slice (some ⟨g6, 0, none⟩) xs.length cx) xs ∧ NR w2 w1.heap.size (.slice pt ts.length ct) ts ∧ NR w2 w1.heap.size (.slice pk ks.length ck) ks ∧ Upd [b] w w2 ∧ (∀ g, v2.ownBlock = some g → v.ownBlock = some g ∨ w.heap.size ≤ g)) := ⟨h1, h2, HJ.out.2.2.1.updS hu (far_of hblw fun g hg => (HJ.out.2.2.1.own hg).1), HJ.out.2.2.2.1.updS hu (far_of hbl fun g hg => (HJ.out.2.2.2.1.own hg).1), HJ.out.2.2.2.2.1.updS hu (far_of hbl fun g hg => (HJ.out.2.2.2.2.1.own hg).1), HJ.out.2.2.2.2.2.trans hu, hnew⟩
          clear h1 h2 hu HU hnew
          have hx1 : (j : Int) + 1 ≤ 9223372036854775807 := by have := HX.out.1; omega
          go_wp2_with fail
          go_roundw
          case rel => exact ⟨j + 1, v2, by go_num, hjl, HV.out⟩
          case measure => simp [intOf]; omega
        · obtain rfl : j = xs.length := by omega
          have HQ : Hid (∃ s xs' t v3 u3, (Ending.returned (.tuple #[.slice px xs.length cx, .slice pt ts.length ct]) : Ending) = .returned (.tuple #[s, t]) ∧ IR wr w.heap.size s xs' ∧ OutK ps a ps.length xs' ∧ NR wr w.heap.size t (ms.filter fun m => m.2.2 == a) ∧ Cl wr b #[v3, u3] 41 ∧ PR wr B v3 (without ps a xs') ∧ NR wr w.heap.size u3 (ms.filter fun m => !(m.2.2 == a) && !(m.2.1 == a)) ∧ Upd [b] w wr ∧ (∀ g, v3.ownBlock = some g → v.ownBlock = some g ∨ w.heap.size ≤ g)) := by
            have h5 := HJ.out.2.1
            rw [List.take_length] at h5
            exact ⟨_, xs, _, v', _, rfl, HJ.out.2.2.1, H1.out.2.2.2.2.1, by rw [← HZ.out.1]; exact HJ.out.2.2.2.1.base H1.out.2.2.2.2.2.size, HJ.out.1, h5, by rw [← HZ.out.2]; exact HJ.out.2.2.2.2.1.base H1.out.2.2.2.2.2.size, HJ.out.2.2.2.2.2, HNW.out⟩
          go_wp2_with fail
          refine bodyPost_ret (results_tmp2 rfl _ _ _) rfl ?_
          exact HQ.out

end Go.Proofs.YtofcniodobjopaaGreat
