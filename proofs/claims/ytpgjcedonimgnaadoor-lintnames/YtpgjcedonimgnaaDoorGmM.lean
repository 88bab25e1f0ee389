/- lint's aside, of whatever part. -/
import Derived.Test.YtpgjcedonimgnaaDoorGmL
namespace Go.Proofs.YtpgjcedonimgnaaDoor
open Go.RowKit

def asideR (f : Fr) : Except Flt Fr → Except Flt Fr
  | .error x => .error x
  | .ok g => .ok (asideF f g)
def partA (f g : Fr) (d : ByteArray → Bool) : Fr := fun s => if gonS (g s) = true ∧ d s = true then orG (f s) else f s
theorem partA_0 (f g : Fr) : partA f g (fun _ => false) = f := by funext s; simp [partA]
theorem partA_end {f g : Fr} {d : ByteArray → Bool} (h : ∀ s, g s ≠ 0 → d s = true) : partA f g d = asideF f g := by
  funext s
  unfold partA asideF orG
  by_cases hz : gonS (g s) = true
  · have h0 : g s ≠ 0 := fun e => by rw [e] at hz; simp [gonS] at hz
    rw [if_pos ⟨hz, h s h0⟩, if_pos hz]
  · rw [if_neg (fun h => hz h.1), if_neg hz]
theorem partA_skip {f g : Fr} {d : ByteArray → Bool} {s : ByteArray} (hg : gonS (g s) = false) : partA f g d = partA f g (fun x => decide (x = s) || d x) := by
  funext x
  unfold partA
  by_cases e : x = s
  · subst e
    simp [hg]
  · simp [e]
theorem partA_put {f g : Fr} {d : ByteArray → Bool} {s : ByteArray} {v : Int} (hg : gonS (g s) = true) (hv : v = orG (partA f g d s)) : (partA f g d).put s v = partA f g (fun x => decide (x = s) || d x) := by
  funext x
  unfold Fr.put
  by_cases e : x = s
  · subst e
    rw [if_pos rfl, hv]
    have e2 : partA f g (fun y => decide (y = x) || d y) x = orG (f x) := by unfold partA; rw [if_pos ⟨hg, by simp⟩]
    rw [e2]
    unfold partA
    split
    · unfold orG; split <;> (try split) <;> (try split) <;> (try split) <;> simp_all
    · rfl
  · rw [if_neg e]
    unfold partA
    simp [e]

set_option maxHeartbeats 4000000 in
set_option maxRecDepth 100000 in
theorem aside_gen (fid : Nat) (cp : Array Value) (eg : ∀ args w, (callFunc fid args).run Tryd.prog w = .ok (.enter fid args) w) (bm b : Nat) (bs : List Nat) (f : Fr) (r : List Fr) (w : World) (R : Except Flt Fr) (h : Chn w (bm :: bs) (f :: r) (some ⟨b, 0, none⟩)) (hp : PartOk fid cp w (bm :: bs) (f :: r) R) : Calls Tryd.prog 70 #[.pointer (some ⟨b, 0, none⟩), .func (.func fid) #[] cp] w (Ret (asideR f R) bm w) := by
  have HP : Hid (PartOk fid cp w (bm :: bs) (f :: r) R) := hp
  have HC : Hid (Chn w (bm :: bs) (f :: r) (some ⟨b, 0, none⟩)) := h
  have HN : Hid (NmIs w bm f) := h.nm
  have hbl : bm < w.heap.size := HN.out.lt
  have hbc : Hid (w.cell? ⟨b, 0, none⟩ = some (.map (some bm))) := by
    obtain ⟨b', a', e, hb, _⟩ := h
    cases e
    exact cell_of_row _ b 0 _ _ _ hb
  obtain ⟨G, hG0⟩ : ∃ G, G = asideR f R := ⟨_, rfl⟩
  rw [← hG0]
  have HG : Hid (G = asideR f R) := hG0
  clear hp h hG0
  have y0 : bits BinOp.or IntKind.i64 0 2 = 2 := by decide
  have y1 : bits BinOp.or IntKind.i64 1 2 = 3 := by decide
  have y2 : bits BinOp.or IntKind.i64 2 2 = 2 := by decide
  have y3 : bits BinOp.or IntKind.i64 3 2 = 3 := by decide
  have x0 : bits BinOp.and IntKind.i64 0 2 = 0 := by decide
  have x1 : bits BinOp.and IntKind.i64 1 2 = 0 := by decide
  have x2 : bits BinOp.and IntKind.i64 2 2 = 2 := by decide
  have x3 : bits BinOp.and IntKind.i64 3 2 = 2 := by decide
  go_enter Tryd.func70, Tryd.ntmps70
  go_wp2_with fail
  refine Calls.mono (inner_any _ w) ?_
  rintro e w1 ⟨rfl, U1, m1, s1, z1⟩
  have HK : Hid (Calls Tryd.prog fid (#[.pointer (some ⟨w.heap.size + 1, 0, none⟩)] ++ cp) w1 (Ret R w.heap.size w1)) := HP.out w1 w.heap.size (w.heap.size + 1) U1 (Nat.le_refl _) (HC.out.inner U1 m1 s1)
  have HU1 : Hid (Upd [] w w1) := U1
  have HI1 : Hid (NmIs w1 w.heap.size Fr0) := NmIs.at m1
  have HS1 : Hid (w1.heap[w.heap.size + 1]? = some (.cells #[.map (some w.heap.size), .pointer (some ⟨b, 0, none⟩)] 57 (0, 0))) := s1
  clear U1 m1 s1 z1 HP
  go_wp2_with fail
  refine Calls.mono HK.out ?_
  rintro e w2 ⟨hu, hm⟩
  have HU2 : Hid (Upd [] w w2) := HU1.out.then hu (by simp)
  have hci : Hid (w2.cell? ⟨w.heap.size + 1, 0, none⟩ = some (.map (some w.heap.size))) := HI1.out.cell hu (cell_of_row _ _ 0 _ _ _ HS1.out)
  clear HK HU1 hu HI1 HS1
  cases R with
  | error x =>
    have hm3 : e = .panicked [{ v := .iface 33 (.agg #[.int .i64 x.1, .int .i64 x.2]), recovered := false }] := hm
    subst hm3
    have hg : Hid (G = .error x) := HG
    clear hm
    go_wp2_with fail
    exact ⟨rfl, ret_err hg.out HU2.out.into⟩
  | ok g =>
    obtain ⟨⟨u, rfl⟩, hng⟩ := hm
    have hg : Hid (G = .ok (asideF f g)) := HG
    obtain ⟨w3, hr3, hrg3, hu3, hz3⟩ := hng.range
    have hc2 := hci.out
    have hl2 : w.heap.size < w2.heap.size := hng.lt
    have HU3 : Hid (Upd [] w w3) := HU2.out.trans hu3
    have HRG : Hid (RgIs w3 w.heap.size w2.heap.size g (fun _ => false)) := hrg3
    clear hng hrg3 hu3 hz3 HG
    go_wp2_with fail
    go_loopw [5] (fun _ wr => ∃ d, RgIs wr w.heap.size w2.heap.size g d ∧ NmIs wr bm (partA f g d) ∧ Upd [bm] w wr) (fun _ wr => rgLeft wr w.heap.size w2.heap.size)
    case atStart => exact ⟨fun _ => false, HRG.out, by rw [partA_0]; exact HN.out.mono HU3.out (by simp), HU3.out.into⟩
    case round =>
      obtain ⟨d, hrg, hn, hu⟩ := hrel
      have HU : Hid (Upd [bm] w wr) := hu
      have HNr : Hid (NmIs wr bm (partA f g d)) := hn
      have HR : Hid (RgIs wr w.heap.size w2.heap.size g d) := hrg
      clear hr3 hc2
      rcases hrg.next 0 with ⟨hdone, hnx⟩ | ⟨s, w4, hgs, hnx, hrg4, hlt, hu4, hz4, hen⟩
      · have hg2 : Hid (G = .ok (partA f g d)) := by rw [partA_end hdone]; exact hg
        clear hrg hn hu hdone
        go_wp2_with fail
        exact bodyPost_end (results_none rfl _ _ _) rfl (ret_ok hg2.out HU.out HNr.out)
      · have hz : partA f g d s = 0 ∨ partA f g d s = 1 ∨ partA f g d s = 2 ∨ partA f g d s = 3 := by
          obtain ⟨_, _, _, _, _, _, k3⟩ := hn
          have := k3 s
          omega
        have n4 : NmIs w4 bm (partA f g d) := hn.mono hu4 (by simp; omega)
        have HU4 : Hid (Upd [bm] w w4) := hu.then hu4 (by simp; omega)
        have hb4 : w4.cell? ⟨b, 0, none⟩ = some (.map (some bm)) := HN.out.cell HU4.out hbc.out
        have hlk := n4.look1 s
        have HLT : Hid (rgLeft w4 w.heap.size w2.heap.size < rgLeft wr w.heap.size w2.heap.size) := hlt
        have HRG4 : Hid (RgIs w4 w.heap.size w2.heap.size g (fun x => decide (x = s) || d x)) := hrg4
        have N4 : Hid (NmIs w4 bm (partA f g d)) := n4
        have HGS : Hid (g s ≠ 0) := hgs
        clear hrg hn hu hrg4 hu4 hlt n4 hgs hz4
        have hgv : g s = 1 ∨ g s = 2 ∨ g s = 3 := by
          obtain ⟨hNg, _⟩ := HRG4.out
          obtain ⟨_, _, _, _, _, _, k3⟩ := hNg
          have := k3 s
          have := HGS.out
          omega
        rcases hgv with hgv | hgv | hgv
        · rw [hgv] at hnx hen
          have HN5 : Hid (NmIs w4 bm (partA f g (fun x => decide (x = s) || d x))) := by rw [← partA_skip (d := d) (s := s) (by rw [hgv]; rfl)]; exact N4.out
          clear hlk hz hgv
          go_wp2_with fail
          go_roundw
          case rel => exact ⟨_, HRG4.out, HN5.out, HU4.out⟩
          case measure => exact HLT.out
        · rw [hgv] at hnx hen
          have HGN : Hid (gonS (g s) = true) := by rw [hgv]; rfl
          clear hgv
          rcases hz with hq | hq | hq | hq
          · obtain ⟨w5, hp5, hu5, _, hn5⟩ := N4.out.put s 2 (by omega)
            have HU5 : Hid (Upd [bm] w w5) := HU4.out.trans hu5
            have HN5 : Hid (NmIs w5 bm (partA f g (fun x => decide (x = s) || d x))) := by rw [← partA_put HGN.out (v := 2) (by rw [hq]; rfl)]; exact hn5
            have HRG5 : Hid (RgIs w5 w.heap.size w2.heap.size g (fun x => decide (x = s) || d x) ∧ rgLeft w5 w.heap.size w2.heap.size = rgLeft w4 w.heap.size w2.heap.size) := HRG4.out.mono hu5 (by simp; omega) (by simp; omega)
            rw [hq] at hlk
            clear hu5 hn5 hq
            go_wp2_with fail
            go_roundw
            case rel => exact ⟨_, HRG5.out.1, HN5.out, HU5.out⟩
            case measure => show rgLeft w5 _ _ < rgLeft wr _ _; rw [HRG5.out.2]; exact HLT.out
          · obtain ⟨w5, hp5, hu5, _, hn5⟩ := N4.out.put s 3 (by omega)
            have HU5 : Hid (Upd [bm] w w5) := HU4.out.trans hu5
            have HN5 : Hid (NmIs w5 bm (partA f g (fun x => decide (x = s) || d x))) := by rw [← partA_put HGN.out (v := 3) (by rw [hq]; rfl)]; exact hn5
            have HRG5 : Hid (RgIs w5 w.heap.size w2.heap.size g (fun x => decide (x = s) || d x) ∧ rgLeft w5 w.heap.size w2.heap.size = rgLeft w4 w.heap.size w2.heap.size) := HRG4.out.mono hu5 (by simp; omega) (by simp; omega)
            rw [hq] at hlk
            clear hu5 hn5 hq
            go_wp2_with fail
            go_roundw
            case rel => exact ⟨_, HRG5.out.1, HN5.out, HU5.out⟩
            case measure => show rgLeft w5 _ _ < rgLeft wr _ _; rw [HRG5.out.2]; exact HLT.out
          · obtain ⟨w5, hp5, hu5, _, hn5⟩ := N4.out.put s 2 (by omega)
            have HU5 : Hid (Upd [bm] w w5) := HU4.out.trans hu5
            have HN5 : Hid (NmIs w5 bm (partA f g (fun x => decide (x = s) || d x))) := by rw [← partA_put HGN.out (v := 2) (by rw [hq]; rfl)]; exact hn5
            have HRG5 : Hid (RgIs w5 w.heap.size w2.heap.size g (fun x => decide (x = s) || d x) ∧ rgLeft w5 w.heap.size w2.heap.size = rgLeft w4 w.heap.size w2.heap.size) := HRG4.out.mono hu5 (by simp; omega) (by simp; omega)
            rw [hq] at hlk
            clear hu5 hn5 hq
            go_wp2_with fail
            go_roundw
            case rel => exact ⟨_, HRG5.out.1, HN5.out, HU5.out⟩
            case measure => show rgLeft w5 _ _ < rgLeft wr _ _; rw [HRG5.out.2]; exact HLT.out
          · obtain ⟨w5, hp5, hu5, _, hn5⟩ := N4.out.put s 3 (by omega)
            have HU5 : Hid (Upd [bm] w w5) := HU4.out.trans hu5
            have HN5 : Hid (NmIs w5 bm (partA f g (fun x => decide (x = s) || d x))) := by rw [← partA_put HGN.out (v := 3) (by rw [hq]; rfl)]; exact hn5
            have HRG5 : Hid (RgIs w5 w.heap.size w2.heap.size g (fun x => decide (x = s) || d x) ∧ rgLeft w5 w.heap.size w2.heap.size = rgLeft w4 w.heap.size w2.heap.size) := HRG4.out.mono hu5 (by simp; omega) (by simp; omega)
            rw [hq] at hlk
            clear hu5 hn5 hq
            go_wp2_with fail
            go_roundw
            case rel => exact ⟨_, HRG5.out.1, HN5.out, HU5.out⟩
            case measure => show rgLeft w5 _ _ < rgLeft wr _ _; rw [HRG5.out.2]; exact HLT.out
        · rw [hgv] at hnx hen
          have HGN : Hid (gonS (g s) = true) := by rw [hgv]; rfl
          clear hgv
          rcases hz with hq | hq | hq | hq
          · obtain ⟨w5, hp5, hu5, _, hn5⟩ := N4.out.put s 2 (by omega)
            have HU5 : Hid (Upd [bm] w w5) := HU4.out.trans hu5
            have HN5 : Hid (NmIs w5 bm (partA f g (fun x => decide (x = s) || d x))) := by rw [← partA_put HGN.out (v := 2) (by rw [hq]; rfl)]; exact hn5
            have HRG5 : Hid (RgIs w5 w.heap.size w2.heap.size g (fun x => decide (x = s) || d x) ∧ rgLeft w5 w.heap.size w2.heap.size = rgLeft w4 w.heap.size w2.heap.size) := HRG4.out.mono hu5 (by simp; omega) (by simp; omega)
            rw [hq] at hlk
            clear hu5 hn5 hq
            go_wp2_with fail
            go_roundw
            case rel => exact ⟨_, HRG5.out.1, HN5.out, HU5.out⟩
            case measure => show rgLeft w5 _ _ < rgLeft wr _ _; rw [HRG5.out.2]; exact HLT.out
          · obtain ⟨w5, hp5, hu5, _, hn5⟩ := N4.out.put s 3 (by omega)
            have HU5 : Hid (Upd [bm] w w5) := HU4.out.trans hu5
            have HN5 : Hid (NmIs w5 bm (partA f g (fun x => decide (x = s) || d x))) := by rw [← partA_put HGN.out (v := 3) (by rw [hq]; rfl)]; exact hn5
            have HRG5 : Hid (RgIs w5 w.heap.size w2.heap.size g (fun x => decide (x = s) || d x) ∧ rgLeft w5 w.heap.size w2.heap.size = rgLeft w4 w.heap.size w2.heap.size) := HRG4.out.mono hu5 (by simp; omega) (by simp; omega)
            rw [hq] at hlk
            clear hu5 hn5 hq
            go_wp2_with fail
            go_roundw
            case rel => exact ⟨_, HRG5.out.1, HN5.out, HU5.out⟩
            case measure => show rgLeft w5 _ _ < rgLeft wr _ _; rw [HRG5.out.2]; exact HLT.out
          · obtain ⟨w5, hp5, hu5, _, hn5⟩ := N4.out.put s 2 (by omega)
            have HU5 : Hid (Upd [bm] w w5) := HU4.out.trans hu5
            have HN5 : Hid (NmIs w5 bm (partA f g (fun x => decide (x = s) || d x))) := by rw [← partA_put HGN.out (v := 2) (by rw [hq]; rfl)]; exact hn5
            have HRG5 : Hid (RgIs w5 w.heap.size w2.heap.size g (fun x => decide (x = s) || d x) ∧ rgLeft w5 w.heap.size w2.heap.size = rgLeft w4 w.heap.size w2.heap.size) := HRG4.out.mono hu5 (by simp; omega) (by simp; omega)
            rw [hq] at hlk
            clear hu5 hn5 hq
            go_wp2_with fail
            go_roundw
            case rel => exact ⟨_, HRG5.out.1, HN5.out, HU5.out⟩
            case measure => show rgLeft w5 _ _ < rgLeft wr _ _; rw [HRG5.out.2]; exact HLT.out
          · obtain ⟨w5, hp5, hu5, _, hn5⟩ := N4.out.put s 3 (by omega)
            have HU5 : Hid (Upd [bm] w w5) := HU4.out.trans hu5
            have HN5 : Hid (NmIs w5 bm (partA f g (fun x => decide (x = s) || d x))) := by rw [← partA_put HGN.out (v := 3) (by rw [hq]; rfl)]; exact hn5
            have HRG5 : Hid (RgIs w5 w.heap.size w2.heap.size g (fun x => decide (x = s) || d x) ∧ rgLeft w5 w.heap.size w2.heap.size = rgLeft w4 w.heap.size w2.heap.size) := HRG4.out.mono hu5 (by simp; omega) (by simp; omega)
            rw [hq] at hlk
            clear hu5 hn5 hq
            go_wp2_with fail
            go_roundw
            case rel => exact ⟨_, HRG5.out.1, HN5.out, HU5.out⟩
            case measure => show rgLeft w5 _ _ < rgLeft wr _ _; rw [HRG5.out.2]; exact HLT.out

end Go.Proofs.YtpgjcedonimgnaaDoor
