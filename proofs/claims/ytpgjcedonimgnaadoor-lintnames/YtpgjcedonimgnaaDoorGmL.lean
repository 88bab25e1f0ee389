/- lint's apart, branch, aside, of whatever part. -/
import Derived.Test.YtpgjcedonimgnaaDoorGmK
namespace Go.Proofs.YtpgjcedonimgnaaDoor
open Go.RowKit

theorem Chn.lts {w : World} : ∀ (bs : List Nat) (r : List Fr) (a : Option Addr), Chn w bs r a → ∀ m ∈ bs, m < w.heap.size
  | [], [], _, _, m, hm => by simp at hm
  | bm :: bs, f :: r, _, ⟨_, a', _, _, hN, _, hr⟩, m, hm => by
    rcases List.mem_cons.1 hm with rfl | hm
    · exact hN.lt
    · exact Chn.lts bs r a' hr m hm
  | [], _ :: _, _, h, _, _ => h.elim
  | _ :: _, [], _, h, _, _ => h.elim
/-- A new scope within. -/
theorem Chn.inner {w w1 : World} {bs : List Nat} {r : List Fr} {a : Option Addr} (h : Chn w bs r a) (hu : Upd [] w w1) (m1 : w1.heap[w.heap.size]? = some (.map #[] 0)) (s1 : w1.heap[w.heap.size + 1]? = some (.cells #[.map (some w.heap.size), .pointer a] 57)) : Chn w1 (w.heap.size :: bs) (Fr0 :: r) (some ⟨w.heap.size + 1, 0, none⟩) :=
  ⟨w.heap.size + 1, a, rfl, s1, NmIs.at m1, fun hm => by have := Chn.lts bs r a h _ hm; omega, Chn.mono hu bs r a h⟩
/-- The fault, if there is one. -/
def fltO : Except Flt Fr → Option Flt
  | .error x => some x
  | .ok _ => none
/-- What a part is: whatever is handed a scope within. -/
def PartOk (fid : Nat) (cp : Array Value) (w : World) (bs : List Nat) (r : List Fr) (R : Except Flt Fr) : Prop := ∀ (W : World) (bm b : Nat), Upd [] w W → w.heap.size ≤ bm → Chn W (bm :: bs) (Fr0 :: r) (some ⟨b, 0, none⟩) → Calls Tryd.prog fid (#[.pointer (some ⟨b, 0, none⟩)] ++ cp) W (Ret R bm W)

set_option maxHeartbeats 1000000 in
set_option maxRecDepth 100000 in
theorem apart_gen (fid : Nat) (cp : Array Value) (eg : ∀ args w, (callFunc fid args).run Tryd.prog w = .ok (.enter fid args) w) (bs : List Nat) (r : List Fr) (a : Option Addr) (w : World) (R : Except Flt Fr) (h : Chn w bs r a) (hp : PartOk fid cp w bs r R) : Calls Tryd.prog 29 #[.pointer a, .func (.func fid) #[] cp] w (RetO (fltO R) w) := by
  have HP : Hid (PartOk fid cp w bs r R) := hp
  have HC : Hid (Chn w bs r a) := h
  obtain ⟨G, hG0⟩ : ∃ G, G = fltO R := ⟨_, rfl⟩
  rw [← hG0]
  have HG : Hid (G = fltO R) := hG0
  clear hp h hG0
  go_enter Tryd.func29, Tryd.ntmps29
  go_wp2_with fail
  refine Calls.mono (inner_any _ w) ?_
  rintro e w1 ⟨rfl, U1, m1, s1, _⟩
  have HK : Hid (Calls Tryd.prog fid (#[.pointer (some ⟨w.heap.size + 1, 0, none⟩)] ++ cp) w1 (Ret R w.heap.size w1)) := HP.out w1 w.heap.size (w.heap.size + 1) U1 (Nat.le_refl _) (HC.out.inner U1 m1 s1)
  have HU1 : Hid (Upd [] w w1) := U1
  clear U1 m1 s1 HP HC
  go_wp2_with fail
  refine Calls.mono HK.out ?_
  rintro e w2 ⟨hu, hm⟩
  have HU : Hid (Upd [] w w2) := HU1.out.then hu (by simp)
  clear HK HU1 hu
  cases R with
  | ok g =>
    obtain ⟨⟨u, rfl⟩, _⟩ := hm
    have hg : Hid (G = none) := HG
    go_wp2_with fail
    exact bodyPost_end (results_none rfl _ _ _) rfl (retO_ok hg.out HU.out)
  | error x =>
    have hm3 : e = .panicked [{ v := .iface 33 (.agg #[.int .i64 x.1, .int .i64 x.2]), recovered := false }] := hm
    subst hm3
    have hg : Hid (G = some x) := HG
    clear hm
    go_wp2_with fail
    exact ⟨rfl, retO_err hg.out HU.out⟩
def orG (z : Int) : Int := if z = 0 then 2 else if z = 1 then 3 else z
/-- Those of whom it is done are gone. -/
def partF (f g : Fr) (d : ByteArray → Bool) : Fr := fun s => if g s ≠ 0 ∧ d s = true then orG (f s) else f s
theorem partF_end {f g : Fr} {d : ByteArray → Bool} (h : ∀ s, g s ≠ 0 → d s = true) : partF f g d = goneF f g := by
  funext s
  unfold partF goneF orG
  by_cases hz : g s = 0
  · rw [if_neg (by simp [hz]), if_pos hz]
  · rw [if_pos ⟨hz, h s hz⟩, if_neg hz]
theorem partF_put {f g : Fr} {d : ByteArray → Bool} {s : ByteArray} {v : Int} (hg : g s ≠ 0) (hv : v = orG (partF f g d s)) : (partF f g d).put s v = partF f g (fun x => decide (x = s) || d x) := by
  funext x
  unfold Fr.put
  by_cases e : x = s
  · subst e
    rw [if_pos rfl, hv]
    have e2 : partF f g (fun y => decide (y = x) || d y) x = orG (f x) := by unfold partF; rw [if_pos ⟨hg, by simp⟩]
    rw [e2]
    unfold partF
    split
    · unfold orG; split <;> (try split) <;> (try split) <;> (try split) <;> simp_all
    · rfl
  · rw [if_neg e]
    unfold partF
    simp [e]

def goneR (f : Fr) : Except Flt Fr → Except Flt Fr
  | .error x => .error x
  | .ok g => .ok (goneF f g)
theorem partF_0 (f g : Fr) : partF f g (fun _ => false) = f := by funext s; simp [partF]

set_option maxHeartbeats 4000000 in
set_option maxRecDepth 100000 in
theorem branch_gen (fid : Nat) (cp : Array Value) (eg : ∀ args w, (callFunc fid args).run Tryd.prog w = .ok (.enter fid args) w) (bm b : Nat) (bs : List Nat) (f : Fr) (r : List Fr) (w : World) (R : Except Flt Fr) (h : Chn w (bm :: bs) (f :: r) (some ⟨b, 0, none⟩)) (hp : PartOk fid cp w (bm :: bs) (f :: r) R) : Calls Tryd.prog 68 #[.pointer (some ⟨b, 0, none⟩), .func (.func fid) #[] cp] w (Ret (goneR f R) bm w) := by
  have HP : Hid (PartOk fid cp w (bm :: bs) (f :: r) R) := hp
  have HC : Hid (Chn w (bm :: bs) (f :: r) (some ⟨b, 0, none⟩)) := h
  have HN : Hid (NmIs w bm f) := h.nm
  have hbl : bm < w.heap.size := HN.out.lt
  have hbc : Hid (w.cell? ⟨b, 0, none⟩ = some (.map (some bm))) := by
    obtain ⟨b', a', e, hb, _⟩ := h
    cases e
    exact cell_of_row _ b 0 _ _ _ hb
  obtain ⟨G, hG0⟩ : ∃ G, G = goneR f R := ⟨_, rfl⟩
  rw [← hG0]
  have HG : Hid (G = goneR f R) := hG0
  clear hp h hG0
  have y0 : bits BinOp.or IntKind.i64 0 2 = 2 := by decide
  have y1 : bits BinOp.or IntKind.i64 1 2 = 3 := by decide
  have y2 : bits BinOp.or IntKind.i64 2 2 = 2 := by decide
  have y3 : bits BinOp.or IntKind.i64 3 2 = 3 := by decide
  have x0 : bits BinOp.and IntKind.i64 0 2 = 0 := by decide
  have x1 : bits BinOp.and IntKind.i64 1 2 = 0 := by decide
  have x2 : bits BinOp.and IntKind.i64 2 2 = 2 := by decide
  have x3 : bits BinOp.and IntKind.i64 3 2 = 2 := by decide
  go_enter Tryd.func68, Tryd.ntmps68
  go_wp2_with fail
  refine Calls.mono (inner_any _ w) ?_
  rintro e w1 ⟨rfl, U1, m1, s1, z1⟩
  have HK : Hid (Calls Tryd.prog fid (#[.pointer (some ⟨w.heap.size + 1, 0, none⟩)] ++ cp) w1 (Ret R w.heap.size w1)) := HP.out w1 w.heap.size (w.heap.size + 1) U1 (Nat.le_refl _) (HC.out.inner U1 m1 s1)
  have HU1 : Hid (Upd [] w w1) := U1
  have HI1 : Hid (NmIs w1 w.heap.size Fr0) := NmIs.at m1
  have HS1 : Hid (w1.heap[w.heap.size + 1]? = some (.cells #[.map (some w.heap.size), .pointer (some ⟨b, 0, none⟩)] 57 (0, 0))) := s1
  clear U1 m1 s1 z1 HP
  go_wp2_with fail
  refine Calls.mono HK.out ?_
  rintro e w2 ⟨hu, hm⟩
  have HU2 : Hid (Upd [] w w2) := HU1.out.then hu (by simp)
  have hci : Hid (w2.cell? ⟨w.heap.size + 1, 0, none⟩ = some (.map (some w.heap.size))) := HI1.out.cell hu (cell_of_row _ _ 0 _ _ _ HS1.out)
  clear HK HU1 hu HI1 HS1
  cases R with
  | error x =>
    have hm3 : e = .panicked [{ v := .iface 33 (.agg #[.int .i64 x.1, .int .i64 x.2]), recovered := false }] := hm
    subst hm3
    have hg : Hid (G = .error x) := HG
    clear hm
    go_wp2_with fail
    exact ⟨rfl, ret_err hg.out HU2.out.into⟩
  | ok g =>
    obtain ⟨⟨u, rfl⟩, hng⟩ := hm
    have hg : Hid (G = .ok (goneF f g)) := HG
    obtain ⟨w3, hr3, hrg3, hu3, hz3⟩ := hng.range
    have hc2 := hci.out
    have hl2 : w.heap.size < w2.heap.size := hng.lt
    have HU3 : Hid (Upd [] w w3) := HU2.out.trans hu3
    have HRG : Hid (RgIs w3 w.heap.size w2.heap.size g (fun _ => false)) := hrg3
    clear hng hrg3 hu3 hz3 HG
    go_wp2_with fail
    go_loopw [5] (fun _ wr => ∃ d, RgIs wr w.heap.size w2.heap.size g d ∧ NmIs wr bm (partF f g d) ∧ Upd [bm] w wr) (fun _ wr => rgLeft wr w.heap.size w2.heap.size)
    case atStart => exact ⟨fun _ => false, HRG.out, by rw [partF_0]; exact HN.out.mono HU3.out (by simp), HU3.out.into⟩
    case round =>
      obtain ⟨d, hrg, hn, hu⟩ := hrel
      have HU : Hid (Upd [bm] w wr) := hu
      have HNr : Hid (NmIs wr bm (partF f g d)) := hn
      have HR : Hid (RgIs wr w.heap.size w2.heap.size g d) := hrg
      clear hr3 hc2
      rcases hrg.next 0 with ⟨hdone, hnx⟩ | ⟨s, w4, hgs, hnx, hrg4, hlt, hu4, hz4, hen⟩
      · have hg2 : Hid (G = .ok (partF f g d)) := by rw [partF_end hdone]; exact hg
        clear hrg hn hu hdone
        go_wp2_with fail
        exact bodyPost_end (results_none rfl _ _ _) rfl (ret_ok hg2.out HU.out HNr.out)
      · have hz : partF f g d s = 0 ∨ partF f g d s = 1 ∨ partF f g d s = 2 ∨ partF f g d s = 3 := by
          obtain ⟨_, _, _, _, _, _, k3⟩ := hn
          have := k3 s
          omega
        have n4 : NmIs w4 bm (partF f g d) := hn.mono hu4 (by simp; omega)
        have HU4 : Hid (Upd [bm] w w4) := hu.then hu4 (by simp; omega)
        have hb4 : w4.cell? ⟨b, 0, none⟩ = some (.map (some bm)) := HN.out.cell HU4.out hbc.out
        have hlk := n4.look1 s
        have HLT : Hid (rgLeft w4 w.heap.size w2.heap.size < rgLeft wr w.heap.size w2.heap.size) := hlt
        have HRG4 : Hid (RgIs w4 w.heap.size w2.heap.size g (fun x => decide (x = s) || d x)) := hrg4
        have N4 : Hid (NmIs w4 bm (partF f g d)) := n4
        have HGS : Hid (g s ≠ 0) := hgs
        clear hrg hn hu hrg4 hu4 hlt n4 hgs hz4
        rcases hz with hq | hq | hq | hq
        · obtain ⟨w5, hp5, hu5, _, hn5⟩ := N4.out.put s 2 (by omega)
          have HU5 : Hid (Upd [bm] w w5) := HU4.out.trans hu5
          have HN5 : Hid (NmIs w5 bm (partF f g (fun x => decide (x = s) || d x))) := by rw [← partF_put HGS.out (v := 2) (by rw [hq]; rfl)]; exact hn5
          have HRG5 : Hid (RgIs w5 w.heap.size w2.heap.size g (fun x => decide (x = s) || d x) ∧ rgLeft w5 w.heap.size w2.heap.size = rgLeft w4 w.heap.size w2.heap.size) := HRG4.out.mono hu5 (by simp; omega) (by simp; omega)
          rw [hq] at hlk
          clear hu5 hn5 hq
          go_wp2_with fail
          go_roundw
          case rel => exact ⟨_, HRG5.out.1, HN5.out, HU5.out⟩
          case measure => show rgLeft w5 _ _ < rgLeft wr _ _; rw [HRG5.out.2]; exact HLT.out
        · obtain ⟨w5, hp5, hu5, _, hn5⟩ := N4.out.put s 3 (by omega)
          have HU5 : Hid (Upd [bm] w w5) := HU4.out.trans hu5
          have HN5 : Hid (NmIs w5 bm (partF f g (fun x => decide (x = s) || d x))) := by rw [← partF_put HGS.out (v := 3) (by rw [hq]; rfl)]; exact hn5
          have HRG5 : Hid (RgIs w5 w.heap.size w2.heap.size g (fun x => decide (x = s) || d x) ∧ rgLeft w5 w.heap.size w2.heap.size = rgLeft w4 w.heap.size w2.heap.size) := HRG4.out.mono hu5 (by simp; omega) (by simp; omega)
          rw [hq] at hlk
          clear hu5 hn5 hq
          go_wp2_with fail
          go_roundw
          case rel => exact ⟨_, HRG5.out.1, HN5.out, HU5.out⟩
          case measure => show rgLeft w5 _ _ < rgLeft wr _ _; rw [HRG5.out.2]; exact HLT.out
        · obtain ⟨w5, hp5, hu5, _, hn5⟩ := N4.out.put s 2 (by omega)
          have HU5 : Hid (Upd [bm] w w5) := HU4.out.trans hu5
          have HN5 : Hid (NmIs w5 bm (partF f g (fun x => decide (x = s) || d x))) := by rw [← partF_put HGS.out (v := 2) (by rw [hq]; rfl)]; exact hn5
          have HRG5 : Hid (RgIs w5 w.heap.size w2.heap.size g (fun x => decide (x = s) || d x) ∧ rgLeft w5 w.heap.size w2.heap.size = rgLeft w4 w.heap.size w2.heap.size) := HRG4.out.mono hu5 (by simp; omega) (by simp; omega)
          rw [hq] at hlk
          clear hu5 hn5 hq
          go_wp2_with fail
          go_roundw
          case rel => exact ⟨_, HRG5.out.1, HN5.out, HU5.out⟩
          case measure => show rgLeft w5 _ _ < rgLeft wr _ _; rw [HRG5.out.2]; exact HLT.out
        · obtain ⟨w5, hp5, hu5, _, hn5⟩ := N4.out.put s 3 (by omega)
          have HU5 : Hid (Upd [bm] w w5) := HU4.out.trans hu5
          have HN5 : Hid (NmIs w5 bm (partF f g (fun x => decide (x = s) || d x))) := by rw [← partF_put HGS.out (v := 3) (by rw [hq]; rfl)]; exact hn5
          have HRG5 : Hid (RgIs w5 w.heap.size w2.heap.size g (fun x => decide (x = s) || d x) ∧ rgLeft w5 w.heap.size w2.heap.size = rgLeft w4 w.heap.size w2.heap.size) := HRG4.out.mono hu5 (by simp; omega) (by simp; omega)
          rw [hq] at hlk
          clear hu5 hn5 hq
          go_wp2_with fail
          go_roundw
          case rel => exact ⟨_, HRG5.out.1, HN5.out, HU5.out⟩
          case measure => show rgLeft w5 _ _ < rgLeft wr _ _; rw [HRG5.out.2]; exact HLT.out

end Go.Proofs.YtpgjcedonimgnaaDoor
