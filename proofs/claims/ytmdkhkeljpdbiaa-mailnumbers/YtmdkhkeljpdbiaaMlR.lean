/- copies, All. -/
import Derived.Test.YtmdkhkeljpdbiaaMlP
import Derived.OwnWalk
namespace Go.Proofs.Ytmdkhkeljpdbiaa
open Go.RowKit

/-- Letters without rows. -/
def Flat (L : List (List Value)) : Prop := ∀ c ∈ L, ∃ k b s n, c = (fl k b s n).toList
theorem Flat.sev {L : List (List Value)} (h : Flat L) : Sev L := fun c hc => by
  obtain ⟨k, b, s, n, rfl⟩ := h c hc
  exact sev_fl k b s n
theorem Flat.at {L : List (List Value)} (h : Flat L) {i : Nat} (hi : i < L.length) : ∃ k b s n, L.getD i [] = (fl k b s n).toList := by
  rw [List.getD_eq_getElem?_getD, List.getElem?_eq_getElem hi]
  exact h _ (List.getElem_mem hi)
theorem row_own {w : World} {base : Nat} {e : TypeId} {n g : Nat} {xs : List Value} (h : w.ownsRow base e 7 (.slice (some ⟨g, 0, none⟩) n n) n xs) : RowG w 7 (.slice (some ⟨g, 0, none⟩) n n) n := by
  obtain ⟨_, ⟨h1, _⟩ | ⟨g2, cap, cur, e1, _, hb, h2, h3, h4, _⟩⟩ := h
  · cases h1
  · simp only [Value.slice.injEq, Option.some.injEq, Addr.mk.injEq, and_true, true_and] at e1
    obtain ⟨rfl, rfl⟩ := e1
    refine Or.inr ⟨g, n, rfl, lt_of_block hb, h2, h3, fun j hj => ⟨?_, frozen_of_row _ _ _ _ _ hb⟩⟩
    rw [cell_of_row _ _ _ _ _ _ hb, Nat.zero_add, Array.getElem?_eq_getElem (by omega)]
    rfl
theorem Upd.of_grown {w w' : World} (h : w.grownBy w' none) : Upd [] w w' := ⟨h.os, h.tape, h.output, h.size, fun k hk _ => h.block k hk (by simp)⟩

set_option maxHeartbeats 2000000 in
set_option maxRecDepth 100000 in
theorem copies_fl (w : World) (g cap : Nat) (L : List (List Value)) (ap : Int) (hn : L.length ≤ 1024) (hf : Flat L) (hr : RowG w 7 (.slice (some ⟨g, 0, none⟩) L.length cap) L.length) (hh : Hs w 7 (.slice (some ⟨g, 0, none⟩) L.length cap) L.length (fun i => L.getD i [])) :
    Calls Try.prog 29 #[.slice (some ⟨g, 0, none⟩) L.length cap, .int .i64 ap] w fun e w' => ∃ go, e = .returned (.slice (some ⟨go, 0, none⟩) L.length L.length) ∧ w.heap.size ≤ go ∧ RowG w' 7 (.slice (some ⟨go, 0, none⟩) L.length L.length) L.length ∧ Hs w' 7 (.slice (some ⟨go, 0, none⟩) L.length L.length) L.length (fun i => L.getD i []) ∧ Upd [] w w' := by
  obtain ⟨fs, hdesc⟩ := term_desc
  obtain ⟨i0, hi, hz0, hzs, hzb⟩ := info_partsN info_termP
  have hgl : g < w.heap.size := hr.lt g rfl
  have HR : Hid (RowG w 7 (.slice (some ⟨g, 0, none⟩) L.length cap) L.length ∧ Hs w 7 (.slice (some ⟨g, 0, none⟩) L.length cap) L.length (fun i => L.getD i []) ∧ Flat L ∧ g < w.heap.size) := ⟨hr, hh, hf, hgl⟩
  generalize hL : L.length = n at *
  have HL : Hid (L.length = n) := hL
  clear hr hh hf hL hgl
  go_enter Try.func29, Try.ntmps29
  go_wp2_with (first | (at_make; refine wpList_make_full _ rfl _ _ 24 rfl w.heap.size 26 i0 _ 7 Try.underlying24 hi hz0 hzs .i64 .i64 _ _ n rfl rfl rfl rfl (by rw [hzb]; omega) (by unfold maxLen; omega) (Nat.le_refl _) ?_; intro w0 hown0 hgr0
                        have R0 : Hid (RowG w0 7 (.slice (some ⟨w.heap.size, 0, none⟩) n n) n) := row_own hown0
                        have U0 : Hid (Upd [] w w0) := Upd.of_grown hgr0
                        clear hown0 hgr0) | fail)
  obtain ⟨go, hgo⟩ : ∃ go, go = w.heap.size := ⟨_, rfl⟩
  rw [← hgo] at R0 ⊢
  have HGO : Hid (go = w.heap.size) := hgo
  clear hgo
  go_loopw [13] (fun i wr => ∃ k : Nat, k ≤ n ∧ i = .int .i64 k ∧ Upd [] w wr ∧ RowG wr 7 (.slice (some ⟨go, 0, none⟩) n n) n ∧ Hs wr 7 (.slice (some ⟨go, 0, none⟩) n n) k (fun i => L.getD i [])) (fun i _ => n - (intOf i).toNat)
  case atStart => exact ⟨0, Nat.zero_le _, rfl, U0.out, R0.out, Hs.zero _ _ _ _⟩
  case round =>
    obtain ⟨k, hk, rfl, hu, hR, hH⟩ := hrel
    by_cases hlt : k < n
    · have i1 : (k : Int) < (n : Int) := by omega
      obtain ⟨kk, bb, ss, nn, hc⟩ := HR.out.2.2.1.at (i := k) (by rw [HL.out]; exact hlt)
      have hrg : wr.rangeAt g (k * 7) (fl kk bb ss nn).toList := by
        have h1 := HR.out.2.1.range (i := k) hlt (by rw [hc]; rfl)
        rw [hc] at h1
        exact range_upd h1 HR.out.2.2.2 hu (by simp)
      have HS : Hid (Upd [] w wr ∧ RowG wr 7 (.slice (some ⟨go, 0, none⟩) n n) n ∧ Hs wr 7 (.slice (some ⟨go, 0, none⟩) n n) k (fun i => L.getD i []) ∧ L.getD k [] = (fl kk bb ss nn).toList) := ⟨hu, hR, hH, hc⟩
      have HRG : Hid (wr.rangeAt g (k * 7) (fl kk bb ss nn).toList) := hrg
      have HX : Hid (Tb (wr.alloc (.cells #[.int .u8 0, .bool false, .slice none 0 0, .string ⟨#[]⟩, .int .i64 0, .slice none 0 0, .slice none 0 0] 26)) wr.heap.size #[.int .u8 0, .bool false, .slice none 0 0, .string ⟨#[]⟩, .int .i64 0, .slice none 0 0, .slice none 0 0] ∧ Upd [] wr (wr.alloc (.cells #[.int .u8 0, .bool false, .slice none 0 0, .string ⟨#[]⟩, .int .i64 0, .slice none 0 0, .slice none 0 0] 26))) := ⟨Tb.new _ _ _ rfl, (Upd.refl [] _).alloc _⟩
      clear hu hR hH hrg hc
      go_wp2_with (first
        | (refine wpList_load_mid rfl 26 _ rfl g (k * 7) rfl (fl kk bb ss nn).toList _ HRG.out hdesc rfl (by rw [info_term]; rfl) ?_)
        | (refine store_T _ rfl _ _ rfl _ (fl kk bb ss nn) _ rfl rfl HX.out.1 rfl rfl (fl_one kk bb ss nn) ?_; intro w1 hT1 hU1)
        | (refine load_T _ rfl _ rfl _ _ rfl hT1 rfl ?_)
        | fail)
      have V1 : Hid (Upd [] wr w1) := HX.out.2.then hU1 (by simp)
      clear HX hT1 hU1 HRG
      refine Calls.mono (copied_fl _ ap kk nn bb ss) ?_
      rintro e w2 ⟨rfl, hU2⟩
      have V2 : Hid (Upd [] wr w2) := V1.out.trans hU2
      have R2 : Hid (RowG w2 7 (.slice (some ⟨go, 0, none⟩) n n) n) := HS.out.2.1.upd V2.out (fun _ _ => by simp)
      have hth : w2.there go (k * 7) 7 := R2.out.room hlt
      have HTH : Hid (w2.there go (k * 7) (fl kk bb ss nn).size) := hth
      clear V1 hU2 hth
      obtain ⟨w3, hw3⟩ : ∃ w3, w3 = w2.setCells go (k * 7) (fl kk bb ss nn).toList := ⟨_, rfl⟩
      have HW3 : Hid (w3 = w2.setCells go (k * 7) (fl kk bb ss nn).toList) := hw3
      clear hw3
      go_wp2_with (first
        | (refine wpList_store_mid (w := w2) rfl 26 _ _ rfl go (k * 7) (fl kk bb ss nn) rfl rfl HTH.out (by rw [info_term]; rfl) (fl_one kk bb ss nn) ?_; rw [← HW3.out])
        | fail)
      have hH2 : Hs w2 7 (.slice (some ⟨go, 0, none⟩) n n) k (fun i => L.getD i []) := HS.out.2.2.1.upd HS.out.2.1 V2.out (fun _ _ => by simp)
      have hH3 := Hs.set (i := k) hH2 R2.out hlt (by rw [HS.out.2.2.2]; rfl)
      have hR3 := R2.out.set (k * 7) (L.getD k [])
      have hU3 : Upd [] w (w2.setCells go (k * 7) (L.getD k [])) := (HS.out.1.trans V2.out).then (setCells_Upd w2 go (k * 7) (L.getD k [])) (fun x hx => Or.inl (by simp only [List.mem_singleton] at hx; rw [hx, HGO.out]; exact Nat.le_refl _))
      rw [HS.out.2.2.2, ← HW3.out] at hH3 hR3 hU3
      go_roundw
      case rel => exact ⟨k + 1, hlt, by go_num, hU3, hR3, hH3⟩
      case measure => simp [intOf]; omega
    · obtain rfl : k = n := by omega
      have HS : Hid (Upd [] w wr ∧ RowG wr 7 (.slice (some ⟨go, 0, none⟩) k k) k ∧ Hs wr 7 (.slice (some ⟨go, 0, none⟩) k k) k (fun i => L.getD i [])) := ⟨hu, hR, hH⟩
      clear hu hR hH
      go_wp2_with fail
      go_ret
      exact ⟨go, rfl, by rw [HGO.out]; exact Nat.le_refl _, HS.out.2.1, HS.out.2.2, HS.out.1⟩

end Go.Proofs.Ytmdkhkeljpdbiaa
