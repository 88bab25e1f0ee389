/- alike, spelt: by their contracts. -/
import Derived.Test.YtfejdflbilakoaaDoorRow8
import Derived.Lib.SmallJoins
namespace Go.Proofs.YtfejdflbilakoaaDoor
open Go.RowKit

set_option maxHeartbeats 1000000 in
set_option maxRecDepth 100000 in
theorem alike_eq (a b : Option Addr) (ca cb : Nat) (l m : List Sc.Tok) (n : Nat) (hn : n = l.length) (w : World) (hl : l.length ≤ 1000000000) (HA : TokAt w a l) (HB : TokAt w b m) (he : m.map (fun t => (t.kind, t.text)) = l.map (fun t => (t.kind, t.text))) :
    Calls Tryd.prog 8 #[.slice a l.length ca, .slice b n cb] w fun e w' => e = .returned (.bool true) ∧ Upd [] w w' := by
  have hlen : m.length = l.length := by have := congrArg List.length he; simpa using this
  have HE : Hid (m.map (fun t => (t.kind, t.text)) = l.map (fun t => (t.kind, t.text))) := he
  clear he
  subst hn
  have HLN : Hid (m.length = l.length) := hlen
  clear hlen
  go_enter Tryd.func8, Tryd.ntmps8
  go_wp2
  go_loopw [5] (fun i wr => ∃ k : Nat, k ≤ l.length ∧ i = .int .i64 k ∧ Upd [] w wr) (fun i _ => l.length - (intOf i).toNat)
  case atStart => exact ⟨0, Nat.zero_le _, rfl, Upd.refl _ _⟩
  case round =>
    obtain ⟨k, hk, rfl, hU⟩ := hrel
    by_cases hlt : k < l.length
    · have i1 : (k : Int) < (l.length : Int) := by omega
      have hltm : k < m.length := by rw [HLN.out]; exact hlt
      rcases HA.mono hU with h | ⟨b1, o1, rfl, hb1, hc1⟩
      · rw [h] at hlt; simp at hlt
      rcases HB.mono hU with h | ⟨b2, o2, rfl, hb2, hc2⟩
      · rw [h] at hltm; simp at hltm
      obtain ⟨x1, x2, x3⟩ := hc1 k hlt
      obtain ⟨y1, y2, y3⟩ := hc2 k hltm
      have e1 : (m[k].kind, m[k].text) = (l[k].kind, l[k].text) := by
        have := congrArg (·[k]?) HE.out
        simp only [List.getElem?_map, List.getElem?_eq_getElem hlt, List.getElem?_eq_getElem hltm, Option.map_some, Option.some.injEq] at this
        exact this
      simp only [Prod.mk.injEq] at e1
      rw [e1.1] at y1
      rw [e1.2] at y2
      clear hc1 hc2 x3 y3 e1
      obtain ⟨tk, htk⟩ : ∃ t, t = l[k].kind := ⟨_, rfl⟩
      obtain ⟨tx, htx⟩ : ∃ t, t = str l[k].text := ⟨_, rfl⟩
      rw [← htk] at x1 y1
      rw [← htx] at x2 y2
      clear htk htx
      have hq : ((tk : Int) != (tk : Int)) = false := by simp
      have hq2 : (tx.toList != tx.toList) = false := by simp
      go_wp2
      go_quiet (fail)
      go_wp2
      go_roundw
      case rel => exact ⟨k + 1, by omega, by go_num, hU.drewN _⟩
      case measure => simp [intOf]; omega
    · have hd : decide ((k : Int) < (l.length : Int)) = false := by simp; omega
      go_wp2
      go_ret
      exact ⟨rfl, hU⟩

set_option maxHeartbeats 1000000 in
set_option maxRecDepth 100000 in
theorem spelt_plain (t : Sc.Tok) (w : World) (h2 : t.kind ≠ 2) (h4 : t.kind ≠ 4) :
    Calls Tryd.prog 7 #[.agg (tokC t).toArray] w fun e w' => e = .returned (.string (str (Sc.spelt t.kind t.text))) ∧ Upd [] w w' := by
  have e : Sc.spelt t.kind t.text = t.text := by unfold Sc.spelt; rw [if_neg h2, if_neg h4]
  rw [e]
  clear e
  obtain ⟨tk, tx, tp⟩ := t
  simp only [tokC] at *
  have b2 : ((tk : Int) == 2) = false := by simp; omega
  have b4 : ((tk : Int) == 4) = false := by simp; omega
  go_enter Tryd.func7, Tryd.ntmps7
  go_wp2
  go_ret
  exact ⟨rfl, (Upd.refl [] w).alloc _⟩

def digB : ByteArray := ⟨#[48, 49, 50, 51, 52, 53, 54, 55, 56, 57, 97, 66, 99, 68, 101, 70]⟩
theorem index_dig (k : Nat) (hk : k < 16) (w : World) : (Instr.index 9 (.string ⟨#[48, 49, 50, 51, 52, 53, 54, 55, 56, 57, 97, 66, 99, 68, 101, 70]⟩) (.int .u8 k)).run Tryd.prog w = .ok (.int .u8 (Sc.digs.getD k 0).toNat) w := by
  obtain rfl | rfl | rfl | rfl | rfl | rfl | rfl | rfl | rfl | rfl | rfl | rfl | rfl | rfl | rfl | rfl : k = 0 ∨ k = 1 ∨ k = 2 ∨ k = 3 ∨ k = 4 ∨ k = 5 ∨ k = 6 ∨ k = 7 ∨ k = 8 ∨ k = 9 ∨ k = 10 ∨ k = 11 ∨ k = 12 ∨ k = 13 ∨ k = 14 ∨ k = 15 := by omega
  · kernel_rfl
  · kernel_rfl
  · kernel_rfl
  · kernel_rfl
  · kernel_rfl
  · kernel_rfl
  · kernel_rfl
  · kernel_rfl
  · kernel_rfl
  · kernel_rfl
  · kernel_rfl
  · kernel_rfl
  · kernel_rfl
  · kernel_rfl
  · kernel_rfl
  · kernel_rfl

theorem byt_cat (a b : ByteArray) : byt (a ++ b) = byt a ++ byt b := Joins.data_append a b
theorem dig_get (k : Nat) (hk : k < 16) : digB[k]'hk = Sc.digs.getD k 0 := by
  have h : ∀ i : Fin 16, digB[i.val]'i.isLt = Sc.digs.getD i.val 0 := by decide
  exact h ⟨k, hk⟩

theorem esc_snoc (q : UInt8) (tx : List UInt8) (k : Nat) (hk : k < tx.length) (ch : UInt8) (hc : ch = tx[k]) (q1 q2 : Nat) (h1 : q1 = ch.toNat / 16) (h2 : q2 = ch.toNat % 16) (d1 d2 : UInt8) (hd1 : d1 = Sc.digs.getD q1 0) (hd2 : d2 = Sc.digs.getD q2 0) :
    (q :: Sc.esc (tx.take k)) ++ [92, 120, d1, d2] = q :: Sc.esc (tx.take (k + 1)) := by
  rw [List.take_succ_eq_append_getElem hk, ← hc]
  have : Sc.esc (tx.take k ++ [ch]) = Sc.esc (tx.take k) ++ Sc.esc [ch] := by simp [Sc.esc]
  rw [this, Sc.esc_cons, hd1, hd2, h1, h2]
  rfl

set_option maxHeartbeats 2000000 in
set_option maxRecDepth 100000 in
theorem spelt_quoted (K : Int) (q : UInt8) (hK : K = 2 ∧ q = 39 ∨ K = 4 ∧ q = 34) (tx : List UInt8) (tp : Nat) (w : World) (hl : tx.length ≤ 1000) :
    Calls Tryd.prog 7 #[.agg #[.int .u8 K, .string (str tx), .int .i64 tp]] w fun e w' => e = .returned (.string (str (q :: (Sc.esc tx ++ [q])))) ∧ Upd [] w w' := by
  have ss : (str tx).size = tx.length := str_size tx
  obtain ⟨B, hB⟩ : ∃ B, B = w.alloc (.cells #[.int .u8 K, .string (str tx), .int .i64 tp] 31) := ⟨_, rfl⟩
  have hBB : Blk B w.heap.size #[.int .u8 K, .string (str tx), .int .i64 tp] 31 := by rw [hB]; exact Blk.new _ _ _
  have hUB : Upd [] w B := by rw [hB]; exact (Upd.refl [] w).alloc _
  have HB : Hid (B = w.alloc (.cells #[.int .u8 K, .string (str tx), .int .i64 tp] 31)) := hB
  clear hB
  obtain ⟨v0, w0, hcv, hR0, hU0⟩ := conv_row B [q] (by simp)
  have hB0 := hBB.mono hU0 (by simp)
  have hU00 := hUB.trans hU0
  rw [HB.out] at hcv
  have hq : (str [q]) = ⟨#[q]⟩ := rfl
  rw [hq] at hcv
  obtain ⟨a0, c0, rfl⟩ := hR0.form
  have hsB := hUB.size
  have hszB : B.heap.size = w.heap.size + 1 := by rw [HB.out]; simp
  rw [hszB] at hR0
  clear HB hBB hUB hU0 hq hszB hsB
  have hll : ([q] : List UInt8).length = 1 := rfl
  rw [hll] at hcv
  rcases hK with ⟨rfl, rfl⟩ | ⟨rfl, rfl⟩
  · go_enter Tryd.func7, Tryd.ntmps7
    go_wp2_with fail
    go_loopw [4, 5, 6] (fun v i _ wr => ∃ (k : Nat) (a : Option Addr) (c : Nat), k ≤ tx.length ∧ i = .int .i64 k ∧ v = .slice a (39 :: Sc.esc (tx.take k)).length c ∧ Row8 wr (w.heap.size + 1) v (39 :: Sc.esc (tx.take k)) ∧ Blk wr w.heap.size #[.int .u8 2, .string (str tx), .int .i64 tp] 31 ∧ Upd [] w wr) (fun _ i _ _ => tx.length - (intOf i).toNat)
    case atStart => exact ⟨0, a0, c0, Nat.zero_le _, rfl, rfl, hR0, hB0, hU00⟩
    case round =>
      obtain ⟨k, a, c, hk, rfl, rfl, hR, hBk, hU⟩ := hrel
      have x1 : wr.cell? ⟨w.heap.size, 1, none⟩ = some (.string (str tx)) := hBk.cell 1
      by_cases hlt : k < tx.length
      · have i1 : (k : Int) < (tx.length : Int) := by omega
        have i2 : k < (str tx).size := by omega
        go_wp2_with fail
        obtain ⟨ch, hch⟩ : ∃ ch, ch = (str tx)[k]'i2 := ⟨_, rfl⟩
        have HCH : Hid (ch = tx[k]) := hch
        rw [← hch]
        clear hch
        have hc8 : ch.toNat < 256 := ch.toNat_lt
        obtain ⟨q1, hq1⟩ : ∃ q, q = ch.toNat / 16 := ⟨_, rfl⟩
        obtain ⟨q2, hq2⟩ : ∃ q, q = ch.toNat % 16 := ⟨_, rfl⟩
        have r1 : IntKind.u8.wrap ((ch.toNat : Int) / 16) = (q1 : Int) := by simp only [IntKind.wrap_u8]; omega
        have r2 : (ch.toNat : Int).tmod 16 = (q2 : Int) := by rw [Int.tmod_eq_emod_of_nonneg (by omega)]; omega
        have b1 : q1 < 16 := by omega
        have b2 : q2 < 16 := by omega
        have b1i : (q1 : Int) < 16 := by omega
        have b2i : (q2 : Int) < 16 := by omega
        have HQ1 : Hid (q1 = ch.toNat / 16) := hq1
        have HQ2 : Hid (q2 = ch.toNat % 16) := hq2
        clear hq1 hq2 hc8
        obtain ⟨D, hD⟩ : ∃ D, D = 39 :: Sc.esc (tx.take k) := ⟨_, rfl⟩
        have HDD : Hid (D = 39 :: Sc.esc (tx.take k)) := hD
        have hDl : D.length ≤ 4001 := by rw [hD, List.length_cons, Sc.esc_len, List.length_take]; omega
        rw [← hD] at hR ⊢
        clear hD
        have HR : Hid (Row8 wr (w.heap.size + 1) (.slice a D.length c) D) := hR
        have HBk : Hid (Blk wr w.heap.size #[.int .u8 2, .string (str tx), .int .i64 tp] 31) := hBk
        have HU : Hid (Upd [] w wr) := hU
        have hsz := hBk.lt
        clear hR hBk hU
        go_region_held3 (fun _ => True)
          (exact trivial)
          (first
            | (refine step_append8 rfl _ _ rfl (w.heap.size + 1) (.slice a D.length c) D [92, 120, digB[q1]'b1, digB[q2]'b2] rfl ?_ ⟨wr.heap.size, 0, none⟩ 4 4 rfl rfl ?_ ?_ ?_ ?_ ?_
               · (exact Row8.upd HR.out (by repeat (first | refine Upd.drew ?_ | refine Upd.alloc ?_ _ | exact Upd.refl _ _)))
               · (exact World.news_of_block (heap_alloc_new wr _))
               · (show D.length + 4 ≤ 1000000; omega)
               · (show 0 < 4; decide)
               · (first | (simp; done) | (simp; omega))
               intro v' w5 hown hgrow
               have HO5 : Hid (Row8 w5 (w.heap.size + 1) v' (D ++ [92, 120, digB[q1]'b1, digB[q2]'b2])) := hown
               have hB5 := Row8.blk HR.out (by repeat (first | refine Upd.drew ?_ | refine Upd.alloc ?_ _ | exact HU.out | exact Upd.refl _ _)) hgrow HBk.out (Nat.lt_succ_self _)
               have hU5 := Row8.grown (w0 := w) (S := []) HR.out (by repeat (first | refine Upd.drew ?_ | refine Upd.alloc ?_ _ | exact HU.out | exact Upd.refl _ _)) hgrow (Nat.le_succ _)
               have HB5 : Hid (Blk w5 w.heap.size #[.int .u8 2, .string (str tx), .int .i64 tp] 31) := hB5
               have HU5 : Hid (Upd [] w w5) := hU5
               clear hB5 hU5
               clear hown hgrow))
        all_goals
         obtain ⟨a5, c5, hv5⟩ := HO5.out.form
         subst hv5
         have e5 : D ++ [92, 120, digB[q1]'b1, digB[q2]'b2] = 39 :: Sc.esc (tx.take (k + 1)) := by
           rw [HDD.out]; exact esc_snoc 39 tx k hlt ch HCH.out q1 q2 HQ1.out HQ2.out _ _ (dig_get q1 b1) (dig_get q2 b2)
         rw [e5] at HO5 ⊢
         go_wp2
         go_roundw
         case rel => exact ⟨k + 1, a5, c5, by omega, by go_num, rfl, HO5.out, HB5.out, HU5.out⟩
         case measure => simp [intOf]; omega
      · have hd : decide ((k : Int) < (tx.length : Int)) = false := by simp; omega
        have ek : tx.take k = tx := List.take_of_length_le (by omega)
        rw [ek] at hR ⊢
        obtain ⟨D, hD⟩ : ∃ D, D = 39 :: Sc.esc tx := ⟨_, rfl⟩
        have HDD : Hid (D = 39 :: Sc.esc tx) := hD
        have hsD : (str D).size ≤ 4001 := by rw [str_size, hD, List.length_cons, Sc.esc_len]; omega
        rw [← hD] at hR ⊢
        clear hD
        have hcv2 := hR.conv
        have HU : Hid (Upd [] w wr) := hU
        clear hR hBk hU
        go_wp2
        go_ret
        refine ⟨?_, HU.out⟩
        have e9 : str D ++ ⟨#[39]⟩ = str (39 :: (Sc.esc tx ++ [39])) := by
          apply str_eq
          rw [byt_cat, byt_str, HDD.out]; rfl
        rw [← e9]
        rfl
  · go_enter Tryd.func7, Tryd.ntmps7
    go_wp2_with fail
    go_loopw [4, 5, 6] (fun v i _ wr => ∃ (k : Nat) (a : Option Addr) (c : Nat), k ≤ tx.length ∧ i = .int .i64 k ∧ v = .slice a (34 :: Sc.esc (tx.take k)).length c ∧ Row8 wr (w.heap.size + 1) v (34 :: Sc.esc (tx.take k)) ∧ Blk wr w.heap.size #[.int .u8 4, .string (str tx), .int .i64 tp] 31 ∧ Upd [] w wr) (fun _ i _ _ => tx.length - (intOf i).toNat)
    case atStart => exact ⟨0, a0, c0, Nat.zero_le _, rfl, rfl, hR0, hB0, hU00⟩
    case round =>
      obtain ⟨k, a, c, hk, rfl, rfl, hR, hBk, hU⟩ := hrel
      have x1 : wr.cell? ⟨w.heap.size, 1, none⟩ = some (.string (str tx)) := hBk.cell 1
      by_cases hlt : k < tx.length
      · have i1 : (k : Int) < (tx.length : Int) := by omega
        have i2 : k < (str tx).size := by omega
        go_wp2_with fail
        obtain ⟨ch, hch⟩ : ∃ ch, ch = (str tx)[k]'i2 := ⟨_, rfl⟩
        have HCH : Hid (ch = tx[k]) := hch
        rw [← hch]
        clear hch
        have hc8 : ch.toNat < 256 := ch.toNat_lt
        obtain ⟨q1, hq1⟩ : ∃ q, q = ch.toNat / 16 := ⟨_, rfl⟩
        obtain ⟨q2, hq2⟩ : ∃ q, q = ch.toNat % 16 := ⟨_, rfl⟩
        have r1 : IntKind.u8.wrap ((ch.toNat : Int) / 16) = (q1 : Int) := by simp only [IntKind.wrap_u8]; omega
        have r2 : (ch.toNat : Int).tmod 16 = (q2 : Int) := by rw [Int.tmod_eq_emod_of_nonneg (by omega)]; omega
        have b1 : q1 < 16 := by omega
        have b2 : q2 < 16 := by omega
        have b1i : (q1 : Int) < 16 := by omega
        have b2i : (q2 : Int) < 16 := by omega
        have HQ1 : Hid (q1 = ch.toNat / 16) := hq1
        have HQ2 : Hid (q2 = ch.toNat % 16) := hq2
        clear hq1 hq2 hc8
        obtain ⟨D, hD⟩ : ∃ D, D = 34 :: Sc.esc (tx.take k) := ⟨_, rfl⟩
        have HDD : Hid (D = 34 :: Sc.esc (tx.take k)) := hD
        have hDl : D.length ≤ 4001 := by rw [hD, List.length_cons, Sc.esc_len, List.length_take]; omega
        rw [← hD] at hR ⊢
        clear hD
        have HR : Hid (Row8 wr (w.heap.size + 1) (.slice a D.length c) D) := hR
        have HBk : Hid (Blk wr w.heap.size #[.int .u8 4, .string (str tx), .int .i64 tp] 31) := hBk
        have HU : Hid (Upd [] w wr) := hU
        have hsz := hBk.lt
        clear hR hBk hU
        go_region_held3 (fun _ => True)
          (exact trivial)
          (first
            | (refine step_append8 rfl _ _ rfl (w.heap.size + 1) (.slice a D.length c) D [92, 120, digB[q1]'b1, digB[q2]'b2] rfl ?_ ⟨wr.heap.size, 0, none⟩ 4 4 rfl rfl ?_ ?_ ?_ ?_ ?_
               · (exact Row8.upd HR.out (by repeat (first | refine Upd.drew ?_ | refine Upd.alloc ?_ _ | exact Upd.refl _ _)))
               · (exact World.news_of_block (heap_alloc_new wr _))
               · (show D.length + 4 ≤ 1000000; omega)
               · (show 0 < 4; decide)
               · (first | (simp; done) | (simp; omega))
               intro v' w5 hown hgrow
               have HO5 : Hid (Row8 w5 (w.heap.size + 1) v' (D ++ [92, 120, digB[q1]'b1, digB[q2]'b2])) := hown
               have hB5 := Row8.blk HR.out (by repeat (first | refine Upd.drew ?_ | refine Upd.alloc ?_ _ | exact HU.out | exact Upd.refl _ _)) hgrow HBk.out (Nat.lt_succ_self _)
               have hU5 := Row8.grown (w0 := w) (S := []) HR.out (by repeat (first | refine Upd.drew ?_ | refine Upd.alloc ?_ _ | exact HU.out | exact Upd.refl _ _)) hgrow (Nat.le_succ _)
               have HB5 : Hid (Blk w5 w.heap.size #[.int .u8 4, .string (str tx), .int .i64 tp] 31) := hB5
               have HU5 : Hid (Upd [] w w5) := hU5
               clear hB5 hU5
               clear hown hgrow))
        all_goals
         obtain ⟨a5, c5, hv5⟩ := HO5.out.form
         subst hv5
         have e5 : D ++ [92, 120, digB[q1]'b1, digB[q2]'b2] = 34 :: Sc.esc (tx.take (k + 1)) := by
           rw [HDD.out]; exact esc_snoc 34 tx k hlt ch HCH.out q1 q2 HQ1.out HQ2.out _ _ (dig_get q1 b1) (dig_get q2 b2)
         rw [e5] at HO5 ⊢
         go_wp2
         go_roundw
         case rel => exact ⟨k + 1, a5, c5, by omega, by go_num, rfl, HO5.out, HB5.out, HU5.out⟩
         case measure => simp [intOf]; omega
      · have hd : decide ((k : Int) < (tx.length : Int)) = false := by simp; omega
        have ek : tx.take k = tx := List.take_of_length_le (by omega)
        rw [ek] at hR ⊢
        obtain ⟨D, hD⟩ : ∃ D, D = 34 :: Sc.esc tx := ⟨_, rfl⟩
        have HDD : Hid (D = 34 :: Sc.esc tx) := hD
        have hsD : (str D).size ≤ 4001 := by rw [str_size, hD, List.length_cons, Sc.esc_len]; omega
        rw [← hD] at hR ⊢
        clear hD
        have hcv2 := hR.conv
        have HU : Hid (Upd [] w wr) := hU
        clear hR hBk hU
        go_wp2
        go_ret
        refine ⟨?_, HU.out⟩
        have e9 : str D ++ ⟨#[34]⟩ = str (34 :: (Sc.esc tx ++ [34])) := by
          apply str_eq
          rw [byt_cat, byt_str, HDD.out]; rfl
        rw [← e9]
        rfl

/-- A token, written. -/
theorem spelt_any (k : Nat) (tx : List UInt8) (p : Nat) (w : World) (hl : tx.length ≤ 1000) :
    Calls Tryd.prog 7 #[.agg #[.int .u8 k, .string (str tx), .int .i64 p]] w fun e w' => e = .returned (.string (str (Sc.spelt k tx))) ∧ Upd [] w w' := by
  by_cases h2 : k = 2
  · subst h2
    exact spelt_quoted 2 39 (Or.inl ⟨rfl, rfl⟩) tx p w hl
  · by_cases h4 : k = 4
    · subst h4
      exact spelt_quoted 4 34 (Or.inr ⟨rfl, rfl⟩) tx p w hl
    · exact spelt_plain ⟨k, tx, p⟩ w h2 h4

end Go.Proofs.YtfejdflbilakoaaDoor
