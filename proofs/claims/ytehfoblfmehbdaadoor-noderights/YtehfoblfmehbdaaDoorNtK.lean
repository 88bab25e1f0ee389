/- The reference's Item of the kinds 12 and 13, and of no kind. -/
import Derived.Test.YtehfoblfmehbdaaDoorNtH
import Derived.Test.YtehfoblfmehbdaaDoorJAM
namespace Go.Proofs.YtehfoblfmehbdaaDoor
open Go.RowKit

set_option maxHeartbeats 2000000 in
set_option maxRecDepth 100000 in
theorem it_neg (w : World) (v : Value) (k : Int) (s : ByteArray) (num pos : Int) (hpos : pos < 0) :
    Calls Tryd.prog 25 #[.agg #[.int .u8 k, .string s, .int .i64 num, .int .i64 pos, v]] w fun e w' => e = .returned (.bool false) ∧ Upd [] w w' := by
  have HU0 : Hid (Upd [] w (w.alloc (.cells #[.int .u8 k, .string s, .int .i64 num, .int .i64 pos, v] 25))) := (Upd.refl [] w).alloc _
  go_enter Tryd.func25, Tryd.ntmps25
  go_wp2
  go_ret
  exact ⟨rfl, HU0.out⟩
set_option maxHeartbeats 2000000 in
set_option maxRecDepth 100000 in
theorem it_no (w : World) (a : Option Addr) (n c : Nat) (k : Int) (s : ByteArray) (num pos : Int) (_hl : n ≤ 20000) (hpos : decide (pos < 0) = false) (h1 : (k == 1) = false) (h2 : (k == 2) = false) (h3 : (k == 3) = false) (h4 : (k == 4) = false) (h5 : (k == 5) = false) (h6 : (k == 6) = false) (h7 : (k == 7) = false) (h8 : (k == 8) = false) (h9 : (k == 9) = false) (h10 : (k == 10) = false) (h11 : (k == 11) = false) (h12 : (k == 12) = false) (h13 : (k == 13) = false) (h14 : (k == 14) = false) (h16 : (k == 16) = false) (h17 : (k == 17) = false) (h19 : (k == 19) = false) :
    Calls Tryd.prog 25 #[.agg #[.int .u8 k, .string s, .int .i64 num, .int .i64 pos, .slice a n c]] w fun e w' => e = .returned (.bool false) ∧ Upd [] w w' := by
  have HU0 : Hid (Upd [] w (w.alloc (.cells #[.int .u8 k, .string s, .int .i64 num, .int .i64 pos, .slice a n c] 25))) := (Upd.refl [] w).alloc _
  cases h_e : s.toList.isEmpty with
  | false =>
    go_enter Tryd.func25, Tryd.ntmps25
    go_wp2
    go_ret
    exact ⟨rfl, HU0.out⟩
  | true =>
    cases h_n : (num == 0) with
    | false =>
      go_enter Tryd.func25, Tryd.ntmps25
      go_wp2
      go_ret
      exact ⟨rfl, HU0.out⟩
    | true =>
      go_enter Tryd.func25, Tryd.ntmps25
      go_wp2
      go_ret
      exact ⟨rfl, HU0.out⟩
set_option maxHeartbeats 2000000 in
set_option maxRecDepth 100000 in
theorem it_13 (d : Nat) (ih : ItS d) (w : World) (a : Option Addr) (c : Nat) (s : ByteArray) (num pos : Int) (K : List Nd) (hK : RowN (NIn w d) w a K) (hz : nszs K ≤ 20000) (hx : nxzs K ≤ 1000000) (hpos : decide (pos < 0) = false) :
    Calls Tryd.prog 25 #[.agg #[.int .u8 13, .string s, .int .i64 num, .int .i64 pos, .slice a K.length c]] w fun e w' => e = .returned (.bool ((s.toList.isEmpty && (num == 0)) && ((allF (clB 0) 0 K && decide (0 < K.length)) && K.all gdK))) ∧ Upd [] w w' := by
  have hl : K.length ≤ 20000 := Nat.le_trans (nszs_len K) hz
  have HU0 : Hid (Upd [] w (w.alloc (.cells #[.int .u8 13, .string s, .int .i64 num, .int .i64 pos, .slice a K.length c] 25))) := (Upd.refl [] w).alloc _
  have tb0 : Tb (w.alloc (.cells #[.int .u8 13, .string s, .int .i64 num, .int .i64 pos, .slice a K.length c] 25)) w.heap.size #[.int .u8 13, .string s, .int .i64 num, .int .i64 pos, .slice a K.length c] := Tb.new _ _ _ rfl
  have HC : Hid (∀ W, Upd [] w W → Calls Tryd.prog 51 #[.slice a K.length c, .int .i64 0, .int .i64 0] W fun e w' => e = .returned (.bool (allF (clB 0) 0 K && decide (0 < K.length))) ∧ Upd [] W w') := fun W hu => rclauses d ih W a c 0 0 K (by omega) (hK.imp hu (NIn.mono hu d)) hz hx
  have HG : Hid ((allF (clB 0) 0 K && decide (0 < K.length)) = true → ∀ W, Upd [] w W → Calls Tryd.prog 52 #[.slice a K.length c] W fun e w' => e = .returned (.bool (K.all gdK)) ∧ Upd [] W w') := fun h W hu => rguarded d W a c K (hK.imp hu (NIn.mono hu d)) hz 0 (fun t ht => by
    rw [Bool.and_eq_true, allF, List.drop_zero, List.all_eq_true] at h
    exact h.1 t ht)
  generalize (allF (clB 0) 0 K && decide (0 < K.length)) = z1 at HC HG ⊢
  generalize K.all gdK = z2 at HG ⊢
  clear hK hz hx ih
  cases h_e : s.toList.isEmpty with
  | false =>
    go_enter Tryd.func25, Tryd.ntmps25
    go_wp2
    go_ret
    exact ⟨rfl, HU0.out⟩
  | true =>
    cases h_n : (num == 0) with
    | false =>
      go_enter Tryd.func25, Tryd.ntmps25
      go_wp2
      go_ret
      exact ⟨rfl, HU0.out⟩
    | true =>
      go_enter Tryd.func25, Tryd.ntmps25
      go_wp2_with fail
      refine (HC.out _ HU0.out).mono ?_
      rintro e w1 ⟨rfl, hu⟩
      have HU1 : Hid (Upd [] w w1) := HU0.out.trans hu
      have e4 : w1.cell? ⟨w.heap.size, 4, none⟩ = some (.slice a K.length c) := (tb0.mono hu (by simp)).cell 4
      clear hu tb0 HC
      cases z1 with
      | false =>
        go_wp2
        go_ret
        exact ⟨rfl, HU1.out⟩
      | true =>
        have HG2 : Hid (∀ W, Upd [] w W → Calls Tryd.prog 52 #[.slice a K.length c] W fun e w' => e = .returned (.bool z2) ∧ Upd [] W w') := HG.out rfl
        clear HG
        go_wp2_with fail
        refine (HG2.out _ HU1.out).mono ?_
        rintro e w2 ⟨rfl, hu⟩
        have HU2 : Hid (Upd [] w w2) := HU1.out.trans hu
        clear hu e4 HG2
        cases z2 <;> (go_wp2; go_ret; exact ⟨rfl, HU2.out⟩)
def hd0 : List Nd → Bool
  | [] => false
  | x :: _ => isB 0 x
set_option maxHeartbeats 2000000 in
set_option maxRecDepth 100000 in
theorem it_12 (d : Nat) (ih : ItS d) (w : World) (a : Option Addr) (c : Nat) (s : ByteArray) (num pos : Int) (K : List Nd) (hK : RowN (NIn w d) w a K) (hz : nszs K ≤ 20000) (hx : nxzs K ≤ 1000000) (hpos : decide (pos < 0) = false) :
    Calls Tryd.prog 25 #[.agg #[.int .u8 12, .string s, .int .i64 num, .int .i64 pos, .slice a K.length c]] w fun e w' => e = .returned (.bool ((s.toList.isEmpty && (num == 0)) && (hd0 K && (allF (clB 1) 1 K && decide (1 < K.length))))) ∧ Upd [] w w' := by
  have hl : K.length ≤ 20000 := Nat.le_trans (nszs_len K) hz
  have HU0 : Hid (Upd [] w (w.alloc (.cells #[.int .u8 12, .string s, .int .i64 num, .int .i64 pos, .slice a K.length c] 25))) := (Upd.refl [] w).alloc _
  have tb0 : Tb (w.alloc (.cells #[.int .u8 12, .string s, .int .i64 num, .int .i64 pos, .slice a K.length c] 25)) w.heap.size #[.int .u8 12, .string s, .int .i64 num, .int .i64 pos, .slice a K.length c] := Tb.new _ _ _ rfl
  have HC : Hid (∀ W, Upd [] w W → Calls Tryd.prog 51 #[.slice a K.length c, .int .i64 1, .int .i64 1] W fun e w' => e = .returned (.bool (allF (clB 1) 1 K && decide (1 < K.length))) ∧ Upd [] W w') := fun W hu => rclauses d ih W a c 1 1 K (by omega) (hK.imp hu (NIn.mono hu d)) hz hx
  generalize (allF (clB 1) 1 K && decide (1 < K.length)) = z1 at HC ⊢
  cases h_e : s.toList.isEmpty with
  | false =>
    clear hK HC tb0
    go_enter Tryd.func25, Tryd.ntmps25
    go_wp2
    go_ret
    exact ⟨rfl, HU0.out⟩
  | true =>
    cases h_n : (num == 0) with
    | false =>
      clear hK HC tb0
      go_enter Tryd.func25, Tryd.ntmps25
      go_wp2
      go_ret
      exact ⟨rfl, HU0.out⟩
    | true =>
      cases K with
      | nil =>
        clear hK HC tb0
        go_enter Tryd.func25, Tryd.ntmps25
        go_wp2
        go_ret
        exact ⟨rfl, HU0.out⟩
      | cons x r =>
        obtain ⟨b, o, rfl, hb, q0, q1, q2, q3, q4, nx, hcell⟩ := row_one hK
        have HI : Hid (∀ W, Upd [] w W → Calls Tryd.prog 25 #[.agg #[q0, q1, q2, q3, q4]] W fun e w' => e = .returned (.bool (isB 0 x)) ∧ Upd [] W w') := fun W hu => ih W _ x (NIn.mono hu _ _ _ nx) (Nat.le_trans (nszs_get (x :: r) 0 (by simp)) hz) (Nat.le_trans (nxzs_get (x :: r) 0 (by simp)) hx)
        have hd : hd0 (x :: r) = isB 0 x := rfl
        rw [hd]
        generalize isB 0 x = z0 at HI ⊢
        have hl1 : (1 : Int) ≤ ((x :: r).length : Int) := by simp; omega
        have hl0 : (0 : Int) < ((x :: r).length : Int) := by omega
        generalize (x :: r).length = m at HC HU0 tb0 hl hl1 hl0 ⊢
        have u0 := HU0.out
        have x0 : (w.alloc (.cells #[.int .u8 12, .string s, .int .i64 num, .int .i64 pos, .slice (some ⟨b, o, none⟩) m c] 25)).cell? ⟨b, o, none⟩ = some q0 := (u0.cell (p := ⟨b, o + 0, none⟩) hb (by simp)).trans (hcell 0 (by omega))
        have x1 : (w.alloc (.cells #[.int .u8 12, .string s, .int .i64 num, .int .i64 pos, .slice (some ⟨b, o, none⟩) m c] 25)).cell? ⟨b, o + 1, none⟩ = some q1 := (u0.cell (p := ⟨b, o + 1, none⟩) hb (by simp)).trans (hcell 1 (by omega))
        have x2 : (w.alloc (.cells #[.int .u8 12, .string s, .int .i64 num, .int .i64 pos, .slice (some ⟨b, o, none⟩) m c] 25)).cell? ⟨b, o + 2, none⟩ = some q2 := (u0.cell (p := ⟨b, o + 2, none⟩) hb (by simp)).trans (hcell 2 (by omega))
        have x3 : (w.alloc (.cells #[.int .u8 12, .string s, .int .i64 num, .int .i64 pos, .slice (some ⟨b, o, none⟩) m c] 25)).cell? ⟨b, o + 3, none⟩ = some q3 := (u0.cell (p := ⟨b, o + 3, none⟩) hb (by simp)).trans (hcell 3 (by omega))
        have x4 : (w.alloc (.cells #[.int .u8 12, .string s, .int .i64 num, .int .i64 pos, .slice (some ⟨b, o, none⟩) m c] 25)).cell? ⟨b, o + 4, none⟩ = some q4 := (u0.cell (p := ⟨b, o + 4, none⟩) hb (by simp)).trans (hcell 4 (by omega))
        clear hK hz hx ih hcell nx hb u0 hd
        go_enter Tryd.func25, Tryd.ntmps25
        go_wp2_with fail
        refine (HI.out _ HU0.out).mono ?_
        rintro e w1 ⟨rfl, hu⟩
        have HU1 : Hid (Upd [] w w1) := HU0.out.trans hu
        have e4 : w1.cell? ⟨w.heap.size, 4, none⟩ = some (.slice (some ⟨b, o, none⟩) m c) := (tb0.mono hu (by simp)).cell 4
        clear hu tb0 HI x0 x1 x2 x3 x4
        cases z0 with
        | false =>
          go_wp2
          go_ret
          exact ⟨rfl, HU1.out⟩
        | true =>
          go_wp2_with fail
          refine (HC.out _ HU1.out).mono ?_
          rintro e w2 ⟨rfl, hu⟩
          have HU2 : Hid (Upd [] w w2) := HU1.out.trans hu
          clear hu e4 HC
          cases z1 <;> (go_wp2; go_ret; exact ⟨rfl, HU2.out⟩)

end Go.Proofs.YtehfoblfmehbdaaDoor
