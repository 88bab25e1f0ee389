/- Does a tree name a function: calls. -/
import Derived.Test.YtpgjcedonimgnaaDoorJAS
namespace Go.Proofs.YtpgjcedonimgnaaDoor
open Go.RowKit

def CalS (s : ByteArray) (n : Int) (d : Nat) : Prop := ∀ (w : World) (cs : List Value) (t : Nd), NIn w d cs t → nsz t ≤ 2199023255488 → Calls Tryd.prog 15 #[.agg cs.toArray, .string s, .int .i64 n] w fun e w' => e = .returned (.bool (calB s n t)) ∧ Upd [] w w'
theorem calBs_at (s : ByteArray) (n : Int) (K : List Nd) (q : Nat) (hq : q < K.length) : calBs s n (K.drop q) = (calB s n K[q] || calBs s n (K.drop (q + 1))) := by
  rw [List.drop_eq_getElem_cons hq, calBs]
theorem bytes_lF {s t : ByteArray} (h : s ≠ t) : (s.toList == t.toList) = false := by
  cases hb : s.toList == t.toList with
  | false => rfl
  | true => exact absurd (bytes_of (eq_of_beq hb)) h

set_option maxHeartbeats 4000000 in
set_option maxRecDepth 100000 in
theorem ca_hit (d : Nat) (s : ByteArray) (n : Int) (hn : 0 ≤ n ∧ n ≤ 4611686018427387904) (IH : Hid (CalS s n d)) (w : World) (num pos : Int) (tx : ByteArray) (K : List Nd) (a : Option Addr) (c : Nat) (_HR : Hid (RowN (NIn w d) w a K)) (_hs0 : K.length ≤ 2199023255488) (_HS : Hid (∀ i (hi : i < K.length), nsz K[i] ≤ 2199023255488)) (hx : tx = s) (hm : num = n) :
    Calls Tryd.prog 15 #[.agg #[.int .u8 11, .string tx, .int .i64 num, .int .i64 pos, .slice a K.length c], .string s, .int .i64 n] w fun e w' => e = .returned (.bool true) ∧ Upd [] w w' := by
  have U1 : Hid (Upd [] w (w.alloc (.cells #[.int .u8 11, .string tx, .int .i64 num, .int .i64 pos, .slice a K.length c] 29))) := (Upd.refl [] w).alloc _
  have tN : Hid (Tb (w.alloc (.cells #[.int .u8 11, .string tx, .int .i64 num, .int .i64 pos, .slice a K.length c] 29)) w.heap.size #[.int .u8 11, .string tx, .int .i64 num, .int .i64 pos, .slice a K.length c]) := Tb.new _ _ _ rfl
  have hx2 := hx.symm
  subst hx2
  subst hm
  clear hx
  go_enter Tryd.func15, Tryd.ntmps15
  go_wp2_with fail
  go_ret
  exact ⟨rfl, U1.out⟩

set_option maxHeartbeats 4000000 in
set_option maxRecDepth 100000 in
theorem ca_num (d : Nat) (s : ByteArray) (n : Int) (_hn : 0 ≤ n ∧ n ≤ 4611686018427387904) (IH : Hid (CalS s n d)) (w : World) (num pos : Int) (tx : ByteArray) (K : List Nd) (a : Option Addr) (c : Nat) (HR : Hid (RowN (NIn w d) w a K)) (hs0 : K.length ≤ 2199023255488) (HS : Hid (∀ i (hi : i < K.length), nsz K[i] ≤ 2199023255488)) (hx : tx = s) (hm : num ≠ n) :
    Calls Tryd.prog 15 #[.agg #[.int .u8 11, .string tx, .int .i64 num, .int .i64 pos, .slice a K.length c], .string s, .int .i64 n] w fun e w' => e = .returned (.bool (calBs s n K)) ∧ Upd [] w w' := by
  have U1 : Hid (Upd [] w (w.alloc (.cells #[.int .u8 11, .string tx, .int .i64 num, .int .i64 pos, .slice a K.length c] 29))) := (Upd.refl [] w).alloc _
  have tN : Hid (Tb (w.alloc (.cells #[.int .u8 11, .string tx, .int .i64 num, .int .i64 pos, .slice a K.length c] 29)) w.heap.size #[.int .u8 11, .string tx, .int .i64 num, .int .i64 pos, .slice a K.length c]) := Tb.new _ _ _ rfl
  have e1 : (tx == s) = true := by rw [hx]; exact bytes_eqT s
  have e1l : (tx.toList == s.toList) = true := by rw [hx]; simp
  have e1d : decide (tx = s) = true := decide_eq_true hx
  clear hx
  have e2 : (num == n) = false := by simp [hm]
  obtain ⟨R, hR⟩ : ∃ R, R = calBs s n K := ⟨_, rfl⟩
  rw [← hR]
  have HRR : Hid (R = calBs s n K) := hR
  clear hR
  go_enter Tryd.func15, Tryd.ntmps15
  go_wp2_with fail
  go_loopw [7] (fun i wr => ∃ (q : Nat), q ≤ K.length ∧ i = .int .i64 q ∧ Hid (calBs s n K = calBs s n (K.drop q)) ∧ Upd [] (w.alloc (.cells #[.int .u8 11, .string tx, .int .i64 num, .int .i64 pos, .slice a K.length c] 29)) wr) (fun i _ => K.length - (intOf i).toNat)
  case atStart => exact ⟨0, Nat.zero_le _, rfl, rfl, Upd.refl _ _⟩
  case round =>
    obtain ⟨q, hq, rfl, HP, hu⟩ := hrel
    have HU : Hid (Upd [] w wr) := U1.out.trans hu
    have z4 : wr.cell? ⟨w.heap.size, 4, none⟩ = some (.slice a K.length c) := (tN.out.mono hu (by simp)).cell 4
    have HUA : Hid (Upd [] (w.alloc (.cells #[.int .u8 11, .string tx, .int .i64 num, .int .i64 pos, .slice a K.length c] 29)) wr) := hu
    clear hu
    by_cases hlt : q < K.length
    · have i1 : (q : Int) < (K.length : Int) := by omega
      obtain ⟨b3, o3, hae, cs, hl5, hcell, hin⟩ := HR.out.atK q hlt
      subst hae
      have hin' := NIn.mono HU.out _ _ _ hin
      have hc5 : ∀ j, j < 5 → wr.cell? ⟨b3, o3 + (q * 5 + j), none⟩ = cs[j]? := fun j hj => by
        have := hcell j hj
        rw [List.getElem?_eq_getElem (by omega)] at this ⊢
        exact (HU.out.cell (cell_lt this) (by simp)).trans this
      obtain ⟨q0, q1, q2, q3, q4, rfl⟩ := list5 hl5
      have x0 : wr.cell? ⟨b3, o3 + q * 5, none⟩ = some q0 := hc5 0 (by omega)
      have x1 : wr.cell? ⟨b3, o3 + q * 5 + 1, none⟩ = some q1 := hc5 1 (by omega)
      have x2 : wr.cell? ⟨b3, o3 + q * 5 + 2, none⟩ = some q2 := hc5 2 (by omega)
      have x3 : wr.cell? ⟨b3, o3 + q * 5 + 3, none⟩ = some q3 := hc5 3 (by omega)
      have x4 : wr.cell? ⟨b3, o3 + q * 5 + 4, none⟩ = some q4 := hc5 4 (by omega)
      have HIN : Hid (NIn wr d [q0, q1, q2, q3, q4] K[q]) := hin'
      clear hc5 hcell hin hin'
      go_wp2_with fail
      refine Calls.mono (IH.out wr _ _ HIN.out (HS.out q hlt)) ?_
      rintro e w2 ⟨he, hu2⟩
      have U2 : Hid (Upd [] (w.alloc (.cells #[.int .u8 11, .string tx, .int .i64 num, .int .i64 pos, .slice (some ⟨b3, o3, none⟩) K.length c] 29)) w2) := HUA.out.trans hu2
      have HP2 := HP.out
      rw [calBs_at s n K q hlt] at HP2
      clear hu2 x0 x1 x2 x3 x4 z4 HIN
      cases hb : calB s n K[q] with
      | true =>
        rw [hb] at he HP2
        subst he
        have HP3 : Hid (R = true) := HRR.out.trans HP2
        have UU : Hid (Upd [] w w2) := U1.out.trans U2.out
        clear HP2 hb HP
        go_wp2_with fail
        go_ret
        exact ⟨by rw [HP3.out]; rfl, UU.out⟩
      | false =>
        rw [hb] at he HP2
        subst he
        have HP3 : Hid (calBs s n K = calBs s n (K.drop (q + 1))) := HP2
        clear HP2 hb HP
        go_wp2_with fail
        go_roundw
        case rel => exact ⟨q + 1, by omega, by go_num, HP3, U2.out⟩
        case measure => simp [intOf]; omega
    · have hd : decide ((q : Int) < (K.length : Int)) = false := by simp; omega
      have hqe : q = K.length := by omega
      have HP3 : Hid (R = false) := by
        have := HP.out
        rw [hqe, List.drop_length, calBs] at this
        exact HRR.out.trans this
      clear HP hqe
      go_wp2_with fail
      go_ret
      exact ⟨by rw [HP3.out]; rfl, HU.out⟩

set_option maxHeartbeats 4000000 in
set_option maxRecDepth 100000 in
theorem ca_txt (d : Nat) (s : ByteArray) (n : Int) (_hn : 0 ≤ n ∧ n ≤ 4611686018427387904) (IH : Hid (CalS s n d)) (w : World) (num pos : Int) (tx : ByteArray) (K : List Nd) (a : Option Addr) (c : Nat) (HR : Hid (RowN (NIn w d) w a K)) (hs0 : K.length ≤ 2199023255488) (HS : Hid (∀ i (hi : i < K.length), nsz K[i] ≤ 2199023255488)) (hx : tx ≠ s) :
    Calls Tryd.prog 15 #[.agg #[.int .u8 11, .string tx, .int .i64 num, .int .i64 pos, .slice a K.length c], .string s, .int .i64 n] w fun e w' => e = .returned (.bool (calBs s n K)) ∧ Upd [] w w' := by
  have U1 : Hid (Upd [] w (w.alloc (.cells #[.int .u8 11, .string tx, .int .i64 num, .int .i64 pos, .slice a K.length c] 29))) := (Upd.refl [] w).alloc _
  have tN : Hid (Tb (w.alloc (.cells #[.int .u8 11, .string tx, .int .i64 num, .int .i64 pos, .slice a K.length c] 29)) w.heap.size #[.int .u8 11, .string tx, .int .i64 num, .int .i64 pos, .slice a K.length c]) := Tb.new _ _ _ rfl
  have e1 : (tx == s) = false := bytes_eqF hx
  have e1l : (tx.toList == s.toList) = false := bytes_lF hx
  obtain ⟨R, hR⟩ : ∃ R, R = calBs s n K := ⟨_, rfl⟩
  rw [← hR]
  have HRR : Hid (R = calBs s n K) := hR
  clear hR
  go_enter Tryd.func15, Tryd.ntmps15
  go_wp2_with fail
  go_loopw [7] (fun i wr => ∃ (q : Nat), q ≤ K.length ∧ i = .int .i64 q ∧ Hid (calBs s n K = calBs s n (K.drop q)) ∧ Upd [] (w.alloc (.cells #[.int .u8 11, .string tx, .int .i64 num, .int .i64 pos, .slice a K.length c] 29)) wr) (fun i _ => K.length - (intOf i).toNat)
  case atStart => exact ⟨0, Nat.zero_le _, rfl, rfl, Upd.refl _ _⟩
  case round =>
    obtain ⟨q, hq, rfl, HP, hu⟩ := hrel
    have HU : Hid (Upd [] w wr) := U1.out.trans hu
    have z4 : wr.cell? ⟨w.heap.size, 4, none⟩ = some (.slice a K.length c) := (tN.out.mono hu (by simp)).cell 4
    have HUA : Hid (Upd [] (w.alloc (.cells #[.int .u8 11, .string tx, .int .i64 num, .int .i64 pos, .slice a K.length c] 29)) wr) := hu
    clear hu
    by_cases hlt : q < K.length
    · have i1 : (q : Int) < (K.length : Int) := by omega
      obtain ⟨b3, o3, hae, cs, hl5, hcell, hin⟩ := HR.out.atK q hlt
      subst hae
      have hin' := NIn.mono HU.out _ _ _ hin
      have hc5 : ∀ j, j < 5 → wr.cell? ⟨b3, o3 + (q * 5 + j), none⟩ = cs[j]? := fun j hj => by
        have := hcell j hj
        rw [List.getElem?_eq_getElem (by omega)] at this ⊢
        exact (HU.out.cell (cell_lt this) (by simp)).trans this
      obtain ⟨q0, q1, q2, q3, q4, rfl⟩ := list5 hl5
      have x0 : wr.cell? ⟨b3, o3 + q * 5, none⟩ = some q0 := hc5 0 (by omega)
      have x1 : wr.cell? ⟨b3, o3 + q * 5 + 1, none⟩ = some q1 := hc5 1 (by omega)
      have x2 : wr.cell? ⟨b3, o3 + q * 5 + 2, none⟩ = some q2 := hc5 2 (by omega)
      have x3 : wr.cell? ⟨b3, o3 + q * 5 + 3, none⟩ = some q3 := hc5 3 (by omega)
      have x4 : wr.cell? ⟨b3, o3 + q * 5 + 4, none⟩ = some q4 := hc5 4 (by omega)
      have HIN : Hid (NIn wr d [q0, q1, q2, q3, q4] K[q]) := hin'
      clear hc5 hcell hin hin'
      go_wp2_with fail
      refine Calls.mono (IH.out wr _ _ HIN.out (HS.out q hlt)) ?_
      rintro e w2 ⟨he, hu2⟩
      have U2 : Hid (Upd [] (w.alloc (.cells #[.int .u8 11, .string tx, .int .i64 num, .int .i64 pos, .slice (some ⟨b3, o3, none⟩) K.length c] 29)) w2) := HUA.out.trans hu2
      have HP2 := HP.out
      rw [calBs_at s n K q hlt] at HP2
      clear hu2 x0 x1 x2 x3 x4 z4 HIN
      cases hb : calB s n K[q] with
      | true =>
        rw [hb] at he HP2
        subst he
        have HP3 : Hid (R = true) := HRR.out.trans HP2
        have UU : Hid (Upd [] w w2) := U1.out.trans U2.out
        clear HP2 hb HP
        go_wp2_with fail
        go_ret
        exact ⟨by rw [HP3.out]; rfl, UU.out⟩
      | false =>
        rw [hb] at he HP2
        subst he
        have HP3 : Hid (calBs s n K = calBs s n (K.drop (q + 1))) := HP2
        clear HP2 hb HP
        go_wp2_with fail
        go_roundw
        case rel => exact ⟨q + 1, by omega, by go_num, HP3, U2.out⟩
        case measure => simp [intOf]; omega
    · have hd : decide ((q : Int) < (K.length : Int)) = false := by simp; omega
      have hqe : q = K.length := by omega
      have HP3 : Hid (R = false) := by
        have := HP.out
        rw [hqe, List.drop_length, calBs] at this
        exact HRR.out.trans this
      clear HP hqe
      go_wp2_with fail
      go_ret
      exact ⟨by rw [HP3.out]; rfl, HU.out⟩

set_option maxHeartbeats 4000000 in
set_option maxRecDepth 100000 in
theorem ca_oth (d : Nat) (s : ByteArray) (n : Int) (_hn : 0 ≤ n ∧ n ≤ 4611686018427387904) (IH : Hid (CalS s n d)) (w : World) (k : Int) (num pos : Int) (tx : ByteArray) (K : List Nd) (a : Option Addr) (c : Nat) (HR : Hid (RowN (NIn w d) w a K)) (hs0 : K.length ≤ 2199023255488) (HS : Hid (∀ i (hi : i < K.length), nsz K[i] ≤ 2199023255488)) (h11 : k ≠ 11) (h9 : k ≠ 9) :
    Calls Tryd.prog 15 #[.agg #[.int .u8 k, .string tx, .int .i64 num, .int .i64 pos, .slice a K.length c], .string s, .int .i64 n] w fun e w' => e = .returned (.bool (calBs s n K)) ∧ Upd [] w w' := by
  have U1 : Hid (Upd [] w (w.alloc (.cells #[.int .u8 k, .string tx, .int .i64 num, .int .i64 pos, .slice a K.length c] 29))) := (Upd.refl [] w).alloc _
  have tN : Hid (Tb (w.alloc (.cells #[.int .u8 k, .string tx, .int .i64 num, .int .i64 pos, .slice a K.length c] 29)) w.heap.size #[.int .u8 k, .string tx, .int .i64 num, .int .i64 pos, .slice a K.length c]) := Tb.new _ _ _ rfl
  have e1 : (k == 11) = false := by simp [h11]
  have e2 : (k == 9) = false := by simp [h9]
  obtain ⟨R, hR⟩ : ∃ R, R = calBs s n K := ⟨_, rfl⟩
  rw [← hR]
  have HRR : Hid (R = calBs s n K) := hR
  clear hR
  go_enter Tryd.func15, Tryd.ntmps15
  go_wp2_with fail
  go_loopw [7] (fun i wr => ∃ (q : Nat), q ≤ K.length ∧ i = .int .i64 q ∧ Hid (calBs s n K = calBs s n (K.drop q)) ∧ Upd [] (w.alloc (.cells #[.int .u8 k, .string tx, .int .i64 num, .int .i64 pos, .slice a K.length c] 29)) wr) (fun i _ => K.length - (intOf i).toNat)
  case atStart => exact ⟨0, Nat.zero_le _, rfl, rfl, Upd.refl _ _⟩
  case round =>
    obtain ⟨q, hq, rfl, HP, hu⟩ := hrel
    have HU : Hid (Upd [] w wr) := U1.out.trans hu
    have z4 : wr.cell? ⟨w.heap.size, 4, none⟩ = some (.slice a K.length c) := (tN.out.mono hu (by simp)).cell 4
    have HUA : Hid (Upd [] (w.alloc (.cells #[.int .u8 k, .string tx, .int .i64 num, .int .i64 pos, .slice a K.length c] 29)) wr) := hu
    clear hu
    by_cases hlt : q < K.length
    · have i1 : (q : Int) < (K.length : Int) := by omega
      obtain ⟨b3, o3, hae, cs, hl5, hcell, hin⟩ := HR.out.atK q hlt
      subst hae
      have hin' := NIn.mono HU.out _ _ _ hin
      have hc5 : ∀ j, j < 5 → wr.cell? ⟨b3, o3 + (q * 5 + j), none⟩ = cs[j]? := fun j hj => by
        have := hcell j hj
        rw [List.getElem?_eq_getElem (by omega)] at this ⊢
        exact (HU.out.cell (cell_lt this) (by simp)).trans this
      obtain ⟨q0, q1, q2, q3, q4, rfl⟩ := list5 hl5
      have x0 : wr.cell? ⟨b3, o3 + q * 5, none⟩ = some q0 := hc5 0 (by omega)
      have x1 : wr.cell? ⟨b3, o3 + q * 5 + 1, none⟩ = some q1 := hc5 1 (by omega)
      have x2 : wr.cell? ⟨b3, o3 + q * 5 + 2, none⟩ = some q2 := hc5 2 (by omega)
      have x3 : wr.cell? ⟨b3, o3 + q * 5 + 3, none⟩ = some q3 := hc5 3 (by omega)
      have x4 : wr.cell? ⟨b3, o3 + q * 5 + 4, none⟩ = some q4 := hc5 4 (by omega)
      have HIN : Hid (NIn wr d [q0, q1, q2, q3, q4] K[q]) := hin'
      clear hc5 hcell hin hin'
      go_wp2_with fail
      refine Calls.mono (IH.out wr _ _ HIN.out (HS.out q hlt)) ?_
      rintro e w2 ⟨he, hu2⟩
      have U2 : Hid (Upd [] (w.alloc (.cells #[.int .u8 k, .string tx, .int .i64 num, .int .i64 pos, .slice (some ⟨b3, o3, none⟩) K.length c] 29)) w2) := HUA.out.trans hu2
      have HP2 := HP.out
      rw [calBs_at s n K q hlt] at HP2
      clear hu2 x0 x1 x2 x3 x4 z4 HIN
      cases hb : calB s n K[q] with
      | true =>
        rw [hb] at he HP2
        subst he
        have HP3 : Hid (R = true) := HRR.out.trans HP2
        have UU : Hid (Upd [] w w2) := U1.out.trans U2.out
        clear HP2 hb HP
        go_wp2_with fail
        go_ret
        exact ⟨by rw [HP3.out]; rfl, UU.out⟩
      | false =>
        rw [hb] at he HP2
        subst he
        have HP3 : Hid (calBs s n K = calBs s n (K.drop (q + 1))) := HP2
        clear HP2 hb HP
        go_wp2_with fail
        go_roundw
        case rel => exact ⟨q + 1, by omega, by go_num, HP3, U2.out⟩
        case measure => simp [intOf]; omega
    · have hd : decide ((q : Int) < (K.length : Int)) = false := by simp; omega
      have hqe : q = K.length := by omega
      have HP3 : Hid (R = false) := by
        have := HP.out
        rw [hqe, List.drop_length, calBs] at this
        exact HRR.out.trans this
      clear HP hqe
      go_wp2_with fail
      go_ret
      exact ⟨by rw [HP3.out]; rfl, HU.out⟩

set_option maxHeartbeats 4000000 in
set_option maxRecDepth 100000 in
theorem cb_nil (d : Nat) (s : ByteArray) (n : Int) (_hn : 0 ≤ n ∧ n ≤ 4611686018427387904) (_IH : Hid (CalS s n d)) (w : World) (num pos : Int) (tx : ByteArray) (K : List Nd) (a : Option Addr) (c : Nat) (_HR : Hid (RowN (NIn w d) w a K)) (hs0 : K.length ≤ 2199023255488) (_HS : Hid (∀ i (hi : i < K.length), nsz K[i] ≤ 2199023255488)) (h0 : K.length = 0) :
    Calls Tryd.prog 15 #[.agg #[.int .u8 9, .string tx, .int .i64 num, .int .i64 pos, .slice a K.length c], .string s, .int .i64 n] w fun e w' => e = .returned (.bool (calBs s n K)) ∧ Upd [] w w' := by
  have U1 : Hid (Upd [] w (w.alloc (.cells #[.int .u8 9, .string tx, .int .i64 num, .int .i64 pos, .slice a K.length c] 29))) := (Upd.refl [] w).alloc _
  have tN : Hid (Tb (w.alloc (.cells #[.int .u8 9, .string tx, .int .i64 num, .int .i64 pos, .slice a K.length c] 29)) w.heap.size #[.int .u8 9, .string tx, .int .i64 num, .int .i64 pos, .slice a K.length c]) := Tb.new _ _ _ rfl
  have hz0 : decide ((0 : Int) < (K.length : Int)) = false := decide_eq_false (by omega)
  have hz2 : ¬ (0 : Int) < (K.length : Int) := by omega
  have hz3 : ¬ 0 < K.length := by omega
  have hz4 : decide (0 < K.length) = false := decide_eq_false (by omega)
  clear h0
  obtain ⟨R, hR⟩ : ∃ R, R = calBs s n K := ⟨_, rfl⟩
  rw [← hR]
  have HRR : Hid (R = calBs s n K) := hR
  clear hR
  go_enter Tryd.func15, Tryd.ntmps15
  go_wp2_with fail
  go_loopw [7] (fun i wr => ∃ (q : Nat), q ≤ K.length ∧ i = .int .i64 q ∧ Hid (calBs s n K = calBs s n (K.drop q)) ∧ Upd [] (w.alloc (.cells #[.int .u8 9, .string tx, .int .i64 num, .int .i64 pos, .slice a K.length c] 29)) wr) (fun i _ => K.length - (intOf i).toNat)
  case atStart => exact ⟨0, Nat.zero_le _, rfl, rfl, Upd.refl _ _⟩
  case round =>
    obtain ⟨q, hq, rfl, HP, hu⟩ := hrel
    have HU : Hid (Upd [] w wr) := U1.out.trans hu
    have z4 : wr.cell? ⟨w.heap.size, 4, none⟩ = some (.slice a K.length c) := (tN.out.mono hu (by simp)).cell 4
    have HUA : Hid (Upd [] (w.alloc (.cells #[.int .u8 9, .string tx, .int .i64 num, .int .i64 pos, .slice a K.length c] 29)) wr) := hu
    clear hu
    by_cases hlt : q < K.length
    · exact absurd (show 0 < K.length by omega) hz3
    · have hd : decide ((q : Int) < (K.length : Int)) = false := by simp; omega
      have hqe : q = K.length := by omega
      have HP3 : Hid (R = false) := by
        have := HP.out
        rw [hqe, List.drop_length, calBs] at this
        exact HRR.out.trans this
      clear HP hqe
      go_wp2_with fail
      go_ret
      exact ⟨by rw [HP3.out]; rfl, HU.out⟩

set_option maxHeartbeats 4000000 in
set_option maxRecDepth 100000 in
theorem cb_kd (d : Nat) (s : ByteArray) (n : Int) (hn : 0 ≤ n ∧ n ≤ 4611686018427387904) (IH : Hid (CalS s n d)) (w : World) (num pos : Int) (tx : ByteArray) (K : List Nd) (b2 o c : Nat) (HR : Hid (RowN (NIn w d) w (some ⟨b2, o, none⟩) K)) (hs0 : K.length ≤ 2199023255488) (HS : Hid (∀ i (hi : i < K.length), nsz K[i] ≤ 2199023255488)) (h0 : 0 < K.length) (k1 : Int) (s1 : ByteArray) (x0 : w.cell? ⟨b2, o, none⟩ = some (.int .u8 k1)) (x1 : w.cell? ⟨b2, o + 1, none⟩ = some (.string s1)) (hk : k1 ≠ 2) :
    Calls Tryd.prog 15 #[.agg #[.int .u8 9, .string tx, .int .i64 num, .int .i64 pos, .slice (some ⟨b2, o, none⟩) K.length c], .string s, .int .i64 n] w fun e w' => e = .returned (.bool (calBs s n K)) ∧ Upd [] w w' := by
  have U1 : Hid (Upd [] w (w.alloc (.cells #[.int .u8 9, .string tx, .int .i64 num, .int .i64 pos, .slice (some ⟨b2, o, none⟩) K.length c] 29))) := (Upd.refl [] w).alloc _
  have tN : Hid (Tb (w.alloc (.cells #[.int .u8 9, .string tx, .int .i64 num, .int .i64 pos, .slice (some ⟨b2, o, none⟩) K.length c] 29)) w.heap.size #[.int .u8 9, .string tx, .int .i64 num, .int .i64 pos, .slice (some ⟨b2, o, none⟩) K.length c]) := Tb.new _ _ _ rfl
  have hz0 : decide ((0 : Int) < (K.length : Int)) = true := decide_eq_true (by omega)
  have hz1 : (0 : Int) < (K.length : Int) := by omega
  have j0 : (w.alloc (.cells #[.int .u8 9, .string tx, .int .i64 num, .int .i64 pos, .slice (some ⟨b2, o, none⟩) K.length c] 29)).cell? ⟨b2, o, none⟩ = some (.int .u8 k1) := (U1.out.cell (cell_lt x0) (by simp)).trans x0
  have j1 : (w.alloc (.cells #[.int .u8 9, .string tx, .int .i64 num, .int .i64 pos, .slice (some ⟨b2, o, none⟩) K.length c] 29)).cell? ⟨b2, o + 1, none⟩ = some (.string s1) := (U1.out.cell (cell_lt x1) (by simp)).trans x1
  have hw1 : IntKind.i64.wrap (n + 1) = n + 1 := by rw [IntKind.wrap_i64]; omega
  have hw2 : wrap64 (n + 1) = n + 1 := by unfold wrap64; omega
  clear x0 x1
  have e1 : (k1 == 2) = false := by simp [hk]
  obtain ⟨R, hR⟩ : ∃ R, R = calBs s n K := ⟨_, rfl⟩
  rw [← hR]
  have HRR : Hid (R = calBs s n K) := hR
  clear hR
  go_enter Tryd.func15, Tryd.ntmps15
  go_wp2_with fail
  go_loopw [7] (fun i wr => ∃ (q : Nat), q ≤ K.length ∧ i = .int .i64 q ∧ Hid (calBs s n K = calBs s n (K.drop q)) ∧ Upd [] (w.alloc (.cells #[.int .u8 9, .string tx, .int .i64 num, .int .i64 pos, .slice (some ⟨b2, o, none⟩) K.length c] 29)) wr) (fun i _ => K.length - (intOf i).toNat)
  case atStart => exact ⟨0, Nat.zero_le _, rfl, rfl, Upd.refl _ _⟩
  case round =>
    obtain ⟨q, hq, rfl, HP, hu⟩ := hrel
    have HU : Hid (Upd [] w wr) := U1.out.trans hu
    have z4 : wr.cell? ⟨w.heap.size, 4, none⟩ = some (.slice (some ⟨b2, o, none⟩) K.length c) := (tN.out.mono hu (by simp)).cell 4
    have HUA : Hid (Upd [] (w.alloc (.cells #[.int .u8 9, .string tx, .int .i64 num, .int .i64 pos, .slice (some ⟨b2, o, none⟩) K.length c] 29)) wr) := hu
    clear hu
    by_cases hlt : q < K.length
    · have i1 : (q : Int) < (K.length : Int) := by omega
      obtain ⟨b3, o3, hae, cs, hl5, hcell, hin⟩ := HR.out.atK q hlt
      obtain ⟨rfl, rfl⟩ : b2 = b3 ∧ o = o3 := by cases hae; exact ⟨rfl, rfl⟩
      clear hae
      have hin' := NIn.mono HU.out _ _ _ hin
      have hc5 : ∀ j, j < 5 → wr.cell? ⟨b2, o + (q * 5 + j), none⟩ = cs[j]? := fun j hj => by
        have := hcell j hj
        rw [List.getElem?_eq_getElem (by omega)] at this ⊢
        exact (HU.out.cell (cell_lt this) (by simp)).trans this
      obtain ⟨q0, q1, q2, q3, q4, rfl⟩ := list5 hl5
      have x0 : wr.cell? ⟨b2, o + q * 5, none⟩ = some q0 := hc5 0 (by omega)
      have x1 : wr.cell? ⟨b2, o + q * 5 + 1, none⟩ = some q1 := hc5 1 (by omega)
      have x2 : wr.cell? ⟨b2, o + q * 5 + 2, none⟩ = some q2 := hc5 2 (by omega)
      have x3 : wr.cell? ⟨b2, o + q * 5 + 3, none⟩ = some q3 := hc5 3 (by omega)
      have x4 : wr.cell? ⟨b2, o + q * 5 + 4, none⟩ = some q4 := hc5 4 (by omega)
      have HIN : Hid (NIn wr d [q0, q1, q2, q3, q4] K[q]) := hin'
      clear hc5 hcell hin hin'
      go_wp2_with fail
      refine Calls.mono (IH.out wr _ _ HIN.out (HS.out q hlt)) ?_
      rintro e w2 ⟨he, hu2⟩
      have U2 : Hid (Upd [] (w.alloc (.cells #[.int .u8 9, .string tx, .int .i64 num, .int .i64 pos, .slice (some ⟨b2, o, none⟩) K.length c] 29)) w2) := HUA.out.trans hu2
      have HP2 := HP.out
      rw [calBs_at s n K q hlt] at HP2
      clear hu2 x0 x1 x2 x3 x4 z4 HIN
      cases hb : calB s n K[q] with
      | true =>
        rw [hb] at he HP2
        subst he
        have HP3 : Hid (R = true) := HRR.out.trans HP2
        have UU : Hid (Upd [] w w2) := U1.out.trans U2.out
        clear HP2 hb HP
        go_wp2_with fail
        go_ret
        exact ⟨by rw [HP3.out]; rfl, UU.out⟩
      | false =>
        rw [hb] at he HP2
        subst he
        have HP3 : Hid (calBs s n K = calBs s n (K.drop (q + 1))) := HP2
        clear HP2 hb HP
        go_wp2_with fail
        go_roundw
        case rel => exact ⟨q + 1, by omega, by go_num, HP3, U2.out⟩
        case measure => simp [intOf]; omega
    · have hd : decide ((q : Int) < (K.length : Int)) = false := by simp; omega
      have hqe : q = K.length := by omega
      have HP3 : Hid (R = false) := by
        have := HP.out
        rw [hqe, List.drop_length, calBs] at this
        exact HRR.out.trans this
      clear HP hqe
      go_wp2_with fail
      go_ret
      exact ⟨by rw [HP3.out]; rfl, HU.out⟩

set_option maxHeartbeats 4000000 in
set_option maxRecDepth 100000 in
theorem cb_txt (d : Nat) (s : ByteArray) (n : Int) (hn : 0 ≤ n ∧ n ≤ 4611686018427387904) (IH : Hid (CalS s n d)) (w : World) (num pos : Int) (tx : ByteArray) (K : List Nd) (b2 o c : Nat) (HR : Hid (RowN (NIn w d) w (some ⟨b2, o, none⟩) K)) (hs0 : K.length ≤ 2199023255488) (HS : Hid (∀ i (hi : i < K.length), nsz K[i] ≤ 2199023255488)) (h0 : 0 < K.length) (k1 : Int) (s1 : ByteArray) (x0 : w.cell? ⟨b2, o, none⟩ = some (.int .u8 k1)) (x1 : w.cell? ⟨b2, o + 1, none⟩ = some (.string s1)) (hk : k1 = 2) (hx : s1 ≠ s) :
    Calls Tryd.prog 15 #[.agg #[.int .u8 9, .string tx, .int .i64 num, .int .i64 pos, .slice (some ⟨b2, o, none⟩) K.length c], .string s, .int .i64 n] w fun e w' => e = .returned (.bool (calBs s n K)) ∧ Upd [] w w' := by
  have U1 : Hid (Upd [] w (w.alloc (.cells #[.int .u8 9, .string tx, .int .i64 num, .int .i64 pos, .slice (some ⟨b2, o, none⟩) K.length c] 29))) := (Upd.refl [] w).alloc _
  have tN : Hid (Tb (w.alloc (.cells #[.int .u8 9, .string tx, .int .i64 num, .int .i64 pos, .slice (some ⟨b2, o, none⟩) K.length c] 29)) w.heap.size #[.int .u8 9, .string tx, .int .i64 num, .int .i64 pos, .slice (some ⟨b2, o, none⟩) K.length c]) := Tb.new _ _ _ rfl
  have hz0 : decide ((0 : Int) < (K.length : Int)) = true := decide_eq_true (by omega)
  have hz1 : (0 : Int) < (K.length : Int) := by omega
  have j0 : (w.alloc (.cells #[.int .u8 9, .string tx, .int .i64 num, .int .i64 pos, .slice (some ⟨b2, o, none⟩) K.length c] 29)).cell? ⟨b2, o, none⟩ = some (.int .u8 k1) := (U1.out.cell (cell_lt x0) (by simp)).trans x0
  have j1 : (w.alloc (.cells #[.int .u8 9, .string tx, .int .i64 num, .int .i64 pos, .slice (some ⟨b2, o, none⟩) K.length c] 29)).cell? ⟨b2, o + 1, none⟩ = some (.string s1) := (U1.out.cell (cell_lt x1) (by simp)).trans x1
  have hw1 : IntKind.i64.wrap (n + 1) = n + 1 := by rw [IntKind.wrap_i64]; omega
  have hw2 : wrap64 (n + 1) = n + 1 := by unfold wrap64; omega
  clear x0 x1
  subst hk
  have e1 : (s1 == s) = false := bytes_eqF hx
  have e1l : (s1.toList == s.toList) = false := bytes_lF hx
  obtain ⟨R, hR⟩ : ∃ R, R = calBs s n K := ⟨_, rfl⟩
  rw [← hR]
  have HRR : Hid (R = calBs s n K) := hR
  clear hR
  go_enter Tryd.func15, Tryd.ntmps15
  go_wp2_with fail
  go_loopw [7] (fun i wr => ∃ (q : Nat), q ≤ K.length ∧ i = .int .i64 q ∧ Hid (calBs s n K = calBs s n (K.drop q)) ∧ Upd [] (w.alloc (.cells #[.int .u8 9, .string tx, .int .i64 num, .int .i64 pos, .slice (some ⟨b2, o, none⟩) K.length c] 29)) wr) (fun i _ => K.length - (intOf i).toNat)
  case atStart => exact ⟨0, Nat.zero_le _, rfl, rfl, Upd.refl _ _⟩
  case round =>
    obtain ⟨q, hq, rfl, HP, hu⟩ := hrel
    have HU : Hid (Upd [] w wr) := U1.out.trans hu
    have z4 : wr.cell? ⟨w.heap.size, 4, none⟩ = some (.slice (some ⟨b2, o, none⟩) K.length c) := (tN.out.mono hu (by simp)).cell 4
    have HUA : Hid (Upd [] (w.alloc (.cells #[.int .u8 9, .string tx, .int .i64 num, .int .i64 pos, .slice (some ⟨b2, o, none⟩) K.length c] 29)) wr) := hu
    clear hu
    by_cases hlt : q < K.length
    · have i1 : (q : Int) < (K.length : Int) := by omega
      obtain ⟨b3, o3, hae, cs, hl5, hcell, hin⟩ := HR.out.atK q hlt
      obtain ⟨rfl, rfl⟩ : b2 = b3 ∧ o = o3 := by cases hae; exact ⟨rfl, rfl⟩
      clear hae
      have hin' := NIn.mono HU.out _ _ _ hin
      have hc5 : ∀ j, j < 5 → wr.cell? ⟨b2, o + (q * 5 + j), none⟩ = cs[j]? := fun j hj => by
        have := hcell j hj
        rw [List.getElem?_eq_getElem (by omega)] at this ⊢
        exact (HU.out.cell (cell_lt this) (by simp)).trans this
      obtain ⟨q0, q1, q2, q3, q4, rfl⟩ := list5 hl5
      have x0 : wr.cell? ⟨b2, o + q * 5, none⟩ = some q0 := hc5 0 (by omega)
      have x1 : wr.cell? ⟨b2, o + q * 5 + 1, none⟩ = some q1 := hc5 1 (by omega)
      have x2 : wr.cell? ⟨b2, o + q * 5 + 2, none⟩ = some q2 := hc5 2 (by omega)
      have x3 : wr.cell? ⟨b2, o + q * 5 + 3, none⟩ = some q3 := hc5 3 (by omega)
      have x4 : wr.cell? ⟨b2, o + q * 5 + 4, none⟩ = some q4 := hc5 4 (by omega)
      have HIN : Hid (NIn wr d [q0, q1, q2, q3, q4] K[q]) := hin'
      clear hc5 hcell hin hin'
      go_wp2_with fail
      refine Calls.mono (IH.out wr _ _ HIN.out (HS.out q hlt)) ?_
      rintro e w2 ⟨he, hu2⟩
      have U2 : Hid (Upd [] (w.alloc (.cells #[.int .u8 9, .string tx, .int .i64 num, .int .i64 pos, .slice (some ⟨b2, o, none⟩) K.length c] 29)) w2) := HUA.out.trans hu2
      have HP2 := HP.out
      rw [calBs_at s n K q hlt] at HP2
      clear hu2 x0 x1 x2 x3 x4 z4 HIN
      cases hb : calB s n K[q] with
      | true =>
        rw [hb] at he HP2
        subst he
        have HP3 : Hid (R = true) := HRR.out.trans HP2
        have UU : Hid (Upd [] w w2) := U1.out.trans U2.out
        clear HP2 hb HP
        go_wp2_with fail
        go_ret
        exact ⟨by rw [HP3.out]; rfl, UU.out⟩
      | false =>
        rw [hb] at he HP2
        subst he
        have HP3 : Hid (calBs s n K = calBs s n (K.drop (q + 1))) := HP2
        clear HP2 hb HP
        go_wp2_with fail
        go_roundw
        case rel => exact ⟨q + 1, by omega, by go_num, HP3, U2.out⟩
        case measure => simp [intOf]; omega
    · have hd : decide ((q : Int) < (K.length : Int)) = false := by simp; omega
      have hqe : q = K.length := by omega
      have HP3 : Hid (R = false) := by
        have := HP.out
        rw [hqe, List.drop_length, calBs] at this
        exact HRR.out.trans this
      clear HP hqe
      go_wp2_with fail
      go_ret
      exact ⟨by rw [HP3.out]; rfl, HU.out⟩

set_option maxHeartbeats 4000000 in
set_option maxRecDepth 100000 in
theorem cb_len (d : Nat) (s : ByteArray) (n : Int) (hn : 0 ≤ n ∧ n ≤ 4611686018427387904) (IH : Hid (CalS s n d)) (w : World) (num pos : Int) (tx : ByteArray) (K : List Nd) (b2 o c : Nat) (HR : Hid (RowN (NIn w d) w (some ⟨b2, o, none⟩) K)) (hs0 : K.length ≤ 2199023255488) (HS : Hid (∀ i (hi : i < K.length), nsz K[i] ≤ 2199023255488)) (h0 : 0 < K.length) (k1 : Int) (s1 : ByteArray) (x0 : w.cell? ⟨b2, o, none⟩ = some (.int .u8 k1)) (x1 : w.cell? ⟨b2, o + 1, none⟩ = some (.string s1)) (hk : k1 = 2) (hx : s1 = s) (hl : (K.length : Int) ≠ n + 1) :
    Calls Tryd.prog 15 #[.agg #[.int .u8 9, .string tx, .int .i64 num, .int .i64 pos, .slice (some ⟨b2, o, none⟩) K.length c], .string s, .int .i64 n] w fun e w' => e = .returned (.bool (calBs s n K)) ∧ Upd [] w w' := by
  have U1 : Hid (Upd [] w (w.alloc (.cells #[.int .u8 9, .string tx, .int .i64 num, .int .i64 pos, .slice (some ⟨b2, o, none⟩) K.length c] 29))) := (Upd.refl [] w).alloc _
  have tN : Hid (Tb (w.alloc (.cells #[.int .u8 9, .string tx, .int .i64 num, .int .i64 pos, .slice (some ⟨b2, o, none⟩) K.length c] 29)) w.heap.size #[.int .u8 9, .string tx, .int .i64 num, .int .i64 pos, .slice (some ⟨b2, o, none⟩) K.length c]) := Tb.new _ _ _ rfl
  have hz0 : decide ((0 : Int) < (K.length : Int)) = true := decide_eq_true (by omega)
  have hz1 : (0 : Int) < (K.length : Int) := by omega
  have j0 : (w.alloc (.cells #[.int .u8 9, .string tx, .int .i64 num, .int .i64 pos, .slice (some ⟨b2, o, none⟩) K.length c] 29)).cell? ⟨b2, o, none⟩ = some (.int .u8 k1) := (U1.out.cell (cell_lt x0) (by simp)).trans x0
  have j1 : (w.alloc (.cells #[.int .u8 9, .string tx, .int .i64 num, .int .i64 pos, .slice (some ⟨b2, o, none⟩) K.length c] 29)).cell? ⟨b2, o + 1, none⟩ = some (.string s1) := (U1.out.cell (cell_lt x1) (by simp)).trans x1
  have hw1 : IntKind.i64.wrap (n + 1) = n + 1 := by rw [IntKind.wrap_i64]; omega
  have hw2 : wrap64 (n + 1) = n + 1 := by unfold wrap64; omega
  clear x0 x1
  subst hk
  have e1 : (s1 == s) = true := by rw [hx]; exact bytes_eqT s
  have e1l : (s1.toList == s.toList) = true := by rw [hx]; simp
  clear hx
  have e2 : ((K.length : Int) == n + 1) = false := by simpa using hl
  clear hl
  obtain ⟨R, hR⟩ : ∃ R, R = calBs s n K := ⟨_, rfl⟩
  rw [← hR]
  have HRR : Hid (R = calBs s n K) := hR
  clear hR
  go_enter Tryd.func15, Tryd.ntmps15
  go_wp2_with fail
  go_loopw [7] (fun i wr => ∃ (q : Nat), q ≤ K.length ∧ i = .int .i64 q ∧ Hid (calBs s n K = calBs s n (K.drop q)) ∧ Upd [] (w.alloc (.cells #[.int .u8 9, .string tx, .int .i64 num, .int .i64 pos, .slice (some ⟨b2, o, none⟩) K.length c] 29)) wr) (fun i _ => K.length - (intOf i).toNat)
  case atStart => exact ⟨0, Nat.zero_le _, rfl, rfl, Upd.refl _ _⟩
  case round =>
    obtain ⟨q, hq, rfl, HP, hu⟩ := hrel
    have HU : Hid (Upd [] w wr) := U1.out.trans hu
    have z4 : wr.cell? ⟨w.heap.size, 4, none⟩ = some (.slice (some ⟨b2, o, none⟩) K.length c) := (tN.out.mono hu (by simp)).cell 4
    have HUA : Hid (Upd [] (w.alloc (.cells #[.int .u8 9, .string tx, .int .i64 num, .int .i64 pos, .slice (some ⟨b2, o, none⟩) K.length c] 29)) wr) := hu
    clear hu
    by_cases hlt : q < K.length
    · have i1 : (q : Int) < (K.length : Int) := by omega
      obtain ⟨b3, o3, hae, cs, hl5, hcell, hin⟩ := HR.out.atK q hlt
      obtain ⟨rfl, rfl⟩ : b2 = b3 ∧ o = o3 := by cases hae; exact ⟨rfl, rfl⟩
      clear hae
      have hin' := NIn.mono HU.out _ _ _ hin
      have hc5 : ∀ j, j < 5 → wr.cell? ⟨b2, o + (q * 5 + j), none⟩ = cs[j]? := fun j hj => by
        have := hcell j hj
        rw [List.getElem?_eq_getElem (by omega)] at this ⊢
        exact (HU.out.cell (cell_lt this) (by simp)).trans this
      obtain ⟨q0, q1, q2, q3, q4, rfl⟩ := list5 hl5
      have x0 : wr.cell? ⟨b2, o + q * 5, none⟩ = some q0 := hc5 0 (by omega)
      have x1 : wr.cell? ⟨b2, o + q * 5 + 1, none⟩ = some q1 := hc5 1 (by omega)
      have x2 : wr.cell? ⟨b2, o + q * 5 + 2, none⟩ = some q2 := hc5 2 (by omega)
      have x3 : wr.cell? ⟨b2, o + q * 5 + 3, none⟩ = some q3 := hc5 3 (by omega)
      have x4 : wr.cell? ⟨b2, o + q * 5 + 4, none⟩ = some q4 := hc5 4 (by omega)
      have HIN : Hid (NIn wr d [q0, q1, q2, q3, q4] K[q]) := hin'
      clear hc5 hcell hin hin'
      go_wp2_with fail
      refine Calls.mono (IH.out wr _ _ HIN.out (HS.out q hlt)) ?_
      rintro e w2 ⟨he, hu2⟩
      have U2 : Hid (Upd [] (w.alloc (.cells #[.int .u8 9, .string tx, .int .i64 num, .int .i64 pos, .slice (some ⟨b2, o, none⟩) K.length c] 29)) w2) := HUA.out.trans hu2
      have HP2 := HP.out
      rw [calBs_at s n K q hlt] at HP2
      clear hu2 x0 x1 x2 x3 x4 z4 HIN
      cases hb : calB s n K[q] with
      | true =>
        rw [hb] at he HP2
        subst he
        have HP3 : Hid (R = true) := HRR.out.trans HP2
        have UU : Hid (Upd [] w w2) := U1.out.trans U2.out
        clear HP2 hb HP
        go_wp2_with fail
        go_ret
        exact ⟨by rw [HP3.out]; rfl, UU.out⟩
      | false =>
        rw [hb] at he HP2
        subst he
        have HP3 : Hid (calBs s n K = calBs s n (K.drop (q + 1))) := HP2
        clear HP2 hb HP
        go_wp2_with fail
        go_roundw
        case rel => exact ⟨q + 1, by omega, by go_num, HP3, U2.out⟩
        case measure => simp [intOf]; omega
    · have hd : decide ((q : Int) < (K.length : Int)) = false := by simp; omega
      have hqe : q = K.length := by omega
      have HP3 : Hid (R = false) := by
        have := HP.out
        rw [hqe, List.drop_length, calBs] at this
        exact HRR.out.trans this
      clear HP hqe
      go_wp2_with fail
      go_ret
      exact ⟨by rw [HP3.out]; rfl, HU.out⟩

set_option maxHeartbeats 4000000 in
set_option maxRecDepth 100000 in
theorem cb_hit (d : Nat) (s : ByteArray) (n : Int) (_hn : 0 ≤ n ∧ n ≤ 4611686018427387904) (_IH : Hid (CalS s n d)) (w : World) (num pos : Int) (tx : ByteArray) (K : List Nd) (b2 o c : Nat) (_HR : Hid (RowN (NIn w d) w (some ⟨b2, o, none⟩) K)) (hs0 : K.length ≤ 2199023255488) (_HS : Hid (∀ i (hi : i < K.length), nsz K[i] ≤ 2199023255488)) (h0 : 0 < K.length) (k1 : Int) (s1 : ByteArray) (x0 : w.cell? ⟨b2, o, none⟩ = some (.int .u8 k1)) (x1 : w.cell? ⟨b2, o + 1, none⟩ = some (.string s1)) (hk : k1 = 2) (hx : s1 = s) (hl : (K.length : Int) = n + 1) :
    Calls Tryd.prog 15 #[.agg #[.int .u8 9, .string tx, .int .i64 num, .int .i64 pos, .slice (some ⟨b2, o, none⟩) K.length c], .string s, .int .i64 n] w fun e w' => e = .returned (.bool true) ∧ Upd [] w w' := by
  have U1 : Hid (Upd [] w (w.alloc (.cells #[.int .u8 9, .string tx, .int .i64 num, .int .i64 pos, .slice (some ⟨b2, o, none⟩) K.length c] 29))) := (Upd.refl [] w).alloc _
  have tN : Hid (Tb (w.alloc (.cells #[.int .u8 9, .string tx, .int .i64 num, .int .i64 pos, .slice (some ⟨b2, o, none⟩) K.length c] 29)) w.heap.size #[.int .u8 9, .string tx, .int .i64 num, .int .i64 pos, .slice (some ⟨b2, o, none⟩) K.length c]) := Tb.new _ _ _ rfl
  have hz0 : decide ((0 : Int) < (K.length : Int)) = true := decide_eq_true (by omega)
  have hz1 : (0 : Int) < (K.length : Int) := by omega
  have j0 : (w.alloc (.cells #[.int .u8 9, .string tx, .int .i64 num, .int .i64 pos, .slice (some ⟨b2, o, none⟩) K.length c] 29)).cell? ⟨b2, o, none⟩ = some (.int .u8 k1) := (U1.out.cell (cell_lt x0) (by simp)).trans x0
  have j1 : (w.alloc (.cells #[.int .u8 9, .string tx, .int .i64 num, .int .i64 pos, .slice (some ⟨b2, o, none⟩) K.length c] 29)).cell? ⟨b2, o + 1, none⟩ = some (.string s1) := (U1.out.cell (cell_lt x1) (by simp)).trans x1
  have hw1 : IntKind.i64.wrap (n + 1) = n + 1 := by rw [IntKind.wrap_i64]; omega
  have hw2 : wrap64 (n + 1) = n + 1 := by unfold wrap64; omega
  clear x0 x1
  subst hk
  have e1 : (s1 == s) = true := by rw [hx]; exact bytes_eqT s
  have e1l : (s1.toList == s.toList) = true := by rw [hx]; simp
  clear hx
  have e2 : ((K.length : Int) == n + 1) = true := by simpa using hl
  clear hl
  go_enter Tryd.func15, Tryd.ntmps15
  go_wp2_with fail
  go_ret
  exact ⟨rfl, U1.out⟩

theorem calls_step (s : ByteArray) (n : Int) (hn : 0 ≤ n ∧ n ≤ 4611686018427387904) (d : Nat) (ih : CalS s n d) : CalS s n (d + 1) := by
  intro w cs t hin hz
  obtain ⟨k, tx, num, pos, K⟩ := t
  obtain ⟨a, c, rfl, hR, hcp⟩ := hin
  have hz1 : nszs K ≤ 2199023255488 := by simpa [nsz] using hz
  have hs0 : K.length ≤ 2199023255488 := Nat.le_trans (nszs_len K) hz1
  have HS : ∀ i (hi : i < K.length), nsz K[i] ≤ 2199023255488 := fun i hi => Nat.le_trans (nszs_get K i hi) hz1
  by_cases h11 : k = 11
  · subst h11
    by_cases hx : tx = s
    · by_cases hm : num = n
      · have e : calB s n (.mk 11 tx num pos K) = true := by rw [calB]; simp [hx, hm]
        rw [e]
        exact ca_hit d s n hn ih w num pos tx K a c hR hs0 HS hx hm
      · have e : calB s n (.mk 11 tx num pos K) = calBs s n K := by rw [calB]; simp [hm]
        rw [e]
        exact ca_num d s n hn ih w num pos tx K a c hR hs0 HS hx hm
    · have e : calB s n (.mk 11 tx num pos K) = calBs s n K := by rw [calB]; simp [hx]
      rw [e]
      exact ca_txt d s n hn ih w num pos tx K a c hR hs0 HS hx
  · by_cases h9 : k = 9
    · subst h9
      match K, hR, hs0, HS, hcp with
      | [], hR, hs0, HS, hcp =>
        have e : calB s n (.mk 9 tx num pos []) = calBs s n [] := by rw [calB]; simp [headAtom]
        rw [e]
        exact cb_nil d s n hn ih w num pos tx [] a c hR hs0 HS rfl
      | t0 :: L, hR, hs0, HS, hcp =>
        obtain ⟨b2, o, hae, cs0, h50, hcell, hin0⟩ := hR.atK 0 (by simp)
        subst hae
        have hc0 : ∀ j, j < 5 → w.cell? ⟨b2, o + j, none⟩ = cs0[j]? := fun j hj => by
          have := hcell j hj
          simpa using this
        obtain ⟨k1, s1, n1, p1, K1⟩ := t0
        have hd0 : ∃ d', d = d' + 1 := by
          cases d with
          | zero => exact absurd hin0 (fun h => h)
          | succ d' => exact ⟨d', rfl⟩
        obtain ⟨d', rfl⟩ := hd0
        obtain ⟨a1, c1, rfl, hR1, hcp1⟩ := hin0
        have hx0 : w.cell? ⟨b2, o, none⟩ = some (.int .u8 k1) := hc0 0 (by omega)
        have hx1 : w.cell? ⟨b2, o + 1, none⟩ = some (.string s1) := hc0 1 (by omega)
        by_cases hk : k1 = 2
        · by_cases hx : s1 = s
          · by_cases hl : (((Nd.mk k1 s1 n1 p1 K1) :: L).length : Int) = n + 1
            · have e : calB s n (.mk 9 tx num pos (Nd.mk k1 s1 n1 p1 K1 :: L)) = true := by
                rw [calB, hl]
                simp [headAtom, headTxt, Nd.kd, Nd.txt, hk, hx]
              rw [e]
              exact cb_hit (d' + 1) s n hn ih w num pos tx _ b2 o c hR hs0 HS (by simp) k1 s1 hx0 hx1 hk hx hl
            · have e : calB s n (.mk 9 tx num pos (Nd.mk k1 s1 n1 p1 K1 :: L)) = calBs s n (Nd.mk k1 s1 n1 p1 K1 :: L) := by
                rw [calB, show decide ((9 : Int) = 9 ∧ (((Nd.mk k1 s1 n1 p1 K1) :: L).length : Int) = n + 1) = false from decide_eq_false (fun h => hl h.2)]
                simp
              rw [e]
              exact cb_len (d' + 1) s n hn ih w num pos tx _ b2 o c hR hs0 HS (by simp) k1 s1 hx0 hx1 hk hx hl
          · have e : calB s n (.mk 9 tx num pos (Nd.mk k1 s1 n1 p1 K1 :: L)) = calBs s n (Nd.mk k1 s1 n1 p1 K1 :: L) := by
              rw [calB]
              simp [headAtom, headTxt, Nd.kd, Nd.txt, hx]
            rw [e]
            exact cb_txt (d' + 1) s n hn ih w num pos tx _ b2 o c hR hs0 HS (by simp) k1 s1 hx0 hx1 hk hx
        · have e : calB s n (.mk 9 tx num pos (Nd.mk k1 s1 n1 p1 K1 :: L)) = calBs s n (Nd.mk k1 s1 n1 p1 K1 :: L) := by
            rw [calB]
            simp [headAtom, Nd.kd, hk]
          rw [e]
          exact cb_kd (d' + 1) s n hn ih w num pos tx _ b2 o c hR hs0 HS (by simp) k1 s1 hx0 hx1 hk
    · have e : calB s n (.mk k tx num pos K) = calBs s n K := by rw [calB]; simp [h11, h9]
      rw [e]
      exact ca_oth d s n hn ih w k num pos tx K a c hR hs0 HS h11 h9
/-- Does a tree name a function? -/
theorem calls_in (s : ByteArray) (n : Int) (hn : 0 ≤ n ∧ n ≤ 4611686018427387904) : ∀ d, CalS s n d
  | 0 => fun _ _ _ h => absurd h (fun h => h)
  | d + 1 => calls_step s n hn d (calls_in s n hn d)

end Go.Proofs.YtpgjcedonimgnaaDoor
