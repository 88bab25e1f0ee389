/- lint's refuse. -/
import Derived.Test.YtpgjcedonimgnaaDoorLtO
import Derived.Test.YtpgjcedonimgnaaDoorJAA

namespace Go.Proofs.YtpgjcedonimgnaaDoor
open Go.RowKit

set_option maxHeartbeats 1000000 in
set_option maxRecDepth 100000 in
theorem refuse_no (err : Int) (k num p : Int) (s : ByteArray) (a : Option Addr) (n c : Nat) (w : World) : Calls Tryd.prog 26 #[.bool false, .int .i64 err, .agg #[.int .u8 k, .string s, .int .i64 num, .int .i64 p, .slice a n c]] w fun e w' => (∃ u, e = .returned u) ∧ Upd [] w w' := by
  go_enter Tryd.func26, Tryd.ntmps26
  go_wp2_with fail
  exact bodyPost_end (results_none rfl _ _ _) rfl ⟨⟨_, rfl⟩, (Upd.refl [] w).alloc _⟩
set_option maxHeartbeats 1000000 in
set_option maxRecDepth 100000 in
theorem refuse_yes (err : Int) (k num p : Int) (s : ByteArray) (a : Option Addr) (n c : Nat) (w : World) : Calls Tryd.prog 26 #[.bool true, .int .i64 err, .agg #[.int .u8 k, .string s, .int .i64 num, .int .i64 p, .slice a n c]] w fun e w' => e = .panicked [{ v := .iface 33 (.agg #[.int .i64 err, .int .i64 p]), recovered := false }] ∧ Upd [] w w' := by
  go_enter Tryd.func26, Tryd.ntmps26
  go_wp2_with fail
  exact ⟨rfl, rfl, (Upd.refl [] w).alloc _⟩

set_option maxHeartbeats 4000000 in
set_option maxRecDepth 100000 in
theorem alike_one (b3 b4 : Nat) (a1 : Option Addr) (c1 : Nat) (w : World) (t4 : Tb w b4 #[.int .u8 20, .string ⟨#[]⟩, .int .i64 0, .int .i64 0, .slice (some ⟨b3, 0, none⟩) 3 3])
    (R3 : Array Value) (t3 : Tb w b3 R3) (h3 : R3[4]? = some (.slice a1 1 c1)) : Calls Tryd.prog 28 #[.slice (some ⟨b4, 0, none⟩) 1 1, .int .i64 1] w fun e w' => (∃ u, e = .returned u) ∧ Upd [] w w' := by
  go_enter Tryd.func28, Tryd.ntmps28
  go_wp2_with fail
  go_loopw [9] (fun i wr => ∃ k : Nat, k ≤ 1 ∧ i = .int .i64 k ∧ Upd [] w wr) (fun i _ => 1 - (intOf i).toNat)
  case atStart => exact ⟨0, Nat.zero_le _, rfl, Upd.refl [] w⟩
  case round =>
    obtain ⟨k, hk, rfl, hu⟩ := hrel
    by_cases hlt : k < 1
    · obtain rfl : k = 0 := by omega
      have T4 : Tb wr b4 #[.int .u8 20, .string ⟨#[]⟩, .int .i64 0, .int .i64 0, .slice (some ⟨b3, 0, none⟩) 3 3] := t4.mono hu (by simp)
      have T3 := t3.mono hu (by simp)
      have C3 : wr.cell? ⟨b3, 4, none⟩ = some (.slice a1 1 c1) := (T3.cell 4).trans h3
      have L3 := T3.lt
      have x0 : wr.cell? ⟨b4, 0, none⟩ = some (.int .u8 20) := T4.cell 0
      have x1 : wr.cell? ⟨b4, 1, none⟩ = some (.string ⟨#[]⟩) := T4.cell 1
      have x2 : wr.cell? ⟨b4, 2, none⟩ = some (.int .i64 0) := T4.cell 2
      have x3 : wr.cell? ⟨b4, 3, none⟩ = some (.int .i64 0) := T4.cell 3
      have x4 : wr.cell? ⟨b4, 4, none⟩ = some (.slice (some ⟨b3, 0, none⟩) 3 3) := T4.cell 4
      have tz : Tb (wr.alloc (.cells #[.int .u8 0, .string ⟨#[]⟩, .int .i64 0, .int .i64 0, .slice none 0 0] 29)) wr.heap.size #[.int .u8 0, .string ⟨#[]⟩, .int .i64 0, .int .i64 0, .slice none 0 0] := Tb.new _ _ _ rfl
      have HUZ : Hid (Upd [] wr (wr.alloc (.cells #[.int .u8 0, .string ⟨#[]⟩, .int .i64 0, .int .i64 0, .slice none 0 0] 29))) := (Upd.refl [] wr).alloc _
      have HU : Hid (Upd [] w wr) := hu
      have HC : Hid (wr.cell? ⟨b3, 4, none⟩ = some (.slice a1 1 c1)) := C3
      clear hu C3 t4 t3 T3 h3
      go_wp2_with (first
        | (refine store_T _ rfl _ _ rfl _ #[.int .u8 20, .string ⟨#[]⟩, .int .i64 0, .int .i64 0, .slice (some ⟨b3, 0, none⟩) 3 3] _ rfl rfl tz rfl rfl (by simp [Value.oneCell']) ?_; intro w1 t1 u1; have U1 : Hid (Upd [] wr w1) := HUZ.out.then u1 (by simp); have y4 : w1.cell? ⟨wr.heap.size, 4, none⟩ = some (.slice (some ⟨b3, 0, none⟩) 3 3) := t1.cell 4; have y5 : w1.cell? ⟨b3, 4, none⟩ = some (.slice a1 1 c1) := (U1.out.cell (p := ⟨b3, 4, none⟩) L3 (by simp)).trans HC.out)
        | (refine load_T _ rfl _ rfl _ _ rfl t1 rfl ?_)
        | fail)
      refine Calls.mono (refuse_no _ _ _ _ _ _ _ _ _) ?_
      rintro e w2 ⟨⟨v2, rfl⟩, u2⟩
      have t2 := t1.mono u2 (by simp)
      have U2 : Hid (Upd [] wr w2) := U1.out.trans u2
      clear u2 t1 u1 U1 y4 y5 tz x0 x1 x2 x3 x4 T4
      go_wp2_with (first
        | (refine load_T _ rfl _ rfl _ _ rfl t2 rfl ?_)
        | fail)
      refine Calls.mono (refuse_no _ _ _ _ _ _ _ _ _) ?_
      rintro e w3 ⟨⟨v3, rfl⟩, u3⟩
      have U3 : Hid (Upd [] w w3) := (HU.out.trans U2.out).trans u3
      clear u3 t2 U2
      go_wp2_with fail
      go_roundw
      case rel => exact ⟨1, by omega, by go_num, U3.out⟩
      case measure => simp [intOf]
    · obtain rfl : k = 1 := by omega
      go_wp2_with fail
      exact bodyPost_end (results_none rfl _ _ _) rfl ⟨⟨_, rfl⟩, hu⟩

end Go.Proofs.YtpgjcedonimgnaaDoor

/- What is built in: the table, and Kind by its contract. -/
namespace Go.Proofs.YtpgjcedonimgnaaDoor
open Go.RowKit

/-- The names of the table, by kinds and arities. -/
def bltT : Nat → Nat → List ByteArray
  | 1, 1 => [⟨#[116, 117, 112, 108, 101, 95, 116, 111, 95, 108, 105, 115, 116]⟩, ⟨#[108, 105, 115, 116, 95, 116, 111, 95, 116, 117, 112, 108, 101]⟩, ⟨#[97, 116, 111, 109, 95, 116, 111, 95, 108, 105, 115, 116]⟩, ⟨#[108, 105, 115, 116, 95, 116, 111, 95, 97, 116, 111, 109]⟩, ⟨#[105, 110, 116, 101, 103, 101, 114, 95, 116, 111, 95, 108, 105, 115, 116]⟩, ⟨#[108, 105, 115, 116, 95, 116, 111, 95, 105, 110, 116, 101, 103, 101, 114]⟩, ⟨#[114, 101, 118, 101, 114, 115, 101]⟩, ⟨#[115, 117, 109]⟩, ⟨#[115, 111, 114, 116]⟩, ⟨#[117, 115, 111, 114, 116]⟩, ⟨#[108, 97, 115, 116]⟩, ⟨#[116, 104, 114, 111, 119]⟩, ⟨#[101, 114, 114, 111, 114]⟩, ⟨#[101, 120, 105, 116]⟩]
  | 1, 2 => [⟨#[43, 43]⟩, ⟨#[45, 45]⟩, ⟨#[109, 97, 120]⟩, ⟨#[109, 105, 110]⟩, ⟨#[110, 116, 104]⟩, ⟨#[110, 116, 104, 116, 97, 105, 108]⟩, ⟨#[109, 101, 109, 98, 101, 114]⟩, ⟨#[115, 101, 113]⟩]
  | 1, 3 => [⟨#[115, 101, 116, 101, 108, 101, 109, 101, 110, 116]⟩]
  | 2, 1 => [⟨#[43]⟩, ⟨#[45]⟩, ⟨#[110, 111, 116]⟩, ⟨#[97, 98, 115]⟩, ⟨#[104, 100]⟩, ⟨#[116, 108]⟩, ⟨#[108, 101, 110, 103, 116, 104]⟩, ⟨#[116, 117, 112, 108, 101, 95, 115, 105, 122, 101]⟩, ⟨#[105, 115, 95, 105, 110, 116, 101, 103, 101, 114]⟩, ⟨#[105, 115, 95, 97, 116, 111, 109]⟩, ⟨#[105, 115, 95, 116, 117, 112, 108, 101]⟩, ⟨#[105, 115, 95, 108, 105, 115, 116]⟩, ⟨#[105, 115, 95, 112, 105, 100]⟩, ⟨#[105, 115, 95, 114, 101, 102, 101, 114, 101, 110, 99, 101]⟩, ⟨#[105, 115, 95, 102, 117, 110, 99, 116, 105, 111, 110]⟩, ⟨#[105, 115, 95, 98, 111, 111, 108, 101, 97, 110]⟩]
  | 2, 2 => [⟨#[43]⟩, ⟨#[45]⟩, ⟨#[42]⟩, ⟨#[100, 105, 118]⟩, ⟨#[114, 101, 109]⟩, ⟨#[61, 61]⟩, ⟨#[47, 61]⟩, ⟨#[61, 58, 61]⟩, ⟨#[61, 47, 61]⟩, ⟨#[60]⟩, ⟨#[61, 60]⟩, ⟨#[62]⟩, ⟨#[62, 61]⟩, ⟨#[97, 110, 100]⟩, ⟨#[111, 114]⟩, ⟨#[120, 111, 114]⟩, ⟨#[101, 108, 101, 109, 101, 110, 116]⟩, ⟨#[105, 115, 95, 102, 117, 110, 99, 116, 105, 111, 110]⟩]
  | 3, 0 => [⟨#[115, 101, 108, 102]⟩, ⟨#[109, 97, 107, 101, 95, 114, 101, 102]⟩, ⟨#[110, 111, 119]⟩]
  | 3, 1 => [⟨#[115, 112, 97, 119, 110]⟩, ⟨#[115, 112, 97, 119, 110, 95, 108, 105, 110, 107]⟩, ⟨#[115, 112, 97, 119, 110, 95, 109, 111, 110, 105, 116, 111, 114]⟩, ⟨#[108, 105, 110, 107]⟩, ⟨#[117, 110, 108, 105, 110, 107]⟩, ⟨#[109, 111, 110, 105, 116, 111, 114]⟩, ⟨#[100, 101, 109, 111, 110, 105, 116, 111, 114]⟩, ⟨#[116, 114, 97, 112, 95, 101, 120, 105, 116]⟩, ⟨#[117, 110, 114, 101, 103, 105, 115, 116, 101, 114]⟩, ⟨#[119, 104, 101, 114, 101, 105, 115]⟩, ⟨#[112, 114, 105, 110, 116]⟩]
  | 3, 2 => [⟨#[33]⟩, ⟨#[101, 120, 105, 116]⟩, ⟨#[114, 101, 103, 105, 115, 116, 101, 114]⟩]
  | _, _ => []
/-- Strings in a row. -/
def StrAt (w : World) (a : Option Addr) (L : List ByteArray) : Prop := L = [] ∨ ∃ b o, a = some ⟨b, o, none⟩ ∧ ∀ i (hi : i < L.length), w.cell? ⟨b, o + i, none⟩ = some (.string L[i])
/-- The table is laid. -/
def Blt (w : World) : Prop := ∀ k a, k < 4 → a < 4 → ∃ ad c, w.cell? ⟨0, k * 4 + a, none⟩ = some (.slice ad (bltT k a).length c) ∧ StrAt w ad (bltT k a)
/-- Is a name one of these? -/
def inL (s : ByteArray) (L : List ByteArray) : Bool := L.any fun x => x.toList == s.toList
/-- What kind a name has from a kind on. -/
def kindF (s : ByteArray) (a : Nat) : Nat → Nat → Nat
  | 0, _ => 0
  | n + 1, k => if inL s (bltT k a) then k else kindF s a n (k + 1)
def kindS (s : ByteArray) (a : Int) : Nat := if a < 0 ∨ 4 ≤ a then 0 else kindF s a.toNat 4 0

theorem bltT_len : ∀ k, k < 4 → ∀ a, a < 4 → (bltT k a).length ≤ 20 := by decide

set_option maxHeartbeats 4000000 in
set_option maxRecDepth 100000 in
theorem Kind_any (s : ByteArray) (a : Int) (w : World) (hB : Blt w) : Calls Tryd.prog 8 #[.string s, .int .i64 a] w fun e w' => e = .returned (.int .i64 (kindS s a : Nat)) ∧ w' = w := by
  obtain ⟨R, hR⟩ : ∃ R, R = kindS s a := ⟨_, rfl⟩
  rw [← hR]
  by_cases h0 : a < 0
  · have e : R = 0 := by rw [hR]; unfold kindS; rw [if_pos (Or.inl h0)]
    subst e
    clear hR
    go_enter Tryd.func8, Tryd.ntmps8
    go_wp2
    go_ret
    exact ⟨rfl, rfl⟩
  · by_cases h4 : 4 ≤ a
    · have e : R = 0 := by rw [hR]; unfold kindS; rw [if_pos (Or.inr h4)]
      subst e
      clear hR
      go_enter Tryd.func8, Tryd.ntmps8
      go_wp2
      go_ret
      exact ⟨rfl, rfl⟩
    · obtain ⟨n, rfl⟩ : ∃ n : Nat, a = n := ⟨a.toNat, by omega⟩
      have hn : n < 4 := by omega
      have hRR : R = kindF s n 4 0 := by rw [hR]; unfold kindS; rw [if_neg (by omega)]; rfl
      have HB : Hid (Blt w) := hB
      have HRR : Hid (R = kindF s n 4 0) := hRR
      clear hB hR hRR h0 h4
      go_enter Tryd.func8, Tryd.ntmps8
      go_wp2_with fail
      go_loopw [14] (fun i wr => ∃ k : Nat, k ≤ 4 ∧ i = .int .i64 k ∧ wr = w ∧ R = kindF s n (4 - k) k) (fun i _ => 4 - (intOf i).toNat)
      case atStart => exact ⟨0, by omega, rfl, rfl, HRR.out⟩
      case round =>
        obtain ⟨k, hk, rfl, rfl, hE⟩ := hrel
        by_cases hk4 : k < 4
        · obtain ⟨ad, c, hcell, hS⟩ := HB.out k n hk4 hn
          have hE2 : R = if inL s (bltT k n) then k else kindF s n (4 - (k + 1)) (k + 1) := by
            rw [hE, show 4 - k = (4 - (k + 1)) + 1 by omega]
            rfl
          have HE : Hid _ := hE2
          have hkk : (k : Int) < 4 := by omega
          have hnn : (n : Int) < 4 := by omega
          have hLl := bltT_len k hk4 n hn
          obtain ⟨L, hL⟩ : ∃ L, L = bltT k n := ⟨_, rfl⟩
          rw [← hL] at hcell hS HE hLl
          clear hE hE2 hL
          go_wp2_with fail
          go_loopw [23] (fun j wr2 => ∃ i : Nat, i ≤ L.length ∧ j = .int .i64 i ∧ wr2 = wr ∧ inL s (L.take i) = false) (fun j _ => L.length - (intOf j).toNat)
          case atStart => exact ⟨0, by omega, rfl, rfl, rfl⟩
          case round =>
            obtain ⟨i, hi, rfl, rfl, hN⟩ := hrel
            have HN : Hid (inL s (L.take i) = false) := hN
            clear hN
            by_cases hlt : i < L.length
            · rcases hS with h0 | ⟨b, o, rfl, hc⟩
              · rw [h0] at hlt; simp at hlt
              have hci := hc i hlt
              have hlt' : (i : Int) < (L.length : Int) := by omega
              obtain ⟨x, hx⟩ : ∃ x, x = L[i] := ⟨_, rfl⟩
              rw [← hx] at hci
              have HT : Hid (inL s (L.take (i + 1)) = (inL s (L.take i) || (x.toList == s.toList))) := by
                show _ = _
                rw [hx, List.take_succ_eq_append_getElem hlt]
                unfold inL
                rw [List.any_append]
                simp
              have HL : Hid (inL s (L.take (i + 1)) = true → inL s L = true) := fun h => by
                unfold inL at h ⊢
                rw [List.any_eq_true] at h ⊢
                obtain ⟨y, h1, h2⟩ := h
                exact ⟨y, List.mem_of_mem_take h1, h2⟩
              clear hx hc
              cases hxs : (x.toList == s.toList) with
              | true =>
                go_wp2_with fail
                go_ret
                have e : inL s L = true := HL.out (by rw [HT.out, hxs, Bool.or_true])
                refine ⟨?_, rfl⟩
                rw [HE.out, if_pos e]
                rfl
              | false =>
                go_wp2_with fail
                exact ⟨⟨i + 1, by omega, by simp, trivial, by rw [HT.out, HN.out, hxs]; rfl⟩, by simp [intOf]; omega⟩
            · have hii : i = L.length := by omega
              subst hii
              have e : inL s L = false := by have := HN.out; rwa [List.take_length] at this
              go_wp2_with fail
              go_roundw
              case rel => exact ⟨k + 1, by omega, by go_num, trivial, by rw [HE.out, e]; rfl⟩
              case measure => simp [intOf]; omega
        · obtain rfl : k = 4 := by omega
          have e : R = 0 := hE
          subst e
          clear hk hk4 hE
          go_wp2_with fail
          go_ret
          exact ⟨rfl, rfl⟩

end Go.Proofs.YtpgjcedonimgnaaDoor
