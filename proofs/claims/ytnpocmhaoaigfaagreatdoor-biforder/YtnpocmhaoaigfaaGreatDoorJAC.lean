/- What is built in: the table, and Kind by its contract. -/
import Derived.Test.YtnpocmhaoaigfaaGreatDoorSizD
import Derived.Laws.EntriesVeiled

namespace Go.Proofs.YtnpocmhaoaigfaaGreatDoor
open Go.RowKit

/-- The names of the table, by kinds and arities. -/
def bltT : Nat → Nat → List ByteArray
  | 1, 1 => [⟨#[116, 117, 112, 108, 101, 95, 116, 111, 95, 108, 105, 115, 116]⟩, ⟨#[108, 105, 115, 116, 95, 116, 111, 95, 116, 117, 112, 108, 101]⟩, ⟨#[97, 116, 111, 109, 95, 116, 111, 95, 108, 105, 115, 116]⟩, ⟨#[108, 105, 115, 116, 95, 116, 111, 95, 97, 116, 111, 109]⟩, ⟨#[105, 110, 116, 101, 103, 101, 114, 95, 116, 111, 95, 108, 105, 115, 116]⟩, ⟨#[108, 105, 115, 116, 95, 116, 111, 95, 105, 110, 116, 101, 103, 101, 114]⟩, ⟨#[114, 101, 118, 101, 114, 115, 101]⟩, ⟨#[115, 117, 109]⟩, ⟨#[115, 111, 114, 116]⟩, ⟨#[117, 115, 111, 114, 116]⟩, ⟨#[108, 97, 115, 116]⟩, ⟨#[116, 104, 114, 111, 119]⟩, ⟨#[101, 114, 114, 111, 114]⟩, ⟨#[101, 120, 105, 116]⟩]
  | 1, 2 => [⟨#[43, 43]⟩, ⟨#[45, 45]⟩, ⟨#[109, 97, 120]⟩, ⟨#[109, 105, 110]⟩, ⟨#[110, 116, 104]⟩, ⟨#[110, 116, 104, 116, 97, 105, 108]⟩, ⟨#[109, 101, 109, 98, 101, 114]⟩, ⟨#[115, 101, 113]⟩]
  | 1, 3 => [⟨#[115, 101, 116, 101, 108, 101, 109, 101, 110, 116]⟩]
  | 2, 1 => [⟨#[43]⟩, ⟨#[45]⟩, ⟨#[110, 111, 116]⟩, ⟨#[97, 98, 115]⟩, ⟨#[104, 100]⟩, ⟨#[116, 108]⟩, ⟨#[108, 101, 110, 103, 116, 104]⟩, ⟨#[116, 117, 112, 108, 101, 95, 115, 105, 122, 101]⟩, ⟨#[105, 115, 95, 105, 110, 116, 101, 103, 101, 114]⟩, ⟨#[105, 115, 95, 97, 116, 111, 109]⟩, ⟨#[105, 115, 95, 116, 117, 112, 108, 101]⟩, ⟨#[105, 115, 95, 108, 105, 115, 116]⟩, ⟨#[105, 115, 95, 112, 105, 100]⟩, ⟨#[105, 115, 95, 114, 101, 102, 101, 114, 101, 110, 99, 101]⟩, ⟨#[105, 115, 95, 102, 117, 110, 99, 116, 105, 111, 110]⟩, ⟨#[105, 115, 95, 98, 111, 111, 108, 101, 97, 110]⟩]
  | 2, 2 => [⟨#[43]⟩, ⟨#[45]⟩, ⟨#[42]⟩, ⟨#[100, 105, 118]⟩, ⟨#[114, 101, 109]⟩, ⟨#[61, 61]⟩, ⟨#[47, 61]⟩, ⟨#[61, 58, 61]⟩, ⟨#[61, 47, 61]⟩, ⟨#[60]⟩, ⟨#[61, 60]⟩, ⟨#[62]⟩, ⟨#[62, 61]⟩, ⟨#[97, 110, 100]⟩, ⟨#[111, 114]⟩, ⟨#[120, 111, 114]⟩, ⟨#[101, 108, 101, 109, 101, 110, 116]⟩, ⟨#[105, 115, 95, 102, 117, 110, 99, 116, 105, 111, 110]⟩]
  | 3, 0 => [⟨#[115, 101, 108, 102]⟩, ⟨#[109, 97, 107, 101, 95, 114, 101, 102]⟩, ⟨#[110, 111, 119]⟩]
  | 3, 1 => [⟨#[115, 112, 97, 119, 110]⟩, ⟨#[115, 112, 97, 119, 110, 95, 108, 105, 110, 107]⟩, ⟨#[115, 112, 97, 119, 110, 95, 109, 111, 110, 105, 116, 111, 114]⟩, ⟨#[108, 105, 110, 107]⟩, ⟨#[117, 110, 108, 105, 110, 107]⟩, ⟨#[109, 111, 110, 105, 116, 111, 114]⟩, ⟨#[100, 101, 109, 111, 110, 105, 116, 111, 114]⟩, ⟨#[116, 114, 97, 112, 95, 101, 120, 105, 116]⟩, ⟨#[117, 110, 114, 101, 103, 105, 115, 116, 101, 114]⟩, ⟨#[119, 104, 101, 114, 101, 105, 115]⟩, ⟨#[112, 114, 105, 110, 116]⟩]
  | 3, 2 => [⟨#[33]⟩, ⟨#[101, 120, 105, 116]⟩, ⟨#[114, 101, 103, 105, 115, 116, 101, 114]⟩]
  | _, _ => []
/-- Strings in a row. -/
def StrAt (w : World) (a : Option Addr) (L : List ByteArray) : Prop := L = [] ∨ ∃ b o, a = some ⟨b, o, none⟩ ∧ ∀ i (hi : i < L.length), w.cell? ⟨b, o + i, none⟩ = some (.string L[i])
/-- The table is laid. -/
def Blt (w : World) : Prop := ∀ k a, k < 4 → a < 4 → ∃ ad c, w.cell? ⟨0, k * 4 + a, none⟩ = some (.slice ad (bltT k a).length c) ∧ StrAt w ad (bltT k a)
/-- Is a name one of these? -/
def inL (s : ByteArray) (L : List ByteArray) : Bool := L.any fun x => x.toList == s.toList
/-- What kind a name has from a kind on. -/
def kindF (s : ByteArray) (a : Nat) : Nat → Nat → Nat
  | 0, _ => 0
  | n + 1, k => if inL s (bltT k a) then k else kindF s a n (k + 1)
def kindS (s : ByteArray) (a : Int) : Nat := if a < 0 ∨ 4 ≤ a then 0 else kindF s a.toNat 4 0

theorem bltT_len : ∀ k, k < 4 → ∀ a, a < 4 → (bltT k a).length ≤ 20 := by decide

set_option maxHeartbeats 4000000 in
set_option maxRecDepth 100000 in
theorem Kind_any (s : ByteArray) (a : Int) (w : World) (hB : Blt w) : Calls Tryz.prog 43 #[.string s, .int .i64 a] w fun e w' => e = .returned (.int .i64 (kindS s a : Nat)) ∧ w' = w := by
  obtain ⟨R, hR⟩ : ∃ R, R = kindS s a := ⟨_, rfl⟩
  rw [← hR]
  by_cases h0 : a < 0
  · have e : R = 0 := by rw [hR]; unfold kindS; rw [if_pos (Or.inl h0)]
    subst e
    clear hR
    go_enter Tryz.func43, Tryz.ntmps43
    go_wp2
    go_ret
    exact ⟨rfl, rfl⟩
  · by_cases h4 : 4 ≤ a
    · have e : R = 0 := by rw [hR]; unfold kindS; rw [if_pos (Or.inr h4)]
      subst e
      clear hR
      go_enter Tryz.func43, Tryz.ntmps43
      go_wp2
      go_ret
      exact ⟨rfl, rfl⟩
    · obtain ⟨n, rfl⟩ : ∃ n : Nat, a = n := ⟨a.toNat, by omega⟩
      have hn : n < 4 := by omega
      have hRR : R = kindF s n 4 0 := by rw [hR]; unfold kindS; rw [if_neg (by omega)]; rfl
      have HB : Hid (Blt w) := hB
      have HRR : Hid (R = kindF s n 4 0) := hRR
      clear hB hR hRR h0 h4
      go_enter Tryz.func43, Tryz.ntmps43
      go_wp2_with fail
      go_loopw [14] (fun i wr => ∃ k : Nat, k ≤ 4 ∧ i = .int .i64 k ∧ wr = w ∧ R = kindF s n (4 - k) k) (fun i _ => 4 - (intOf i).toNat)
      case atStart => exact ⟨0, by omega, rfl, rfl, HRR.out⟩
      case round =>
        obtain ⟨k, hk, rfl, rfl, hE⟩ := hrel
        by_cases hk4 : k < 4
        · obtain ⟨ad, c, hcell, hS⟩ := HB.out k n hk4 hn
          have hE2 : R = if inL s (bltT k n) then k else kindF s n (4 - (k + 1)) (k + 1) := by
            rw [hE, show 4 - k = (4 - (k + 1)) + 1 by omega]
            rfl
          have HE : Hid _ := hE2
          have hkk : (k : Int) < 4 := by omega
          have hnn : (n : Int) < 4 := by omega
          have hLl := bltT_len k hk4 n hn
          obtain ⟨L, hL⟩ : ∃ L, L = bltT k n := ⟨_, rfl⟩
          rw [← hL] at hcell hS HE hLl
          clear hE hE2 hL
          go_wp2_with fail
          go_loopw [23] (fun j wr2 => ∃ i : Nat, i ≤ L.length ∧ j = .int .i64 i ∧ wr2 = wr ∧ inL s (L.take i) = false) (fun j _ => L.length - (intOf j).toNat)
          case atStart => exact ⟨0, by omega, rfl, rfl, rfl⟩
          case round =>
            obtain ⟨i, hi, rfl, rfl, hN⟩ := hrel
            have HN : Hid (inL s (L.take i) = false) := hN
            clear hN
            by_cases hlt : i < L.length
            · rcases hS with h0 | ⟨b, o, rfl, hc⟩
              · rw [h0] at hlt; simp at hlt
              have hci := hc i hlt
              have hlt' : (i : Int) < (L.length : Int) := by omega
              obtain ⟨x, hx⟩ : ∃ x, x = L[i] := ⟨_, rfl⟩
              rw [← hx] at hci
              have HT : Hid (inL s (L.take (i + 1)) = (inL s (L.take i) || (x.toList == s.toList))) := by
                show _ = _
                rw [hx, List.take_succ_eq_append_getElem hlt]
                unfold inL
                rw [List.any_append]
                simp
              have HL : Hid (inL s (L.take (i + 1)) = true → inL s L = true) := fun h => by
                unfold inL at h ⊢
                rw [List.any_eq_true] at h ⊢
                obtain ⟨y, h1, h2⟩ := h
                exact ⟨y, List.mem_of_mem_take h1, h2⟩
              clear hx hc
              cases hxs : (x.toList == s.toList) with
              | true =>
                go_wp2_with fail
                go_ret
                have e : inL s L = true := HL.out (by rw [HT.out, hxs, Bool.or_true])
                refine ⟨?_, rfl⟩
                rw [HE.out, if_pos e]
                rfl
              | false =>
                go_wp2_with fail
                exact ⟨⟨i + 1, by omega, by simp, trivial, by rw [HT.out, HN.out, hxs]; rfl⟩, by simp [intOf]; omega⟩
            · have hii : i = L.length := by omega
              subst hii
              have e : inL s L = false := by have := HN.out; rwa [List.take_length] at this
              go_wp2_with fail
              go_roundw
              case rel => exact ⟨k + 1, by omega, by go_num, trivial, by rw [HE.out, e]; rfl⟩
              case measure => simp [intOf]; omega
        · obtain rfl : k = 4 := by omega
          have e : R = 0 := hE
          subst e
          clear hk hk4 hE
          go_wp2_with fail
          go_ret
          exact ⟨rfl, rfl⟩

end Go.Proofs.YtnpocmhaoaigfaaGreatDoor

/- What package bif asks of its arguments: all, of whatever question. -/
namespace Go.Proofs.YtnpocmhaoaigfaaGreatDoor
open Go.RowKit

theorem any_take (I : List Tm) (P : Tm → Bool) (k : Nat) (hk : k < I.length) : (I.take (k + 1)).any P = ((I.take k).any P || P I[k]) := by
  rw [List.take_succ_eq_append_getElem hk, List.any_append]
  simp
theorem any_of_take (I : List Tm) (P : Tm → Bool) (k : Nat) (h : (I.take k).any P = true) : I.any P = true := by
  rw [List.any_eq_true] at h ⊢
  obtain ⟨y, h1, h2⟩ := h
  exact ⟨y, List.mem_of_mem_take h1, h2⟩
/-- Where the first one is. -/
def IdxP (b : Bool) (e : Ending) : Prop := ∃ z : Int, e = .returned (.int .i64 z) ∧ decide (0 ≤ z) = b

set_option maxHeartbeats 4000000 in
set_option maxRecDepth 100000 in
theorem indexFunc_gen (a : Option Addr) (c d : Nat) (I : List Tm) (fid : Nat) (cp : Array Value) (P : Tm → Bool) (w : World) (hz : I.length ≤ 1353245080330) (hI : RowAt (In w d) w a I)
    (eg : ∀ args w, (callFunc fid args).run Tryz.prog w = .ok (.enter fid args) w)
    (hp : ∀ k (hk : k < I.length) (cs : List Value) (W : World), Upd [] w W → In W d cs I[k] → Calls Tryz.prog fid (#[.agg cs.toArray] ++ cp) W fun e w' => e = .returned (.bool (P I[k])) ∧ Upd [] W w') :
    Calls Tryz.prog 66 #[.slice a I.length c, .func (.func fid) #[] cp] w fun e w' => IdxP (I.any P) e ∧ Upd [] w w' := by
  have HP : Hid (∀ k (hk : k < I.length) (cs : List Value) (W : World), Upd [] w W → In W d cs I[k] → Calls Tryz.prog fid (#[.agg cs.toArray] ++ cp) W fun e w' => e = .returned (.bool (P I[k])) ∧ Upd [] W w') := hp
  have HI : Hid (RowAt (In w d) w a I) := hI
  clear hp hI
  go_enter Tryz.func66, Tryz.ntmps66
  go_wp2
  go_loopw [8] (fun i wr => ∃ k : Nat, k ≤ I.length ∧ i = .int .i64 k ∧ (I.take k).any P = false ∧ Upd [] w wr) (fun i _ => I.length - (intOf i).toNat)
  case atStart => exact ⟨0, Nat.zero_le _, rfl, rfl, Upd.refl _ _⟩
  case round =>
    obtain ⟨k, hk, rfl, hN, hU⟩ := hrel
    have HN : Hid ((I.take k).any P = false) := hN
    have HU : Hid (Upd [] w wr) := hU
    clear hN
    by_cases hlt : k < I.length
    · have i1 : (k : Int) < (I.length : Int) := by omega
      rcases HI.out with h0 | ⟨b, o, rfl, hb, hc⟩
      · rw [h0] at hlt; simp at hlt
      obtain ⟨cs, hl7, hcell, hin⟩ := hc k hlt
      obtain ⟨q0, q1, q2, q3, q4, q5, q6, rfl⟩ := list7 hl7
      have HIN : Hid (In w d [q0, q1, q2, q3, q4, q5, q6] I[k]) := hin
      have x0 : wr.cell? ⟨b, o + k * 7, none⟩ = some q0 := (hU.cell (p := ⟨b, o + (k * 7 + 0), none⟩) hb (by simp)).trans (hcell 0 (by omega))
      have x1 : wr.cell? ⟨b, o + k * 7 + 1, none⟩ = some q1 := (hU.cell (p := ⟨b, o + (k * 7 + 1), none⟩) hb (by simp)).trans (hcell 1 (by omega))
      have x2 : wr.cell? ⟨b, o + k * 7 + 2, none⟩ = some q2 := (hU.cell (p := ⟨b, o + (k * 7 + 2), none⟩) hb (by simp)).trans (hcell 2 (by omega))
      have x3 : wr.cell? ⟨b, o + k * 7 + 3, none⟩ = some q3 := (hU.cell (p := ⟨b, o + (k * 7 + 3), none⟩) hb (by simp)).trans (hcell 3 (by omega))
      have x4 : wr.cell? ⟨b, o + k * 7 + 4, none⟩ = some q4 := (hU.cell (p := ⟨b, o + (k * 7 + 4), none⟩) hb (by simp)).trans (hcell 4 (by omega))
      have x5 : wr.cell? ⟨b, o + k * 7 + 5, none⟩ = some q5 := (hU.cell (p := ⟨b, o + (k * 7 + 5), none⟩) hb (by simp)).trans (hcell 5 (by omega))
      have x6 : wr.cell? ⟨b, o + k * 7 + 6, none⟩ = some q6 := (hU.cell (p := ⟨b, o + (k * 7 + 6), none⟩) hb (by simp)).trans (hcell 6 (by omega))
      clear hc hcell hin hU
      go_wp2_with fail
      refine Calls.mono (HP.out k hlt _ _ HU.out (In.mono HU.out _ _ _ HIN.out)) ?_
      rintro e w2 ⟨rfl, hU2⟩
      have HU2 : Hid (Upd [] w w2) := HU.out.trans hU2
      have HT : Hid ((I.take (k + 1)).any P = ((I.take k).any P || P I[k])) := any_take I P k hlt
      clear hU2 x0 x1 x2 x3 x4 x5 x6
      cases hv : P I[k] with
      | true =>
        go_wp2
        go_ret
        have e1 : I.any P = true := any_of_take I P (k + 1) (by rw [HT.out, hv, Bool.or_true])
        exact ⟨⟨_, rfl, by rw [e1]; simp⟩, HU2.out⟩
      | false =>
        go_wp2
        go_roundw
        case rel => exact ⟨k + 1, by omega, by go_num, by rw [HT.out, HN.out, hv]; rfl, HU2.out⟩
        case measure => simp [intOf]; omega
    · have hd : decide ((k : Int) < (I.length : Int)) = false := by simp; omega
      have e1 : Hid (I.any P = false) := by
        have h1 := HN.out
        rw [List.take_of_length_le (by omega)] at h1
        exact h1
      clear hU
      go_wp2
      go_ret
      exact ⟨⟨_, rfl, by rw [e1.out]; rfl⟩, HU.out⟩

set_option maxHeartbeats 4000000 in
set_option maxRecDepth 100000 in
theorem contains_gen (a : Option Addr) (c d : Nat) (I : List Tm) (fid : Nat) (cp : Array Value) (P : Tm → Bool) (w : World) (hz : I.length ≤ 1353245080330) (hI : RowAt (In w d) w a I)
    (eg : ∀ args w, (callFunc fid args).run Tryz.prog w = .ok (.enter fid args) w)
    (hp : ∀ k (hk : k < I.length) (cs : List Value) (W : World), Upd [] w W → In W d cs I[k] → Calls Tryz.prog fid (#[.agg cs.toArray] ++ cp) W fun e w' => e = .returned (.bool (P I[k])) ∧ Upd [] W w') :
    Calls Tryz.prog 44 #[.slice a I.length c, .func (.func fid) #[] cp] w fun e w' => e = .returned (.bool (I.any P)) ∧ Upd [] w w' := by
  have H : Hid _ := indexFunc_gen a c d I fid cp P w hz hI eg hp
  obtain ⟨R, hR⟩ : ∃ R, R = I.any P := ⟨_, rfl⟩
  rw [← hR] at H ⊢
  clear hp hI hR
  go_enter Tryz.func44, Tryz.ntmps44
  go_wp2_with fail
  refine Calls.mono H.out ?_
  rintro e w2 ⟨⟨z, rfl, hd⟩, hU⟩
  have HU : Hid (Upd [] w w2) := hU
  have HD : Hid (decide (0 ≤ z) = R) := hd
  clear hd hU
  go_wp2
  go_ret
  exact ⟨by rw [← HD.out]; first | rfl | (rw [HD.out]; rfl), HU.out⟩

set_option maxHeartbeats 4000000 in
set_option maxRecDepth 100000 in
theorem all_c1 (q fid : Nat) (cp : Array Value) (b : Bool) (cs : List Value) (w : World) (hl : cs.length = 7)
    (eg : ∀ args w, (callFunc fid args).run Tryz.prog w = .ok (.enter fid args) w)
    (hF : FunB w q (.func (.func fid) #[] cp) 29)
    (hp : ∀ W, Upd [] w W → Calls Tryz.prog fid (#[.agg cs.toArray] ++ cp) W fun e w' => e = .returned (.bool b) ∧ Upd [] W w') :
    Calls Tryz.prog 45 #[.agg cs.toArray, .pointer (some ⟨q, 0, none⟩)] w fun e w' => e = .returned (.bool (!b)) ∧ Upd [] w w' := by
  obtain ⟨q0, q1, q2, q3, q4, q5, q6, rfl⟩ := list7 hl
  have HP : Hid (∀ W, Upd [] w W → Calls Tryz.prog fid (#[.agg #[q0, q1, q2, q3, q4, q5, q6]] ++ cp) W fun e w' => e = .returned (.bool b) ∧ Upd [] W w') := hp
  have hU1 : Upd [] w (w.alloc (.cells #[q0, q1, q2, q3, q4, q5, q6] 26)) := (Upd.refl [] w).alloc _
  have tb0 : Tb (w.alloc (.cells #[q0, q1, q2, q3, q4, q5, q6] 26)) w.heap.size #[q0, q1, q2, q3, q4, q5, q6] := Tb.new _ _ _ rfl
  have x0 := (hF.mono hU1 (by simp)).cell
  have HU1 : Hid _ := hU1
  clear hp hF hU1
  go_enter Tryz.func45, Tryz.ntmps45
  go_wp2_with (first | (refine load_G _ _ rfl _ _ rfl tb0 rfl rfl ?_) | fail)
  refine Calls.mono (HP.out _ HU1.out) ?_
  rintro e w2 ⟨rfl, hU2⟩
  have HU2 : Hid (Upd [] w w2) := HU1.out.trans hU2
  clear hU2 tb0 x0
  cases b
  all_goals
    go_wp2
    go_ret
    exact ⟨rfl, HU2.out⟩

theorem all_not (I : List Tm) (P : Tm → Bool) : (!(I.any fun t => !P t)) = I.all P := by
  induction I with
  | nil => rfl
  | cons t r ih => simp only [List.any_cons, List.all_cons, Bool.not_or, Bool.not_not, ih]

set_option maxHeartbeats 4000000 in
set_option maxRecDepth 100000 in
/-- all of package bif, of whatever function that answers P. -/
theorem all_gen (a : Option Addr) (c d : Nat) (I : List Tm) (fid : Nat) (cp : Array Value) (P : Tm → Bool) (w : World) (hz : I.length ≤ 1353245080330) (hI : RowAt (In w d) w a I)
    (eg : ∀ args w, (callFunc fid args).run Tryz.prog w = .ok (.enter fid args) w)
    (hp : ∀ k (hk : k < I.length) (cs : List Value) (W : World), Upd [] w W → In W d cs I[k] → Calls Tryz.prog fid (#[.agg cs.toArray] ++ cp) W fun e w' => e = .returned (.bool (P I[k])) ∧ Upd [] W w') :
    Calls Tryz.prog 23 #[.func (.func fid) #[] cp, .slice a I.length c] w fun e w' => e = .returned (.bool (I.all P)) ∧ Upd [] w w' := by
  have hU1 : Upd [] w (w.alloc (.cells #[.func (.func fid) #[] cp] 29)) := (Upd.refl [] w).alloc _
  have hF : FunB (w.alloc (.cells #[.func (.func fid) #[] cp] 29)) w.heap.size (.func (.func fid) #[] cp) 29 := FunB.new _ _ _ _ rfl
  have H : Hid _ := contains_gen a c d I 45 #[.pointer (some ⟨w.heap.size, 0, none⟩)] (fun t => !P t) (w.alloc (.cells #[.func (.func fid) #[] cp] 29)) hz (hI.imp hU1 (fun cs t h => In.mono hU1 d cs t h)) Tryz.call45 (fun k hk cs W hu hin => by
    have hl : cs.length = 7 := by have := hin.seven; simpa using this
    exact all_c1 w.heap.size fid cp (P I[k]) cs W hl eg (hF.mono hu (by simp)) (fun V hv => hp k hk cs V ((hU1.trans hu).trans hv) (In.mono hv _ _ _ hin)))
  have HU1 : Hid _ := hU1
  have HA : Hid ((!(I.any fun t => !P t)) = I.all P) := all_not I P
  obtain ⟨S, hS⟩ : ∃ S, S = I.all P := ⟨_, rfl⟩
  obtain ⟨R, hR⟩ : ∃ R, R = I.any fun t => !P t := ⟨_, rfl⟩
  rw [← hR] at H HA
  rw [← hS] at HA ⊢
  clear hp hI hR hU1 hF hS
  go_enter Tryz.func23, Tryz.ntmps23
  go_wp2_with fail
  refine Calls.mono H.out ?_
  rintro e w2 ⟨rfl, hU⟩
  have HU : Hid (Upd [] w w2) := HU1.out.trans hU
  clear hU
  go_wp2
  go_ret
  exact ⟨by rw [← HA.out]; rfl, HU.out⟩

end Go.Proofs.YtnpocmhaoaigfaaGreatDoor
