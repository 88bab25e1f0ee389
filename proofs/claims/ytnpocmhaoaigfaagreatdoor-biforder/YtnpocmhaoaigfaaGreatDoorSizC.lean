/- Size and Right of package term, by their contracts. -/
import Derived.Test.YtnpocmhaoaigfaaGreatDoorSizB
import Derived.Deep.RegionWith
namespace Go.Proofs.YtnpocmhaoaigfaaGreatDoor
open Go.RowKit

/-- A number in a block of its own. -/
def IntB (w : World) (b : Nat) (n : Int) : Prop := w.heap[b]? = some (.cells #[.int .i64 n] 3 (0, 0))
theorem IntB.lt {w : World} {b : Nat} {n : Int} (h : IntB w b n) : b < w.heap.size := lt_of_block h
theorem IntB.cell {w : World} {b : Nat} {n : Int} (h : IntB w b n) : w.cell? ⟨b, 0, none⟩ = some (.int .i64 n) := cell_of_row w b 0 _ _ _ h
theorem IntB.free {w : World} {b : Nat} {n : Int} (h : IntB w b n) : w.frozen? ⟨b, 0, none⟩ = false := frozen_of_row w b 0 _ _ h
theorem IntB.set {w : World} {b : Nat} {n : Int} (h : IntB w b n) (m : Int) : IntB (w.setCell ⟨b, 0, none⟩ (.int .i64 m)) b m := by
  unfold IntB
  rw [heap_setCell_same w b 0 _ _ _ h]
  rfl
theorem IntB.mono {S : List Nat} {w w' : World} {b : Nat} {n : Int} (h : IntB w b n) (hu : Upd S w w') (hn : b ∉ S) : IntB w' b n := (hu.block b h.lt hn).trans h
/-- A function in a block of its own. -/
def FunB (w : World) (b : Nat) (v : Value) (T : TypeId) : Prop := w.heap[b]? = some (.cells #[v] T (0, 0))
theorem FunB.lt {w : World} {b : Nat} {v : Value} {T : TypeId} (h : FunB w b v T) : b < w.heap.size := lt_of_block h
theorem FunB.cell {w : World} {b : Nat} {v : Value} {T : TypeId} (h : FunB w b v T) : w.cell? ⟨b, 0, none⟩ = some v := cell_of_row w b 0 _ _ _ h
theorem FunB.mono {S : List Nat} {w w' : World} {b : Nat} {v : Value} {T : TypeId} (h : FunB w b v T) (hu : Upd S w w') (hn : b ∉ S) : FunB w' b v T := (hu.block b h.lt hn).trans h

/-- Trees stand as they stood, where only a number's block has turned. -/
theorem In.upd {S : List Nat} {w w' : World} (hu : Upd S w w') (hS : ∀ b ∈ S, ∃ n, IntB w b n) : ∀ (d : Nat) (cs : List Value) (t : Tm), In w d cs t → In w' d cs t := by
  intro d
  induction d with
  | zero => intro cs t h; exact h.elim
  | succ d ih =>
    intro cs t h
    cases t with
    | mk k num neg L s I T =>
      obtain ⟨a, ai, at', c, ci, ct, rfl, h1, h2, h3, h4⟩ := h
      have row : ∀ (a : Option Addr) (I : List Tm), RowAt (In w d) w a I → RowAt (In w' d) w' a I := by
        intro a I h
        rcases h with h | ⟨b, o, e, hlt, hc⟩
        · exact Or.inl h
        · by_cases hI : I = []
          · exact Or.inl hI
          have hpos : 0 < I.length := by cases I with | nil => exact absurd rfl hI | cons x t => simp
          have hb : b ∉ S := fun hm => by
            obtain ⟨n, hn⟩ := hS b hm
            obtain ⟨cs, k1, k2, k3⟩ := hc 0 hpos
            have hk := k2 0 (by omega)
            rw [k3.kd] at hk
            have := cell_of_row w b (o + (0 * 7 + 0)) _ _ _ hn
            rw [this] at hk
            cases ho : o + (0 * 7 + 0) with
            | zero => rw [ho] at hk; simp at hk
            | succ m => rw [ho] at hk; simp at hk
          refine Or.inr ⟨b, o, e, Nat.lt_of_lt_of_le hlt hu.size, fun i hi => ?_⟩
          obtain ⟨cs, k1, k2, k3⟩ := hc i hi
          exact ⟨cs, k1, fun j hj => (hu.cell (p := ⟨b, o + (i * 7 + j), none⟩) hlt hb).trans (k2 j hj), ih _ _ k3⟩
      refine ⟨a, ai, at', c, ci, ct, rfl, ?_, h2, row ai I h3, row at' T h4⟩
      rcases h1 with h | ⟨b, o, e, hlt, hc⟩
      · exact Or.inl h
      · by_cases hL : L = []
        · exact Or.inl hL
        have hpos : 0 < L.length := by cases L with | nil => exact absurd rfl hL | cons x t => simp
        have hb : b ∉ S := fun hm => by
          obtain ⟨n, hn⟩ := hS b hm
          have hk := hc 0 hpos
          have := cell_of_row w b (o + 0) _ _ _ hn
          rw [this] at hk
          cases ho : o + 0 with
          | zero => rw [ho] at hk; simp at hk
          | succ m => rw [ho] at hk; simp at hk
        exact Or.inr ⟨b, o, e, Nat.lt_of_lt_of_le hlt hu.size, fun i hi => (hu.cell (p := ⟨b, o + i, none⟩) hlt hb).trans (hc i hi)⟩
theorem RowAt.upd {S : List Nat} {w w' : World} (hu : Upd S w w') (hS : ∀ b ∈ S, ∃ n, IntB w b n) (d : Nat) (a : Option Addr) (I : List Tm) (h : RowAt (In w d) w a I) : RowAt (In w' d) w' a I := by
  have h1 : In w (d + 1) [.int .u8 0, .bool false, .slice none 0 0, .string ⟨#[]⟩, .int .i64 0, .slice a I.length 0, .slice none 0 0] (.mk 0 0 false [] ⟨#[]⟩ I []) := ⟨none, a, none, 0, 0, 0, rfl, At.nil _ _, Dig.nil, h, Or.inl rfl⟩
  obtain ⟨_, _, _, _, _, _, e, _, _, h2, _⟩ := In.upd hu hS _ _ _ h1
  simp only [List.cons.injEq, Value.slice.injEq] at e
  rw [← e.2.2.2.2.2.1.1] at h2
  exact h2

/-- What counting is to answer. -/
def CntP (w : World) (b : Nat) (n : Nat) (ok : Bool) (z : Nat) (e : Ending) (w' : World) : Prop := ∃ m : Int, e = .returned (.bool (ok && decide (n + z ≤ 4096))) ∧ IntB w' b m ∧ Upd [b] w w' ∧ ((ok && decide (n + z ≤ 4096)) = true → m = (n + z : Nat))
/-- Of depth d: the closure count. -/
def CntSaid (d : Nat) : Prop := ∀ (w : World) (b q : Nat) (n : Nat) (cs : List Value) (t : Tm), In w d cs t → tsz t ≤ 1353245080330 → IntB w b n → n ≤ 4096 → FunB w q (.func (.func 33) #[] #[.pointer (some ⟨b, 0, none⟩), .pointer (some ⟨q, 0, none⟩)]) 29 →
  Calls Tryz.prog 33 #[.agg cs.toArray, .pointer (some ⟨b, 0, none⟩), .pointer (some ⟨q, 0, none⟩)] w (CntP w b n (okT' t) (szT t))

theorem okR_take (I : List Tm) (k : Nat) (hk : k < I.length) : okR (I.take (k + 1)) = (okR (I.take k) && okT' I[k]) := by
  induction I generalizing k with
  | nil => simp at hk
  | cons t r ih =>
    cases k with
    | zero => simp [okR]
    | succ k => simp only [List.take_succ_cons, okR, List.getElem_cons_succ]; rw [ih k (by simpa using hk), Bool.and_assoc]
theorem szR_take (I : List Tm) (k : Nat) (hk : k < I.length) : szR (I.take (k + 1)) = szR (I.take k) + szT I[k] := by
  induction I generalizing k with
  | nil => simp at hk
  | cons t r ih =>
    cases k with
    | zero => simp [szR]
    | succ k => simp only [List.take_succ_cons, szR, List.getElem_cons_succ]; rw [ih k (by simpa using hk), Nat.add_assoc]
theorem okR_bad (I : List Tm) (k : Nat) (hk : k < I.length) (h : okT' I[k] = false) : okR I = false := by
  induction I generalizing k with
  | nil => simp at hk
  | cons t r ih =>
    cases k with
    | zero => simp only [List.getElem_cons_zero] at h; simp [okR, h]
    | succ k => simp only [List.getElem_cons_succ] at h; simp [okR, ih k (by simpa using hk) h]
theorem szR_le (I : List Tm) (k : Nat) : szR (I.take k) ≤ szR I := by
  induction I generalizing k with
  | nil => simp
  | cons t r ih =>
    cases k with
    | zero => simp [szR]
    | succ k => simp only [List.take_succ_cons, szR]; have := ih k; omega
theorem list7 {cs : List Value} (h : cs.length = 7) : ∃ c0 c1 c2 c3 c4 c5 c6, cs = [c0, c1, c2, c3, c4, c5, c6] := by
  match cs, h with
  | [c0, c1, c2, c3, c4, c5, c6], _ => exact ⟨c0, c1, c2, c3, c4, c5, c6, rfl⟩
theorem In.one {w : World} {d : Nat} {cs : List Value} {t : Tm} (h : In w d cs t) : cs.toArray.all (·.oneCell') = true := by
  cases d with
  | zero => exact h.elim
  | succ d =>
    cases t
    obtain ⟨_, _, _, _, _, _, rfl, _⟩ := h
    simp [Value.oneCell']

set_option maxHeartbeats 4000000 in
set_option maxRecDepth 100000 in
theorem all_in (d : Nat) (ih : CntSaid d) (w : World) (b q n : Nat) (a : Option Addr) (c : Nat) (I : List Tm) (h : RowAt (In w d) w a I) (hs : tszs I ≤ 1353245080330) (hB : IntB w b n) (hn : n ≤ 4096)
    (hF : FunB w q (.func (.func 33) #[] #[.pointer (some ⟨b, 0, none⟩), .pointer (some ⟨q, 0, none⟩)]) 29) :
    Calls Tryz.prog 36 #[.slice a I.length c, .func (.func 33) #[] #[.pointer (some ⟨b, 0, none⟩), .pointer (some ⟨q, 0, none⟩)]] w (CntP w b n (okR I) (szR I)) := by
  have hlen : I.length ≤ 1353245080330 := Nat.le_trans (tszs_len I) hs
  have HS : Hid (tszs I ≤ 1353245080330) := hs
  have HA : Hid (RowAt (In w d) w a I) := h
  have IH : Hid (CntSaid d) := ih
  have HF : Hid (FunB w q _ _) := hF
  have HIB : Hid (IntB w b n) := hB
  have hbq : q ≠ b := fun e => by
    subst e
    have h1 := hF.symm.trans hB
    simp at h1
  have hblt := hB.lt
  clear hs h ih hF hB
  have hcall : ∀ args w, (callFunc 33 args).run Tryz.prog w = .ok (.enter 33 args) w := Tryz.call33
  go_enter Tryz.func36, Tryz.ntmps36
  go_wp2
  go_loopw [9] (fun i wr => ∃ k : Nat, k ≤ I.length ∧ i = .int .i64 k ∧ okR (I.take k) = true ∧ n + szR (I.take k) ≤ 4096 ∧ IntB wr b (n + szR (I.take k) : Nat) ∧ Upd [b] w wr) (fun i _ => I.length - (intOf i).toNat)
  case atStart => exact ⟨0, Nat.zero_le _, rfl, rfl, by simp [szR]; omega, by simpa [szR] using HIB.out, Upd.refl _ _⟩
  case round =>
    obtain ⟨k, hk, rfl, hok, hle, hB, hU⟩ := hrel
    have HK : Hid (okR (I.take k) = true ∧ n + szR (I.take k) ≤ 4096) := ⟨hok, hle⟩
    have HB : Hid (IntB wr b (n + szR (I.take k) : Nat)) := hB
    have HU : Hid (Upd [b] w wr) := hU
    have HA2 := RowAt.upd hU (fun x hx => by simp at hx; subst hx; exact ⟨_, HIB.out⟩) d a I HA.out
    clear hok hle hB hU
    by_cases hlt : k < I.length
    · rcases HA2 with h0 | ⟨b0, o, rfl, hb0, hc⟩
      · rw [h0] at hlt; simp at hlt
      obtain ⟨cs, hl7, hcell, hin⟩ := hc k hlt
      have hone := hin.one
      obtain ⟨q0, q1, q2, q3, q4, q5, q6, rfl⟩ := list7 hl7
      have HIN : Hid (In wr d [q0, q1, q2, q3, q4, q5, q6] I[k]) := hin
      have HSZ : Hid (tsz I[k] ≤ 1353245080330) := Nat.le_trans (tszs_get I k hlt) HS.out
      have xq0 : wr.cell? ⟨b0, o + k * 7, none⟩ = some q0 := hcell 0 (by omega)
      have xq1 : wr.cell? ⟨b0, o + k * 7 + 1, none⟩ = some q1 := hcell 1 (by omega)
      have xq2 : wr.cell? ⟨b0, o + k * 7 + 2, none⟩ = some q2 := hcell 2 (by omega)
      have xq3 : wr.cell? ⟨b0, o + k * 7 + 3, none⟩ = some q3 := hcell 3 (by omega)
      have xq4 : wr.cell? ⟨b0, o + k * 7 + 4, none⟩ = some q4 := hcell 4 (by omega)
      have xq5 : wr.cell? ⟨b0, o + k * 7 + 5, none⟩ = some q5 := hcell 5 (by omega)
      have xq6 : wr.cell? ⟨b0, o + k * 7 + 6, none⟩ = some q6 := hcell 6 (by omega)
      have i1 : (k : Int) < (I.length : Int) := by omega
      have tbz : Tb (wr.alloc (.cells #[.int .u8 0, .bool false, .slice none 0 0, .string ⟨#[]⟩, .int .i64 0, .slice none 0 0, .slice none 0 0] 26)) wr.heap.size #[.int .u8 0, .bool false, .slice none 0 0, .string ⟨#[]⟩, .int .i64 0, .slice none 0 0, .slice none 0 0] := Tb.new _ _ _ rfl
      clear hc hcell hin
      go_wp2_with (first
        | (refine store_T _ rfl _ _ rfl _ #[q0, q1, q2, q3, q4, q5, q6] _ rfl rfl tbz rfl rfl hone ?_; intro w1 hT1 hU1)
        | (refine load_T _ rfl _ rfl _ _ rfl hT1 rfl ?_))
      have hw1 : Upd [] wr w1 := ((Upd.refl [] wr).alloc _).then hU1 (by simp)
      have hF1 := (HF.out.mono HU.out (by simp; exact hbq)).mono hw1 (by simp)
      refine (IH.out w1 b q (n + szR (I.take k)) [q0, q1, q2, q3, q4, q5, q6] I[k] (In.mono hw1 _ _ _ HIN.out) HSZ.out (HB.out.mono hw1 (by simp)) HK.out.2 hF1).mono ?_
      rintro e w2 ⟨m, rfl, hB2, hU2, hm⟩
      have HU2 : Hid (Upd [b] w w2) := (HU.out.then hw1 (by simp)).trans hU2
      have HB2 : Hid (IntB w2 b m) := hB2
      have HM : Hid _ := hm
      have HV : Hid ((okT' I[k] && decide (n + szR (I.take k) + szT I[k] ≤ 4096)) = false → (okR I && decide (n + szR I ≤ 4096)) = false) := fun hv => by
        cases ho : okT' I[k] with
        | false => rw [okR_bad I k hlt ho]; rfl
        | true =>
          rw [ho, Bool.true_and, decide_eq_false_iff_not] at hv
          have h1 := szR_take I k hlt
          have h2 := szR_le I (k + 1)
          rw [decide_eq_false (by omega), Bool.and_false]
      clear hw1 hF1 hU1 hT1 hU2 hB2 hm xq0 xq1 xq2 xq3 xq4 xq5 xq6 tbz
      cases hv : (okT' I[k] && decide (n + szR (I.take k) + szT I[k] ≤ 4096)) with
      | true =>
        go_wp2
        go_roundw
        case rel =>
          have hv2 := hv
          rw [Bool.and_eq_true, decide_eq_true_eq] at hv2
          have e1 : n + szR (I.take (k + 1)) = n + szR (I.take k) + szT I[k] := by rw [szR_take I k hlt]; omega
          refine ⟨k + 1, by omega, by go_num, by rw [okR_take I k hlt, HK.out.1, hv2.1]; rfl, by omega, ?_, HU2.out⟩
          have := HM.out hv
          rw [e1, ← this]
          exact HB2.out
        case measure => simp [intOf]; omega
      | false =>
        go_wp2
        go_ret
        exact ⟨m, by rw [HV.out hv]; rfl, HB2.out, HU2.out, fun h => by rw [HV.out hv] at h; cases h⟩
    · have hd : decide ((k : Int) < (I.length : Int)) = false := by simp; omega
      have e1 : I.take k = I := List.take_of_length_le (by omega)
      have HE : Hid (I.take k = I) := e1
      clear e1
      go_wp2
      go_ret
      have h1 := HK.out
      have h2 := HB.out
      rw [HE.out] at h1 h2
      have h3 : (okR I && decide (n + szR I ≤ 4096)) = true := by rw [h1.1, decide_eq_true h1.2]; rfl
      exact ⟨_, by rw [h3]; rfl, h2, HU.out, fun _ => rfl⟩

end Go.Proofs.YtnpocmhaoaigfaaGreatDoor
