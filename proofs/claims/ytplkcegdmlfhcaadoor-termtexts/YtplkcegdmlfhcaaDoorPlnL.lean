/- The statements' plain, by its contract. -/
import Derived.Test.YtplkcegdmlfhcaaDoorTof
namespace Go.Proofs.YtplkcegdmlfhcaaDoor
open Go.RowKit

mutual
/-- No ref, fun or pid in it. -/
def plU : Tm → Bool
  | .mk k _ _ _ _ I T => !(k == 3 || k == 4 || k == 5) && (plV I && plV T)
def plV : List Tm → Bool
  | [] => true
  | t :: r => plU t && plV r
end
theorem plV_take (I : List Tm) (k : Nat) (hk : k < I.length) : plV (I.take (k + 1)) = (plV (I.take k) && plU I[k]) := by
  induction I generalizing k with
  | nil => simp at hk
  | cons t r ih =>
    cases k with
    | zero => simp [plV]
    | succ k => simp only [List.take_succ_cons, plV, List.getElem_cons_succ]; rw [ih k (by simpa using hk), Bool.and_assoc]
theorem plV_bad (I : List Tm) (k : Nat) (hk : k < I.length) (h : plU I[k] = false) : plV I = false := by
  induction I generalizing k with
  | nil => simp at hk
  | cons t r ih =>
    cases k with
    | zero => simp only [List.getElem_cons_zero] at h; simp [plV, h]
    | succ k => simp only [List.getElem_cons_succ] at h; simp [plV, ih k (by simpa using hk) h]
/-- Of depth d. -/
def PlSaid (d : Nat) : Prop := ∀ (w : World) (cs : List Value) (t : Tm), In w d cs t → tsz t ≤ 1353245080330 → Calls Tryd.prog 17 #[.agg cs.toArray] w fun e w' => e = .returned (.bool (plU t)) ∧ Upd [] w w'

set_option maxHeartbeats 4000000 in
set_option maxRecDepth 100000 in
theorem Pl_step (d : Nat) (ih : PlSaid d) : PlSaid (d + 1) := by
  intro w cs t h hs
  obtain ⟨k, num, neg, L, s, I, T⟩ := t
  obtain ⟨a, ai, at', c, ci, ct, rfl, hA, hD, hI, hT⟩ := h
  simp only [tsz] at hs
  have HZ : Hid (tszs I ≤ 1353245080330 ∧ tszs T ≤ 1353245080330) := ⟨by omega, by omega⟩
  have hlI : I.length ≤ 1353245080330 := Nat.le_trans (tszs_len I) HZ.out.1
  have hlT : T.length ≤ 1353245080330 := Nat.le_trans (tszs_len T) HZ.out.2
  have HE : Hid (plU (.mk k num neg L s I T) = (!(k == 3 || k == 4 || k == 5) && (plV I && plV T))) := by show _ = _; rw [plU]
  have HI : Hid (RowAt (In w d) w ai I) := hI
  have HT0 : Hid (RowAt (In w d) w at' T) := hT
  have IH : Hid (PlSaid d) := ih
  have tb0 : Tb (w.alloc (.cells #[.int .u8 k, .bool neg, .slice a L.length c, .string s, .int .i64 num, .slice ai I.length ci, .slice at' T.length ct] 26)) w.heap.size #[.int .u8 k, .bool neg, .slice a L.length c, .string s, .int .i64 num, .slice ai I.length ci, .slice at' T.length ct] := Tb.new _ _ _ rfl
  have hU1 : Upd [] w (w.alloc (.cells #[.int .u8 k, .bool neg, .slice a L.length c, .string s, .int .i64 num, .slice ai I.length ci, .slice at' T.length ct] 26)) := (Upd.refl [] w).alloc _
  obtain ⟨W, hW⟩ : ∃ W, W = w.alloc (.cells #[.int .u8 k, .bool neg, .slice a L.length c, .string s, .int .i64 num, .slice ai I.length ci, .slice at' T.length ct] 26) := ⟨_, rfl⟩
  have hcall : ∀ args w, (callFunc 17 args).run Tryd.prog w = .ok (.enter 17 args) w := Tryd.call17
  clear hA hD hI hT ih hs
  by_cases h3 : k = 3 ∨ k = 4 ∨ k = 5
  · have hp : plU (.mk k num neg L s I T) = false := by rw [HE.out]; rcases h3 with rfl | rfl | rfl <;> simp
    rw [hp]
    clear HE HI HT0 IH HZ hcall hW hp
    rcases h3 with rfl | rfl | rfl
    all_goals
      go_enter Tryd.func17, Tryd.ntmps17
      go_wp2
      go_ret
      exact ⟨rfl, hU1⟩
  · have d3 : (k == 3) = false := by simp; omega
    have d4 : (k == 4) = false := by simp; omega
    have d5 : (k == 5) = false := by simp; omega
    have HK : Hid ((!(k == 3 || k == 4 || k == 5)) = true) := by rw [d3, d4, d5]; rfl
    have HW : Hid (Upd [] w W) := by rw [hW]; exact hU1
    have HT : Hid (Tb W w.heap.size #[.int .u8 k, .bool neg, .slice a L.length c, .string s, .int .i64 num, .slice ai I.length ci, .slice at' T.length ct]) := by rw [hW]; exact tb0
    clear h3 tb0 hU1
    go_enter Tryd.func17, Tryd.ntmps17
    go_wp2
    rw [← hW]
    clear hW d3 d4 d5
    go_loopw [3] (fun i wr => ∃ k : Nat, k ≤ I.length ∧ i = .int .i64 k ∧ plV (I.take k) = true ∧ Upd [] W wr) (fun i _ => I.length - (intOf i).toNat)
    case atStart => exact ⟨0, Nat.zero_le _, rfl, rfl, Upd.refl _ _⟩
    case round =>
      obtain ⟨n, hn, rfl, hp, hU⟩ := hrel
      have HP : Hid (plV (I.take n) = true) := hp
      have HU : Hid (Upd [] W wr) := hU
      have HR : RowAt (In wr d) wr ai I := HI.out.imp (HW.out.trans hU) (fun cs t h => In.mono (HW.out.trans hU) d cs t h)
      have x5 : wr.cell? ⟨w.heap.size, 5, none⟩ = some (.slice ai I.length ci) := (HT.out.mono hU (by simp)).cell 5
      clear hp hU
      by_cases hlt : n < I.length
      · rcases HR with h0 | ⟨b0, o, rfl, hb0, hc⟩
        · rw [h0] at hlt; simp at hlt
        obtain ⟨cs, hl7, hcell, hin⟩ := hc n hlt
        obtain ⟨q0, q1, q2, q3, q4, q5, q6, rfl⟩ := list7 hl7
        have HIN : Hid (In wr d [q0, q1, q2, q3, q4, q5, q6] I[n]) := hin
        have HSZ : Hid (tsz I[n] ≤ 1353245080330) := Nat.le_trans (tszs_get I n hlt) HZ.out.1
        have xq0 : wr.cell? ⟨b0, o + n * 7, none⟩ = some q0 := hcell 0 (by omega)
        have xq1 : wr.cell? ⟨b0, o + n * 7 + 1, none⟩ = some q1 := hcell 1 (by omega)
        have xq2 : wr.cell? ⟨b0, o + n * 7 + 2, none⟩ = some q2 := hcell 2 (by omega)
        have xq3 : wr.cell? ⟨b0, o + n * 7 + 3, none⟩ = some q3 := hcell 3 (by omega)
        have xq4 : wr.cell? ⟨b0, o + n * 7 + 4, none⟩ = some q4 := hcell 4 (by omega)
        have xq5 : wr.cell? ⟨b0, o + n * 7 + 5, none⟩ = some q5 := hcell 5 (by omega)
        have xq6 : wr.cell? ⟨b0, o + n * 7 + 6, none⟩ = some q6 := hcell 6 (by omega)
        have i1 : (n : Int) < (I.length : Int) := by omega
        clear hc hcell hin
        go_wp2_with fail
        refine Calls.mono (IH.out wr [q0, q1, q2, q3, q4, q5, q6] I[n] HIN.out HSZ.out) ?_
        rintro e w2 ⟨rfl, h2⟩
        have HU2 : Hid (Upd [] W w2) := HU.out.trans h2
        clear h2 xq0 xq1 xq2 xq3 xq4 xq5 xq6 x5
        cases hv : plU I[n] with
        | false =>
          go_wp2
          go_ret
          exact ⟨ret_bool (by rw [HE.out]; rw [plV_bad I n hlt hv]; simp), HW.out.trans HU2.out⟩
        | true =>
          go_wp2
          go_roundw
          case rel => exact ⟨n + 1, by omega, by go_num, by rw [plV_take I n hlt, HP.out, hv]; rfl, HU2.out⟩
          case measure => simp [intOf]; omega
      · have hd : decide ((n : Int) < (I.length : Int)) = false := by simp; omega
        have HA : Hid (plV I = true) := by have := HP.out; rwa [List.take_of_length_le (by omega)] at this
        clear HR
        have HAI : Hid (plV I = true) := HA.out
        have HU0 : Hid (Upd [] W wr) := HU.out
        clear HA HP HU
        go_wp2
        clear x5 hd hlt hn
        go_loopw [4] (fun i wr => ∃ k : Nat, k ≤ T.length ∧ i = .int .i64 k ∧ plV (T.take k) = true ∧ Upd [] W wr) (fun i _ => T.length - (intOf i).toNat)
        case atStart => exact ⟨0, Nat.zero_le _, rfl, rfl, HU0.out⟩
        case round =>
          obtain ⟨n, hn, rfl, hp, hU⟩ := hrel
          have HP : Hid (plV (T.take n) = true) := hp
          have HU : Hid (Upd [] W wr) := hU
          have HR : RowAt (In wr d) wr at' T := HT0.out.imp (HW.out.trans hU) (fun cs t h => In.mono (HW.out.trans hU) d cs t h)
          have x6 : wr.cell? ⟨w.heap.size, 6, none⟩ = some (.slice at' T.length ct) := (HT.out.mono hU (by simp)).cell 6
          clear hp hU
          by_cases hlt : n < T.length
          · rcases HR with h0 | ⟨b0, o, rfl, hb0, hc⟩
            · rw [h0] at hlt; simp at hlt
            obtain ⟨cs, hl7, hcell, hin⟩ := hc n hlt
            obtain ⟨q0, q1, q2, q3, q4, q5, q6, rfl⟩ := list7 hl7
            have HIN : Hid (In wr d [q0, q1, q2, q3, q4, q5, q6] T[n]) := hin
            have HSZ : Hid (tsz T[n] ≤ 1353245080330) := Nat.le_trans (tszs_get T n hlt) HZ.out.2
            have xq0 : wr.cell? ⟨b0, o + n * 7, none⟩ = some q0 := hcell 0 (by omega)
            have xq1 : wr.cell? ⟨b0, o + n * 7 + 1, none⟩ = some q1 := hcell 1 (by omega)
            have xq2 : wr.cell? ⟨b0, o + n * 7 + 2, none⟩ = some q2 := hcell 2 (by omega)
            have xq3 : wr.cell? ⟨b0, o + n * 7 + 3, none⟩ = some q3 := hcell 3 (by omega)
            have xq4 : wr.cell? ⟨b0, o + n * 7 + 4, none⟩ = some q4 := hcell 4 (by omega)
            have xq5 : wr.cell? ⟨b0, o + n * 7 + 5, none⟩ = some q5 := hcell 5 (by omega)
            have xq6 : wr.cell? ⟨b0, o + n * 7 + 6, none⟩ = some q6 := hcell 6 (by omega)
            have i1 : (n : Int) < (T.length : Int) := by omega
            clear hc hcell hin
            go_wp2_with fail
            refine Calls.mono (IH.out wr [q0, q1, q2, q3, q4, q5, q6] T[n] HIN.out HSZ.out) ?_
            rintro e w2 ⟨rfl, h2⟩
            have HU2 : Hid (Upd [] W w2) := HU.out.trans h2
            clear h2 xq0 xq1 xq2 xq3 xq4 xq5 xq6 x6
            cases hv : plU T[n] with
            | false =>
              go_wp2
              go_ret
              exact ⟨ret_bool (by rw [HE.out]; rw [plV_bad T n hlt hv]; simp), HW.out.trans HU2.out⟩
            | true =>
              go_wp2
              go_roundw
              case rel => exact ⟨n + 1, by omega, by go_num, by rw [plV_take T n hlt, HP.out, hv]; rfl, HU2.out⟩
              case measure => simp [intOf]; omega
          · have hd : decide ((n : Int) < (T.length : Int)) = false := by simp; omega
            have HA : Hid (plV T = true) := by have := HP.out; rwa [List.take_of_length_le (by omega)] at this
            clear HR
            go_wp2
            go_ret
            exact ⟨ret_bool (by rw [HE.out, HK.out, HAI.out, HA.out]; rfl), HW.out.trans HU.out⟩
theorem Pl_all : ∀ d, PlSaid d
  | 0 => fun _ _ _ h => h.elim
  | d + 1 => Pl_step d (Pl_all d)
end Go.Proofs.YtplkcegdmlfhcaaDoor
