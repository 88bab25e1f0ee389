/- lint's guard, of whatever trees. -/
import Derived.Test.YtpgjcedonimgnaaDoorJAM
namespace Go.Proofs.YtpgjcedonimgnaaDoor
open Go.RowKit

theorem grdsF_at (r : List Fr) (K : List Nd) (q : Nat) (hq : q < K.length) : grdsF r (K.drop q) = (match grdF r K[q] with | some e => some e | none => grdsF r (K.drop (q + 1))) := by
  rw [List.drop_eq_getElem_cons hq, grdsF]
  cases grdF r K[q] <;> rfl
/-- What is said of guard, of trees of a depth. -/
def GrdSaid (d : Nat) : Prop := ∀ (w : World) (cs : List Value) (t : Nd), NIn w d cs t → nsz t ≤ 2199023255488 → thru callOk t = true → ∀ (bs : List Nat) (r : List Fr) (a0 : Option Addr), Chn w bs r a0 → Blt w → Calls Tryd.prog 40 #[.agg cs.toArray, .pointer a0] w (RetO (grdF r t) w)

set_option maxHeartbeats 4000000 in
set_option maxRecDepth 100000 in
/-- Kinds whose kids alone are asked. -/
theorem grd_plain (d : Nat) (IH : Hid (GrdSaid d)) (w : World) (k num pos : Int) (s : ByteArray) (K : List Nd) (a : Option Addr) (c : Nat) (hk : k = 1 ∨ k = 2 ∨ k = 4 ∨ k = 5 ∨ k = 6) (HR : Hid (RowN (NIn w d) w a K)) (hs0 : K.length ≤ 2199023255488) (HS : Hid (∀ i (hi : i < K.length), nsz K[i] ≤ 2199023255488 ∧ thru callOk K[i] = true)) (bs : List Nat) (r : List Fr) (a0 : Option Addr) (HC : Hid (Chn w bs r a0)) (HB : Hid (Blt w)) (G : Option Flt) (HG : Hid (G = grdsF r K)) :
    Calls Tryd.prog 40 #[.agg #[.int .u8 k, .string s, .int .i64 num, .int .i64 pos, .slice a K.length c], .pointer a0] w (RetO G w) := by
  have HU0 : Hid (Upd [] w (w.alloc (.cells #[.int .u8 k, .string s, .int .i64 num, .int .i64 pos, .slice a K.length c] 29))) := (Upd.refl [] w).alloc _
  rcases hk with rfl | rfl | rfl | rfl | rfl
  all_goals
    go_enter Tryd.func40, Tryd.ntmps40
    go_wp2_with fail
    go_loopw [70] (fun i wr => ∃ q : Nat, q ≤ K.length ∧ i = .int .i64 q ∧ Hid (grdsF r K = grdsF r (K.drop q)) ∧ Upd [] w wr) (fun i _ => K.length - (intOf i).toNat)
    case atStart => exact ⟨0, Nat.zero_le _, rfl, rfl, HU0.out⟩
    case round =>
      obtain ⟨q, hq, rfl, HP, hu⟩ := hrel
      have HU : Hid (Upd [] w wr) := hu
      clear hu
      by_cases hlt : q < K.length
      · have i1 : (q : Int) < (K.length : Int) := by omega
        obtain ⟨b3, o3, hae, cs, hl5, hcell, hin⟩ := HR.out.atK q hlt
        cases hae
        have hone := hin.one
        have hin' := NIn.mono HU.out _ _ _ hin
        have hc5 : ∀ j, j < 5 → wr.cell? ⟨b3, o3 + (q * 5 + j), none⟩ = cs[j]? := fun j hj => by
          have := hcell j hj
          rw [List.getElem?_eq_getElem (by omega)] at this ⊢
          exact (HU.out.cell (cell_lt this) (by simp)).trans this
        obtain ⟨q0, q1, q2, q3, q4, rfl⟩ := list5 hl5
        have x0 : wr.cell? ⟨b3, o3 + q * 5, none⟩ = some q0 := hc5 0 (by omega)
        have x1 : wr.cell? ⟨b3, o3 + q * 5 + 1, none⟩ = some q1 := hc5 1 (by omega)
        have x2 : wr.cell? ⟨b3, o3 + q * 5 + 2, none⟩ = some q2 := hc5 2 (by omega)
        have x3 : wr.cell? ⟨b3, o3 + q * 5 + 3, none⟩ = some q3 := hc5 3 (by omega)
        have x4 : wr.cell? ⟨b3, o3 + q * 5 + 4, none⟩ = some q4 := hc5 4 (by omega)
        have HIN : Hid (NIn wr d [q0, q1, q2, q3, q4] K[q]) := hin'
        have tz : Tb (wr.alloc (.cells #[.int .u8 0, .string ⟨#[]⟩, .int .i64 0, .int .i64 0, .slice none 0 0] 29)) wr.heap.size #[.int .u8 0, .string ⟨#[]⟩, .int .i64 0, .int .i64 0, .slice none 0 0] := Tb.new _ _ _ rfl
        have HUZ : Hid (Upd [] wr (wr.alloc (.cells #[.int .u8 0, .string ⟨#[]⟩, .int .i64 0, .int .i64 0, .slice none 0 0] 29))) := (Upd.refl [] wr).alloc _
        clear hc5 hcell hin hin'
        go_wp2_with (first
          | (refine store_T _ rfl _ _ rfl _ #[q0, q1, q2, q3, q4] _ rfl rfl tz rfl rfl hone ?_; intro w1 t1 u1; have V1 : Hid (Upd [] wr w1) := HUZ.out.then u1 (by simp))
          | (refine load_T _ rfl _ rfl _ _ rfl t1 rfl ?_)
          | fail)
        refine Calls.mono (IH.out w1 _ _ (NIn.mono V1.out _ _ _ HIN.out) (HS.out q hlt).1 (HS.out q hlt).2 bs r a0 (Chn.mono (HU.out.trans V1.out) _ _ _ HC.out) (HB.out.mono (HU.out.trans V1.out))) ?_
        rintro e w2 ⟨hu2, hm2⟩
        have U2 : Hid (Upd [] w w2) := (HU.out.trans V1.out).trans hu2
        have HP2 := HP.out
        rw [grdsF_at r K q hlt] at HP2
        clear hu2 t1 u1 V1 tz HUZ x0 x1 x2 x3 x4 HIN HU
        cases hpf : grdF r K[q] with
        | none =>
          rw [hpf] at hm2 HP2
          obtain ⟨u, rfl⟩ := hm2
          have HP3 : Hid (grdsF r K = grdsF r (K.drop (q + 1))) := HP2
          clear HP2 hpf HP
          go_wp2_with fail
          go_roundw
          case rel => exact ⟨q + 1, by omega, by go_num, HP3, U2.out⟩
          case measure => simp [intOf]; omega
        | some x =>
          rw [hpf] at hm2 HP2
          have hm3 : e = .panicked [{ v := .iface 33 (.agg #[.int .i64 x.1, .int .i64 x.2]), recovered := false }] := hm2
          subst hm3
          have HP3 : Hid (grdsF r K = some x) := HP2
          clear hm2 HP2 hpf HP
          go_wp2_with fail
          exact ⟨rfl, retO_err (HG.out.trans HP3.out) U2.out⟩
      · have hd : decide ((q : Int) < (K.length : Int)) = false := by simp; omega
        have hqe : q = K.length := by omega
        have HP3 : Hid (grdsF r K = none) := by
          have := HP.out
          rw [hqe, List.drop_length, grdsF] at this
          exact this
        go_wp2_with fail
        exact bodyPost_end (results_none rfl _ _ _) rfl (retO_ok (HG.out.trans HP3.out) HU.out)

set_option maxHeartbeats 4000000 in
set_option maxRecDepth 100000 in
/-- A variable. -/
theorem grd_var (d : Nat) (IH : Hid (GrdSaid d)) (w : World) (num pos : Int) (s : ByteArray) (K : List Nd) (a : Option Addr) (c : Nat) (HR : Hid (RowN (NIn w d) w a K)) (hs0 : K.length ≤ 2199023255488) (HS : Hid (∀ i (hi : i < K.length), nsz K[i] ≤ 2199023255488 ∧ thru callOk K[i] = true)) (bs : List Nat) (r : List Fr) (a0 : Option Addr) (HC : Hid (Chn w bs r a0)) (HB : Hid (Blt w)) (G : Option Flt) (HG0 : Hid (G = (match varF r s pos with | some e => some e | none => grdsF r K))) :
    Calls Tryd.prog 40 #[.agg #[.int .u8 3, .string s, .int .i64 num, .int .i64 pos, .slice a K.length c], .pointer a0] w (RetO G w) := by
  have U0 : Hid (Upd [] w (w.alloc (.cells #[.int .u8 3, .string s, .int .i64 num, .int .i64 pos, .slice a K.length c] 29))) := (Upd.refl [] w).alloc _
  have tN : Tb (w.alloc (.cells #[.int .u8 3, .string s, .int .i64 num, .int .i64 pos, .slice a K.length c] 29)) w.heap.size #[.int .u8 3, .string s, .int .i64 num, .int .i64 pos, .slice a K.length c] := Tb.new _ _ _ rfl
  go_enter Tryd.func40, Tryd.ntmps40
  go_wp2_with (first | (refine load_T _ rfl _ rfl _ _ rfl tN rfl ?_) | fail)
  refine Calls.mono (variable_in 3 num pos s a K.length c bs r a0 _ (Chn.mono U0.out _ _ _ HC.out)) ?_
  rintro e w9 ⟨hu9, hm9⟩
  have HU0 : Hid (Upd [] w w9) := U0.out.trans hu9
  have HGG := HG0.out
  clear hu9 tN U0
  cases hv : varF r s pos with
  | some x =>
    rw [hv] at hm9 HGG
    have hm3 : e = .panicked [{ v := .iface 33 (.agg #[.int .i64 x.1, .int .i64 x.2]), recovered := false }] := hm9
    subst hm3
    have HG : Hid (G = some x) := HGG
    clear hm9 HGG hv HG0
    go_wp2_with fail
    exact ⟨rfl, retO_err HG.out HU0.out⟩
  | none =>
    rw [hv] at hm9 HGG
    obtain ⟨u9, rfl⟩ := hm9
    have HG : Hid (G = grdsF r K) := HGG
    clear HGG hv HG0
    go_wp2_with fail
    go_loopw [70] (fun i wr => ∃ q : Nat, q ≤ K.length ∧ i = .int .i64 q ∧ Hid (grdsF r K = grdsF r (K.drop q)) ∧ Upd [] w wr) (fun i _ => K.length - (intOf i).toNat)
    case atStart => exact ⟨0, Nat.zero_le _, rfl, rfl, HU0.out⟩
    case round =>
      obtain ⟨q, hq, rfl, HP, hu⟩ := hrel
      have HU : Hid (Upd [] w wr) := hu
      clear hu
      by_cases hlt : q < K.length
      · have i1 : (q : Int) < (K.length : Int) := by omega
        obtain ⟨b3, o3, hae, cs, hl5, hcell, hin⟩ := HR.out.atK q hlt
        cases hae
        have hone := hin.one
        have hin' := NIn.mono HU.out _ _ _ hin
        have hc5 : ∀ j, j < 5 → wr.cell? ⟨b3, o3 + (q * 5 + j), none⟩ = cs[j]? := fun j hj => by
          have := hcell j hj
          rw [List.getElem?_eq_getElem (by omega)] at this ⊢
          exact (HU.out.cell (cell_lt this) (by simp)).trans this
        obtain ⟨q0, q1, q2, q3, q4, rfl⟩ := list5 hl5
        have x0 : wr.cell? ⟨b3, o3 + q * 5, none⟩ = some q0 := hc5 0 (by omega)
        have x1 : wr.cell? ⟨b3, o3 + q * 5 + 1, none⟩ = some q1 := hc5 1 (by omega)
        have x2 : wr.cell? ⟨b3, o3 + q * 5 + 2, none⟩ = some q2 := hc5 2 (by omega)
        have x3 : wr.cell? ⟨b3, o3 + q * 5 + 3, none⟩ = some q3 := hc5 3 (by omega)
        have x4 : wr.cell? ⟨b3, o3 + q * 5 + 4, none⟩ = some q4 := hc5 4 (by omega)
        have HIN : Hid (NIn wr d [q0, q1, q2, q3, q4] K[q]) := hin'
        have tz : Tb (wr.alloc (.cells #[.int .u8 0, .string ⟨#[]⟩, .int .i64 0, .int .i64 0, .slice none 0 0] 29)) wr.heap.size #[.int .u8 0, .string ⟨#[]⟩, .int .i64 0, .int .i64 0, .slice none 0 0] := Tb.new _ _ _ rfl
        have HUZ : Hid (Upd [] wr (wr.alloc (.cells #[.int .u8 0, .string ⟨#[]⟩, .int .i64 0, .int .i64 0, .slice none 0 0] 29))) := (Upd.refl [] wr).alloc _
        clear hc5 hcell hin hin'
        go_wp2_with (first
          | (refine store_T _ rfl _ _ rfl _ #[q0, q1, q2, q3, q4] _ rfl rfl tz rfl rfl hone ?_; intro w1 t1 u1; have V1 : Hid (Upd [] wr w1) := HUZ.out.then u1 (by simp))
          | (refine load_T _ rfl _ rfl _ _ rfl t1 rfl ?_)
          | fail)
        refine Calls.mono (IH.out w1 _ _ (NIn.mono V1.out _ _ _ HIN.out) (HS.out q hlt).1 (HS.out q hlt).2 bs r a0 (Chn.mono (HU.out.trans V1.out) _ _ _ HC.out) (HB.out.mono (HU.out.trans V1.out))) ?_
        rintro e w2 ⟨hu2, hm2⟩
        have U2 : Hid (Upd [] w w2) := (HU.out.trans V1.out).trans hu2
        have HP2 := HP.out
        rw [grdsF_at r K q hlt] at HP2
        clear hu2 t1 u1 V1 tz HUZ x0 x1 x2 x3 x4 HIN HU
        cases hpf : grdF r K[q] with
        | none =>
          rw [hpf] at hm2 HP2
          obtain ⟨u, rfl⟩ := hm2
          have HP3 : Hid (grdsF r K = grdsF r (K.drop (q + 1))) := HP2
          clear HP2 hpf HP
          go_wp2_with fail
          go_roundw
          case rel => exact ⟨q + 1, by omega, by go_num, HP3, U2.out⟩
          case measure => simp [intOf]; omega
        | some x =>
          rw [hpf] at hm2 HP2
          have hm3 : e = .panicked [{ v := .iface 33 (.agg #[.int .i64 x.1, .int .i64 x.2]), recovered := false }] := hm2
          subst hm3
          have HP3 : Hid (grdsF r K = some x) := HP2
          clear hm2 HP2 hpf HP
          go_wp2_with fail
          exact ⟨rfl, retO_err (HG.out.trans HP3.out) U2.out⟩
      · have hd : decide ((q : Int) < (K.length : Int)) = false := by simp; omega
        have hqe : q = K.length := by omega
        have HP3 : Hid (grdsF r K = none) := by
          have := HP.out
          rw [hqe, List.drop_length, grdsF] at this
          exact this
        go_wp2_with fail
        exact bodyPost_end (results_none rfl _ _ _) rfl (retO_ok (HG.out.trans HP3.out) HU.out)

set_option maxHeartbeats 4000000 in
set_option maxRecDepth 100000 in
theorem grd_lazy (d : Nat) (IH : Hid (GrdSaid d)) (w : World) (num pos : Int) (s : ByteArray) (K : List Nd) (a : Option Addr) (c : Nat) (HR : Hid (RowN (NIn w d) w a K)) (hs0 : K.length ≤ 2199023255488) (HS : Hid (∀ i (hi : i < K.length), nsz K[i] ≤ 2199023255488 ∧ thru callOk K[i] = true)) (bs : List Nat) (r : List Fr) (a0 : Option Addr) (HC : Hid (Chn w bs r a0)) (HB : Hid (Blt w)) (G : Option Flt) (hl : s = ⟨#[97, 110, 100, 97, 108, 115, 111]⟩ ∨ s = ⟨#[111, 114, 101, 108, 115, 101]⟩) (HG : Hid (G = grdsF r K)) :
    Calls Tryd.prog 40 #[.agg #[.int .u8 7, .string s, .int .i64 num, .int .i64 pos, .slice a K.length c], .pointer a0] w (RetO G w) := by
  obtain ⟨fs, hdesc⟩ := term_desc
  have hn : (s.toList == [97, 110, 100, 97, 108, 115, 111]) = true ∨ ((s.toList == [97, 110, 100, 97, 108, 115, 111]) = false ∧ (s.toList == [111, 114, 101, 108, 115, 101]) = true) := by
    rcases hl with h | h
    · exact Or.inl (by rw [h]; kernel_rfl)
    · exact Or.inr ⟨str_ne (t := ⟨#[97, 110, 100, 97, 108, 115, 111]⟩) (by kernel_rfl) (by rw [h]; decide), by rw [h]; kernel_rfl⟩
  clear hl
  rcases hn with n1 | ⟨n1, n2⟩
  all_goals
    go_enter Tryd.func40, Tryd.ntmps40
    go_wp2_with fail
    obtain ⟨w1, hw1⟩ : ∃ w1, w1 = w.alloc (.cells #[.int .u8 7, .string s, .int .i64 num, .int .i64 pos, .slice a K.length c] 29) := ⟨_, rfl⟩
    have U1 : Upd [] w w1 := by rw [hw1]; exact (Upd.refl [] w).alloc _
    have tN : Tb w1 w.heap.size #[.int .u8 7, .string s, .int .i64 num, .int .i64 pos, .slice a K.length c] := by rw [hw1]; exact Tb.new _ _ _ rfl
    rw [← hw1]
    clear hw1
    refine region_lastT (by kernel_rfl) 11 rfl [some 36, some 37, some 38, some 39, some 40, some 41, some 42, some 43, some 44, some 45, some 46, some 47] rfl (by decide) rfl (by kernel_rfl) (by kernel_rfl) (fun j v _ => match j with | 0 => v = .bool true | 1 => v = .bool false | 2 => v = .bool false | 3 => v = undef | 4 => v = undef | 5 => v = undef | 6 => v = undef | 7 => v = undef | 8 => v = undef | 9 => v = .bool false | 10 => v = .agg #[.int .u8 7, .string s, .int .i64 num, .int .i64 pos, .slice a K.length c] | _ => True) (fun j v w w' h _ => h) ?_ ?_
    · intro D vs a' w5 i o' hA hU hV hS hi ho haf
      have hc5 : i = 0 ∨ i = 1 ∨ i = 2 ∨ i = 3 ∨ i = 4 ∨ i = 5 ∨ i = 6 ∨ i = 7 ∨ i = 8 ∨ i = 9 ∨ i = 10 := by omega
      have t5 := tN.mono hU (by simp)
      rcases hc5 with rfl | rfl | rfl | rfl | rfl | rfl | rfl | rfl | rfl | rfl | rfl <;> cases ho
      · exact ops_wp rfl rfl (wp_move (.tmp 5) rfl _ (hA.ev 5 (by decide)) ⟨_, rfl, rfl, Upd.refl _ _⟩)
      · have D0 := haf ⟨0, .data⟩ (by simp) rfl
        exact ops_wp rfl rfl (wp_not (.tmp 36) rfl _ ((hS 0 36 rfl D0).trans (hV 0 D0)) ⟨_, rfl, rfl, Upd.refl _ _⟩)
      · have D1 := haf ⟨1, .data⟩ (by simp) rfl
        exact ops_wp rfl rfl (wp_move (.tmp 37) rfl _ ((hS 1 37 rfl D1).trans (hV 1 D1)) ⟨_, rfl, rfl, Upd.refl _ _⟩)
      · have D2 := haf ⟨2, .guard⟩ (by simp) rfl
        exact ops_skip rfl ((wanted_of rfl rfl ((hS 2 38 rfl D2).trans (hV 2 D2))).trans rfl) ⟨undef, rfl, rfl, Upd.refl _ _⟩
      · have D3 := haf ⟨3, .data⟩ (by simp) rfl
        have D2 := haf ⟨2, .guard⟩ (by simp) rfl
        exact ops_skip rfl ((wanted_of rfl rfl ((hS 2 38 rfl D2).trans (hV 2 D2))).trans rfl) ⟨undef, rfl, rfl, Upd.refl _ _⟩
      · have D2 := haf ⟨2, .guard⟩ (by simp) rfl
        exact ops_skip rfl ((wanted_of rfl rfl ((hS 2 38 rfl D2).trans (hV 2 D2))).trans rfl) ⟨undef, rfl, rfl, Upd.refl _ _⟩
      · have D5 := haf ⟨5, .data⟩ (by simp) rfl
        have D2 := haf ⟨2, .guard⟩ (by simp) rfl
        exact ops_skip rfl ((wanted_of rfl rfl ((hS 2 38 rfl D2).trans (hV 2 D2))).trans rfl) ⟨undef, rfl, rfl, Upd.refl _ _⟩
      · have D4 := haf ⟨4, .data⟩ (by simp) rfl
        have D6 := haf ⟨6, .data⟩ (by simp) rfl
        have D2 := haf ⟨2, .guard⟩ (by simp) rfl
        exact ops_skip rfl ((wanted_of rfl rfl ((hS 2 38 rfl D2).trans (hV 2 D2))).trans rfl) ⟨undef, rfl, rfl, Upd.refl _ _⟩
      · have D7 := haf ⟨7, .data⟩ (by simp) rfl
        have D2 := haf ⟨2, .guard⟩ (by simp) rfl
        exact ops_skip rfl ((wanted_of rfl rfl ((hS 2 38 rfl D2).trans (hV 2 D2))).trans rfl) ⟨undef, rfl, rfl, Upd.refl _ _⟩
      · have D2 := haf ⟨2, .data⟩ (by simp) rfl
        have D8 := haf ⟨8, .data⟩ (by simp) rfl
        exact ops_wp rfl rfl (wp_pick (.tmp 38) (.tmp 44) _ rfl _ ((hS 2 38 rfl D2).trans (hV 2 D2)) ⟨_, rfl, rfl, Upd.refl _ _⟩)
      · exact ops_wp rfl rfl (wp_load_row 29 (.tmp 2) rfl _ (hA.ev 2 (by decide)) 29 _ (0, 0) _ t5 hdesc rfl (by rw [info_term]; rfl) ⟨_, rfl, rfl, Upd.refl _ _⟩)
    · intro vs a' w5 o' hv hA hU hV hS ho
      cases ho
      have D0 : 0 < 11 := by omega
      have D1 : 1 < 11 := by omega
      have D2 : 2 < 11 := by omega
      have D3 : 3 < 11 := by omega
      have D4 : 4 < 11 := by omega
      have D5 : 5 < 11 := by omega
      have D6 : 6 < 11 := by omega
      have D7 : 7 < 11 := by omega
      have D8 : 8 < 11 := by omega
      have D9 : 9 < 11 := by omega
      have D10 : 10 < 11 := by omega
      have e45 : a'.eval (.tmp 45) = _ := ((hS 9 45 rfl D9).trans (hV 9 D9))
      have e46 : a'.eval (.tmp 46) = _ := ((hS 10 46 rfl D10).trans (hV 10 D10))
      refine ops_wp rfl rfl (wp_callB rfl Tryd.call26 (vs := #[.bool false, .int .i64 214, .agg #[.int .u8 7, .string s, .int .i64 num, .int .i64 pos, .slice a K.length c]]) (by simp only [List.map_toArray, List.map_cons, List.map_nil, e45, e46]; rfl) ?_)
      refine (refuse_no 214 7 num pos s a K.length c w5).mono ?_
      rintro e w6 ⟨⟨u, rfl⟩, hu⟩
      refine Or.inl ⟨u, rfl, u, rfl, ?_⟩
      have HU0 : Hid (Upd [] w w6) := (U1.trans hU).trans hu
      obtain ⟨v0, r0, rfl, hv0⟩ := list_cons hv
      obtain ⟨v1, r1, rfl, hv1⟩ := list_cons hv0
      obtain ⟨v2, r2, rfl, hv2⟩ := list_cons hv1
      obtain ⟨v3, r3, rfl, hv3⟩ := list_cons hv2
      obtain ⟨v4, r4, rfl, hv4⟩ := list_cons hv3
      obtain ⟨v5, r5, rfl, hv5⟩ := list_cons hv4
      obtain ⟨v6, r6, rfl, hv6⟩ := list_cons hv5
      obtain ⟨v7, r7, rfl, hv7⟩ := list_cons hv6
      obtain ⟨v8, r8, rfl, hv8⟩ := list_cons hv7
      obtain ⟨v9, r9, rfl, hv9⟩ := list_cons hv8
      obtain ⟨v10, r10, rfl, hv10⟩ := list_cons hv9
      obtain ⟨v11, r11, rfl, hv11⟩ := list_cons hv10
      clear hV hS hA hU hu tN U1 e45 e46 D0 D1 D2 D3 D4 D5 D6 D7 D8 D9 D10
      simp only [List.set_cons_succ, List.set_cons_zero, putAll, Act.put, List.setIfInBounds_toArray]
      go_wp2_with fail
      go_loopw [70] (fun i wr => ∃ q : Nat, q ≤ K.length ∧ i = .int .i64 q ∧ Hid (grdsF r K = grdsF r (K.drop q)) ∧ Upd [] w wr) (fun i _ => K.length - (intOf i).toNat)
      case atStart => exact ⟨0, Nat.zero_le _, rfl, rfl, HU0.out⟩
      case round =>
        obtain ⟨q, hq, rfl, HP, hu⟩ := hrel
        have HU : Hid (Upd [] w wr) := hu
        clear hu
        by_cases hlt : q < K.length
        · have i1 : (q : Int) < (K.length : Int) := by omega
          obtain ⟨b3, o3, hae, cs, hl5, hcell, hin⟩ := HR.out.atK q hlt
          cases hae
          have hone := hin.one
          have hin' := NIn.mono HU.out _ _ _ hin
          have hc5 : ∀ j, j < 5 → wr.cell? ⟨b3, o3 + (q * 5 + j), none⟩ = cs[j]? := fun j hj => by
            have := hcell j hj
            rw [List.getElem?_eq_getElem (by omega)] at this ⊢
            exact (HU.out.cell (cell_lt this) (by simp)).trans this
          obtain ⟨q0, q1, q2, q3, q4, rfl⟩ := list5 hl5
          have x0 : wr.cell? ⟨b3, o3 + q * 5, none⟩ = some q0 := hc5 0 (by omega)
          have x1 : wr.cell? ⟨b3, o3 + q * 5 + 1, none⟩ = some q1 := hc5 1 (by omega)
          have x2 : wr.cell? ⟨b3, o3 + q * 5 + 2, none⟩ = some q2 := hc5 2 (by omega)
          have x3 : wr.cell? ⟨b3, o3 + q * 5 + 3, none⟩ = some q3 := hc5 3 (by omega)
          have x4 : wr.cell? ⟨b3, o3 + q * 5 + 4, none⟩ = some q4 := hc5 4 (by omega)
          have HIN : Hid (NIn wr d [q0, q1, q2, q3, q4] K[q]) := hin'
          have tz : Tb (wr.alloc (.cells #[.int .u8 0, .string ⟨#[]⟩, .int .i64 0, .int .i64 0, .slice none 0 0] 29)) wr.heap.size #[.int .u8 0, .string ⟨#[]⟩, .int .i64 0, .int .i64 0, .slice none 0 0] := Tb.new _ _ _ rfl
          have HUZ : Hid (Upd [] wr (wr.alloc (.cells #[.int .u8 0, .string ⟨#[]⟩, .int .i64 0, .int .i64 0, .slice none 0 0] 29))) := (Upd.refl [] wr).alloc _
          clear hc5 hcell hin hin'
          go_wp2_with (first
            | (refine store_T _ rfl _ _ rfl _ #[q0, q1, q2, q3, q4] _ rfl rfl tz rfl rfl hone ?_; intro w1 t1 u1; have V1 : Hid (Upd [] wr w1) := HUZ.out.then u1 (by simp))
            | (refine load_T _ rfl _ rfl _ _ rfl t1 rfl ?_)
            | fail)
          refine Calls.mono (IH.out w1 _ _ (NIn.mono V1.out _ _ _ HIN.out) (HS.out q hlt).1 (HS.out q hlt).2 bs r a0 (Chn.mono (HU.out.trans V1.out) _ _ _ HC.out) (HB.out.mono (HU.out.trans V1.out))) ?_
          rintro e w2 ⟨hu2, hm2⟩
          have U2 : Hid (Upd [] w w2) := (HU.out.trans V1.out).trans hu2
          have HP2 := HP.out
          rw [grdsF_at r K q hlt] at HP2
          clear hu2 t1 u1 V1 tz HUZ x0 x1 x2 x3 x4 HIN HU
          cases hpf : grdF r K[q] with
          | none =>
            rw [hpf] at hm2 HP2
            obtain ⟨u, rfl⟩ := hm2
            have HP3 : Hid (grdsF r K = grdsF r (K.drop (q + 1))) := HP2
            clear HP2 hpf HP
            go_wp2_with fail
            go_roundw
            case rel => exact ⟨q + 1, by omega, by go_num, HP3, U2.out⟩
            case measure => simp [intOf]; omega
          | some x =>
            rw [hpf] at hm2 HP2
            have hm3 : e = .panicked [{ v := .iface 33 (.agg #[.int .i64 x.1, .int .i64 x.2]), recovered := false }] := hm2
            subst hm3
            have HP3 : Hid (grdsF r K = some x) := HP2
            clear hm2 HP2 hpf HP
            go_wp2_with fail
            exact ⟨rfl, retO_err (HG.out.trans HP3.out) U2.out⟩
        · have hd : decide ((q : Int) < (K.length : Int)) = false := by simp; omega
          have hqe : q = K.length := by omega
          have HP3 : Hid (grdsF r K = none) := by
            have := HP.out
            rw [hqe, List.drop_length, grdsF] at this
            exact this
          go_wp2_with fail
          exact bodyPost_end (results_none rfl _ _ _) rfl (retO_ok (HG.out.trans HP3.out) HU.out)

set_option maxHeartbeats 4000000 in
set_option maxRecDepth 100000 in
theorem grd_kind (d : Nat) (IH : Hid (GrdSaid d)) (w : World) (num pos : Int) (s : ByteArray) (K : List Nd) (a : Option Addr) (c : Nat) (HR : Hid (RowN (NIn w d) w a K)) (hs0 : K.length ≤ 2199023255488) (HS : Hid (∀ i (hi : i < K.length), nsz K[i] ≤ 2199023255488 ∧ thru callOk K[i] = true)) (bs : List Nat) (r : List Fr) (a0 : Option Addr) (HC : Hid (Chn w bs r a0)) (HB : Hid (Blt w)) (G : Option Flt) (hl1 : s ≠ ⟨#[97, 110, 100, 97, 108, 115, 111]⟩) (hl2 : s ≠ ⟨#[111, 114, 101, 108, 115, 101]⟩) (HGG : Hid (G = if kindS s (K.length : Nat) = 2 then grdsF r K else some (214, pos))) :
    Calls Tryd.prog 40 #[.agg #[.int .u8 7, .string s, .int .i64 num, .int .i64 pos, .slice a K.length c], .pointer a0] w (RetO G w) := by
  obtain ⟨fs, hdesc⟩ := term_desc
  obtain ⟨kd, hkd⟩ : ∃ kd, kd = kindS s (K.length : Nat) := ⟨_, rfl⟩
  have HK : Hid (kd = kindS s (K.length : Nat)) := hkd
  clear hkd
  have n1 : (s.toList == [97, 110, 100, 97, 108, 115, 111]) = false := str_ne (by kernel_rfl) hl1
  have n2 : (s.toList == [111, 114, 101, 108, 115, 101]) = false := str_ne (by kernel_rfl) hl2
  go_enter Tryd.func40, Tryd.ntmps40
  go_wp2_with fail
  obtain ⟨w1, hw1⟩ : ∃ w1, w1 = w.alloc (.cells #[.int .u8 7, .string s, .int .i64 num, .int .i64 pos, .slice a K.length c] 29) := ⟨_, rfl⟩
  have U1 : Upd [] w w1 := by rw [hw1]; exact (Upd.refl [] w).alloc _
  have tN : Tb w1 w.heap.size #[.int .u8 7, .string s, .int .i64 num, .int .i64 pos, .slice a K.length c] := by rw [hw1]; exact Tb.new _ _ _ rfl
  rw [← hw1]
  clear hw1
  refine region_lastT (by kernel_rfl) 11 rfl [some 36, some 37, some 38, some 39, some 40, some 41, some 42, some 43, some 44, some 45, some 46, some 47] rfl (by decide) rfl (by kernel_rfl) (by kernel_rfl) (fun j v _ => match j with | 0 => v = .bool false | 1 => v = .bool true | 2 => v = .bool true | 3 => v = .pointer (some ⟨w.heap.size, 1, none⟩) | 4 => v = .string s | 5 => v = .slice a K.length c | 6 => v = .int .i64 (K.length : Nat) | 7 => v = .int .i64 (kd : Nat) | 8 => v = .bool (!((kd : Int) == 2)) | 9 => v = .bool (!((kd : Int) == 2)) | 10 => v = .agg #[.int .u8 7, .string s, .int .i64 num, .int .i64 pos, .slice a K.length c] | _ => True) (fun j v w w' h _ => h) ?_ ?_
  · intro D vs a' w5 i o' hA hU hV hS hi ho haf
    have hc5 : i = 0 ∨ i = 1 ∨ i = 2 ∨ i = 3 ∨ i = 4 ∨ i = 5 ∨ i = 6 ∨ i = 7 ∨ i = 8 ∨ i = 9 ∨ i = 10 := by omega
    have t5 := tN.mono hU (by simp)
    rcases hc5 with rfl | rfl | rfl | rfl | rfl | rfl | rfl | rfl | rfl | rfl | rfl <;> cases ho
    · exact ops_wp rfl rfl (wp_move (.tmp 5) rfl _ (hA.ev 5 (by decide)) ⟨_, rfl, rfl, Upd.refl _ _⟩)
    · have D0 := haf ⟨0, .data⟩ (by simp) rfl
      exact ops_wp rfl rfl (wp_not (.tmp 36) rfl _ ((hS 0 36 rfl D0).trans (hV 0 D0)) ⟨_, rfl, rfl, Upd.refl _ _⟩)
    · have D1 := haf ⟨1, .data⟩ (by simp) rfl
      exact ops_wp rfl rfl (wp_move (.tmp 37) rfl _ ((hS 1 37 rfl D1).trans (hV 1 D1)) ⟨_, rfl, rfl, Upd.refl _ _⟩)
    · have D2 := haf ⟨2, .guard⟩ (by simp) rfl
      exact ops_wpG rfl ((wanted_of rfl rfl ((hS 2 38 rfl D2).trans (hV 2 D2))).trans rfl) (wp_nf1 (.tmp 2) rfl _ (hA.ev 2 (by decide)) ⟨_, rfl, rfl, Upd.refl _ _⟩)
    · have D3 := haf ⟨3, .data⟩ (by simp) rfl
      have D2 := haf ⟨2, .guard⟩ (by simp) rfl
      exact ops_wpG rfl ((wanted_of rfl rfl ((hS 2 38 rfl D2).trans (hV 2 D2))).trans rfl) (wp_lstr (.tmp 39) rfl _ _ ((hS 3 39 rfl D3).trans (hV 3 D3)) (t5.cell 1) ⟨_, rfl, rfl, Upd.refl _ _⟩)
    · have D2 := haf ⟨2, .guard⟩ (by simp) rfl
      exact ops_wpG rfl ((wanted_of rfl rfl ((hS 2 38 rfl D2).trans (hV 2 D2))).trans rfl) (wp_move (.tmp 4) rfl _ (hA.ev 4 (by decide)) ⟨_, rfl, rfl, Upd.refl _ _⟩)
    · have D5 := haf ⟨5, .data⟩ (by simp) rfl
      have D2 := haf ⟨2, .guard⟩ (by simp) rfl
      exact ops_wpG rfl ((wanted_of rfl rfl ((hS 2 38 rfl D2).trans (hV 2 D2))).trans rfl) (wp_len (.tmp 41) rfl _ _ _ ((hS 5 41 rfl D5).trans (hV 5 D5)) ⟨_, rfl, rfl, Upd.refl _ _⟩)
    · have D4 := haf ⟨4, .data⟩ (by simp) rfl
      have D6 := haf ⟨6, .data⟩ (by simp) rfl
      have D2 := haf ⟨2, .guard⟩ (by simp) rfl
      refine ops_wpG rfl ((wanted_of rfl rfl ((hS 2 38 rfl D2).trans (hV 2 D2))).trans rfl) (wp_callA rfl Tryd.call8 (vs := #[.string s, .int .i64 (K.length : Nat)]) ?_ (R := fun u w' => u = .int .i64 (kd : Nat) ∧ Upd [] w5 w') ?_ ?_)
      · have e0 : a'.eval (.tmp 40) = _ := ((hS 4 40 rfl D4).trans (hV 4 D4)); have e1 : a'.eval (.tmp 42) = _ := ((hS 6 42 rfl D6).trans (hV 6 D6)); simp only [List.map_toArray, List.map_cons, List.map_nil, e0, e1]
      · exact (Kind_any s (K.length : Nat) w5 (HB.out.mono (U1.trans hU))).mono fun e w' ⟨he, hw⟩ => ⟨_, he, by rw [HK.out], by rw [hw]; exact Upd.refl _ _⟩
      · rintro u w6 ⟨rfl, hu⟩; exact ⟨_, rfl, rfl, hu⟩
    · have D7 := haf ⟨7, .data⟩ (by simp) rfl
      have D2 := haf ⟨2, .guard⟩ (by simp) rfl
      exact ops_wpG rfl ((wanted_of rfl rfl ((hS 2 38 rfl D2).trans (hV 2 D2))).trans rfl) (wp_neqI (.tmp 43) _ rfl _ _ ((hS 7 43 rfl D7).trans (hV 7 D7)) rfl ⟨_, rfl, rfl, Upd.refl _ _⟩)
    · have D2 := haf ⟨2, .data⟩ (by simp) rfl
      have D8 := haf ⟨8, .data⟩ (by simp) rfl
      exact ops_wp rfl rfl (wp_pick (.tmp 38) (.tmp 44) _ rfl _ ((hS 2 38 rfl D2).trans (hV 2 D2)) ⟨_, rfl, (by have e : a'.eval (.tmp 44) = _ := ((hS 8 44 rfl D8).trans (hV 8 D8)); rw [e]; rfl), Upd.refl _ _⟩)
    · exact ops_wp rfl rfl (wp_load_row 29 (.tmp 2) rfl _ (hA.ev 2 (by decide)) 29 _ (0, 0) _ t5 hdesc rfl (by rw [info_term]; rfl) ⟨_, rfl, rfl, Upd.refl _ _⟩)
  · intro vs a' w5 o' hv hA hU hV hS ho
    cases ho
    have D0 : 0 < 11 := by omega
    have D1 : 1 < 11 := by omega
    have D2 : 2 < 11 := by omega
    have D3 : 3 < 11 := by omega
    have D4 : 4 < 11 := by omega
    have D5 : 5 < 11 := by omega
    have D6 : 6 < 11 := by omega
    have D7 : 7 < 11 := by omega
    have D8 : 8 < 11 := by omega
    have D9 : 9 < 11 := by omega
    have D10 : 10 < 11 := by omega
    have e45 : a'.eval (.tmp 45) = _ := ((hS 9 45 rfl D9).trans (hV 9 D9))
    have e46 : a'.eval (.tmp 46) = _ := ((hS 10 46 rfl D10).trans (hV 10 D10))
    refine ops_wp rfl rfl (wp_callB rfl Tryd.call26 (vs := #[.bool (!((kd : Int) == 2)), .int .i64 214, .agg #[.int .u8 7, .string s, .int .i64 num, .int .i64 pos, .slice a K.length c]]) (by simp only [List.map_toArray, List.map_cons, List.map_nil, e45, e46]; rfl) ?_)
    by_cases hk2 : kd = 2
    · rw [show (!((kd : Int) == 2)) = false from by rw [hk2]; rfl]
      have HG : Hid (G = grdsF r K) := by have := HGG.out; rw [if_pos (HK.out ▸ hk2)] at this; exact this
      refine (refuse_no 214 7 num pos s a K.length c w5).mono ?_
      rintro e w6 ⟨⟨u, rfl⟩, hu⟩
      refine Or.inl ⟨u, rfl, u, rfl, ?_⟩
      have HU0 : Hid (Upd [] w w6) := (U1.trans hU).trans hu
      obtain ⟨v0, r0, rfl, hv0⟩ := list_cons hv
      obtain ⟨v1, r1, rfl, hv1⟩ := list_cons hv0
      obtain ⟨v2, r2, rfl, hv2⟩ := list_cons hv1
      obtain ⟨v3, r3, rfl, hv3⟩ := list_cons hv2
      obtain ⟨v4, r4, rfl, hv4⟩ := list_cons hv3
      obtain ⟨v5, r5, rfl, hv5⟩ := list_cons hv4
      obtain ⟨v6, r6, rfl, hv6⟩ := list_cons hv5
      obtain ⟨v7, r7, rfl, hv7⟩ := list_cons hv6
      obtain ⟨v8, r8, rfl, hv8⟩ := list_cons hv7
      obtain ⟨v9, r9, rfl, hv9⟩ := list_cons hv8
      obtain ⟨v10, r10, rfl, hv10⟩ := list_cons hv9
      obtain ⟨v11, r11, rfl, hv11⟩ := list_cons hv10
      clear hV hS hA hU hu tN U1 e45 e46 D0 D1 D2 D3 D4 D5 D6 D7 D8 D9 D10
      simp only [List.set_cons_succ, List.set_cons_zero, putAll, Act.put, List.setIfInBounds_toArray]
      go_wp2_with fail
      go_loopw [70] (fun i wr => ∃ q : Nat, q ≤ K.length ∧ i = .int .i64 q ∧ Hid (grdsF r K = grdsF r (K.drop q)) ∧ Upd [] w wr) (fun i _ => K.length - (intOf i).toNat)
      case atStart => exact ⟨0, Nat.zero_le _, rfl, rfl, HU0.out⟩
      case round =>
        obtain ⟨q, hq, rfl, HP, hu⟩ := hrel
        have HU : Hid (Upd [] w wr) := hu
        clear hu
        by_cases hlt : q < K.length
        · have i1 : (q : Int) < (K.length : Int) := by omega
          obtain ⟨b3, o3, hae, cs, hl5, hcell, hin⟩ := HR.out.atK q hlt
          cases hae
          have hone := hin.one
          have hin' := NIn.mono HU.out _ _ _ hin
          have hc5 : ∀ j, j < 5 → wr.cell? ⟨b3, o3 + (q * 5 + j), none⟩ = cs[j]? := fun j hj => by
            have := hcell j hj
            rw [List.getElem?_eq_getElem (by omega)] at this ⊢
            exact (HU.out.cell (cell_lt this) (by simp)).trans this
          obtain ⟨q0, q1, q2, q3, q4, rfl⟩ := list5 hl5
          have x0 : wr.cell? ⟨b3, o3 + q * 5, none⟩ = some q0 := hc5 0 (by omega)
          have x1 : wr.cell? ⟨b3, o3 + q * 5 + 1, none⟩ = some q1 := hc5 1 (by omega)
          have x2 : wr.cell? ⟨b3, o3 + q * 5 + 2, none⟩ = some q2 := hc5 2 (by omega)
          have x3 : wr.cell? ⟨b3, o3 + q * 5 + 3, none⟩ = some q3 := hc5 3 (by omega)
          have x4 : wr.cell? ⟨b3, o3 + q * 5 + 4, none⟩ = some q4 := hc5 4 (by omega)
          have HIN : Hid (NIn wr d [q0, q1, q2, q3, q4] K[q]) := hin'
          have tz : Tb (wr.alloc (.cells #[.int .u8 0, .string ⟨#[]⟩, .int .i64 0, .int .i64 0, .slice none 0 0] 29)) wr.heap.size #[.int .u8 0, .string ⟨#[]⟩, .int .i64 0, .int .i64 0, .slice none 0 0] := Tb.new _ _ _ rfl
          have HUZ : Hid (Upd [] wr (wr.alloc (.cells #[.int .u8 0, .string ⟨#[]⟩, .int .i64 0, .int .i64 0, .slice none 0 0] 29))) := (Upd.refl [] wr).alloc _
          clear hc5 hcell hin hin'
          go_wp2_with (first
            | (refine store_T _ rfl _ _ rfl _ #[q0, q1, q2, q3, q4] _ rfl rfl tz rfl rfl hone ?_; intro w1 t1 u1; have V1 : Hid (Upd [] wr w1) := HUZ.out.then u1 (by simp))
            | (refine load_T _ rfl _ rfl _ _ rfl t1 rfl ?_)
            | fail)
          refine Calls.mono (IH.out w1 _ _ (NIn.mono V1.out _ _ _ HIN.out) (HS.out q hlt).1 (HS.out q hlt).2 bs r a0 (Chn.mono (HU.out.trans V1.out) _ _ _ HC.out) (HB.out.mono (HU.out.trans V1.out))) ?_
          rintro e w2 ⟨hu2, hm2⟩
          have U2 : Hid (Upd [] w w2) := (HU.out.trans V1.out).trans hu2
          have HP2 := HP.out
          rw [grdsF_at r K q hlt] at HP2
          clear hu2 t1 u1 V1 tz HUZ x0 x1 x2 x3 x4 HIN HU
          cases hpf : grdF r K[q] with
          | none =>
            rw [hpf] at hm2 HP2
            obtain ⟨u, rfl⟩ := hm2
            have HP3 : Hid (grdsF r K = grdsF r (K.drop (q + 1))) := HP2
            clear HP2 hpf HP
            go_wp2_with fail
            go_roundw
            case rel => exact ⟨q + 1, by omega, by go_num, HP3, U2.out⟩
            case measure => simp [intOf]; omega
          | some x =>
            rw [hpf] at hm2 HP2
            have hm3 : e = .panicked [{ v := .iface 33 (.agg #[.int .i64 x.1, .int .i64 x.2]), recovered := false }] := hm2
            subst hm3
            have HP3 : Hid (grdsF r K = some x) := HP2
            clear hm2 HP2 hpf HP
            go_wp2_with fail
            exact ⟨rfl, retO_err (HG.out.trans HP3.out) U2.out⟩
        · have hd : decide ((q : Int) < (K.length : Int)) = false := by simp; omega
          have hqe : q = K.length := by omega
          have HP3 : Hid (grdsF r K = none) := by
            have := HP.out
            rw [hqe, List.drop_length, grdsF] at this
            exact this
          go_wp2_with fail
          exact bodyPost_end (results_none rfl _ _ _) rfl (retO_ok (HG.out.trans HP3.out) HU.out)
    · rw [show (!((kd : Int) == 2)) = true from by simp; omega]
      refine (refuse_yes 214 7 num pos s a K.length c w5).mono ?_
      rintro e w6 ⟨rfl, hu⟩
      exact Or.inr ⟨_, rfl, hA.def', retO_err (x := (214, pos)) (by have := HGG.out; rw [if_neg (HK.out ▸ hk2)] at this; exact this) ((U1.trans hU).trans hu)⟩

end Go.Proofs.YtpgjcedonimgnaaDoor
