/- lint's guard of a call. -/
import Derived.Test.YtpgjcedonimgnaaDoorGmG
namespace Go.Proofs.YtpgjcedonimgnaaDoor
open Go.RowKit

theorem neqT {kd : Nat} (h : ¬ kd = 2) : (!((kd : Int) == 2)) = true := by
  have h2 : ¬ (kd : Int) = 2 := by omega
  simp [h2]

set_option maxHeartbeats 4000000 in
set_option maxRecDepth 100000 in
theorem grd_call (d : Nat) (IH : Hid (GrdSaid d)) (w : World) (num pos : Int) (s : ByteArray) (L : List Nd) (b2 o c : Nat) (hcL : L.length + 1 ≤ c) (hc63 : c ≤ 9223372036854775807) (k1 n1 p1 : Int) (s1 : ByteArray) (a1 : Option Addr) (l1 c1 : Nat) (hx0 : w.cell? ⟨b2, o, none⟩ = some (.int .u8 k1)) (hx1 : w.cell? ⟨b2, o + 1, none⟩ = some (.string s1)) (hx2 : w.cell? ⟨b2, o + 2, none⟩ = some (.int .i64 n1)) (hx3 : w.cell? ⟨b2, o + 3, none⟩ = some (.int .i64 p1)) (hx4 : w.cell? ⟨b2, o + 4, none⟩ = some (.slice a1 l1 c1)) (HR : Hid (RowN (NIn w d) w (some ⟨b2, o + 5, none⟩) L)) (hs0 : L.length ≤ 2199023255488) (HS : Hid (∀ i (hi : i < L.length), nsz L[i] ≤ 2199023255488 ∧ thru callOk L[i] = true)) (bs : List Nat) (r : List Fr) (a0 : Option Addr) (HC : Hid (Chn w bs r a0)) (HB : Hid (Blt w)) (G : Option Flt) (hk1 : k1 = 2) (HGG : Hid (G = if kindS s1 (L.length : Nat) = 2 then grdsF r L else some (214, pos))) (hcn : c ≠ 1) :
    Calls Tryd.prog 40 #[.agg #[.int .u8 9, .string s, .int .i64 num, .int .i64 pos, .slice (some ⟨b2, o, none⟩) (L.length + 1) c], .pointer a0] w (RetO G w) := by
  obtain ⟨fs, hdesc⟩ := term_desc
  subst hk1
  obtain ⟨kd, hkd⟩ : ∃ kd, kd = kindS s1 (L.length : Nat) := ⟨_, rfl⟩
  have HK : Hid (kd = kindS s1 (L.length : Nat)) := hkd
  clear hkd
  have U1 : Hid (Upd [] w (w.alloc (.cells #[.int .u8 9, .string s, .int .i64 num, .int .i64 pos, .slice (some ⟨b2, o, none⟩) (L.length + 1) c] 29))) := (Upd.refl [] w).alloc _
  have tN : Hid (Tb (w.alloc (.cells #[.int .u8 9, .string s, .int .i64 num, .int .i64 pos, .slice (some ⟨b2, o, none⟩) (L.length + 1) c] 29)) w.heap.size #[.int .u8 9, .string s, .int .i64 num, .int .i64 pos, .slice (some ⟨b2, o, none⟩) (L.length + 1) c]) := Tb.new _ _ _ rfl
  have x0 : (w.alloc (.cells #[.int .u8 9, .string s, .int .i64 num, .int .i64 pos, .slice (some ⟨b2, o, none⟩) (L.length + 1) c] 29)).cell? ⟨b2, o, none⟩ = some (.int .u8 2) := (U1.out.cell (cell_lt hx0) (by simp)).trans hx0
  have x1 : (w.alloc (.cells #[.int .u8 9, .string s, .int .i64 num, .int .i64 pos, .slice (some ⟨b2, o, none⟩) (L.length + 1) c] 29)).cell? ⟨b2, o + 1, none⟩ = some (.string s1) := (U1.out.cell (cell_lt hx1) (by simp)).trans hx1
  have x2 : (w.alloc (.cells #[.int .u8 9, .string s, .int .i64 num, .int .i64 pos, .slice (some ⟨b2, o, none⟩) (L.length + 1) c] 29)).cell? ⟨b2, o + 2, none⟩ = some (.int .i64 n1) := (U1.out.cell (cell_lt hx2) (by simp)).trans hx2
  have x3 : (w.alloc (.cells #[.int .u8 9, .string s, .int .i64 num, .int .i64 pos, .slice (some ⟨b2, o, none⟩) (L.length + 1) c] 29)).cell? ⟨b2, o + 3, none⟩ = some (.int .i64 p1) := (U1.out.cell (cell_lt hx3) (by simp)).trans hx3
  have x4 : (w.alloc (.cells #[.int .u8 9, .string s, .int .i64 num, .int .i64 pos, .slice (some ⟨b2, o, none⟩) (L.length + 1) c] 29)).cell? ⟨b2, o + 4, none⟩ = some (.slice a1 l1 c1) := (U1.out.cell (cell_lt hx4) (by simp)).trans hx4
  have tz : Tb ((w.alloc (.cells #[.int .u8 9, .string s, .int .i64 num, .int .i64 pos, .slice (some ⟨b2, o, none⟩) (L.length + 1) c] 29)).alloc (.cells #[.int .u8 0, .string ⟨#[]⟩, .int .i64 0, .int .i64 0, .slice none 0 0] 29)) (w.heap.size + 1) #[.int .u8 0, .string ⟨#[]⟩, .int .i64 0, .int .i64 0, .slice none 0 0] := Tb.new _ _ _ (by simp)
  have HUZ : Hid (Upd [] (w.alloc (.cells #[.int .u8 9, .string s, .int .i64 num, .int .i64 pos, .slice (some ⟨b2, o, none⟩) (L.length + 1) c] 29)) ((w.alloc (.cells #[.int .u8 9, .string s, .int .i64 num, .int .i64 pos, .slice (some ⟨b2, o, none⟩) (L.length + 1) c] 29)).alloc (.cells #[.int .u8 0, .string ⟨#[]⟩, .int .i64 0, .int .i64 0, .slice none 0 0] 29))) := (Upd.refl [] _).alloc _
  have hc1 : (1 : Int) ≤ ((L.length + 1 : Nat) : Int) := by omega
  have hc2 : ((L.length + 1 : Nat) : Int) ≤ (c : Int) := by omega
  have ts : Hid (w.heap.size < (w.alloc (.cells #[.int .u8 9, .string s, .int .i64 num, .int .i64 pos, .slice (some ⟨b2, o, none⟩) (L.length + 1) c] 29)).heap.size) := by show w.heap.size < _; simp
  have hn1 : c ≠ 1 := hcn
  have hn2 : ¬ c = 1 := hcn
  have hn3 : ¬ (c - 1 = 0) := by omega
  clear hx0 hx1 hx2 hx3 hx4
  go_enter Tryd.func40, Tryd.ntmps40
  go_wp2_with (first
    | (refine store_T _ rfl _ _ rfl _ #[.int .u8 2, .string s1, .int .i64 n1, .int .i64 p1, .slice a1 l1 c1] _ rfl rfl tz rfl rfl (by simp [Value.oneCell']) ?_; intro w3 s3 u3; have V3 : Hid (Upd [] (w.alloc (.cells #[.int .u8 9, .string s, .int .i64 num, .int .i64 pos, .slice (some ⟨b2, o, none⟩) (L.length + 1) c] 29)) w3) := HUZ.out.then u3 (by simp))
    | fail)
  have U3 : Hid (Upd [] w w3) := U1.out.trans V3.out
  have t3 := tN.out.mono V3.out (by simp)
  clear U1 tN x0 x1 x2 x3 x4 tz HUZ V3 u3 ts
  refine region_lastT (by kernel_rfl) 12 rfl [some 55, some 56, some 57, some 58, some 59, some 60, some 61, some 62, some 63, some 64, some 65, some 66, some 67] rfl (by decide) rfl (by kernel_rfl) (by kernel_rfl) (fun j v _ => match j with | 0 => v = .pointer (some ⟨w.heap.size + 1, 0, none⟩) | 1 => v = .int .u8 2 | 2 => v = .bool false | 3 => v = .bool false | 4 => v = .pointer (some ⟨w.heap.size + 1, 1, none⟩) | 5 => v = .string s1 | 6 => v = .slice (some ⟨b2, o + 5, none⟩) L.length (c - 1) | 7 => v = .int .i64 (L.length : Nat) | 8 => v = .int .i64 (kd : Nat) | 9 => v = .bool (!((kd : Int) == 2)) | 10 => v = .bool (!((kd : Int) == 2)) | 11 => v = .agg #[.int .u8 9, .string s, .int .i64 num, .int .i64 pos, .slice (some ⟨b2, o, none⟩) (L.length + 1) c] | _ => True) (fun j v w w' h _ => h) ?_ ?_
  · intro D vs a' w5 i o' hA hU hV hS hi ho haf
    have hc5 : i = 0 ∨ i = 1 ∨ i = 2 ∨ i = 3 ∨ i = 4 ∨ i = 5 ∨ i = 6 ∨ i = 7 ∨ i = 8 ∨ i = 9 ∨ i = 10 ∨ i = 11 := by omega
    have t5 := t3.mono hU (by simp)
    have s5 := s3.mono hU (by simp)
    rcases hc5 with rfl | rfl | rfl | rfl | rfl | rfl | rfl | rfl | rfl | rfl | rfl | rfl <;> cases ho
    · exact ops_wp rfl rfl (wp_nf0 (.tmp 6) rfl _ (hA.ev 6 (by decide)) ⟨_, rfl, rfl, Upd.refl _ _⟩)
    · have D0 := haf ⟨0, .data⟩ (by simp) rfl
      exact ops_wp rfl rfl (wp_lkind (.tmp 55) rfl _ _ ((hS 0 55 rfl D0).trans (hV 0 D0)) (s5.cell 0) ⟨_, rfl, rfl, Upd.refl _ _⟩)
    · have D1 := haf ⟨1, .data⟩ (by simp) rfl
      exact ops_wp rfl rfl (wp_neqK (.tmp 56) _ rfl _ _ ((hS 1 56 rfl D1).trans (hV 1 D1)) rfl ⟨_, rfl, rfl, Upd.refl _ _⟩)
    · have D2 := haf ⟨2, .data⟩ (by simp) rfl
      exact ops_wp rfl rfl (wp_move (.tmp 57) rfl _ ((hS 2 57 rfl D2).trans (hV 2 D2)) ⟨_, rfl, rfl, Upd.refl _ _⟩)
    · have D3 := haf ⟨3, .guard⟩ (by simp) rfl
      exact ops_wpG rfl ((wanted_of rfl rfl ((hS 3 58 rfl D3).trans (hV 3 D3))).trans rfl) (wp_nf1 (.tmp 6) rfl _ (hA.ev 6 (by decide)) ⟨_, rfl, rfl, Upd.refl _ _⟩)
    · have D4 := haf ⟨4, .data⟩ (by simp) rfl
      have D3 := haf ⟨3, .guard⟩ (by simp) rfl
      exact ops_wpG rfl ((wanted_of rfl rfl ((hS 3 58 rfl D3).trans (hV 3 D3))).trans rfl) (wp_lstr (.tmp 59) rfl _ _ ((hS 4 59 rfl D4).trans (hV 4 D4)) (s5.cell 1) ⟨_, rfl, rfl, Upd.refl _ _⟩)
    · have D3 := haf ⟨3, .guard⟩ (by simp) rfl
      exact ops_wpG rfl ((wanted_of rfl rfl ((hS 3 58 rfl D3).trans (hV 3 D3))).trans rfl) (wp_move (.tmp 4) rfl _ (hA.ev 4 (by decide)) ⟨_, rfl, rfl, Upd.refl _ _⟩)
    · have D6 := haf ⟨6, .data⟩ (by simp) rfl
      have D3 := haf ⟨3, .guard⟩ (by simp) rfl
      exact ops_wpG rfl ((wanted_of rfl rfl ((hS 3 58 rfl D3).trans (hV 3 D3))).trans rfl) (wp_len (.tmp 61) rfl _ _ _ ((hS 6 61 rfl D6).trans (hV 6 D6)) ⟨_, rfl, rfl, Upd.refl _ _⟩)
    · have D5 := haf ⟨5, .data⟩ (by simp) rfl
      have D7 := haf ⟨7, .data⟩ (by simp) rfl
      have D3 := haf ⟨3, .guard⟩ (by simp) rfl
      refine ops_wpG rfl ((wanted_of rfl rfl ((hS 3 58 rfl D3).trans (hV 3 D3))).trans rfl) (wp_callA rfl Tryd.call8 (vs := #[.string s1, .int .i64 (L.length : Nat)]) ?_ (R := fun u w' => u = .int .i64 (kd : Nat) ∧ Upd [] w5 w') ?_ ?_)
      · have e0 : a'.eval (.tmp 60) = _ := ((hS 5 60 rfl D5).trans (hV 5 D5)); have e1 : a'.eval (.tmp 62) = _ := ((hS 7 62 rfl D7).trans (hV 7 D7)); simp only [List.map_toArray, List.map_cons, List.map_nil, e0, e1]
      · exact (Kind_any s1 (L.length : Nat) w5 (HB.out.mono (U3.out.trans hU))).mono fun e w' ⟨he, hw⟩ => ⟨_, he, by rw [HK.out], by rw [hw]; exact Upd.refl _ _⟩
      · rintro u w6 ⟨rfl, hu⟩; exact ⟨_, rfl, rfl, hu⟩
    · have D8 := haf ⟨8, .data⟩ (by simp) rfl
      have D3 := haf ⟨3, .guard⟩ (by simp) rfl
      exact ops_wpG rfl ((wanted_of rfl rfl ((hS 3 58 rfl D3).trans (hV 3 D3))).trans rfl) (wp_neqI (.tmp 63) _ rfl _ _ ((hS 8 63 rfl D8).trans (hV 8 D8)) rfl ⟨_, rfl, rfl, Upd.refl _ _⟩)
    · have D3 := haf ⟨3, .data⟩ (by simp) rfl
      have D9 := haf ⟨9, .data⟩ (by simp) rfl
      exact ops_wp rfl rfl (wp_pick (.tmp 58) _ (.tmp 64) rfl _ ((hS 3 58 rfl D3).trans (hV 3 D3)) ⟨_, rfl, (by have e : a'.eval (.tmp 64) = _ := ((hS 9 64 rfl D9).trans (hV 9 D9)); rw [e]; rfl), Upd.refl _ _⟩)
    · exact ops_wp rfl rfl (wp_load_row 29 (.tmp 2) rfl _ (hA.ev 2 (by decide)) 29 _ (0, 0) _ t5 hdesc rfl (by rw [info_term]; rfl) ⟨_, rfl, rfl, Upd.refl _ _⟩)
  · intro vs a' w5 o' hv hA hU hV hS ho
    cases ho
    have D0 : 0 < 12 := by omega
    have D1 : 1 < 12 := by omega
    have D2 : 2 < 12 := by omega
    have D3 : 3 < 12 := by omega
    have D4 : 4 < 12 := by omega
    have D5 : 5 < 12 := by omega
    have D6 : 6 < 12 := by omega
    have D7 : 7 < 12 := by omega
    have D8 : 8 < 12 := by omega
    have D9 : 9 < 12 := by omega
    have D10 : 10 < 12 := by omega
    have D11 : 11 < 12 := by omega
    have e65 : a'.eval (.tmp 65) = _ := ((hS 10 65 rfl D10).trans (hV 10 D10))
    have e66 : a'.eval (.tmp 66) = _ := ((hS 11 66 rfl D11).trans (hV 11 D11))
    refine ops_wp rfl rfl (wp_callB rfl Tryd.call26 (vs := #[.bool (!((kd : Int) == 2)), .int .i64 214, .agg #[.int .u8 9, .string s, .int .i64 num, .int .i64 pos, .slice (some ⟨b2, o, none⟩) (L.length + 1) c]]) (by simp only [List.map_toArray, List.map_cons, List.map_nil, e65, e66]; rfl) ?_)
    by_cases hk2 : kd = 2
    · rw [show (!((kd : Int) == 2)) = false from by rw [hk2]; rfl]
      have HG : Hid (G = grdsF r L) := by have := HGG.out; rw [if_pos (HK.out ▸ hk2)] at this; exact this
      refine (refuse_no 214 9 num pos s (some ⟨b2, o, none⟩) (L.length + 1) c w5).mono ?_
      rintro e w6 ⟨⟨u, rfl⟩, hu⟩
      refine Or.inl ⟨u, rfl, u, rfl, ?_⟩
      have HU0 : Hid (Upd [] w w6) := (U3.out.trans hU).trans hu
      obtain ⟨v0, r0, rfl, hv0⟩ := list_cons hv
      obtain ⟨v1, r1, rfl, hv1⟩ := list_cons hv0
      obtain ⟨v2, r2, rfl, hv2⟩ := list_cons hv1
      obtain ⟨v3, r3, rfl, hv3⟩ := list_cons hv2
      obtain ⟨v4, r4, rfl, hv4⟩ := list_cons hv3
      obtain ⟨v5, r5, rfl, hv5⟩ := list_cons hv4
      obtain ⟨v6, r6, rfl, hv6⟩ := list_cons hv5
      obtain ⟨v7, r7, rfl, hv7⟩ := list_cons hv6
      obtain ⟨v8, r8, rfl, hv8⟩ := list_cons hv7
      obtain ⟨v9, r9, rfl, hv9⟩ := list_cons hv8
      obtain ⟨v10, r10, rfl, hv10⟩ := list_cons hv9
      obtain ⟨v11, r11, rfl, hv11⟩ := list_cons hv10
      obtain ⟨v12, r12, rfl, hv12⟩ := list_cons hv11
      clear hV hS hA hU hu t3 s3 e65 e66 D0 D1 D2 D3 D4 D5 D6 D7 D8 D9 D10 D11
      simp only [List.set_cons_succ, List.set_cons_zero, putAll, Act.put, List.setIfInBounds_toArray]
      go_wp2_with fail
      go_loopw [70] (fun i wr => ∃ q : Nat, q ≤ L.length ∧ i = .int .i64 q ∧ Hid (grdsF r L = grdsF r (L.drop q)) ∧ Upd [] w wr) (fun i _ => L.length - (intOf i).toNat)
      case atStart => exact ⟨0, Nat.zero_le _, rfl, rfl, HU0.out⟩
      case round =>
        obtain ⟨q, hq, rfl, HP, hu⟩ := hrel
        have HU : Hid (Upd [] w wr) := hu
        clear hu
        by_cases hlt : q < L.length
        · have i1 : (q : Int) < (L.length : Int) := by omega
          obtain ⟨b3, o3, hae, cs, hl5, hcell, hin⟩ := HR.out.atK q hlt
          cases hae
          have hone := hin.one
          have hin' := NIn.mono HU.out _ _ _ hin
          have hc5 : ∀ j, j < 5 → wr.cell? ⟨b2, o + 5 + (q * 5 + j), none⟩ = cs[j]? := fun j hj => by
            have := hcell j hj
            rw [List.getElem?_eq_getElem (by omega)] at this ⊢
            exact (HU.out.cell (cell_lt this) (by simp)).trans this
          obtain ⟨q0, q1, q2, q3, q4, rfl⟩ := list5 hl5
          have x0 : wr.cell? ⟨b2, o + 5 + q * 5, none⟩ = some q0 := hc5 0 (by omega)
          have x1 : wr.cell? ⟨b2, o + 5 + q * 5 + 1, none⟩ = some q1 := hc5 1 (by omega)
          have x2 : wr.cell? ⟨b2, o + 5 + q * 5 + 2, none⟩ = some q2 := hc5 2 (by omega)
          have x3 : wr.cell? ⟨b2, o + 5 + q * 5 + 3, none⟩ = some q3 := hc5 3 (by omega)
          have x4 : wr.cell? ⟨b2, o + 5 + q * 5 + 4, none⟩ = some q4 := hc5 4 (by omega)
          have HIN : Hid (NIn wr d [q0, q1, q2, q3, q4] L[q]) := hin'
          have tz : Tb (wr.alloc (.cells #[.int .u8 0, .string ⟨#[]⟩, .int .i64 0, .int .i64 0, .slice none 0 0] 29)) wr.heap.size #[.int .u8 0, .string ⟨#[]⟩, .int .i64 0, .int .i64 0, .slice none 0 0] := Tb.new _ _ _ rfl
          have HUZ : Hid (Upd [] wr (wr.alloc (.cells #[.int .u8 0, .string ⟨#[]⟩, .int .i64 0, .int .i64 0, .slice none 0 0] 29))) := (Upd.refl [] wr).alloc _
          clear hc5 hcell hin hin'
          go_wp2_with (first
            | (refine store_T _ rfl _ _ rfl _ #[q0, q1, q2, q3, q4] _ rfl rfl tz rfl rfl hone ?_; intro w1 t1 u1; have V1 : Hid (Upd [] wr w1) := HUZ.out.then u1 (by simp))
            | (refine load_T _ rfl _ rfl _ _ rfl t1 rfl ?_)
            | fail)
          refine Calls.mono (IH.out w1 _ _ (NIn.mono V1.out _ _ _ HIN.out) (HS.out q hlt).1 (HS.out q hlt).2 bs r a0 (Chn.mono (HU.out.trans V1.out) _ _ _ HC.out) (HB.out.mono (HU.out.trans V1.out))) ?_
          rintro e w2 ⟨hu2, hm2⟩
          have U2 : Hid (Upd [] w w2) := (HU.out.trans V1.out).trans hu2
          have HP2 := HP.out
          rw [grdsF_at r L q hlt] at HP2
          clear hu2 t1 u1 V1 tz HUZ x0 x1 x2 x3 x4 HIN HU
          cases hpf : grdF r L[q] with
          | none =>
            rw [hpf] at hm2 HP2
            obtain ⟨u, rfl⟩ := hm2
            have HP3 : Hid (grdsF r L = grdsF r (L.drop (q + 1))) := HP2
            clear HP2 hpf HP
            go_wp2_with fail
            go_roundw
            case rel => exact ⟨q + 1, by omega, by go_num, HP3, U2.out⟩
            case measure => simp [intOf]; omega
          | some x =>
            rw [hpf] at hm2 HP2
            have hm3 : e = .panicked [{ v := .iface 33 (.agg #[.int .i64 x.1, .int .i64 x.2]), recovered := false }] := hm2
            subst hm3
            have HP3 : Hid (grdsF r L = some x) := HP2
            clear hm2 HP2 hpf HP
            go_wp2_with fail
            exact ⟨rfl, retO_err (HG.out.trans HP3.out) U2.out⟩
        · have hd : decide ((q : Int) < (L.length : Int)) = false := by simp; omega
          have hqe : q = L.length := by omega
          have HP3 : Hid (grdsF r L = none) := by
            have := HP.out
            rw [hqe, List.drop_length, grdsF] at this
            exact this
          go_wp2_with fail
          exact bodyPost_end (results_none rfl _ _ _) rfl (retO_ok (HG.out.trans HP3.out) HU.out)
    · rw [neqT hk2]
      refine (refuse_yes 214 9 num pos s (some ⟨b2, o, none⟩) (L.length + 1) c w5).mono ?_
      rintro e w6 ⟨rfl, hu⟩
      exact Or.inr ⟨_, rfl, hA.def', retO_err (x := (214, pos)) (by have := HGG.out; rw [if_neg (HK.out ▸ hk2)] at this; exact this) ((U3.out.trans hU).trans hu)⟩

set_option maxHeartbeats 4000000 in
set_option maxRecDepth 100000 in
theorem grd_calln (d : Nat) (_IH : Hid (GrdSaid d)) (w : World) (num pos : Int) (s : ByteArray) (L : List Nd) (b2 o c : Nat) (hcL : L.length + 1 ≤ c) (hc63 : c ≤ 9223372036854775807) (k1 n1 p1 : Int) (s1 : ByteArray) (a1 : Option Addr) (l1 c1 : Nat) (hx0 : w.cell? ⟨b2, o, none⟩ = some (.int .u8 k1)) (hx1 : w.cell? ⟨b2, o + 1, none⟩ = some (.string s1)) (hx2 : w.cell? ⟨b2, o + 2, none⟩ = some (.int .i64 n1)) (hx3 : w.cell? ⟨b2, o + 3, none⟩ = some (.int .i64 p1)) (hx4 : w.cell? ⟨b2, o + 4, none⟩ = some (.slice a1 l1 c1)) (_HR : Hid (RowN (NIn w d) w (some ⟨b2, o + 5, none⟩) L)) (hs0 : L.length ≤ 2199023255488) (_HS : Hid (∀ i (hi : i < L.length), nsz L[i] ≤ 2199023255488 ∧ thru callOk L[i] = true)) (bs : List Nat) (r : List Fr) (a0 : Option Addr) (_HC : Hid (Chn w bs r a0)) (_HB : Hid (Blt w)) (G : Option Flt) (hk1 : k1 ≠ 2) (HGG : Hid (G = some (214, pos))) (hcn : c ≠ 1) :
    Calls Tryd.prog 40 #[.agg #[.int .u8 9, .string s, .int .i64 num, .int .i64 pos, .slice (some ⟨b2, o, none⟩) (L.length + 1) c], .pointer a0] w (RetO G w) := by
  obtain ⟨fs, hdesc⟩ := term_desc
  have nk : (!(k1 == 2)) = true := by simp [hk1]
  have U1 : Hid (Upd [] w (w.alloc (.cells #[.int .u8 9, .string s, .int .i64 num, .int .i64 pos, .slice (some ⟨b2, o, none⟩) (L.length + 1) c] 29))) := (Upd.refl [] w).alloc _
  have tN : Hid (Tb (w.alloc (.cells #[.int .u8 9, .string s, .int .i64 num, .int .i64 pos, .slice (some ⟨b2, o, none⟩) (L.length + 1) c] 29)) w.heap.size #[.int .u8 9, .string s, .int .i64 num, .int .i64 pos, .slice (some ⟨b2, o, none⟩) (L.length + 1) c]) := Tb.new _ _ _ rfl
  have x0 : (w.alloc (.cells #[.int .u8 9, .string s, .int .i64 num, .int .i64 pos, .slice (some ⟨b2, o, none⟩) (L.length + 1) c] 29)).cell? ⟨b2, o, none⟩ = some (.int .u8 k1) := (U1.out.cell (cell_lt hx0) (by simp)).trans hx0
  have x1 : (w.alloc (.cells #[.int .u8 9, .string s, .int .i64 num, .int .i64 pos, .slice (some ⟨b2, o, none⟩) (L.length + 1) c] 29)).cell? ⟨b2, o + 1, none⟩ = some (.string s1) := (U1.out.cell (cell_lt hx1) (by simp)).trans hx1
  have x2 : (w.alloc (.cells #[.int .u8 9, .string s, .int .i64 num, .int .i64 pos, .slice (some ⟨b2, o, none⟩) (L.length + 1) c] 29)).cell? ⟨b2, o + 2, none⟩ = some (.int .i64 n1) := (U1.out.cell (cell_lt hx2) (by simp)).trans hx2
  have x3 : (w.alloc (.cells #[.int .u8 9, .string s, .int .i64 num, .int .i64 pos, .slice (some ⟨b2, o, none⟩) (L.length + 1) c] 29)).cell? ⟨b2, o + 3, none⟩ = some (.int .i64 p1) := (U1.out.cell (cell_lt hx3) (by simp)).trans hx3
  have x4 : (w.alloc (.cells #[.int .u8 9, .string s, .int .i64 num, .int .i64 pos, .slice (some ⟨b2, o, none⟩) (L.length + 1) c] 29)).cell? ⟨b2, o + 4, none⟩ = some (.slice a1 l1 c1) := (U1.out.cell (cell_lt hx4) (by simp)).trans hx4
  have tz : Tb ((w.alloc (.cells #[.int .u8 9, .string s, .int .i64 num, .int .i64 pos, .slice (some ⟨b2, o, none⟩) (L.length + 1) c] 29)).alloc (.cells #[.int .u8 0, .string ⟨#[]⟩, .int .i64 0, .int .i64 0, .slice none 0 0] 29)) (w.heap.size + 1) #[.int .u8 0, .string ⟨#[]⟩, .int .i64 0, .int .i64 0, .slice none 0 0] := Tb.new _ _ _ (by simp)
  have HUZ : Hid (Upd [] (w.alloc (.cells #[.int .u8 9, .string s, .int .i64 num, .int .i64 pos, .slice (some ⟨b2, o, none⟩) (L.length + 1) c] 29)) ((w.alloc (.cells #[.int .u8 9, .string s, .int .i64 num, .int .i64 pos, .slice (some ⟨b2, o, none⟩) (L.length + 1) c] 29)).alloc (.cells #[.int .u8 0, .string ⟨#[]⟩, .int .i64 0, .int .i64 0, .slice none 0 0] 29))) := (Upd.refl [] _).alloc _
  have hc1 : (1 : Int) ≤ ((L.length + 1 : Nat) : Int) := by omega
  have hc2 : ((L.length + 1 : Nat) : Int) ≤ (c : Int) := by omega
  have ts : Hid (w.heap.size < (w.alloc (.cells #[.int .u8 9, .string s, .int .i64 num, .int .i64 pos, .slice (some ⟨b2, o, none⟩) (L.length + 1) c] 29)).heap.size) := by show w.heap.size < _; simp
  have hn1 : c ≠ 1 := hcn
  have hn2 : ¬ c = 1 := hcn
  have hn3 : ¬ (c - 1 = 0) := by omega
  clear hx0 hx1 hx2 hx3 hx4
  go_enter Tryd.func40, Tryd.ntmps40
  go_wp2_with (first
    | (refine store_T _ rfl _ _ rfl _ #[.int .u8 k1, .string s1, .int .i64 n1, .int .i64 p1, .slice a1 l1 c1] _ rfl rfl tz rfl rfl (by simp [Value.oneCell']) ?_; intro w3 s3 u3; have V3 : Hid (Upd [] (w.alloc (.cells #[.int .u8 9, .string s, .int .i64 num, .int .i64 pos, .slice (some ⟨b2, o, none⟩) (L.length + 1) c] 29)) w3) := HUZ.out.then u3 (by simp))
    | fail)
  have U3 : Hid (Upd [] w w3) := U1.out.trans V3.out
  have t3 := tN.out.mono V3.out (by simp)
  clear U1 tN x0 x1 x2 x3 x4 tz HUZ V3 u3 ts
  refine region_lastT (by kernel_rfl) 12 rfl [some 55, some 56, some 57, some 58, some 59, some 60, some 61, some 62, some 63, some 64, some 65, some 66, some 67] rfl (by decide) rfl (by kernel_rfl) (by kernel_rfl) (fun j v _ => match j with | 0 => v = .pointer (some ⟨w.heap.size + 1, 0, none⟩) | 1 => v = .int .u8 k1 | 2 => v = .bool true | 3 => v = .bool true | 4 => v = undef | 5 => v = undef | 6 => v = undef | 7 => v = undef | 8 => v = undef | 9 => v = undef | 10 => v = .bool true | 11 => v = .agg #[.int .u8 9, .string s, .int .i64 num, .int .i64 pos, .slice (some ⟨b2, o, none⟩) (L.length + 1) c] | _ => True) (fun j v w w' h _ => h) ?_ ?_
  · intro D vs a' w5 i o' hA hU hV hS hi ho haf
    have hc5 : i = 0 ∨ i = 1 ∨ i = 2 ∨ i = 3 ∨ i = 4 ∨ i = 5 ∨ i = 6 ∨ i = 7 ∨ i = 8 ∨ i = 9 ∨ i = 10 ∨ i = 11 := by omega
    have t5 := t3.mono hU (by simp)
    have s5 := s3.mono hU (by simp)
    rcases hc5 with rfl | rfl | rfl | rfl | rfl | rfl | rfl | rfl | rfl | rfl | rfl | rfl <;> cases ho
    · exact ops_wp rfl rfl (wp_nf0 (.tmp 6) rfl _ (hA.ev 6 (by decide)) ⟨_, rfl, rfl, Upd.refl _ _⟩)
    · have D0 := haf ⟨0, .data⟩ (by simp) rfl
      exact ops_wp rfl rfl (wp_lkind (.tmp 55) rfl _ _ ((hS 0 55 rfl D0).trans (hV 0 D0)) (s5.cell 0) ⟨_, rfl, rfl, Upd.refl _ _⟩)
    · have D1 := haf ⟨1, .data⟩ (by simp) rfl
      exact ops_wp rfl rfl (wp_neqK (.tmp 56) _ rfl _ _ ((hS 1 56 rfl D1).trans (hV 1 D1)) rfl ⟨_, rfl, congrArg Value.bool nk, Upd.refl _ _⟩)
    · have D2 := haf ⟨2, .data⟩ (by simp) rfl
      exact ops_wp rfl rfl (wp_move (.tmp 57) rfl _ ((hS 2 57 rfl D2).trans (hV 2 D2)) ⟨_, rfl, rfl, Upd.refl _ _⟩)
    · have D3 := haf ⟨3, .guard⟩ (by simp) rfl
      exact ops_skip rfl ((wanted_of rfl rfl ((hS 3 58 rfl D3).trans (hV 3 D3))).trans rfl) ⟨undef, rfl, rfl, Upd.refl _ _⟩
    · have D4 := haf ⟨4, .data⟩ (by simp) rfl
      have D3 := haf ⟨3, .guard⟩ (by simp) rfl
      exact ops_skip rfl ((wanted_of rfl rfl ((hS 3 58 rfl D3).trans (hV 3 D3))).trans rfl) ⟨undef, rfl, rfl, Upd.refl _ _⟩
    · have D3 := haf ⟨3, .guard⟩ (by simp) rfl
      exact ops_skip rfl ((wanted_of rfl rfl ((hS 3 58 rfl D3).trans (hV 3 D3))).trans rfl) ⟨undef, rfl, rfl, Upd.refl _ _⟩
    · have D6 := haf ⟨6, .data⟩ (by simp) rfl
      have D3 := haf ⟨3, .guard⟩ (by simp) rfl
      exact ops_skip rfl ((wanted_of rfl rfl ((hS 3 58 rfl D3).trans (hV 3 D3))).trans rfl) ⟨undef, rfl, rfl, Upd.refl _ _⟩
    · have D5 := haf ⟨5, .data⟩ (by simp) rfl
      have D7 := haf ⟨7, .data⟩ (by simp) rfl
      have D3 := haf ⟨3, .guard⟩ (by simp) rfl
      exact ops_skip rfl ((wanted_of rfl rfl ((hS 3 58 rfl D3).trans (hV 3 D3))).trans rfl) ⟨undef, rfl, rfl, Upd.refl _ _⟩
    · have D8 := haf ⟨8, .data⟩ (by simp) rfl
      have D3 := haf ⟨3, .guard⟩ (by simp) rfl
      exact ops_skip rfl ((wanted_of rfl rfl ((hS 3 58 rfl D3).trans (hV 3 D3))).trans rfl) ⟨undef, rfl, rfl, Upd.refl _ _⟩
    · have D3 := haf ⟨3, .data⟩ (by simp) rfl
      have D9 := haf ⟨9, .data⟩ (by simp) rfl
      exact ops_wp rfl rfl (wp_pick (.tmp 58) _ (.tmp 64) rfl _ ((hS 3 58 rfl D3).trans (hV 3 D3)) ⟨_, rfl, rfl, Upd.refl _ _⟩)
    · exact ops_wp rfl rfl (wp_load_row 29 (.tmp 2) rfl _ (hA.ev 2 (by decide)) 29 _ (0, 0) _ t5 hdesc rfl (by rw [info_term]; rfl) ⟨_, rfl, rfl, Upd.refl _ _⟩)
  · intro vs a' w5 o' hv hA hU hV hS ho
    cases ho
    have D0 : 0 < 12 := by omega
    have D1 : 1 < 12 := by omega
    have D2 : 2 < 12 := by omega
    have D3 : 3 < 12 := by omega
    have D4 : 4 < 12 := by omega
    have D5 : 5 < 12 := by omega
    have D6 : 6 < 12 := by omega
    have D7 : 7 < 12 := by omega
    have D8 : 8 < 12 := by omega
    have D9 : 9 < 12 := by omega
    have D10 : 10 < 12 := by omega
    have D11 : 11 < 12 := by omega
    have e65 : a'.eval (.tmp 65) = _ := ((hS 10 65 rfl D10).trans (hV 10 D10))
    have e66 : a'.eval (.tmp 66) = _ := ((hS 11 66 rfl D11).trans (hV 11 D11))
    refine ops_wp rfl rfl (wp_callB rfl Tryd.call26 (vs := #[.bool true, .int .i64 214, .agg #[.int .u8 9, .string s, .int .i64 num, .int .i64 pos, .slice (some ⟨b2, o, none⟩) (L.length + 1) c]]) (by simp only [List.map_toArray, List.map_cons, List.map_nil, e65, e66]; rfl) ?_)
    refine (refuse_yes 214 9 num pos s (some ⟨b2, o, none⟩) (L.length + 1) c w5).mono ?_
    rintro e w6 ⟨rfl, hu⟩
    exact Or.inr ⟨_, rfl, hA.def', retO_err (x := (214, pos)) HGG.out ((U3.out.trans hU).trans hu)⟩

set_option maxHeartbeats 4000000 in
set_option maxRecDepth 100000 in
theorem grd_call0 (d : Nat) (_IH : Hid (GrdSaid d)) (w : World) (num pos : Int) (s : ByteArray) (b2 o : Nat) (k1 n1 p1 : Int) (s1 : ByteArray) (a1 : Option Addr) (l1 c1 : Nat) (hx0 : w.cell? ⟨b2, o, none⟩ = some (.int .u8 k1)) (hx1 : w.cell? ⟨b2, o + 1, none⟩ = some (.string s1)) (hx2 : w.cell? ⟨b2, o + 2, none⟩ = some (.int .i64 n1)) (hx3 : w.cell? ⟨b2, o + 3, none⟩ = some (.int .i64 p1)) (hx4 : w.cell? ⟨b2, o + 4, none⟩ = some (.slice a1 l1 c1)) (bs : List Nat) (r : List Fr) (a0 : Option Addr) (_HC : Hid (Chn w bs r a0)) (HB : Hid (Blt w)) (G : Option Flt) (hk1 : k1 = 2) (HGG : Hid (G = if kindS s1 ((0 : Nat) : Int) = 2 then grdsF r ([] : List Nd) else some (214, pos))) :
    Calls Tryd.prog 40 #[.agg #[.int .u8 9, .string s, .int .i64 num, .int .i64 pos, .slice (some ⟨b2, o, none⟩) 1 1], .pointer a0] w (RetO G w) := by
  obtain ⟨fs, hdesc⟩ := term_desc
  subst hk1
  obtain ⟨kd, hkd⟩ : ∃ kd, kd = kindS s1 ((0 : Nat) : Int) := ⟨_, rfl⟩
  have HK : Hid (kd = kindS s1 ((0 : Nat) : Int)) := hkd
  clear hkd
  have U1 : Hid (Upd [] w (w.alloc (.cells #[.int .u8 9, .string s, .int .i64 num, .int .i64 pos, .slice (some ⟨b2, o, none⟩) 1 1] 29))) := (Upd.refl [] w).alloc _
  have tN : Hid (Tb (w.alloc (.cells #[.int .u8 9, .string s, .int .i64 num, .int .i64 pos, .slice (some ⟨b2, o, none⟩) 1 1] 29)) w.heap.size #[.int .u8 9, .string s, .int .i64 num, .int .i64 pos, .slice (some ⟨b2, o, none⟩) 1 1]) := Tb.new _ _ _ rfl
  have x0 : (w.alloc (.cells #[.int .u8 9, .string s, .int .i64 num, .int .i64 pos, .slice (some ⟨b2, o, none⟩) 1 1] 29)).cell? ⟨b2, o, none⟩ = some (.int .u8 2) := (U1.out.cell (cell_lt hx0) (by simp)).trans hx0
  have x1 : (w.alloc (.cells #[.int .u8 9, .string s, .int .i64 num, .int .i64 pos, .slice (some ⟨b2, o, none⟩) 1 1] 29)).cell? ⟨b2, o + 1, none⟩ = some (.string s1) := (U1.out.cell (cell_lt hx1) (by simp)).trans hx1
  have x2 : (w.alloc (.cells #[.int .u8 9, .string s, .int .i64 num, .int .i64 pos, .slice (some ⟨b2, o, none⟩) 1 1] 29)).cell? ⟨b2, o + 2, none⟩ = some (.int .i64 n1) := (U1.out.cell (cell_lt hx2) (by simp)).trans hx2
  have x3 : (w.alloc (.cells #[.int .u8 9, .string s, .int .i64 num, .int .i64 pos, .slice (some ⟨b2, o, none⟩) 1 1] 29)).cell? ⟨b2, o + 3, none⟩ = some (.int .i64 p1) := (U1.out.cell (cell_lt hx3) (by simp)).trans hx3
  have x4 : (w.alloc (.cells #[.int .u8 9, .string s, .int .i64 num, .int .i64 pos, .slice (some ⟨b2, o, none⟩) 1 1] 29)).cell? ⟨b2, o + 4, none⟩ = some (.slice a1 l1 c1) := (U1.out.cell (cell_lt hx4) (by simp)).trans hx4
  have tz : Tb ((w.alloc (.cells #[.int .u8 9, .string s, .int .i64 num, .int .i64 pos, .slice (some ⟨b2, o, none⟩) 1 1] 29)).alloc (.cells #[.int .u8 0, .string ⟨#[]⟩, .int .i64 0, .int .i64 0, .slice none 0 0] 29)) (w.heap.size + 1) #[.int .u8 0, .string ⟨#[]⟩, .int .i64 0, .int .i64 0, .slice none 0 0] := Tb.new _ _ _ (by simp)
  have HUZ : Hid (Upd [] (w.alloc (.cells #[.int .u8 9, .string s, .int .i64 num, .int .i64 pos, .slice (some ⟨b2, o, none⟩) 1 1] 29)) ((w.alloc (.cells #[.int .u8 9, .string s, .int .i64 num, .int .i64 pos, .slice (some ⟨b2, o, none⟩) 1 1] 29)).alloc (.cells #[.int .u8 0, .string ⟨#[]⟩, .int .i64 0, .int .i64 0, .slice none 0 0] 29))) := (Upd.refl [] _).alloc _
  have hc1 : (1 : Int) ≤ ((1 : Nat) : Int) := by omega
  have hc2 : ((1 : Nat) : Int) ≤ ((1 : Nat) : Int) := by omega
  have ts : Hid (w.heap.size < (w.alloc (.cells #[.int .u8 9, .string s, .int .i64 num, .int .i64 pos, .slice (some ⟨b2, o, none⟩) 1 1] 29)).heap.size) := by show w.heap.size < _; simp
  clear hx0 hx1 hx2 hx3 hx4
  go_enter Tryd.func40, Tryd.ntmps40
  go_wp2_with (first
    | (refine store_T _ rfl _ _ rfl _ #[.int .u8 2, .string s1, .int .i64 n1, .int .i64 p1, .slice a1 l1 c1] _ rfl rfl tz rfl rfl (by simp [Value.oneCell']) ?_; intro w3 s3 u3; have V3 : Hid (Upd [] (w.alloc (.cells #[.int .u8 9, .string s, .int .i64 num, .int .i64 pos, .slice (some ⟨b2, o, none⟩) 1 1] 29)) w3) := HUZ.out.then u3 (by simp))
    | fail)
  have U3 : Hid (Upd [] w w3) := U1.out.trans V3.out
  have t3 := tN.out.mono V3.out (by simp)
  have HR : Hid (RowN (NIn w d) w (some ⟨b2, o, none⟩) ([] : List Nd)) := Or.inl rfl
  have hs0 : ([] : List Nd).length ≤ 2199023255488 := by simp
  have HS : Hid (∀ i (hi : i < ([] : List Nd).length), nsz ([] : List Nd)[i] ≤ 2199023255488 ∧ thru callOk ([] : List Nd)[i] = true) := fun i hi => by simp at hi
  clear U1 tN x0 x1 x2 x3 x4 tz HUZ V3 u3 ts
  refine region_lastT (by kernel_rfl) 12 rfl [some 55, some 56, some 57, some 58, some 59, some 60, some 61, some 62, some 63, some 64, some 65, some 66, some 67] rfl (by decide) rfl (by kernel_rfl) (by kernel_rfl) (fun j v _ => match j with | 0 => v = .pointer (some ⟨w.heap.size + 1, 0, none⟩) | 1 => v = .int .u8 2 | 2 => v = .bool false | 3 => v = .bool false | 4 => v = .pointer (some ⟨w.heap.size + 1, 1, none⟩) | 5 => v = .string s1 | 6 => v = .slice (some ⟨b2, o, none⟩) 0 0 | 7 => v = .int .i64 ((0 : Nat) : Int) | 8 => v = .int .i64 (kd : Nat) | 9 => v = .bool (!((kd : Int) == 2)) | 10 => v = .bool (!((kd : Int) == 2)) | 11 => v = .agg #[.int .u8 9, .string s, .int .i64 num, .int .i64 pos, .slice (some ⟨b2, o, none⟩) 1 1] | _ => True) (fun j v w w' h _ => h) ?_ ?_
  · intro D vs a' w5 i o' hA hU hV hS hi ho haf
    have hc5 : i = 0 ∨ i = 1 ∨ i = 2 ∨ i = 3 ∨ i = 4 ∨ i = 5 ∨ i = 6 ∨ i = 7 ∨ i = 8 ∨ i = 9 ∨ i = 10 ∨ i = 11 := by omega
    have t5 := t3.mono hU (by simp)
    have s5 := s3.mono hU (by simp)
    rcases hc5 with rfl | rfl | rfl | rfl | rfl | rfl | rfl | rfl | rfl | rfl | rfl | rfl <;> cases ho
    · exact ops_wp rfl rfl (wp_nf0 (.tmp 6) rfl _ (hA.ev 6 (by decide)) ⟨_, rfl, rfl, Upd.refl _ _⟩)
    · have D0 := haf ⟨0, .data⟩ (by simp) rfl
      exact ops_wp rfl rfl (wp_lkind (.tmp 55) rfl _ _ ((hS 0 55 rfl D0).trans (hV 0 D0)) (s5.cell 0) ⟨_, rfl, rfl, Upd.refl _ _⟩)
    · have D1 := haf ⟨1, .data⟩ (by simp) rfl
      exact ops_wp rfl rfl (wp_neqK (.tmp 56) _ rfl _ _ ((hS 1 56 rfl D1).trans (hV 1 D1)) rfl ⟨_, rfl, rfl, Upd.refl _ _⟩)
    · have D2 := haf ⟨2, .data⟩ (by simp) rfl
      exact ops_wp rfl rfl (wp_move (.tmp 57) rfl _ ((hS 2 57 rfl D2).trans (hV 2 D2)) ⟨_, rfl, rfl, Upd.refl _ _⟩)
    · have D3 := haf ⟨3, .guard⟩ (by simp) rfl
      exact ops_wpG rfl ((wanted_of rfl rfl ((hS 3 58 rfl D3).trans (hV 3 D3))).trans rfl) (wp_nf1 (.tmp 6) rfl _ (hA.ev 6 (by decide)) ⟨_, rfl, rfl, Upd.refl _ _⟩)
    · have D4 := haf ⟨4, .data⟩ (by simp) rfl
      have D3 := haf ⟨3, .guard⟩ (by simp) rfl
      exact ops_wpG rfl ((wanted_of rfl rfl ((hS 3 58 rfl D3).trans (hV 3 D3))).trans rfl) (wp_lstr (.tmp 59) rfl _ _ ((hS 4 59 rfl D4).trans (hV 4 D4)) (s5.cell 1) ⟨_, rfl, rfl, Upd.refl _ _⟩)
    · have D3 := haf ⟨3, .guard⟩ (by simp) rfl
      exact ops_wpG rfl ((wanted_of rfl rfl ((hS 3 58 rfl D3).trans (hV 3 D3))).trans rfl) (wp_move (.tmp 4) rfl _ (hA.ev 4 (by decide)) ⟨_, rfl, rfl, Upd.refl _ _⟩)
    · have D6 := haf ⟨6, .data⟩ (by simp) rfl
      have D3 := haf ⟨3, .guard⟩ (by simp) rfl
      exact ops_wpG rfl ((wanted_of rfl rfl ((hS 3 58 rfl D3).trans (hV 3 D3))).trans rfl) (wp_len (.tmp 61) rfl _ _ _ ((hS 6 61 rfl D6).trans (hV 6 D6)) ⟨_, rfl, rfl, Upd.refl _ _⟩)
    · have D5 := haf ⟨5, .data⟩ (by simp) rfl
      have D7 := haf ⟨7, .data⟩ (by simp) rfl
      have D3 := haf ⟨3, .guard⟩ (by simp) rfl
      refine ops_wpG rfl ((wanted_of rfl rfl ((hS 3 58 rfl D3).trans (hV 3 D3))).trans rfl) (wp_callA rfl Tryd.call8 (vs := #[.string s1, .int .i64 ((0 : Nat) : Int)]) ?_ (R := fun u w' => u = .int .i64 (kd : Nat) ∧ Upd [] w5 w') ?_ ?_)
      · have e0 : a'.eval (.tmp 60) = _ := ((hS 5 60 rfl D5).trans (hV 5 D5)); have e1 : a'.eval (.tmp 62) = _ := ((hS 7 62 rfl D7).trans (hV 7 D7)); simp only [List.map_toArray, List.map_cons, List.map_nil, e0, e1]
      · exact (Kind_any s1 ((0 : Nat) : Int) w5 (HB.out.mono (U3.out.trans hU))).mono fun e w' ⟨he, hw⟩ => ⟨_, he, by rw [HK.out], by rw [hw]; exact Upd.refl _ _⟩
      · rintro u w6 ⟨rfl, hu⟩; exact ⟨_, rfl, rfl, hu⟩
    · have D8 := haf ⟨8, .data⟩ (by simp) rfl
      have D3 := haf ⟨3, .guard⟩ (by simp) rfl
      exact ops_wpG rfl ((wanted_of rfl rfl ((hS 3 58 rfl D3).trans (hV 3 D3))).trans rfl) (wp_neqI (.tmp 63) _ rfl _ _ ((hS 8 63 rfl D8).trans (hV 8 D8)) rfl ⟨_, rfl, rfl, Upd.refl _ _⟩)
    · have D3 := haf ⟨3, .data⟩ (by simp) rfl
      have D9 := haf ⟨9, .data⟩ (by simp) rfl
      exact ops_wp rfl rfl (wp_pick (.tmp 58) _ (.tmp 64) rfl _ ((hS 3 58 rfl D3).trans (hV 3 D3)) ⟨_, rfl, (by have e : a'.eval (.tmp 64) = _ := ((hS 9 64 rfl D9).trans (hV 9 D9)); rw [e]; rfl), Upd.refl _ _⟩)
    · exact ops_wp rfl rfl (wp_load_row 29 (.tmp 2) rfl _ (hA.ev 2 (by decide)) 29 _ (0, 0) _ t5 hdesc rfl (by rw [info_term]; rfl) ⟨_, rfl, rfl, Upd.refl _ _⟩)
  · intro vs a' w5 o' hv hA hU hV hS ho
    cases ho
    have D0 : 0 < 12 := by omega
    have D1 : 1 < 12 := by omega
    have D2 : 2 < 12 := by omega
    have D3 : 3 < 12 := by omega
    have D4 : 4 < 12 := by omega
    have D5 : 5 < 12 := by omega
    have D6 : 6 < 12 := by omega
    have D7 : 7 < 12 := by omega
    have D8 : 8 < 12 := by omega
    have D9 : 9 < 12 := by omega
    have D10 : 10 < 12 := by omega
    have D11 : 11 < 12 := by omega
    have e65 : a'.eval (.tmp 65) = _ := ((hS 10 65 rfl D10).trans (hV 10 D10))
    have e66 : a'.eval (.tmp 66) = _ := ((hS 11 66 rfl D11).trans (hV 11 D11))
    refine ops_wp rfl rfl (wp_callB rfl Tryd.call26 (vs := #[.bool (!((kd : Int) == 2)), .int .i64 214, .agg #[.int .u8 9, .string s, .int .i64 num, .int .i64 pos, .slice (some ⟨b2, o, none⟩) 1 1]]) (by simp only [List.map_toArray, List.map_cons, List.map_nil, e65, e66]; rfl) ?_)
    by_cases hk2 : kd = 2
    · rw [show (!((kd : Int) == 2)) = false from by rw [hk2]; rfl]
      have HG : Hid (G = grdsF r ([] : List Nd)) := by have := HGG.out; rw [if_pos (HK.out ▸ hk2)] at this; exact this
      refine (refuse_no 214 9 num pos s (some ⟨b2, o, none⟩) 1 1 w5).mono ?_
      rintro e w6 ⟨⟨u, rfl⟩, hu⟩
      refine Or.inl ⟨u, rfl, u, rfl, ?_⟩
      have HU0 : Hid (Upd [] w w6) := (U3.out.trans hU).trans hu
      obtain ⟨v0, r0, rfl, hv0⟩ := list_cons hv
      obtain ⟨v1, r1, rfl, hv1⟩ := list_cons hv0
      obtain ⟨v2, r2, rfl, hv2⟩ := list_cons hv1
      obtain ⟨v3, r3, rfl, hv3⟩ := list_cons hv2
      obtain ⟨v4, r4, rfl, hv4⟩ := list_cons hv3
      obtain ⟨v5, r5, rfl, hv5⟩ := list_cons hv4
      obtain ⟨v6, r6, rfl, hv6⟩ := list_cons hv5
      obtain ⟨v7, r7, rfl, hv7⟩ := list_cons hv6
      obtain ⟨v8, r8, rfl, hv8⟩ := list_cons hv7
      obtain ⟨v9, r9, rfl, hv9⟩ := list_cons hv8
      obtain ⟨v10, r10, rfl, hv10⟩ := list_cons hv9
      obtain ⟨v11, r11, rfl, hv11⟩ := list_cons hv10
      obtain ⟨v12, r12, rfl, hv12⟩ := list_cons hv11
      clear hV hS hA hU hu t3 s3 e65 e66 D0 D1 D2 D3 D4 D5 D6 D7 D8 D9 D10 D11
      simp only [List.set_cons_succ, List.set_cons_zero, putAll, Act.put, List.setIfInBounds_toArray]
      go_wp2_with fail
      refine wp_loop_rounds 1 ?_
      rw [rounds_succ]
      go_wp2_with fail
      exact bodyPost_end (results_none rfl _ _ _) rfl (retO_ok (HG.out.trans (by rw [grdsF])) HU0.out)
    · rw [neqT hk2]
      refine (refuse_yes 214 9 num pos s (some ⟨b2, o, none⟩) 1 1 w5).mono ?_
      rintro e w6 ⟨rfl, hu⟩
      exact Or.inr ⟨_, rfl, hA.def', retO_err (x := (214, pos)) (by have := HGG.out; rw [if_neg (HK.out ▸ hk2)] at this; exact this) ((U3.out.trans hU).trans hu)⟩

set_option maxHeartbeats 4000000 in
set_option maxRecDepth 100000 in
theorem grd_calln0 (d : Nat) (_IH : Hid (GrdSaid d)) (w : World) (num pos : Int) (s : ByteArray) (b2 o : Nat) (k1 n1 p1 : Int) (s1 : ByteArray) (a1 : Option Addr) (l1 c1 : Nat) (hx0 : w.cell? ⟨b2, o, none⟩ = some (.int .u8 k1)) (hx1 : w.cell? ⟨b2, o + 1, none⟩ = some (.string s1)) (hx2 : w.cell? ⟨b2, o + 2, none⟩ = some (.int .i64 n1)) (hx3 : w.cell? ⟨b2, o + 3, none⟩ = some (.int .i64 p1)) (hx4 : w.cell? ⟨b2, o + 4, none⟩ = some (.slice a1 l1 c1)) (bs : List Nat) (r : List Fr) (a0 : Option Addr) (_HC : Hid (Chn w bs r a0)) (_HB : Hid (Blt w)) (G : Option Flt) (hk1 : k1 ≠ 2) (HGG : Hid (G = some (214, pos))) :
    Calls Tryd.prog 40 #[.agg #[.int .u8 9, .string s, .int .i64 num, .int .i64 pos, .slice (some ⟨b2, o, none⟩) 1 1], .pointer a0] w (RetO G w) := by
  obtain ⟨fs, hdesc⟩ := term_desc
  have nk : (!(k1 == 2)) = true := by simp [hk1]
  have U1 : Hid (Upd [] w (w.alloc (.cells #[.int .u8 9, .string s, .int .i64 num, .int .i64 pos, .slice (some ⟨b2, o, none⟩) 1 1] 29))) := (Upd.refl [] w).alloc _
  have tN : Hid (Tb (w.alloc (.cells #[.int .u8 9, .string s, .int .i64 num, .int .i64 pos, .slice (some ⟨b2, o, none⟩) 1 1] 29)) w.heap.size #[.int .u8 9, .string s, .int .i64 num, .int .i64 pos, .slice (some ⟨b2, o, none⟩) 1 1]) := Tb.new _ _ _ rfl
  have x0 : (w.alloc (.cells #[.int .u8 9, .string s, .int .i64 num, .int .i64 pos, .slice (some ⟨b2, o, none⟩) 1 1] 29)).cell? ⟨b2, o, none⟩ = some (.int .u8 k1) := (U1.out.cell (cell_lt hx0) (by simp)).trans hx0
  have x1 : (w.alloc (.cells #[.int .u8 9, .string s, .int .i64 num, .int .i64 pos, .slice (some ⟨b2, o, none⟩) 1 1] 29)).cell? ⟨b2, o + 1, none⟩ = some (.string s1) := (U1.out.cell (cell_lt hx1) (by simp)).trans hx1
  have x2 : (w.alloc (.cells #[.int .u8 9, .string s, .int .i64 num, .int .i64 pos, .slice (some ⟨b2, o, none⟩) 1 1] 29)).cell? ⟨b2, o + 2, none⟩ = some (.int .i64 n1) := (U1.out.cell (cell_lt hx2) (by simp)).trans hx2
  have x3 : (w.alloc (.cells #[.int .u8 9, .string s, .int .i64 num, .int .i64 pos, .slice (some ⟨b2, o, none⟩) 1 1] 29)).cell? ⟨b2, o + 3, none⟩ = some (.int .i64 p1) := (U1.out.cell (cell_lt hx3) (by simp)).trans hx3
  have x4 : (w.alloc (.cells #[.int .u8 9, .string s, .int .i64 num, .int .i64 pos, .slice (some ⟨b2, o, none⟩) 1 1] 29)).cell? ⟨b2, o + 4, none⟩ = some (.slice a1 l1 c1) := (U1.out.cell (cell_lt hx4) (by simp)).trans hx4
  have tz : Tb ((w.alloc (.cells #[.int .u8 9, .string s, .int .i64 num, .int .i64 pos, .slice (some ⟨b2, o, none⟩) 1 1] 29)).alloc (.cells #[.int .u8 0, .string ⟨#[]⟩, .int .i64 0, .int .i64 0, .slice none 0 0] 29)) (w.heap.size + 1) #[.int .u8 0, .string ⟨#[]⟩, .int .i64 0, .int .i64 0, .slice none 0 0] := Tb.new _ _ _ (by simp)
  have HUZ : Hid (Upd [] (w.alloc (.cells #[.int .u8 9, .string s, .int .i64 num, .int .i64 pos, .slice (some ⟨b2, o, none⟩) 1 1] 29)) ((w.alloc (.cells #[.int .u8 9, .string s, .int .i64 num, .int .i64 pos, .slice (some ⟨b2, o, none⟩) 1 1] 29)).alloc (.cells #[.int .u8 0, .string ⟨#[]⟩, .int .i64 0, .int .i64 0, .slice none 0 0] 29))) := (Upd.refl [] _).alloc _
  have hc1 : (1 : Int) ≤ ((1 : Nat) : Int) := by omega
  have hc2 : ((1 : Nat) : Int) ≤ ((1 : Nat) : Int) := by omega
  have ts : Hid (w.heap.size < (w.alloc (.cells #[.int .u8 9, .string s, .int .i64 num, .int .i64 pos, .slice (some ⟨b2, o, none⟩) 1 1] 29)).heap.size) := by show w.heap.size < _; simp
  clear hx0 hx1 hx2 hx3 hx4
  go_enter Tryd.func40, Tryd.ntmps40
  go_wp2_with (first
    | (refine store_T _ rfl _ _ rfl _ #[.int .u8 k1, .string s1, .int .i64 n1, .int .i64 p1, .slice a1 l1 c1] _ rfl rfl tz rfl rfl (by simp [Value.oneCell']) ?_; intro w3 s3 u3; have V3 : Hid (Upd [] (w.alloc (.cells #[.int .u8 9, .string s, .int .i64 num, .int .i64 pos, .slice (some ⟨b2, o, none⟩) 1 1] 29)) w3) := HUZ.out.then u3 (by simp))
    | fail)
  have U3 : Hid (Upd [] w w3) := U1.out.trans V3.out
  have t3 := tN.out.mono V3.out (by simp)
  have HR : Hid (RowN (NIn w d) w (some ⟨b2, o, none⟩) ([] : List Nd)) := Or.inl rfl
  have hs0 : ([] : List Nd).length ≤ 2199023255488 := by simp
  have HS : Hid (∀ i (hi : i < ([] : List Nd).length), nsz ([] : List Nd)[i] ≤ 2199023255488 ∧ thru callOk ([] : List Nd)[i] = true) := fun i hi => by simp at hi
  clear U1 tN x0 x1 x2 x3 x4 tz HUZ V3 u3 ts
  refine region_lastT (by kernel_rfl) 12 rfl [some 55, some 56, some 57, some 58, some 59, some 60, some 61, some 62, some 63, some 64, some 65, some 66, some 67] rfl (by decide) rfl (by kernel_rfl) (by kernel_rfl) (fun j v _ => match j with | 0 => v = .pointer (some ⟨w.heap.size + 1, 0, none⟩) | 1 => v = .int .u8 k1 | 2 => v = .bool true | 3 => v = .bool true | 4 => v = undef | 5 => v = undef | 6 => v = undef | 7 => v = undef | 8 => v = undef | 9 => v = undef | 10 => v = .bool true | 11 => v = .agg #[.int .u8 9, .string s, .int .i64 num, .int .i64 pos, .slice (some ⟨b2, o, none⟩) 1 1] | _ => True) (fun j v w w' h _ => h) ?_ ?_
  · intro D vs a' w5 i o' hA hU hV hS hi ho haf
    have hc5 : i = 0 ∨ i = 1 ∨ i = 2 ∨ i = 3 ∨ i = 4 ∨ i = 5 ∨ i = 6 ∨ i = 7 ∨ i = 8 ∨ i = 9 ∨ i = 10 ∨ i = 11 := by omega
    have t5 := t3.mono hU (by simp)
    have s5 := s3.mono hU (by simp)
    rcases hc5 with rfl | rfl | rfl | rfl | rfl | rfl | rfl | rfl | rfl | rfl | rfl | rfl <;> cases ho
    · exact ops_wp rfl rfl (wp_nf0 (.tmp 6) rfl _ (hA.ev 6 (by decide)) ⟨_, rfl, rfl, Upd.refl _ _⟩)
    · have D0 := haf ⟨0, .data⟩ (by simp) rfl
      exact ops_wp rfl rfl (wp_lkind (.tmp 55) rfl _ _ ((hS 0 55 rfl D0).trans (hV 0 D0)) (s5.cell 0) ⟨_, rfl, rfl, Upd.refl _ _⟩)
    · have D1 := haf ⟨1, .data⟩ (by simp) rfl
      exact ops_wp rfl rfl (wp_neqK (.tmp 56) _ rfl _ _ ((hS 1 56 rfl D1).trans (hV 1 D1)) rfl ⟨_, rfl, congrArg Value.bool nk, Upd.refl _ _⟩)
    · have D2 := haf ⟨2, .data⟩ (by simp) rfl
      exact ops_wp rfl rfl (wp_move (.tmp 57) rfl _ ((hS 2 57 rfl D2).trans (hV 2 D2)) ⟨_, rfl, rfl, Upd.refl _ _⟩)
    · have D3 := haf ⟨3, .guard⟩ (by simp) rfl
      exact ops_skip rfl ((wanted_of rfl rfl ((hS 3 58 rfl D3).trans (hV 3 D3))).trans rfl) ⟨undef, rfl, rfl, Upd.refl _ _⟩
    · have D4 := haf ⟨4, .data⟩ (by simp) rfl
      have D3 := haf ⟨3, .guard⟩ (by simp) rfl
      exact ops_skip rfl ((wanted_of rfl rfl ((hS 3 58 rfl D3).trans (hV 3 D3))).trans rfl) ⟨undef, rfl, rfl, Upd.refl _ _⟩
    · have D3 := haf ⟨3, .guard⟩ (by simp) rfl
      exact ops_skip rfl ((wanted_of rfl rfl ((hS 3 58 rfl D3).trans (hV 3 D3))).trans rfl) ⟨undef, rfl, rfl, Upd.refl _ _⟩
    · have D6 := haf ⟨6, .data⟩ (by simp) rfl
      have D3 := haf ⟨3, .guard⟩ (by simp) rfl
      exact ops_skip rfl ((wanted_of rfl rfl ((hS 3 58 rfl D3).trans (hV 3 D3))).trans rfl) ⟨undef, rfl, rfl, Upd.refl _ _⟩
    · have D5 := haf ⟨5, .data⟩ (by simp) rfl
      have D7 := haf ⟨7, .data⟩ (by simp) rfl
      have D3 := haf ⟨3, .guard⟩ (by simp) rfl
      exact ops_skip rfl ((wanted_of rfl rfl ((hS 3 58 rfl D3).trans (hV 3 D3))).trans rfl) ⟨undef, rfl, rfl, Upd.refl _ _⟩
    · have D8 := haf ⟨8, .data⟩ (by simp) rfl
      have D3 := haf ⟨3, .guard⟩ (by simp) rfl
      exact ops_skip rfl ((wanted_of rfl rfl ((hS 3 58 rfl D3).trans (hV 3 D3))).trans rfl) ⟨undef, rfl, rfl, Upd.refl _ _⟩
    · have D3 := haf ⟨3, .data⟩ (by simp) rfl
      have D9 := haf ⟨9, .data⟩ (by simp) rfl
      exact ops_wp rfl rfl (wp_pick (.tmp 58) _ (.tmp 64) rfl _ ((hS 3 58 rfl D3).trans (hV 3 D3)) ⟨_, rfl, rfl, Upd.refl _ _⟩)
    · exact ops_wp rfl rfl (wp_load_row 29 (.tmp 2) rfl _ (hA.ev 2 (by decide)) 29 _ (0, 0) _ t5 hdesc rfl (by rw [info_term]; rfl) ⟨_, rfl, rfl, Upd.refl _ _⟩)
  · intro vs a' w5 o' hv hA hU hV hS ho
    cases ho
    have D0 : 0 < 12 := by omega
    have D1 : 1 < 12 := by omega
    have D2 : 2 < 12 := by omega
    have D3 : 3 < 12 := by omega
    have D4 : 4 < 12 := by omega
    have D5 : 5 < 12 := by omega
    have D6 : 6 < 12 := by omega
    have D7 : 7 < 12 := by omega
    have D8 : 8 < 12 := by omega
    have D9 : 9 < 12 := by omega
    have D10 : 10 < 12 := by omega
    have D11 : 11 < 12 := by omega
    have e65 : a'.eval (.tmp 65) = _ := ((hS 10 65 rfl D10).trans (hV 10 D10))
    have e66 : a'.eval (.tmp 66) = _ := ((hS 11 66 rfl D11).trans (hV 11 D11))
    refine ops_wp rfl rfl (wp_callB rfl Tryd.call26 (vs := #[.bool true, .int .i64 214, .agg #[.int .u8 9, .string s, .int .i64 num, .int .i64 pos, .slice (some ⟨b2, o, none⟩) 1 1]]) (by simp only [List.map_toArray, List.map_cons, List.map_nil, e65, e66]; rfl) ?_)
    refine (refuse_yes 214 9 num pos s (some ⟨b2, o, none⟩) 1 1 w5).mono ?_
    rintro e w6 ⟨rfl, hu⟩
    exact Or.inr ⟨_, rfl, hA.def', retO_err (x := (214, pos)) HGG.out ((U3.out.trans hU).trans hu)⟩

end Go.Proofs.YtpgjcedonimgnaaDoor
