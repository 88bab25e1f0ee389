/- lint's call, of whatever trees. -/
import Derived.Test.YtpgjcedonimgnaaDoorJAP
namespace Go.Proofs.YtpgjcedonimgnaaDoor
open Go.RowKit

set_option maxHeartbeats 4000000 in
set_option maxRecDepth 100000 in
theorem call_two (hs : ByteArray → Int → Bool) (d : Nat) (IH : Hid (RS 67 hs (exprsF hs) shI d)) (w : World) (num pos : Int) (s : ByteArray) (t0 : Nd) (L : List Nd) (b2 o c : Nat) (hcL : L.length + 1 ≤ c) (_hc63 : c ≤ 9223372036854775807) (k1 n1 p1 : Int) (s1 : ByteArray) (a1 : Option Addr) (l1 c1 : Nat) (hx0 : w.cell? ⟨b2, o, none⟩ = some (.int .u8 k1)) (hx1 : w.cell? ⟨b2, o + 1, none⟩ = some (.string s1)) (hx2 : w.cell? ⟨b2, o + 2, none⟩ = some (.int .i64 n1)) (hx3 : w.cell? ⟨b2, o + 3, none⟩ = some (.int .i64 p1)) (hx4 : w.cell? ⟨b2, o + 4, none⟩ = some (.slice a1 l1 c1)) (HR : Hid (RowN (NIn w d) w (some ⟨b2, o, none⟩) (t0 :: L))) (hs0 : (t0 :: L).length ≤ 2199023255488) (HS : Hid (∀ i (hi : i < (t0 :: L).length), Okk shI (t0 :: L)[i])) (bc bf bm b : Nat) (bs : List Nat) (f : Fr) (r : List Fr) (HC : Hid (Ctx w bc bf hs bm b bs f r)) (_HN : Hid (NmIs w bm f)) (G : Except Flt Fr) (hk1 : k1 = 2) (HGG : Hid (G = if 13 < L.length + 1 then .error (217, pos) else if !clbB hs s1 (L.length : Nat) then .error (215, pos) else exprsF hs (t0 :: L) r f)) (hcn : ¬ c = 1) :
    Calls Tryd.prog 61 #[.pointer (some ⟨bc, 0, none⟩), .agg #[.int .u8 9, .string s, .int .i64 num, .int .i64 pos, .slice (some ⟨b2, o, none⟩) (L.length + 1) c], .pointer (some ⟨b, 0, none⟩)] w (Ret G bm w) := by
  obtain ⟨fs, hdesc⟩ := term_desc
  subst hk1
  obtain ⟨z, hz⟩ : ∃ z, z = clbB hs s1 (L.length : Nat) := ⟨_, rfl⟩
  have HZ : Hid (z = clbB hs s1 (L.length : Nat)) := hz
  clear hz
  have U1 : Hid (Upd [] w (w.alloc (.cells #[.int .u8 9, .string s, .int .i64 num, .int .i64 pos, .slice (some ⟨b2, o, none⟩) (L.length + 1) c] 29))) := (Upd.refl [] w).alloc _
  have UZ : Hid (Upd [] w ((w.alloc (.cells #[.int .u8 9, .string s, .int .i64 num, .int .i64 pos, .slice (some ⟨b2, o, none⟩) (L.length + 1) c] 29)).alloc (.cells #[.int .u8 0, .string ⟨#[]⟩, .int .i64 0, .int .i64 0, .slice none 0 0] 29))) := U1.out.alloc _
  have x0 : (w.alloc (.cells #[.int .u8 9, .string s, .int .i64 num, .int .i64 pos, .slice (some ⟨b2, o, none⟩) (L.length + 1) c] 29)).cell? ⟨b2, o, none⟩ = some (.int .u8 2) := (U1.out.cell (cell_lt hx0) (by simp)).trans hx0
  have z0 : ((w.alloc (.cells #[.int .u8 9, .string s, .int .i64 num, .int .i64 pos, .slice (some ⟨b2, o, none⟩) (L.length + 1) c] 29)).alloc (.cells #[.int .u8 0, .string ⟨#[]⟩, .int .i64 0, .int .i64 0, .slice none 0 0] 29)).cell? ⟨b2, o, none⟩ = some (.int .u8 2) := (UZ.out.cell (cell_lt hx0) (by simp)).trans hx0
  have x1 : (w.alloc (.cells #[.int .u8 9, .string s, .int .i64 num, .int .i64 pos, .slice (some ⟨b2, o, none⟩) (L.length + 1) c] 29)).cell? ⟨b2, o + 1, none⟩ = some (.string s1) := (U1.out.cell (cell_lt hx1) (by simp)).trans hx1
  have z1 : ((w.alloc (.cells #[.int .u8 9, .string s, .int .i64 num, .int .i64 pos, .slice (some ⟨b2, o, none⟩) (L.length + 1) c] 29)).alloc (.cells #[.int .u8 0, .string ⟨#[]⟩, .int .i64 0, .int .i64 0, .slice none 0 0] 29)).cell? ⟨b2, o + 1, none⟩ = some (.string s1) := (UZ.out.cell (cell_lt hx1) (by simp)).trans hx1
  have x2 : (w.alloc (.cells #[.int .u8 9, .string s, .int .i64 num, .int .i64 pos, .slice (some ⟨b2, o, none⟩) (L.length + 1) c] 29)).cell? ⟨b2, o + 2, none⟩ = some (.int .i64 n1) := (U1.out.cell (cell_lt hx2) (by simp)).trans hx2
  have z2 : ((w.alloc (.cells #[.int .u8 9, .string s, .int .i64 num, .int .i64 pos, .slice (some ⟨b2, o, none⟩) (L.length + 1) c] 29)).alloc (.cells #[.int .u8 0, .string ⟨#[]⟩, .int .i64 0, .int .i64 0, .slice none 0 0] 29)).cell? ⟨b2, o + 2, none⟩ = some (.int .i64 n1) := (UZ.out.cell (cell_lt hx2) (by simp)).trans hx2
  have x3 : (w.alloc (.cells #[.int .u8 9, .string s, .int .i64 num, .int .i64 pos, .slice (some ⟨b2, o, none⟩) (L.length + 1) c] 29)).cell? ⟨b2, o + 3, none⟩ = some (.int .i64 p1) := (U1.out.cell (cell_lt hx3) (by simp)).trans hx3
  have z3 : ((w.alloc (.cells #[.int .u8 9, .string s, .int .i64 num, .int .i64 pos, .slice (some ⟨b2, o, none⟩) (L.length + 1) c] 29)).alloc (.cells #[.int .u8 0, .string ⟨#[]⟩, .int .i64 0, .int .i64 0, .slice none 0 0] 29)).cell? ⟨b2, o + 3, none⟩ = some (.int .i64 p1) := (UZ.out.cell (cell_lt hx3) (by simp)).trans hx3
  have x4 : (w.alloc (.cells #[.int .u8 9, .string s, .int .i64 num, .int .i64 pos, .slice (some ⟨b2, o, none⟩) (L.length + 1) c] 29)).cell? ⟨b2, o + 4, none⟩ = some (.slice a1 l1 c1) := (U1.out.cell (cell_lt hx4) (by simp)).trans hx4
  have z4 : ((w.alloc (.cells #[.int .u8 9, .string s, .int .i64 num, .int .i64 pos, .slice (some ⟨b2, o, none⟩) (L.length + 1) c] 29)).alloc (.cells #[.int .u8 0, .string ⟨#[]⟩, .int .i64 0, .int .i64 0, .slice none 0 0] 29)).cell? ⟨b2, o + 4, none⟩ = some (.slice a1 l1 c1) := (UZ.out.cell (cell_lt hx4) (by simp)).trans hx4
  have hc1 : (1 : Int) ≤ ((L.length + 1 : Nat) : Int) := by omega
  have hc2 : ((L.length + 1 : Nat) : Int) ≤ (c : Int) := by omega
  have hc3 : 0 < L.length + 1 := by omega
  clear hx0 hx1 hx2 hx3 hx4
  go_enter Tryd.func61, Tryd.ntmps61
  go_wp2_with fail
  go_region
  clear x0 x1 x2 x3 x4 z0 z1 z2 z3 z4 U1 UZ
  obtain ⟨w3, hw3⟩ : ∃ w3, w3 = ((w.alloc (.cells #[.int .u8 9, .string s, .int .i64 num, .int .i64 pos, .slice (some ⟨b2, o, none⟩) (L.length + 1) c] 29)).alloc (.cells #[.int .u8 2, .string s1, .int .i64 n1, .int .i64 p1, .slice a1 l1 c1] 29)).drew := ⟨_, rfl⟩
  have U3 : Hid (Upd [] w w3) := by rw [hw3]; exact (((Upd.refl [] w).alloc _).alloc _).drew
  have t3 : Tb w3 w.heap.size #[.int .u8 9, .string s, .int .i64 num, .int .i64 pos, .slice (some ⟨b2, o, none⟩) (L.length + 1) c] := by rw [hw3]; exact (Tb.new w _ _ rfl).mono (((Upd.refl [] _).alloc _).drew) (by simp)
  have s3 : Tb w3 (w.heap.size + 1) #[.int .u8 2, .string s1, .int .i64 n1, .int .i64 p1, .slice a1 l1 c1] := by rw [hw3]; exact (Tb.new (w.alloc (.cells #[.int .u8 9, .string s, .int .i64 num, .int .i64 pos, .slice (some ⟨b2, o, none⟩) (L.length + 1) c] 29)) _ _ (by simp)).mono ((Upd.refl [] _).drew) (by simp)
  rw [← hw3]
  clear hw3
  by_cases h12 : 12 < L.length
  · have hd : decide ((12 : Int) < (L.length : Int)) = true := by simp; omega
    have HG : Hid (G = .error (217, pos)) := by have := HGG.out; rw [if_pos (by omega)] at this; exact this
    go_wp2_with (first | (refine load_T _ rfl _ rfl _ _ rfl t3 rfl ?_) | fail)
    refine (refuse_yes 217 9 num pos s (some ⟨b2, o, none⟩) (L.length + 1) c w3).mono ?_
    rintro e w4 ⟨rfl, hu4⟩
    have U4 : Hid (Upd [] w w4) := U3.out.trans hu4
    clear hu4 t3 s3
    go_wp2_with fail
    exact ⟨rfl, ret_err HG.out U4.out.into⟩
  · have hd : decide ((12 : Int) < (L.length : Int)) = false := by simp; omega
    go_wp2_with (first | (refine load_T _ rfl _ rfl _ _ rfl t3 rfl ?_) | fail)
    refine (refuse_no 217 9 num pos s (some ⟨b2, o, none⟩) (L.length + 1) c w3).mono ?_
    rintro e w4 ⟨⟨u, rfl⟩, hu4⟩
    have U4 : Hid (Upd [] w w4) := U3.out.trans hu4
    have t4 := t3.mono hu4 (by simp)
    have s4 := s3.mono hu4 (by simp)
    have k0 : w4.cell? ⟨w.heap.size + 1, 0, none⟩ = some (.int .u8 2) := s4.cell 0
    have k4 : w4.cell? ⟨w.heap.size, 4, none⟩ = some (.slice (some ⟨b2, o, none⟩) (L.length + 1) c) := t4.cell 4
    clear hu4 t3 s3 U3
    go_wp2_with fail
    rename_i K1 hK1
    refine region_lastT (by kernel_rfl) 8 rfl [some 23, some 24, some 25, some 26, some 27, some 28, some 29, some 30, some 31] rfl (by decide) rfl (by kernel_rfl) (by kernel_rfl) (fun j v _ => match j with | 0 => v = .pointer (some ⟨bc, 0, none⟩) | 1 => v = .pointer (some ⟨w.heap.size + 1, 1, none⟩) | 2 => v = .string s1 | 3 => v = .slice (some ⟨b2, o + 5, none⟩) L.length (c - 1) | 4 => v = .int .i64 (L.length : Nat) | 5 => v = .bool z | 6 => v = .bool (!z) | 7 => v = .agg #[.int .u8 9, .string s, .int .i64 num, .int .i64 pos, .slice (some ⟨b2, o, none⟩) (L.length + 1) c] | _ => True) (fun j v w w' h _ => h) ?_ ?_
    · intro D vs a' w5 i o' hA hU hV hS hi ho haf
      have hc5 : i = 0 ∨ i = 1 ∨ i = 2 ∨ i = 3 ∨ i = 4 ∨ i = 5 ∨ i = 6 ∨ i = 7 := by omega
      have t5 := t4.mono hU (by simp)
      have s5 := s4.mono hU (by simp)
      rcases hc5 with rfl | rfl | rfl | rfl | rfl | rfl | rfl | rfl <;> cases ho
      · exact ops_wp rfl rfl (wp_move (.tmp 0) rfl _ (hA.ev 0 (by decide)) ⟨_, rfl, rfl, Upd.refl _ _⟩)
      · exact ops_wp rfl rfl (wp_nf1 (.tmp 6) rfl _ (hA.ev 6 (by decide)) ⟨_, rfl, rfl, Upd.refl _ _⟩)
      · have D1 := haf ⟨1, .data⟩ (by simp) rfl
        exact ops_wp rfl rfl (wp_lstr (.tmp 24) rfl _ _ ((hS 1 24 rfl D1).trans (hV 1 D1)) (s5.cell 1) ⟨_, rfl, rfl, Upd.refl _ _⟩)
      · exact ops_wp rfl rfl (wp_move (.tmp 7) rfl _ (hA.ev 7 (by decide)) ⟨_, rfl, rfl, Upd.refl _ _⟩)
      · have D3 := haf ⟨3, .data⟩ (by simp) rfl
        exact ops_wp rfl rfl (wp_len (.tmp 26) rfl _ _ _ ((hS 3 26 rfl D3).trans (hV 3 D3)) ⟨_, rfl, rfl, Upd.refl _ _⟩)
      · have D0 := haf ⟨0, .data⟩ (by simp) rfl
        have D2 := haf ⟨2, .data⟩ (by simp) rfl
        have D4 := haf ⟨4, .data⟩ (by simp) rfl
        refine ops_wp rfl rfl (wp_callA rfl Tryd.call27 (vs := #[.pointer (some ⟨bc, 0, none⟩), .string s1, .int .i64 (L.length : Nat)]) ?_ (R := fun u w' => u = .bool z ∧ Upd [] w5 w') ?_ ?_)
        · have e0 : a'.eval (.tmp 23) = _ := ((hS 0 23 rfl D0).trans (hV 0 D0)); have e1 : a'.eval (.tmp 25) = _ := ((hS 2 25 rfl D2).trans (hV 2 D2)); have e2 : a'.eval (.tmp 27) = _ := ((hS 4 27 rfl D4).trans (hV 4 D4)); simp only [List.map_toArray, List.map_cons, List.map_nil, e0, e1, e2]
        · exact (callable_in bc bf hs s1 (L.length : Nat) w5 (HC.out.env.mono (U4.out.trans hU))).mono fun e w' ⟨he, hu⟩ => ⟨_, he, by rw [HZ.out], hu⟩
        · rintro u w6 ⟨rfl, hu⟩; exact ⟨_, rfl, rfl, hu⟩
      · have D5 := haf ⟨5, .data⟩ (by simp) rfl
        exact ops_wp rfl rfl (wp_not (.tmp 28) rfl _ ((hS 5 28 rfl D5).trans (hV 5 D5)) ⟨_, rfl, rfl, Upd.refl _ _⟩)
      · exact ops_wp rfl rfl (wp_load_row 29 (.tmp 4) rfl _ (hA.ev 4 (by decide)) 29 _ (0, 0) _ t5 hdesc rfl (by rw [info_term]; rfl) ⟨_, rfl, rfl, Upd.refl _ _⟩)
    · intro vs a' w5 o' hv hA hU hV hS ho
      cases ho
      have D0 : 0 < 8 := by omega
      have D1 : 1 < 8 := by omega
      have D2 : 2 < 8 := by omega
      have D3 : 3 < 8 := by omega
      have D4 : 4 < 8 := by omega
      have D5 : 5 < 8 := by omega
      have D6 : 6 < 8 := by omega
      have D7 : 7 < 8 := by omega
      have e29 : a'.eval (.tmp 29) = _ := ((hS 6 29 rfl D6).trans (hV 6 D6))
      have e30 : a'.eval (.tmp 30) = _ := ((hS 7 30 rfl D7).trans (hV 7 D7))
      refine ops_wp rfl rfl (wp_callB rfl Tryd.call26 (vs := #[.bool (!z), .int .i64 215, .agg #[.int .u8 9, .string s, .int .i64 num, .int .i64 pos, .slice (some ⟨b2, o, none⟩) (L.length + 1) c]]) (by simp only [List.map_toArray, List.map_cons, List.map_nil, e29, e30]; rfl) ?_)
      have HGz : G = if !clbB hs s1 (L.length : Nat) then .error (215, pos) else exprsF hs (t0 :: L) r f := (by have := HGG.out; rw [if_neg (by omega)] at this; exact this)
      rw [← HZ.out] at HGz
      cases z with
      | true =>
        have HG : Hid (G = exprsF hs (t0 :: L) r f) := HGz
        clear HGz
        refine (refuse_no 215 9 num pos s (some ⟨b2, o, none⟩) (L.length + 1) c w5).mono ?_
        rintro e w6 ⟨⟨u, rfl⟩, hu⟩
        refine Or.inl ⟨u, rfl, u, rfl, ?_⟩
        have U6 : Hid (Upd [] w w6) := (U4.out.trans hU).trans hu
        have t6 := (t4.mono hU (by simp)).mono hu (by simp)
        have k4 : w6.cell? ⟨w.heap.size, 4, none⟩ = some (.slice (some ⟨b2, o, none⟩) (L.length + 1) c) := t6.cell 4
        obtain ⟨v0, r0, rfl, hv0⟩ := list_cons hv
        obtain ⟨v1, r1, rfl, hv1⟩ := list_cons hv0
        obtain ⟨v2, r2, rfl, hv2⟩ := list_cons hv1
        obtain ⟨v3, r3, rfl, hv3⟩ := list_cons hv2
        obtain ⟨v4, r4, rfl, hv4⟩ := list_cons hv3
        obtain ⟨v5, r5, rfl, hv5⟩ := list_cons hv4
        obtain ⟨v6, r6, rfl, hv6⟩ := list_cons hv5
        obtain ⟨v7, r7, rfl, hv7⟩ := list_cons hv6
        obtain ⟨v8, r8, rfl, hv8⟩ := list_cons hv7
        clear hV hS hA hU hu t4 s4 t6 k0 e29 e30 D0 D1 D2 D3 D4 D5 D6 D7
        simp only [List.set_cons_succ, List.set_cons_zero, putAll, Act.put, List.setIfInBounds_toArray]
        show K1 _ _
        refine hK1 _ _ ?_
        clear hK1
        go_wp2_with fail
        refine Calls.mono (IH.out _ (some ⟨b2, o, none⟩) c (t0 :: L) (HR.out.imp U6.out fun cs t h => NIn.mono U6.out _ _ _ h) hs0 HS.out bc bf bm b bs f r (HC.out.mono U6.out)) ?_
        rintro e w9 hret
        have hret : Ret (exprsF hs (t0 :: L) r f) bm _ e w9 := hret
        obtain ⟨hu9, hm9⟩ := hret
        have U9 : Hid (Upd [bm] w w9) := U6.out.into.trans hu9
        clear hu9
        cases hpf : exprsF hs (t0 :: L) r f with
        | ok f' =>
          rw [hpf] at hm9
          obtain ⟨⟨u, rfl⟩, hn9⟩ := hm9
          have HG3 : Hid (G = .ok f') := HG.out.trans hpf
          have N9 : Hid (NmIs w9 bm f') := hn9
          clear hn9 hpf
          go_wp2_with fail
          exact bodyPost_end (results_none rfl _ _ _) rfl (ret_ok HG3.out U9.out N9.out)
        | error x =>
          rw [hpf] at hm9
          have hm3 : e = .panicked [{ v := .iface 33 (.agg #[.int .i64 x.1, .int .i64 x.2]), recovered := false }] := hm9
          subst hm3
          have HG3 : Hid (G = .error x) := HG.out.trans hpf
          clear hm9 hpf
          go_wp2_with fail
          exact ⟨rfl, ret_err HG3.out U9.out⟩
      | false =>
        refine (refuse_yes 215 9 num pos s (some ⟨b2, o, none⟩) (L.length + 1) c w5).mono ?_
        rintro e w6 ⟨rfl, hu⟩
        exact Or.inr ⟨_, rfl, hA.def', ret_err (x := (215, pos)) HGz ((U4.out.trans hU).trans hu).into⟩

set_option maxHeartbeats 4000000 in
set_option maxRecDepth 100000 in
theorem call_oth (hs : ByteArray → Int → Bool) (d : Nat) (IH : Hid (RS 67 hs (exprsF hs) shI d)) (w : World) (num pos : Int) (s : ByteArray) (t0 : Nd) (L : List Nd) (b2 o c : Nat) (hcL : L.length + 1 ≤ c) (_hc63 : c ≤ 9223372036854775807) (k1 n1 p1 : Int) (s1 : ByteArray) (a1 : Option Addr) (l1 c1 : Nat) (hx0 : w.cell? ⟨b2, o, none⟩ = some (.int .u8 k1)) (hx1 : w.cell? ⟨b2, o + 1, none⟩ = some (.string s1)) (hx2 : w.cell? ⟨b2, o + 2, none⟩ = some (.int .i64 n1)) (hx3 : w.cell? ⟨b2, o + 3, none⟩ = some (.int .i64 p1)) (hx4 : w.cell? ⟨b2, o + 4, none⟩ = some (.slice a1 l1 c1)) (HR : Hid (RowN (NIn w d) w (some ⟨b2, o, none⟩) (t0 :: L))) (hs0 : (t0 :: L).length ≤ 2199023255488) (HS : Hid (∀ i (hi : i < (t0 :: L).length), Okk shI (t0 :: L)[i])) (bc bf bm b : Nat) (bs : List Nat) (f : Fr) (r : List Fr) (HC : Hid (Ctx w bc bf hs bm b bs f r)) (_HN : Hid (NmIs w bm f)) (G : Except Flt Fr) (hk1 : k1 ≠ 2) (HGG : Hid (G = if 13 < L.length + 1 then .error (217, pos) else exprsF hs (t0 :: L) r f)) (hcn : ¬ c = 1) :
    Calls Tryd.prog 61 #[.pointer (some ⟨bc, 0, none⟩), .agg #[.int .u8 9, .string s, .int .i64 num, .int .i64 pos, .slice (some ⟨b2, o, none⟩) (L.length + 1) c], .pointer (some ⟨b, 0, none⟩)] w (Ret G bm w) := by
  obtain ⟨fs, hdesc⟩ := term_desc
  have nk : (k1 == 2) = false := by simp [hk1]
  have U1 : Hid (Upd [] w (w.alloc (.cells #[.int .u8 9, .string s, .int .i64 num, .int .i64 pos, .slice (some ⟨b2, o, none⟩) (L.length + 1) c] 29))) := (Upd.refl [] w).alloc _
  have UZ : Hid (Upd [] w ((w.alloc (.cells #[.int .u8 9, .string s, .int .i64 num, .int .i64 pos, .slice (some ⟨b2, o, none⟩) (L.length + 1) c] 29)).alloc (.cells #[.int .u8 0, .string ⟨#[]⟩, .int .i64 0, .int .i64 0, .slice none 0 0] 29))) := U1.out.alloc _
  have x0 : (w.alloc (.cells #[.int .u8 9, .string s, .int .i64 num, .int .i64 pos, .slice (some ⟨b2, o, none⟩) (L.length + 1) c] 29)).cell? ⟨b2, o, none⟩ = some (.int .u8 k1) := (U1.out.cell (cell_lt hx0) (by simp)).trans hx0
  have z0 : ((w.alloc (.cells #[.int .u8 9, .string s, .int .i64 num, .int .i64 pos, .slice (some ⟨b2, o, none⟩) (L.length + 1) c] 29)).alloc (.cells #[.int .u8 0, .string ⟨#[]⟩, .int .i64 0, .int .i64 0, .slice none 0 0] 29)).cell? ⟨b2, o, none⟩ = some (.int .u8 k1) := (UZ.out.cell (cell_lt hx0) (by simp)).trans hx0
  have x1 : (w.alloc (.cells #[.int .u8 9, .string s, .int .i64 num, .int .i64 pos, .slice (some ⟨b2, o, none⟩) (L.length + 1) c] 29)).cell? ⟨b2, o + 1, none⟩ = some (.string s1) := (U1.out.cell (cell_lt hx1) (by simp)).trans hx1
  have z1 : ((w.alloc (.cells #[.int .u8 9, .string s, .int .i64 num, .int .i64 pos, .slice (some ⟨b2, o, none⟩) (L.length + 1) c] 29)).alloc (.cells #[.int .u8 0, .string ⟨#[]⟩, .int .i64 0, .int .i64 0, .slice none 0 0] 29)).cell? ⟨b2, o + 1, none⟩ = some (.string s1) := (UZ.out.cell (cell_lt hx1) (by simp)).trans hx1
  have x2 : (w.alloc (.cells #[.int .u8 9, .string s, .int .i64 num, .int .i64 pos, .slice (some ⟨b2, o, none⟩) (L.length + 1) c] 29)).cell? ⟨b2, o + 2, none⟩ = some (.int .i64 n1) := (U1.out.cell (cell_lt hx2) (by simp)).trans hx2
  have z2 : ((w.alloc (.cells #[.int .u8 9, .string s, .int .i64 num, .int .i64 pos, .slice (some ⟨b2, o, none⟩) (L.length + 1) c] 29)).alloc (.cells #[.int .u8 0, .string ⟨#[]⟩, .int .i64 0, .int .i64 0, .slice none 0 0] 29)).cell? ⟨b2, o + 2, none⟩ = some (.int .i64 n1) := (UZ.out.cell (cell_lt hx2) (by simp)).trans hx2
  have x3 : (w.alloc (.cells #[.int .u8 9, .string s, .int .i64 num, .int .i64 pos, .slice (some ⟨b2, o, none⟩) (L.length + 1) c] 29)).cell? ⟨b2, o + 3, none⟩ = some (.int .i64 p1) := (U1.out.cell (cell_lt hx3) (by simp)).trans hx3
  have z3 : ((w.alloc (.cells #[.int .u8 9, .string s, .int .i64 num, .int .i64 pos, .slice (some ⟨b2, o, none⟩) (L.length + 1) c] 29)).alloc (.cells #[.int .u8 0, .string ⟨#[]⟩, .int .i64 0, .int .i64 0, .slice none 0 0] 29)).cell? ⟨b2, o + 3, none⟩ = some (.int .i64 p1) := (UZ.out.cell (cell_lt hx3) (by simp)).trans hx3
  have x4 : (w.alloc (.cells #[.int .u8 9, .string s, .int .i64 num, .int .i64 pos, .slice (some ⟨b2, o, none⟩) (L.length + 1) c] 29)).cell? ⟨b2, o + 4, none⟩ = some (.slice a1 l1 c1) := (U1.out.cell (cell_lt hx4) (by simp)).trans hx4
  have z4 : ((w.alloc (.cells #[.int .u8 9, .string s, .int .i64 num, .int .i64 pos, .slice (some ⟨b2, o, none⟩) (L.length + 1) c] 29)).alloc (.cells #[.int .u8 0, .string ⟨#[]⟩, .int .i64 0, .int .i64 0, .slice none 0 0] 29)).cell? ⟨b2, o + 4, none⟩ = some (.slice a1 l1 c1) := (UZ.out.cell (cell_lt hx4) (by simp)).trans hx4
  have hc1 : (1 : Int) ≤ ((L.length + 1 : Nat) : Int) := by omega
  have hc2 : ((L.length + 1 : Nat) : Int) ≤ (c : Int) := by omega
  have hc3 : 0 < L.length + 1 := by omega
  clear hx0 hx1 hx2 hx3 hx4
  go_enter Tryd.func61, Tryd.ntmps61
  go_wp2_with fail
  go_region
  clear x0 x1 x2 x3 x4 z0 z1 z2 z3 z4 U1 UZ
  obtain ⟨w3, hw3⟩ : ∃ w3, w3 = ((w.alloc (.cells #[.int .u8 9, .string s, .int .i64 num, .int .i64 pos, .slice (some ⟨b2, o, none⟩) (L.length + 1) c] 29)).alloc (.cells #[.int .u8 k1, .string s1, .int .i64 n1, .int .i64 p1, .slice a1 l1 c1] 29)).drew := ⟨_, rfl⟩
  have U3 : Hid (Upd [] w w3) := by rw [hw3]; exact (((Upd.refl [] w).alloc _).alloc _).drew
  have t3 : Tb w3 w.heap.size #[.int .u8 9, .string s, .int .i64 num, .int .i64 pos, .slice (some ⟨b2, o, none⟩) (L.length + 1) c] := by rw [hw3]; exact (Tb.new w _ _ rfl).mono (((Upd.refl [] _).alloc _).drew) (by simp)
  have s3 : Tb w3 (w.heap.size + 1) #[.int .u8 k1, .string s1, .int .i64 n1, .int .i64 p1, .slice a1 l1 c1] := by rw [hw3]; exact (Tb.new (w.alloc (.cells #[.int .u8 9, .string s, .int .i64 num, .int .i64 pos, .slice (some ⟨b2, o, none⟩) (L.length + 1) c] 29)) _ _ (by simp)).mono ((Upd.refl [] _).drew) (by simp)
  rw [← hw3]
  clear hw3
  by_cases h12 : 12 < L.length
  · have hd : decide ((12 : Int) < (L.length : Int)) = true := by simp; omega
    have HG : Hid (G = .error (217, pos)) := by have := HGG.out; rw [if_pos (by omega)] at this; exact this
    go_wp2_with (first | (refine load_T _ rfl _ rfl _ _ rfl t3 rfl ?_) | fail)
    refine (refuse_yes 217 9 num pos s (some ⟨b2, o, none⟩) (L.length + 1) c w3).mono ?_
    rintro e w4 ⟨rfl, hu4⟩
    have U4 : Hid (Upd [] w w4) := U3.out.trans hu4
    clear hu4 t3 s3
    go_wp2_with fail
    exact ⟨rfl, ret_err HG.out U4.out.into⟩
  · have hd : decide ((12 : Int) < (L.length : Int)) = false := by simp; omega
    go_wp2_with (first | (refine load_T _ rfl _ rfl _ _ rfl t3 rfl ?_) | fail)
    refine (refuse_no 217 9 num pos s (some ⟨b2, o, none⟩) (L.length + 1) c w3).mono ?_
    rintro e w4 ⟨⟨u, rfl⟩, hu4⟩
    have U4 : Hid (Upd [] w w4) := U3.out.trans hu4
    have t4 := t3.mono hu4 (by simp)
    have s4 := s3.mono hu4 (by simp)
    have k0 : w4.cell? ⟨w.heap.size + 1, 0, none⟩ = some (.int .u8 k1) := s4.cell 0
    have k4 : w4.cell? ⟨w.heap.size, 4, none⟩ = some (.slice (some ⟨b2, o, none⟩) (L.length + 1) c) := t4.cell 4
    clear hu4 t3 s3 U3
    have HG : Hid (G = exprsF hs (t0 :: L) r f) := by have := HGG.out; rw [if_neg (by omega)] at this; exact this
    go_wp2_with fail
    refine Calls.mono (IH.out _ (some ⟨b2, o, none⟩) c (t0 :: L) (HR.out.imp U4.out fun cs t h => NIn.mono U4.out _ _ _ h) hs0 HS.out bc bf bm b bs f r (HC.out.mono U4.out)) ?_
    rintro e w9 hret
    have hret : Ret (exprsF hs (t0 :: L) r f) bm _ e w9 := hret
    obtain ⟨hu9, hm9⟩ := hret
    have U9 : Hid (Upd [bm] w w9) := U4.out.into.trans hu9
    clear hu9
    cases hpf : exprsF hs (t0 :: L) r f with
    | ok f' =>
      rw [hpf] at hm9
      obtain ⟨⟨u, rfl⟩, hn9⟩ := hm9
      have HG3 : Hid (G = .ok f') := HG.out.trans hpf
      have N9 : Hid (NmIs w9 bm f') := hn9
      clear hn9 hpf
      go_wp2_with fail
      exact bodyPost_end (results_none rfl _ _ _) rfl (ret_ok HG3.out U9.out N9.out)
    | error x =>
      rw [hpf] at hm9
      have hm3 : e = .panicked [{ v := .iface 33 (.agg #[.int .i64 x.1, .int .i64 x.2]), recovered := false }] := hm9
      subst hm3
      have HG3 : Hid (G = .error x) := HG.out.trans hpf
      clear hm9 hpf
      go_wp2_with fail
      exact ⟨rfl, ret_err HG3.out U9.out⟩

set_option maxHeartbeats 4000000 in
set_option maxRecDepth 100000 in
theorem call_two1 (hs : ByteArray → Int → Bool) (d : Nat) (IH : Hid (RS 67 hs (exprsF hs) shI d)) (w : World) (num pos : Int) (s : ByteArray) (t0 : Nd) (b2 o : Nat) (k1 n1 p1 : Int) (s1 : ByteArray) (a1 : Option Addr) (l1 c1 : Nat) (hx0 : w.cell? ⟨b2, o, none⟩ = some (.int .u8 k1)) (hx1 : w.cell? ⟨b2, o + 1, none⟩ = some (.string s1)) (hx2 : w.cell? ⟨b2, o + 2, none⟩ = some (.int .i64 n1)) (hx3 : w.cell? ⟨b2, o + 3, none⟩ = some (.int .i64 p1)) (hx4 : w.cell? ⟨b2, o + 4, none⟩ = some (.slice a1 l1 c1)) (HR : Hid (RowN (NIn w d) w (some ⟨b2, o, none⟩) (t0 :: ([] : List Nd)))) (hs0 : (t0 :: ([] : List Nd)).length ≤ 2199023255488) (HS : Hid (∀ i (hi : i < (t0 :: ([] : List Nd)).length), Okk shI (t0 :: ([] : List Nd))[i])) (bc bf bm b : Nat) (bs : List Nat) (f : Fr) (r : List Fr) (HC : Hid (Ctx w bc bf hs bm b bs f r)) (_HN : Hid (NmIs w bm f)) (G : Except Flt Fr) (hk1 : k1 = 2) (HGG : Hid (G = if !clbB hs s1 ((0 : Nat) : Int) then .error (215, pos) else exprsF hs (t0 :: ([] : List Nd)) r f)) :
    Calls Tryd.prog 61 #[.pointer (some ⟨bc, 0, none⟩), .agg #[.int .u8 9, .string s, .int .i64 num, .int .i64 pos, .slice (some ⟨b2, o, none⟩) 1 1], .pointer (some ⟨b, 0, none⟩)] w (Ret G bm w) := by
  obtain ⟨fs, hdesc⟩ := term_desc
  subst hk1
  obtain ⟨z, hz⟩ : ∃ z, z = clbB hs s1 ((0 : Nat) : Int) := ⟨_, rfl⟩
  have HZ : Hid (z = clbB hs s1 ((0 : Nat) : Int)) := hz
  clear hz
  have U1 : Hid (Upd [] w (w.alloc (.cells #[.int .u8 9, .string s, .int .i64 num, .int .i64 pos, .slice (some ⟨b2, o, none⟩) 1 1] 29))) := (Upd.refl [] w).alloc _
  have UZ : Hid (Upd [] w ((w.alloc (.cells #[.int .u8 9, .string s, .int .i64 num, .int .i64 pos, .slice (some ⟨b2, o, none⟩) 1 1] 29)).alloc (.cells #[.int .u8 0, .string ⟨#[]⟩, .int .i64 0, .int .i64 0, .slice none 0 0] 29))) := U1.out.alloc _
  have x0 : (w.alloc (.cells #[.int .u8 9, .string s, .int .i64 num, .int .i64 pos, .slice (some ⟨b2, o, none⟩) 1 1] 29)).cell? ⟨b2, o, none⟩ = some (.int .u8 2) := (U1.out.cell (cell_lt hx0) (by simp)).trans hx0
  have z0 : ((w.alloc (.cells #[.int .u8 9, .string s, .int .i64 num, .int .i64 pos, .slice (some ⟨b2, o, none⟩) 1 1] 29)).alloc (.cells #[.int .u8 0, .string ⟨#[]⟩, .int .i64 0, .int .i64 0, .slice none 0 0] 29)).cell? ⟨b2, o, none⟩ = some (.int .u8 2) := (UZ.out.cell (cell_lt hx0) (by simp)).trans hx0
  have x1 : (w.alloc (.cells #[.int .u8 9, .string s, .int .i64 num, .int .i64 pos, .slice (some ⟨b2, o, none⟩) 1 1] 29)).cell? ⟨b2, o + 1, none⟩ = some (.string s1) := (U1.out.cell (cell_lt hx1) (by simp)).trans hx1
  have z1 : ((w.alloc (.cells #[.int .u8 9, .string s, .int .i64 num, .int .i64 pos, .slice (some ⟨b2, o, none⟩) 1 1] 29)).alloc (.cells #[.int .u8 0, .string ⟨#[]⟩, .int .i64 0, .int .i64 0, .slice none 0 0] 29)).cell? ⟨b2, o + 1, none⟩ = some (.string s1) := (UZ.out.cell (cell_lt hx1) (by simp)).trans hx1
  have x2 : (w.alloc (.cells #[.int .u8 9, .string s, .int .i64 num, .int .i64 pos, .slice (some ⟨b2, o, none⟩) 1 1] 29)).cell? ⟨b2, o + 2, none⟩ = some (.int .i64 n1) := (U1.out.cell (cell_lt hx2) (by simp)).trans hx2
  have z2 : ((w.alloc (.cells #[.int .u8 9, .string s, .int .i64 num, .int .i64 pos, .slice (some ⟨b2, o, none⟩) 1 1] 29)).alloc (.cells #[.int .u8 0, .string ⟨#[]⟩, .int .i64 0, .int .i64 0, .slice none 0 0] 29)).cell? ⟨b2, o + 2, none⟩ = some (.int .i64 n1) := (UZ.out.cell (cell_lt hx2) (by simp)).trans hx2
  have x3 : (w.alloc (.cells #[.int .u8 9, .string s, .int .i64 num, .int .i64 pos, .slice (some ⟨b2, o, none⟩) 1 1] 29)).cell? ⟨b2, o + 3, none⟩ = some (.int .i64 p1) := (U1.out.cell (cell_lt hx3) (by simp)).trans hx3
  have z3 : ((w.alloc (.cells #[.int .u8 9, .string s, .int .i64 num, .int .i64 pos, .slice (some ⟨b2, o, none⟩) 1 1] 29)).alloc (.cells #[.int .u8 0, .string ⟨#[]⟩, .int .i64 0, .int .i64 0, .slice none 0 0] 29)).cell? ⟨b2, o + 3, none⟩ = some (.int .i64 p1) := (UZ.out.cell (cell_lt hx3) (by simp)).trans hx3
  have x4 : (w.alloc (.cells #[.int .u8 9, .string s, .int .i64 num, .int .i64 pos, .slice (some ⟨b2, o, none⟩) 1 1] 29)).cell? ⟨b2, o + 4, none⟩ = some (.slice a1 l1 c1) := (U1.out.cell (cell_lt hx4) (by simp)).trans hx4
  have z4 : ((w.alloc (.cells #[.int .u8 9, .string s, .int .i64 num, .int .i64 pos, .slice (some ⟨b2, o, none⟩) 1 1] 29)).alloc (.cells #[.int .u8 0, .string ⟨#[]⟩, .int .i64 0, .int .i64 0, .slice none 0 0] 29)).cell? ⟨b2, o + 4, none⟩ = some (.slice a1 l1 c1) := (UZ.out.cell (cell_lt hx4) (by simp)).trans hx4
  have hc1 : (1 : Int) ≤ ((1 : Nat) : Int) := by omega
  have hc2 : ((1 : Nat) : Int) ≤ ((1 : Nat) : Int) := by omega
  have hc3 : 0 < 1 := by omega
  clear hx0 hx1 hx2 hx3 hx4
  go_enter Tryd.func61, Tryd.ntmps61
  go_wp2_with fail
  go_region
  clear x0 x1 x2 x3 x4 z0 z1 z2 z3 z4 U1 UZ
  obtain ⟨w3, hw3⟩ : ∃ w3, w3 = ((w.alloc (.cells #[.int .u8 9, .string s, .int .i64 num, .int .i64 pos, .slice (some ⟨b2, o, none⟩) 1 1] 29)).alloc (.cells #[.int .u8 2, .string s1, .int .i64 n1, .int .i64 p1, .slice a1 l1 c1] 29)).drew := ⟨_, rfl⟩
  have U3 : Hid (Upd [] w w3) := by rw [hw3]; exact (((Upd.refl [] w).alloc _).alloc _).drew
  have t3 : Tb w3 w.heap.size #[.int .u8 9, .string s, .int .i64 num, .int .i64 pos, .slice (some ⟨b2, o, none⟩) 1 1] := by rw [hw3]; exact (Tb.new w _ _ rfl).mono (((Upd.refl [] _).alloc _).drew) (by simp)
  have s3 : Tb w3 (w.heap.size + 1) #[.int .u8 2, .string s1, .int .i64 n1, .int .i64 p1, .slice a1 l1 c1] := by rw [hw3]; exact (Tb.new (w.alloc (.cells #[.int .u8 9, .string s, .int .i64 num, .int .i64 pos, .slice (some ⟨b2, o, none⟩) 1 1] 29)) _ _ (by simp)).mono ((Upd.refl [] _).drew) (by simp)
  rw [← hw3]
  clear hw3
  go_wp2_with (first | (refine load_T _ rfl _ rfl _ _ rfl t3 rfl ?_) | fail)
  refine (refuse_no 217 9 num pos s (some ⟨b2, o, none⟩) 1 1 w3).mono ?_
  rintro e w4 ⟨⟨u, rfl⟩, hu4⟩
  have U4 : Hid (Upd [] w w4) := U3.out.trans hu4
  have t4 := t3.mono hu4 (by simp)
  have s4 := s3.mono hu4 (by simp)
  have k0 : w4.cell? ⟨w.heap.size + 1, 0, none⟩ = some (.int .u8 2) := s4.cell 0
  have k4 : w4.cell? ⟨w.heap.size, 4, none⟩ = some (.slice (some ⟨b2, o, none⟩) 1 1) := t4.cell 4
  clear hu4 t3 s3 U3
  go_wp2_with fail
  rename_i K1 hK1
  refine region_lastT (by kernel_rfl) 8 rfl [some 23, some 24, some 25, some 26, some 27, some 28, some 29, some 30, some 31] rfl (by decide) rfl (by kernel_rfl) (by kernel_rfl) (fun j v _ => match j with | 0 => v = .pointer (some ⟨bc, 0, none⟩) | 1 => v = .pointer (some ⟨w.heap.size + 1, 1, none⟩) | 2 => v = .string s1 | 3 => v = .slice (some ⟨b2, o, none⟩) 0 0 | 4 => v = .int .i64 ((0 : Nat) : Int) | 5 => v = .bool z | 6 => v = .bool (!z) | 7 => v = .agg #[.int .u8 9, .string s, .int .i64 num, .int .i64 pos, .slice (some ⟨b2, o, none⟩) 1 1] | _ => True) (fun j v w w' h _ => h) ?_ ?_
  · intro D vs a' w5 i o' hA hU hV hS hi ho haf
    have hc5 : i = 0 ∨ i = 1 ∨ i = 2 ∨ i = 3 ∨ i = 4 ∨ i = 5 ∨ i = 6 ∨ i = 7 := by omega
    have t5 := t4.mono hU (by simp)
    have s5 := s4.mono hU (by simp)
    rcases hc5 with rfl | rfl | rfl | rfl | rfl | rfl | rfl | rfl <;> cases ho
    · exact ops_wp rfl rfl (wp_move (.tmp 0) rfl _ (hA.ev 0 (by decide)) ⟨_, rfl, rfl, Upd.refl _ _⟩)
    · exact ops_wp rfl rfl (wp_nf1 (.tmp 6) rfl _ (hA.ev 6 (by decide)) ⟨_, rfl, rfl, Upd.refl _ _⟩)
    · have D1 := haf ⟨1, .data⟩ (by simp) rfl
      exact ops_wp rfl rfl (wp_lstr (.tmp 24) rfl _ _ ((hS 1 24 rfl D1).trans (hV 1 D1)) (s5.cell 1) ⟨_, rfl, rfl, Upd.refl _ _⟩)
    · exact ops_wp rfl rfl (wp_move (.tmp 7) rfl _ (hA.ev 7 (by decide)) ⟨_, rfl, rfl, Upd.refl _ _⟩)
    · have D3 := haf ⟨3, .data⟩ (by simp) rfl
      exact ops_wp rfl rfl (wp_len (.tmp 26) rfl _ _ _ ((hS 3 26 rfl D3).trans (hV 3 D3)) ⟨_, rfl, rfl, Upd.refl _ _⟩)
    · have D0 := haf ⟨0, .data⟩ (by simp) rfl
      have D2 := haf ⟨2, .data⟩ (by simp) rfl
      have D4 := haf ⟨4, .data⟩ (by simp) rfl
      refine ops_wp rfl rfl (wp_callA rfl Tryd.call27 (vs := #[.pointer (some ⟨bc, 0, none⟩), .string s1, .int .i64 ((0 : Nat) : Int)]) ?_ (R := fun u w' => u = .bool z ∧ Upd [] w5 w') ?_ ?_)
      · have e0 : a'.eval (.tmp 23) = _ := ((hS 0 23 rfl D0).trans (hV 0 D0)); have e1 : a'.eval (.tmp 25) = _ := ((hS 2 25 rfl D2).trans (hV 2 D2)); have e2 : a'.eval (.tmp 27) = _ := ((hS 4 27 rfl D4).trans (hV 4 D4)); simp only [List.map_toArray, List.map_cons, List.map_nil, e0, e1, e2]
      · exact (callable_in bc bf hs s1 ((0 : Nat) : Int) w5 (HC.out.env.mono (U4.out.trans hU))).mono fun e w' ⟨he, hu⟩ => ⟨_, he, by rw [HZ.out], hu⟩
      · rintro u w6 ⟨rfl, hu⟩; exact ⟨_, rfl, rfl, hu⟩
    · have D5 := haf ⟨5, .data⟩ (by simp) rfl
      exact ops_wp rfl rfl (wp_not (.tmp 28) rfl _ ((hS 5 28 rfl D5).trans (hV 5 D5)) ⟨_, rfl, rfl, Upd.refl _ _⟩)
    · exact ops_wp rfl rfl (wp_load_row 29 (.tmp 4) rfl _ (hA.ev 4 (by decide)) 29 _ (0, 0) _ t5 hdesc rfl (by rw [info_term]; rfl) ⟨_, rfl, rfl, Upd.refl _ _⟩)
  · intro vs a' w5 o' hv hA hU hV hS ho
    cases ho
    have D0 : 0 < 8 := by omega
    have D1 : 1 < 8 := by omega
    have D2 : 2 < 8 := by omega
    have D3 : 3 < 8 := by omega
    have D4 : 4 < 8 := by omega
    have D5 : 5 < 8 := by omega
    have D6 : 6 < 8 := by omega
    have D7 : 7 < 8 := by omega
    have e29 : a'.eval (.tmp 29) = _ := ((hS 6 29 rfl D6).trans (hV 6 D6))
    have e30 : a'.eval (.tmp 30) = _ := ((hS 7 30 rfl D7).trans (hV 7 D7))
    refine ops_wp rfl rfl (wp_callB rfl Tryd.call26 (vs := #[.bool (!z), .int .i64 215, .agg #[.int .u8 9, .string s, .int .i64 num, .int .i64 pos, .slice (some ⟨b2, o, none⟩) 1 1]]) (by simp only [List.map_toArray, List.map_cons, List.map_nil, e29, e30]; rfl) ?_)
    have HGz : G = if !clbB hs s1 ((0 : Nat) : Int) then .error (215, pos) else exprsF hs (t0 :: ([] : List Nd)) r f := HGG.out
    rw [← HZ.out] at HGz
    cases z with
    | true =>
      have HG : Hid (G = exprsF hs (t0 :: ([] : List Nd)) r f) := HGz
      clear HGz
      refine (refuse_no 215 9 num pos s (some ⟨b2, o, none⟩) 1 1 w5).mono ?_
      rintro e w6 ⟨⟨u, rfl⟩, hu⟩
      refine Or.inl ⟨u, rfl, u, rfl, ?_⟩
      have U6 : Hid (Upd [] w w6) := (U4.out.trans hU).trans hu
      have t6 := (t4.mono hU (by simp)).mono hu (by simp)
      have k4 : w6.cell? ⟨w.heap.size, 4, none⟩ = some (.slice (some ⟨b2, o, none⟩) 1 1) := t6.cell 4
      obtain ⟨v0, r0, rfl, hv0⟩ := list_cons hv
      obtain ⟨v1, r1, rfl, hv1⟩ := list_cons hv0
      obtain ⟨v2, r2, rfl, hv2⟩ := list_cons hv1
      obtain ⟨v3, r3, rfl, hv3⟩ := list_cons hv2
      obtain ⟨v4, r4, rfl, hv4⟩ := list_cons hv3
      obtain ⟨v5, r5, rfl, hv5⟩ := list_cons hv4
      obtain ⟨v6, r6, rfl, hv6⟩ := list_cons hv5
      obtain ⟨v7, r7, rfl, hv7⟩ := list_cons hv6
      obtain ⟨v8, r8, rfl, hv8⟩ := list_cons hv7
      clear hV hS hA hU hu t4 s4 t6 k0 e29 e30 D0 D1 D2 D3 D4 D5 D6 D7
      simp only [List.set_cons_succ, List.set_cons_zero, putAll, Act.put, List.setIfInBounds_toArray]
      show K1 _ _
      refine hK1 _ _ ?_
      clear hK1
      go_wp2_with fail
      refine Calls.mono (IH.out _ (some ⟨b2, o, none⟩) 1 (t0 :: ([] : List Nd)) (HR.out.imp U6.out fun cs t h => NIn.mono U6.out _ _ _ h) hs0 HS.out bc bf bm b bs f r (HC.out.mono U6.out)) ?_
      rintro e w9 hret
      have hret : Ret (exprsF hs (t0 :: ([] : List Nd)) r f) bm _ e w9 := hret
      obtain ⟨hu9, hm9⟩ := hret
      have U9 : Hid (Upd [bm] w w9) := U6.out.into.trans hu9
      clear hu9
      cases hpf : exprsF hs (t0 :: ([] : List Nd)) r f with
      | ok f' =>
        rw [hpf] at hm9
        obtain ⟨⟨u, rfl⟩, hn9⟩ := hm9
        have HG3 : Hid (G = .ok f') := HG.out.trans hpf
        have N9 : Hid (NmIs w9 bm f') := hn9
        clear hn9 hpf
        go_wp2_with fail
        exact bodyPost_end (results_none rfl _ _ _) rfl (ret_ok HG3.out U9.out N9.out)
      | error x =>
        rw [hpf] at hm9
        have hm3 : e = .panicked [{ v := .iface 33 (.agg #[.int .i64 x.1, .int .i64 x.2]), recovered := false }] := hm9
        subst hm3
        have HG3 : Hid (G = .error x) := HG.out.trans hpf
        clear hm9 hpf
        go_wp2_with fail
        exact ⟨rfl, ret_err HG3.out U9.out⟩
    | false =>
      refine (refuse_yes 215 9 num pos s (some ⟨b2, o, none⟩) 1 1 w5).mono ?_
      rintro e w6 ⟨rfl, hu⟩
      exact Or.inr ⟨_, rfl, hA.def', ret_err (x := (215, pos)) HGz ((U4.out.trans hU).trans hu).into⟩

set_option maxHeartbeats 4000000 in
set_option maxRecDepth 100000 in
theorem call_oth1 (hs : ByteArray → Int → Bool) (d : Nat) (IH : Hid (RS 67 hs (exprsF hs) shI d)) (w : World) (num pos : Int) (s : ByteArray) (t0 : Nd) (b2 o : Nat) (k1 n1 p1 : Int) (s1 : ByteArray) (a1 : Option Addr) (l1 c1 : Nat) (hx0 : w.cell? ⟨b2, o, none⟩ = some (.int .u8 k1)) (hx1 : w.cell? ⟨b2, o + 1, none⟩ = some (.string s1)) (hx2 : w.cell? ⟨b2, o + 2, none⟩ = some (.int .i64 n1)) (hx3 : w.cell? ⟨b2, o + 3, none⟩ = some (.int .i64 p1)) (hx4 : w.cell? ⟨b2, o + 4, none⟩ = some (.slice a1 l1 c1)) (HR : Hid (RowN (NIn w d) w (some ⟨b2, o, none⟩) (t0 :: ([] : List Nd)))) (hs0 : (t0 :: ([] : List Nd)).length ≤ 2199023255488) (HS : Hid (∀ i (hi : i < (t0 :: ([] : List Nd)).length), Okk shI (t0 :: ([] : List Nd))[i])) (bc bf bm b : Nat) (bs : List Nat) (f : Fr) (r : List Fr) (HC : Hid (Ctx w bc bf hs bm b bs f r)) (_HN : Hid (NmIs w bm f)) (G : Except Flt Fr) (hk1 : k1 ≠ 2) (HGG : Hid (G = exprsF hs (t0 :: ([] : List Nd)) r f)) :
    Calls Tryd.prog 61 #[.pointer (some ⟨bc, 0, none⟩), .agg #[.int .u8 9, .string s, .int .i64 num, .int .i64 pos, .slice (some ⟨b2, o, none⟩) 1 1], .pointer (some ⟨b, 0, none⟩)] w (Ret G bm w) := by
  obtain ⟨fs, hdesc⟩ := term_desc
  have nk : (k1 == 2) = false := by simp [hk1]
  have U1 : Hid (Upd [] w (w.alloc (.cells #[.int .u8 9, .string s, .int .i64 num, .int .i64 pos, .slice (some ⟨b2, o, none⟩) 1 1] 29))) := (Upd.refl [] w).alloc _
  have UZ : Hid (Upd [] w ((w.alloc (.cells #[.int .u8 9, .string s, .int .i64 num, .int .i64 pos, .slice (some ⟨b2, o, none⟩) 1 1] 29)).alloc (.cells #[.int .u8 0, .string ⟨#[]⟩, .int .i64 0, .int .i64 0, .slice none 0 0] 29))) := U1.out.alloc _
  have x0 : (w.alloc (.cells #[.int .u8 9, .string s, .int .i64 num, .int .i64 pos, .slice (some ⟨b2, o, none⟩) 1 1] 29)).cell? ⟨b2, o, none⟩ = some (.int .u8 k1) := (U1.out.cell (cell_lt hx0) (by simp)).trans hx0
  have z0 : ((w.alloc (.cells #[.int .u8 9, .string s, .int .i64 num, .int .i64 pos, .slice (some ⟨b2, o, none⟩) 1 1] 29)).alloc (.cells #[.int .u8 0, .string ⟨#[]⟩, .int .i64 0, .int .i64 0, .slice none 0 0] 29)).cell? ⟨b2, o, none⟩ = some (.int .u8 k1) := (UZ.out.cell (cell_lt hx0) (by simp)).trans hx0
  have x1 : (w.alloc (.cells #[.int .u8 9, .string s, .int .i64 num, .int .i64 pos, .slice (some ⟨b2, o, none⟩) 1 1] 29)).cell? ⟨b2, o + 1, none⟩ = some (.string s1) := (U1.out.cell (cell_lt hx1) (by simp)).trans hx1
  have z1 : ((w.alloc (.cells #[.int .u8 9, .string s, .int .i64 num, .int .i64 pos, .slice (some ⟨b2, o, none⟩) 1 1] 29)).alloc (.cells #[.int .u8 0, .string ⟨#[]⟩, .int .i64 0, .int .i64 0, .slice none 0 0] 29)).cell? ⟨b2, o + 1, none⟩ = some (.string s1) := (UZ.out.cell (cell_lt hx1) (by simp)).trans hx1
  have x2 : (w.alloc (.cells #[.int .u8 9, .string s, .int .i64 num, .int .i64 pos, .slice (some ⟨b2, o, none⟩) 1 1] 29)).cell? ⟨b2, o + 2, none⟩ = some (.int .i64 n1) := (U1.out.cell (cell_lt hx2) (by simp)).trans hx2
  have z2 : ((w.alloc (.cells #[.int .u8 9, .string s, .int .i64 num, .int .i64 pos, .slice (some ⟨b2, o, none⟩) 1 1] 29)).alloc (.cells #[.int .u8 0, .string ⟨#[]⟩, .int .i64 0, .int .i64 0, .slice none 0 0] 29)).cell? ⟨b2, o + 2, none⟩ = some (.int .i64 n1) := (UZ.out.cell (cell_lt hx2) (by simp)).trans hx2
  have x3 : (w.alloc (.cells #[.int .u8 9, .string s, .int .i64 num, .int .i64 pos, .slice (some ⟨b2, o, none⟩) 1 1] 29)).cell? ⟨b2, o + 3, none⟩ = some (.int .i64 p1) := (U1.out.cell (cell_lt hx3) (by simp)).trans hx3
  have z3 : ((w.alloc (.cells #[.int .u8 9, .string s, .int .i64 num, .int .i64 pos, .slice (some ⟨b2, o, none⟩) 1 1] 29)).alloc (.cells #[.int .u8 0, .string ⟨#[]⟩, .int .i64 0, .int .i64 0, .slice none 0 0] 29)).cell? ⟨b2, o + 3, none⟩ = some (.int .i64 p1) := (UZ.out.cell (cell_lt hx3) (by simp)).trans hx3
  have x4 : (w.alloc (.cells #[.int .u8 9, .string s, .int .i64 num, .int .i64 pos, .slice (some ⟨b2, o, none⟩) 1 1] 29)).cell? ⟨b2, o + 4, none⟩ = some (.slice a1 l1 c1) := (U1.out.cell (cell_lt hx4) (by simp)).trans hx4
  have z4 : ((w.alloc (.cells #[.int .u8 9, .string s, .int .i64 num, .int .i64 pos, .slice (some ⟨b2, o, none⟩) 1 1] 29)).alloc (.cells #[.int .u8 0, .string ⟨#[]⟩, .int .i64 0, .int .i64 0, .slice none 0 0] 29)).cell? ⟨b2, o + 4, none⟩ = some (.slice a1 l1 c1) := (UZ.out.cell (cell_lt hx4) (by simp)).trans hx4
  have hc1 : (1 : Int) ≤ ((1 : Nat) : Int) := by omega
  have hc2 : ((1 : Nat) : Int) ≤ ((1 : Nat) : Int) := by omega
  have hc3 : 0 < 1 := by omega
  clear hx0 hx1 hx2 hx3 hx4
  go_enter Tryd.func61, Tryd.ntmps61
  go_wp2_with fail
  go_region
  clear x0 x1 x2 x3 x4 z0 z1 z2 z3 z4 U1 UZ
  obtain ⟨w3, hw3⟩ : ∃ w3, w3 = ((w.alloc (.cells #[.int .u8 9, .string s, .int .i64 num, .int .i64 pos, .slice (some ⟨b2, o, none⟩) 1 1] 29)).alloc (.cells #[.int .u8 k1, .string s1, .int .i64 n1, .int .i64 p1, .slice a1 l1 c1] 29)).drew := ⟨_, rfl⟩
  have U3 : Hid (Upd [] w w3) := by rw [hw3]; exact (((Upd.refl [] w).alloc _).alloc _).drew
  have t3 : Tb w3 w.heap.size #[.int .u8 9, .string s, .int .i64 num, .int .i64 pos, .slice (some ⟨b2, o, none⟩) 1 1] := by rw [hw3]; exact (Tb.new w _ _ rfl).mono (((Upd.refl [] _).alloc _).drew) (by simp)
  have s3 : Tb w3 (w.heap.size + 1) #[.int .u8 k1, .string s1, .int .i64 n1, .int .i64 p1, .slice a1 l1 c1] := by rw [hw3]; exact (Tb.new (w.alloc (.cells #[.int .u8 9, .string s, .int .i64 num, .int .i64 pos, .slice (some ⟨b2, o, none⟩) 1 1] 29)) _ _ (by simp)).mono ((Upd.refl [] _).drew) (by simp)
  rw [← hw3]
  clear hw3
  go_wp2_with (first | (refine load_T _ rfl _ rfl _ _ rfl t3 rfl ?_) | fail)
  refine (refuse_no 217 9 num pos s (some ⟨b2, o, none⟩) 1 1 w3).mono ?_
  rintro e w4 ⟨⟨u, rfl⟩, hu4⟩
  have U4 : Hid (Upd [] w w4) := U3.out.trans hu4
  have t4 := t3.mono hu4 (by simp)
  have s4 := s3.mono hu4 (by simp)
  have k0 : w4.cell? ⟨w.heap.size + 1, 0, none⟩ = some (.int .u8 k1) := s4.cell 0
  have k4 : w4.cell? ⟨w.heap.size, 4, none⟩ = some (.slice (some ⟨b2, o, none⟩) 1 1) := t4.cell 4
  clear hu4 t3 s3 U3
  have HG : Hid (G = exprsF hs (t0 :: ([] : List Nd)) r f) := HGG.out
  go_wp2_with fail
  refine Calls.mono (IH.out _ (some ⟨b2, o, none⟩) 1 (t0 :: ([] : List Nd)) (HR.out.imp U4.out fun cs t h => NIn.mono U4.out _ _ _ h) hs0 HS.out bc bf bm b bs f r (HC.out.mono U4.out)) ?_
  rintro e w9 hret
  have hret : Ret (exprsF hs (t0 :: ([] : List Nd)) r f) bm _ e w9 := hret
  obtain ⟨hu9, hm9⟩ := hret
  have U9 : Hid (Upd [bm] w w9) := U4.out.into.trans hu9
  clear hu9
  cases hpf : exprsF hs (t0 :: ([] : List Nd)) r f with
  | ok f' =>
    rw [hpf] at hm9
    obtain ⟨⟨u, rfl⟩, hn9⟩ := hm9
    have HG3 : Hid (G = .ok f') := HG.out.trans hpf
    have N9 : Hid (NmIs w9 bm f') := hn9
    clear hn9 hpf
    go_wp2_with fail
    exact bodyPost_end (results_none rfl _ _ _) rfl (ret_ok HG3.out U9.out N9.out)
  | error x =>
    rw [hpf] at hm9
    have hm3 : e = .panicked [{ v := .iface 33 (.agg #[.int .i64 x.1, .int .i64 x.2]), recovered := false }] := hm9
    subst hm3
    have HG3 : Hid (G = .error x) := HG.out.trans hpf
    clear hm9 hpf
    go_wp2_with fail
    exact ⟨rfl, ret_err HG3.out U9.out⟩

/-- The check of a call. -/
theorem call_in (hs : ByteArray → Int → Bool) (d : Nat) (ih : RS 67 hs (exprsF hs) shI d) (w : World) (cs : List Value) (s : ByteArray) (num pos : Int) (K : List Nd) (hin : NIn w (d + 1) cs (.mk 9 s num pos K)) (hok : Okk shI (.mk 9 s num pos K)) (bc bf bm b : Nat) (bs : List Nat) (f : Fr) (r : List Fr) (hC : Ctx w bc bf hs bm b bs f r) :
    Calls Tryd.prog 61 #[.pointer (some ⟨bc, 0, none⟩), .agg cs.toArray, .pointer (some ⟨b, 0, none⟩)] w (Ret (exprF hs (.mk 9 s num pos K) 0 r f) bm w) := by
  obtain ⟨a, c, rfl, hR, hcp⟩ := hin
  obtain ⟨o1, o2, o3⟩ := hok
  rw [shI, if_neg (by omega), if_pos rfl, Bool.and_eq_true] at o2
  obtain ⟨hs0, hkid⟩ := kid_ok o1 o3
  have hG : exprF hs (.mk 9 s num pos K) 0 r f = if 13 < K.length then .error (217, pos) else if headAtom K && !clbB hs (headTxt K) ((K.length : Int) - 1) then .error (215, pos) else exprsF hs K r f := by
    rw [exprF, if_neg (by omega), if_neg (by omega), if_neg (by omega), if_pos rfl]
  rw [hG]
  clear hG
  have hK : ∀ i (hi : i < K.length), Okk shI K[i] := fun i hi => ⟨(hkid i hi).1, shIs_get K o2.2 i hi, (hkid i hi).2⟩
  match K, hR, hcp, hs0, hK, o2 with
  | [], _, _, _, _, o2 => exact absurd o2.1 (by simp)
  | t0 :: L, hR, hcp, hs0, hK, o2 =>
    obtain ⟨b2, o, hae, cs0, h50, hcell, hin0⟩ := hR.atK 0 (by simp)
    subst hae
    have hc0 : ∀ j, j < 5 → w.cell? ⟨b2, o + j, none⟩ = cs0[j]? := fun j hj => by
      have := hcell j hj
      simpa using this
    obtain ⟨k1, s1, n1, p1, K1⟩ := t0
    have hd0 : ∃ d', d = d' + 1 := by
      cases d with
      | zero => exact absurd hin0 (by intro h; exact h)
      | succ d' => exact ⟨d', rfl⟩
    obtain ⟨d', rfl⟩ := hd0
    obtain ⟨a1, c1, rfl, hR1, hcp1⟩ := hin0
    have hx0 : w.cell? ⟨b2, o, none⟩ = some (.int .u8 k1) := hc0 0 (by omega)
    have hx1 : w.cell? ⟨b2, o + 1, none⟩ = some (.string s1) := hc0 1 (by omega)
    have hx2 : w.cell? ⟨b2, o + 2, none⟩ = some (.int .i64 n1) := hc0 2 (by omega)
    have hx3 : w.cell? ⟨b2, o + 3, none⟩ = some (.int .i64 p1) := hc0 3 (by omega)
    have hx4 : w.cell? ⟨b2, o + 4, none⟩ = some (.slice a1 K1.length c1) := hc0 4 (by omega)
    have hl : (((⟨k1, s1, n1, p1, K1⟩ : Nd) :: L).length : Int) - 1 = (L.length : Nat) := by simp
    by_cases hk : k1 = 2
    · have hg : (if 13 < (Nd.mk k1 s1 n1 p1 K1 :: L).length then .error (217, pos) else if headAtom (Nd.mk k1 s1 n1 p1 K1 :: L) && !clbB hs (headTxt (Nd.mk k1 s1 n1 p1 K1 :: L)) (((Nd.mk k1 s1 n1 p1 K1 :: L).length : Int) - 1) then .error (215, pos) else exprsF hs (Nd.mk k1 s1 n1 p1 K1 :: L) r f : Except Flt Fr) = if 13 < L.length + 1 then .error (217, pos) else if !clbB hs s1 (L.length : Nat) then .error (215, pos) else exprsF hs (Nd.mk k1 s1 n1 p1 K1 :: L) r f := by
        rw [hl]
        simp [headAtom, headTxt, hk, Nd.kd, Nd.txt]
      by_cases hc1 : c = 1
      · subst hc1
        cases L with
        | nil => exact call_two1 hs (d' + 1) ih w num pos s _ b2 o k1 n1 p1 s1 a1 K1.length c1 hx0 hx1 hx2 hx3 hx4 hR hs0 hK bc bf bm b bs f r hC hC.nm _ hk (hg.trans (if_neg (by simp)))
        | cons x L => simp at hcp
      · exact call_two hs (d' + 1) ih w num pos s _ L b2 o c (by simpa using hcp.1) hcp.2 k1 n1 p1 s1 a1 K1.length c1 hx0 hx1 hx2 hx3 hx4 hR hs0 hK bc bf bm b bs f r hC hC.nm _ hk hg hc1
    · have hg : (if 13 < (Nd.mk k1 s1 n1 p1 K1 :: L).length then .error (217, pos) else if headAtom (Nd.mk k1 s1 n1 p1 K1 :: L) && !clbB hs (headTxt (Nd.mk k1 s1 n1 p1 K1 :: L)) (((Nd.mk k1 s1 n1 p1 K1 :: L).length : Int) - 1) then .error (215, pos) else exprsF hs (Nd.mk k1 s1 n1 p1 K1 :: L) r f : Except Flt Fr) = if 13 < L.length + 1 then .error (217, pos) else exprsF hs (Nd.mk k1 s1 n1 p1 K1 :: L) r f := by
        simp [headAtom, hk, Nd.kd]
      by_cases hc1 : c = 1
      · subst hc1
        cases L with
        | nil => exact call_oth1 hs (d' + 1) ih w num pos s _ b2 o k1 n1 p1 s1 a1 K1.length c1 hx0 hx1 hx2 hx3 hx4 hR hs0 hK bc bf bm b bs f r hC hC.nm _ hk (hg.trans (if_neg (by simp)))
        | cons x L => simp at hcp
      · exact call_oth hs (d' + 1) ih w num pos s _ L b2 o c (by simpa using hcp.1) hcp.2 k1 n1 p1 s1 a1 K1.length c1 hx0 hx1 hx2 hx3 hx4 hR hs0 hK bc bf bm b bs f r hC hC.nm _ hk hg hc1

end Go.Proofs.YtpgjcedonimgnaaDoor
