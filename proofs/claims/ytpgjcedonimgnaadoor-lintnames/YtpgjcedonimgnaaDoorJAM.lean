/- lint's pattern, of whatever trees. -/
import Derived.Test.YtpgjcedonimgnaaDoorGmD

namespace Go.Proofs.YtpgjcedonimgnaaDoor
open Go.RowKit

theorem ret_ok {R : Except Flt Fr} {f' : Fr} {bm : Nat} {w w' : World} {u : Value} (hR : R = .ok f') (hu : Upd [bm] w w') (hN : NmIs w' bm f') : Ret R bm w (.returned u) w' := by subst hR; exact ⟨hu, ⟨u, rfl⟩, hN⟩
theorem ret_err {R : Except Flt Fr} {x : Flt} {bm : Nat} {w w' : World} (hR : R = .error x) (hu : Upd [bm] w w') : Ret R bm w (.panicked [{ v := .iface 33 (.agg #[.int .i64 x.1, .int .i64 x.2]), recovered := false }]) w' := by subst hR; exact ⟨hu, rfl⟩
theorem retO_ok {R : Option Flt} {w w' : World} {u : Value} (hR : R = none) (hu : Upd [] w w') : RetO R w (.returned u) w' := by subst hR; exact ⟨hu, u, rfl⟩
theorem retO_err {R : Option Flt} {x : Flt} {w w' : World} (hR : R = some x) (hu : Upd [] w w') : RetO R w (.panicked [{ v := .iface 33 (.agg #[.int .i64 x.1, .int .i64 x.2]), recovered := false }]) w' := by subst hR; exact ⟨hu, rfl⟩
theorem wp_not {o : Oper} {a : Act} {w : World} {K : Act → World → Prop} {Q : Exit → Act → World → Prop} (x : Operand) (ho : o.op = .unOp .not 4 x) (z : Bool) (hx : a.eval x = .bool z) (h : K (a.put o.dst (.bool (!z))) w) : o.wp Tryd.prog a w K Q := by
  refine wp_pure ?_ h
  unfold execOp
  simp only [ho, hx]
  simp [go_sem]
theorem RowN.atK {w : World} {d : Nat} {a : Option Addr} {K : List Nd} (h : RowN (NIn w d) w a K) (q : Nat) (hq : q < K.length) : ∃ b o, a = some ⟨b, o, none⟩ ∧ ∃ cs : List Value, cs.length = 5 ∧ (∀ j, j < 5 → w.cell? ⟨b, o + (q * 5 + j), none⟩ = cs[j]?) ∧ NIn w d cs K[q] := by
  rcases h with h | ⟨b, o, rfl, hb, hc⟩
  · rw [h] at hq; simp at hq
  · obtain ⟨cs, k1, k2, k3⟩ := hc q hq
    exact ⟨b, o, rfl, cs, k1, k2, k3⟩
theorem patsF_at (r : List Fr) (K : List Nd) (q : Nat) (hq : q < K.length) (f : Fr) : patsF r (K.drop q) f = (match patF r K[q] f with | .ok f' => patsF r (K.drop (q + 1)) f' | .error e => .error e) := by
  rw [List.drop_eq_getElem_cons hq, patsF]
  cases patF r K[q] f <;> rfl

set_option maxHeartbeats 2000000 in
set_option maxRecDepth 100000 in
theorem pat_else (d : Nat) (w : World) (k num pos : Int) (s : ByteArray) (K : List Nd) (a : Option Addr) (c : Nat) (hR : NIn w (d + 1) [.int .u8 k, .string s, .int .i64 num, .int .i64 pos, .slice a K.length c] (.mk k s num pos K)) (bm b : Nat) (bs : List Nat) (f : Fr) (r : List Fr) (hC : Chn w (bm :: bs) (f :: r) (some ⟨b, 0, none⟩))
    (h1 : k ≠ 1) (h2 : k ≠ 2) (h3 : k ≠ 3) (h4 : k ≠ 4) (h5 : k ≠ 5) (h6 : k ≠ 6) (h8 : k ≠ 8) : Calls Tryd.prog 39 #[.agg #[.int .u8 k, .string s, .int .i64 num, .int .i64 pos, .slice a K.length c], .pointer (some ⟨b, 0, none⟩)] w (Ret (patF r (.mk k s num pos K) f) bm w) := by
  have hP : patF r (.mk k s num pos K) f = if isNeg (.mk k s num pos K) then .ok f else .error (216, pos) := by
    rw [patF, if_neg (by omega), if_neg h3, if_neg (by omega)]
  obtain ⟨z, hz⟩ : ∃ z, z = isNeg (.mk k s num pos K) := ⟨_, rfl⟩
  rw [← hz] at hP
  obtain ⟨G, hG⟩ : ∃ G, G = patF r (.mk k s num pos K) f := ⟨_, rfl⟩
  rw [← hG] at hP ⊢
  have HG : Hid (G = if z = true then .ok f else .error (216, pos)) := hP
  have e1 : (k == 1) = false := by simp [h1]
  have e2 : (k == 2) = false := by simp [h2]
  have e3 : (k == 3) = false := by simp [h3]
  have e4 : (k == 4) = false := by simp [h4]
  have e5 : (k == 5) = false := by simp [h5]
  have e6 : (k == 6) = false := by simp [h6]
  have e8 : (k == 8) = false := by simp [h8]
  have HZ : Hid (z = isNeg (.mk k s num pos K)) := hz
  have HR : Hid (NIn w (d + 1) [.int .u8 k, .string s, .int .i64 num, .int .i64 pos, .slice a K.length c] (.mk k s num pos K)) := hR
  have HN : Hid (NmIs w bm f) := hC.nm
  clear hP hz hR hC hG
  go_enter Tryd.func39, Tryd.ntmps39
  go_wp2_with fail
  obtain ⟨w1, hw1⟩ : ∃ w1, w1 = w.alloc (.cells #[.int .u8 k, .string s, .int .i64 num, .int .i64 pos, .slice a K.length c] 29) := ⟨_, rfl⟩
  have U1 : Upd [] w w1 := by rw [hw1]; exact (Upd.refl [] w).alloc _
  have tN : Tb w1 w.heap.size #[.int .u8 k, .string s, .int .i64 num, .int .i64 pos, .slice a K.length c] := by rw [hw1]; exact Tb.new _ _ _ rfl
  rw [← hw1]
  clear hw1
  obtain ⟨fs, hdesc⟩ := term_desc
  refine region_lastT (by kernel_rfl) 4 rfl [some 8, some 9, some 10, some 11, some 12] rfl (by decide) rfl (by kernel_rfl) (by kernel_rfl) (fun j v _ => match j with | 0 => v = .agg #[.int .u8 k, .string s, .int .i64 num, .int .i64 pos, .slice a K.length c] | 1 => v = .bool z | 2 => v = .bool (!z) | 3 => v = .agg #[.int .u8 k, .string s, .int .i64 num, .int .i64 pos, .slice a K.length c] | _ => True) (fun j v w w' h _ => h) ?_ ?_
  · intro D vs a' w5 i o' hA hU hV hS hi ho haf
    have hc5 : i = 0 ∨ i = 1 ∨ i = 2 ∨ i = 3 := by omega
    have t5 := tN.mono hU (by simp)
    rcases hc5 with rfl | rfl | rfl | rfl <;> cases ho
    · exact ops_wp rfl rfl (wp_load_row 29 (.tmp 2) rfl w.heap.size (hA.ev 2 (by decide)) 29 _ (0, 0) _ t5 hdesc rfl (by rw [info_term]; rfl) ⟨_, rfl, rfl, Upd.refl _ _⟩)
    · have D0 := haf ⟨0, .data⟩ (by simp) rfl
      refine ops_wp rfl rfl (wp_callA rfl Tryd.call46 (vs := #[.agg #[.int .u8 k, .string s, .int .i64 num, .int .i64 pos, .slice a K.length c]]) ?_ (R := fun u w' => u = .bool z ∧ Upd [] w5 w') ?_ ?_)
      · have e0 : a'.eval (.tmp 8) = _ := (hS 0 8 rfl D0).trans (hV 0 D0)
        simp only [List.map_toArray, List.map_cons, List.map_nil, e0]
      · exact (isNegative_in (d + 1) w5 _ _ (NIn.mono (U1.trans hU) _ _ _ HR.out)).mono fun e w' ⟨he, hu⟩ => ⟨_, he, by rw [HZ.out], hu⟩
      · rintro u w6 ⟨rfl, hu⟩
        exact ⟨_, rfl, rfl, hu⟩
    · have D1 := haf ⟨1, .data⟩ (by simp) rfl
      exact ops_wp rfl rfl (wp_not (.tmp 9) rfl z ((hS 1 9 rfl D1).trans (hV 1 D1)) ⟨_, rfl, rfl, Upd.refl _ _⟩)
    · exact ops_wp rfl rfl (wp_load_row 29 (.tmp 2) rfl w.heap.size (hA.ev 2 (by decide)) 29 _ (0, 0) _ t5 hdesc rfl (by rw [info_term]; rfl) ⟨_, rfl, rfl, Upd.refl _ _⟩)
  · intro vs a' w5 o' hv hA hU hV hS ho
    cases ho
    have e2' : a'.eval (.tmp 10) = .bool (!z) := (hS 2 10 rfl (by omega)).trans (hV 2 (by omega))
    have e3' : a'.eval (.tmp 11) = .agg #[.int .u8 k, .string s, .int .i64 num, .int .i64 pos, .slice a K.length c] := (hS 3 11 rfl (by omega)).trans (hV 3 (by omega))
    refine ops_wp rfl rfl (wp_callB rfl Tryd.call26 (vs := #[.bool (!z), .int .i64 216, .agg #[.int .u8 k, .string s, .int .i64 num, .int .i64 pos, .slice a K.length c]]) (by simp only [List.map_toArray, List.map_cons, List.map_nil, e2', e3']; rfl) ?_)
    cases z with
    | true =>
      refine (refuse_no 216 k num pos s a K.length c w5).mono ?_
      rintro e w6 ⟨⟨u, rfl⟩, hu⟩
      refine Or.inl ⟨u, rfl, u, rfl, ?_⟩
      have U6 : Hid (Upd [] w w6) := (U1.trans hU).trans hu
      obtain ⟨v0, r0, rfl, hv0⟩ := list_cons hv
      obtain ⟨v1, r1, rfl, hv1⟩ := list_cons hv0
      obtain ⟨v2, r2, rfl, hv2⟩ := list_cons hv1
      obtain ⟨v3, r3, rfl, hv3⟩ := list_cons hv2
      obtain ⟨v4, r4, rfl, hv4⟩ := list_cons hv3
      clear hV hS hA hU hu tN U1 HR HZ e2' e3'
      simp only [List.set_cons_succ, List.set_cons_zero, putAll, Act.put, List.setIfInBounds_toArray]
      go_wp2_with fail
      exact bodyPost_end (results_none rfl _ _ _) rfl (ret_ok HG.out U6.out.into (HN.out.mono U6.out (by simp)))
    | false =>
      refine (refuse_yes 216 k num pos s a K.length c w5).mono ?_
      rintro e w6 ⟨rfl, hu⟩
      refine Or.inr ⟨_, rfl, ?_⟩
      have U6 : Hid (Upd [] w w6) := (U1.trans hU).trans hu
      exact ⟨hA.def', ret_err (x := (216, pos)) HG.out U6.out.into⟩

/-- What is said of pattern, of trees of a depth. -/
def PatSaid (d : Nat) : Prop := ∀ (w : World) (cs : List Value) (t : Nd), NIn w d cs t → nsz t ≤ 2199023255488 → ∀ (bm b : Nat) (bs : List Nat) (f : Fr) (r : List Fr), Chn w (bm :: bs) (f :: r) (some ⟨b, 0, none⟩) → Calls Tryd.prog 39 #[.agg cs.toArray, .pointer (some ⟨b, 0, none⟩)] w (Ret (patF r t f) bm w)

set_option maxHeartbeats 4000000 in
set_option maxRecDepth 100000 in
theorem pattern_in : ∀ d, PatSaid d := by
  intro d
  induction d with
  | zero => intro w cs t h; exact h.elim
  | succ d ih =>
    intro w cs t h hs bm b bs f r hC
    obtain ⟨k, s, num, pos, K⟩ := t
    have hin := h
    obtain ⟨a, c, rfl, hR, hcp⟩ := h
    have HN : Hid (NmIs w bm f) := hC.nm
    have HC : Hid (Chn w (bm :: bs) (f :: r) (some ⟨b, 0, none⟩)) := hC
    have U1 : Hid (Upd [] w (w.alloc (.cells #[.int .u8 k, .string s, .int .i64 num, .int .i64 pos, .slice a K.length c] 29))) := (Upd.refl [] w).alloc _
    by_cases h124 : k = 1 ∨ k = 2 ∨ k = 4
    · obtain ⟨G, hG⟩ : ∃ G, G = patF r (.mk k s num pos K) f := ⟨_, rfl⟩
      rw [← hG]
      have HG : Hid (G = .ok f) := by rw [hG, patF, if_pos h124]; rfl
      clear hG hin hR hC ih
      rcases h124 with rfl | rfl | rfl
      all_goals
        go_enter Tryd.func39, Tryd.ntmps39
        go_wp2_with fail
        exact bodyPost_end (results_none rfl _ _ _) rfl (ret_ok HG.out U1.out.into (HN.out.mono U1.out (by simp)))
    · by_cases h3 : k = 3
      · subst h3
        obtain ⟨G, hG⟩ : ∃ G, G = patF r (.mk 3 s num pos K) f := ⟨_, rfl⟩
        rw [← hG]
        rw [patF, if_neg h124, if_pos rfl] at hG
        by_cases hu : s = ⟨#[95]⟩
        · subst hu
          rw [if_pos rfl] at hG
          have HG : Hid (G = .ok f) := hG
          clear hG hin hR hC ih
          go_enter Tryd.func39, Tryd.ntmps39
          go_wp2_with fail
          exact bodyPost_end (results_none rfl _ _ _) rfl (ret_ok HG.out U1.out.into (HN.out.mono U1.out (by simp)))
        · rw [if_neg hu] at hG
          have HG : Hid (G = .ok (bindF r f s)) := hG
          have hd : (s.toList == [95]) = false := str_ne (by kernel_rfl) hu
          clear hG hin hR hC ih
          go_enter Tryd.func39, Tryd.ntmps39
          go_wp2_with fail
          refine Calls.mono (bind_in bm b bs f r s _ (Chn.mono U1.out _ _ _ HC.out)) ?_
          rintro e w2 ⟨⟨u, rfl⟩, hu2, hn2⟩
          have U2 : Hid (Upd [bm] w w2) := U1.out.into.trans hu2
          have N2 : Hid (NmIs w2 bm (bindF r f s)) := hn2
          clear hu2 hn2
          go_wp2_with fail
          exact bodyPost_end (results_none rfl _ _ _) rfl (ret_ok HG.out U2.out N2.out)
      · by_cases h568 : k = 5 ∨ k = 6 ∨ k = 8
        · obtain ⟨G, hG⟩ : ∃ G, G = patF r (.mk k s num pos K) f := ⟨_, rfl⟩
          rw [← hG]
          have HG : Hid (G = patsF r K f) := by rw [hG, patF, if_neg h124, if_neg h3, if_pos h568]; rfl
          have HR : Hid (RowN (NIn w d) w a K) := hR
          have hs1 : nszs K ≤ 2199023255488 := by simpa [nsz] using hs
          have hs0 : K.length ≤ 2199023255488 := Nat.le_trans (nszs_len K) hs1
          have HS : Hid (∀ i (hi : i < K.length), nsz K[i] ≤ 2199023255488) := fun i hi => Nat.le_trans (nszs_get K i hi) hs1
          have IH : Hid (PatSaid d) := ih
          clear hG hin hR hC ih hs hs1 hcp
          rcases h568 with rfl | rfl | rfl
          all_goals
            go_enter Tryd.func39, Tryd.ntmps39
            go_wp2_with fail
            go_loopw [33] (fun i wr => ∃ (q : Nat) (fi : Fr), q ≤ K.length ∧ i = .int .i64 q ∧ Hid (patsF r K f = patsF r (K.drop q) fi) ∧ Upd [bm] w wr ∧ NmIs wr bm fi) (fun i _ => K.length - (intOf i).toNat)
            case atStart => exact ⟨0, f, Nat.zero_le _, rfl, rfl, U1.out.into, HN.out.mono U1.out (by simp)⟩
            case round =>
              obtain ⟨q, fi, hq, rfl, HP, hu, hn⟩ := hrel
              have HU : Hid (Upd [bm] w wr) := hu
              have HNi : Hid (NmIs wr bm fi) := hn
              clear hu hn
              by_cases hlt : q < K.length
              · have i1 : (q : Int) < (K.length : Int) := by omega
                obtain ⟨b2, o, rfl, cs, hl5, hcell, hin⟩ := HR.out.atK q hlt
                have hone := hin.one
                have hin' := NIn.keep HN.out HU.out _ _ _ hin
                have hc5 : ∀ j, j < 5 → wr.cell? ⟨b2, o + (q * 5 + j), none⟩ = cs[j]? := fun j hj => by
                  have := hcell j hj
                  rw [List.getElem?_eq_getElem (by omega)] at this ⊢
                  exact HN.out.cell HU.out this
                obtain ⟨q0, q1, q2, q3, q4, rfl⟩ := list5 hl5
                have x0 : wr.cell? ⟨b2, o + q * 5, none⟩ = some q0 := hc5 0 (by omega)
                have x1 : wr.cell? ⟨b2, o + q * 5 + 1, none⟩ = some q1 := hc5 1 (by omega)
                have x2 : wr.cell? ⟨b2, o + q * 5 + 2, none⟩ = some q2 := hc5 2 (by omega)
                have x3 : wr.cell? ⟨b2, o + q * 5 + 3, none⟩ = some q3 := hc5 3 (by omega)
                have x4 : wr.cell? ⟨b2, o + q * 5 + 4, none⟩ = some q4 := hc5 4 (by omega)
                have HIN : Hid (NIn wr d [q0, q1, q2, q3, q4] K[q]) := hin'
                have tz : Tb (wr.alloc (.cells #[.int .u8 0, .string ⟨#[]⟩, .int .i64 0, .int .i64 0, .slice none 0 0] 29)) wr.heap.size #[.int .u8 0, .string ⟨#[]⟩, .int .i64 0, .int .i64 0, .slice none 0 0] := Tb.new _ _ _ rfl
                have HUZ : Hid (Upd [] wr (wr.alloc (.cells #[.int .u8 0, .string ⟨#[]⟩, .int .i64 0, .int .i64 0, .slice none 0 0] 29))) := (Upd.refl [] wr).alloc _
                clear hc5 hcell hin hin'
                go_wp2_with (first
                  | (refine store_T _ rfl _ _ rfl _ #[q0, q1, q2, q3, q4] _ rfl rfl tz rfl rfl hone ?_; intro w1 t1 u1; have V1 : Hid (Upd [] wr w1) := HUZ.out.then u1 (by simp))
                  | (refine load_T _ rfl _ rfl _ _ rfl t1 rfl ?_)
                  | fail)
                refine Calls.mono (IH.out w1 _ _ (NIn.mono V1.out _ _ _ HIN.out) (HS.out q hlt) bm b bs fi r (Chn.mono V1.out _ _ _ (HC.out.upd HU.out HNi.out))) ?_
                rintro e w2 ⟨hu2, hm2⟩
                have U2 : Hid (Upd [bm] w w2) := (HU.out.trans V1.out.into).trans hu2
                have HP2 := HP.out
                rw [patsF_at r K q hlt] at HP2
                clear hu2 t1 u1 V1 tz HUZ x0 x1 x2 x3 x4 HIN HNi HU
                cases hpf : patF r K[q] fi with
                | ok f' =>
                  rw [hpf] at hm2 HP2
                  obtain ⟨⟨u, rfl⟩, hn2⟩ := hm2
                  have HP3 : Hid (patsF r K f = patsF r (K.drop (q + 1)) f') := HP2
                  have N2 : Hid (NmIs w2 bm f') := hn2
                  clear hn2 HP2 hpf HP
                  go_wp2_with fail
                  go_roundw
                  case rel => exact ⟨q + 1, f', by omega, by go_num, HP3, U2.out, N2.out⟩
                  case measure => simp [intOf]; omega
                | error x =>
                  rw [hpf] at hm2 HP2
                  have hm3 : e = .panicked [{ v := .iface 33 (.agg #[.int .i64 x.1, .int .i64 x.2]), recovered := false }] := hm2
                  subst hm3
                  have HP3 : Hid (patsF r K f = .error x) := HP2
                  clear hm2 HP2 hpf HP
                  go_wp2_with fail
                  exact ⟨rfl, ret_err (HG.out.trans HP3.out) U2.out⟩
              · have hd : decide ((q : Int) < (K.length : Int)) = false := by simp; omega
                have hqe : q = K.length := by omega
                have HP3 : Hid (patsF r K f = .ok fi) := by
                  have := HP.out
                  rw [hqe, List.drop_length, patsF] at this
                  exact this
                go_wp2_with fail
                exact bodyPost_end (results_none rfl _ _ _) rfl (ret_ok (HG.out.trans HP3.out) HU.out HNi.out)
        · exact pat_else d w k num pos s K a c hin bm b bs f r hC (by omega) (by omega) h3 (by omega) (by omega) (by omega) (by omega)

end Go.Proofs.YtpgjcedonimgnaaDoor

/- lint's guard: its regions. -/
namespace Go.Proofs.YtpgjcedonimgnaaDoor
open Go.RowKit

theorem wp_nf0 {o : Oper} {a : Act} {w : World} {K : Act → World → Prop} {Q : Exit → Act → World → Prop} (x : Operand) (ho : o.op = .fieldAddr 29 x 0) (g : Nat) (hx : a.eval x = .pointer (some ⟨g, 0, none⟩)) (h : K (a.put o.dst (.pointer (some ⟨g, 0, none⟩))) w) : o.wp Tryd.prog a w K Q := by
  refine wp_pure ?_ h
  unfold execOp
  simp only [ho, hx]
  kernel_rfl
theorem wp_nf4 {o : Oper} {a : Act} {w : World} {K : Act → World → Prop} {Q : Exit → Act → World → Prop} (x : Operand) (ho : o.op = .fieldAddr 29 x 4) (g : Nat) (hx : a.eval x = .pointer (some ⟨g, 0, none⟩)) (h : K (a.put o.dst (.pointer (some ⟨g, 4, none⟩))) w) : o.wp Tryd.prog a w K Q := by
  refine wp_pure ?_ h
  unfold execOp
  simp only [ho, hx]
  kernel_rfl
theorem wp_lkind {o : Oper} {a : Act} {w : World} {K : Act → World → Prop} {Q : Exit → Act → World → Prop} (x : Operand) (ho : o.op = .load 26 x) (p : Addr) (v : Value) (hx : a.eval x = .pointer (some p)) (hc : w.cell? p = some v) (h : K (a.put o.dst v) w) : o.wp Tryd.prog a w K Q := by
  refine wp_pure ?_ h
  unfold execOp
  simp only [ho, hx]
  simp [go_sem, hc]
theorem wp_lrow {o : Oper} {a : Act} {w : World} {K : Act → World → Prop} {Q : Exit → Act → World → Prop} (x : Operand) (ho : o.op = .load 27 x) (p : Addr) (v : Value) (hx : a.eval x = .pointer (some p)) (hc : w.cell? p = some v) (h : K (a.put o.dst v) w) : o.wp Tryd.prog a w K Q := by
  refine wp_pure ?_ h
  unfold execOp
  simp only [ho, hx]
  simp [go_sem, hc]
theorem wp_lchk {o : Oper} {a : Act} {w : World} {K : Act → World → Prop} {Q : Exit → Act → World → Prop} (x : Operand) (ho : o.op = .load 48 x) (p : Addr) (v : Value) (hx : a.eval x = .pointer (some p)) (hc : w.cell? p = some v) (h : K (a.put o.dst v) w) : o.wp Tryd.prog a w K Q := by
  refine wp_pure ?_ h
  unfold execOp
  simp only [ho, hx]
  simp [go_sem, hc]
theorem wp_len {o : Oper} {a : Act} {w : World} {K : Act → World → Prop} {Q : Exit → Act → World → Prop} (x : Operand) (ho : o.op = .call { callee := .builtin .len, args := #[x], argTypes := #[27] }) (ad : Option Addr) (n c : Nat) (hx : a.eval x = .slice ad n c) (h : K (a.put o.dst (.int .i64 (n : Nat))) w) : o.wp Tryd.prog a w K Q := by
  have hr : (Builtin.len_ #[27] o.type #[.slice ad n c]).run Tryd.prog w = .ok (.int .i64 (n : Nat)) w := by kernel_rfl
  unfold Oper.wp execOp
  simp only [ho, resolve, invoke, builtin, Sem.run_bind, Sem.run_pure, Result.andThen_ok, List.map_toArray, List.map_cons, List.map_nil, hx, hr]
  exact h
theorem wp_neqI {o : Oper} {a : Act} {w : World} {K : Act → World → Prop} {Q : Exit → Act → World → Prop} (x y : Operand) (ho : o.op = .binOp .neq 3 x y 3) (n m : Int) (hx : a.eval x = .int .i64 n) (hy : a.eval y = .int .i64 m) (h : K (a.put o.dst (.bool (!(n == m)))) w) : o.wp Tryd.prog a w K Q := by
  refine wp_pure ?_ h
  unfold execOp
  simp only [ho, hx, hy]
  simp [go_sem, bne]
theorem wp_neqK {o : Oper} {a : Act} {w : World} {K : Act → World → Prop} {Q : Exit → Act → World → Prop} (x y : Operand) (ho : o.op = .binOp .neq 26 x y 26) (n m : Int) (hx : a.eval x = .int .u8 n) (hy : a.eval y = .int .u8 m) (h : K (a.put o.dst (.bool (!(n == m)))) w) : o.wp Tryd.prog a w K Q := by
  refine wp_pure ?_ h
  unfold execOp
  simp only [ho, hx, hy]
  simp [go_sem, bne]
theorem wp_pick {o : Oper} {a : Act} {w : World} {K : Act → World → Prop} {Q : Exit → Act → World → Prop} (x y z : Operand) (ho : o.op = .pick x y z) (b : Bool) (hx : a.eval x = .bool b) (h : K (a.put o.dst (if b then a.eval y else a.eval z)) w) : o.wp Tryd.prog a w K Q := by
  refine wp_pure ?_ h
  unfold execOp
  simp only [ho, hx]
  cases b <;> rfl

end Go.Proofs.YtpgjcedonimgnaaDoor
