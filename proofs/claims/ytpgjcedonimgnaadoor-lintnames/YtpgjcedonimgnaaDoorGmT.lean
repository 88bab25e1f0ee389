/- lint's comprehensions, of whatever trees. -/
import Derived.Test.YtpgjcedonimgnaaDoorGmS
namespace Go.Proofs.YtpgjcedonimgnaaDoor
open Go.RowKit

theorem NIn.up {w : World} : ∀ (d : Nat) (cs : List Value) (t : Nd), NIn w d cs t → NIn w (d + 1) cs t := by
  intro d
  induction d with
  | zero => intro cs t h; exact absurd h (fun h => h)
  | succ d ih =>
    intro cs t h
    obtain ⟨k, s, num, pos, K⟩ := t
    obtain ⟨a, c, rfl, hR, hcp⟩ := h
    exact ⟨a, c, rfl, hR.imp (Upd.refl [] w) ih, hcp⟩
theorem stepsF_at (hs : ByteArray → Int → Bool) (r : List Fr) (K : List Nd) (q : Nat) (hq : q < K.length) (f : Fr) : stepsF hs (K.drop q) r f = (match exprF hs K[q] 2 r f with | .ok f' => stepsF hs (K.drop (q + 1)) r f' | .error e => .error e) := by
  rw [List.drop_eq_getElem_cons hq, stepsF]
  cases exprF hs K[q] 2 r f <;> rfl

set_option maxHeartbeats 4000000 in
set_option maxRecDepth 100000 in
theorem comp_many (hs : ByteArray → Int → Bool) (d : Nat) (IH : Hid (XS 54 hs (fun t r f => exprF hs t 0 r f) shI d)) (w : World) (k num pos : Int) (s : ByteArray) (n : Nd) (L : List Nd) (b2 o c : Nat) (hcL : L.length + 1 ≤ c) (_hc63 : c ≤ 9223372036854775807) (c0 c1 c2 c3 c4 : Value) (hx0 : Hid (w.cell? ⟨b2, o, none⟩ = some c0)) (hx1 : Hid (w.cell? ⟨b2, o + 1, none⟩ = some c1)) (hx2 : Hid (w.cell? ⟨b2, o + 2, none⟩ = some c2)) (hx3 : Hid (w.cell? ⟨b2, o + 3, none⟩ = some c3)) (hx4 : Hid (w.cell? ⟨b2, o + 4, none⟩ = some c4)) (HI0 : Hid (NIn w d [c0, c1, c2, c3, c4] n)) (K0 : Hid (Okk shI n)) (HR : Hid (RowN (NIn w d) w (some ⟨b2, o + 5, none⟩) L)) (hs0 : L.length ≤ 2199023255488) (HK : Hid (∀ i (hi : i < L.length), Okk shI L[i])) (bc bf bm b : Nat) (bs : List Nat) (f : Fr) (r : List Fr) (HC : Hid (Ctx w bc bf hs bm b bs f r)) (HN : Hid (NmIs w bm f)) (G : Except Flt Fr) (HGG : Hid (G = compF hs (n :: L) r f)) (hcn : ¬ c = 1) :
    Calls Tryd.prog 66 #[.pointer (some ⟨bc, 0, none⟩), .agg #[.int .u8 k, .string s, .int .i64 num, .int .i64 pos, .slice (some ⟨b2, o, none⟩) (L.length + 1) c], .pointer (some ⟨b, 0, none⟩)] w (Ret G bm w) := by
  have U1 : Hid (Upd [] w (w.alloc (.cells #[.int .u8 k, .string s, .int .i64 num, .int .i64 pos, .slice (some ⟨b2, o, none⟩) (L.length + 1) c] 29))) := (Upd.refl [] w).alloc _
  have T0 : Hid (Tb (w.alloc (.cells #[.int .u8 k, .string s, .int .i64 num, .int .i64 pos, .slice (some ⟨b2, o, none⟩) (L.length + 1) c] 29)) w.heap.size #[.int .u8 k, .string s, .int .i64 num, .int .i64 pos, .slice (some ⟨b2, o, none⟩) (L.length + 1) c]) := Tb.new _ _ _ rfl
  have N1 : Hid (NmIs (w.alloc (.cells #[.int .u8 k, .string s, .int .i64 num, .int .i64 pos, .slice (some ⟨b2, o, none⟩) (L.length + 1) c] 29)) bm f) := HN.out.mono U1.out (by simp)
  have hc1 : (1 : Int) ≤ ((L.length + 1 : Nat) : Int) := by omega
  have hc2 : ((L.length + 1 : Nat) : Int) ≤ (c : Int) := by omega
  go_enter Tryd.func66, Tryd.ntmps66
  go_wp2_with fail
  go_loopw [12] (fun i wr => ∃ (q : Nat) (fi : Fr), q ≤ L.length ∧ i = .int .i64 q ∧ Hid (stepsF hs L r f = stepsF hs (L.drop q) r fi) ∧ Upd [bm] (w.alloc (.cells #[.int .u8 k, .string s, .int .i64 num, .int .i64 pos, .slice (some ⟨b2, o, none⟩) (L.length + 1) c] 29)) wr ∧ NmIs wr bm fi) (fun i _ => L.length - (intOf i).toNat)
  case atStart => exact ⟨0, f, Nat.zero_le _, rfl, rfl, Upd.refl _ _, N1.out⟩
  case round =>
    obtain ⟨q, fi, hq, rfl, HP, hu, hn⟩ := hrel
    have HUA : Hid (Upd [bm] (w.alloc (.cells #[.int .u8 k, .string s, .int .i64 num, .int .i64 pos, .slice (some ⟨b2, o, none⟩) (L.length + 1) c] 29)) wr) := hu
    have HU : Hid (Upd [bm] w wr) := U1.out.into.trans hu
    have HNi : Hid (NmIs wr bm fi) := hn
    clear hu hn
    by_cases hlt : q < L.length
    · have i1 : (q : Int) < (L.length : Int) := by omega
      obtain ⟨b3, o3, hae, cs, hl5, hcell, hin⟩ := HR.out.atK q hlt
      cases hae
      have hone := hin.one
      have hin' := NIn.keep HN.out HU.out _ _ _ hin
      have hc5 : ∀ j, j < 5 → wr.cell? ⟨b2, o + 5 + (q * 5 + j), none⟩ = cs[j]? := fun j hj => by
        have := hcell j hj
        rw [List.getElem?_eq_getElem (by omega)] at this ⊢
        exact HN.out.cell HU.out this
      have HQ : Hid (Okk shI L[q]) := HK.out q hlt
      have HP2 := HP.out
      rw [stepsF_at hs r L q hlt] at HP2
      obtain ⟨tq, htq⟩ : ∃ tq, tq = L[q] := ⟨_, rfl⟩
      rw [← htq] at HQ hin' HP2
      clear htq hcell hin
      cases d with
      | zero => exact absurd hin' (fun h => h)
      | succ d =>
      obtain ⟨ks, ss, ns, ps, Ks⟩ := tq
      have hin1 := hin'
      obtain ⟨aq, cq, rfl, hRq, hcpq⟩ := hin'
      have x0 : wr.cell? ⟨b2, o + 5 + q * 5, none⟩ = some (.int .u8 ks) := hc5 0 (by omega)
      have x1 : wr.cell? ⟨b2, o + 5 + q * 5 + 1, none⟩ = some (.string ss) := hc5 1 (by omega)
      have x2 : wr.cell? ⟨b2, o + 5 + q * 5 + 2, none⟩ = some (.int .i64 ns) := hc5 2 (by omega)
      have x3 : wr.cell? ⟨b2, o + 5 + q * 5 + 3, none⟩ = some (.int .i64 ps) := hc5 3 (by omega)
      have x4 : wr.cell? ⟨b2, o + 5 + q * 5 + 4, none⟩ = some (.slice aq Ks.length cq) := hc5 4 (by omega)
      have HIN : Hid (NIn wr (d + 1) [.int .u8 ks, .string ss, .int .i64 ns, .int .i64 ps, .slice aq Ks.length cq] (.mk ks ss ns ps Ks)) := hin1
      have HRQ : Hid (RowN (NIn wr d) wr aq Ks) := hRq
      have HCi : Hid (Ctx wr bc bf hs bm b bs fi r) := HC.out.upd HU.out HNi.out
      have tz : Tb (wr.alloc (.cells #[.int .u8 0, .string ⟨#[]⟩, .int .i64 0, .int .i64 0, .slice none 0 0] 29)) wr.heap.size #[.int .u8 0, .string ⟨#[]⟩, .int .i64 0, .int .i64 0, .slice none 0 0] := Tb.new _ _ _ rfl
      have HUZ : Hid (Upd [] wr (wr.alloc (.cells #[.int .u8 0, .string ⟨#[]⟩, .int .i64 0, .int .i64 0, .slice none 0 0] 29))) := (Upd.refl [] wr).alloc _
      have HP2' : Hid (stepsF hs L r f = (match exprF hs (.mk ks ss ns ps Ks) 2 r fi with | .ok f' => stepsF hs (L.drop (q + 1)) r f' | .error e => .error e)) := HP2
      clear hc5 hin1 hRq HP2 HP
      by_cases h18 : ks = 18
      · subst h18
        have hsh := HQ.out.2.1
        rw [shI, if_pos (Or.inr rfl), Bool.and_eq_true] at hsh
        obtain ⟨_, hkid⟩ := kid_ok HQ.out.1 HQ.out.2.2
        have hl2 : Ks.length = 2 := by simpa using hsh.1
        match Ks, hl2, hsh, hkid, HP2', x4, HRQ, hone with
        | [p, e], _, hsh, hkid, HP2', x4, HRQ, hone =>
        have HPX : Hid (stepsF hs L r f = (match (match exprF hs e 0 r fi with | .ok f' => patF r p f' | .error x => .error x) with | .ok f' => stepsF hs (L.drop (q + 1)) r f' | .error e => .error e)) := by
          rw [HP2'.out, exprF, if_pos ⟨rfl, rfl⟩, genF]
          cases exprF hs e 0 r fi <;> rfl
        have K1 : Hid (Okk shI p) := ⟨(hkid 0 (by simp)).1, shIs_get _ hsh.2 0 (by simp), (hkid 0 (by simp)).2⟩
        have K2 : Hid (Okk shI e) := ⟨(hkid 1 (by simp)).1, shIs_get _ hsh.2 1 (by simp), (hkid 1 (by simp)).2⟩
        obtain ⟨b4, o4, hae4, cp, h50, hcp0, hinp⟩ := HRQ.out.atK 0 (by simp)
        subst hae4
        obtain ⟨b5, o5, hae5, ce, h51, hce0, hine⟩ := HRQ.out.atK 1 (by simp)
        obtain ⟨rfl, rfl⟩ : b4 = b5 ∧ o4 = o5 := by cases hae5; exact ⟨rfl, rfl⟩
        clear hae5
        have HI1 : Hid (NIn wr (d + 1) cp p) := NIn.up _ _ _ hinp
        have HI2 : Hid (NIn wr (d + 1) ce e) := NIn.up _ _ _ hine
        obtain ⟨p0, p1, p2, p3, p4, rfl⟩ := list5 h50
        obtain ⟨q0, q1, q2, q3, q4, rfl⟩ := list5 h51
        have y0 : Hid (wr.cell? ⟨b4, o4, none⟩ = some p0) := hcp0 0 (by omega)
        have y1 : Hid (wr.cell? ⟨b4, o4 + 1, none⟩ = some p1) := hcp0 1 (by omega)
        have y2 : Hid (wr.cell? ⟨b4, o4 + 2, none⟩ = some p2) := hcp0 2 (by omega)
        have y3 : Hid (wr.cell? ⟨b4, o4 + 3, none⟩ = some p3) := hcp0 3 (by omega)
        have y4 : Hid (wr.cell? ⟨b4, o4 + 4, none⟩ = some p4) := hcp0 4 (by omega)
        have g0 : Hid (wr.cell? ⟨b4, o4 + 5, none⟩ = some q0) := hce0 0 (by omega)
        have g1 : Hid (wr.cell? ⟨b4, o4 + 6, none⟩ = some q1) := hce0 1 (by omega)
        have g2 : Hid (wr.cell? ⟨b4, o4 + 7, none⟩ = some q2) := hce0 2 (by omega)
        have g3 : Hid (wr.cell? ⟨b4, o4 + 8, none⟩ = some q3) := hce0 3 (by omega)
        have g4 : Hid (wr.cell? ⟨b4, o4 + 9, none⟩ = some q4) := hce0 4 (by omega)
        clear hcp0 hce0 hinp hine h50 h51 hkid hsh
        go_wp2_with (first
          | (refine store_T _ rfl _ _ rfl _ #[.int .u8 18, .string ss, .int .i64 ns, .int .i64 ps, .slice (some ⟨b4, o4, none⟩) 2 cq] _ rfl rfl tz rfl rfl hone ?_; intro w1 t1 u1; have V1 : Hid (Upd [] wr w1) := HUZ.out.then u1 (by simp); have T1 : Hid (Tb w1 wr.heap.size #[.int .u8 18, .string ss, .int .i64 ns, .int .i64 ps, .slice (some ⟨b4, o4, none⟩) 2 cq]) := t1; have z0 : w1.cell? ⟨wr.heap.size, 0, none⟩ = some (.int .u8 18) := t1.cell 0; have z4 : w1.cell? ⟨wr.heap.size, 4, none⟩ = some (.slice (some ⟨b4, o4, none⟩) 2 cq) := t1.cell 4
             have j0 : w1.cell? ⟨b4, o4 + 5, none⟩ = some q0 := (V1.out.cell (cell_lt g0.out) (by simp)).trans g0.out
             have j1 : w1.cell? ⟨b4, o4 + 6, none⟩ = some q1 := (V1.out.cell (cell_lt g1.out) (by simp)).trans g1.out
             have j2 : w1.cell? ⟨b4, o4 + 7, none⟩ = some q2 := (V1.out.cell (cell_lt g2.out) (by simp)).trans g2.out
             have j3 : w1.cell? ⟨b4, o4 + 8, none⟩ = some q3 := (V1.out.cell (cell_lt g3.out) (by simp)).trans g3.out
             have j4 : w1.cell? ⟨b4, o4 + 9, none⟩ = some q4 := (V1.out.cell (cell_lt g4.out) (by simp)).trans g4.out)
          | fail)
        refine Calls.mono (IH.out w1 _ e (NIn.mono V1.out _ _ _ HI2.out) K2.out bc bf bm b bs fi r (HCi.out.mono V1.out)) ?_
        rintro e' w2 hret
        have hret : Ret (exprF hs e 0 r fi) bm w1 e' w2 := hret
        obtain ⟨hu2, hm2⟩ := hret
        have UR : Hid (Upd [bm] wr w2) := V1.out.into.trans hu2
        have UA2 : Hid (Upd [bm] (w.alloc (.cells #[.int .u8 k, .string s, .int .i64 num, .int .i64 pos, .slice (some ⟨b2, o, none⟩) (L.length + 1) c] 29)) w2) := HUA.out.trans UR.out
        have U2 : Hid (Upd [bm] w w2) := U1.out.into.trans UA2.out
        have t2 := (HNi.out.mono V1.out (by simp)).keepBlock hu2 T1.out
        have z4' : w2.cell? ⟨wr.heap.size, 4, none⟩ = some (.slice (some ⟨b4, o4, none⟩) 2 cq) := cell_of_row _ _ 4 _ _ _ t2
        clear hu2 t1 u1 V1 T1 t2 tz HUZ x0 x1 x2 x3 x4 z0 z4 j0 j1 j2 j3 j4 g0 g1 g2 g3 g4 HIN HU HUA
        cases hpf : exprF hs e 0 r fi with
        | error x =>
          have HPE : stepsF hs L r f = .error x := by rw [HPX.out, hpf]
          rw [hpf] at hm2
          have hm3 : e' = .panicked [{ v := .iface 33 (.agg #[.int .i64 x.1, .int .i64 x.2]), recovered := false }] := hm2
          subst hm3
          have HP3 : Hid (stepsF hs L r f = .error x) := HPE
          have HG3 : Hid (G = .error x) := by rw [HGG.out, compF, HP3.out]; rfl
          clear hm2 hpf HP3 HP2'
          go_wp2_with fail
          exact ⟨rfl, ret_err HG3.out U2.out⟩
        | ok f' =>
          rw [hpf] at hm2
          obtain ⟨⟨u, rfl⟩, hn2⟩ := hm2
          have HPY : Hid (stepsF hs L r f = (match patF r p f' with | .ok f' => stepsF hs (L.drop (q + 1)) r f' | .error e => .error e)) := by rw [HPX.out, hpf]; rfl
          have N2 : Hid (NmIs w2 bm f') := hn2
          have j0 : w2.cell? ⟨b4, o4, none⟩ = some p0 := HNi.out.cell UR.out y0.out
          have j1 : w2.cell? ⟨b4, o4 + 1, none⟩ = some p1 := HNi.out.cell UR.out y1.out
          have j2 : w2.cell? ⟨b4, o4 + 2, none⟩ = some p2 := HNi.out.cell UR.out y2.out
          have j3 : w2.cell? ⟨b4, o4 + 3, none⟩ = some p3 := HNi.out.cell UR.out y3.out
          have j4 : w2.cell? ⟨b4, o4 + 4, none⟩ = some p4 := HNi.out.cell UR.out y4.out
          clear hn2 hpf HPX
          go_wp2_with fail
          refine Calls.mono (pattern_in (d + 1) w2 _ p (NIn.keep HNi.out UR.out _ _ _ HI1.out) K1.out.1 bm b bs f' r (HCi.out.upd UR.out N2.out).ch) ?_
          rintro e' w3 ⟨hu3, hm2⟩
          have UA3 : Hid (Upd [bm] (w.alloc (.cells #[.int .u8 k, .string s, .int .i64 num, .int .i64 pos, .slice (some ⟨b2, o, none⟩) (L.length + 1) c] 29)) w3) := UA2.out.trans hu3
          have U3 : Hid (Upd [bm] w w3) := U1.out.into.trans UA3.out
          clear hu3 j0 j1 j2 j3 j4 z4' UR HCi HNi
          cases hpf : patF r p f' with
          | error x =>
            have HPE : stepsF hs L r f = .error x := by rw [HPY.out, hpf]
            rw [hpf] at hm2
            have hm3 : e' = .panicked [{ v := .iface 33 (.agg #[.int .i64 x.1, .int .i64 x.2]), recovered := false }] := hm2
            subst hm3
            have HP3 : Hid (stepsF hs L r f = .error x) := HPE
            have HG3 : Hid (G = .error x) := by rw [HGG.out, compF, HP3.out]; rfl
            clear hm2 hpf HP3 HP2'
            go_wp2_with fail
            exact ⟨rfl, ret_err HG3.out U3.out⟩
          | ok f3 =>
            rw [hpf] at hm2
            obtain ⟨⟨u, rfl⟩, hn3⟩ := hm2
            have HP3 : Hid (stepsF hs L r f = stepsF hs (L.drop (q + 1)) r f3) := by rw [HPY.out, hpf]; rfl
            have N3 : Hid (NmIs w3 bm f3) := hn3
            clear hn3 hpf HPY
            go_wp2_with fail
            go_roundw
            case rel => exact ⟨q + 1, f3, by omega, by go_num, HP3, UA3.out, N3.out⟩
            case measure => simp [intOf]; omega
      · have e18 : (ks == 18) = false := by simp [h18]
        have e18' : (ks != 18) = true := by simp [h18]
        have HPX : Hid (stepsF hs L r f = (match exprF hs (.mk ks ss ns ps Ks) 0 r fi with | .ok f' => stepsF hs (L.drop (q + 1)) r f' | .error e => .error e)) := by rw [HP2'.out, exprF_step h18]; rfl
        go_wp2_with (first
          | (refine store_T _ rfl _ _ rfl _ #[.int .u8 ks, .string ss, .int .i64 ns, .int .i64 ps, .slice aq Ks.length cq] _ rfl rfl tz rfl rfl hone ?_; intro w1 t1 u1; have V1 : Hid (Upd [] wr w1) := HUZ.out.then u1 (by simp); have y0 : w1.cell? ⟨wr.heap.size, 0, none⟩ = some (.int .u8 ks) := t1.cell 0)
          | (refine load_T _ rfl _ rfl _ _ rfl t1 rfl ?_)
          | fail)
        refine Calls.mono (IH.out w1 _ _ (NIn.mono V1.out _ _ _ HIN.out) HQ.out bc bf bm b bs fi r (HCi.out.mono V1.out)) ?_
        rintro e' w2 hret
        have hret : Ret (exprF hs (.mk ks ss ns ps Ks) 0 r fi) bm w1 e' w2 := hret
        obtain ⟨hu2, hm2⟩ := hret
        have UA2 : Hid (Upd [bm] (w.alloc (.cells #[.int .u8 k, .string s, .int .i64 num, .int .i64 pos, .slice (some ⟨b2, o, none⟩) (L.length + 1) c] 29)) w2) := (HUA.out.trans V1.out.into).trans hu2
        have U2 : Hid (Upd [bm] w w2) := U1.out.into.trans UA2.out
        clear hu2 t1 u1 V1 tz HUZ x0 x1 x2 x3 x4 y0 HIN HRQ HNi HU HUA HCi
        cases hpf : exprF hs (.mk ks ss ns ps Ks) 0 r fi with
        | ok f' =>
          rw [hpf] at hm2
          obtain ⟨⟨u, rfl⟩, hn2⟩ := hm2
          have HP3 : Hid (stepsF hs L r f = stepsF hs (L.drop (q + 1)) r f') := by rw [HPX.out, hpf]; rfl
          have N2 : Hid (NmIs w2 bm f') := hn2
          clear hn2 hpf HPX HP2'
          go_wp2_with fail
          go_roundw
          case rel => exact ⟨q + 1, f', by omega, by go_num, HP3, UA2.out, N2.out⟩
          case measure => simp [intOf]; omega
        | error x =>
          have HPE : stepsF hs L r f = .error x := by rw [HPX.out, hpf]
          rw [hpf] at hm2
          have hm3 : e' = .panicked [{ v := .iface 33 (.agg #[.int .i64 x.1, .int .i64 x.2]), recovered := false }] := hm2
          subst hm3
          have HP3 : Hid (stepsF hs L r f = .error x) := HPE
          have HG3 : Hid (G = .error x) := by rw [HGG.out, compF, HP3.out]; rfl
          clear hm2 hpf HP3 HP2'
          go_wp2_with fail
          exact ⟨rfl, ret_err HG3.out U2.out⟩
    · have hd : decide ((q : Int) < (L.length : Int)) = false := by simp; omega
      have hqe : q = L.length := by omega
      have HP3 : Hid (stepsF hs L r f = .ok fi) := by
        have := HP.out
        rw [hqe, List.drop_length, stepsF] at this
        exact this
      have HGf : Hid (G = exprF hs n 0 r fi) := by rw [HGG.out, compF, HP3.out]; rfl
      have z4 : wr.cell? ⟨w.heap.size, 4, none⟩ = some (.slice (some ⟨b2, o, none⟩) (L.length + 1) c) := cell_of_row _ _ 4 _ _ _ (N1.out.keepBlock HUA.out T0.out)
      have p0 : wr.cell? ⟨b2, o, none⟩ = some c0 := HN.out.cell HU.out hx0.out
      have p1 : wr.cell? ⟨b2, o + 1, none⟩ = some c1 := HN.out.cell HU.out hx1.out
      have p2 : wr.cell? ⟨b2, o + 2, none⟩ = some c2 := HN.out.cell HU.out hx2.out
      have p3 : wr.cell? ⟨b2, o + 3, none⟩ = some c3 := HN.out.cell HU.out hx3.out
      have p4 : wr.cell? ⟨b2, o + 4, none⟩ = some c4 := HN.out.cell HU.out hx4.out
      go_wp2_with fail
      refine Calls.mono (IH.out _ _ n (NIn.keep HN.out HU.out _ _ _ HI0.out) K0.out bc bf bm b bs fi r (HC.out.upd HU.out HNi.out)) ?_
      rintro e w9 hret
      have hret : Ret (exprF hs n 0 r fi) bm _ e w9 := hret
      obtain ⟨hu9, hm9⟩ := hret
      have U9 : Hid (Upd [bm] w w9) := HU.out.trans hu9
      clear hu9 p0 p1 p2 p3 p4
      cases hpf : exprF hs n 0 r fi with
      | ok f9 =>
        rw [hpf] at hm9
        obtain ⟨⟨u, rfl⟩, hn9⟩ := hm9
        have HG3 : Hid (G = .ok f9) := HGf.out.trans hpf
        have N9 : Hid (NmIs w9 bm f9) := hn9
        clear hn9 hpf
        go_wp2_with fail
        exact bodyPost_end (results_none rfl _ _ _) rfl (ret_ok HG3.out U9.out N9.out)
      | error x =>
        rw [hpf] at hm9
        have hm3 : e = .panicked [{ v := .iface 33 (.agg #[.int .i64 x.1, .int .i64 x.2]), recovered := false }] := hm9
        subst hm3
        have HG3 : Hid (G = .error x) := HGf.out.trans hpf
        clear hm9 hpf
        go_wp2_with fail
        exact ⟨rfl, ret_err HG3.out U9.out⟩

set_option maxHeartbeats 4000000 in
set_option maxRecDepth 100000 in
theorem comp_one (hs : ByteArray → Int → Bool) (d : Nat) (IH : Hid (XS 54 hs (fun t r f => exprF hs t 0 r f) shI d)) (w : World) (k num pos : Int) (s : ByteArray) (n : Nd) (b2 o : Nat) (c0 c1 c2 c3 c4 : Value) (hx0 : Hid (w.cell? ⟨b2, o, none⟩ = some c0)) (hx1 : Hid (w.cell? ⟨b2, o + 1, none⟩ = some c1)) (hx2 : Hid (w.cell? ⟨b2, o + 2, none⟩ = some c2)) (hx3 : Hid (w.cell? ⟨b2, o + 3, none⟩ = some c3)) (hx4 : Hid (w.cell? ⟨b2, o + 4, none⟩ = some c4)) (HI0 : Hid (NIn w d [c0, c1, c2, c3, c4] n)) (K0 : Hid (Okk shI n)) (bc bf bm b : Nat) (bs : List Nat) (f : Fr) (r : List Fr) (HC : Hid (Ctx w bc bf hs bm b bs f r)) (HN : Hid (NmIs w bm f)) (G : Except Flt Fr) (HGG : Hid (G = compF hs [n] r f)) :
    Calls Tryd.prog 66 #[.pointer (some ⟨bc, 0, none⟩), .agg #[.int .u8 k, .string s, .int .i64 num, .int .i64 pos, .slice (some ⟨b2, o, none⟩) 1 1], .pointer (some ⟨b, 0, none⟩)] w (Ret G bm w) := by
  have U1 : Hid (Upd [] w (w.alloc (.cells #[.int .u8 k, .string s, .int .i64 num, .int .i64 pos, .slice (some ⟨b2, o, none⟩) 1 1] 29))) := (Upd.refl [] w).alloc _
  have T0 : Hid (Tb (w.alloc (.cells #[.int .u8 k, .string s, .int .i64 num, .int .i64 pos, .slice (some ⟨b2, o, none⟩) 1 1] 29)) w.heap.size #[.int .u8 k, .string s, .int .i64 num, .int .i64 pos, .slice (some ⟨b2, o, none⟩) 1 1]) := Tb.new _ _ _ rfl
  have N1 : Hid (NmIs (w.alloc (.cells #[.int .u8 k, .string s, .int .i64 num, .int .i64 pos, .slice (some ⟨b2, o, none⟩) 1 1] 29)) bm f) := HN.out.mono U1.out (by simp)
  have hc1 : (1 : Int) ≤ ((1 : Nat) : Int) := by omega
  have hc2 : ((1 : Nat) : Int) ≤ ((1 : Nat) : Int) := by omega
  go_enter Tryd.func66, Tryd.ntmps66
  go_wp2_with fail
  refine wp_loop_rounds 1 ?_
  rw [rounds_succ]
  have HGf : Hid (G = exprF hs n 0 r f) := by rw [HGG.out, compF, stepsF]; rfl
  have z4 : (w.alloc (.cells #[.int .u8 k, .string s, .int .i64 num, .int .i64 pos, .slice (some ⟨b2, o, none⟩) 1 1] 29)).cell? ⟨w.heap.size, 4, none⟩ = some (.slice (some ⟨b2, o, none⟩) 1 1) := cell_of_row _ _ 4 _ _ _ T0.out
  have HU : Hid (Upd [bm] w (w.alloc (.cells #[.int .u8 k, .string s, .int .i64 num, .int .i64 pos, .slice (some ⟨b2, o, none⟩) 1 1] 29))) := U1.out.into
  have p0 : (w.alloc (.cells #[.int .u8 k, .string s, .int .i64 num, .int .i64 pos, .slice (some ⟨b2, o, none⟩) 1 1] 29)).cell? ⟨b2, o, none⟩ = some c0 := HN.out.cell HU.out hx0.out
  have p1 : (w.alloc (.cells #[.int .u8 k, .string s, .int .i64 num, .int .i64 pos, .slice (some ⟨b2, o, none⟩) 1 1] 29)).cell? ⟨b2, o + 1, none⟩ = some c1 := HN.out.cell HU.out hx1.out
  have p2 : (w.alloc (.cells #[.int .u8 k, .string s, .int .i64 num, .int .i64 pos, .slice (some ⟨b2, o, none⟩) 1 1] 29)).cell? ⟨b2, o + 2, none⟩ = some c2 := HN.out.cell HU.out hx2.out
  have p3 : (w.alloc (.cells #[.int .u8 k, .string s, .int .i64 num, .int .i64 pos, .slice (some ⟨b2, o, none⟩) 1 1] 29)).cell? ⟨b2, o + 3, none⟩ = some c3 := HN.out.cell HU.out hx3.out
  have p4 : (w.alloc (.cells #[.int .u8 k, .string s, .int .i64 num, .int .i64 pos, .slice (some ⟨b2, o, none⟩) 1 1] 29)).cell? ⟨b2, o + 4, none⟩ = some c4 := HN.out.cell HU.out hx4.out
  go_wp2_with fail
  refine Calls.mono (IH.out _ _ n (NIn.keep HN.out HU.out _ _ _ HI0.out) K0.out bc bf bm b bs f r (HC.out.upd HU.out N1.out)) ?_
  rintro e w9 hret
  have hret : Ret (exprF hs n 0 r f) bm _ e w9 := hret
  obtain ⟨hu9, hm9⟩ := hret
  have U9 : Hid (Upd [bm] w w9) := HU.out.trans hu9
  clear hu9 p0 p1 p2 p3 p4
  cases hpf : exprF hs n 0 r f with
  | ok f9 =>
    rw [hpf] at hm9
    obtain ⟨⟨u, rfl⟩, hn9⟩ := hm9
    have HG3 : Hid (G = .ok f9) := HGf.out.trans hpf
    have N9 : Hid (NmIs w9 bm f9) := hn9
    clear hn9 hpf
    go_wp2_with fail
    exact bodyPost_end (results_none rfl _ _ _) rfl (ret_ok HG3.out U9.out N9.out)
  | error x =>
    rw [hpf] at hm9
    have hm3 : e = .panicked [{ v := .iface 33 (.agg #[.int .i64 x.1, .int .i64 x.2]), recovered := false }] := hm9
    subst hm3
    have HG3 : Hid (G = .error x) := HGf.out.trans hpf
    clear hm9 hpf
    go_wp2_with fail
    exact ⟨rfl, ret_err HG3.out U9.out⟩

/-- The check of a comprehension. -/
theorem comprehension_in (hs : ByteArray → Int → Bool) (d : Nat) (ih : XS 54 hs (fun t r f => exprF hs t 0 r f) shI d) (w : World) (cs : List Value) (k num pos : Int) (s : ByteArray) (K : List Nd) (hin : NIn w (d + 1) cs (.mk k s num pos K)) (ho1 : nsz (.mk k s num pos K) ≤ 2199023255488) (ho2 : sh17 K = true) (ho3 : thru callOk (.mk k s num pos K) = true) (bc bf bm b : Nat) (bs : List Nat) (f : Fr) (r : List Fr) (hC : Ctx w bc bf hs bm b bs f r) :
    Calls Tryd.prog 66 #[.pointer (some ⟨bc, 0, none⟩), .agg cs.toArray, .pointer (some ⟨b, 0, none⟩)] w (Ret (compF hs K r f) bm w) := by
  obtain ⟨a, c, rfl, hR, hcp⟩ := hin
  obtain ⟨hs0, hkid⟩ := kid_ok ho1 ho3
  match K, hR, hcp, hs0, hkid, ho2 with
  | [], _, _, _, _, ho2 => exact absurd ho2 (by simp [sh17])
  | n :: L, hR, hcp, hs0, hkid, ho2 =>
    rw [sh17, Bool.and_eq_true] at ho2
    obtain ⟨b2, o, hae, cs0, h50, hcell, hin0⟩ := hR.atK 0 (by simp)
    subst hae
    have hc0 : ∀ j, j < 5 → w.cell? ⟨b2, o + j, none⟩ = cs0[j]? := fun j hj => by
      have := hcell j hj
      simpa using this
    obtain ⟨c0, c1, c2, c3, c4, rfl⟩ := list5 h50
    have hx0 : w.cell? ⟨b2, o, none⟩ = some c0 := hc0 0 (by omega)
    have K0 : Okk shI n := ⟨(hkid 0 (by simp)).1, ho2.1, (hkid 0 (by simp)).2⟩
    by_cases hc1 : c = 1
    · subst hc1
      cases L with
      | nil => exact comp_one hs d ih w k num pos s n b2 o c0 c1 c2 c3 c4 hx0 (hc0 1 (by omega)) (hc0 2 (by omega)) (hc0 3 (by omega)) (hc0 4 (by omega)) hin0 K0 bc bf bm b bs f r hC hC.nm _ rfl
      | cons x L => simp at hcp
    · exact comp_many hs d ih w k num pos s n L b2 o c (by simpa using hcp.1) hcp.2 c0 c1 c2 c3 c4 hx0 (hc0 1 (by omega)) (hc0 2 (by omega)) (hc0 3 (by omega)) (hc0 4 (by omega)) hin0 K0 hR.tail (by simp at hs0; omega) (fun i hi => ⟨(hkid (i + 1) (by simpa using hi)).1, shIs_get L ho2.2 i hi, (hkid (i + 1) (by simpa using hi)).2⟩) bc bf bm b bs f r hC hC.nm _ rfl hc1

end Go.Proofs.YtpgjcedonimgnaaDoor
