/- lint's clause, of whatever trees. -/
import Derived.Test.YtpgjcedonimgnaaDoorJAO
namespace Go.Proofs.YtpgjcedonimgnaaDoor
open Go.RowKit

theorem rowsF_at (r : List Fr) (K : List Nd) (q : Nat) (hq : q < K.length) : rowsF r (K.drop q) = (match grdsF r K[q].kids with | some e => some e | none => rowsF r (K.drop (q + 1))) := by
  rw [List.drop_eq_getElem_cons hq, rowsF]
  cases grdsF r K[q].kids <;> rfl

theorem RowN.keep {w w' : World} {bm : Nat} {f : Fr} (hN : NmIs w bm f) (hu : Upd [bm] w w') (d : Nat) (a : Option Addr) (K : List Nd) (h : RowN (NIn w d) w a K) : RowN (NIn w' d) w' a K := by
  rcases h with h | ⟨b, o, e, hlt, hc⟩
  · exact Or.inl h
  · refine Or.inr ⟨b, o, e, Nat.lt_of_lt_of_le hlt hu.size, fun i hi => ?_⟩
    obtain ⟨cs, k1, k2, k3⟩ := hc i hi
    refine ⟨cs, k1, fun j hj => ?_, NIn.keep hN hu _ _ _ k3⟩
    have := k2 j hj
    rw [List.getElem?_eq_getElem (by omega)] at this ⊢
    exact hN.cell hu this

set_option maxHeartbeats 8000000 in
set_option maxRecDepth 100000 in
theorem clause_in (hs : ByteArray → Int → Bool) (d : Nat) (ih : XS 41 hs (bodyF hs) shB (d + 1)) : XS 31 hs (clauseF hs) shC (d + 2) := by
  intro w cs t hin hok bc bf bm b bs f r hC
  obtain ⟨k, s, num, pos, K⟩ := t
  obtain ⟨a, c, rfl, hR, hcp⟩ := hin
  obtain ⟨o1, o2, o3⟩ := hok
  obtain ⟨hs0, hkid⟩ := kid_ok o1 o3
  have HC : Hid (Ctx w bc bf hs bm b bs f r) := hC
  have HN : Hid (NmIs w bm f) := hC.nm
  obtain ⟨G, hG⟩ : ∃ G, G = clauseF hs (.mk k s num pos K) r f := ⟨_, rfl⟩
  rw [← hG]
  have HGa : Hid (G = clauseF hs (.mk k s num pos K) r f) := hG
  clear hG hC
  match K, hR, hkid, o2, HGa with
  | [], _, _, o2, _ => simp [shC] at o2
  | [_], _, _, o2, _ => simp [shC] at o2
  | [_, _], _, _, o2, _ => simp [shC] at o2
  | _ :: _ :: _ :: _ :: _, _, _, o2, _ => simp [shC] at o2
  | [P, Gd, B], hR, hkid, o2, HGa =>
    rw [shC, Bool.and_eq_true, Bool.and_eq_true] at o2
    obtain ⟨bk, ok, hae, cs0, h50, hcell0, hin0⟩ := hR.atK 0 (by simp)
    cases hae
    obtain ⟨_, _, hae, cs1, h51, hcell1, hin1⟩ := hR.atK 1 (by simp)
    cases hae
    obtain ⟨_, _, hae, cs2, h52, hcell2, hin2⟩ := hR.atK 2 (by simp)
    cases hae
    have K0 := hkid 0 (by simp)
    have K1 := hkid 1 (by simp)
    have K2 := hkid 2 (by simp)
    simp only [List.getElem_cons_zero, List.getElem_cons_succ] at hin0 hin1 hin2 K0 K1 K2
    obtain ⟨kP, sP, nP, pP, PK⟩ := P
    obtain ⟨kG, sG, nG, pG, GK⟩ := Gd
    obtain ⟨aP, cP, rfl, hRP, _⟩ := hin0
    obtain ⟨aG, cG, rfl, hRG, _⟩ := hin1
    have HKB : Hid (Okk shB B) := ⟨K2.1, o2.2.2, K2.2⟩
    have HIB : Hid (NIn w (d + 1) cs2 B) := hin2
    obtain ⟨hsP, hkP⟩ := kid_ok K0.1 K0.2
    obtain ⟨hsG, hkG⟩ := kid_ok K1.1 K1.2
    have HKP : Hid (∀ i (hi : i < PK.length), nsz PK[i] ≤ 2199023255488) := fun i hi => (hkP i hi).1
    have HKG : Hid (∀ i (hi : i < GK.length), nsz GK[i] ≤ 2199023255488 ∧ thru callOk GK[i] = true) := hkG
    have HRP : Hid (RowN (NIn w d) w aP PK) := hRP
    have HRG : Hid (RowN (NIn w d) w aG GK) := hRG
    have HG0 : Hid (G = (match patsF r PK f with | .error e => .error e | .ok f' => match rowsF (f' :: r) GK with | some e => .error e | none => bodyF hs B r f')) := by
      show G = _
      rw [HGa.out, clauseF]
      simp only [Nd.kids]
      cases patsF r PK f with
      | error e => rfl
      | ok f' => cases rowsF (f' :: r) GK <;> rfl
    obtain ⟨q0', q1', q2', q3', q4', rfl⟩ := list5 h52
    have U1 : Hid (Upd [] w (w.alloc (.cells #[.int .u8 k, .string s, .int .i64 num, .int .i64 pos, .slice (some ⟨bk, ok, none⟩) 3 c] 29))) := (Upd.refl [] w).alloc _
    have TN : Hid (Tb (w.alloc (.cells #[.int .u8 k, .string s, .int .i64 num, .int .i64 pos, .slice (some ⟨bk, ok, none⟩) 3 c] 29)) w.heap.size #[.int .u8 k, .string s, .int .i64 num, .int .i64 pos, .slice (some ⟨bk, ok, none⟩) 3 c]) := Tb.new _ _ _ rfl
    have HCL : Hid (∀ j v, w.cell? ⟨bk, ok + j, none⟩ = some v → ∀ W, Upd [bm] w W → W.cell? ⟨bk, ok + j, none⟩ = some v) := fun j v e W hW => HN.out.cell hW e
    have y9 : Hid (w.cell? ⟨bk, ok + 9, none⟩ = some (.slice aG GK.length cG)) := hcell1 4 (by omega)
    have yA : Hid (w.cell? ⟨bk, ok + 10, none⟩ = some q0') := hcell2 0 (by omega)
    have yB : Hid (w.cell? ⟨bk, ok + 11, none⟩ = some q1') := hcell2 1 (by omega)
    have yC : Hid (w.cell? ⟨bk, ok + 12, none⟩ = some q2') := hcell2 2 (by omega)
    have yD : Hid (w.cell? ⟨bk, ok + 13, none⟩ = some q3') := hcell2 3 (by omega)
    have yE : Hid (w.cell? ⟨bk, ok + 14, none⟩ = some q4') := hcell2 4 (by omega)
    have z4 : (w.alloc (.cells #[.int .u8 k, .string s, .int .i64 num, .int .i64 pos, .slice (some ⟨bk, ok, none⟩) 3 c] 29)).cell? ⟨bk, ok + 4, none⟩ = some (.slice aP PK.length cP) := HCL.out 4 _ (hcell0 4 (by omega)) _ U1.out.into
    have IH : Hid (XS 41 hs (bodyF hs) shB (d + 1)) := ih
    clear hcell0 hcell1 hcell2 hin2 hR hkid o1 o2 o3 ih K0 K1 K2 hRP hRG hkP hkG h50 h51 h52 HGa hcp
    go_enter Tryd.func31, Tryd.ntmps31
    go_wp2_with fail
    obtain ⟨w0, hw0⟩ : ∃ w0, w0 = w.alloc (.cells #[.int .u8 k, .string s, .int .i64 num, .int .i64 pos, .slice (some ⟨bk, ok, none⟩) 3 c] 29) := ⟨_, rfl⟩
    rw [← hw0] at U1 TN z4 ⊢
    clear hw0
    have HC0 : Hid (Ctx w0 bc bf hs bm b bs f r) := HC.out.mono U1.out
    have HN0 : Hid (NmIs w0 bm f) := HN.out.mono U1.out (by simp)
    have HRP0 : Hid (RowN (NIn w0 d) w0 aP PK) := HRP.out.imp U1.out (NIn.mono U1.out d)
    have HRG0 : Hid (RowN (NIn w0 d) w0 aG GK) := HRG.out.imp U1.out (NIn.mono U1.out d)
    have HIB0 : Hid (NIn w0 (d + 1) [q0', q1', q2', q3', q4'] B) := NIn.mono U1.out _ _ _ HIB.out
    have HCL0 : Hid (∀ W, Upd [bm] w0 W → W.cell? ⟨bk, ok + 9, none⟩ = some (.slice aG GK.length cG) ∧ W.cell? ⟨bk, ok + 10, none⟩ = some q0' ∧ W.cell? ⟨bk, ok + 11, none⟩ = some q1' ∧ W.cell? ⟨bk, ok + 12, none⟩ = some q2' ∧ W.cell? ⟨bk, ok + 13, none⟩ = some q3' ∧ W.cell? ⟨bk, ok + 14, none⟩ = some q4') := fun W hW =>
      ⟨HCL.out 9 _ y9.out W (U1.out.into.trans hW), HCL.out 10 _ yA.out W (U1.out.into.trans hW), HCL.out 11 _ yB.out W (U1.out.into.trans hW), HCL.out 12 _ yC.out W (U1.out.into.trans hW), HCL.out 13 _ yD.out W (U1.out.into.trans hW), HCL.out 14 _ yE.out W (U1.out.into.trans hW)⟩
    clear z4 HC HN HRP HRG HIB HCL y9 yA yB yC yD yE
    go_loopw [18] (fun i wr => ∃ (q : Nat) (fi : Fr), q ≤ PK.length ∧ i = .int .i64 q ∧ Hid (patsF r PK f = patsF r (PK.drop q) fi) ∧ Upd [bm] w0 wr ∧ NmIs wr bm fi) (fun i _ => PK.length - (intOf i).toNat)
    case atStart => exact ⟨0, f, Nat.zero_le _, rfl, rfl, Upd.refl _ _, HN0.out⟩
    case round =>
      obtain ⟨q, fi, hq, rfl, HP, hu, hn⟩ := hrel
      have HU : Hid (Upd [bm] w0 wr) := hu
      have HNi : Hid (NmIs wr bm fi) := hn
      clear hu hn
      by_cases hlt : q < PK.length
      · have i1 : (q : Int) < (PK.length : Int) := by omega
        obtain ⟨b3, o3, hae, cs, hl5, hcell, hin⟩ := HRP0.out.atK q hlt
        cases hae
        have hone := hin.one
        have hin' := NIn.keep HN0.out HU.out _ _ _ hin
        have hc5 : ∀ j, j < 5 → wr.cell? ⟨b3, o3 + (q * 5 + j), none⟩ = cs[j]? := fun j hj => by
          have := hcell j hj
          rw [List.getElem?_eq_getElem (by omega)] at this ⊢
          exact HN0.out.cell HU.out this
        obtain ⟨q0, q1, q2, q3, q4, rfl⟩ := list5 hl5
        have x0 : wr.cell? ⟨b3, o3 + q * 5, none⟩ = some q0 := hc5 0 (by omega)
        have x1 : wr.cell? ⟨b3, o3 + q * 5 + 1, none⟩ = some q1 := hc5 1 (by omega)
        have x2 : wr.cell? ⟨b3, o3 + q * 5 + 2, none⟩ = some q2 := hc5 2 (by omega)
        have x3 : wr.cell? ⟨b3, o3 + q * 5 + 3, none⟩ = some q3 := hc5 3 (by omega)
        have x4 : wr.cell? ⟨b3, o3 + q * 5 + 4, none⟩ = some q4 := hc5 4 (by omega)
        have HIN : Hid (NIn wr d [q0, q1, q2, q3, q4] PK[q]) := hin'
        have HCi : Hid (Ctx wr bc bf hs bm b bs fi r) := HC0.out.upd HU.out HNi.out
        have tz : Tb (wr.alloc (.cells #[.int .u8 0, .string ⟨#[]⟩, .int .i64 0, .int .i64 0, .slice none 0 0] 29)) wr.heap.size #[.int .u8 0, .string ⟨#[]⟩, .int .i64 0, .int .i64 0, .slice none 0 0] := Tb.new _ _ _ rfl
        have HUZ : Hid (Upd [] wr (wr.alloc (.cells #[.int .u8 0, .string ⟨#[]⟩, .int .i64 0, .int .i64 0, .slice none 0 0] 29))) := (Upd.refl [] wr).alloc _
        clear hc5 hcell hin hin'
        go_wp2_with (first
          | (refine store_T _ rfl _ _ rfl _ #[q0, q1, q2, q3, q4] _ rfl rfl tz rfl rfl hone ?_; intro w1 t1 u1; have V1 : Hid (Upd [] wr w1) := HUZ.out.then u1 (by simp))
          | (refine load_T _ rfl _ rfl _ _ rfl t1 rfl ?_)
          | fail)
        refine Calls.mono (pattern_in d w1 _ _ (NIn.mono V1.out _ _ _ HIN.out) (HKP.out q hlt) bm b bs fi r (HCi.out.mono V1.out).ch) ?_
        rintro e w2 hret
        have hret : Ret (patF r PK[q] fi) bm w1 e w2 := hret
        obtain ⟨hu2, hm2⟩ := hret
        have U2 : Hid (Upd [bm] w0 w2) := (HU.out.trans V1.out.into).trans hu2
        have HP2 := HP.out
        rw [patsF_at r PK q hlt] at HP2
        clear hu2 t1 u1 V1 tz HUZ x0 x1 x2 x3 x4 HIN HNi HU HCi
        cases hpf : patF r PK[q] fi with
        | ok f' =>
          rw [hpf] at hm2 HP2
          obtain ⟨⟨u, rfl⟩, hn2⟩ := hm2
          have HP3 : Hid (patsF r PK f = patsF r (PK.drop (q + 1)) f') := HP2
          have N2 : Hid (NmIs w2 bm f') := hn2
          clear hn2 HP2 hpf HP
          go_wp2_with fail
          go_roundw
          case rel => exact ⟨q + 1, f', by omega, by go_num, HP3, U2.out, N2.out⟩
          case measure => simp [intOf]; omega
        | error x =>
          rw [hpf] at hm2 HP2
          have hm3 : e = .panicked [{ v := .iface 33 (.agg #[.int .i64 x.1, .int .i64 x.2]), recovered := false }] := hm2
          subst hm3
          have HP3 : Hid (patsF r PK f = .error x) := HP2
          clear hm2 HP2 hpf HP
          go_wp2_with fail
          exact ⟨rfl, ret_err (by rw [HG0.out, HP3.out]) (U1.out.into.trans U2.out)⟩
      · have hd : decide ((q : Int) < (PK.length : Int)) = false := by simp; omega
        have hqe : q = PK.length := by omega
        have HP3 : Hid (patsF r PK f = .ok fi) := by
          have := HP.out
          rw [hqe, List.drop_length, patsF] at this
          exact this
        have HG1 : Hid (G = (match rowsF (fi :: r) GK with | some e => .error e | none => bodyF hs B r fi)) := by
          have := HG0.out
          rw [HP3.out] at this
          exact this
        have TNv : Hid (Tb wr w.heap.size #[.int .u8 k, .string s, .int .i64 num, .int .i64 pos, .slice (some ⟨bk, ok, none⟩) 3 c]) := HN0.out.keepBlock HU.out TN.out
        have Uv : Hid (Upd [bm] w0 wr) := HU
        have HCv : Hid (Ctx wr bc bf hs bm b bs fi r) := HC0.out.upd HU.out HNi.out
        have HRv : Hid (RowN (NIn wr d) wr aG GK) := RowN.keep HN0.out HU.out d aG GK HRG0.out
        have HIBv : Hid (NIn wr (d + 1) [q0', q1', q2', q3', q4'] B) := NIn.keep HN0.out HU.out _ _ _ HIB0.out
        have z4 : wr.cell? ⟨w.heap.size, 4, none⟩ = some (.slice (some ⟨bk, ok, none⟩) 3 c) := cell_of_row _ _ 4 _ _ _ TNv.out
        have z9 := (HCL0.out wr HU.out).1
        clear HP HP3 HG0 HKP HRP0 HNi
        go_wp2_with fail
        obtain ⟨v0, hv0⟩ : ∃ v0, v0 = wr := ⟨_, rfl⟩
        rw [← hv0] at TNv Uv HCv HRv HIBv ⊢
        clear hv0 HU z4 z9 hq hqe hd hlt
        go_loopw [32] (fun i wr => ∃ (q : Nat), q ≤ GK.length ∧ i = .int .i64 q ∧ Hid (rowsF (fi :: r) GK = rowsF (fi :: r) (GK.drop q)) ∧ Upd [] v0 wr) (fun i _ => GK.length - (intOf i).toNat)
        case atStart => exact ⟨0, Nat.zero_le _, rfl, rfl, Upd.refl _ _⟩
        case round =>
          obtain ⟨q, hq, rfl, HP, hu⟩ := hrel
          have HU : Hid (Upd [] v0 wr) := hu
          clear hu
          by_cases hlt : q < GK.length
          · have i1 : (q : Int) < (GK.length : Int) := by omega
            obtain ⟨b3, o3, hae, cs, hl5, hcell, hin⟩ := HRv.out.atK q hlt
            cases hae
            have hone := hin.one
            have hin' := NIn.mono HU.out _ _ _ hin
            have hc5 : ∀ j, j < 5 → wr.cell? ⟨b3, o3 + (q * 5 + j), none⟩ = cs[j]? := fun j hj => by
              have := hcell j hj
              rw [List.getElem?_eq_getElem (by omega)] at this ⊢
              exact (HU.out.cell (cell_lt this) (by simp)).trans this
            have HKq := HKG.out q hlt
            have HP2 := HP.out
            rw [rowsF_at _ GK q hlt] at HP2
            obtain ⟨nd, hnd⟩ : ∃ nd, nd = GK[q] := ⟨_, rfl⟩
            rw [← hnd] at hin' HKq HP2
            clear hnd hin hcell HP
            match d, nd, hin', HKq, HP2 with
            | d + 1, .mk k7 s7 n7 p7 K7, ⟨a7, c7, hcs, hR7, _⟩, HKq, HP2 =>
              subst hcs
              simp only [Nd.kids] at HP2
              obtain ⟨hs7, hk7⟩ := kid_ok HKq.1 HKq.2
              have HP4 : Hid (rowsF (fi :: r) GK = (match grdsF (fi :: r) K7 with | some e => some e | none => rowsF (fi :: r) (GK.drop (q + 1)))) := HP2
              have HR7 : Hid (RowN (NIn wr d) wr a7 K7) := hR7
              have HK7 : Hid (∀ i (hi : i < K7.length), nsz K7[i] ≤ 2199023255488 ∧ thru callOk K7[i] = true) := hk7
              have x0 : wr.cell? ⟨b3, o3 + q * 5, none⟩ = some (.int .u8 k7) := hc5 0 (by omega)
              have x1 : wr.cell? ⟨b3, o3 + q * 5 + 1, none⟩ = some (.string s7) := hc5 1 (by omega)
              have x2 : wr.cell? ⟨b3, o3 + q * 5 + 2, none⟩ = some (.int .i64 n7) := hc5 2 (by omega)
              have x3 : wr.cell? ⟨b3, o3 + q * 5 + 3, none⟩ = some (.int .i64 p7) := hc5 3 (by omega)
              have x4 : wr.cell? ⟨b3, o3 + q * 5 + 4, none⟩ = some (.slice a7 K7.length c7) := hc5 4 (by omega)
              have tz : Tb (wr.alloc (.cells #[.int .u8 0, .string ⟨#[]⟩, .int .i64 0, .int .i64 0, .slice none 0 0] 29)) wr.heap.size #[.int .u8 0, .string ⟨#[]⟩, .int .i64 0, .int .i64 0, .slice none 0 0] := Tb.new _ _ _ rfl
              have HUZ : Hid (Upd [] wr (wr.alloc (.cells #[.int .u8 0, .string ⟨#[]⟩, .int .i64 0, .int .i64 0, .slice none 0 0] 29))) := (Upd.refl [] wr).alloc _
              clear hc5 hR7 hk7 HP2 hl5 hone
              go_wp2_with (first
                | (refine store_T _ rfl _ _ rfl _ #[.int .u8 k7, .string s7, .int .i64 n7, .int .i64 p7, .slice a7 K7.length c7] _ rfl rfl tz rfl rfl (by simp [Value.oneCell']) ?_; intro w1 t1 u1; have V1 : Hid (Upd [] wr w1) := HUZ.out.then u1 (by simp); have z4 : w1.cell? ⟨wr.heap.size, 4, none⟩ = some (.slice a7 K7.length c7) := t1.cell 4)
                | fail)
              have HUv : Hid (Upd [] v0 w1) := HU.out.trans V1.out
              have HR8 : Hid (RowN (NIn w1 d) w1 a7 K7) := HR7.out.imp V1.out (NIn.mono V1.out d)
              clear x0 x1 x2 x3 x4 tz HUZ u1 t1 z4 HR7 V1
              obtain ⟨w8, hw8⟩ : ∃ w8, w8 = w1 := ⟨_, rfl⟩
              rw [← hw8] at HUv HR8 ⊢
              clear hw8
              go_loopw [39] (fun i wq => ∃ (q : Nat), q ≤ K7.length ∧ i = .int .i64 q ∧ Hid (grdsF (fi :: r) K7 = grdsF (fi :: r) (K7.drop q)) ∧ Upd [] w8 wq) (fun i _ => K7.length - (intOf i).toNat)
              case atStart => exact ⟨0, Nat.zero_le _, rfl, rfl, Upd.refl _ _⟩
              case round =>
                obtain ⟨q2, hq2, rfl, HQ, hu⟩ := hrel
                have HUq : Hid (Upd [] w8 wr) := hu
                clear hu
                by_cases hlt2 : q2 < K7.length
                · have i2 : (q2 : Int) < (K7.length : Int) := by omega
                  obtain ⟨b5, o5, hae, cs, hl5, hcell, hin⟩ := HR8.out.atK q2 hlt2
                  cases hae
                  have hone := hin.one
                  have hin' := NIn.mono HUq.out _ _ _ hin
                  have hc5 : ∀ j, j < 5 → wr.cell? ⟨b5, o5 + (q2 * 5 + j), none⟩ = cs[j]? := fun j hj => by
                    have := hcell j hj
                    rw [List.getElem?_eq_getElem (by omega)] at this ⊢
                    exact (HUq.out.cell (cell_lt this) (by simp)).trans this
                  obtain ⟨q0, q1, q2', q3, q4, rfl⟩ := list5 hl5
                  have x0 : wr.cell? ⟨b5, o5 + q2 * 5, none⟩ = some q0 := hc5 0 (by omega)
                  have x1 : wr.cell? ⟨b5, o5 + q2 * 5 + 1, none⟩ = some q1 := hc5 1 (by omega)
                  have x2 : wr.cell? ⟨b5, o5 + q2 * 5 + 2, none⟩ = some q2' := hc5 2 (by omega)
                  have x3 : wr.cell? ⟨b5, o5 + q2 * 5 + 3, none⟩ = some q3 := hc5 3 (by omega)
                  have x4 : wr.cell? ⟨b5, o5 + q2 * 5 + 4, none⟩ = some q4 := hc5 4 (by omega)
                  have HIN : Hid (NIn wr d [q0, q1, q2', q3, q4] K7[q2]) := hin'
                  have tz : Tb (wr.alloc (.cells #[.int .u8 0, .string ⟨#[]⟩, .int .i64 0, .int .i64 0, .slice none 0 0] 29)) wr.heap.size #[.int .u8 0, .string ⟨#[]⟩, .int .i64 0, .int .i64 0, .slice none 0 0] := Tb.new _ _ _ rfl
                  have HUZ : Hid (Upd [] wr (wr.alloc (.cells #[.int .u8 0, .string ⟨#[]⟩, .int .i64 0, .int .i64 0, .slice none 0 0] 29))) := (Upd.refl [] wr).alloc _
                  clear hc5 hcell hin hin'
                  go_wp2_with (first
                    | (refine store_T _ rfl _ _ rfl _ #[q0, q1, q2', q3, q4] _ rfl rfl tz rfl rfl hone ?_; intro w9 t1 u1; have V1 : Hid (Upd [] wr w9) := HUZ.out.then u1 (by simp))
                    | (refine load_T _ rfl _ rfl _ _ rfl t1 rfl ?_)
                    | fail)
                  refine Calls.mono (guard_in d w9 _ _ (NIn.mono V1.out _ _ _ HIN.out) (HK7.out q2 hlt2).1 (HK7.out q2 hlt2).2 (bm :: bs) (fi :: r) (some ⟨b, 0, none⟩) (HCv.out.mono ((HUv.out.trans HUq.out).trans V1.out)).ch (HCv.out.mono ((HUv.out.trans HUq.out).trans V1.out)).env.b) ?_
                  rintro e wA ⟨hu2, hm2⟩
                  have UA : Hid (Upd [] w8 wA) := (HUq.out.trans V1.out).trans hu2
                  have HQ2 := HQ.out
                  rw [grdsF_at _ K7 q2 hlt2] at HQ2
                  clear hu2 t1 u1 V1 tz HUZ x0 x1 x2 x3 x4 HIN HUq
                  cases hpf : grdF (fi :: r) K7[q2] with
                  | none =>
                    rw [hpf] at hm2 HQ2
                    obtain ⟨u, rfl⟩ := hm2
                    have HQ3 : Hid (grdsF (fi :: r) K7 = grdsF (fi :: r) (K7.drop (q2 + 1))) := HQ2
                    clear HQ2 hpf HQ
                    go_wp2_with fail
                    go_roundw
                    case rel => exact ⟨q2 + 1, by omega, by go_num, HQ3, UA.out⟩
                    case measure => simp [intOf]; omega
                  | some x =>
                    rw [hpf] at hm2 HQ2
                    have hm3 : e = .panicked [{ v := .iface 33 (.agg #[.int .i64 x.1, .int .i64 x.2]), recovered := false }] := hm2
                    subst hm3
                    have HQ3 : Hid (G = .error x) := by
                      have h1 := HP4.out
                      have h2 : grdsF (fi :: r) K7 = some x := HQ2
                      rw [h2] at h1
                      have h3 := HG1.out
                      rw [h1] at h3
                      exact h3
                    clear hm2 HQ2 hpf HQ
                    go_wp2_with fail
                    exact ⟨rfl, ret_err HQ3.out ((U1.out.into.trans Uv.out).trans (HUv.out.trans UA.out).into)⟩
                · have hd2 : decide ((q2 : Int) < (K7.length : Int)) = false := by simp; omega
                  have hqe : q2 = K7.length := by omega
                  have HQ3 : Hid (rowsF (fi :: r) GK = rowsF (fi :: r) (GK.drop (q + 1))) := by
                    have h1 := HP4.out
                    have h2 := HQ.out
                    rw [hqe, List.drop_length, grdsF] at h2
                    rw [h2] at h1
                    exact h1
                  have UB : Hid (Upd [] v0 wr) := HUv.out.trans HUq.out
                  go_wp2_with fail
                  go_roundw
                  case rel => exact ⟨q + 1, by omega, by go_num, HQ3, UB.out⟩
                  case measure => simp [intOf]; omega
          · have hd : decide ((q : Int) < (GK.length : Int)) = false := by simp; omega
            have hqe : q = GK.length := by omega
            have HP3 : Hid (G = bodyF hs B r fi) := by
              have h1 := HP.out
              rw [hqe, List.drop_length, rowsF] at h1
              have h3 := HG1.out
              rw [h1] at h3
              exact h3
            have x9 : wr.cell? ⟨w.heap.size, 4, none⟩ = some (.slice (some ⟨bk, ok, none⟩) 3 c) := cell_of_row _ _ 4 _ _ _ ((HU.out.block _ (lt_of_block TNv.out) (by simp)).trans TNv.out)
            obtain ⟨e9, eA, eB, eC, eD, eE⟩ := HCL0.out wr (Uv.out.trans HU.out.into)
            go_wp2_with fail
            refine Calls.mono (IH.out wr _ B (NIn.mono HU.out _ _ _ HIBv.out) HKB.out bc bf bm b bs fi r (HCv.out.mono HU.out)) ?_
            rintro e w2 ⟨hu2, hm2⟩
            have U2 : Hid (Upd [bm] w w2) := ((U1.out.into.trans Uv.out).trans HU.out.into).trans hu2
            clear hu2 x9 e9 eA eB eC eD eE
            cases hpf : bodyF hs B r fi with
            | ok f' =>
              rw [hpf] at hm2
              obtain ⟨⟨u, rfl⟩, hn2⟩ := hm2
              have HG3 : Hid (G = .ok f') := HP3.out.trans hpf
              have N2 : Hid (NmIs w2 bm f') := hn2
              clear hn2 hpf
              go_wp2_with fail
              exact bodyPost_end (results_none rfl _ _ _) rfl (ret_ok HG3.out U2.out N2.out)
            | error x =>
              rw [hpf] at hm2
              have hm3 : e = .panicked [{ v := .iface 33 (.agg #[.int .i64 x.1, .int .i64 x.2]), recovered := false }] := hm2
              subst hm3
              have HG3 : Hid (G = .error x) := HP3.out.trans hpf
              clear hm2 hpf
              go_wp2_with fail
              exact ⟨rfl, ret_err HG3.out U2.out⟩

end Go.Proofs.YtpgjcedonimgnaaDoor
