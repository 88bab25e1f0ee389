/- lint's clauses in a row, blocks: of whatever trees. -/
import Derived.Test.YtpgjcedonimgnaaDoorGmP

namespace Go.Proofs.YtpgjcedonimgnaaDoor
open Go.RowKit

theorem headsF_at (hs : ByteArray → Int → Bool) (r : List Fr) (K : List Nd) (q : Nat) (hq : q < K.length) (f : Fr) : headsF hs (K.drop q) r f = (match clauseF hs K[q] (f :: r) Fr0 with | .ok _ => headsF hs (K.drop (q + 1)) r f | .error e => .error e) := by
  rw [List.drop_eq_getElem_cons hq, headsF]
  cases clauseF hs K[q] (f :: r) Fr0 <;> rfl
theorem choicesF_at (hs : ByteArray → Int → Bool) (r : List Fr) (K : List Nd) (q : Nat) (hq : q < K.length) (f : Fr) : choicesF hs (K.drop q) r f = (match goneR f (clauseF hs K[q] (f :: r) Fr0) with | .ok f' => choicesF hs (K.drop (q + 1)) r f' | .error e => .error e) := by
  rw [List.drop_eq_getElem_cons hq, choicesF]
  cases clauseF hs K[q] (f :: r) Fr0 <;> rfl

set_option maxHeartbeats 2000000 in
set_option maxRecDepth 100000 in
theorem headc_in (hs : ByteArray → Int → Bool) (d : Nat) (ih : XS 31 hs (clauseF hs) shC d) (w : World) (cs : List Value) (t : Nd) (hin : NIn w d cs t) (hok : Okk shC t) (bc bf bm b g3 g7 : Nat) (bs : List Nat) (f : Fr) (r : List Fr) (hC : Ctx w bc bf hs bm b bs f r) (c3 : w.cell? ⟨g3, 0, none⟩ = some (.pointer (some ⟨bc, 0, none⟩))) (t7 : Tb w g7 cs.toArray) :
    PartOk 30 #[.pointer (some ⟨g3, 0, none⟩), .pointer (some ⟨g7, 0, none⟩)] w (bm :: bs) (f :: r) (clauseF hs t (f :: r) Fr0) := by
  intro W mi bi hu hm hCh
  have h5 : cs.toArray.size = 5 := hin.five
  obtain ⟨R, hR⟩ : ∃ R, R = clauseF hs t (f :: r) Fr0 := ⟨_, rfl⟩
  rw [← hR]
  have HK : Hid (Calls Tryd.prog 31 #[.pointer (some ⟨bc, 0, none⟩), .agg cs.toArray, .pointer (some ⟨bi, 0, none⟩)] W (Ret R mi W)) := by
    rw [hR]
    exact ih W cs t (NIn.mono hu _ _ _ hin) hok bc bf mi bi (bm :: bs) Fr0 (f :: r) (hC.inner hu hm hCh)
  have c3' : W.cell? ⟨g3, 0, none⟩ = some (.pointer (some ⟨bc, 0, none⟩)) := (hu.cell (cell_lt c3) (by simp)).trans c3
  have t7' := t7.mono hu (by simp)
  show Calls Tryd.prog 30 #[.pointer (some ⟨bi, 0, none⟩), .pointer (some ⟨g3, 0, none⟩), .pointer (some ⟨g7, 0, none⟩)] W (Ret R mi W)
  clear hR ih hin hok hC c3 t7 hCh hu
  go_enter Tryd.func30, Tryd.ntmps30
  go_wp2_with (first | (refine load_T _ rfl _ rfl _ _ rfl t7' h5 ?_) | fail)
  refine Calls.mono HK.out ?_
  rintro e w1 ⟨hu, hm1⟩
  have HU : Hid (Upd [mi] W w1) := hu
  clear HK hu t7' c3'
  cases R with
  | ok g =>
    obtain ⟨⟨u, rfl⟩, hn⟩ := hm1
    have HN : Hid (NmIs w1 mi g) := hn
    clear hn
    go_wp2_with fail
    exact bodyPost_end (results_none rfl _ _ _) rfl (ret_ok rfl HU.out HN.out)
  | error x =>
    have hm3 : e = .panicked [{ v := .iface 33 (.agg #[.int .i64 x.1, .int .i64 x.2]), recovered := false }] := hm1
    subst hm3
    clear hm1
    go_wp2_with fail
    exact ⟨rfl, ret_err rfl HU.out⟩

set_option maxHeartbeats 2000000 in
set_option maxRecDepth 100000 in
theorem choicec_in (hs : ByteArray → Int → Bool) (d : Nat) (ih : XS 31 hs (clauseF hs) shC d) (w : World) (cs : List Value) (t : Nd) (hin : NIn w d cs t) (hok : Okk shC t) (bc bf bm b g3 g7 : Nat) (bs : List Nat) (f : Fr) (r : List Fr) (hC : Ctx w bc bf hs bm b bs f r) (c3 : w.cell? ⟨g3, 0, none⟩ = some (.pointer (some ⟨bc, 0, none⟩))) (t7 : Tb w g7 cs.toArray) :
    PartOk 69 #[.pointer (some ⟨g3, 0, none⟩), .pointer (some ⟨g7, 0, none⟩)] w (bm :: bs) (f :: r) (clauseF hs t (f :: r) Fr0) := by
  intro W mi bi hu hm hCh
  have h5 : cs.toArray.size = 5 := hin.five
  obtain ⟨R, hR⟩ : ∃ R, R = clauseF hs t (f :: r) Fr0 := ⟨_, rfl⟩
  rw [← hR]
  have HK : Hid (Calls Tryd.prog 31 #[.pointer (some ⟨bc, 0, none⟩), .agg cs.toArray, .pointer (some ⟨bi, 0, none⟩)] W (Ret R mi W)) := by
    rw [hR]
    exact ih W cs t (NIn.mono hu _ _ _ hin) hok bc bf mi bi (bm :: bs) Fr0 (f :: r) (hC.inner hu hm hCh)
  have c3' : W.cell? ⟨g3, 0, none⟩ = some (.pointer (some ⟨bc, 0, none⟩)) := (hu.cell (cell_lt c3) (by simp)).trans c3
  have t7' := t7.mono hu (by simp)
  show Calls Tryd.prog 69 #[.pointer (some ⟨bi, 0, none⟩), .pointer (some ⟨g3, 0, none⟩), .pointer (some ⟨g7, 0, none⟩)] W (Ret R mi W)
  clear hR ih hin hok hC c3 t7 hCh hu
  go_enter Tryd.func69, Tryd.ntmps69
  go_wp2_with (first | (refine load_T _ rfl _ rfl _ _ rfl t7' h5 ?_) | fail)
  refine Calls.mono HK.out ?_
  rintro e w1 ⟨hu, hm1⟩
  have HU : Hid (Upd [mi] W w1) := hu
  clear HK hu t7' c3'
  cases R with
  | ok g =>
    obtain ⟨⟨u, rfl⟩, hn⟩ := hm1
    have HN : Hid (NmIs w1 mi g) := hn
    clear hn
    go_wp2_with fail
    exact bodyPost_end (results_none rfl _ _ _) rfl (ret_ok rfl HU.out HN.out)
  | error x =>
    have hm3 : e = .panicked [{ v := .iface 33 (.agg #[.int .i64 x.1, .int .i64 x.2]), recovered := false }] := hm1
    subst hm3
    clear hm1
    go_wp2_with fail
    exact ⟨rfl, ret_err rfl HU.out⟩

set_option maxHeartbeats 2000000 in
set_option maxRecDepth 100000 in
theorem blockc_in (hs : ByteArray → Int → Bool) (d : Nat) (ih : XS 41 hs (bodyF hs) shB d) (w : World) (cs : List Value) (t : Nd) (hin : NIn w d cs t) (hok : Okk shB t) (bc bf bm b g3 g7 : Nat) (bs : List Nat) (f : Fr) (r : List Fr) (hC : Ctx w bc bf hs bm b bs f r) (c3 : w.cell? ⟨g3, 0, none⟩ = some (.pointer (some ⟨bc, 0, none⟩))) (t7 : Tb w g7 cs.toArray) :
    PartOk 72 #[.pointer (some ⟨g3, 0, none⟩), .pointer (some ⟨g7, 0, none⟩)] w (bm :: bs) (f :: r) (bodyF hs t (f :: r) Fr0) := by
  intro W mi bi hu hm hCh
  have h5 : cs.toArray.size = 5 := hin.five
  obtain ⟨R, hR⟩ : ∃ R, R = bodyF hs t (f :: r) Fr0 := ⟨_, rfl⟩
  rw [← hR]
  have HK : Hid (Calls Tryd.prog 41 #[.pointer (some ⟨bc, 0, none⟩), .agg cs.toArray, .pointer (some ⟨bi, 0, none⟩)] W (Ret R mi W)) := by
    rw [hR]
    exact ih W cs t (NIn.mono hu _ _ _ hin) hok bc bf mi bi (bm :: bs) Fr0 (f :: r) (hC.inner hu hm hCh)
  have c3' : W.cell? ⟨g3, 0, none⟩ = some (.pointer (some ⟨bc, 0, none⟩)) := (hu.cell (cell_lt c3) (by simp)).trans c3
  have t7' := t7.mono hu (by simp)
  show Calls Tryd.prog 72 #[.pointer (some ⟨bi, 0, none⟩), .pointer (some ⟨g3, 0, none⟩), .pointer (some ⟨g7, 0, none⟩)] W (Ret R mi W)
  clear hR ih hin hok hC c3 t7 hCh hu
  go_enter Tryd.func72, Tryd.ntmps72
  go_wp2_with (first | (refine load_T _ rfl _ rfl _ _ rfl t7' h5 ?_) | fail)
  refine Calls.mono HK.out ?_
  rintro e w1 ⟨hu, hm1⟩
  have HU : Hid (Upd [mi] W w1) := hu
  clear HK hu t7' c3'
  cases R with
  | ok g =>
    obtain ⟨⟨u, rfl⟩, hn⟩ := hm1
    have HN : Hid (NmIs w1 mi g) := hn
    clear hn
    go_wp2_with fail
    exact bodyPost_end (results_none rfl _ _ _) rfl (ret_ok rfl HU.out HN.out)
  | error x =>
    have hm3 : e = .panicked [{ v := .iface 33 (.agg #[.int .i64 x.1, .int .i64 x.2]), recovered := false }] := hm1
    subst hm3
    clear hm1
    go_wp2_with fail
    exact ⟨rfl, ret_err rfl HU.out⟩

set_option maxHeartbeats 4000000 in
set_option maxRecDepth 100000 in
theorem choices_in (hs : ByteArray → Int → Bool) (d : Nat) (ih : XS 31 hs (clauseF hs) shC d) : RS 62 hs (choicesF hs) shC d := by
  intro w a c K hR hs0 hK bc bf bm b bs f r hC
  have HK : Hid (∀ i (hi : i < K.length), Okk shC K[i]) := hK
  have IH : Hid (XS 31 hs (clauseF hs) shC d) := ih
  obtain ⟨G, hG⟩ : ∃ G, G = choicesF hs K r f := ⟨_, rfl⟩
  rw [← hG]
  have HG : Hid (G = choicesF hs K r f) := hG
  have hmf : ∀ (fn : Fn) (first cap : Array Value) (w : World), (Instr.makeFunc fn first cap).run Tryd.prog w = .ok (.func fn first cap) w := fun _ _ _ _ => rfl
  have HRa : Hid (RowN (NIn w d) w a K) := hR
  have HCa : Hid (Ctx w bc bf hs bm b bs f r) := hC
  clear hK ih hG hR hC
  go_enter Tryd.func62, Tryd.ntmps62
  go_wp2_with fail
  obtain ⟨w0, hw0⟩ : ∃ w0, w0 = w.alloc (.cells #[.pointer (some ⟨bc, 0, none⟩)] 48) := ⟨_, rfl⟩
  have U1 : Hid (Upd [] w w0) := by rw [hw0]; exact (Upd.refl [] w).alloc _
  have cC : Hid (w0.cell? ⟨w.heap.size, 0, none⟩ = some (.pointer (some ⟨bc, 0, none⟩))) := by rw [hw0]; exact cell_of_row _ _ 0 _ _ _ (heap_alloc_new w _)
  rw [← hw0]
  clear hw0
  have HR : Hid (RowN (NIn w0 d) w0 a K) := HRa.out.imp U1.out (NIn.mono U1.out d)
  have HC : Hid (Ctx w0 bc bf hs bm b bs f r) := HCa.out.mono U1.out
  have HN : Hid (NmIs w0 bm f) := HC.out.nm
  clear HRa HCa
  go_loopw [10] (fun i wr => ∃ (q : Nat) (fi : Fr), q ≤ K.length ∧ i = .int .i64 q ∧ Hid (choicesF hs K r f = choicesF hs (K.drop q) r fi) ∧ Upd [bm] w0 wr ∧ NmIs wr bm fi) (fun i _ => K.length - (intOf i).toNat)
  case atStart => exact ⟨0, f, Nat.zero_le _, rfl, rfl, Upd.refl _ _, HN.out⟩
  case round =>
    obtain ⟨q, fi, hq, rfl, HP, hu, hn⟩ := hrel
    have HU : Hid (Upd [bm] w0 wr) := hu
    have HNi : Hid (NmIs wr bm fi) := hn
    clear hu hn
    by_cases hlt : q < K.length
    · have i1 : (q : Int) < (K.length : Int) := by omega
      obtain ⟨b3, o3, hae, cs, hl5, hcell, hin⟩ := HR.out.atK q hlt
      cases hae
      have hone := hin.one
      have hin' := NIn.keep HN.out HU.out _ _ _ hin
      have hc5 : ∀ j, j < 5 → wr.cell? ⟨b3, o3 + (q * 5 + j), none⟩ = cs[j]? := fun j hj => by
        have := hcell j hj
        rw [List.getElem?_eq_getElem (by omega)] at this ⊢
        exact HN.out.cell HU.out this
      obtain ⟨q0, q1, q2, q3, q4, rfl⟩ := list5 hl5
      have x0 : wr.cell? ⟨b3, o3 + q * 5, none⟩ = some q0 := hc5 0 (by omega)
      have x1 : wr.cell? ⟨b3, o3 + q * 5 + 1, none⟩ = some q1 := hc5 1 (by omega)
      have x2 : wr.cell? ⟨b3, o3 + q * 5 + 2, none⟩ = some q2 := hc5 2 (by omega)
      have x3 : wr.cell? ⟨b3, o3 + q * 5 + 3, none⟩ = some q3 := hc5 3 (by omega)
      have x4 : wr.cell? ⟨b3, o3 + q * 5 + 4, none⟩ = some q4 := hc5 4 (by omega)
      have HIN : Hid (NIn wr d [q0, q1, q2, q3, q4] K[q]) := hin'
      have HCi : Hid (Ctx wr bc bf hs bm b bs fi r) := HC.out.upd HU.out HNi.out
      have tz : Tb (wr.alloc (.cells #[.int .u8 0, .string ⟨#[]⟩, .int .i64 0, .int .i64 0, .slice none 0 0] 29)) wr.heap.size #[.int .u8 0, .string ⟨#[]⟩, .int .i64 0, .int .i64 0, .slice none 0 0] := Tb.new _ _ _ rfl
      have HUZ : Hid (Upd [] wr (wr.alloc (.cells #[.int .u8 0, .string ⟨#[]⟩, .int .i64 0, .int .i64 0, .slice none 0 0] 29))) := (Upd.refl [] wr).alloc _
      clear hc5 hcell hin hin'
      go_wp2_with (first
        | (refine store_T _ rfl _ _ rfl _ #[q0, q1, q2, q3, q4] _ rfl rfl tz rfl rfl hone ?_; intro w1 t1 u1; have V1 : Hid (Upd [] wr w1) := HUZ.out.then u1 (by simp))
        | (refine load_T _ rfl _ rfl _ _ rfl t1 rfl ?_)
        | fail)
      have PO : PartOk 69 #[.pointer (some ⟨w.heap.size, 0, none⟩), .pointer (some ⟨wr.heap.size, 0, none⟩)] w1 (bm :: bs) (fi :: r) (clauseF hs K[q] (fi :: r) Fr0) := choicec_in hs d IH.out w1 _ _ (NIn.mono V1.out _ _ _ HIN.out) (HK.out q hlt) bc bf bm b _ _ bs fi r (HCi.out.mono V1.out) ((V1.out.cell (cell_lt (HN.out.cell HU.out cC.out)) (by simp)).trans (HN.out.cell HU.out cC.out)) t1
      refine Calls.mono (branch_gen _ _ Tryd.call69 bm b bs fi r w1 _ (HCi.out.mono V1.out).ch PO) ?_
      rintro e w2 hret
      have hret : Ret (goneR fi (clauseF hs K[q] (fi :: r) Fr0)) bm w1 e w2 := hret
      obtain ⟨hu2, hm2⟩ := hret
      have U2 : Hid (Upd [bm] w0 w2) := (HU.out.trans V1.out.into).trans hu2
      have HP2 := HP.out
      rw [choicesF_at hs r K q hlt] at HP2
      clear hu2 t1 u1 V1 tz HUZ x0 x1 x2 x3 x4 HIN HNi HU HCi
      cases hpf : goneR fi (clauseF hs K[q] (fi :: r) Fr0) with
      | ok f' =>
        rw [hpf] at hm2 HP2
        obtain ⟨⟨u, rfl⟩, hn2⟩ := hm2
        have HP3 : Hid (choicesF hs K r f = choicesF hs (K.drop (q + 1)) r f') := HP2
        have N2 : Hid (NmIs w2 bm f') := hn2
        clear hn2 HP2 hpf HP
        go_wp2_with fail
        go_roundw
        case rel => exact ⟨q + 1, f', by omega, by go_num, HP3, U2.out, N2.out⟩
        case measure => simp [intOf]; omega
      | error x =>
        rw [hpf] at hm2 HP2
        have hm3 : e = .panicked [{ v := .iface 33 (.agg #[.int .i64 x.1, .int .i64 x.2]), recovered := false }] := hm2
        subst hm3
        have HP3 : Hid (choicesF hs K r f = .error x) := HP2
        clear hm2 HP2 hpf HP
        go_wp2_with fail
        exact ⟨rfl, ret_err (HG.out.trans HP3.out) (U1.out.into.trans U2.out)⟩
    · have hd : decide ((q : Int) < (K.length : Int)) = false := by simp; omega
      have hqe : q = K.length := by omega
      have HP3 : Hid (choicesF hs K r f = .ok fi) := by
        have := HP.out
        rw [hqe, List.drop_length, choicesF] at this
        exact this
      go_wp2_with fail
      exact bodyPost_end (results_none rfl _ _ _) rfl (ret_ok (HG.out.trans HP3.out) (U1.out.into.trans HU.out) HNi.out)

set_option maxHeartbeats 4000000 in
set_option maxRecDepth 100000 in
theorem heads_in (hs : ByteArray → Int → Bool) (d : Nat) (ih : XS 31 hs (clauseF hs) shC d) : RS 23 hs (headsF hs) shC d := by
  intro w a c K hR hs0 hK bc bf bm b bs f r hC
  have HK : Hid (∀ i (hi : i < K.length), Okk shC K[i]) := hK
  have IH : Hid (XS 31 hs (clauseF hs) shC d) := ih
  obtain ⟨G, hG⟩ : ∃ G, G = headsF hs K r f := ⟨_, rfl⟩
  rw [← hG]
  have HG : Hid (G = headsF hs K r f) := hG
  have hmf : ∀ (fn : Fn) (first cap : Array Value) (w : World), (Instr.makeFunc fn first cap).run Tryd.prog w = .ok (.func fn first cap) w := fun _ _ _ _ => rfl
  have HRa : Hid (RowN (NIn w d) w a K) := hR
  have HCa : Hid (Ctx w bc bf hs bm b bs f r) := hC
  clear hK ih hG hR hC
  go_enter Tryd.func23, Tryd.ntmps23
  go_wp2_with fail
  obtain ⟨w0, hw0⟩ : ∃ w0, w0 = w.alloc (.cells #[.pointer (some ⟨bc, 0, none⟩)] 48) := ⟨_, rfl⟩
  have U1 : Hid (Upd [] w w0) := by rw [hw0]; exact (Upd.refl [] w).alloc _
  have cC : Hid (w0.cell? ⟨w.heap.size, 0, none⟩ = some (.pointer (some ⟨bc, 0, none⟩))) := by rw [hw0]; exact cell_of_row _ _ 0 _ _ _ (heap_alloc_new w _)
  rw [← hw0]
  clear hw0
  have HR : Hid (RowN (NIn w0 d) w0 a K) := HRa.out.imp U1.out (NIn.mono U1.out d)
  have HC : Hid (Ctx w0 bc bf hs bm b bs f r) := HCa.out.mono U1.out
  have HN : Hid (NmIs w0 bm f) := HC.out.nm
  clear HRa HCa
  go_loopw [10] (fun i wr => ∃ (q : Nat) (fi : Fr), q ≤ K.length ∧ i = .int .i64 q ∧ Hid (headsF hs K r f = headsF hs (K.drop q) r fi) ∧ Upd [bm] w0 wr ∧ NmIs wr bm fi) (fun i _ => K.length - (intOf i).toNat)
  case atStart => exact ⟨0, f, Nat.zero_le _, rfl, rfl, Upd.refl _ _, HN.out⟩
  case round =>
    obtain ⟨q, fi, hq, rfl, HP, hu, hn⟩ := hrel
    have HU : Hid (Upd [bm] w0 wr) := hu
    have HNi : Hid (NmIs wr bm fi) := hn
    clear hu hn
    by_cases hlt : q < K.length
    · have i1 : (q : Int) < (K.length : Int) := by omega
      obtain ⟨b3, o3, hae, cs, hl5, hcell, hin⟩ := HR.out.atK q hlt
      cases hae
      have hone := hin.one
      have hin' := NIn.keep HN.out HU.out _ _ _ hin
      have hc5 : ∀ j, j < 5 → wr.cell? ⟨b3, o3 + (q * 5 + j), none⟩ = cs[j]? := fun j hj => by
        have := hcell j hj
        rw [List.getElem?_eq_getElem (by omega)] at this ⊢
        exact HN.out.cell HU.out this
      obtain ⟨q0, q1, q2, q3, q4, rfl⟩ := list5 hl5
      have x0 : wr.cell? ⟨b3, o3 + q * 5, none⟩ = some q0 := hc5 0 (by omega)
      have x1 : wr.cell? ⟨b3, o3 + q * 5 + 1, none⟩ = some q1 := hc5 1 (by omega)
      have x2 : wr.cell? ⟨b3, o3 + q * 5 + 2, none⟩ = some q2 := hc5 2 (by omega)
      have x3 : wr.cell? ⟨b3, o3 + q * 5 + 3, none⟩ = some q3 := hc5 3 (by omega)
      have x4 : wr.cell? ⟨b3, o3 + q * 5 + 4, none⟩ = some q4 := hc5 4 (by omega)
      have HIN : Hid (NIn wr d [q0, q1, q2, q3, q4] K[q]) := hin'
      have HCi : Hid (Ctx wr bc bf hs bm b bs fi r) := HC.out.upd HU.out HNi.out
      have tz : Tb (wr.alloc (.cells #[.int .u8 0, .string ⟨#[]⟩, .int .i64 0, .int .i64 0, .slice none 0 0] 29)) wr.heap.size #[.int .u8 0, .string ⟨#[]⟩, .int .i64 0, .int .i64 0, .slice none 0 0] := Tb.new _ _ _ rfl
      have HUZ : Hid (Upd [] wr (wr.alloc (.cells #[.int .u8 0, .string ⟨#[]⟩, .int .i64 0, .int .i64 0, .slice none 0 0] 29))) := (Upd.refl [] wr).alloc _
      clear hc5 hcell hin hin'
      go_wp2_with (first
        | (refine store_T _ rfl _ _ rfl _ #[q0, q1, q2, q3, q4] _ rfl rfl tz rfl rfl hone ?_; intro w1 t1 u1; have V1 : Hid (Upd [] wr w1) := HUZ.out.then u1 (by simp))
        | (refine load_T _ rfl _ rfl _ _ rfl t1 rfl ?_)
        | fail)
      have PO : PartOk 30 #[.pointer (some ⟨w.heap.size, 0, none⟩), .pointer (some ⟨wr.heap.size, 0, none⟩)] w1 (bm :: bs) (fi :: r) (clauseF hs K[q] (fi :: r) Fr0) := headc_in hs d IH.out w1 _ _ (NIn.mono V1.out _ _ _ HIN.out) (HK.out q hlt) bc bf bm b _ _ bs fi r (HCi.out.mono V1.out) ((V1.out.cell (cell_lt (HN.out.cell HU.out cC.out)) (by simp)).trans (HN.out.cell HU.out cC.out)) t1
      refine Calls.mono (apart_gen _ _ Tryd.call30 (bm :: bs) (fi :: r) _ w1 _ (HCi.out.mono V1.out).ch PO) ?_
      rintro e w2 ⟨hu2, hm2⟩
      have U2 : Hid (Upd [bm] w0 w2) := (HU.out.trans V1.out.into).trans hu2.into
      have N2 : Hid (NmIs w2 bm fi) := (HNi.out.mono V1.out (by simp)).mono hu2 (by simp)
      have HP2 := HP.out
      rw [headsF_at hs r K q hlt] at HP2
      clear hu2 t1 u1 V1 tz HUZ x0 x1 x2 x3 x4 HIN HNi HU HCi
      cases hpf : clauseF hs K[q] (fi :: r) Fr0 with
      | ok f' =>
        rw [hpf] at hm2 HP2
        obtain ⟨u, rfl⟩ := hm2
        have HP3 : Hid (headsF hs K r f = headsF hs (K.drop (q + 1)) r fi) := HP2
        clear HP2 hpf HP
        go_wp2_with fail
        go_roundw
        case rel => exact ⟨q + 1, fi, by omega, by go_num, HP3, U2.out, N2.out⟩
        case measure => simp [intOf]; omega
      | error x =>
        rw [hpf] at hm2 HP2
        have hm3 : e = .panicked [{ v := .iface 33 (.agg #[.int .i64 x.1, .int .i64 x.2]), recovered := false }] := hm2
        subst hm3
        have HP3 : Hid (headsF hs K r f = .error x) := HP2
        clear hm2 HP2 hpf HP
        go_wp2_with fail
        exact ⟨rfl, ret_err (HG.out.trans HP3.out) (U1.out.into.trans U2.out)⟩
    · have hd : decide ((q : Int) < (K.length : Int)) = false := by simp; omega
      have hqe : q = K.length := by omega
      have HP3 : Hid (headsF hs K r f = .ok fi) := by
        have := HP.out
        rw [hqe, List.drop_length, headsF] at this
        exact this
      go_wp2_with fail
      exact bodyPost_end (results_none rfl _ _ _) rfl (ret_ok (HG.out.trans HP3.out) (U1.out.into.trans HU.out) HNi.out)

set_option maxHeartbeats 4000000 in
set_option maxRecDepth 100000 in
theorem block_in (hs : ByteArray → Int → Bool) (d : Nat) (ih : XS 41 hs (bodyF hs) shB d) : XS 64 hs (fun t r f => goneR f (bodyF hs t (f :: r) Fr0)) shB d := by
  intro w cs t hin hok bc bf bm b bs f r hC
  have hmf : ∀ (fn : Fn) (first cap : Array Value) (w : World), (Instr.makeFunc fn first cap).run Tryd.prog w = .ok (.func fn first cap) w := fun _ _ _ _ => rfl
  have U1 : Hid (Upd [] w ((w.alloc (.cells #[.pointer (some ⟨bc, 0, none⟩)] 48)).alloc (.cells cs.toArray 29))) := ((Upd.refl [] w).alloc _).alloc _
  have c3 : ((w.alloc (.cells #[.pointer (some ⟨bc, 0, none⟩)] 48)).alloc (.cells cs.toArray 29)).cell? ⟨w.heap.size, 0, none⟩ = some (.pointer (some ⟨bc, 0, none⟩)) := cell_of_row _ _ 0 _ _ _ ((Below.heap_alloc _ _ _ (by simp)).trans (heap_alloc_new w _))
  have t7 : Tb ((w.alloc (.cells #[.pointer (some ⟨bc, 0, none⟩)] 48)).alloc (.cells cs.toArray 29)) (w.heap.size + 1) cs.toArray := Tb.new _ _ _ (by simp)
  have PO := blockc_in hs d ih _ _ t (NIn.mono U1.out _ _ _ hin) hok bc bf bm b _ _ bs f r (hC.mono U1.out) c3 t7
  have BG := branch_gen _ _ Tryd.call72 bm b bs f r _ _ (hC.mono U1.out).ch PO
  obtain ⟨q0, q1, q2, q3, q4, rfl⟩ := list5 hin.len
  show Calls _ _ _ _ (Ret (goneR f (bodyF hs t (f :: r) Fr0)) bm w)
  obtain ⟨R, hR⟩ : ∃ R, R = goneR f (bodyF hs t (f :: r) Fr0) := ⟨_, rfl⟩
  rw [← hR] at BG ⊢
  have HK : Hid (Calls Tryd.prog 68 #[.pointer (some ⟨b, 0, none⟩), .func (.func 72) #[] #[.pointer (some ⟨w.heap.size, 0, none⟩), .pointer (some ⟨w.heap.size + 1, 0, none⟩)]] ((w.alloc (.cells #[.pointer (some ⟨bc, 0, none⟩)] 48)).alloc (.cells #[q0, q1, q2, q3, q4] 29)) (Ret R bm ((w.alloc (.cells #[.pointer (some ⟨bc, 0, none⟩)] 48)).alloc (.cells #[q0, q1, q2, q3, q4] 29)))) := BG
  clear BG PO c3 t7 hR hin hok hC ih
  go_enter Tryd.func64, Tryd.ntmps64
  go_wp2_with fail
  refine Calls.mono HK.out ?_
  rintro e w1 ⟨hu, hm1⟩
  have HU : Hid (Upd [bm] w w1) := U1.out.into.trans hu
  clear HK hu U1
  cases R with
  | ok g =>
    obtain ⟨⟨u, rfl⟩, hn⟩ := hm1
    have HN : Hid (NmIs w1 bm g) := hn
    clear hn
    go_wp2_with fail
    exact bodyPost_end (results_none rfl _ _ _) rfl (ret_ok rfl HU.out HN.out)
  | error x =>
    have hm3 : e = .panicked [{ v := .iface 33 (.agg #[.int .i64 x.1, .int .i64 x.2]), recovered := false }] := hm1
    subst hm3
    clear hm1
    go_wp2_with fail
    exact ⟨rfl, ret_err rfl HU.out⟩

end Go.Proofs.YtpgjcedonimgnaaDoor

/- lint's call: its first region. -/
namespace Go.Proofs.YtpgjcedonimgnaaDoor
open Go.RowKit

theorem wp_idx0 {o : Oper} {a : Act} {w : World} {K : Act → World → Prop} {Q : Exit → Act → World → Prop} (x : Operand) (ho : o.op = .indexAddr 27 x (.const (.int .i64 0))) (b off n c : Nat) (hn : 0 < n) (hx : a.eval x = .slice (some ⟨b, off, none⟩) n c) (h : K (a.put o.dst (.pointer (some ⟨b, off, none⟩))) w) : o.wp Tryd.prog a w K Q := by
  refine wp_pure ?_ h
  have hn' : (0 : Int) < (n : Int) := by omega
  unfold execOp
  simp only [ho, hx]
  simp [go_sem]
  intro h0; omega
theorem wp_idx1 {o : Oper} {a : Act} {w : World} {K : Act → World → Prop} {Q : Exit → Act → World → Prop} (x : Operand) (ho : o.op = .indexAddr 27 x (.const (.int .i64 1))) (b off n c : Nat) (hn : 1 < n) (hx : a.eval x = .slice (some ⟨b, off, none⟩) n c) (h : K (a.put o.dst (.pointer (some ⟨b, off + 5, none⟩))) w) : o.wp Tryd.prog a w K Q := by
  refine wp_pure ?_ h
  have hn' : (1 : Int) < (n : Int) := by omega
  unfold execOp
  simp only [ho, hx]
  simp [go_sem, hn']
theorem wp_row5 {o : Oper} {a : Act} {w : World} {K : Act → World → Prop} {Q : Exit → Act → World → Prop} (x : Operand) (ho : o.op = .load 29 x) (b off : Nat) (q0 q1 q2 q3 q4 : Value) (hx : a.eval x = .pointer (some ⟨b, off, none⟩)) (h0 : w.cell? ⟨b, off, none⟩ = some q0) (h1 : w.cell? ⟨b, off + 1, none⟩ = some q1) (h2 : w.cell? ⟨b, off + 2, none⟩ = some q2) (h3 : w.cell? ⟨b, off + 3, none⟩ = some q3) (h4 : w.cell? ⟨b, off + 4, none⟩ = some q4) (h : K (a.put o.dst (.agg #[q0, q1, q2, q3, q4])) w) : o.wp Tryd.prog a w K Q := by
  refine wp_pure ?_ h
  unfold execOp
  simp only [ho, hx]
  simp [go_sem, h0, h1, h2, h3, h4]
theorem wp_sl1 {o : Oper} {a : Act} {w : World} {K : Act → World → Prop} {Q : Exit → Act → World → Prop} (x : Operand) (ho : o.op = .slice 27 x (some (.const (.int .i64 1))) none none) (b off n c : Nat) (hn : 0 < n) (hc : n ≤ c) (hx : a.eval x = .slice (some ⟨b, off, none⟩) n c) (h : K (a.put o.dst (.slice (some (if c = 1 then ⟨b, off, none⟩ else ⟨b, off + 5, none⟩)) (n - 1) (c - 1))) w) : o.wp Tryd.prog a w K Q := by
  refine wp_pure ?_ h
  have hn' : (1 : Int) ≤ (n : Int) := by omega
  have hc' : (n : Int) ≤ (c : Int) := by omega
  unfold execOp
  simp only [ho, hx]
  simp [go_sem, hn']
  split <;> rfl

set_option maxHeartbeats 4000000 in
set_option maxRecDepth 100000 in
/-- The region in which the called one and the arguments are told apart. -/
theorem call_reg {_Q : Exit → Act → World → Prop} {_u3 _u5 _u15 _u16 _u17 _u18 _u19 _u20 _u21 _u22 _u23 _u24 _u25 _u26 _u27 _u28 _u29 _u30 _u31 _u32 _u33 _u34 _u35 _u36 _v0 _v1 _v2 : Value} (w0 : World) (g b2 o n c : Nat) (k1 n1 p1 : Int) (s1 : ByteArray) (a1 : Option Addr) (l1 c1 : Nat) (_hn : 0 < n) (_hc : n ≤ c) (_hg : w0.cell? ⟨g, 4, none⟩ = some (.slice (some ⟨b2, o, none⟩) n c))
    (_h0 : w0.cell? ⟨b2, o, none⟩ = some (.int .u8 k1)) (_h1 : w0.cell? ⟨b2, o + 1, none⟩ = some (.string s1)) (_h2 : w0.cell? ⟨b2, o + 2, none⟩ = some (.int .i64 n1)) (_h3 : w0.cell? ⟨b2, o + 3, none⟩ = some (.int .i64 p1)) (_h4 : w0.cell? ⟨b2, o + 4, none⟩ = some (.slice a1 l1 c1)) : True := trivial

end Go.Proofs.YtpgjcedonimgnaaDoor
