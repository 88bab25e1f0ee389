/- lint's rows of expressions, bodies, items, clauses: what is said of them. -/
import Derived.Test.YtpgjcedonimgnaaDoorGmM

namespace Go.Proofs.YtpgjcedonimgnaaDoor
open Go.RowKit

mutual
/-- All that the check looks for stands there. -/
def shI : Nd → Bool
  | .mk k _ num _ K =>
    if k = 8 ∨ k = 18 then decide (K.length = 2) && shIs K
    else if k = 9 then decide (0 < K.length) && shIs K
    else if k = 10 then decide (0 < K.length) && shCs K
    else if k = 12 then sh12 K
    else if k = 13 then shCs K
    else if k = 14 then decide (0 ≤ num ∧ num.toNat ≤ K.length) && shRs (K.length - num.toNat) K
    else if k = 16 then sh16 K
    else if k = 17 then sh17 K
    else shIs K
def shIs : List Nd → Bool
  | [] => true
  | n :: K => shI n && shIs K
def shB : Nd → Bool
  | .mk _ _ _ _ K => shIs K
def shBs : List Nd → Bool
  | [] => true
  | n :: K => shB n && shBs K
def shG : Nd → Bool
  | .mk _ _ _ _ K => shBs K
def shC : Nd → Bool
  | .mk _ _ _ _ [P, G, B] => shB P && (shG G && shB B)
  | _ => false
def shCs : List Nd → Bool
  | [] => true
  | n :: K => shC n && shCs K
def sh12 : List Nd → Bool
  | [] => false
  | n :: K => shI n && shCs K
def sh16 : List Nd → Bool
  | [] => false
  | n :: K => shB n && shCs K
def sh17 : List Nd → Bool
  | [] => false
  | n :: K => shI n && shIs K
def shRs : Nat → List Nd → Bool
  | _, [] => true
  | 0, n :: K => shA n && shRs 0 K
  | m + 1, n :: K => shC n && shRs m K
def shA : Nd → Bool
  | .mk _ _ _ _ [e, B] => shI e && shB B
  | _ => false
end
/-- A tree may be checked as this. -/
def Okk (p : Nd → Bool) (t : Nd) : Prop := nsz t ≤ 2199023255488 ∧ p t = true ∧ thru callOk t = true
/-- Where a check stands. -/
structure Ctx (w : World) (bc bf : Nat) (hs : ByteArray → Int → Bool) (bm b : Nat) (bs : List Nat) (f : Fr) (r : List Fr) : Prop where
  env : Env w bc bf hs
  ch : Chn w (bm :: bs) (f :: r) (some ⟨b, 0, none⟩)
  ne : bf ∉ bm :: bs
theorem Ctx.mono {w w' : World} {bc bf bm b : Nat} {hs : ByteArray → Int → Bool} {bs : List Nat} {f : Fr} {r : List Fr} (h : Ctx w bc bf hs bm b bs f r) (hu : Upd [] w w') : Ctx w' bc bf hs bm b bs f r := ⟨h.env.mono hu, Chn.mono hu _ _ _ h.ch, h.ne⟩
theorem Ctx.nm {w : World} {bc bf bm b : Nat} {hs : ByteArray → Int → Bool} {bs : List Nat} {f : Fr} {r : List Fr} (h : Ctx w bc bf hs bm b bs f r) : NmIs w bm f := h.ch.nm
theorem Ctx.upd {w w' : World} {bc bf bm b : Nat} {hs : ByteArray → Int → Bool} {bs : List Nat} {f f' : Fr} {r : List Fr} (h : Ctx w bc bf hs bm b bs f r) (hu : Upd [bm] w w') (hN : NmIs w' bm f') : Ctx w' bc bf hs bm b bs f' r := ⟨h.env.keep h.nm hu (fun e => h.ne (by rw [e]; exact List.mem_cons_self)), h.ch.upd hu hN, h.ne⟩
/-- Within a new scope. -/
theorem Ctx.inner {w W : World} {bc bf bm b bi mi : Nat} {hs : ByteArray → Int → Bool} {bs : List Nat} {f : Fr} {r : List Fr} (h : Ctx w bc bf hs bm b bs f r) (hu : Upd [] w W) (hm : w.heap.size ≤ mi) (hC : Chn W (mi :: bm :: bs) (Fr0 :: f :: r) (some ⟨bi, 0, none⟩)) : Ctx W bc bf hs mi bi (bm :: bs) Fr0 (f :: r) :=
  ⟨h.env.mono hu, hC, fun hx => by
    rcases List.mem_cons.1 hx with e | hx
    · have := h.env.f.lt; omega
    · exact h.ne hx⟩
/-- What is said of a check of a node, of trees of a depth. -/
def XS (F : Nat) (hs : ByteArray → Int → Bool) (G : Nd → List Fr → Fr → Except Flt Fr) (p : Nd → Bool) (d : Nat) : Prop := ∀ (w : World) (cs : List Value) (t : Nd), NIn w d cs t → Okk p t → ∀ (bc bf bm b : Nat) (bs : List Nat) (f : Fr) (r : List Fr), Ctx w bc bf hs bm b bs f r →
  Calls Tryd.prog F #[.pointer (some ⟨bc, 0, none⟩), .agg cs.toArray, .pointer (some ⟨b, 0, none⟩)] w (Ret (G t r f) bm w)
/-- What is said of a check of a row. -/
def RS (F : Nat) (hs : ByteArray → Int → Bool) (G : List Nd → List Fr → Fr → Except Flt Fr) (p : Nd → Bool) (d : Nat) : Prop := ∀ (w : World) (a : Option Addr) (c : Nat) (K : List Nd), RowN (NIn w d) w a K → K.length ≤ 2199023255488 → (∀ i (hi : i < K.length), Okk p K[i]) → ∀ (bc bf bm b : Nat) (bs : List Nat) (f : Fr) (r : List Fr), Ctx w bc bf hs bm b bs f r →
  Calls Tryd.prog F #[.pointer (some ⟨bc, 0, none⟩), .slice a K.length c, .pointer (some ⟨b, 0, none⟩)] w (Ret (G K r f) bm w)
theorem shIs_get : ∀ (K : List Nd), shIs K = true → ∀ i (hi : i < K.length), shI K[i] = true
  | [], _, i, hi => by simp at hi
  | n :: K, h, 0, _ => by rw [shIs, Bool.and_eq_true] at h; exact h.1
  | n :: K, h, i + 1, hi => by rw [shIs, Bool.and_eq_true] at h; exact shIs_get K h.2 i (by simpa using hi)
theorem shCs_get : ∀ (K : List Nd), shCs K = true → ∀ i (hi : i < K.length), shC K[i] = true
  | [], _, i, hi => by simp at hi
  | n :: K, h, 0, _ => by rw [shCs, Bool.and_eq_true] at h; exact h.1
  | n :: K, h, i + 1, hi => by rw [shCs, Bool.and_eq_true] at h; exact shCs_get K h.2 i (by simpa using hi)
theorem shBs_get : ∀ (K : List Nd), shBs K = true → ∀ i (hi : i < K.length), shB K[i] = true
  | [], _, i, hi => by simp at hi
  | n :: K, h, 0, _ => by rw [shBs, Bool.and_eq_true] at h; exact h.1
  | n :: K, h, i + 1, hi => by rw [shBs, Bool.and_eq_true] at h; exact shBs_get K h.2 i (by simpa using hi)
theorem kid_ok {k : Int} {s : ByteArray} {num pos : Int} {K : List Nd} (hs : nsz (.mk k s num pos K) ≤ 2199023255488) (ht : thru callOk (.mk k s num pos K) = true) : K.length ≤ 2199023255488 ∧ ∀ i (hi : i < K.length), nsz K[i] ≤ 2199023255488 ∧ thru callOk K[i] = true := by
  have hs1 : nszs K ≤ 2199023255488 := by simpa [nsz] using hs
  rw [thru, Bool.and_eq_true] at ht
  exact ⟨Nat.le_trans (nszs_len K) hs1, fun i hi => ⟨Nat.le_trans (nszs_get K i hi) hs1, thrus_get callOk K ht.2 i hi⟩⟩
theorem exprsF_at (hs : ByteArray → Int → Bool) (r : List Fr) (K : List Nd) (q : Nat) (hq : q < K.length) (f : Fr) : exprsF hs (K.drop q) r f = (match exprF hs K[q] 0 r f with | .ok f' => exprsF hs (K.drop (q + 1)) r f' | .error e => .error e) := by
  rw [List.drop_eq_getElem_cons hq, exprsF]
  cases exprF hs K[q] 0 r f <;> rfl
theorem itemsF_at (hs : ByteArray → Int → Bool) (r : List Fr) (K : List Nd) (q : Nat) (hq : q < K.length) (f : Fr) : itemsF hs (K.drop q) r f = (match exprF hs K[q] 1 r f with | .ok f' => itemsF hs (K.drop (q + 1)) r f' | .error e => .error e) := by
  rw [List.drop_eq_getElem_cons hq, itemsF]
  cases exprF hs K[q] 1 r f <;> rfl

set_option maxHeartbeats 4000000 in
set_option maxRecDepth 100000 in
theorem expressions_in (hs : ByteArray → Int → Bool) (d : Nat) (ih : XS 54 hs (fun t r f => exprF hs t 0 r f) shI d) : RS 67 hs (exprsF hs) shI d := by
  intro w a c K hR hs0 hK bc bf bm b bs f r hC
  have HR : Hid (RowN (NIn w d) w a K) := hR
  have HK : Hid (∀ i (hi : i < K.length), Okk shI K[i]) := hK
  have HC : Hid (Ctx w bc bf hs bm b bs f r) := hC
  have HN : Hid (NmIs w bm f) := hC.nm
  have IH : Hid (XS 54 hs (fun t r f => exprF hs t 0 r f) shI d) := ih
  obtain ⟨G, hG⟩ : ∃ G, G = exprsF hs K r f := ⟨_, rfl⟩
  rw [← hG]
  have HG : Hid (G = exprsF hs K r f) := hG
  clear hR hK hC ih hG
  go_enter Tryd.func67, Tryd.ntmps67
  go_wp2_with fail
  go_loopw [10] (fun i wr => ∃ (q : Nat) (fi : Fr), q ≤ K.length ∧ i = .int .i64 q ∧ Hid (exprsF hs K r f = exprsF hs (K.drop q) r fi) ∧ Upd [bm] w wr ∧ NmIs wr bm fi) (fun i _ => K.length - (intOf i).toNat)
  case atStart => exact ⟨0, f, Nat.zero_le _, rfl, rfl, Upd.refl _ _, HN.out⟩
  case round =>
    obtain ⟨q, fi, hq, rfl, HP, hu, hn⟩ := hrel
    have HU : Hid (Upd [bm] w wr) := hu
    have HNi : Hid (NmIs wr bm fi) := hn
    clear hu hn
    by_cases hlt : q < K.length
    · have i1 : (q : Int) < (K.length : Int) := by omega
      obtain ⟨b3, o3, hae, cs, hl5, hcell, hin⟩ := HR.out.atK q hlt
      cases hae
      have hone := hin.one
      have hin' := NIn.keep HN.out HU.out _ _ _ hin
      have hc5 : ∀ j, j < 5 → wr.cell? ⟨b3, o3 + (q * 5 + j), none⟩ = cs[j]? := fun j hj => by
        have := hcell j hj
        rw [List.getElem?_eq_getElem (by omega)] at this ⊢
        exact HN.out.cell HU.out this
      obtain ⟨q0, q1, q2, q3, q4, rfl⟩ := list5 hl5
      have x0 : wr.cell? ⟨b3, o3 + q * 5, none⟩ = some q0 := hc5 0 (by omega)
      have x1 : wr.cell? ⟨b3, o3 + q * 5 + 1, none⟩ = some q1 := hc5 1 (by omega)
      have x2 : wr.cell? ⟨b3, o3 + q * 5 + 2, none⟩ = some q2 := hc5 2 (by omega)
      have x3 : wr.cell? ⟨b3, o3 + q * 5 + 3, none⟩ = some q3 := hc5 3 (by omega)
      have x4 : wr.cell? ⟨b3, o3 + q * 5 + 4, none⟩ = some q4 := hc5 4 (by omega)
      have HIN : Hid (NIn wr d [q0, q1, q2, q3, q4] K[q]) := hin'
      have HCi : Hid (Ctx wr bc bf hs bm b bs fi r) := HC.out.upd HU.out HNi.out
      have tz : Tb (wr.alloc (.cells #[.int .u8 0, .string ⟨#[]⟩, .int .i64 0, .int .i64 0, .slice none 0 0] 29)) wr.heap.size #[.int .u8 0, .string ⟨#[]⟩, .int .i64 0, .int .i64 0, .slice none 0 0] := Tb.new _ _ _ rfl
      have HUZ : Hid (Upd [] wr (wr.alloc (.cells #[.int .u8 0, .string ⟨#[]⟩, .int .i64 0, .int .i64 0, .slice none 0 0] 29))) := (Upd.refl [] wr).alloc _
      clear hc5 hcell hin hin'
      go_wp2_with (first
        | (refine store_T _ rfl _ _ rfl _ #[q0, q1, q2, q3, q4] _ rfl rfl tz rfl rfl hone ?_; intro w1 t1 u1; have V1 : Hid (Upd [] wr w1) := HUZ.out.then u1 (by simp))
        | (refine load_T _ rfl _ rfl _ _ rfl t1 rfl ?_)
        | fail)
      refine Calls.mono (IH.out w1 _ _ (NIn.mono V1.out _ _ _ HIN.out) (HK.out q hlt) bc bf bm b bs fi r (HCi.out.mono V1.out)) ?_
      rintro e w2 hret
      have hret : Ret (exprF hs K[q] 0 r fi) bm w1 e w2 := hret
      obtain ⟨hu2, hm2⟩ := hret
      have U2 : Hid (Upd [bm] w w2) := (HU.out.trans V1.out.into).trans hu2
      have HP2 := HP.out
      rw [exprsF_at hs r K q hlt] at HP2
      clear hu2 t1 u1 V1 tz HUZ x0 x1 x2 x3 x4 HIN HNi HU HCi
      cases hpf : exprF hs K[q] 0 r fi with
      | ok f' =>
        rw [hpf] at hm2 HP2
        obtain ⟨⟨u, rfl⟩, hn2⟩ := hm2
        have HP3 : Hid (exprsF hs K r f = exprsF hs (K.drop (q + 1)) r f') := HP2
        have N2 : Hid (NmIs w2 bm f') := hn2
        clear hn2 HP2 hpf HP
        go_wp2_with fail
        go_roundw
        case rel => exact ⟨q + 1, f', by omega, by go_num, HP3, U2.out, N2.out⟩
        case measure => simp [intOf]; omega
      | error x =>
        rw [hpf] at hm2 HP2
        have hm3 : e = .panicked [{ v := .iface 33 (.agg #[.int .i64 x.1, .int .i64 x.2]), recovered := false }] := hm2
        subst hm3
        have HP3 : Hid (exprsF hs K r f = .error x) := HP2
        clear hm2 HP2 hpf HP
        go_wp2_with fail
        exact ⟨rfl, ret_err (HG.out.trans HP3.out) U2.out⟩
    · have hd : decide ((q : Int) < (K.length : Int)) = false := by simp; omega
      have hqe : q = K.length := by omega
      have HP3 : Hid (exprsF hs K r f = .ok fi) := by
        have := HP.out
        rw [hqe, List.drop_length, exprsF] at this
        exact this
      go_wp2_with fail
      exact bodyPost_end (results_none rfl _ _ _) rfl (ret_ok (HG.out.trans HP3.out) HU.out HNi.out)

set_option maxHeartbeats 4000000 in
set_option maxRecDepth 100000 in
theorem body_in (hs : ByteArray → Int → Bool) (d : Nat) (ih : XS 48 hs (fun t r f => exprF hs t 1 r f) shI d) : XS 41 hs (bodyF hs) shB (d + 1) := by
  intro w cs t hin hok bc bf bm b bs f r hC
  obtain ⟨k, s, num, pos, K⟩ := t
  obtain ⟨a, c, rfl, hR, hcp⟩ := hin
  obtain ⟨o1, o2, o3⟩ := hok
  obtain ⟨hs0, hkid⟩ := kid_ok o1 o3
  have HR : Hid (RowN (NIn w d) w a K) := hR
  have HK : Hid (∀ i (hi : i < K.length), Okk shI K[i]) := fun i hi => ⟨(hkid i hi).1, shIs_get K (by rw [shB] at o2; exact o2) i hi, (hkid i hi).2⟩
  have HC : Hid (Ctx w bc bf hs bm b bs f r) := hC
  have HN : Hid (NmIs w bm f) := hC.nm
  have U1 : Hid (Upd [] w (w.alloc (.cells #[.int .u8 k, .string s, .int .i64 num, .int .i64 pos, .slice a K.length c] 29))) := (Upd.refl [] w).alloc _
  have IH : Hid (XS 48 hs (fun t r f => exprF hs t 1 r f) shI d) := ih
  obtain ⟨G, hG⟩ : ∃ G, G = bodyF hs (.mk k s num pos K) r f := ⟨_, rfl⟩
  rw [← hG]
  have HG : Hid (G = itemsF hs K r f) := by rw [hG, bodyF]; rfl
  clear hR hC ih hG o1 o2 o3 hkid
  go_enter Tryd.func41, Tryd.ntmps41
  go_wp2_with fail
  go_loopw [11] (fun i wr => ∃ (q : Nat) (fi : Fr), q ≤ K.length ∧ i = .int .i64 q ∧ Hid (itemsF hs K r f = itemsF hs (K.drop q) r fi) ∧ Upd [bm] w wr ∧ NmIs wr bm fi) (fun i _ => K.length - (intOf i).toNat)
  case atStart => exact ⟨0, f, Nat.zero_le _, rfl, rfl, U1.out.into, HN.out.mono U1.out (by simp)⟩
  case round =>
    obtain ⟨q, fi, hq, rfl, HP, hu, hn⟩ := hrel
    have HU : Hid (Upd [bm] w wr) := hu
    have HNi : Hid (NmIs wr bm fi) := hn
    clear hu hn
    by_cases hlt : q < K.length
    · have i1 : (q : Int) < (K.length : Int) := by omega
      obtain ⟨b3, o3, hae, cs, hl5, hcell, hin⟩ := HR.out.atK q hlt
      cases hae
      have hone := hin.one
      have hin' := NIn.keep HN.out HU.out _ _ _ hin
      have hc5 : ∀ j, j < 5 → wr.cell? ⟨b3, o3 + (q * 5 + j), none⟩ = cs[j]? := fun j hj => by
        have := hcell j hj
        rw [List.getElem?_eq_getElem (by omega)] at this ⊢
        exact HN.out.cell HU.out this
      obtain ⟨q0, q1, q2, q3, q4, rfl⟩ := list5 hl5
      have x0 : wr.cell? ⟨b3, o3 + q * 5, none⟩ = some q0 := hc5 0 (by omega)
      have x1 : wr.cell? ⟨b3, o3 + q * 5 + 1, none⟩ = some q1 := hc5 1 (by omega)
      have x2 : wr.cell? ⟨b3, o3 + q * 5 + 2, none⟩ = some q2 := hc5 2 (by omega)
      have x3 : wr.cell? ⟨b3, o3 + q * 5 + 3, none⟩ = some q3 := hc5 3 (by omega)
      have x4 : wr.cell? ⟨b3, o3 + q * 5 + 4, none⟩ = some q4 := hc5 4 (by omega)
      have HIN : Hid (NIn wr d [q0, q1, q2, q3, q4] K[q]) := hin'
      have HCi : Hid (Ctx wr bc bf hs bm b bs fi r) := HC.out.upd HU.out HNi.out
      have tz : Tb (wr.alloc (.cells #[.int .u8 0, .string ⟨#[]⟩, .int .i64 0, .int .i64 0, .slice none 0 0] 29)) wr.heap.size #[.int .u8 0, .string ⟨#[]⟩, .int .i64 0, .int .i64 0, .slice none 0 0] := Tb.new _ _ _ rfl
      have HUZ : Hid (Upd [] wr (wr.alloc (.cells #[.int .u8 0, .string ⟨#[]⟩, .int .i64 0, .int .i64 0, .slice none 0 0] 29))) := (Upd.refl [] wr).alloc _
      clear hc5 hcell hin hin'
      go_wp2_with (first
        | (refine store_T _ rfl _ _ rfl _ #[q0, q1, q2, q3, q4] _ rfl rfl tz rfl rfl hone ?_; intro w1 t1 u1; have V1 : Hid (Upd [] wr w1) := HUZ.out.then u1 (by simp))
        | (refine load_T _ rfl _ rfl _ _ rfl t1 rfl ?_)
        | fail)
      refine Calls.mono (IH.out w1 _ _ (NIn.mono V1.out _ _ _ HIN.out) (HK.out q hlt) bc bf bm b bs fi r (HCi.out.mono V1.out)) ?_
      rintro e w2 hret
      have hret : Ret (exprF hs K[q] 1 r fi) bm w1 e w2 := hret
      obtain ⟨hu2, hm2⟩ := hret
      have U2 : Hid (Upd [bm] w w2) := (HU.out.trans V1.out.into).trans hu2
      have HP2 := HP.out
      rw [itemsF_at hs r K q hlt] at HP2
      clear hu2 t1 u1 V1 tz HUZ x0 x1 x2 x3 x4 HIN HNi HU HCi
      cases hpf : exprF hs K[q] 1 r fi with
      | ok f' =>
        rw [hpf] at hm2 HP2
        obtain ⟨⟨u, rfl⟩, hn2⟩ := hm2
        have HP3 : Hid (itemsF hs K r f = itemsF hs (K.drop (q + 1)) r f') := HP2
        have N2 : Hid (NmIs w2 bm f') := hn2
        clear hn2 HP2 hpf HP
        go_wp2_with fail
        go_roundw
        case rel => exact ⟨q + 1, f', by omega, by go_num, HP3, U2.out, N2.out⟩
        case measure => simp [intOf]; omega
      | error x =>
        rw [hpf] at hm2 HP2
        have hm3 : e = .panicked [{ v := .iface 33 (.agg #[.int .i64 x.1, .int .i64 x.2]), recovered := false }] := hm2
        subst hm3
        have HP3 : Hid (itemsF hs K r f = .error x) := HP2
        clear hm2 HP2 hpf HP
        go_wp2_with fail
        exact ⟨rfl, ret_err (HG.out.trans HP3.out) U2.out⟩
    · have hd : decide ((q : Int) < (K.length : Int)) = false := by simp; omega
      have hqe : q = K.length := by omega
      have HP3 : Hid (itemsF hs K r f = .ok fi) := by
        have := HP.out
        rw [hqe, List.drop_length, itemsF] at this
        exact this
      go_wp2_with fail
      exact bodyPost_end (results_none rfl _ _ _) rfl (ret_ok (HG.out.trans HP3.out) HU.out HNi.out)

end Go.Proofs.YtpgjcedonimgnaaDoor

/- lint's items, of whatever trees. -/
namespace Go.Proofs.YtpgjcedonimgnaaDoor
open Go.RowKit

theorem exprF_item {hs : ByteArray → Int → Bool} {k : Int} {s : ByteArray} {num pos : Int} {K : List Nd} {r : List Fr} {f : Fr} (h : k ≠ 8) : exprF hs (.mk k s num pos K) 1 r f = exprF hs (.mk k s num pos K) 0 r f := by
  rw [exprF, exprF]
  simp [h]
theorem exprF_step {hs : ByteArray → Int → Bool} {k : Int} {s : ByteArray} {num pos : Int} {K : List Nd} {r : List Fr} {f : Fr} (h : k ≠ 18) : exprF hs (.mk k s num pos K) 2 r f = exprF hs (.mk k s num pos K) 0 r f := by
  rw [exprF, exprF]
  simp [h]

set_option maxHeartbeats 4000000 in
set_option maxRecDepth 100000 in
theorem item_in (hs : ByteArray → Int → Bool) (d : Nat) (ihE : XS 54 hs (fun t r f => exprF hs t 0 r f) shI (d + 1)) (ih : XS 48 hs (fun t r f => exprF hs t 1 r f) shI d) : XS 48 hs (fun t r f => exprF hs t 1 r f) shI (d + 1) := by
  intro w cs t hin hok bc bf bm b bs f r hC
  obtain ⟨k, s, num, pos, K⟩ := t
  have hin0 := hin
  obtain ⟨a, c, rfl, hR, hcp⟩ := hin
  have HC : Hid (Ctx w bc bf hs bm b bs f r) := hC
  have HN : Hid (NmIs w bm f) := hC.nm
  have U1 : Hid (Upd [] w (w.alloc (.cells #[.int .u8 k, .string s, .int .i64 num, .int .i64 pos, .slice a K.length c] 29))) := (Upd.refl [] w).alloc _
  have tN : Tb (w.alloc (.cells #[.int .u8 k, .string s, .int .i64 num, .int .i64 pos, .slice a K.length c] 29)) w.heap.size #[.int .u8 k, .string s, .int .i64 num, .int .i64 pos, .slice a K.length c] := Tb.new _ _ _ rfl
  show Calls _ _ _ _ (Ret (exprF hs (.mk k s num pos K) 1 r f) bm w)
  obtain ⟨G, hG⟩ : ∃ G, G = exprF hs (.mk k s num pos K) 1 r f := ⟨_, rfl⟩
  rw [← hG]
  have HG0 : Hid (G = exprF hs (.mk k s num pos K) 1 r f) := hG
  clear hG
  by_cases h8 : k = 8
  · subst h8
    obtain ⟨o1, o2, o3⟩ := hok
    rw [shI, if_pos (Or.inl rfl), Bool.and_eq_true] at o2
    obtain ⟨hs0, hkid⟩ := kid_ok o1 o3
    have hl2 : K.length = 2 := by simpa using o2.1
    match K, hl2, hR, hkid, o2, HG0, U1, tN with
    | [p, e], _, hR, hkid, o2, HG0, U1, tN =>
      have hG2 : G = (match exprF hs e 1 r f with | .ok f' => patF r p f' | .error x => .error x) := by
        rw [HG0.out, exprF, if_neg (by omega), if_pos rfl, if_pos rfl, matchF]
        cases exprF hs e 1 r f <;> rfl
      obtain ⟨b3, o3', hae, cs0, h50, hcell0, hin0'⟩ := hR.atK 0 (by simp)
      cases hae
      obtain ⟨b4, o4, hae, cs1, h51, hcell1, hin1⟩ := hR.atK 1 (by simp)
      cases hae
      have HI0 : Hid (NIn w d cs0 p) := hin0'
      have HI1 : Hid (NIn w d cs1 e) := hin1
      have K0 : Hid (Okk shI p) := ⟨(hkid 0 (by simp)).1, shIs_get _ o2.2 0 (by simp), (hkid 0 (by simp)).2⟩
      have K1 : Hid (Okk shI e) := ⟨(hkid 1 (by simp)).1, shIs_get _ o2.2 1 (by simp), (hkid 1 (by simp)).2⟩
      obtain ⟨p0, p1, p2, p3, p4, rfl⟩ := list5 h50
      obtain ⟨q0, q1, q2, q3, q4, rfl⟩ := list5 h51
      have HCL : Hid (∀ j v, w.cell? ⟨b3, o3' + j, none⟩ = some v → ∀ W, Upd [bm] w W → W.cell? ⟨b3, o3' + j, none⟩ = some v) := fun j v e W hW => HN.out.cell hW e
      have y0 : Hid (w.cell? ⟨b3, o3', none⟩ = some p0) := hcell0 0 (by omega)
      have y1 : Hid (w.cell? ⟨b3, o3' + 1, none⟩ = some p1) := hcell0 1 (by omega)
      have y2 : Hid (w.cell? ⟨b3, o3' + 2, none⟩ = some p2) := hcell0 2 (by omega)
      have y3 : Hid (w.cell? ⟨b3, o3' + 3, none⟩ = some p3) := hcell0 3 (by omega)
      have y4 : Hid (w.cell? ⟨b3, o3' + 4, none⟩ = some p4) := hcell0 4 (by omega)
      have x0 : (w.alloc (.cells #[.int .u8 8, .string s, .int .i64 num, .int .i64 pos, .slice (some ⟨b3, o3', none⟩) 2 c] 29)).cell? ⟨b3, o3' + 5, none⟩ = some q0 := HCL.out 5 _ (hcell1 0 (by omega)) _ U1.out.into
      have x1 : (w.alloc (.cells #[.int .u8 8, .string s, .int .i64 num, .int .i64 pos, .slice (some ⟨b3, o3', none⟩) 2 c] 29)).cell? ⟨b3, o3' + 6, none⟩ = some q1 := HCL.out 6 _ (hcell1 1 (by omega)) _ U1.out.into
      have x2 : (w.alloc (.cells #[.int .u8 8, .string s, .int .i64 num, .int .i64 pos, .slice (some ⟨b3, o3', none⟩) 2 c] 29)).cell? ⟨b3, o3' + 7, none⟩ = some q2 := HCL.out 7 _ (hcell1 2 (by omega)) _ U1.out.into
      have x3 : (w.alloc (.cells #[.int .u8 8, .string s, .int .i64 num, .int .i64 pos, .slice (some ⟨b3, o3', none⟩) 2 c] 29)).cell? ⟨b3, o3' + 8, none⟩ = some q3 := HCL.out 8 _ (hcell1 3 (by omega)) _ U1.out.into
      have x4 : (w.alloc (.cells #[.int .u8 8, .string s, .int .i64 num, .int .i64 pos, .slice (some ⟨b3, o3', none⟩) 2 c] 29)).cell? ⟨b3, o3' + 9, none⟩ = some q4 := HCL.out 9 _ (hcell1 4 (by omega)) _ U1.out.into
      have HG2 : Hid (G = (match exprF hs e 1 r f with | .ok f' => patF r p f' | .error x => .error x)) := hG2
      have IH : Hid (XS 48 hs (fun t r f => exprF hs t 1 r f) shI d) := ih
      have TN : Hid (Tb (w.alloc (.cells #[.int .u8 8, .string s, .int .i64 num, .int .i64 pos, .slice (some ⟨b3, o3', none⟩) 2 c] 29)) w.heap.size #[.int .u8 8, .string s, .int .i64 num, .int .i64 pos, .slice (some ⟨b3, o3', none⟩) 2 c]) := tN
      clear hcell0 hcell1 hin0' hin1 hR hkid o1 o2 o3 hin0 hG2 ihE ih hC h50 h51 tN
      go_enter Tryd.func48, Tryd.ntmps48
      go_wp2_with fail
      refine Calls.mono (IH.out _ _ e (NIn.mono U1.out _ _ _ HI1.out) K1.out bc bf bm b bs f r (HC.out.mono U1.out)) ?_
      rintro e' w2 hret
      have hret : Ret (exprF hs e 1 r f) bm _ e' w2 := hret
      obtain ⟨hu2, hm2⟩ := hret
      have U2 : Hid (Upd [bm] w w2) := U1.out.into.trans hu2
      have t2 := (HN.out.mono U1.out (by simp)).keepBlock hu2 TN.out
      have z4 : w2.cell? ⟨w.heap.size, 4, none⟩ = some (.slice (some ⟨b3, o3', none⟩) 2 c) := cell_of_row _ _ 4 _ _ _ t2
      have HG3 := HG2.out
      clear hu2 x0 x1 x2 x3 x4 TN t2 HG2 IH
      cases hpf : exprF hs e 1 r f with
      | error x =>
        rw [hpf] at hm2 HG3
        have hm3 : e' = .panicked [{ v := .iface 33 (.agg #[.int .i64 x.1, .int .i64 x.2]), recovered := false }] := hm2
        subst hm3
        have HG4 : Hid (G = .error x) := HG3
        clear hm2 hpf HG3
        go_wp2_with fail
        exact ⟨rfl, ret_err HG4.out U2.out⟩
      | ok f' =>
        rw [hpf] at hm2 HG3
        obtain ⟨⟨u, rfl⟩, hn2⟩ := hm2
        have HG4 : Hid (G = patF r p f') := HG3
        have N2 : Hid (NmIs w2 bm f') := hn2
        have x0 : w2.cell? ⟨b3, o3', none⟩ = some p0 := HCL.out 0 _ y0.out _ U2.out
        have x1 : w2.cell? ⟨b3, o3' + 1, none⟩ = some p1 := HCL.out 1 _ y1.out _ U2.out
        have x2 : w2.cell? ⟨b3, o3' + 2, none⟩ = some p2 := HCL.out 2 _ y2.out _ U2.out
        have x3 : w2.cell? ⟨b3, o3' + 3, none⟩ = some p3 := HCL.out 3 _ y3.out _ U2.out
        have x4 : w2.cell? ⟨b3, o3' + 4, none⟩ = some p4 := HCL.out 4 _ y4.out _ U2.out
        clear hn2 hpf HG3
        go_wp2_with fail
        refine Calls.mono (pattern_in d w2 _ p (NIn.keep HN.out U2.out _ _ _ HI0.out) K0.out.1 bm b bs f' r (HC.out.upd U2.out N2.out).ch) ?_
        rintro e' w3 ⟨hu3, hm3⟩
        have U3 : Hid (Upd [bm] w w3) := U2.out.trans hu3
        clear hu3 x0 x1 x2 x3 x4 z4
        cases hpg : patF r p f' with
        | error x =>
          rw [hpg] at hm3
          have hm4 : e' = .panicked [{ v := .iface 33 (.agg #[.int .i64 x.1, .int .i64 x.2]), recovered := false }] := hm3
          subst hm4
          have HG5 : Hid (G = .error x) := HG4.out.trans hpg
          clear hm3 hpg
          go_wp2_with fail
          exact ⟨rfl, ret_err HG5.out U3.out⟩
        | ok f3 =>
          rw [hpg] at hm3
          obtain ⟨⟨u, rfl⟩, hn3⟩ := hm3
          have HG5 : Hid (G = .ok f3) := HG4.out.trans hpg
          have N3 : Hid (NmIs w3 bm f3) := hn3
          clear hn3 hpg
          go_wp2_with fail
          exact bodyPost_end (results_none rfl _ _ _) rfl (ret_ok HG5.out U3.out N3.out)
  · have hne : (k == 8) = false := by simp [h8]
    have HG : Hid (G = exprF hs (.mk k s num pos K) 0 r f) := by rw [HG0.out, exprF_item h8]; rfl
    have HI : Hid (NIn w (d + 1) [.int .u8 k, .string s, .int .i64 num, .int .i64 pos, .slice a K.length c] (.mk k s num pos K)) := hin0
    have HK : Hid (Okk shI (.mk k s num pos K)) := hok
    have IH : Hid (XS 54 hs (fun t r f => exprF hs t 0 r f) shI (d + 1)) := ihE
    clear hin0 hok ihE ih hC hR
    go_enter Tryd.func48, Tryd.ntmps48
    go_wp2_with (first | (refine load_T _ rfl _ rfl _ _ rfl tN rfl ?_) | fail)
    refine Calls.mono (IH.out _ _ _ (NIn.mono U1.out _ _ _ HI.out) HK.out bc bf bm b bs f r (HC.out.mono U1.out)) ?_
    rintro e w2 hret
    have hret : Ret (exprF hs (.mk k s num pos K) 0 r f) bm _ e w2 := hret
    obtain ⟨hu2, hm2⟩ := hret
    have U2 : Hid (Upd [bm] w w2) := U1.out.into.trans hu2
    clear hu2 tN
    cases hpf : exprF hs (.mk k s num pos K) 0 r f with
    | ok f' =>
      rw [hpf] at hm2
      obtain ⟨⟨u, rfl⟩, hn2⟩ := hm2
      have HG3 : Hid (G = .ok f') := HG.out.trans hpf
      have N2 : Hid (NmIs w2 bm f') := hn2
      clear hn2 hpf
      go_wp2_with fail
      exact bodyPost_ret (results_none rfl _ _ _) rfl (ret_ok HG3.out U2.out N2.out)
    | error x =>
      rw [hpf] at hm2
      have hm3 : e = .panicked [{ v := .iface 33 (.agg #[.int .i64 x.1, .int .i64 x.2]), recovered := false }] := hm2
      subst hm3
      have HG3 : Hid (G = .error x) := HG.out.trans hpf
      clear hm2 hpf
      go_wp2_with fail
      exact ⟨rfl, ret_err HG3.out U2.out⟩

end Go.Proofs.YtpgjcedonimgnaaDoor
