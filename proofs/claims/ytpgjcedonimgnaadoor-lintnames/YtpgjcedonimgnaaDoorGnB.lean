/- lint's Check of right modules. -/
import Derived.Test.YtpgjcedonimgnaaDoorJAR
import Derived.Test.YtpgjcedonimgnaaDoorLtX
namespace Go.Proofs.YtpgjcedonimgnaaDoor
open Go.RowKit

def Nd.num : Nd → Int
  | .mk _ _ n _ _ => n
/-- All functions taken down. -/
def declsF : List Nd → (ByteArray → Int → Bool) → Except Flt (ByteArray → Int → Bool)
  | [], hs => .ok hs
  | .mk _ s num pos K :: L, hs => match declF hs s num pos K with
    | some x => .error x
    | none => declsF L (fun t m => decide (t = s ∧ m = num) || hs t m)
/-- All functions looked into. -/
def bodsF (hs : ByteArray → Int → Bool) : List Nd → Option Flt
  | [] => none
  | n :: L => match headsT hs n.kids with
    | some x => some x
    | none => bodsF hs L
/-- The first fault of a right module. -/
def checkF (K : List Nd) : Option Flt := match declsF K (fun _ _ => false) with
  | .error x => some x
  | .ok hs => bodsF hs K
def ansF : Option Flt → Flt
  | none => (0, 0)
  | some x => x
theorem declsF_at (K : List Nd) (q : Nat) (hq : q < K.length) {hs : ByteArray → Int → Bool} : declsF (K.drop q) hs = (match declF hs K[q].txt K[q].num K[q].pos K[q].kids with | some x => .error x | none => declsF (K.drop (q + 1)) (fun t m => decide (t = K[q].txt ∧ m = K[q].num) || hs t m)) := by
  rw [List.drop_eq_getElem_cons hq]
  cases h : K[q] with
  | mk k s num pos L => rw [declsF]; rfl
theorem declsF_ok {X : Except Flt (ByteArray → Int → Bool)} {hs : ByteArray → Int → Bool} {k num pos : Int} {s : ByteArray} {Ks L : List Nd} (h : X = (match declF hs (Nd.mk k s num pos Ks).txt (Nd.mk k s num pos Ks).num (Nd.mk k s num pos Ks).pos (Nd.mk k s num pos Ks).kids with | some x => .error x | none => declsF L (fun t m => decide (t = (Nd.mk k s num pos Ks).txt ∧ m = (Nd.mk k s num pos Ks).num) || hs t m))) (h2 : none = declF hs s num pos Ks) : X = declsF L (fun t m => decide (t = s ∧ m = num) || hs t m) := by
  rw [h]
  show (match declF hs s num pos Ks with | some x => (Except.error x : Except Flt (ByteArray → Int → Bool)) | none => declsF L (fun t m => decide (t = s ∧ m = num) || hs t m)) = _
  rw [← h2]
theorem declsF_bad {X : Except Flt (ByteArray → Int → Bool)} {hs : ByteArray → Int → Bool} {k num pos : Int} {s : ByteArray} {Ks L : List Nd} {x : Flt} (h : X = (match declF hs (Nd.mk k s num pos Ks).txt (Nd.mk k s num pos Ks).num (Nd.mk k s num pos Ks).pos (Nd.mk k s num pos Ks).kids with | some x => .error x | none => declsF L (fun t m => decide (t = (Nd.mk k s num pos Ks).txt ∧ m = (Nd.mk k s num pos Ks).num) || hs t m))) (h2 : some x = declF hs s num pos Ks) : X = .error x := by
  rw [h]
  show (match declF hs s num pos Ks with | some x => (Except.error x : Except Flt (ByteArray → Int → Bool)) | none => declsF L (fun t m => decide (t = s ∧ m = num) || hs t m)) = _
  rw [← h2]
theorem checkF_decl {K : List Nd} {x : Flt} (h : declsF K (fun _ _ => false) = .error x) : checkF K = some x := by rw [checkF, h]
theorem checkF_bods {K : List Nd} {hs : ByteArray → Int → Bool} (h : declsF K (fun _ _ => false) = .ok hs) : checkF K = bodsF hs K := by rw [checkF, h]
theorem bodsF_at (hs : ByteArray → Int → Bool) (K : List Nd) (q : Nat) (hq : q < K.length) : bodsF hs (K.drop q) = (match headsT hs K[q].kids with | some x => some x | none => bodsF hs (K.drop (q + 1))) := by
  rw [List.drop_eq_getElem_cons hq, bodsF]
theorem RowN.imp2 {w w' : World} {bm d : Nat} {f : ByteArray → Int → Bool} {a : Option Addr} {K : List Nd} (h : RowN (NIn w d) w a K) (hN : FnIs w bm f) (hu : Upd [bm] w w') : RowN (NIn w' d) w' a K := RowN.keepF hN hu d a K h

set_option maxHeartbeats 8000000 in
set_option maxRecDepth 100000 in
/-- Check of a right module: the first fault. -/
theorem Check_in (A : Nat → Option Addr) (C : Nat → Nat) (d : Nat) (w : World) (num pos : Int) (s : ByteArray) (K : List Nd) (a : Option Addr) (c : Nat) (hin : NIn w (d + 1) [.int .u8 22, .string s, .int .i64 num, .int .i64 pos, .slice a K.length c] (.mk 22 s num pos K)) (hr : rgtB (.mk 22 s num pos K) = true) (hz1 : nsz (.mk 22 s num pos K) ≤ 2199023255488) (hz2 : nxz (.mk 22 s num pos K) ≤ 140737488355328) (hF : ∀ i (hi : i < K.length), K[i].kids.length ≤ 2199023255488 ∧ ∀ j (hj : j < K[i].kids.length), Okk shC K[i].kids[j]) (hFr : Frm A C w) (hO : Ops w) (hB : Blt w) :
    Calls Tryd.prog 11 #[.agg #[.int .u8 22, .string s, .int .i64 num, .int .i64 pos, .slice a K.length c]] w fun e w' => e = .returned (.agg #[.int .i64 (ansF (checkF K)).1, .int .i64 (ansF (checkF K)).2]) ∧ Upd [] w w' := by
  obtain ⟨OX, hOX⟩ : ∃ OX, OX = ansF (checkF K) := ⟨_, rfl⟩
  rw [← hOX]
  have HOX : Hid (OX = ansF (checkF K)) := hOX
  clear hOX
  have HT : Hid (Frm A C w ∧ Ops w ∧ Blt w) := ⟨hFr, hO, hB⟩
  have HIN : Hid (NIn w (d + 1) [.int .u8 22, .string s, .int .i64 num, .int .i64 pos, .slice a K.length c] (.mk 22 s num pos K)) := hin
  have HRT : Hid (rgtB (.mk 22 s num pos K) = true ∧ nsz (.mk 22 s num pos K) ≤ 2199023255488 ∧ nxz (.mk 22 s num pos K) ≤ 140737488355328) := ⟨hr, hz1, hz2⟩
  have hs0 : K.length ≤ 2199023255488 := Nat.le_trans (nszs_len K) (by simpa [nsz] using hz1)
  have HR : Hid (RowN (NIn w d) w a K) := by
    obtain ⟨a', c', he, hR, _⟩ := hin
    cases he
    exact hR
  have HF : Hid (∀ i (hi : i < K.length), K[i].kids.length ≤ 2199023255488 ∧ ∀ j (hj : j < K[i].kids.length), Okk shC K[i].kids[j]) := hF
  have hmf : ∀ (fn : Fn) (first cap : Array Value) (w : World), (Instr.makeFunc fn first cap).run Tryd.prog w = .ok (.func fn first cap) w := fun _ _ _ _ => rfl
  have hmm := @run_makeMap Tryd.prog
  have tb0 : Tb ((w.alloc (.cells #[.int .u8 22, .string s, .int .i64 num, .int .i64 pos, .slice a K.length c] 29)).alloc (.cells #[.int .i64 0, .int .i64 0] 33)) w.heap.size #[.int .u8 22, .string s, .int .i64 num, .int .i64 pos, .slice a K.length c] := (Tb.new _ _ _ rfl).old _
  have f0 : (Fb ((w.alloc (.cells #[.int .u8 22, .string s, .int .i64 num, .int .i64 pos, .slice a K.length c] 29)).alloc (.cells #[.int .i64 0, .int .i64 0] 33)) (w.heap.size + 1) 0 0) := by
    have := heap_alloc_new (w.alloc (.cells #[.int .u8 22, .string s, .int .i64 num, .int .i64 pos, .slice a K.length c] 29)) (.cells #[.int .i64 0, .int .i64 0] 33)
    simpa [Fb] using this
  have U0 : Hid (Upd [] w ((w.alloc (.cells #[.int .u8 22, .string s, .int .i64 num, .int .i64 pos, .slice a K.length c] 29)).alloc (.cells #[.int .i64 0, .int .i64 0] 33))) := ((Upd.refl [] w).alloc _).alloc _
  clear hin hr hz1 hz2 hF hFr hO hB
  go_enter_defers Tryd.func11, Tryd.ntmps11
  go_wp2_with (first | (refine load_G _ _ rfl _ _ rfl tb0 rfl rfl ?_) | fail)
  refine Calls.mono (Right_in A C (d + 1) _ _ (.mk 22 s num pos K) (NIn.mono U0.out _ _ _ HIN.out) HRT.out.2.1 HRT.out.2.2 (HT.out.1.mono U0.out) (HT.out.2.1.mono U0.out)) ?_
  rintro e v1 ⟨he, hu⟩
  rw [HRT.out.1] at he
  subst he
  have V1 : Hid (Upd [] w v1) := U0.out.trans hu
  have tb1 := tb0.mono hu (by simp)
  have f1 : Fb v1 (w.heap.size + 1) 0 0 := (hu.block _ (lt_of_block f0) (by simp)).trans f0
  have l1 : w.heap.size + 1 < v1.heap.size := lt_of_block f1
  have U12 : Hid (Upd [] v1 ((v1.alloc (.map #[] 0)).alloc (.cells #[.map (some v1.heap.size)] 51))) := ((Upd.refl [] v1).alloc _).alloc _
  have z4 : ((v1.alloc (.map #[] 0)).alloc (.cells #[.map (some v1.heap.size)] 51)).cell? ⟨w.heap.size, 4, none⟩ = some (.slice a K.length c) := (tb1.mono U12.out (by simp)).cell 4
  clear hu tb0 f0 U0 HIN HRT
  go_wp2_with fail
  obtain ⟨v2, hv2⟩ : ∃ v2, v2 = (v1.alloc (.map #[] 0)).alloc (.cells #[.map (some v1.heap.size)] 51) := ⟨_, rfl⟩
  have W2 : Hid (Upd [] w v2) := by rw [hv2]; exact V1.out.trans U12.out
  have c2 : v2.heap[v1.heap.size + 1]? = some (.cells #[.map (some v1.heap.size)] 51 (0, 0)) := by rw [hv2]; exact heap_two v1 _ _
  have m2 : v2.heap[v1.heap.size]? = some (.map #[] 0) := by rw [hv2, Below.heap_alloc _ _ _ (by simp)]; exact heap_alloc_new v1 _
  have E2 : Hid (Env v2 (v1.heap.size + 1) v1.heap.size (fun _ _ => false)) := ⟨c2, ⟨#[], 0, m2, by simp, by simp⟩, HT.out.2.2.mono W2.out⟩
  rw [← hv2] at U12 z4 ⊢
  clear hv2 c2 m2
  have tb2 : Hid (Tb v2 w.heap.size #[.int .u8 22, .string s, .int .i64 num, .int .i64 pos, .slice a K.length c]) := tb1.mono U12.out (by simp)
  have f2 : Hid (Fb v2 (w.heap.size + 1) 0 0) := (U12.out.block _ (lt_of_block f1) (by simp)).trans f1
  have R2 : Hid (RowN (NIn v2 d) v2 a K) := HR.out.imp W2.out (NIn.mono W2.out d)
  clear V1 U12 tb1 f1 z4 HR HT
  go_loopw [24] (fun i wr => ∃ (q : Nat) (hq : ByteArray → Int → Bool), q ≤ K.length ∧ i = .int .i64 q ∧ Hid (declsF K (fun _ _ => false) = declsF (K.drop q) hq) ∧ Upd [v1.heap.size] v2 wr ∧ FnIs wr v1.heap.size hq) (fun i _ => K.length - (intOf i).toNat)
  case atStart => exact ⟨0, _, Nat.zero_le _, rfl, rfl, Upd.refl _ _, E2.out.f⟩
  case round =>
    obtain ⟨q, hsq, hq, rfl, HP, hu, hn⟩ := hrel
    have HU : Hid (Upd [v1.heap.size] v2 wr) := hu
    have HFn : Hid (FnIs wr v1.heap.size hsq) := hn
    clear hu hn
    by_cases hlt : q < K.length
    · have i1 : (q : Int) < (K.length : Int) := by omega
      obtain ⟨b3, o3, hae, cs, hl5, hcell, hin⟩ := R2.out.atK q hlt
      subst hae
      have hone := hin.one
      have hin' := NIn.keepF E2.out.f HU.out _ _ _ hin
      have hc5 : ∀ j, j < 5 → wr.cell? ⟨b3, o3 + (q * 5 + j), none⟩ = cs[j]? := fun j hj => by
        have := hcell j hj
        rw [List.getElem?_eq_getElem (by omega)] at this ⊢
        exact E2.out.f.cell HU.out this
      have HF1 := HF.out q hlt
      have HP2 := HP.out
      rw [declsF_at K q hlt] at HP2
      obtain ⟨tq, htq⟩ : ∃ tq, tq = K[q] := ⟨_, rfl⟩
      rw [← htq] at HF1 hin' HP2
      clear htq hcell hin
      cases d with
      | zero => exact absurd hin' (fun h => h)
      | succ d =>
      obtain ⟨ks, ss, ns, ps, Ks⟩ := tq
      obtain ⟨aq, cq, rfl, hRq, hcpq⟩ := hin'
      have x0 : wr.cell? ⟨b3, o3 + q * 5, none⟩ = some (.int .u8 ks) := hc5 0 (by omega)
      have x1 : wr.cell? ⟨b3, o3 + q * 5 + 1, none⟩ = some (.string ss) := hc5 1 (by omega)
      have x2 : wr.cell? ⟨b3, o3 + q * 5 + 2, none⟩ = some (.int .i64 ns) := hc5 2 (by omega)
      have x3 : wr.cell? ⟨b3, o3 + q * 5 + 3, none⟩ = some (.int .i64 ps) := hc5 3 (by omega)
      have x4 : wr.cell? ⟨b3, o3 + q * 5 + 4, none⟩ = some (.slice aq Ks.length cq) := hc5 4 (by omega)
      have HRQ : Hid (RowN (NIn wr d) wr aq Ks) := hRq
      have HKs : Hid (Ks.length ≤ 2199023255488 ∧ ∀ i (hi : i < Ks.length), Okk shC Ks[i]) := HF1
      have HPX : Hid _ := HP2
      have tz : Tb (wr.alloc (.cells #[.int .u8 0, .string ⟨#[]⟩, .int .i64 0, .int .i64 0, .slice none 0 0] 29)) wr.heap.size #[.int .u8 0, .string ⟨#[]⟩, .int .i64 0, .int .i64 0, .slice none 0 0] := Tb.new _ _ _ rfl
      have HUZ : Hid (Upd [] wr (wr.alloc (.cells #[.int .u8 0, .string ⟨#[]⟩, .int .i64 0, .int .i64 0, .slice none 0 0] 29))) := (Upd.refl [] wr).alloc _
      clear hc5 hRq HP2 HP HF1
      have EI : Hid (Env wr (v1.heap.size + 1) v1.heap.size hsq) := ⟨E2.out.f.keepBlock HU.out E2.out.c, HFn.out, E2.out.b.keepF E2.out.f HU.out⟩
      go_wp2_with (first
        | (refine store_T _ rfl _ _ rfl _ #[.int .u8 ks, .string ss, .int .i64 ns, .int .i64 ps, .slice aq Ks.length cq] _ rfl rfl tz rfl rfl hone ?_; intro w3 s3 u3; have V3 : Hid (Upd [] wr w3) := HUZ.out.then u3 (by simp))
        | (refine load_T _ rfl _ rfl _ _ rfl s3 rfl ?_)
        | fail)
      obtain ⟨O, hO⟩ : ∃ O, O = declF hsq ss ns ps Ks := ⟨_, rfl⟩
      have HO : Hid (O = declF hsq ss ns ps Ks) := hO
      clear hO
      refine Calls.mono (declare_in hsq d w3 ks ns ps ss Ks aq cq (v1.heap.size + 1) v1.heap.size (HRQ.out.imp V3.out (NIn.mono V3.out d)) HKs.out.1 (fun i hi => shC_hasP (HKs.out.2 i hi).2.1) (EI.out.mono V3.out) O HO.out) ?_
      rintro e w4 ⟨hu4, hm4⟩
      have U4 : Hid (Upd [v1.heap.size] v2 w4) := (HU.out.trans V3.out.into).trans hu4
      have W4 : Hid (Upd [] w w4) := W2.out.then U4.out (by simp; omega)
      clear hu4 s3 u3 V3 x0 x1 x2 x3 x4 tz HUZ HRQ HKs EI HFn HU
      cases O with
      | none =>
        obtain ⟨⟨u, rfl⟩, hn4⟩ := hm4
        have F4 : Hid (FnIs w4 v1.heap.size (fun t m => decide (t = ss ∧ m = ns) || hsq t m)) := hn4
        have HP3 : Hid (declsF K (fun _ _ => false) = declsF (K.drop (q + 1)) (fun t m => decide (t = ss ∧ m = ns) || hsq t m)) := declsF_ok HPX.out HO.out
        clear hn4 HPX HO
        go_wp2_with fail
        go_roundw
        case rel => exact ⟨q + 1, _, by omega, by go_num, HP3, U4.out, F4.out⟩
        case measure => simp [intOf]; omega
      | some x =>
        have hm5 : e = .panicked [{ v := .iface 33 (.agg #[.int .i64 x.1, .int .i64 x.2]), recovered := false }] := hm4
        subst hm5
        have GX : Hid (checkF K = some x) := checkF_decl (declsF_bad HPX.out HO.out)
        have F4 : Fb w4 (w.heap.size + 1) 0 0 := E2.out.f.keepBlock U4.out f2.out
        clear hm4 HPX HO
        go_wp2_with fail
        refine leaves_cons (f := 21) (args := #[.pointer (some ⟨w.heap.size + 1, 0, none⟩)]) (by simp) (by simp [go_sem]) ?_
        refine (catch_bad (w.heap.size + 1) x.1 x.2 w4 F4).mono ?_
        rintro e u' w9 ⟨rfl, rfl, h9, f9⟩
        have U9 : Upd [] w w9 := W4.out.then h9 (by simp)
        have k0 : w9.cell? ⟨w.heap.size + 1, 0, none⟩ = some (.int .i64 x.1) := cell_of_row _ _ 0 _ _ _ f9
        have k1 : w9.cell? ⟨w.heap.size + 1, 1, none⟩ = some (.int .i64 x.2) := cell_of_row _ _ 1 _ _ _ f9
        simp [Leaves, settle, results, Tryd.results11, go_sem, k0, k1]
        refine ⟨?_, U9⟩
        rw [HOX.out, GX.out]
        exact ⟨rfl, rfl⟩
    · have hd : decide ((q : Int) < (K.length : Int)) = false := by simp; omega
      have hqe : q = K.length := by omega
      have HD : Hid (declsF K (fun _ _ => false) = .ok hsq) := by
        have := HP.out
        rw [hqe, List.drop_length, declsF] at this
        exact this
      have E3 : Hid (Env wr (v1.heap.size + 1) v1.heap.size hsq) := ⟨E2.out.f.keepBlock HU.out E2.out.c, HFn.out, E2.out.b.keepF E2.out.f HU.out⟩
      have W3 : Hid (Upd [] w wr) := W2.out.then HU.out (by simp; omega)
      have f3 : Hid (Fb wr (w.heap.size + 1) 0 0) := E2.out.f.keepBlock HU.out f2.out
      have z4 : wr.cell? ⟨w.heap.size, 4, none⟩ = some (.slice a K.length c) := cell_of_row _ _ 4 _ _ _ (E2.out.f.keepBlock HU.out tb2.out)
      have R3 : Hid (RowN (NIn wr d) wr a K) := R2.out.imp2 E2.out.f HU.out
      have HBK : Hid (checkF K = bodsF hsq K) := checkF_bods HD.out
      clear HP HU HFn HD hqe
      go_wp2_with fail
      generalize hv3 : wr = v3 at *
      clear hv3
      go_loopw [35] (fun i wr => ∃ (q : Nat), q ≤ K.length ∧ i = .int .i64 q ∧ Hid (bodsF hsq K = bodsF hsq (K.drop q)) ∧ Upd [] v3 wr) (fun i _ => K.length - (intOf i).toNat)
      case atStart => exact ⟨0, Nat.zero_le _, rfl, rfl, Upd.refl _ _⟩
      case round =>
        obtain ⟨q, hq, rfl, HP, hu⟩ := hrel
        have HU : Hid (Upd [] v3 wr) := hu
        clear hu z4
        by_cases hlt : q < K.length
        · have i1 : (q : Int) < (K.length : Int) := by omega
          obtain ⟨b3, o3, hae, cs, hl5, hcell, hin⟩ := R3.out.atK q hlt
          subst hae
          have hone := hin.one
          have hin' := NIn.mono HU.out _ _ _ hin
          have hc5 : ∀ j, j < 5 → wr.cell? ⟨b3, o3 + (q * 5 + j), none⟩ = cs[j]? := fun j hj => by
            have := hcell j hj
            rw [List.getElem?_eq_getElem (by omega)] at this ⊢
            exact (HU.out.cell (cell_lt this) (by simp)).trans this
          have HF1 := HF.out q hlt
          have HP2 := HP.out
          rw [bodsF_at hsq K q hlt] at HP2
          obtain ⟨tq, htq⟩ : ∃ tq, tq = K[q] := ⟨_, rfl⟩
          rw [← htq] at HF1 hin' HP2
          clear htq hcell hin
          cases d with
          | zero => exact absurd hin' (fun h => h)
          | succ d =>
          obtain ⟨ks, ss, ns, ps, Ks⟩ := tq
          obtain ⟨aq, cq, rfl, hRq, hcpq⟩ := hin'
          have x0 : wr.cell? ⟨b3, o3 + q * 5, none⟩ = some (.int .u8 ks) := hc5 0 (by omega)
          have x1 : wr.cell? ⟨b3, o3 + q * 5 + 1, none⟩ = some (.string ss) := hc5 1 (by omega)
          have x2 : wr.cell? ⟨b3, o3 + q * 5 + 2, none⟩ = some (.int .i64 ns) := hc5 2 (by omega)
          have x3 : wr.cell? ⟨b3, o3 + q * 5 + 3, none⟩ = some (.int .i64 ps) := hc5 3 (by omega)
          have x4 : wr.cell? ⟨b3, o3 + q * 5 + 4, none⟩ = some (.slice aq Ks.length cq) := hc5 4 (by omega)
          have HRQ : Hid (RowN (NIn wr d) wr aq Ks) := hRq
          have HKs : Hid (Ks.length ≤ 2199023255488 ∧ ∀ i (hi : i < Ks.length), Okk shC Ks[i]) := HF1
          have HPX : Hid _ := HP2
          have tz : Tb (wr.alloc (.cells #[.int .u8 0, .string ⟨#[]⟩, .int .i64 0, .int .i64 0, .slice none 0 0] 29)) wr.heap.size #[.int .u8 0, .string ⟨#[]⟩, .int .i64 0, .int .i64 0, .slice none 0 0] := Tb.new _ _ _ rfl
          have HUZ : Hid (Upd [] wr (wr.alloc (.cells #[.int .u8 0, .string ⟨#[]⟩, .int .i64 0, .int .i64 0, .slice none 0 0] 29))) := (Upd.refl [] wr).alloc _
          clear hc5 hRq HP2 HP HF1
          go_wp2_with (first
            | (refine store_T _ rfl _ _ rfl _ #[.int .u8 ks, .string ss, .int .i64 ns, .int .i64 ps, .slice aq Ks.length cq] _ rfl rfl tz rfl rfl hone ?_; intro w5 s5 u5; have V5 : Hid (Upd [] wr w5) := HUZ.out.then u5 (by simp); have y4 : w5.cell? ⟨wr.heap.size, 4, none⟩ = some (.slice aq Ks.length cq) := s5.cell 4)
            | fail)
          obtain ⟨w6, hw6⟩ : ∃ w6, w6 = w5.alloc (.cells #[.map none, .pointer none] 57) := ⟨_, rfl⟩
          have V6 : Hid (Upd [] wr w6) := by rw [hw6]; exact V5.out.alloc _
          have o6 : Hid (w6.heap[w5.heap.size]? = some (.cells #[.map none, .pointer none] 57 (0, 0))) := by rw [hw6]; exact heap_alloc_new w5 _
          rw [← hw6]
          refine Calls.mono (heads_top hsq d (checks_all hsq d).2.2.2 w6 aq cq Ks (HRQ.out.imp V6.out (NIn.mono V6.out d)) HKs.out.1 HKs.out.2 (v1.heap.size + 1) v1.heap.size w5.heap.size (E3.out.mono (HU.out.trans V6.out)) ⟨_, rfl, o6.out⟩) ?_
          rintro e w7 ⟨hu7, hm7⟩
          have U7 : Hid (Upd [] v3 w7) := (HU.out.trans V6.out).trans hu7
          have W7 : Hid (Upd [] w w7) := W3.out.trans U7.out
          have HPY : Hid (bodsF hsq K = (match headsT hsq Ks with | some x => some x | none => bodsF hsq (K.drop (q + 1)))) := HPX.out
          clear hw6 V6 o6 V5 u5 s5 y4 hu7 x0 x1 x2 x3 x4 tz HUZ HRQ HKs HPX HU
          cases hht : headsT hsq Ks with
          | none =>
            rw [hht] at hm7
            obtain ⟨u, rfl⟩ := hm7
            have HP3 : Hid (bodsF hsq K = bodsF hsq (K.drop (q + 1))) := by rw [HPY.out, hht]; rfl
            clear HPY hht
            go_wp2_with fail
            go_roundw
            case rel => exact ⟨q + 1, by omega, by go_num, HP3, U7.out⟩
            case measure => simp [intOf]; omega
          | some x =>
            rw [hht] at hm7
            have hm5 : e = .panicked [{ v := .iface 33 (.agg #[.int .i64 x.1, .int .i64 x.2]), recovered := false }] := hm7
            subst hm5
            have GX : Hid (checkF K = some x) := by rw [HBK.out, HPY.out, hht]; rfl
            have F7 : Fb w7 (w.heap.size + 1) 0 0 := (U7.out.block _ (lt_of_block f3.out) (by simp)).trans f3.out
            clear hm7 HPY hht
            go_wp2_with fail
            refine leaves_cons (f := 21) (args := #[.pointer (some ⟨w.heap.size + 1, 0, none⟩)]) (by simp) (by simp [go_sem]) ?_
            refine (catch_bad (w.heap.size + 1) x.1 x.2 w7 F7).mono ?_
            rintro e u' w9 ⟨rfl, rfl, h9, f9⟩
            have U9 : Upd [] w w9 := W7.out.then h9 (by simp)
            have k0 : w9.cell? ⟨w.heap.size + 1, 0, none⟩ = some (.int .i64 x.1) := cell_of_row _ _ 0 _ _ _ f9
            have k1 : w9.cell? ⟨w.heap.size + 1, 1, none⟩ = some (.int .i64 x.2) := cell_of_row _ _ 1 _ _ _ f9
            simp [Leaves, settle, results, Tryd.results11, go_sem, k0, k1]
            refine ⟨?_, U9⟩
            rw [HOX.out, GX.out]
            exact ⟨rfl, rfl⟩
        · have hd : decide ((q : Int) < (K.length : Int)) = false := by simp; omega
          have hqe : q = K.length := by omega
          have GX : Hid (checkF K = none) := by
            have := HP.out
            rw [hqe, List.drop_length, bodsF] at this
            exact HBK.out.trans this
          have W7 : Hid (Upd [] w wr) := W3.out.trans HU.out
          have f7 : Fb wr (w.heap.size + 1) 0 0 := (HU.out.block _ (lt_of_block f3.out) (by simp)).trans f3.out
          clear HP HBK hqe
          go_wp2_with (first | (refine store_F _ rfl _ _ rfl _ _ _ _ _ rfl rfl f7 ?_; intro w8 f8 u8) | fail)
          have U8 : Hid (Upd [] w w8) := W7.out.then u8 (by simp)
          refine leaves_cons (f := 21) (args := #[.pointer (some ⟨w.heap.size + 1, 0, none⟩)]) (by simp) (by simp [go_sem]) ?_
          refine (catch_idle (w.heap.size + 1) w8).mono ?_
          rintro e u' w9 ⟨rfl, rfl, h9⟩
          have U9 : Upd [] w w9 := U8.out.trans h9
          have f9 : Fb w9 (w.heap.size + 1) 0 0 := (h9.block _ (lt_of_block f8) (by simp)).trans f8
          have k0 : w9.cell? ⟨w.heap.size + 1, 0, none⟩ = some (.int .i64 0) := cell_of_row _ _ 0 _ _ _ f9
          have k1 : w9.cell? ⟨w.heap.size + 1, 1, none⟩ = some (.int .i64 0) := cell_of_row _ _ 1 _ _ _ f9
          simp [Leaves, settle, results, Tryd.results11, go_sem, k0, k1]
          refine ⟨?_, U9⟩
          rw [HOX.out, GX.out]
          exact ⟨rfl, rfl⟩


end Go.Proofs.YtpgjcedonimgnaaDoor
