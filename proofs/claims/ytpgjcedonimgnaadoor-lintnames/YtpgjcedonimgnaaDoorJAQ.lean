/- lint's receive: the body behind an after. -/
import Derived.Test.YtpgjcedonimgnaaDoorGmT

namespace Go.Proofs.YtpgjcedonimgnaaDoor
open Go.RowKit

theorem wp_slh {o : Oper} {a : Act} {w : World} {K : Act → World → Prop} {Q : Exit → Act → World → Prop} (x y : Operand) (ho : o.op = .slice 27 x none (some y) none) (ad : Option Addr) (n c m : Nat) (hc : m ≤ c) (hx : a.eval x = .slice ad n c) (hy : a.eval y = .int .i64 (m : Nat)) (h : K (a.put o.dst (.slice ad m c)) w) : o.wp Tryd.prog a w K Q := by
  refine wp_pure ?_ h
  have hc' : (m : Int) ≤ (c : Int) := by omega
  unfold execOp
  simp only [ho, hx, Option.map_some, Option.map_none, hy]
  simp [go_sem, hc']
theorem run_sll (ad : Option Addr) (n c m : Nat) (hm : m ≤ n) (_hc : n ≤ c) (w : World) : (Instr.sliceAt 27 (.slice ad n c) (some (.int .i64 (m : Nat))) none none).run Tryd.prog w = .ok (.slice (if c = m then ad else ad.map (·.add (m * 5))) (n - m) (c - m)) w := by
  have hc' : (m : Int) ≤ (n : Int) := by omega
  simp [go_sem, hc']

set_option maxHeartbeats 4000000 in
set_option maxRecDepth 100000 in
theorem recc_in (hs : ByteArray → Int → Bool) (d : Nat) (ih : XS 41 hs (bodyF hs) shB d) (w : World) (k num pos : Int) (s : ByteArray) (B : Nd) (b4 o4 c : Nat) (q0 q1 q2 q3 q4 : Value) (y0 : w.cell? ⟨b4, o4 + 5, none⟩ = some q0) (y1 : w.cell? ⟨b4, o4 + 6, none⟩ = some q1) (y2 : w.cell? ⟨b4, o4 + 7, none⟩ = some q2) (y3 : w.cell? ⟨b4, o4 + 8, none⟩ = some q3) (y4 : w.cell? ⟨b4, o4 + 9, none⟩ = some q4) (hin : NIn w d [q0, q1, q2, q3, q4] B) (hok : Okk shB B) (bc bf bm b g3 g8 : Nat) (bs : List Nat) (f : Fr) (r : List Fr) (hC : Ctx w bc bf hs bm b bs f r) (c3 : w.cell? ⟨g3, 0, none⟩ = some (.pointer (some ⟨bc, 0, none⟩))) (t8 : Tb w g8 #[.int .u8 k, .string s, .int .i64 num, .int .i64 pos, .slice (some ⟨b4, o4, none⟩) 2 c]) :
    PartOk 71 #[.pointer (some ⟨g3, 0, none⟩), .pointer (some ⟨g8, 0, none⟩)] w (bm :: bs) (f :: r) (bodyF hs B (f :: r) Fr0) := by
  intro W mi bi hu hm hCh
  obtain ⟨R, hR⟩ : ∃ R, R = bodyF hs B (f :: r) Fr0 := ⟨_, rfl⟩
  rw [← hR]
  have HK : Hid (∀ w5, Upd [] W w5 → Calls Tryd.prog 41 #[.pointer (some ⟨bc, 0, none⟩), .agg #[q0, q1, q2, q3, q4], .pointer (some ⟨bi, 0, none⟩)] w5 (Ret R mi w5)) := fun w5 h5 => by
    rw [hR]
    exact ih w5 _ B (NIn.mono (hu.trans h5) _ _ _ hin) hok bc bf mi bi (bm :: bs) Fr0 (f :: r) ((hC.inner hu hm hCh).mono h5)
  have c3' : W.cell? ⟨g3, 0, none⟩ = some (.pointer (some ⟨bc, 0, none⟩)) := (hu.cell (cell_lt c3) (by simp)).trans c3
  have t8' := t8.mono hu (by simp)
  have j0 := (hu.cell (cell_lt y0) (by simp)).trans y0
  have j1 := (hu.cell (cell_lt y1) (by simp)).trans y1
  have j2 := (hu.cell (cell_lt y2) (by simp)).trans y2
  have j3 := (hu.cell (cell_lt y3) (by simp)).trans y3
  have j4 := (hu.cell (cell_lt y4) (by simp)).trans y4
  show Calls Tryd.prog 71 #[.pointer (some ⟨bi, 0, none⟩), .pointer (some ⟨g3, 0, none⟩), .pointer (some ⟨g8, 0, none⟩)] W (Ret R mi W)
  clear hR ih hin hok hC c3 t8 hCh hu y0 y1 y2 y3 y4
  go_enter Tryd.func71, Tryd.ntmps71
  refine region_lastT (by kernel_rfl) 6 rfl [some 4, some 5, some 6, some 7, some 8, some 9, some 10] rfl (by decide) rfl (by kernel_rfl) (by kernel_rfl) (fun j v _ => match j with | 0 => v = .pointer (some ⟨bc, 0, none⟩) | 1 => v = .pointer (some ⟨g8, 4, none⟩) | 2 => v = .slice (some ⟨b4, o4, none⟩) 2 c | 3 => v = .pointer (some ⟨b4, o4 + 5, none⟩) | 4 => v = .agg #[q0, q1, q2, q3, q4] | 5 => v = .pointer (some ⟨bi, 0, none⟩) | _ => True) (fun j v w w' h _ => h) ?_ ?_
  · intro D vs a' w5 i o' hA hU hV hS hi ho haf
    have hc5 : i = 0 ∨ i = 1 ∨ i = 2 ∨ i = 3 ∨ i = 4 ∨ i = 5 := by omega
    rcases hc5 with rfl | rfl | rfl | rfl | rfl | rfl <;> cases ho
    · exact ops_wp rfl rfl (wp_lchk (.tmp 1) rfl _ _ (hA.ev 1 (by decide)) ((hU.cell (cell_lt c3') (by simp)).trans c3') ⟨_, rfl, rfl, Upd.refl _ _⟩)
    · exact ops_wp rfl rfl (wp_nf4 (.tmp 2) rfl _ (hA.ev 2 (by decide)) ⟨_, rfl, rfl, Upd.refl _ _⟩)
    · have D1 := haf ⟨1, .data⟩ (by simp) rfl
      exact ops_wp rfl rfl (wp_lrow (.tmp 5) rfl _ _ ((hS 1 5 rfl D1).trans (hV 1 D1)) ((t8'.mono hU (by simp)).cell 4) ⟨_, rfl, rfl, Upd.refl _ _⟩)
    · have D2 := haf ⟨2, .data⟩ (by simp) rfl
      exact ops_wp rfl rfl (wp_idx1 (.tmp 6) rfl b4 o4 2 c (by omega) ((hS 2 6 rfl D2).trans (hV 2 D2)) ⟨_, rfl, rfl, Upd.refl _ _⟩)
    · have D3 := haf ⟨3, .data⟩ (by simp) rfl
      exact ops_wp rfl rfl (wp_row5 (.tmp 7) rfl b4 (o4 + 5) q0 q1 q2 q3 q4 ((hS 3 7 rfl D3).trans (hV 3 D3)) ((hU.cell (cell_lt j0) (by simp)).trans j0) ((hU.cell (cell_lt j1) (by simp)).trans j1) ((hU.cell (cell_lt j2) (by simp)).trans j2) ((hU.cell (cell_lt j3) (by simp)).trans j3) ((hU.cell (cell_lt j4) (by simp)).trans j4) ⟨_, rfl, rfl, Upd.refl _ _⟩)
    · exact ops_wp rfl rfl (wp_move (.tmp 0) rfl _ (hA.ev 0 (by decide)) ⟨_, rfl, rfl, Upd.refl _ _⟩)
  · intro vs a' w5 o' hv hA hU hV hS ho
    cases ho
    have D0 : 0 < 6 := by omega
    have D1 : 1 < 6 := by omega
    have D2 : 2 < 6 := by omega
    have D3 : 3 < 6 := by omega
    have D4 : 4 < 6 := by omega
    have D5 : 5 < 6 := by omega
    have e4 : a'.eval (.tmp 4) = _ := ((hS 0 4 rfl D0).trans (hV 0 D0))
    have e8 : a'.eval (.tmp 8) = _ := ((hS 4 8 rfl D4).trans (hV 4 D4))
    have e9 : a'.eval (.tmp 9) = _ := ((hS 5 9 rfl D5).trans (hV 5 D5))
    refine ops_wp rfl rfl (wp_callB rfl Tryd.call41 (vs := #[.pointer (some ⟨bc, 0, none⟩), .agg #[q0, q1, q2, q3, q4], .pointer (some ⟨bi, 0, none⟩)]) (by simp only [List.map_toArray, List.map_cons, List.map_nil, e4, e8, e9]) ?_)
    refine Calls.mono (HK.out w5 hU) ?_
    rintro e w6 ⟨hu, hm1⟩
    have HU : Upd [mi] W w6 := hU.into.trans hu
    cases R with
    | ok g =>
      obtain ⟨⟨u, rfl⟩, hn⟩ := hm1
      refine Or.inl ⟨u, rfl, u, rfl, ?_⟩
      obtain ⟨v0, r0, rfl, hv0⟩ := list_cons hv
      obtain ⟨v1, r1, rfl, hv1⟩ := list_cons hv0
      obtain ⟨v2, r2, rfl, hv2⟩ := list_cons hv1
      obtain ⟨v3, r3, rfl, hv3⟩ := list_cons hv2
      obtain ⟨v4, r4, rfl, hv4⟩ := list_cons hv3
      obtain ⟨v5, r5, rfl, hv5⟩ := list_cons hv4
      obtain ⟨v6, r6, rfl, hv6⟩ := list_cons hv5
      simp only [List.set_cons_succ, List.set_cons_zero, putAll, Act.put, List.setIfInBounds_toArray]
      have HU6 : Hid (Upd [mi] W w6) := HU
      have HN6 : Hid (NmIs w6 mi g) := hn
      clear hV hS hA hU hu hn HU HK e4 e8 e9
      go_wp2_with fail
      exact bodyPost_end (results_none rfl _ _ _) rfl (ret_ok rfl HU6.out HN6.out)
    | error x =>
      have hm3 : e = .panicked [{ v := .iface 33 (.agg #[.int .i64 x.1, .int .i64 x.2]), recovered := false }] := hm1
      exact Or.inr ⟨_, hm3, hA.def', ret_err rfl HU⟩

end Go.Proofs.YtpgjcedonimgnaaDoor

/- lint's receives, of whatever trees. -/
namespace Go.Proofs.YtpgjcedonimgnaaDoor
open Go.RowKit

theorem rcvF_0 (hs : ByteArray → Int → Bool) (r : List Fr) (K : List Nd) (q : Nat) (hq : q < K.length) (f : Fr) : rcvF hs 0 (K.drop q) r f = (match afterF hs K[q] r f with | .ok f' => rcvF hs 0 (K.drop (q + 1)) r f' | .error e => .error e) := by
  rw [List.drop_eq_getElem_cons hq, rcvF]
  cases afterF hs K[q] r f <;> rfl
theorem rcvF_split (hs : ByteArray → Int → Bool) (r : List Fr) : ∀ (m : Nat) (K : List Nd) (f : Fr), m ≤ K.length → rcvF hs m K r f = (match choicesF hs (K.take m) r f with | .ok f' => rcvF hs 0 (K.drop m) r f' | .error e => .error e)
  | 0, K, f, _ => by rw [List.take_zero, choicesF, List.drop_zero]
  | m + 1, [], f, h => by simp at h
  | m + 1, n :: K, f, h => by
    rw [rcvF, List.take_succ_cons, choicesF, List.drop_succ_cons]
    cases clauseF hs n (f :: r) Fr0 with
    | error x => rfl
    | ok g => exact rcvF_split hs r m K (goneF f g) (by simpa using h)
theorem afterF_eq (hs : ByteArray → Int → Bool) (k num pos : Int) (s : ByteArray) (e B : Nd) (r : List Fr) (f : Fr) : afterF hs (.mk k s num pos [e, B]) r f = (match exprF hs e 0 r f with | .ok f' => asideR f' (bodyF hs B (f' :: r) Fr0) | .error x => .error x) := by
  rw [afterF]
  cases exprF hs e 0 r f with
  | error x => rfl
  | ok f' => cases h : bodyF hs B (f' :: r) Fr0 <;> simp [h, asideR]
theorem shA_two {k num pos : Int} {s : ByteArray} {K : List Nd} (h : shA (.mk k s num pos K) = true) : ∃ e B, K = [e, B] := by
  match K, h with
  | [e, B], _ => exact ⟨e, B, rfl⟩
  | [], h => simp [shA] at h
  | [_], h => simp [shA] at h
  | _ :: _ :: _ :: _, h => simp [shA] at h
theorem RowN.low {w : World} {d : Nat} {a : Option Addr} {K : List Nd} {c : Nat} (h : RowN (NIn w d) w a K) (m : Nat) (hc : K.length ≤ c) : RowN (NIn w d) w (if c = m then a else a.map (·.add (m * 5))) (K.drop m) := by
  by_cases e : c = m
  · exact Or.inl (List.drop_eq_nil_of_le (by omega))
  · rw [if_neg e]
    cases a with
    | none =>
      rcases h with h | ⟨b, o, e, _⟩
      · exact Or.inl (by rw [h]; simp)
      · cases e
    | some ad =>
      rcases h with h | h
      · exact Or.inl (by rw [h]; simp)
      · obtain ⟨b, o, e, hh⟩ := h
        cases e
        have := RowN.drop (Or.inr ⟨b, o, rfl, hh⟩ : RowN (NIn w d) w (some ⟨b, o, none⟩) K) m
        by_cases hm0 : m = 0
        · subst hm0; simpa [Addr.add] using this
        · have hm5 : ¬ m * 5 = 0 := by omega
          simpa [Addr.add, hm5] using this

set_option maxHeartbeats 4000000 in
set_option maxRecDepth 100000 in
theorem receive_in (hs : ByteArray → Int → Bool) (d : Nat) (ihE : XS 54 hs (fun t r f => exprF hs t 0 r f) shI d) (ihB : XS 41 hs (bodyF hs) shB d) (ihC : RS 62 hs (choicesF hs) shC d) (w : World) (k num pos : Int) (s : ByteArray) (K : List Nd) (a : Option Addr) (c m : Nat) (hR : RowN (NIn w d) w a K) (hcp : K.length ≤ c ∧ c ≤ 9223372036854775807) (hs0 : K.length ≤ 2199023255488) (hnum : (K.length : Int) - num = (m : Int)) (hm : m ≤ K.length) (hKC : ∀ i (hi : i < (K.take m).length), Okk shC (K.take m)[i]) (hKA : ∀ i (hi : i < (K.drop m).length), Okk shA (K.drop m)[i]) (bc bf bm b : Nat) (bs : List Nat) (f : Fr) (r : List Fr) (hC : Ctx w bc bf hs bm b bs f r) (G : Except Flt Fr) (HGG : Hid (G = rcvF hs m K r f)) :
    Calls Tryd.prog 63 #[.pointer (some ⟨bc, 0, none⟩), .agg #[.int .u8 k, .string s, .int .i64 num, .int .i64 pos, .slice a K.length c], .pointer (some ⟨b, 0, none⟩)] w (Ret G bm w) := by
  have hmf : ∀ (fn : Fn) (first cap : Array Value) (w : World), (Instr.makeFunc fn first cap).run Tryd.prog w = .ok (.func fn first cap) w := fun _ _ _ _ => rfl
  obtain ⟨a2, ha2⟩ : ∃ a2, a2 = (if c = m then a else a.map (·.add (m * 5))) := ⟨_, rfl⟩
  obtain ⟨D, hD⟩ : ∃ D, D = K.drop m := ⟨_, rfl⟩
  have hDl : K.length - m = D.length := by rw [hD]; simp
  have HR2 : Hid (RowN (NIn w d) w a2 D) := by rw [ha2, hD]; exact hR.low m hcp.1
  have hsl : ∀ w, (Instr.sliceAt 27 (.slice a K.length c) (some (.int .i64 (m : Nat))) none none).run Tryd.prog w = .ok (.slice a2 D.length (c - m)) w := fun w => by rw [ha2, ← hDl]; exact run_sll a K.length c m hm hcp.1 w
  have HGX : Hid (G = (match choicesF hs (K.take m) r f with | .ok f' => rcvF hs 0 D r f' | .error e => .error e)) := by rw [HGG.out, rcvF_split hs r m K f hm, ← hD]; rfl
  have hDs : D.length ≤ 2199023255488 := by omega
  have hlm : (K.take m).length = m := by simp; omega
  have HR : Hid (RowN (NIn w d) w a K) := hR
  have HKC : Hid (∀ i (hi : i < (K.take m).length), Okk shC (K.take m)[i]) := hKC
  have HKA : Hid (∀ i (hi : i < D.length), Okk shA D[i]) := by subst hD; exact hKA
  have HC : Hid (Ctx w bc bf hs bm b bs f r) := hC
  have HN : Hid (NmIs w bm f) := hC.nm
  have IE : Hid (XS 54 hs (fun t r f => exprF hs t 0 r f) shI d) := ihE
  have IB : Hid (XS 41 hs (bodyF hs) shB d) := ihB
  have IC : Hid (RS 62 hs (choicesF hs) shC d) := ihC
  have hm1 : (m : Int) ≤ (K.length : Int) := by omega
  have hm2 : (m : Int) ≤ 2199023255488 := by omega
  clear hR hKC hKA hC ihE ihB ihC ha2 hD HGG hDl
  go_enter Tryd.func63, Tryd.ntmps63
  go_wp2_with fail
  rename_i K1 hK1
  obtain ⟨w0, hw0⟩ : ∃ w0, w0 = (w.alloc (.cells #[.pointer (some ⟨bc, 0, none⟩)] 48)).alloc (.cells #[.int .u8 k, .string s, .int .i64 num, .int .i64 pos, .slice a K.length c] 29) := ⟨_, rfl⟩
  have U1 : Hid (Upd [] w w0) := by rw [hw0]; exact ((Upd.refl [] w).alloc _).alloc _
  have cC : Hid (w0.cell? ⟨w.heap.size, 0, none⟩ = some (.pointer (some ⟨bc, 0, none⟩))) := by rw [hw0]; exact cell_of_row _ _ 0 _ _ _ ((Below.heap_alloc _ _ _ (by simp)).trans (heap_alloc_new w _))
  have T4 : Hid (Tb w0 (w.heap.size + 1) #[.int .u8 k, .string s, .int .i64 num, .int .i64 pos, .slice a K.length c]) := by rw [hw0]; exact Tb.new _ _ _ (by simp)
  rw [← hw0]
  clear hw0
  have N0 : Hid (NmIs w0 bm f) := HN.out.mono U1.out (by simp)
  have C0 : Hid (Ctx w0 bc bf hs bm b bs f r) := HC.out.mono U1.out
  have HR0 : Hid (RowN (NIn w0 d) w0 a2 D) := HR2.out.imp U1.out (NIn.mono U1.out d)
  have CC : Hid (∀ w5, Upd [] w0 w5 → Calls Tryd.prog 62 #[.pointer (some ⟨bc, 0, none⟩), .slice a m c, .pointer (some ⟨b, 0, none⟩)] w5 (Ret (choicesF hs (K.take m) r f) bm w5)) := fun w5 h5 => by
    have := IC.out w5 a c (K.take m) (RowN.take (HR.out.imp (U1.out.trans h5) (NIn.mono (U1.out.trans h5) d)) m) (by omega) HKC.out bc bf bm b bs f r (C0.out.mono h5)
    rw [hlm] at this
    exact this
  clear HR HR2 HC HN IC HKC
  refine region_lastT (by kernel_rfl) 6 rfl [some 15, some 16, some 17, some 18, some 19, some 20, some 21] rfl (by decide) rfl (by kernel_rfl) (by kernel_rfl) (fun j v _ => match j with | 0 => v = .pointer (some ⟨bc, 0, none⟩) | 1 => v = .pointer (some ⟨w.heap.size + 1, 4, none⟩) | 2 => v = .slice a K.length c | 3 => v = .int .i64 (m : Nat) | 4 => v = .slice a m c | 5 => v = .pointer (some ⟨b, 0, none⟩) | _ => True) (fun j v w w' h _ => h) ?_ ?_
  · intro D vs a' w5 i o' hA hU hV hS hi ho haf
    have hc5 : i = 0 ∨ i = 1 ∨ i = 2 ∨ i = 3 ∨ i = 4 ∨ i = 5 := by omega
    rcases hc5 with rfl | rfl | rfl | rfl | rfl | rfl <;> cases ho
    · exact ops_wp rfl rfl (wp_lchk (.tmp 3) rfl _ _ (hA.ev 3 (by decide)) ((hU.cell (cell_lt cC.out) (by simp)).trans cC.out) ⟨_, rfl, rfl, Upd.refl _ _⟩)
    · exact ops_wp rfl rfl (wp_nf4 (.tmp 4) rfl _ (hA.ev 4 (by decide)) ⟨_, rfl, rfl, Upd.refl _ _⟩)
    · have D1 := haf ⟨1, .data⟩ (by simp) rfl
      exact ops_wp rfl rfl (wp_lrow (.tmp 16) rfl _ _ ((hS 1 16 rfl D1).trans (hV 1 D1)) ((T4.out.mono hU (by simp)).cell 4) ⟨_, rfl, rfl, Upd.refl _ _⟩)
    · exact ops_wp rfl rfl (wp_move (.tmp 6) rfl _ (hA.ev 6 (by decide)) ⟨_, rfl, rfl, Upd.refl _ _⟩)
    · have D2 := haf ⟨2, .data⟩ (by simp) rfl
      have D3 := haf ⟨3, .data⟩ (by simp) rfl
      exact ops_wp rfl rfl (wp_slh (.tmp 17) (.tmp 18) rfl _ _ _ m (by omega) ((hS 2 17 rfl D2).trans (hV 2 D2)) ((hS 3 18 rfl D3).trans (hV 3 D3)) ⟨_, rfl, rfl, Upd.refl _ _⟩)
    · exact ops_wp rfl rfl (wp_move (.tmp 2) rfl _ (hA.ev 2 (by decide)) ⟨_, rfl, rfl, Upd.refl _ _⟩)
  · intro vs a' w5 o' hv hA hU hV hS ho
    cases ho
    have D0 : 0 < 6 := by omega
    have D1 : 1 < 6 := by omega
    have D2 : 2 < 6 := by omega
    have D3 : 3 < 6 := by omega
    have D4 : 4 < 6 := by omega
    have D5 : 5 < 6 := by omega
    have e15 : a'.eval (.tmp 15) = _ := ((hS 0 15 rfl D0).trans (hV 0 D0))
    have e19 : a'.eval (.tmp 19) = _ := ((hS 4 19 rfl D4).trans (hV 4 D4))
    have e20 : a'.eval (.tmp 20) = _ := ((hS 5 20 rfl D5).trans (hV 5 D5))
    refine ops_wp rfl rfl (wp_callB rfl Tryd.call62 (vs := #[.pointer (some ⟨bc, 0, none⟩), .slice a m c, .pointer (some ⟨b, 0, none⟩)]) (by simp only [List.map_toArray, List.map_cons, List.map_nil, e15, e19, e20]) ?_)
    refine Calls.mono (CC.out w5 hU) ?_
    rintro e w6 ⟨hu, hm6⟩
    have U6 : Hid (Upd [bm] w0 w6) := hU.into.trans hu
    cases hch : choicesF hs (K.take m) r f with
    | error x =>
      rw [hch] at hm6
      have hm3 : e = .panicked [{ v := .iface 33 (.agg #[.int .i64 x.1, .int .i64 x.2]), recovered := false }] := hm6
      exact Or.inr ⟨_, hm3, hA.def', ret_err (by rw [HGX.out, hch]) (U1.out.into.trans U6.out)⟩
    | ok f6 =>
      rw [hch] at hm6
      obtain ⟨⟨u, rfl⟩, hn⟩ := hm6
      refine Or.inl ⟨u, rfl, u, rfl, ?_⟩
      obtain ⟨v0, r0, rfl, hv0⟩ := list_cons hv
      obtain ⟨v1, r1, rfl, hv1⟩ := list_cons hv0
      obtain ⟨v2, r2, rfl, hv2⟩ := list_cons hv1
      obtain ⟨v3, r3, rfl, hv3⟩ := list_cons hv2
      obtain ⟨v4, r4, rfl, hv4⟩ := list_cons hv3
      obtain ⟨v5, r5, rfl, hv5⟩ := list_cons hv4
      obtain ⟨v6, r6, rfl, hv6⟩ := list_cons hv5
      simp only [List.set_cons_succ, List.set_cons_zero, putAll, Act.put, List.setIfInBounds_toArray]
      have N6 : Hid (NmIs w6 bm f6) := hn
      have HG6 : Hid (G = rcvF hs 0 D r f6) := by rw [HGX.out, hch]; rfl
      have z4 : w6.cell? ⟨w.heap.size + 1, 4, none⟩ = some (.slice a K.length c) := cell_of_row _ _ 4 _ _ _ (N0.out.keepBlock U6.out T4.out)
      clear hV hS hA hU hu hn hch HGX CC e15 e19 e20 D0 D1 D2 D3 D4 D5 hv hv0 hv1 hv2 hv3 hv4 hv5 hv6
      show K1 _ _
      refine hK1 _ _ ?_
      clear hK1
      go_wp2_with fail
      go_loopw [27] (fun i wr => ∃ (q : Nat) (fi : Fr), q ≤ D.length ∧ i = .int .i64 q ∧ Hid (rcvF hs 0 D r f6 = rcvF hs 0 (D.drop q) r fi) ∧ Upd [bm] w0 wr ∧ NmIs wr bm fi) (fun i _ => D.length - (intOf i).toNat)
      case atStart => exact ⟨0, f6, Nat.zero_le _, rfl, rfl, U6.out, N6.out⟩
      case round =>
        obtain ⟨q, fi, hq, rfl, HP, hu, hn⟩ := hrel
        have HU : Hid (Upd [bm] w0 wr) := hu
        have HNi : Hid (NmIs wr bm fi) := hn
        clear hu hn
        by_cases hlt : q < D.length
        · have i1 : (q : Int) < (D.length : Int) := by omega
          obtain ⟨b3, o3, hae, cs, hl5, hcell, hin⟩ := HR0.out.atK q hlt
          subst hae
          have hone := hin.one
          have hin' := NIn.keep N0.out HU.out _ _ _ hin
          have hc5 : ∀ j, j < 5 → wr.cell? ⟨b3, o3 + (q * 5 + j), none⟩ = cs[j]? := fun j hj => by
            have := hcell j hj
            rw [List.getElem?_eq_getElem (by omega)] at this ⊢
            exact N0.out.cell HU.out this
          have HQ := HKA.out q hlt
          have HP2 := HP.out
          rw [rcvF_0 hs r D q hlt] at HP2
          obtain ⟨tq, htq⟩ : ∃ tq, tq = D[q] := ⟨_, rfl⟩
          rw [← htq] at HQ hin' HP2
          clear htq hcell hin
          cases d with
          | zero => exact absurd hin' (fun h => h)
          | succ d =>
          obtain ⟨ks, ss, ns, ps, Ks⟩ := tq
          obtain ⟨_, hsh, _⟩ := id HQ
          obtain ⟨_, hkid⟩ := kid_ok HQ.1 HQ.2.2
          have hl2 : ∃ e B, Ks = [e, B] := shA_two hsh
          obtain ⟨e, B, rfl⟩ := hl2
          rw [shA, Bool.and_eq_true] at hsh
          obtain ⟨aq, cq, rfl, hRq, hcpq⟩ := hin'
          have K1e : Hid (Okk shI e) := ⟨(hkid 0 (by simp)).1, hsh.1, (hkid 0 (by simp)).2⟩
          have K2B : Hid (Okk shB B) := ⟨(hkid 1 (by simp)).1, hsh.2, (hkid 1 (by simp)).2⟩
          obtain ⟨b4, o4, hae4, cp, h50, hcp0, hinp⟩ := hRq.atK 0 (by simp)
          subst hae4
          obtain ⟨b5, o5, hae5, ce, h51, hce0, hine⟩ := hRq.atK 1 (by simp)
          obtain ⟨rfl, rfl⟩ : b4 = b5 ∧ o4 = o5 := by cases hae5; exact ⟨rfl, rfl⟩
          clear hae5
          have HI1 : Hid (NIn wr (d + 1) cp e) := NIn.up _ _ _ hinp
          have HI2 : Hid (NIn wr (d + 1) ce B) := NIn.up _ _ _ hine
          obtain ⟨p0, p1, p2, p3, p4, rfl⟩ := list5 h50
          obtain ⟨q0, q1, q2, q3, q4, rfl⟩ := list5 h51
          have y0 : Hid (wr.cell? ⟨b4, o4, none⟩ = some p0) := hcp0 0 (by omega)
          have y1 : Hid (wr.cell? ⟨b4, o4 + 1, none⟩ = some p1) := hcp0 1 (by omega)
          have y2 : Hid (wr.cell? ⟨b4, o4 + 2, none⟩ = some p2) := hcp0 2 (by omega)
          have y3 : Hid (wr.cell? ⟨b4, o4 + 3, none⟩ = some p3) := hcp0 3 (by omega)
          have y4 : Hid (wr.cell? ⟨b4, o4 + 4, none⟩ = some p4) := hcp0 4 (by omega)
          have r0 : Hid (wr.cell? ⟨b4, o4 + 5, none⟩ = some q0) := hce0 0 (by omega)
          have r1 : Hid (wr.cell? ⟨b4, o4 + 6, none⟩ = some q1) := hce0 1 (by omega)
          have r2 : Hid (wr.cell? ⟨b4, o4 + 7, none⟩ = some q2) := hce0 2 (by omega)
          have r3 : Hid (wr.cell? ⟨b4, o4 + 8, none⟩ = some q3) := hce0 3 (by omega)
          have r4 : Hid (wr.cell? ⟨b4, o4 + 9, none⟩ = some q4) := hce0 4 (by omega)
          have x0 : wr.cell? ⟨b3, o3 + q * 5, none⟩ = some (.int .u8 ks) := hc5 0 (by omega)
          have x1 : wr.cell? ⟨b3, o3 + q * 5 + 1, none⟩ = some (.string ss) := hc5 1 (by omega)
          have x2 : wr.cell? ⟨b3, o3 + q * 5 + 2, none⟩ = some (.int .i64 ns) := hc5 2 (by omega)
          have x3 : wr.cell? ⟨b3, o3 + q * 5 + 3, none⟩ = some (.int .i64 ps) := hc5 3 (by omega)
          have x4 : wr.cell? ⟨b3, o3 + q * 5 + 4, none⟩ = some (.slice (some ⟨b4, o4, none⟩) 2 cq) := hc5 4 (by omega)
          have HCi : Hid (Ctx wr bc bf hs bm b bs fi r) := C0.out.upd HU.out HNi.out
          have tz : Tb (wr.alloc (.cells #[.int .u8 0, .string ⟨#[]⟩, .int .i64 0, .int .i64 0, .slice none 0 0] 29)) wr.heap.size #[.int .u8 0, .string ⟨#[]⟩, .int .i64 0, .int .i64 0, .slice none 0 0] := Tb.new _ _ _ rfl
          have HUZ : Hid (Upd [] wr (wr.alloc (.cells #[.int .u8 0, .string ⟨#[]⟩, .int .i64 0, .int .i64 0, .slice none 0 0] 29))) := (Upd.refl [] wr).alloc _
          have HPX : Hid (rcvF hs 0 D r f6 = (match (match exprF hs e 0 r fi with | .ok f' => asideR f' (bodyF hs B (f' :: r) Fr0) | .error x => .error x) with | .ok f' => rcvF hs 0 (D.drop (q + 1)) r f' | .error e => .error e)) := by rw [HP2, afterF_eq]; rfl
          have HGP : Hid (G = (match (match exprF hs e 0 r fi with | .ok f' => asideR f' (bodyF hs B (f' :: r) Fr0) | .error x => .error x) with | .ok f' => rcvF hs 0 (D.drop (q + 1)) r f' | .error e => .error e)) := HG6.out.trans HPX.out
          clear hc5 hRq HP2 HP hcp0 hce0 hinp hine h50 h51 hkid hsh HQ
          go_wp2_with (first
            | (refine store_T _ rfl _ _ rfl _ #[.int .u8 ks, .string ss, .int .i64 ns, .int .i64 ps, .slice (some ⟨b4, o4, none⟩) 2 cq] _ rfl rfl tz rfl rfl hone ?_; intro w1 t1 u1; have V1 : Hid (Upd [] wr w1) := HUZ.out.then u1 (by simp); have T1 : Hid (Tb w1 wr.heap.size #[.int .u8 ks, .string ss, .int .i64 ns, .int .i64 ps, .slice (some ⟨b4, o4, none⟩) 2 cq]) := t1)
            | fail)
          rename_i K2 hK2
          have c1 : Hid (w1.cell? ⟨w.heap.size, 0, none⟩ = some (.pointer (some ⟨bc, 0, none⟩))) := (V1.out.cell (cell_lt (N0.out.cell HU.out cC.out)) (by simp)).trans (N0.out.cell HU.out cC.out)
          have j0 : Hid (w1.cell? ⟨b4, o4, none⟩ = some p0) := (V1.out.cell (cell_lt y0.out) (by simp)).trans y0.out
          have j1 : Hid (w1.cell? ⟨b4, o4 + 1, none⟩ = some p1) := (V1.out.cell (cell_lt y1.out) (by simp)).trans y1.out
          have j2 : Hid (w1.cell? ⟨b4, o4 + 2, none⟩ = some p2) := (V1.out.cell (cell_lt y2.out) (by simp)).trans y2.out
          have j3 : Hid (w1.cell? ⟨b4, o4 + 3, none⟩ = some p3) := (V1.out.cell (cell_lt y3.out) (by simp)).trans y3.out
          have j4 : Hid (w1.cell? ⟨b4, o4 + 4, none⟩ = some p4) := (V1.out.cell (cell_lt y4.out) (by simp)).trans y4.out
          have g0 : Hid (w1.cell? ⟨b4, o4 + 5, none⟩ = some q0) := (V1.out.cell (cell_lt r0.out) (by simp)).trans r0.out
          have g1 : Hid (w1.cell? ⟨b4, o4 + 6, none⟩ = some q1) := (V1.out.cell (cell_lt r1.out) (by simp)).trans r1.out
          have g2 : Hid (w1.cell? ⟨b4, o4 + 7, none⟩ = some q2) := (V1.out.cell (cell_lt r2.out) (by simp)).trans r2.out
          have g3 : Hid (w1.cell? ⟨b4, o4 + 8, none⟩ = some q3) := (V1.out.cell (cell_lt r3.out) (by simp)).trans r3.out
          have g4 : Hid (w1.cell? ⟨b4, o4 + 9, none⟩ = some q4) := (V1.out.cell (cell_lt r4.out) (by simp)).trans r4.out
          clear x0 x1 x2 x3 x4 y0 y1 y2 y3 y4 r0 r1 r2 r3 r4 t1 u1 tz HUZ z4 hsl
          refine region_lastT (by kernel_rfl) 6 rfl [some 31, some 32, some 33, some 34, some 35, some 36, some 37] rfl (by decide) rfl (by kernel_rfl) (by kernel_rfl) (fun j v _ => match j with | 0 => v = .pointer (some ⟨bc, 0, none⟩) | 1 => v = .pointer (some ⟨wr.heap.size, 4, none⟩) | 2 => v = .slice (some ⟨b4, o4, none⟩) 2 cq | 3 => v = .pointer (some ⟨b4, o4, none⟩) | 4 => v = .agg #[p0, p1, p2, p3, p4] | 5 => v = .pointer (some ⟨b, 0, none⟩) | _ => True) (fun j v w w' h _ => h) ?_ ?_
          · intro D vs a' w5 i o' hA hU hV hS hi ho haf
            have hc5 : i = 0 ∨ i = 1 ∨ i = 2 ∨ i = 3 ∨ i = 4 ∨ i = 5 := by omega
            rcases hc5 with rfl | rfl | rfl | rfl | rfl | rfl <;> cases ho
            · exact ops_wp rfl rfl (wp_lchk (.tmp 3) rfl _ _ (hA.ev 3 (by decide)) ((hU.cell (cell_lt c1.out) (by simp)).trans c1.out) ⟨_, rfl, rfl, Upd.refl _ _⟩)
            · exact ops_wp rfl rfl (wp_nf4 (.tmp 8) rfl _ (hA.ev 8 (by decide)) ⟨_, rfl, rfl, Upd.refl _ _⟩)
            · have D1 := haf ⟨1, .data⟩ (by simp) rfl
              exact ops_wp rfl rfl (wp_lrow (.tmp 32) rfl _ _ ((hS 1 32 rfl D1).trans (hV 1 D1)) ((T1.out.mono hU (by simp)).cell 4) ⟨_, rfl, rfl, Upd.refl _ _⟩)
            · have D2 := haf ⟨2, .data⟩ (by simp) rfl
              exact ops_wp rfl rfl (wp_idx0 (.tmp 33) rfl b4 o4 2 cq (by omega) ((hS 2 33 rfl D2).trans (hV 2 D2)) ⟨_, rfl, rfl, Upd.refl _ _⟩)
            · have D3 := haf ⟨3, .data⟩ (by simp) rfl
              exact ops_wp rfl rfl (wp_row5 (.tmp 34) rfl b4 o4 p0 p1 p2 p3 p4 ((hS 3 34 rfl D3).trans (hV 3 D3)) ((hU.cell (cell_lt j0.out) (by simp)).trans j0.out) ((hU.cell (cell_lt j1.out) (by simp)).trans j1.out) ((hU.cell (cell_lt j2.out) (by simp)).trans j2.out) ((hU.cell (cell_lt j3.out) (by simp)).trans j3.out) ((hU.cell (cell_lt j4.out) (by simp)).trans j4.out) ⟨_, rfl, rfl, Upd.refl _ _⟩)
            · exact ops_wp rfl rfl (wp_move (.tmp 2) rfl _ (hA.ev 2 (by decide)) ⟨_, rfl, rfl, Upd.refl _ _⟩)
          · intro vs a' w5 o' hv hA hU hV hS ho
            cases ho
            have D0 : 0 < 6 := by omega
            have D1 : 1 < 6 := by omega
            have D2 : 2 < 6 := by omega
            have D3 : 3 < 6 := by omega
            have D4 : 4 < 6 := by omega
            have D5 : 5 < 6 := by omega
            have e31 : a'.eval (.tmp 31) = _ := ((hS 0 31 rfl D0).trans (hV 0 D0))
            have e35 : a'.eval (.tmp 35) = _ := ((hS 4 35 rfl D4).trans (hV 4 D4))
            have e36 : a'.eval (.tmp 36) = _ := ((hS 5 36 rfl D5).trans (hV 5 D5))
            refine ops_wp rfl rfl (wp_callB rfl Tryd.call54 (vs := #[.pointer (some ⟨bc, 0, none⟩), .agg #[p0, p1, p2, p3, p4], .pointer (some ⟨b, 0, none⟩)]) (by simp only [List.map_toArray, List.map_cons, List.map_nil, e31, e35, e36]) ?_)
            refine Calls.mono (IE.out w5 _ e (NIn.mono (V1.out.trans hU) _ _ _ HI1.out) K1e.out bc bf bm b bs fi r (HCi.out.mono (V1.out.trans hU))) ?_
            rintro e' w2 hret
            have hret : Ret (exprF hs e 0 r fi) bm w5 e' w2 := hret
            obtain ⟨hu2, hm2⟩ := hret
            have UR : Hid (Upd [bm] w1 w2) := hU.into.trans hu2
            have U2 : Hid (Upd [bm] w0 w2) := HU.out.trans (V1.out.into.trans UR.out)
            cases hpf : exprF hs e 0 r fi with
            | error x =>
              rw [hpf] at hm2
              have hm3 : e' = .panicked [{ v := .iface 33 (.agg #[.int .i64 x.1, .int .i64 x.2]), recovered := false }] := hm2
              exact Or.inr ⟨_, hm3, hA.def', ret_err (by rw [HGP.out, hpf]) (U1.out.into.trans U2.out)⟩
            | ok f2 =>
              rw [hpf] at hm2
              obtain ⟨⟨u, rfl⟩, hn2⟩ := hm2
              refine Or.inl ⟨u, rfl, u, rfl, ?_⟩
              obtain ⟨v0, r0, rfl, hv0⟩ := list_cons hv
              obtain ⟨v1, r1, rfl, hv1⟩ := list_cons hv0
              obtain ⟨v2, r2, rfl, hv2⟩ := list_cons hv1
              obtain ⟨v3, r3, rfl, hv3⟩ := list_cons hv2
              obtain ⟨v4, r4, rfl, hv4⟩ := list_cons hv3
              obtain ⟨v5, r5, rfl, hv5⟩ := list_cons hv4
              obtain ⟨v6, r6, rfl, hv6⟩ := list_cons hv5
              simp only [List.set_cons_succ, List.set_cons_zero, putAll, Act.put, List.setIfInBounds_toArray]
              have N2 : Hid (NmIs w2 bm f2) := hn2
              have HPA : Hid (rcvF hs 0 D r f6 = (match asideR f2 (bodyF hs B (f2 :: r) Fr0) with | .ok f' => rcvF hs 0 (D.drop (q + 1)) r f' | .error e => .error e)) := by rw [HPX.out, hpf]; rfl
              have N1 : Hid (NmIs w1 bm fi) := HNi.out.mono V1.out (by simp)
              have PO : PartOk 71 #[.pointer (some ⟨w.heap.size, 0, none⟩), .pointer (some ⟨wr.heap.size, 0, none⟩)] w2 (bm :: bs) (f2 :: r) (bodyF hs B (f2 :: r) Fr0) := recc_in hs _ IB.out w2 ks ns ps ss B b4 o4 cq q0 q1 q2 q3 q4 (N1.out.cell UR.out g0.out) (N1.out.cell UR.out g1.out) (N1.out.cell UR.out g2.out) (N1.out.cell UR.out g3.out) (N1.out.cell UR.out g4.out) (NIn.keep HNi.out (V1.out.into.trans UR.out) _ _ _ HI2.out) K2B.out bc bf bm b _ _ bs f2 r (HCi.out.upd (V1.out.into.trans UR.out) N2.out) (N1.out.cell UR.out c1.out) (N1.out.keepBlock UR.out T1.out)
              have BG := aside_gen _ _ Tryd.call71 bm b bs f2 r w2 _ (HCi.out.upd (V1.out.into.trans UR.out) N2.out).ch PO
              obtain ⟨R, hR⟩ : ∃ R, R = asideR f2 (bodyF hs B (f2 :: r) Fr0) := ⟨_, rfl⟩
              rw [← hR] at BG
              have HPR0 := HPA.out
              rw [← hR] at HPR0
              have HPR : Hid _ := HPR0
              clear HPR0
              have HBG : Hid (Calls Tryd.prog 70 #[.pointer (some ⟨b, 0, none⟩), .func (.func 71) #[] #[.pointer (some ⟨w.heap.size, 0, none⟩), .pointer (some ⟨wr.heap.size, 0, none⟩)]] w2 (Ret R bm w2)) := BG
              clear hV hS hA hU hu2 hn2 hpf PO BG hR HPX HGP e31 e35 e36 D0 D1 D2 D3 D4 D5 hv hv0 hv1 hv2 hv3 hv4 hv5 hv6
              show K2 _ _
              refine hK2 _ _ ?_
              clear hK2
              go_wp2_with fail
              refine Calls.mono HBG.out ?_
              rintro e' w3 ⟨hu3, hm3⟩
              have U3 : Hid (Upd [bm] w0 w3) := U2.out.trans hu3
              clear hu3 HBG
              cases R with
              | ok f3 =>
                obtain ⟨⟨u, rfl⟩, hn3⟩ := hm3
                have N3 : Hid (NmIs w3 bm f3) := hn3
                have HP3 : Hid (rcvF hs 0 D r f6 = rcvF hs 0 (D.drop (q + 1)) r f3) := HPR.out
                clear hn3 HPR HPA
                go_wp2_with fail
                go_roundw
                case rel => exact ⟨q + 1, f3, by omega, by go_num, HP3, U3.out, N3.out⟩
                case measure => simp [intOf]; omega
              | error x =>
                have hm4 : e' = .panicked [{ v := .iface 33 (.agg #[.int .i64 x.1, .int .i64 x.2]), recovered := false }] := hm3
                subst hm4
                have HG3 : Hid (G = .error x) := HG6.out.trans HPR.out
                have U9 : Hid (Upd [bm] w w3) := U1.out.into.trans U3.out
                clear hm3
                go_wp2_with fail
                exact ⟨rfl, ret_err HG3.out U9.out⟩
        · have hd : decide ((q : Int) < (D.length : Int)) = false := by simp; omega
          have hqe : q = D.length := by omega
          have HP3 : Hid (G = .ok fi) := by
            have := HP.out
            rw [hqe, List.drop_length, rcvF] at this
            exact HG6.out.trans this
          have U9 : Hid (Upd [bm] w wr) := U1.out.into.trans HU.out
          go_wp2_with fail
          exact bodyPost_end (results_none rfl _ _ _) rfl (ret_ok HP3.out U9.out HNi.out)
end Go.Proofs.YtpgjcedonimgnaaDoor
