/- lint's expressions, of whatever trees: by the depth. -/
import Derived.Test.YtpgjcedonimgnaaDoorGmX

namespace Go.Proofs.YtpgjcedonimgnaaDoor
open Go.RowKit

theorem XS.down {F : Nat} {hs : ByteArray → Int → Bool} {G : Nd → List Fr → Fr → Except Flt Fr} {p : Nd → Bool} {d : Nat} (h : XS F hs G p (d + 1)) : XS F hs G p d := fun w cs t hin => h w cs t (NIn.up _ _ _ hin)
theorem shI_kids {k num pos : Int} {s : ByteArray} {K : List Nd} (h : shI (.mk k s num pos K) = true) (h10 : k ≠ 10) (h12 : k ≠ 12) (h13 : k ≠ 13) (h14 : k ≠ 14) (h16 : k ≠ 16) (h17 : k ≠ 17) : shIs K = true := by
  rw [shI] at h
  simp only [h10, h12, h13, h14, h16, h17, if_false] at h
  split at h
  · exact ((Bool.and_eq_true _ _).mp h).2
  · split at h
    · exact ((Bool.and_eq_true _ _).mp h).2
    · exact h
theorem shRs_take : ∀ (m : Nat) (K : List Nd), shRs m K = true → ∀ i (hi : i < (K.take m).length), shC (K.take m)[i] = true
  | 0, K, _, i, hi => by simp at hi
  | m + 1, [], _, i, hi => by simp at hi
  | m + 1, n :: K, h, 0, _ => by rw [shRs, Bool.and_eq_true] at h; exact h.1
  | m + 1, n :: K, h, i + 1, hi => by rw [shRs, Bool.and_eq_true] at h; exact shRs_take m K h.2 i (by simpa using hi)
theorem shRs_zero : ∀ (K : List Nd), shRs 0 K = true → ∀ i (hi : i < K.length), shA K[i] = true
  | [], _, i, hi => by simp at hi
  | n :: K, h, 0, _ => by rw [shRs, Bool.and_eq_true] at h; exact h.1
  | n :: K, h, i + 1, hi => by rw [shRs, Bool.and_eq_true] at h; exact shRs_zero K h.2 i (by simpa using hi)
theorem shRs_drop : ∀ (m : Nat) (K : List Nd), shRs m K = true → shRs 0 (K.drop m) = true
  | 0, K, h => h
  | m + 1, [], _ => by simp [shRs]
  | m + 1, n :: K, h => by rw [shRs, Bool.and_eq_true] at h; exact shRs_drop m K h.2
theorem shC_hasP {t : Nd} (h : shC t = true) : hasP t = true := by
  obtain ⟨k, s, num, pos, K⟩ := t
  match K, h with
  | [], h => simp [shC] at h
  | _ :: _, _ => rfl
theorem run_sl1 (ad : Option Addr) (n c : Nat) (hm : 1 ≤ n) (hc : n ≤ c) (w : World) : (Instr.sliceAt 27 (.slice ad n c) (some (.int .i64 1)) none none).run Tryd.prog w = .ok (.slice (if c = 1 then ad else ad.map (·.add (1 * 5))) (n - 1) (c - 1)) w := run_sll ad n c 1 hm hc w

set_option maxHeartbeats 2000000 in
/-- The check of an expression, out of the checks of what is less deep. -/
theorem expression_in (hs : ByteArray → Int → Bool) (d : Nat) (ihE : XS 54 hs (fun t r f => exprF hs t 0 r f) shI d) (ihI : XS 48 hs (fun t r f => exprF hs t 1 r f) shI d) (ihB : XS 41 hs (bodyF hs) shB d) (ihC : XS 31 hs (clauseF hs) shC d) : XS 54 hs (fun t r f => exprF hs t 0 r f) shI (d + 1) := by
  intro w cs t hin hok bc bf bm b bs f r hC
  obtain ⟨k, s, num, pos, K⟩ := t
  have hin0 := hin
  obtain ⟨a, c, rfl, hR, hcp⟩ := hin
  obtain ⟨o1, o2, o3⟩ := id hok
  obtain ⟨hs0, hkid⟩ := kid_ok o1 o3
  have hN := hC.nm
  show Calls _ _ _ _ (Ret (exprF hs (.mk k s num pos K) 0 r f) bm w)
  have rows : ∀ W, Upd [] w W → RowN (NIn W d) W a K := fun W hW => hR.imp hW (NIn.mono hW d)
  have rowb : ∀ W, Upd [bm] w W → RowN (NIn W d) W a K := fun W hW => RowN.keep hN hW d a K hR
  by_cases h8 : k = 8
  · subst h8
    exact ex_match w num pos s K a c bc bm b _ (show _ = _ from by rw [exprF]; simp)
  by_cases h3 : k = 3
  · subst h3
    exact ex_var w num pos s K a c bc bm b _ f (varF (f :: r) s pos) hN (show _ = _ from by rw [exprF]; simp; rfl) (fun W hW => variable_in 3 num pos s a K.length c (bm :: bs) (f :: r) _ W (hC.mono hW).ch)
  by_cases h9 : k = 9
  · subst h9
    exact ex_call w num pos s K a c bc bm b _ (fun W hW => call_in hs d (expressions_in hs d ihE) W _ s num pos K (NIn.mono hW _ _ _ hin0) hok bc bf bm b bs f r (hC.mono hW))
  by_cases h11 : k = 11
  · subst h11
    exact ex_name w num pos s K a c bc bm b _ hs bf f hN hC.env (show _ = _ from by rw [exprF]; simp)
  by_cases h10 : k = 10
  · subst h10
    rw [shI, if_neg (by omega), if_neg (by omega), if_pos rfl, Bool.and_eq_true] at o2
    have h0 : 0 < K.length := by simpa using o2.1
    have hK : ∀ i (hi : i < K.length), Okk shC K[i] := fun i hi => ⟨(hkid i hi).1, shCs_get K o2.2 i hi, (hkid i hi).2⟩
    obtain ⟨b2, o, hae, cs0, h50, hcell, hin1⟩ := hR.atK 0 h0
    subst hae
    have hG : exprF hs (.mk 10 s num pos K) 0 r f = (match alikeF (headPat K : Nat) K with | none => headsF hs K r f | some e => .error e) := by
      rw [exprF]
      simp
      cases alikeF (headPat K : Nat) K <;> rfl
    have hhp : headPat K = patN K[0] := by cases K with | nil => simp at h0 | cons n L => rfl
    have hc4 : w.cell? ⟨b2, o + 4, none⟩ = cs0[4]? := by have := hcell 4 (by omega); simpa using this
    have hsc := (hK 0 h0).2.1
    obtain ⟨t0, ht0⟩ : ∃ t0, t0 = K[0] := ⟨_, rfl⟩
    rw [← ht0] at hin1 hsc hhp
    obtain ⟨k1, s1, n1, p1, K1⟩ := t0
    have hd0 : ∃ d', d = d' + 1 := by
      cases d with
      | zero => exact absurd hin1 (fun h => h)
      | succ d' => exact ⟨d', rfl⟩
    obtain ⟨d', rfl⟩ := hd0
    obtain ⟨a1, c1, rfl, hR1, hcp1⟩ := hin1
    match K1, hsc, hR1, hcp1, hc4, hhp with
    | [], hsc, _, _, _, _ => exact absurd hsc (by simp [shC])
    | P :: KP, hsc, hR1, hcp1, hc4, hhp =>
      obtain ⟨b3, o3, hae, csP, h5P, hcellP, hinP⟩ := hR1.atK 0 (by simp)
      subst hae
      have hcP : w.cell? ⟨b3, o3 + 4, none⟩ = csP[4]? := by have := hcellP 4 (by omega); simpa using this
      obtain ⟨kP, sP, nP, pP, KK⟩ := P
      have hd1 : ∃ d'', d' = d'' + 1 := by
        cases d' with
        | zero => exact absurd hinP (fun h => h)
        | succ d' => exact ⟨d', rfl⟩
      obtain ⟨d'', rfl⟩ := hd1
      obtain ⟨a4, c4, rfl, _, _⟩ := hinP
      have hn4 : headPat K = KK.length := hhp
      rw [hn4] at hG
      exact ex_fun w num pos s K _ c bc bm b _ b2 o rfl h0 b3 o3 _ c1 (by simp) a4 KK.length c4 hc4 hcP _ (headsF hs K r f) hG (fun W hW => alike_in _ W _ c K _ (rows W hW) hs0 (fun i hi => shC_hasP (hK i hi).2.1)) (fun W hW => heads_in hs _ ihC W _ c K (rows W hW) hs0 hK bc bf bm b bs f r (hC.mono hW))
  by_cases h12 : k = 12
  · subst h12
    rw [shI, if_neg (by omega), if_neg (by omega), if_neg (by omega), if_pos rfl] at o2
    match K, hR, hcp, hs0, hkid, o2, rowb with
    | [], _, _, _, _, o2, _ => exact absurd o2 (by simp [sh12])
    | n :: L, hR, hcp, hs0, hkid, o2, rowb =>
      rw [sh12, Bool.and_eq_true] at o2
      obtain ⟨b2, o, hae, cs0, h50, hcell, hin1⟩ := hR.atK 0 (by simp)
      subst hae
      have hc0 : ∀ j, j < 5 → w.cell? ⟨b2, o + j, none⟩ = cs0[j]? := fun j hj => by
        have := hcell j hj
        simpa using this
      obtain ⟨p0, p1, p2, p3, p4, rfl⟩ := list5 h50
      have hL : ∀ i (hi : i < L.length), Okk shC L[i] := fun i hi => ⟨(hkid (i + 1) (by simpa using hi)).1, shCs_get L o2.2 i hi, (hkid (i + 1) (by simpa using hi)).2⟩
      have K0 : Okk shI n := ⟨(hkid 0 (by simp)).1, o2.1, (hkid 0 (by simp)).2⟩
      have hx0 : w.cell? ⟨b2, o, none⟩ = some p0 := hc0 0 (by omega)
      have hG : exprF hs (.mk 12 s num pos (n :: L)) 0 r f = (match exprF hs n 0 r f with | .ok f1 => choicesF hs L r f1 | .error e => .error e) := by
        have h : exprF hs (.mk 12 s num pos (n :: L)) 0 r f = caseF hs (n :: L) r f := by rw [exprF]; simp
        rw [h, caseF]
        cases exprF hs n 0 r f <;> rfl
      exact ex_case w num pos s (n :: L) _ c bc bm b _ f hN b2 o rfl (by simp) p0 p1 p2 p3 p4 hx0 (hc0 1 (by omega)) (hc0 2 (by omega)) (hc0 3 (by omega)) (hc0 4 (by omega)) _ L.length (c - 1) (run_sl1 _ (n :: L).length c (by simp) hcp.1) (exprF hs n 0 r f) (fun f1 => choicesF hs L r f1) hG (fun W hW => ihE W _ n (NIn.mono hW _ _ _ hin1) K0 bc bf bm b bs f r (hC.mono hW)) (fun W f1 hW hN1 => choices_in hs d ihC W _ (c - 1) L (RowN.low (rowb W hW) 1 hcp.1) (by simp at hs0; omega) hL bc bf bm b bs f1 r (hC.upd hW hN1))
  by_cases h13 : k = 13
  · subst h13
    rw [shI, if_neg (by omega), if_neg (by omega), if_neg (by omega), if_neg (by omega), if_pos rfl] at o2
    have hK : ∀ i (hi : i < K.length), Okk shC K[i] := fun i hi => ⟨(hkid i hi).1, shCs_get K o2 i hi, (hkid i hi).2⟩
    have hG : exprF hs (.mk 13 s num pos K) 0 r f = choicesF hs K r f := by rw [exprF]; simp
    rw [hG]
    exact ex_if w num pos s K a c bc bm b _ (fun W hW => choices_in hs d ihC W a c K (rows W hW) hs0 hK bc bf bm b bs f r (hC.mono hW))
  by_cases h14 : k = 14
  · subst h14
    rw [shI, if_neg (by omega), if_neg (by omega), if_neg (by omega), if_neg (by omega), if_neg (by omega), if_pos rfl, Bool.and_eq_true] at o2
    have hn : 0 ≤ num ∧ num.toNat ≤ K.length := by simpa using o2.1
    have hG : exprF hs (.mk 14 s num pos K) 0 r f = rcvF hs (K.length - num.toNat) K r f := by rw [exprF]; simp
    rw [hG]
    have hA := shRs_zero _ (shRs_drop _ _ o2.2)
    have hT := shRs_take _ _ o2.2
    exact ex_receive w num pos s K a c bc bm b _ (fun W hW => receive_in hs d ihE ihB (choices_in hs d ihC) W 14 num pos s K a c (K.length - num.toNat) (rows W hW) hcp hs0 (by omega) (by omega) (fun i hi => by
        have := hkid i (by simp at hi; omega)
        rw [List.getElem_take]
        exact ⟨this.1, by have h := hT i hi; rw [List.getElem_take] at h; exact h, this.2⟩) (fun i hi => by
        have := hkid (K.length - num.toNat + i) (by simp at hi; omega)
        rw [List.getElem_drop]
        exact ⟨this.1, by have h := hA i hi; rw [List.getElem_drop] at h; exact h, this.2⟩) bc bf bm b bs f r (hC.mono hW) _ rfl)
  by_cases h16 : k = 16
  · subst h16
    rw [shI, if_neg (by omega), if_neg (by omega), if_neg (by omega), if_neg (by omega), if_neg (by omega), if_neg (by omega), if_pos rfl] at o2
    match K, hR, hcp, hs0, hkid, o2, rowb with
    | [], _, _, _, _, o2, _ => exact absurd o2 (by simp [sh16])
    | n :: L, hR, hcp, hs0, hkid, o2, rowb =>
      rw [sh16, Bool.and_eq_true] at o2
      obtain ⟨b2, o, hae, cs0, h50, hcell, hin1⟩ := hR.atK 0 (by simp)
      subst hae
      have hc0 : ∀ j, j < 5 → w.cell? ⟨b2, o + j, none⟩ = cs0[j]? := fun j hj => by
        have := hcell j hj
        simpa using this
      obtain ⟨p0, p1, p2, p3, p4, rfl⟩ := list5 h50
      have hL : ∀ i (hi : i < L.length), Okk shC L[i] := fun i hi => ⟨(hkid (i + 1) (by simpa using hi)).1, shCs_get L o2.2 i hi, (hkid (i + 1) (by simpa using hi)).2⟩
      have K0 : Okk shB n := ⟨(hkid 0 (by simp)).1, o2.1, (hkid 0 (by simp)).2⟩
      have hx0 : w.cell? ⟨b2, o, none⟩ = some p0 := hc0 0 (by omega)
      have hG : exprF hs (.mk 16 s num pos (n :: L)) 0 r f = (match goneR f (bodyF hs n (f :: r) Fr0) with | .ok f1 => choicesF hs L r f1 | .error e => .error e) := by
        have h : exprF hs (.mk 16 s num pos (n :: L)) 0 r f = tryF hs (n :: L) r f := by rw [exprF]; simp
        rw [h, tryF]
        cases bodyF hs n (f :: r) Fr0 <;> rfl
      exact ex_try w num pos s (n :: L) _ c bc bm b _ f hN b2 o rfl (by simp) p0 p1 p2 p3 p4 hx0 (hc0 1 (by omega)) (hc0 2 (by omega)) (hc0 3 (by omega)) (hc0 4 (by omega)) _ L.length (c - 1) (run_sl1 _ (n :: L).length c (by simp) hcp.1) (goneR f (bodyF hs n (f :: r) Fr0)) (fun f1 => choicesF hs L r f1) hG (fun W hW => block_in hs d ihB W _ n (NIn.mono hW _ _ _ hin1) K0 bc bf bm b bs f r (hC.mono hW)) (fun W f1 hW hN1 => choices_in hs d ihC W _ (c - 1) L (RowN.low (rowb W hW) 1 hcp.1) (by simp at hs0; omega) hL bc bf bm b bs f1 r (hC.upd hW hN1))
  by_cases h17 : k = 17
  · subst h17
    rw [shI, if_neg (by omega), if_neg (by omega), if_neg (by omega), if_neg (by omega), if_neg (by omega), if_neg (by omega), if_neg (by omega), if_pos rfl] at o2
    have U1 : Upd [] w ((w.alloc (.cells #[.pointer (some ⟨bc, 0, none⟩)] 48)).alloc (.cells #[.int .u8 17, .string s, .int .i64 num, .int .i64 pos, .slice a K.length c] 29)) := ((Upd.refl [] w).alloc _).alloc _
    have tN : Tb ((w.alloc (.cells #[.pointer (some ⟨bc, 0, none⟩)] 48)).alloc (.cells #[.int .u8 17, .string s, .int .i64 num, .int .i64 pos, .slice a K.length c] 29)) (w.heap.size + 1) #[.int .u8 17, .string s, .int .i64 num, .int .i64 pos, .slice a K.length c] := Tb.new _ _ _ (by simp)
    have c3 : ((w.alloc (.cells #[.pointer (some ⟨bc, 0, none⟩)] 48)).alloc (.cells #[.int .u8 17, .string s, .int .i64 num, .int .i64 pos, .slice a K.length c] 29)).cell? ⟨w.heap.size, 0, none⟩ = some (.pointer (some ⟨bc, 0, none⟩)) := cell_of_row _ _ 0 _ _ _ ((Below.heap_alloc _ _ _ (by simp)).trans (heap_alloc_new w _))
    have PO := exprc_in _ [.int .u8 17, .string s, .int .i64 num, .int .i64 pos, .slice a K.length c] rfl bc w.heap.size (w.heap.size + 1) (bm :: bs) (f :: r) (compF hs K (f :: r) Fr0) c3 tN (fun W mi bi hu hm hCh => comprehension_in hs d ihE W _ 17 num pos s K (NIn.mono (U1.trans hu) _ _ _ hin0) o1 o2 o3 bc bf mi bi (bm :: bs) Fr0 (f :: r) ((hC.mono U1).inner hu hm hCh))
    have hG : exprF hs (.mk 17 s num pos K) 0 r f = (match fltO (compF hs K (f :: r) Fr0) with | none => .ok f | some e => .error e) := by
      rw [exprF]
      simp
      cases compF hs K (f :: r) Fr0 <;> rfl
    exact ex_comp w num pos s K a c bc bm b _ f hN _ hG (apart_gen _ _ Tryd.call65 (bm :: bs) (f :: r) _ _ _ (hC.mono U1).ch PO)
  have hks := shI_kids o2 h10 h12 h13 h14 h16 h17
  have hK : ∀ i (hi : i < K.length), Okk shI K[i] := fun i hi => ⟨(hkid i hi).1, shIs_get K hks i hi, (hkid i hi).2⟩
  by_cases h19 : k = 19
  · subst h19
    have hG : exprF hs (.mk 19 s num pos K) 0 r f = goneR f (bodyF hs (.mk 19 s num pos K) (f :: r) Fr0) := by
      rw [exprF, bodyF]
      simp
      cases itemsF hs K (f :: r) Fr0 <;> rfl
    rw [hG]
    exact ex_block w num pos s K a c bc bm b _ (fun W hW => block_in hs (d + 1) (body_in hs d ihI) W _ _ (NIn.mono hW _ _ _ hin0) ⟨o1, by rw [shB]; exact hks, o3⟩ bc bf bm b bs f r (hC.mono hW))
  have hG : exprF hs (.mk k s num pos K) 0 r f = exprsF hs K r f := by
    rw [exprF]
    simp [h8, h3, h9, h11, h10, h12, h13, h14, h16, h17, h19]
  rw [hG]
  exact ex_rest w k num pos s K a c bc bm b _ h8 h3 h9 h11 h10 h12 h13 h14 h16 h17 h19 (fun W hW => expressions_in hs d ihE W a c K (rows W hW) hs0 hK bc bf bm b bs f r (hC.mono hW))

/-- All four, of trees of a depth. -/
theorem checks_all (hs : ByteArray → Int → Bool) : ∀ (d : Nat), XS 54 hs (fun t r f => exprF hs t 0 r f) shI d ∧ XS 48 hs (fun t r f => exprF hs t 1 r f) shI d ∧ XS 41 hs (bodyF hs) shB d ∧ XS 31 hs (clauseF hs) shC d
  | 0 => ⟨fun _ _ _ h => absurd h (fun h => h), fun _ _ _ h => absurd h (fun h => h), fun _ _ _ h => absurd h (fun h => h), fun _ _ _ h => absurd h (fun h => h)⟩
  | d + 1 => by
    obtain ⟨hE, hI, hB, hC⟩ := checks_all hs d
    have hE' := expression_in hs d hE hI hB hC
    have hB' := body_in hs d hI
    exact ⟨hE', item_in hs d hE' hI, hB', XS.down (clause_in hs d hB')⟩

end Go.Proofs.YtpgjcedonimgnaaDoor

/- lint's declare, of whatever function. -/
namespace Go.Proofs.YtpgjcedonimgnaaDoor
open Go.RowKit

theorem FnIs.cell {w w' : World} {bm : Nat} {f : ByteArray → Int → Bool} (hN : FnIs w bm f) (hu : Upd [bm] w w') {p : Addr} {v : Value} (h : w.cell? p = some v) : w'.cell? p = some v := by
  obtain ⟨es, clock, hb, _⟩ := hN
  have hne : p.block ∉ [bm] := by
    simp
    intro e
    unfold World.cell? at h
    rw [e, hb] at h
    simp at h
  exact (hu.cell (cell_lt h) hne).trans h
theorem FnIs.keepBlock {w w' : World} {bm : Nat} {f : ByteArray → Int → Bool} (hN : FnIs w bm f) (hu : Upd [bm] w w') {b : Nat} {cs : Array Value} {t : TypeId} {fr : Nat × Nat} (h : w.heap[b]? = some (.cells cs t fr)) : w'.heap[b]? = some (.cells cs t fr) := by
  obtain ⟨es, clock, hb, _⟩ := hN
  refine (hu.block b (lt_of_block h) ?_).trans h
  simp
  intro e
  rw [e, hb] at h
  cases h
theorem NIn.keepF {w w' : World} {bm : Nat} {f : ByteArray → Int → Bool} (hN : FnIs w bm f) (hu : Upd [bm] w w') : ∀ (d : Nat) (cs : List Value) (t : Nd), NIn w d cs t → NIn w' d cs t := by
  intro d
  induction d with
  | zero => intro cs t h; exact h.elim
  | succ d ih =>
    intro cs t h
    cases t with
    | mk k s num pos K =>
      obtain ⟨a, c, rfl, h1, hcp⟩ := h
      refine ⟨a, c, rfl, ?_, hcp⟩
      rcases h1 with h | ⟨b, o, e, hlt, hc⟩
      · exact Or.inl h
      · refine Or.inr ⟨b, o, e, Nat.lt_of_lt_of_le hlt hu.size, fun i hi => ?_⟩
        obtain ⟨cs, k1, k2, k3⟩ := hc i hi
        refine ⟨cs, k1, fun j hj => ?_, ih _ _ k3⟩
        have := k2 j hj
        rw [List.getElem?_eq_getElem (by omega)] at this ⊢
        exact hN.cell hu this
theorem RowN.keepF {w w' : World} {bm : Nat} {f : ByteArray → Int → Bool} (hN : FnIs w bm f) (hu : Upd [bm] w w') (d : Nat) (a : Option Addr) (K : List Nd) (h : RowN (NIn w d) w a K) : RowN (NIn w' d) w' a K := by
  rcases h with h | ⟨b, o, e, hlt, hc⟩
  · exact Or.inl h
  · refine Or.inr ⟨b, o, e, Nat.lt_of_lt_of_le hlt hu.size, fun i hi => ?_⟩
    obtain ⟨cs, k1, k2, k3⟩ := hc i hi
    refine ⟨cs, k1, fun j hj => ?_, NIn.keepF hN hu _ _ _ k3⟩
    have := k2 j hj
    rw [List.getElem?_eq_getElem (by omega)] at this ⊢
    exact hN.cell hu this
theorem StrAt.keepF {w w' : World} {bm : Nat} {f : ByteArray → Int → Bool} (hN : FnIs w bm f) (hu : Upd [bm] w w') {a : Option Addr} {L : List ByteArray} (h : StrAt w a L) : StrAt w' a L := by
  rcases h with h | ⟨b, o, e, h⟩
  · exact Or.inl h
  · exact Or.inr ⟨b, o, e, fun i hi => hN.cell hu (h i hi)⟩
theorem Blt.keepF {w w' : World} {bm : Nat} {f : ByteArray → Int → Bool} (h : Blt w) (hN : FnIs w bm f) (hu : Upd [bm] w w') : Blt w' := fun k a hk ha => by
  obtain ⟨ad, c, h1, h2⟩ := h k a hk ha
  exact ⟨ad, c, hN.cell hu h1, h2.keepF hN hu⟩

/-- What is said of a function ahead of all looks inside. -/
def declF (hs : ByteArray → Int → Bool) (s : ByteArray) (num pos : Int) (K : List Nd) : Option Flt := if clbB hs s num then some (210, pos) else alikeF num K
theorem clb_no {hs : ByteArray → Int → Bool} {s : ByteArray} {n : Int} (h : clbB hs s n = false) : hs s n = false := by
  unfold clbB at h
  cases hb : hs s n with
  | false => rfl
  | true => rw [hb] at h; simp at h
/-- What declare answers. -/
def RetD (O : Option Flt) (bf : Nat) (hs : ByteArray → Int → Bool) (w : World) (e : Ending) (w' : World) : Prop := Upd [bf] w w' ∧ match O with
  | none => (∃ u, e = .returned u) ∧ FnIs w' bf hs
  | some x => e = .panicked [{ v := .iface 33 (.agg #[.int .i64 x.1, .int .i64 x.2]), recovered := false }]

set_option maxHeartbeats 4000000 in
set_option maxRecDepth 100000 in
theorem declare_in (hs : ByteArray → Int → Bool) (d : Nat) (w : World) (k num pos : Int) (s : ByteArray) (K : List Nd) (a : Option Addr) (c bc bf : Nat) (hR : RowN (NIn w d) w a K) (hs0 : K.length ≤ 2199023255488) (hP : ∀ i (hi : i < K.length), hasP K[i] = true) (hE : Env w bc bf hs) (O : Option Flt) (HG : Hid (O = declF hs s num pos K)) :
    Calls Tryd.prog 22 #[.pointer (some ⟨bc, 0, none⟩), .agg #[.int .u8 k, .string s, .int .i64 num, .int .i64 pos, .slice a K.length c]] w (RetD O bf (fun t m => decide (t = s ∧ m = num) || hs t m) w) := by
  have HR : Hid (RowN (NIn w d) w a K) := hR
  have HP : Hid (∀ i (hi : i < K.length), hasP K[i] = true) := hP
  have HE : Hid (Env w bc bf hs) := hE
  clear hR hP hE
  obtain ⟨z, hz⟩ : ∃ z, z = clbB hs s num := ⟨_, rfl⟩
  have HZ : Hid (z = clbB hs s num) := hz
  have HG : Hid (O = if clbB hs s num then some (210, pos) else alikeF num K) := HG
  clear hz
  obtain ⟨fs, hdesc⟩ := term_desc
  go_enter Tryd.func22, Tryd.ntmps22
  go_wp2_with fail
  rename_i K1 hK1
  obtain ⟨w1, hw1⟩ : ∃ w1, w1 = w.alloc (.cells #[.int .u8 k, .string s, .int .i64 num, .int .i64 pos, .slice a K.length c] 29) := ⟨_, rfl⟩
  have U1 : Hid (Upd [] w w1) := by rw [hw1]; exact (Upd.refl [] w).alloc _
  have tF : Tb w1 w.heap.size #[.int .u8 k, .string s, .int .i64 num, .int .i64 pos, .slice a K.length c] := by rw [hw1]; exact Tb.new _ _ _ rfl
  rw [← hw1]
  clear hw1
  refine region_lastT (by kernel_rfl) 7 rfl [some 4, some 5, some 6, some 7, some 8, some 9, some 10, some 11] rfl (by decide) rfl (by kernel_rfl) (by kernel_rfl) (fun j v _ => match j with | 0 => v = .pointer (some ⟨bc, 0, none⟩) | 1 => v = .pointer (some ⟨w.heap.size, 1, none⟩) | 2 => v = .string s | 3 => v = .pointer (some ⟨w.heap.size, 2, none⟩) | 4 => v = .int .i64 num | 5 => v = .bool z | 6 => v = .agg #[.int .u8 k, .string s, .int .i64 num, .int .i64 pos, .slice a K.length c] | _ => True) (fun j v w w' h _ => h) ?_ ?_
  · intro D vs a' w5 i o' hA hU hV hS hi ho haf
    have hc5 : i = 0 ∨ i = 1 ∨ i = 2 ∨ i = 3 ∨ i = 4 ∨ i = 5 ∨ i = 6 := by omega
    have t5 := tF.mono hU (by simp)
    rcases hc5 with rfl | rfl | rfl | rfl | rfl | rfl | rfl <;> cases ho
    · exact ops_wp rfl rfl (wp_move (.tmp 0) rfl _ (hA.ev 0 (by decide)) ⟨_, rfl, rfl, Upd.refl _ _⟩)
    · exact ops_wp rfl rfl (wp_nf1 (.tmp 3) rfl _ (hA.ev 3 (by decide)) ⟨_, rfl, rfl, Upd.refl _ _⟩)
    · have D1 := haf ⟨1, .data⟩ (by simp) rfl
      exact ops_wp rfl rfl (wp_lstr (.tmp 5) rfl _ _ ((hS 1 5 rfl D1).trans (hV 1 D1)) (t5.cell 1) ⟨_, rfl, rfl, Upd.refl _ _⟩)
    · exact ops_wp rfl rfl (wp_nf2 (.tmp 3) rfl _ (hA.ev 3 (by decide)) ⟨_, rfl, rfl, Upd.refl _ _⟩)
    · have D3 := haf ⟨3, .data⟩ (by simp) rfl
      exact ops_wp rfl rfl (wp_lint (.tmp 7) rfl _ _ ((hS 3 7 rfl D3).trans (hV 3 D3)) (t5.cell 2) ⟨_, rfl, rfl, Upd.refl _ _⟩)
    · have D0 := haf ⟨0, .data⟩ (by simp) rfl
      have D2 := haf ⟨2, .data⟩ (by simp) rfl
      have D4 := haf ⟨4, .data⟩ (by simp) rfl
      refine ops_wp rfl rfl (wp_callA rfl Tryd.call27 (vs := #[.pointer (some ⟨bc, 0, none⟩), .string s, .int .i64 num]) ?_ (R := fun u w' => u = .bool z ∧ Upd [] w5 w') ?_ ?_)
      · have e0 : a'.eval (.tmp 4) = _ := ((hS 0 4 rfl D0).trans (hV 0 D0)); have e1 : a'.eval (.tmp 6) = _ := ((hS 2 6 rfl D2).trans (hV 2 D2)); have e2 : a'.eval (.tmp 8) = _ := ((hS 4 8 rfl D4).trans (hV 4 D4)); simp only [List.map_toArray, List.map_cons, List.map_nil, e0, e1, e2]
      · exact (callable_in bc bf hs s num w5 (HE.out.mono (U1.out.trans hU))).mono fun e w' ⟨he, hu⟩ => ⟨_, he, by rw [HZ.out], hu⟩
      · rintro u w6 ⟨rfl, hu⟩; exact ⟨_, rfl, rfl, hu⟩
    · exact ops_wp rfl rfl (wp_load_row 29 (.tmp 3) rfl _ (hA.ev 3 (by decide)) 29 _ (0, 0) _ t5 hdesc rfl (by rw [info_term]; rfl) ⟨_, rfl, rfl, Upd.refl _ _⟩)
  · intro vs a' w5 o' hv hA hU hV hS ho
    cases ho
    have D0 : 0 < 7 := by omega
    have D1 : 1 < 7 := by omega
    have D2 : 2 < 7 := by omega
    have D3 : 3 < 7 := by omega
    have D4 : 4 < 7 := by omega
    have D5 : 5 < 7 := by omega
    have D6 : 6 < 7 := by omega
    have e9 : a'.eval (.tmp 9) = _ := ((hS 5 9 rfl D5).trans (hV 5 D5))
    have e10 : a'.eval (.tmp 10) = _ := ((hS 6 10 rfl D6).trans (hV 6 D6))
    refine ops_wp rfl rfl (wp_callB rfl Tryd.call26 (vs := #[.bool z, .int .i64 210, .agg #[.int .u8 k, .string s, .int .i64 num, .int .i64 pos, .slice a K.length c]]) (by simp only [List.map_toArray, List.map_cons, List.map_nil, e9, e10]; rfl) ?_)
    have HGz := HG.out
    rw [← HZ.out] at HGz
    cases z with
    | true =>
      refine (refuse_yes 210 k num pos s a K.length c w5).mono ?_
      rintro e w6 ⟨rfl, hu⟩
      have HGt : O = some (210, pos) := HGz
      exact Or.inr ⟨_, rfl, hA.def', ((U1.out.trans hU).trans hu).into, by rw [HGt]⟩
    | false =>
      refine (refuse_no 210 k num pos s a K.length c w5).mono ?_
      rintro e w6 ⟨⟨u, rfl⟩, hu⟩
      refine Or.inl ⟨u, rfl, u, rfl, ?_⟩
      have U6 : Hid (Upd [] w w6) := (U1.out.trans hU).trans hu
      have t6 := (tF.mono hU (by simp)).mono hu (by simp)
      have HG8 : Hid (O = alikeF num K) := HGz
      have HNO : Hid (hs s num = false) := clb_no HZ.out.symm
      obtain ⟨v0, r0, rfl, hv0⟩ := list_cons hv
      obtain ⟨v1, r1, rfl, hv1⟩ := list_cons hv0
      obtain ⟨v2, r2, rfl, hv2⟩ := list_cons hv1
      obtain ⟨v3, r3, rfl, hv3⟩ := list_cons hv2
      obtain ⟨v4, r4, rfl, hv4⟩ := list_cons hv3
      obtain ⟨v5, r5, rfl, hv5⟩ := list_cons hv4
      obtain ⟨v6, r6, rfl, hv6⟩ := list_cons hv5
      obtain ⟨v7, r7, rfl, hv7⟩ := list_cons hv6
      simp only [List.set_cons_succ, List.set_cons_zero, putAll, Act.put, List.setIfInBounds_toArray]
      clear hV hS hA hU hu e9 e10 D0 D1 D2 D3 D4 D5 D6 hv hv0 hv1 hv2 hv3 hv4 hv5 hv6 hv7 HGz HG HZ tF
      show K1 _ _
      refine hK1 _ _ ?_
      clear hK1
      go_wp2_with fail
      refine region_lastT (by kernel_rfl) 10 rfl [some 12, some 13, some 14, some 15, some 16, some 17, some 18, some 19, some 20, some 21, none] rfl (by decide) rfl (by kernel_rfl) (by kernel_rfl) (fun j v _ => match j with | 0 => v = .pointer (some ⟨bc, 0, none⟩) | 1 => v = .pointer (some ⟨bc, 0, none⟩) | 2 => v = .pointer (some ⟨bc, 0, none⟩) | 3 => v = .map (some bf) | 4 => v = .pointer (some ⟨w.heap.size, 1, none⟩) | 5 => v = .string s | 6 => v = .pointer (some ⟨w.heap.size, 2, none⟩) | 7 => v = .int .i64 num | 8 => v = .agg #[.string s, .int .i64 num] | 9 => v = .agg #[] | _ => True) (fun j v w w' h _ => h) ?_ ?_
      · intro D vs a' w5 i o' hA hU hV hS hi ho haf
        have hc5 : i = 0 ∨ i = 1 ∨ i = 2 ∨ i = 3 ∨ i = 4 ∨ i = 5 ∨ i = 6 ∨ i = 7 ∨ i = 8 ∨ i = 9 := by omega
        have t5 := t6.mono hU (by simp)
        rcases hc5 with rfl | rfl | rfl | rfl | rfl | rfl | rfl | rfl | rfl | rfl <;> cases ho
        · exact ops_wp rfl rfl (wp_move (.tmp 0) rfl _ (hA.ev 0 (by decide)) ⟨_, rfl, rfl, Upd.refl _ _⟩)
        · have D0 := haf ⟨0, .data⟩ (by simp) rfl
          exact ops_wp rfl rfl (wp_nilc (.tmp 12) rfl _ ((hS 0 12 rfl D0).trans (hV 0 D0)) ⟨_, rfl, rfl, Upd.refl _ _⟩)
        · have D1 := haf ⟨1, .data⟩ (by simp) rfl
          exact ops_wp rfl rfl (wp_cf0 (.tmp 13) rfl _ ((hS 1 13 rfl D1).trans (hV 1 D1)) ⟨_, rfl, rfl, Upd.refl _ _⟩)
        · have D2 := haf ⟨2, .data⟩ (by simp) rfl
          exact ops_wp rfl rfl (wp_lmap (.tmp 14) rfl _ _ ((hS 2 14 rfl D2).trans (hV 2 D2)) (cell_of_row _ _ 0 _ _ _ ((HE.out.mono (U6.out.trans hU)).c)) ⟨_, rfl, rfl, Upd.refl _ _⟩)
        · exact ops_wp rfl rfl (wp_nf1 (.tmp 3) rfl _ (hA.ev 3 (by decide)) ⟨_, rfl, rfl, Upd.refl _ _⟩)
        · have D4 := haf ⟨4, .data⟩ (by simp) rfl
          exact ops_wp rfl rfl (wp_lstr (.tmp 16) rfl _ _ ((hS 4 16 rfl D4).trans (hV 4 D4)) (t5.cell 1) ⟨_, rfl, rfl, Upd.refl _ _⟩)
        · exact ops_wp rfl rfl (wp_nf2 (.tmp 3) rfl _ (hA.ev 3 (by decide)) ⟨_, rfl, rfl, Upd.refl _ _⟩)
        · have D6 := haf ⟨6, .data⟩ (by simp) rfl
          exact ops_wp rfl rfl (wp_lint (.tmp 18) rfl _ _ ((hS 6 18 rfl D6).trans (hV 6 D6)) (t5.cell 2) ⟨_, rfl, rfl, Upd.refl _ _⟩)
        · have D5 := haf ⟨5, .data⟩ (by simp) rfl
          have D7 := haf ⟨7, .data⟩ (by simp) rfl
          exact ops_wp rfl rfl (wp_bsig (.tmp 17) (.tmp 19) rfl _ _ ((hS 5 17 rfl D5).trans (hV 5 D5)) ((hS 7 19 rfl D7).trans (hV 7 D7)) ⟨_, rfl, rfl, Upd.refl _ _⟩)
        · exact ops_wp rfl rfl (wp_bunit rfl ⟨_, rfl, rfl, Upd.refl _ _⟩)
      · intro vs a' w5 o' hv hA hU hV hS ho
        cases ho
        have D0 : 0 < 10 := by omega
        have D1 : 1 < 10 := by omega
        have D2 : 2 < 10 := by omega
        have D3 : 3 < 10 := by omega
        have D4 : 4 < 10 := by omega
        have D5 : 5 < 10 := by omega
        have D6 : 6 < 10 := by omega
        have D7 : 7 < 10 := by omega
        have D8 : 8 < 10 := by omega
        have D9 : 9 < 10 := by omega
        have e15 : a'.eval (.tmp 15) = _ := ((hS 3 15 rfl D3).trans (hV 3 D3))
        have e20 : a'.eval (.tmp 20) = _ := ((hS 8 20 rfl D8).trans (hV 8 D8))
        have e21 : a'.eval (.tmp 21) = _ := ((hS 9 21 rfl D9).trans (hV 9 D9))
        have hFn := (HE.out.mono (U6.out.trans hU)).f
        obtain ⟨w8, hr8, hu8, hf8⟩ := hFn.put s num HNO.out
        refine ops_wp rfl rfl (wp_mapu (.tmp 15) (.tmp 20) (.tmp 21) rfl _ _ _ e15 e20 e21 hr8 ⟨undef, rfl, ?_⟩)
        have U8 : Hid (Upd [bf] w w8) := (U6.out.trans hU).into.trans hu8
        have F8 : Hid (FnIs w8 bf (fun t m => decide (t = s ∧ m = num) || hs t m)) := hf8
        have T8 := hFn.keepBlock hu8 (t6.mono hU (by simp))
        have x2 : w8.cell? ⟨w.heap.size, 2, none⟩ = some (.int .i64 num) := cell_of_row _ _ 2 _ _ _ T8
        have x4 : w8.cell? ⟨w.heap.size, 4, none⟩ = some (.slice a K.length c) := cell_of_row _ _ 4 _ _ _ T8
        have R8 : Hid (RowN (NIn w8 d) w8 a K) := RowN.keepF HE.out.f U8.out d a K HR.out
        obtain ⟨v0, r0, rfl, hv0⟩ := list_cons hv
        obtain ⟨v1, r1, rfl, hv1⟩ := list_cons hv0
        obtain ⟨v2, r2, rfl, hv2⟩ := list_cons hv1
        obtain ⟨v3, r3, rfl, hv3⟩ := list_cons hv2
        obtain ⟨v4, r4, rfl, hv4⟩ := list_cons hv3
        obtain ⟨v5, r5, rfl, hv5⟩ := list_cons hv4
        obtain ⟨v6, r6, rfl, hv6⟩ := list_cons hv5
        obtain ⟨v7, r7, rfl, hv7⟩ := list_cons hv6
        obtain ⟨v8, r8, rfl, hv8⟩ := list_cons hv7
        obtain ⟨v9, r9, rfl, hv9⟩ := list_cons hv8
        obtain ⟨v10, r10, rfl, hv10⟩ := list_cons hv9
        clear hV hS hA hU hu8 hr8 hf8 hFn T8 t6 e15 e20 e21 D0 D1 D2 D3 D4 D5 D6 D7 D8 D9 hv hv0 hv1 hv2 hv3 hv4 hv5 hv6 hv7 hv8 hv9 hv10
        simp only [List.set_cons_succ, List.set_cons_zero, putAll, Act.put, List.setIfInBounds_toArray]
        go_wp2_with fail
        refine Calls.mono (alike_in d w8 a c K num R8.out hs0 HP.out) ?_
        rintro e w9 ⟨hu9, hm9⟩
        have U9 : Hid (Upd [bf] w w9) := U8.out.trans hu9.into
        have F9 : Hid (FnIs w9 bf (fun t m => decide (t = s ∧ m = num) || hs t m)) := F8.out.mono hu9 (by simp)
        clear hu9 x2 x4 R8 F8 U8
        cases hal : alikeF num K with
        | none =>
          rw [hal] at hm9
          obtain ⟨u, rfl⟩ := hm9
          have HG9 : Hid (O = none) := HG8.out.trans hal
          clear hal
          go_wp2_with fail
          exact bodyPost_end (results_none rfl _ _ _) rfl ⟨U9.out, by rw [HG9.out]; exact ⟨⟨_, rfl⟩, F9.out⟩⟩
        | some x =>
          rw [hal] at hm9
          have hm3 : e = .panicked [{ v := .iface 33 (.agg #[.int .i64 x.1, .int .i64 x.2]), recovered := false }] := hm9
          subst hm3
          have HG9 : Hid (O = some x) := HG8.out.trans hal
          clear hm9 hal
          go_wp2_with fail
          exact ⟨rfl, U9.out, by rw [HG9.out]⟩

end Go.Proofs.YtpgjcedonimgnaaDoor

/- lint's functions: their clauses. -/
namespace Go.Proofs.YtpgjcedonimgnaaDoor
open Go.RowKit

/-- The clauses of a function. -/
def headsT (hs : ByteArray → Int → Bool) : List Nd → Option Flt
  | [] => none
  | n :: K => match clauseF hs n [] Fr0 with
    | .ok _ => headsT hs K
    | .error e => some e
theorem headsT_at (hs : ByteArray → Int → Bool) (K : List Nd) (q : Nat) (hq : q < K.length) : headsT hs (K.drop q) = (match clauseF hs K[q] [] Fr0 with | .ok _ => headsT hs (K.drop (q + 1)) | .error e => some e) := by
  rw [List.drop_eq_getElem_cons hq, headsT]

set_option maxHeartbeats 2000000 in
set_option maxRecDepth 100000 in
theorem headt_in (hs : ByteArray → Int → Bool) (d : Nat) (ih : XS 31 hs (clauseF hs) shC d) (w : World) (cs : List Value) (t : Nd) (hin : NIn w d cs t) (hok : Okk shC t) (bc bf g3 g7 : Nat) (hC : Env w bc bf hs) (c3 : w.cell? ⟨g3, 0, none⟩ = some (.pointer (some ⟨bc, 0, none⟩))) (t7 : Tb w g7 cs.toArray) :
    PartOk 30 #[.pointer (some ⟨g3, 0, none⟩), .pointer (some ⟨g7, 0, none⟩)] w [] [] (clauseF hs t [] Fr0) := by
  intro W mi bi hu hm hCh
  have h5 : cs.toArray.size = 5 := hin.five
  obtain ⟨R, hR⟩ : ∃ R, R = clauseF hs t [] Fr0 := ⟨_, rfl⟩
  rw [← hR]
  have HK : Hid (Calls Tryd.prog 31 #[.pointer (some ⟨bc, 0, none⟩), .agg cs.toArray, .pointer (some ⟨bi, 0, none⟩)] W (Ret R mi W)) := by
    rw [hR]
    exact ih W cs t (NIn.mono hu _ _ _ hin) hok bc bf mi bi [] Fr0 [] ⟨hC.mono hu, hCh, fun hx => by have := hC.f.lt; simp at hx; omega⟩
  have c3' : W.cell? ⟨g3, 0, none⟩ = some (.pointer (some ⟨bc, 0, none⟩)) := (hu.cell (cell_lt c3) (by simp)).trans c3
  have t7' := t7.mono hu (by simp)
  show Calls Tryd.prog 30 #[.pointer (some ⟨bi, 0, none⟩), .pointer (some ⟨g3, 0, none⟩), .pointer (some ⟨g7, 0, none⟩)] W (Ret R mi W)
  clear hR ih hin hok hC c3 t7 hCh hu
  go_enter Tryd.func30, Tryd.ntmps30
  go_wp2_with (first | (refine load_T _ rfl _ rfl _ _ rfl t7' h5 ?_) | fail)
  refine Calls.mono HK.out ?_
  rintro e w1 ⟨hu, hm1⟩
  have HU : Hid (Upd [mi] W w1) := hu
  clear HK hu t7' c3'
  cases R with
  | ok g =>
    obtain ⟨⟨u, rfl⟩, hn⟩ := hm1
    have HN : Hid (NmIs w1 mi g) := hn
    clear hn
    go_wp2_with fail
    exact bodyPost_end (results_none rfl _ _ _) rfl (ret_ok rfl HU.out HN.out)
  | error x =>
    have hm3 : e = .panicked [{ v := .iface 33 (.agg #[.int .i64 x.1, .int .i64 x.2]), recovered := false }] := hm1
    subst hm3
    clear hm1
    go_wp2_with fail
    exact ⟨rfl, ret_err rfl HU.out⟩

set_option maxHeartbeats 4000000 in
set_option maxRecDepth 100000 in
theorem heads_top (hs : ByteArray → Int → Bool) (d : Nat) (ih : XS 31 hs (clauseF hs) shC d) (w : World) (a : Option Addr) (c : Nat) (K : List Nd) (hR : RowN (NIn w d) w a K) (hs0 : K.length ≤ 2199023255488) (hK : ∀ i (hi : i < K.length), Okk shC K[i]) (bc bf b : Nat) (hC : Env w bc bf hs) (hCh : Chn w [] [] (some ⟨b, 0, none⟩)) :
    Calls Tryd.prog 23 #[.pointer (some ⟨bc, 0, none⟩), .slice a K.length c, .pointer (some ⟨b, 0, none⟩)] w (RetO (headsT hs K) w) := by
  have HK : Hid (∀ i (hi : i < K.length), Okk shC K[i]) := hK
  have IH : Hid (XS 31 hs (clauseF hs) shC d) := ih
  obtain ⟨G, hG⟩ : ∃ G, G = headsT hs K := ⟨_, rfl⟩
  rw [← hG]
  have HG : Hid (G = headsT hs K) := hG
  have hmf : ∀ (fn : Fn) (first cap : Array Value) (w : World), (Instr.makeFunc fn first cap).run Tryd.prog w = .ok (.func fn first cap) w := fun _ _ _ _ => rfl
  have HRa : Hid (RowN (NIn w d) w a K) := hR
  have HCa : Hid (Env w bc bf hs) := hC
  have HHa : Hid (Chn w [] [] (some ⟨b, 0, none⟩)) := hCh
  clear hK ih hG hR hC hCh
  go_enter Tryd.func23, Tryd.ntmps23
  go_wp2_with fail
  obtain ⟨w0, hw0⟩ : ∃ w0, w0 = w.alloc (.cells #[.pointer (some ⟨bc, 0, none⟩)] 48) := ⟨_, rfl⟩
  have U1 : Hid (Upd [] w w0) := by rw [hw0]; exact (Upd.refl [] w).alloc _
  have cC : Hid (w0.cell? ⟨w.heap.size, 0, none⟩ = some (.pointer (some ⟨bc, 0, none⟩))) := by rw [hw0]; exact cell_of_row _ _ 0 _ _ _ (heap_alloc_new w _)
  rw [← hw0]
  clear hw0
  have HR : Hid (RowN (NIn w0 d) w0 a K) := HRa.out.imp U1.out (NIn.mono U1.out d)
  have HC : Hid (Env w0 bc bf hs) := HCa.out.mono U1.out
  have HH : Hid (Chn w0 [] [] (some ⟨b, 0, none⟩)) := Chn.mono U1.out _ _ _ HHa.out
  clear HRa HCa HHa
  go_loopw [10] (fun i wr => ∃ (q : Nat), q ≤ K.length ∧ i = .int .i64 q ∧ Hid (headsT hs K = headsT hs (K.drop q)) ∧ Upd [] w0 wr) (fun i _ => K.length - (intOf i).toNat)
  case atStart => exact ⟨0, Nat.zero_le _, rfl, rfl, Upd.refl _ _⟩
  case round =>
    obtain ⟨q, hq, rfl, HP, hu⟩ := hrel
    have HU : Hid (Upd [] w0 wr) := hu
    clear hu
    by_cases hlt : q < K.length
    · have i1 : (q : Int) < (K.length : Int) := by omega
      obtain ⟨b3, o3, hae, cs, hl5, hcell, hin⟩ := HR.out.atK q hlt
      cases hae
      have hone := hin.one
      have hin' := NIn.mono HU.out _ _ _ hin
      have hc5 : ∀ j, j < 5 → wr.cell? ⟨b3, o3 + (q * 5 + j), none⟩ = cs[j]? := fun j hj => by
        have := hcell j hj
        rw [List.getElem?_eq_getElem (by omega)] at this ⊢
        exact (HU.out.cell (cell_lt this) (by simp)).trans this
      obtain ⟨q0, q1, q2, q3, q4, rfl⟩ := list5 hl5
      have x0 : wr.cell? ⟨b3, o3 + q * 5, none⟩ = some q0 := hc5 0 (by omega)
      have x1 : wr.cell? ⟨b3, o3 + q * 5 + 1, none⟩ = some q1 := hc5 1 (by omega)
      have x2 : wr.cell? ⟨b3, o3 + q * 5 + 2, none⟩ = some q2 := hc5 2 (by omega)
      have x3 : wr.cell? ⟨b3, o3 + q * 5 + 3, none⟩ = some q3 := hc5 3 (by omega)
      have x4 : wr.cell? ⟨b3, o3 + q * 5 + 4, none⟩ = some q4 := hc5 4 (by omega)
      have HIN : Hid (NIn wr d [q0, q1, q2, q3, q4] K[q]) := hin'
      have HCi : Hid (Env wr bc bf hs) := HC.out.mono HU.out
      have tz : Tb (wr.alloc (.cells #[.int .u8 0, .string ⟨#[]⟩, .int .i64 0, .int .i64 0, .slice none 0 0] 29)) wr.heap.size #[.int .u8 0, .string ⟨#[]⟩, .int .i64 0, .int .i64 0, .slice none 0 0] := Tb.new _ _ _ rfl
      have HUZ : Hid (Upd [] wr (wr.alloc (.cells #[.int .u8 0, .string ⟨#[]⟩, .int .i64 0, .int .i64 0, .slice none 0 0] 29))) := (Upd.refl [] wr).alloc _
      clear hc5 hcell hin hin'
      go_wp2_with (first
        | (refine store_T _ rfl _ _ rfl _ #[q0, q1, q2, q3, q4] _ rfl rfl tz rfl rfl hone ?_; intro w1 t1 u1; have V1 : Hid (Upd [] wr w1) := HUZ.out.then u1 (by simp))
        | (refine load_T _ rfl _ rfl _ _ rfl t1 rfl ?_)
        | fail)
      have PO : PartOk 30 #[.pointer (some ⟨w.heap.size, 0, none⟩), .pointer (some ⟨wr.heap.size, 0, none⟩)] w1 [] [] (clauseF hs K[q] [] Fr0) := headt_in hs d IH.out w1 _ _ (NIn.mono V1.out _ _ _ HIN.out) (HK.out q hlt) bc bf _ _ (HCi.out.mono V1.out) (((HU.out.trans V1.out).cell (cell_lt cC.out) (by simp)).trans cC.out) t1
      refine Calls.mono (apart_gen _ _ Tryd.call30 [] [] _ w1 _ (Chn.mono (HU.out.trans V1.out) _ _ _ HH.out) PO) ?_
      rintro e w2 ⟨hu2, hm2⟩
      have U2 : Hid (Upd [] w0 w2) := (HU.out.trans V1.out).trans hu2
      have HP2 := HP.out
      rw [headsT_at hs K q hlt] at HP2
      clear hu2 t1 u1 V1 tz HUZ x0 x1 x2 x3 x4 HIN  HU HCi
      cases hpf : clauseF hs K[q] [] Fr0 with
      | ok f' =>
        rw [hpf] at hm2 HP2
        obtain ⟨u, rfl⟩ := hm2
        have HP3 : Hid (headsT hs K = headsT hs (K.drop (q + 1))) := HP2
        clear HP2 hpf HP
        go_wp2_with fail
        go_roundw
        case rel => exact ⟨q + 1, by omega, by go_num, HP3, U2.out⟩
        case measure => simp [intOf]; omega
      | error x =>
        rw [hpf] at hm2 HP2
        have hm3 : e = .panicked [{ v := .iface 33 (.agg #[.int .i64 x.1, .int .i64 x.2]), recovered := false }] := hm2
        subst hm3
        have HP3 : Hid (headsT hs K = some x) := HP2
        clear hm2 HP2 hpf HP
        go_wp2_with fail
        exact ⟨rfl, retO_err (HG.out.trans HP3.out) (U1.out.trans U2.out)⟩
    · have hd : decide ((q : Int) < (K.length : Int)) = false := by simp; omega
      have hqe : q = K.length := by omega
      have HP3 : Hid (headsT hs K = none) := by
        have := HP.out
        rw [hqe, List.drop_length, headsT] at this
        exact this
      go_wp2_with fail
      exact bodyPost_end (results_none rfl _ _ _) rfl (retO_ok (HG.out.trans HP3.out) (U1.out.trans HU.out))

end Go.Proofs.YtpgjcedonimgnaaDoor
