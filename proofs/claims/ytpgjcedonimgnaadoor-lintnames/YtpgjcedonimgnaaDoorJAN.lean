/- lint's guard, of whatever trees: all kinds. -/
import Derived.Test.YtpgjcedonimgnaaDoorGmH
import Derived.WideKeyRuns
import Derived.DeepKeys3

namespace Go.Proofs.YtpgjcedonimgnaaDoor
open Go.RowKit

set_option maxHeartbeats 4000000 in
set_option maxRecDepth 100000 in
theorem grd_else (w : World) (k num pos : Int) (s : ByteArray) (a : Option Addr) (n c : Nat) (a0 : Option Addr) (h1 : k ≠ 1) (h2 : k ≠ 2) (h3 : k ≠ 3) (h4 : k ≠ 4) (h5 : k ≠ 5) (h6 : k ≠ 6) (h7 : k ≠ 7) (h9 : k ≠ 9) (G : Option Flt) (HG : Hid (G = some (214, pos))) :
    Calls Tryd.prog 40 #[.agg #[.int .u8 k, .string s, .int .i64 num, .int .i64 pos, .slice a n c], .pointer a0] w (RetO G w) := by
  have U1 : Hid (Upd [] w (w.alloc (.cells #[.int .u8 k, .string s, .int .i64 num, .int .i64 pos, .slice a n c] 29))) := (Upd.refl [] w).alloc _
  have tN : Tb (w.alloc (.cells #[.int .u8 k, .string s, .int .i64 num, .int .i64 pos, .slice a n c] 29)) w.heap.size #[.int .u8 k, .string s, .int .i64 num, .int .i64 pos, .slice a n c] := Tb.new _ _ _ rfl
  have e1 : (k == 1) = false := by simp [h1]
  have e2 : (k == 2) = false := by simp [h2]
  have e3 : (k == 3) = false := by simp [h3]
  have e4 : (k == 4) = false := by simp [h4]
  have e5 : (k == 5) = false := by simp [h5]
  have e6 : (k == 6) = false := by simp [h6]
  have e7 : (k == 7) = false := by simp [h7]
  have e9 : (k == 9) = false := by simp [h9]
  go_enter Tryd.func40, Tryd.ntmps40
  go_wp2_with (first | (refine load_T _ rfl _ rfl _ _ rfl tN rfl ?_) | fail)
  refine Calls.mono (refuse_yes _ _ _ _ _ _ _ _ _) ?_
  rintro e w2 ⟨rfl, u2⟩
  have U2 : Hid (Upd [] w w2) := U1.out.trans u2
  clear u2 U1 tN
  go_wp2_with fail
  exact ⟨rfl, retO_err HG.out U2.out⟩
theorem RowN.tail {w : World} {d b o : Nat} {n : Nd} {L : List Nd} (h : RowN (NIn w d) w (some ⟨b, o, none⟩) (n :: L)) : RowN (NIn w d) w (some ⟨b, o + 5, none⟩) L := by
  rcases h with h | ⟨b', o', e, hb, hc⟩
  · cases h
  · cases e
    refine Or.inr ⟨b, o + 5, rfl, hb, fun i hi => ?_⟩
    obtain ⟨cs, k1, k2, k3⟩ := hc (i + 1) (by simpa using hi)
    refine ⟨cs, k1, fun j hj => ?_, by simpa using k3⟩
    have := k2 j hj
    rw [show o + ((i + 1) * 5 + j) = o + 5 + (i * 5 + j) by omega] at this
    exact this
theorem NIn.cells {w : World} {d : Nat} {cs : List Value} {k : Int} {s : ByteArray} {num pos : Int} {K : List Nd} (h : NIn w d cs (.mk k s num pos K)) : ∃ a c, cs = [.int .u8 k, .string s, .int .i64 num, .int .i64 pos, .slice a K.length c] := by
  cases d with
  | zero => exact h.elim
  | succ d =>
    obtain ⟨a, c, rfl, _⟩ := h
    exact ⟨a, c, rfl⟩

theorem guard_in : ∀ d, GrdSaid d := by
  intro d
  induction d with
  | zero => intro w cs t h; exact h.elim
  | succ d ih =>
    intro w cs t h hs hth bs r a0 hC hB
    obtain ⟨k, s, num, pos, K⟩ := t
    obtain ⟨a, c, rfl, hR, hcp⟩ := h
    rw [thru, Bool.and_eq_true] at hth
    have hs1 : nszs K ≤ 2199023255488 := by simpa [nsz] using hs
    have hs0 : K.length ≤ 2199023255488 := Nat.le_trans (nszs_len K) hs1
    have HS : ∀ i (hi : i < K.length), nsz K[i] ≤ 2199023255488 ∧ thru callOk K[i] = true := fun i hi => ⟨Nat.le_trans (nszs_get K i hi) hs1, thrus_get callOk K hth.2 i hi⟩
    by_cases hp : k = 1 ∨ k = 2 ∨ k = 4 ∨ k = 5 ∨ k = 6
    · exact grd_plain d ih w k num pos s K a c hp hR hs0 HS bs r a0 hC hB _ (by rw [grdF, if_pos hp]; rfl)
    · by_cases h3 : k = 3
      · subst h3
        exact grd_var d ih w num pos s K a c hR hs0 HS bs r a0 hC hB _ (by rw [grdF, if_neg hp, if_pos rfl]; rfl)
      · by_cases h7 : k = 7
        · subst h7
          by_cases hl : s = ⟨#[97, 110, 100, 97, 108, 115, 111]⟩ ∨ s = ⟨#[111, 114, 101, 108, 115, 101]⟩
          · exact grd_lazy d ih w num pos s K a c hR hs0 HS bs r a0 hC hB _ hl (by rw [grdF, if_neg hp, if_neg h3, if_pos rfl, if_pos (Or.inl (by simp [lazyB, hl]))]; rfl)
          · have hl' : ¬ lazyB s = true := by simp [lazyB]; exact ⟨fun h => hl (Or.inl h), fun h => hl (Or.inr h)⟩
            refine grd_kind d ih w num pos s K a c hR hs0 HS bs r a0 hC hB _ (fun h => hl (Or.inl h)) (fun h => hl (Or.inr h)) ?_
            rw [grdF, if_neg hp, if_neg h3, if_pos rfl]
            show (if lazyB s = true ∨ kindS s (K.length : Nat) = 2 then _ else _) = _
            by_cases hk : kindS s (K.length : Nat) = 2
            · rw [if_pos (Or.inr hk), if_pos hk]
            · rw [if_neg (fun h => h.elim hl' hk), if_neg hk]
        · by_cases h9 : k = 9
          · subst h9
            match K, hR, hcp, hs0, HS, hth with
            | [], _, _, _, _, hth => simp [callOk, Nd.kd, Nd.kids] at hth
            | c0 :: L, hR, hcp, hs0, HS, hth =>
              obtain ⟨b2, o, rfl, hb2, cs, h5, hcell, hin⟩ := RowN.at0 hR (by simp)
              obtain ⟨k1, s1, n1, p1, K1⟩ := c0
              obtain ⟨a1, c1, rfl⟩ := NIn.cells hin
              have hG : grdF r (.mk 9 s num pos (.mk k1 s1 n1 p1 K1 :: L)) = if k1 = 2 ∧ kindS s1 (L.length : Nat) = 2 then grdsF r L else some (214, pos) := by
                rw [grdF, if_neg (by omega), if_neg (by omega), if_neg (by omega), if_pos rfl]
                by_cases e1 : k1 = 2 <;> by_cases e2 : kindS s1 (L.length : Nat) = 2 <;> simp [callG, Nd.kd, Nd.txt, grdtF, e1, e2]
              rw [hG]
              have HS' : ∀ i (hi : i < L.length), nsz L[i] ≤ 2199023255488 ∧ thru callOk L[i] = true := fun i hi => by
                have := HS (i + 1) (by simpa using hi)
                simpa using this
              have hs0' : L.length ≤ 2199023255488 := by simp at hs0; omega
              by_cases hc1 : c = 1
              · subst hc1
                have hL : L = [] := by
                  have := hcp.1
                  simp at this
                  exact this
                subst hL
                by_cases hk : k1 = 2
                · exact grd_call0 d ih w num pos s b2 o k1 n1 p1 s1 a1 K1.length c1 (hcell 0 (by omega)) (hcell 1 (by omega)) (hcell 2 (by omega)) (hcell 3 (by omega)) (hcell 4 (by omega)) bs r a0 hC hB _ hk (by
                    by_cases hk2 : kindS s1 ((0 : Nat) : Int) = 2
                    · rw [if_pos ⟨hk, hk2⟩, if_pos hk2]; rfl
                    · rw [if_neg (fun h => hk2 h.2), if_neg hk2]; rfl)
                · exact grd_calln0 d ih w num pos s b2 o k1 n1 p1 s1 a1 K1.length c1 (hcell 0 (by omega)) (hcell 1 (by omega)) (hcell 2 (by omega)) (hcell 3 (by omega)) (hcell 4 (by omega)) bs r a0 hC hB _ hk (by rw [if_neg (fun h => hk h.1)]; rfl)
              · by_cases hk : k1 = 2
                · exact grd_call d ih w num pos s L b2 o c (by simpa using hcp.1) hcp.2 k1 n1 p1 s1 a1 K1.length c1 (hcell 0 (by omega)) (hcell 1 (by omega)) (hcell 2 (by omega)) (hcell 3 (by omega)) (hcell 4 (by omega)) (RowN.tail hR) hs0' HS' bs r a0 hC hB _ hk (by
                    by_cases hk2 : kindS s1 (L.length : Nat) = 2
                    · rw [if_pos ⟨hk, hk2⟩, if_pos hk2]; rfl
                    · rw [if_neg (fun h => hk2 h.2), if_neg hk2]; rfl) hc1
                · exact grd_calln d ih w num pos s L b2 o c (by simpa using hcp.1) hcp.2 k1 n1 p1 s1 a1 K1.length c1 (hcell 0 (by omega)) (hcell 1 (by omega)) (hcell 2 (by omega)) (hcell 3 (by omega)) (hcell 4 (by omega)) (RowN.tail hR) hs0' HS' bs r a0 hC hB _ hk (by rw [if_neg (fun h => hk h.1)]; rfl) hc1
          · exact grd_else w k num pos s a K.length c a0 (by omega) (by omega) h3 (by omega) (by omega) (by omega) h7 h9 _ (by rw [grdF, if_neg hp, if_neg h3, if_neg h7, if_neg h9]; rfl)

end Go.Proofs.YtpgjcedonimgnaaDoor

/- The functions of a module: the map of their names and arities. -/
namespace Go.Proofs.YtpgjcedonimgnaaDoor
open Go.RowKit

theorem eq_str (d : Nat) (s t : ByteArray) (w : World) : (Op.equalIn (d + 1) 9 (.string s) (.string t)).run Tryd.prog w = .ok (s == t) w := by
  unfold Op.equalIn
  simp [run_underlying Tryd.underlying9, Result.andThen]
theorem eq_int (d : Nat) (n m : Int) (w : World) : (Op.equalIn (d + 1) 3 (.int .i64 n) (.int .i64 m)).run Tryd.prog w = .ok (n == m) w := by
  unfold Op.equalIn
  simp [run_underlying Tryd.underlying3, Result.andThen]
theorem sig_stood : Tryd.prog.stoodInHeld 63 = false := by kernel_rfl
theorem part0 (s : ByteArray) (n : Int) (w : World) : (part 9 #[.string s, .int .i64 n] 0).run Tryd.prog w = .ok (.string s) w := by kernel_rfl
theorem part1 (s : ByteArray) (n : Int) (w : World) : (part 3 #[.string s, .int .i64 n] 1).run Tryd.prog w = .ok (.int .i64 n) w := by kernel_rfl
theorem bytes_eqT (s : ByteArray) : (s == s) = true := (MapKept.bytes_beq s s).2 rfl
theorem bytes_eqF {s t : ByteArray} (h : s ≠ t) : (s == t) = false := by
  cases hb : s == t with
  | false => rfl
  | true => exact absurd ((MapKept.bytes_beq s t).1 hb) h
theorem sig_equal (s t : ByteArray) (n m : Int) (w : World) : (Op.equal 63 (.agg #[.string s, .int .i64 n]) (.agg #[.string t, .int .i64 m])).run Tryd.prog w = .ok (decide (s = t ∧ n = m)) w := by
  have hd : Op.maxDepth = (Op.maxDepth - 2) + 1 + 1 := by kernel_rfl
  unfold Op.equal
  rw [hd]
  generalize Op.maxDepth - 2 = d
  unfold Op.equalIn
  simp only [Sem.run_bind, run_underlying Tryd.underlying63, Result.andThen_ok, run_program, sig_stood, Bool.false_eq_true, if_false]
  rw [← Array.forIn_toList]
  simp [part0, eq_str, Result.andThen]
  by_cases hs : s = t
  · subst hs
    by_cases hn : n = m
    · subst hn
      simp [bytes_eqT, part1, eq_int, Result.andThen]
    · simp [bytes_eqT, part1, eq_int, Result.andThen, hn]
  · simp [bytes_eqF hs, hs]

/-- The map holds these functions. -/
def FnIs (w : World) (bf : Nat) (hs : ByteArray → Int → Bool) : Prop := ∃ es clock, w.heap[bf]? = some (.map es clock) ∧ (∀ x ∈ es.toList, ∃ s n, x.key = .agg #[.string s, .int .i64 n] ∧ x.val = .agg #[] ∧ hs s n = true) ∧ ∀ s n, hs s n = true → ∃ x ∈ es.toList, x.key = .agg #[.string s, .int .i64 n]
theorem FnIs.lt {w : World} {bf : Nat} {hs : ByteArray → Int → Bool} (h : FnIs w bf hs) : bf < w.heap.size := by
  obtain ⟨es, clock, hb, _⟩ := h
  exact lt_of_block hb
theorem FnIs.mono {S : List Nat} {w w' : World} {bf : Nat} {hs : ByteArray → Int → Bool} (h : FnIs w bf hs) (hu : Upd S w w') (hn : bf ∉ S) : FnIs w' bf hs := by
  have hl := h.lt
  obtain ⟨es, clock, hb, r⟩ := h
  exact ⟨es, clock, (hu.block bf hl hn).trans hb, r⟩
theorem sig_wide : (match Tryd.prog.underlying 63 with | some (.array _ _) | some (.struct _) => true | _ => false) = true := by kernel_rfl
theorem sig_ask (s : ByteArray) (n : Int) (w : World) : ∀ (l : List MapEntry) (i : Nat), (∀ x ∈ l, ∃ t m, x.key = .agg #[.string t, .int .i64 m] ∧ x.val = .agg #[]) →
    ((Instr.findAsking 63 (.agg #[.string s, .int .i64 n]) l i).run Tryd.prog w = .ok none w ∧ ∀ x ∈ l, x.key ≠ .agg #[.string s, .int .i64 n]) ∨
    ∃ j, (Instr.findAsking 63 (.agg #[.string s, .int .i64 n]) l i).run Tryd.prog w = .ok (some (i + j, .agg #[])) w ∧ ∃ x, l[j]? = some x ∧ x.key = .agg #[.string s, .int .i64 n]
  | [], i, _ => Or.inl ⟨by simp [Instr.findAsking], by simp⟩
  | e :: l, i, h => by
    obtain ⟨t, m, hk, hv⟩ := h e (by simp)
    by_cases heq : s = t ∧ n = m
    · obtain ⟨rfl, rfl⟩ := heq
      refine Or.inr ⟨0, ?_, e, rfl, hk⟩
      unfold Instr.findAsking
      simp [hk, hv, sig_equal, Result.andThen]
    · rcases sig_ask s n w l (i + 1) (fun x hx => h x (by simp [hx])) with ⟨h1, h2⟩ | ⟨j, h1, x, h2, h3⟩
      · refine Or.inl ⟨?_, fun x hx => ?_⟩
        · unfold Instr.findAsking
          simp only [Sem.run_bind, hk, sig_equal, heq, Result.andThen_ok, decide_false, Bool.false_eq_true, if_false]
          exact h1
        · rcases List.mem_cons.1 hx with rfl | hx
          · rw [hk]; intro e; simp at e; exact heq ⟨e.1.symm, e.2.symm⟩
          · exact h2 x hx
      · refine Or.inr ⟨j + 1, ?_, x, by simpa using h2, h3⟩
        unfold Instr.findAsking
        simp only [Sem.run_bind, hk, sig_equal, heq, Result.andThen_ok, decide_false, Bool.false_eq_true, if_false]
        rw [h1, show i + 1 + j = i + (j + 1) by omega]
theorem FnIs.find {w : World} {bf : Nat} {hs : ByteArray → Int → Bool} (h : FnIs w bf hs) (s : ByteArray) (n : Int) : ∃ es clock, w.heap[bf]? = some (.map es clock) ∧
    ((hs s n = false ∧ (Instr.findKey 63 (.agg #[.string s, .int .i64 n]) es.toList).run Tryd.prog w = .ok none w) ∨ ∃ j, hs s n = true ∧ (Instr.findKey 63 (.agg #[.string s, .int .i64 n]) es.toList).run Tryd.prog w = .ok (some (j, .agg #[])) w) := by
  obtain ⟨es, clock, hb, k1, k2⟩ := h
  refine ⟨es, clock, hb, ?_⟩
  rw [run_findKey_eq w sig_wide]
  rcases sig_ask s n w es.toList 0 (fun x hx => by obtain ⟨t, m, e1, e2, _⟩ := k1 x hx; exact ⟨t, m, e1, e2⟩) with ⟨h1, h2⟩ | ⟨j, h1, x, h2, h3⟩
  · refine Or.inl ⟨?_, h1⟩
    cases hh : hs s n with
    | false => rfl
    | true =>
      obtain ⟨x, hx, hk⟩ := k2 s n hh
      exact absurd hk (h2 x hx)
  · refine Or.inr ⟨0 + j, ?_, h1⟩
    obtain ⟨t, m, e1, _, e3⟩ := k1 x (List.mem_of_getElem? h2)
    rw [h3] at e1
    simp at e1
    rw [e1.1, e1.2]
    exact e3
theorem FnIs.look {w : World} {bf : Nat} {hs : ByteArray → Int → Bool} (h : FnIs w bf hs) (s : ByteArray) (n : Int) : (Instr.lookup 49 (.map (some bf)) (.agg #[.string s, .int .i64 n]) true).run Tryd.prog w = .ok (.tuple #[.agg #[], .bool (hs s n)]) w := by
  obtain ⟨es, clock, hb, h1⟩ := h.find s n
  rcases h1 with ⟨h0, hr⟩ | ⟨j, h0, hr⟩
  · simp [Instr.lookup, run_underlying und_sigs, MapKept.run_getObj_map hb, sig_check, hr, Result.andThen, h0]
  · simp [Instr.lookup, run_underlying und_sigs, MapKept.run_getObj_map hb, sig_check, hr, Result.andThen, h0]
/-- A function more. -/
theorem FnIs.put {w : World} {bf : Nat} {hs : ByteArray → Int → Bool} (h : FnIs w bf hs) (s : ByteArray) (n : Int) (hno : hs s n = false) : ∃ w', (Instr.mapUpdate 49 (.map (some bf)) (.agg #[.string s, .int .i64 n]) (.agg #[])).run Tryd.prog w = .ok () w' ∧ Upd [bf] w w' ∧ FnIs w' bf (fun t m => decide (t = s ∧ m = n) || hs t m) := by
  have hlt := h.lt
  obtain ⟨es, clock, hb, h1⟩ := h.find s n
  obtain ⟨es', clock', hb', k1, k2⟩ := h
  rw [hb] at hb'
  cases hb'
  rcases h1 with ⟨h0, hr⟩ | ⟨j, h0, hr⟩
  · refine ⟨{ w with heap := w.heap.setIfInBounds bf (.map (es.push { key := .agg #[.string s, .int .i64 n], val := .agg #[], born := clock }) (clock + 1)) }, ?_, setObj_upd _ _ _, ⟨es.push { key := .agg #[.string s, .int .i64 n], val := .agg #[], born := clock }, clock + 1, by simp [hlt], fun x hx => ?_, fun t m ht => ?_⟩⟩
    · simp [Instr.mapUpdate, run_underlying und_sigs, MapKept.run_getObj_map hb, MapKept.run_setObj_map _ hb, sig_check, hr, Result.andThen]
    · simp only [Array.toList_push, List.mem_append, List.mem_singleton] at hx
      rcases hx with hx | rfl
      · obtain ⟨t, m, e1, e2, e3⟩ := k1 x hx
        exact ⟨t, m, e1, e2, by simp [e3]⟩
      · exact ⟨s, n, rfl, rfl, by simp⟩
    · simp only [Bool.or_eq_true, decide_eq_true_eq] at ht
      rcases ht with ⟨rfl, rfl⟩ | ht
      · exact ⟨{ key := .agg #[.string t, .int .i64 m], val := .agg #[], born := clock }, by simp, rfl⟩
      · obtain ⟨x, hx, hk⟩ := k2 t m ht
        exact ⟨x, by simp; exact Or.inl (by simpa using hx), hk⟩
  · rw [hno] at h0; cases h0

end Go.Proofs.YtpgjcedonimgnaaDoor
