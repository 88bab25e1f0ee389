/- Rows of new memory: what is appended to them. -/
import Derived.Test.YtmdkhkeljpdbiaaMrB
namespace Go.Proofs.Ytmdkhkeljpdbiaa
open Go.RowKit

set_option maxHeartbeats 1000000 in
theorem app_none7 (v : Value) (w : World) (n : Nat) (a2 : Option Addr) (c2 : Nat) (ty : TypeId) (h : RowG w 7 v n) : (Builtin.append_ #[24, 24] ty #[v, .slice a2 0 c2]).run Try.prog w = .ok v w := by
  obtain ⟨i, hi, hz, hs, hb⟩ := info_partsN info_termP
  have p1 := Try.underlying24
  rcases h with ⟨rfl, rfl⟩ | ⟨g, cap, rfl, hg, hc, hm, _⟩
  · unfold Builtin.append_
    simp [run_underlying p1, go_sem, Result.andThen]
    cases a2 <;> rfl
  · unfold Builtin.append_
    simp [run_underlying p1, go_sem, Result.andThen, hc]
    cases a2 <;> rfl
/-- A row in new memory. -/
structure FrR (w0 w : World) (v : Value) (L : List (List Value)) : Prop where
  row : RowG w 7 v L.length
  has : Hs w 7 v L.length (fun i => L.getD i [])
  new : ∀ y, v.ownBlock = some y → w0.heap.size ≤ y
theorem app_fresh {w0 w : World} {v : Value} {L M : List (List Value)} {sp : Option Addr} {m c : Nat} (ty : TypeId) (hu : Upd [] w0 w) (h : FrR w0 w v L) (hM : Sev M) (hlen : L.length + M.length ≤ 2000) (hm : m = M.length)
    (hsrc : 0 < M.length → ∃ ad, sp = some ad ∧ ∀ j u, M.flatten[j]? = some u → w.cell? (ad.add j) = some u) :
    ∃ v' w', (Builtin.append_ #[24, 24] ty #[v, .slice sp m c]).run Try.prog w = .ok v' w' ∧ Upd [] w0 w' ∧ FrR w0 w' v' (L ++ M) := by
  subst hm
  by_cases h0 : M.length = 0
  · obtain rfl : M = [] := List.eq_nil_of_length_eq_zero h0
    refine ⟨v, w, app_none7 v w _ _ _ _ h.row, hu, by rw [List.append_nil]; exact h⟩
  · obtain ⟨ad, rfl, hs⟩ := hsrc (by omega)
    obtain ⟨i0, hi, hz0, hzs, hzb⟩ := info_partsN info_termP
    have hfl := flat_len M hM
    obtain ⟨g', cap', w', hrun, hR, hG, hC⟩ := run_appendG (ty := ty) Try.underlying24 hi hz0 hzs hzb rfl h.row ad M.length c M.flatten hfl hs hM.one (by omega) (by omega) (by omega)
    have hg : w0.heap.size ≤ g' := by
      rcases hG.at' with h1 | h1
      · exact h.new g' h1
      · rw [h1]; exact hu.size
    have hll : (L ++ M).length = L.length + M.length := List.length_append ..
    refine ⟨_, w', hrun, hu.then hG.upd (fun x hx => Or.inl (by simp at hx; rw [hx]; exact hg)), ⟨by rw [hll]; exact hR, ?_, fun y hy => by simp [Value.ownBlock] at hy; subst hy; exact hg⟩⟩
    rw [hll]
    intro g2 l2 c2 e i j hi2 hj
    simp only [Value.slice.injEq, Option.some.injEq, Addr.mk.injEq, and_true] at e
    obtain ⟨rfl, _, _⟩ := e
    show _ = ((L ++ M).getD i [])[j]?
    by_cases hiL : i < L.length
    · have e2 : (L ++ M).getD i [] = L.getD i [] := by rw [List.getD_eq_getElem?_getD, List.getD_eq_getElem?_getD, List.getElem?_append_left hiL]
      have hij : i * 7 + j < L.length * 7 := by have := mul_room (sz := 7) hiL; omega
      rcases h.row with ⟨h1, h2⟩ | ⟨g0, cap0, h1, _⟩
      · omega
      · subst h1
        rw [hG.new g0 L.length cap0 rfl (i * 7 + j) hij, e2]
        exact h.has g0 L.length cap0 rfl i j hiL hj
    · have e2 : (L ++ M).getD i [] = M.getD (i - L.length) [] := by rw [List.getD_eq_getElem?_getD, List.getD_eq_getElem?_getD, List.getElem?_append_right (by omega)]
      have hrr := mul_room (sz := 7) (show i - L.length < M.length by omega)
      have h3 := hC ((i - L.length) * 7 + j) (by omega)
      have hix : L.length * 7 + ((i - L.length) * 7 + j) = i * 7 + j := by
        have : L.length * 7 + (i - L.length) * 7 = i * 7 := by rw [← Nat.add_mul]; congr 1; omega
        omega
      rw [hix] at h3
      rw [h3, e2, flat_get M hM (i - L.length) j (by omega) hj]
theorem wp_appF {o : Oper} {a : Act} {w0 w : World} {K : Act → World → Prop} {Q : Exit → Act → World → Prop} (s x : Operand) (ho : o.op = .call { callee := .builtin .append, args := #[s, x], argTypes := #[24, 24] })
    {v : Value} {L M : List (List Value)} {sp : Option Addr} {m c : Nat} (hs : a.eval s = v) (hx : a.eval x = .slice sp m c) (hu : Upd [] w0 w) (h : FrR w0 w v L) (hM : Sev M) (hlen : L.length + M.length ≤ 2000) (hm : m = M.length)
    (hsrc : 0 < M.length → ∃ ad, sp = some ad ∧ ∀ j u, M.flatten[j]? = some u → w.cell? (ad.add j) = some u)
    (hK : ∀ v' w', Upd [] w0 w' → FrR w0 w' v' (L ++ M) → K (a.put o.dst v') w') : o.wp Try.prog a w K Q := by
  obtain ⟨v', w', hrun, h1, h2⟩ := app_fresh o.type hu h hM hlen hm hsrc (c := c)
  unfold Oper.wp execOp
  simp only [ho, resolve, invoke, builtin, Sem.run_bind, Sem.run_pure, Result.andThen_ok, List.map_toArray, List.map_cons, List.map_nil, hs, hx, hrun]
  exact hK v' w' h1 h2
theorem Sev.take {L : List (List Value)} (h : Sev L) (k : Nat) : Sev (L.take k) := fun c hc => h c (List.mem_of_mem_take hc)
theorem take_src {w : World} {g cap k : Nat} {L : List (List Value)} (hs : Sev L) (hH : Hs w 7 (.slice (some ⟨g, 0, none⟩) L.length cap) L.length (fun i => L.getD i [])) (hk : k ≤ L.length) :
    ∀ j v, (L.take k).flatten[j]? = some v → w.cell? ((⟨g, 0, none⟩ : Addr).add j) = some v := by
  intro j v hj
  have hfl := flat_len _ (hs.take k)
  have hlt := (List.getElem?_eq_some_iff.1 hj).1
  have hl : (L.take k).length = k := by rw [List.length_take]; omega
  rw [hfl, hl] at hlt
  rw [Addr.add_mid, Nat.zero_add]
  have h1 := flat_get _ (hs.take k) (j / 7) (j % 7) (by omega) (by omega)
  rw [show j / 7 * 7 + j % 7 = j by omega, hj] at h1
  have h2 := hH g L.length cap rfl (j / 7) (j % 7) (by omega) (by omega)
  rw [show j / 7 * 7 + j % 7 = j by omega] at h2
  rw [h2, h1]
  congr 1
  show L.getD (j / 7) [] = _
  rw [List.getD_eq_getElem?_getD, List.getD_eq_getElem?_getD, List.getElem?_take, if_pos (by omega)]

end Go.Proofs.Ytmdkhkeljpdbiaa
