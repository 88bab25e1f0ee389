/- closeUp. -/
import Derived.Test.YtmdkhkeljpdbiaaMlJ
namespace Go.Proofs.Ytmdkhkeljpdbiaa
open Go.RowKit

/-- Letters of seven cells each. -/
def Sev (L : List (List Value)) : Prop := ∀ c ∈ L, c.length = 7 ∧ ∀ u ∈ c, u.oneCell' = true
theorem flat_len : ∀ (L : List (List Value)), Sev L → L.flatten.length = L.length * 7
  | [], _ => rfl
  | c :: L, h => by
    have h1 := (h c List.mem_cons_self).1
    have h2 := flat_len L (fun x hx => h x (List.mem_cons_of_mem _ hx))
    simp only [List.flatten_cons, List.length_append, List.length_cons, h1, h2]
    omega
theorem flat_get : ∀ (L : List (List Value)), Sev L → ∀ i j, i < L.length → j < 7 → L.flatten[i * 7 + j]? = (L.getD i [])[j]?
  | [], _, i, j, hi, _ => by simp at hi
  | c :: L, h, 0, j, _, hj => by
    have h1 := (h c List.mem_cons_self).1
    rw [List.flatten_cons, List.getElem?_append_left (by omega)]
    simp
  | c :: L, h, i + 1, j, hi, hj => by
    have h1 := (h c List.mem_cons_self).1
    have h2 := flat_get L (fun x hx => h x (List.mem_cons_of_mem _ hx)) i j (by simpa using hi) hj
    rw [List.flatten_cons, List.getElem?_append_right (by omega), show (i + 1) * 7 + j - c.length = i * 7 + j by omega, h2]
    simp
theorem Sev.drop {L : List (List Value)} (h : Sev L) (k : Nat) : Sev (L.drop k) := fun c hc => h c (List.mem_of_mem_drop hc)
theorem Sev.erase {L : List (List Value)} (h : Sev L) (k : Nat) : Sev (L.eraseIdx k) := fun c hc => h c (List.mem_of_mem_eraseIdx hc)
theorem Sev.one {L : List (List Value)} (h : Sev L) : ∀ u ∈ L.flatten, u.oneCell' = true := fun u hu => by
  obtain ⟨c, hc, hu⟩ := List.mem_flatten.1 hu
  exact (h c hc).2 u hu

theorem run_copyT (w : World) (ty : TypeId) (g o dLen dCap : Nat) (sp : Option Addr) (sLen sCap : Nat) (cs : List Value) (hn : Nat.min sLen dLen * 7 = cs.length)
    (hsrc : 0 < cs.length → ∃ ad, sp = some ad ∧ ∀ j v, cs[j]? = some v → w.cell? (ad.add j) = some v) (hth : w.there g o cs.length) (h1 : ∀ v ∈ cs, v.oneCell' = true) (hsp : sp ≠ none) :
    (Builtin.copy_ #[24, 24] ty #[.slice (some ⟨g, o, none⟩) dLen dCap, .slice sp sLen sCap]).run Try.prog w = .ok (goInt (Nat.min sLen dLen)) (w.setCells g o cs) := by
  obtain ⟨i, hi, hz, hs, hb⟩ := info_partsN info_termP
  cases sp with
  | none => exact absurd rfl hsp
  | some ad =>
    have hl : (loadCells ad cs.length).run Try.prog w = .ok cs.toArray w := by
      refine run_loadCells_list (P := Try.prog) w ad cs (fun j v hv => ?_)
      obtain ⟨ad', e, h⟩ := hsrc (by have := (List.getElem?_eq_some_iff.1 hv).1; omega)
      cases e
      exact h j v hv
    have hst := run_storeCells_cells (P := Try.prog) g o cs 0 w (fun j hj => by simpa using (hth j hj).1) (fun j hj => by simpa using (hth j hj).2) h1
    simp only [Nat.add_zero] at hst
    simp [Builtin.copy_, run_underlying Try.underlying24, Builtin.lenOf, Builtin.firstCells, Go.sizeOf, typeInfo, hi, hs, hn, hl, hst]
theorem run_clearT (w : World) (ty : TypeId) (g o c : Nat) (hth : w.there g o 7) :
    (Builtin.clear_ #[24] ty #[.slice (some ⟨g, o, none⟩) 1 c]).run Try.prog w = .ok (.tuple #[]) (w.setCells g o (fl 0 false ⟨#[]⟩ 0).toList) := by
  have hz : ∀ w, (zeroValue 26).run Try.prog w = .ok (.agg #[.int .u8 0, .bool false, .slice none 0 0, .string ⟨#[]⟩, .int .i64 0, .slice none 0 0, .slice none 0 0]) w := fun w => by kernel_rfl
  have hst := run_storeCells_cells (P := Try.prog) g o (fl 0 false ⟨#[]⟩ 0).toList 0 w (fun j hj => by simpa using (hth j hj).1) (fun j hj => by simpa using (hth j hj).2) (fun u hu => List.all_eq_true.1 (by simpa using fl_one 0 false ⟨#[]⟩ 0) u hu)
  simp only [Nat.add_zero] at hst
  have he : (Builtin.zeroCells (Value.cells (.agg #[.int .u8 0, .bool false, .slice none 0 0, .string ⟨#[]⟩, .int .i64 0, .slice none 0 0, .slice none 0 0])) 1).toList = (fl 0 false ⟨#[]⟩ 0).toList := by kernel_rfl
  simp only [Builtin.clear_]
  simp [run_underlying Try.underlying24, hz, he, hst]

end Go.Proofs.Ytmdkhkeljpdbiaa
