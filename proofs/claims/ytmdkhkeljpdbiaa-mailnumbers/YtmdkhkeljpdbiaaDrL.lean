/- A region that draws its order, whose last operation waits for all others. -/
import Derived.Test.YtmdkhkeljpdbiaaDrI
namespace Go.Proofs.Ytmdkhkeljpdbiaa
open Go.RowKit

/-- The last operation waits for each other one. -/
def lastOps (ops : Array Oper) (n : Nat) : Bool := (List.range n).all fun j => ((ops[n]?).map fun o => o.after.any fun e => Region.binds .any e && e.on == j).getD false

theorem region_last {rid : Nat} {ops : Array Oper} {Q : Exit → Act → World → Prop} {a0 : Act} {w0 : World} (hm : Try.prog.follows .mixedOrders = true) (n : Nat) (hn : ops.size = n + 1) (ds : List (Option Nat)) (hds : ops.toList.map (·.dst) = ds)
    (hd : ds.Pairwise fun a b => a = none ∨ a ≠ b) (hz : (ds.all fun o => o.all fun d => decide (d < a0.tmps.size)) = true) (hlow : lowOps ops = true) (hla : lastOps ops n = true)
    (Res : Nat → Value → World → Prop) (hstab : ∀ j v w w', Res j v w → Upd [] w w' → Res j v w')
    (hstep : ∀ (D : Nat → Prop) (vs : List Value) a w i o, Agr (ds.filterMap id) a0 a → Upd [] w0 w → (∀ j, D j → Res j (vs.getD j undef) w) → (∀ j d, ds[j]? = some (some d) → D j → a.tmps.getD d undef = vs.getD j undef) → i < n → ops[i]? = some o → (∀ e ∈ o.after, Region.binds .any e = true → D e.on) →
      wpOp Try.prog ops Q i (fun a' w' => ∃ v, a' = a.put o.dst v ∧ Res i v w' ∧ Upd [] w w') a w)
    (hlast : ∀ (vs : List Value) a w o, vs.length = n + 1 → Agr (ds.filterMap id) a0 a → Upd [] w0 w → (∀ j, j < n → Res j (vs.getD j undef) w) → (∀ j d, ds[j]? = some (some d) → j < n → a.tmps.getD d undef = vs.getD j undef) → ops[n]? = some o →
      wpOp Try.prog ops Q n (fun a' w' => ∃ v, a' = a.put o.dst v ∧ Q .normal (putAll a0 ds (vs.set n v)) w') a w) :
    (Code.region rid ops true).wp Try.prog Q a0 w0 := by
  refine region_inv hm (n + 1) hn ds hds hd hz hlow (fun L vs w => (L.length = n + 1 ∧ vs.length = n + 1) ∧ ((L[n]? = some false ∧ Upd [] w0 w ∧ ∀ j, L[j]? = some true → Res j (vs.getD j undef) w) ∨ ((∀ j, j < n + 1 → L[j]? = some true) ∧ Q .normal (putAll a0 ds vs) w))) ⟨⟨by simp, by simp⟩, Or.inl ⟨List.getElem?_replicate_of_lt (by omega), (Upd.refl [] w0).drew, fun j hj => ?_⟩⟩ ?_ ?_
  · rw [List.getElem?_replicate] at hj
    split at hj <;> cases hj
  · rintro L vs a w i o hL hv hS ⟨_, hI⟩ hun ho haf
    have hin : i < n + 1 := by rw [← hn]; exact (Array.getElem?_eq_some_iff.1 ho).1
    have hall : i = n → ∀ j, j < n → L[j]? = some true := fun e j hj => by
      subst e
      have h1 := List.all_eq_true.1 hla j (List.mem_range.2 hj)
      rw [ho] at h1
      simp only [Option.map_some, Option.getD_some] at h1
      obtain ⟨x, hx, hb⟩ := Array.any_eq_true'.1 h1
      simp only [Bool.and_eq_true, beq_iff_eq] at hb
      have := haf x hx hb.1
      rwa [hb.2] at this
    rcases hI with ⟨hf, hU, hR⟩ | ⟨ht, _⟩
    · by_cases e : i = n
      · have hA := hall e
        subst e
        refine wpOp_mono ?_ (hlast vs a w o hv hS.agr hU (fun j hj => hR j (hA j hj)) (fun j d hj hjn => hS.at' j d hj (hA j hjn)) ho)
        rintro a' w' ⟨v, ha, hq⟩
        refine ⟨v, ha, ⟨by simpa using hL, by simpa using hv⟩, Or.inr ⟨fun j hj => ?_, hq⟩⟩
        by_cases e : j = i
        · exact (set_true (by omega)).2 (Or.inl e)
        · exact (set_true (by omega)).2 (Or.inr (hA j (by omega)))
      · refine wpOp_mono ?_ (hstep (fun j => L[j]? = some true) vs a w i o hS.agr hU hR hS.at' (by omega) ho haf)
        rintro a' w' ⟨v, ha, hr, hu⟩
        refine ⟨v, ha, ⟨by simpa using hL, by simpa using hv⟩, Or.inl ⟨by rw [List.getElem?_set_ne e]; exact hf, hU.trans hu, fun j hj => ?_⟩⟩
        by_cases e2 : i = j
        · subst e2
          rw [List.getD_eq_getElem?_getD, List.getElem?_set_self (by omega)]
          exact hr
        · rw [List.getElem?_set_ne e2] at hj
          have := hstab j _ w w' (hR j hj) hu
          rw [List.getD_eq_getElem?_getD, List.getElem?_set_ne e2, ← List.getD_eq_getElem?_getD]
          exact this
    · exfalso
      rw [ht i hin] at hun
      cases hun
  · rintro vs w hv ⟨_, ⟨hf, _⟩ | ⟨_, hq⟩⟩
    · rw [List.getElem?_replicate_of_lt (by omega)] at hf; cases hf
    · exact hq

end Go.Proofs.Ytmdkhkeljpdbiaa
