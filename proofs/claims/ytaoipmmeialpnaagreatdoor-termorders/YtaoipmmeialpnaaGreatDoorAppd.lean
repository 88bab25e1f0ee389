/- 'append([]uint32{x}, xs...)'. -/
import Derived.Test.YtaoipmmeialpnaaGreatDoorJAA
import Derived.Deep.AppendSrc
namespace Go.Proofs.YtaoipmmeialpnaaGreatDoor
open Go.RowKit

theorem Blk.owns {w : World} {g : Nat} {X : List Nat} (h : Blk w g X) (hl : X.length ≤ 100000) : w.ownsRow g 48 1 (.slice (some ⟨g, 0, none⟩) X.length X.length) X.length (X.map (fun n => Value.int .u32 (n : Nat))) :=
  ⟨by simp, Or.inr ⟨g, X.length, u32s X, rfl, Nat.le_refl _, h, Nat.le_refl _, by unfold maxLen; omega, by simp [u32s], by rw [Nat.mul_one, List.take_of_length_le (by simp [u32s])]; simp [u32s]⟩⟩

theorem map_u32_get (M : List Nat) (j : Nat) (u : Value) (h : (M.map (fun n => Value.int .u32 (n : Nat)))[j]? = some u) : j < M.length ∧ u = .int .u32 (M.getD j 0 : Nat) := by
  rw [List.getElem?_map, Option.map_eq_some_iff] at h
  obtain ⟨n, h1, h2⟩ := h
  obtain ⟨hj, e⟩ := List.getElem?_eq_some_iff.1 h1
  exact ⟨hj, by rw [← h2, List.getD_eq_getElem?_getD, h1]; rfl⟩

/-- What is owned is there. -/
theorem owns_at {w : World} {base n : Nat} {v : Value} {L : List Nat} (h : w.ownsRow base 48 1 v n (L.map (fun n => Value.int .u32 (n : Nat)))) (hv : v ≠ .slice none 0 0) :
    n = L.length ∧ ∃ g cap, v = .slice (some ⟨g, 0, none⟩) n cap ∧ base ≤ g ∧ n ≤ cap ∧ cap ≤ 9223372036854775807 ∧ At w (some ⟨g, 0, none⟩) L := by
  obtain ⟨hl, ⟨h1, _⟩ | ⟨g, cap, cur, hv', hb, hh, hc1, hc2, hcs, hcu⟩⟩ := h
  · exact absurd h1 hv
  · have hn : n = L.length := by simpa using hl.symm
    refine ⟨hn, g, cap, hv', hb, hc1, by unfold maxLen at hc2; omega, ?_⟩
    refine Or.inr ⟨g, 0, rfl, lt_of_block hh, fun i hi => ?_⟩
    rw [Nat.zero_add, cell_of_row w g i _ _ _ hh]
    have e : cur.toList[i]? = (cur.toList.take (n * 1))[i]? := by rw [List.getElem?_take_of_lt (by omega)]
    rw [← Array.getElem?_toList, e, hcu, List.getElem?_map, List.getElem?_eq_getElem hi, List.getD_eq_getElem?_getD, List.getElem?_eq_getElem hi]
    rfl

theorem append_u32 (w : World) {ops : Array Oper} {rest : List Oper} {o : Oper} {a : Act} {Q : Exit → Act → World → Prop} (hgd : o.guard = none) (s x : Operand)
    (ho : o.op = .call { callee := .builtin .append, args := #[s, x], argTypes := #[23, 23] }) (g : Nat) (X M : List Nat) (a' : Option Addr) (n c' : Nat) (hX : X.length ≤ 1000) (hM : M.length ≤ 1000)
    (hn : n = X.length) (hs : a.eval s = .slice (some ⟨g, 0, none⟩) n n) (hB : Blk w g X) (hx : a.eval x = .slice a' M.length c') (HM : At w a' M)
    (h : ∀ g' cap' w', At w' (some ⟨g', 0, none⟩) (X ++ M) → Upd [g] w w' → (X ++ M).length ≤ cap' → cap' ≤ 9223372036854775807 → wpList Tryz.prog ops Q rest (a.put o.dst (.slice (some ⟨g', 0, none⟩) (X ++ M).length cap')) w') :
    wpList Tryz.prog ops Q (o :: rest) a w := by
  subst hn
  obtain ⟨i0, hi, hz0, hz1, hz2⟩ := info_parts info_u32
  have hlt := hB.lt
  refine wpList_plain hgd fun K hK => ?_
  rcases a' with _ | ad
  · have hM0 : M = [] := by
      rcases HM with h | ⟨b, o, e, _⟩
      · exact h
      · cases e
    subst hM0
    have hr := run_append_room_src (P := Tryz.prog) w 23 23 o.type 48 i0 Tryz.underlying23 hi g 0 X.length X.length (.slice none 0 c') 0 [] (Src.ofNil w Tryz.underlying23 c') (by omega) (fun j hj => by simp at hj) (fun j hj => by simp at hj)
    have e0 : w.setCells g (0 + X.length * i0.size) [] = w := rfl
    rw [e0] at hr
    unfold Oper.wp execOp
    simp only [List.length_nil] at hx
    simp only [ho, resolve, invoke, builtin, Sem.run_bind, Sem.run_pure, Result.andThen_ok, List.map_toArray, List.map_cons, List.map_nil, hs, hx, hr]
    refine hK _ _ ?_
    have hh := h g X.length w (by rw [List.append_nil]; exact hB.at) (Upd.refl _ _) (by simp) (by omega)
    rw [List.append_nil] at hh
    exact hh
  · have hnews : ∀ j u, (M.map (fun n => Value.int .u32 (n : Nat)))[j]? = some u → w.cell? (ad.add j) = some u := fun j u hj => by
      obtain ⟨h1, h2⟩ := map_u32_get M j u hj
      rcases HM with h | ⟨b, o, e, _, hc⟩
      · rw [h] at h1; simp at h1
      · cases e
        rw [h2, Addr.add_lit]; exact hc j h1
    obtain ⟨v', w', hr, hown, hgr, hnil⟩ := run_append_own (P := Tryz.prog) w g 23 o.type 48 i0 (.int .u32 0) 1 4 Tryz.underlying23 hi hz0 hz1 hz2 rfl (by decide) _ X.length _ (hB.owns (by omega)) ad M.length c' (M.map (fun n => Value.int .u32 (n : Nat))) (by simp) hnews
      (fun u hu => by obtain ⟨_, _, rfl⟩ := List.mem_map.1 hu; rfl) (by unfold maxLen; omega) (by omega) (Nat.le_of_lt hlt)
    rw [← List.map_append] at hown
    obtain ⟨hn, g', cap', rfl, hb, hc1, hc2, hat⟩ := owns_at hown (fun e => by have := (hnil.1 e).1; cases this)
    unfold Oper.wp execOp
    simp only [ho, resolve, invoke, builtin, Sem.run_bind, Sem.run_pure, Result.andThen_ok, List.map_toArray, List.map_cons, List.map_nil, hs, hx, hr]
    refine hK _ _ ?_
    rw [hn]
    exact h g' cap' w' hat ((Upd.refl _ _).grown hgr (fun k hk => Or.inr (by simp [Value.ownBlock] at hk; simp [hk]))) (by rw [← hn]; exact hc1) hc2

end Go.Proofs.YtaoipmmeialpnaaGreatDoor
