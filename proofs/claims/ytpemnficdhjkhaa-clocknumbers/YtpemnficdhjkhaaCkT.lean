/- Clocks: who may be set; who is not. -/
import Derived.Test.YtpemnficdhjkhaaCkDc
namespace Go.Proofs.Ytpemnficdhjkhaa
open Go.RowKit Go.Maps

/-- Whether pid may be set for after. -/
def setB (T : TF) (pid after : Int) : Bool := (T pid).isNone && (decide (0 ≤ after) && decide (after ≤ 1099511627776))
/-- Who waits, and for when, behind Set. -/
def setT (T : TF) (now pid after : Int) : TF := if setB T pid after = true then at1 T pid (some (now + after)) else T

set_option maxRecDepth 10000 in
theorem set_not {w : World} {c n : Nat} {P : Nat → Prop} {now : Int} {T : TF} (o : Ck w c n P now T) {pid after : Int} (hp : I64 pid) (hb : setB T pid after = false) :
    Calls Try.prog 13 #[.pointer (some ⟨c, 0, none⟩), .int .i64 pid, .int .i64 after] w fun e w' => e = .returned (.bool false) ∧ w' = w := by
  have hmade := o.made
  obtain ⟨g, v, gb, xs, o, hP⟩ := o
  have hw := o.toCkR.waits hp
  clear o hP
  unfold setB at hb
  cases hT : T pid with
  | some t =>
    rw [hT] at hw
    clear hb hT
    go_enter Try.func13, Try.ntmps13
    go_wp2_with fail
    refine Calls.mono hmade ?_
    rintro e w' ⟨rfl, rfl⟩
    go_wp2_with fail
    refine Calls.mono hw ?_
    rintro e w' ⟨rfl, rfl⟩
    go_wp2
    go_ret
    exact ⟨rfl, rfl⟩
  | none =>
    rw [hT] at hw hb
    by_cases h1 : after < 0
    · have d1 : decide (after < 0) = true := by simpa using h1
      clear hb hT
      go_enter Try.func13, Try.ntmps13
      go_wp2_with fail
      refine Calls.mono hmade ?_
      rintro e w' ⟨rfl, rfl⟩
      go_wp2_with fail
      refine Calls.mono hw ?_
      rintro e w' ⟨rfl, rfl⟩
      go_wp2
      go_ret
      exact ⟨rfl, rfl⟩
    · have d1 : decide (after < 0) = false := by simpa using h1
      have h2 : 1099511627776 < after := by simp at hb; omega
      have d2 : decide (1099511627776 < after) = true := by simpa using h2
      clear hb hT
      go_enter Try.func13, Try.ntmps13
      go_wp2_with fail
      refine Calls.mono hmade ?_
      rintro e w' ⟨rfl, rfl⟩
      go_wp2_with fail
      refine Calls.mono hw ?_
      rintro e w' ⟨rfl, rfl⟩
      go_wp2
      go_ret
      exact ⟨rfl, rfl⟩

theorem tmAt_same (T : TF) (k t : Int) : tmAt (at1 T k (some t)) k = t := by unfold tmAt; rw [at1_same]; rfl
/-- The order of who waits does not ask who does not. -/
theorem bef_other {T : TF} {k : Int} {o : Option Int} {x y : Int} (hx : x ≠ k) (hy : y ≠ k) : bef (at1 T k o) x y ↔ bef T x y := by
  unfold bef
  rw [at1_other _ _ hx, at1_other _ _ hy]
theorem srt_other {T : TF} {k : Int} {o : Option Int} {xs : List Int} (hs : xs.Pairwise (bef T)) (hk : k ∉ xs) : xs.Pairwise (bef (at1 T k o)) :=
  hs.imp_of_mem (fun {a b} ha hb h => (bef_other (fun e => hk (by rw [← e]; exact ha)) (fun e => hk (by rw [← e]; exact hb))).2 h)
theorem ins_mem (xs : List Int) (k : Nat) (x y : Int) : y ∈ insL xs k x ↔ y ∈ xs ∨ y = x := by
  unfold insL
  rw [List.mem_append, List.mem_cons]
  constructor
  · rintro (h | h | h)
    · exact Or.inl (List.mem_of_mem_take h)
    · exact Or.inr h
    · exact Or.inl (List.mem_of_mem_drop h)
  · rintro (h | h)
    · rw [← List.take_append_drop k xs, List.mem_append] at h
      rcases h with h | h
      · exact Or.inl h
      · exact Or.inr (Or.inr h)
    · exact Or.inr (Or.inl h)
/-- Put where place tells, all stand in order. -/
theorem ins_srt {T : TF} {its pid : Int} {xs : List Int} (hs : xs.Pairwise (bef T)) (hm : ∀ x ∈ xs, T x ≠ none) (hp : T pid = some its) (hn : pid ∉ xs) : (insL xs (xs.countP fun x => !pl T its pid x) pid).Pairwise (bef T) := by
  obtain ⟨h1, h2, h3⟩ := parted (pl_mono hs hm hp)
  unfold insL
  rw [List.pairwise_append]
  refine ⟨hs.sublist (List.take_sublist _ _), ?_, fun x hx y hy => ?_⟩
  · rw [List.pairwise_cons]
    refine ⟨fun y hy => ?_, hs.sublist (List.drop_sublist _ _)⟩
    have hyx := List.mem_of_mem_drop hy
    have := (pl_iff (hm y hyx) hp).1 (h3 y hy)
    obtain ⟨t, ht⟩ := Option.ne_none_iff_exists'.1 (hm y hyx)
    refine ⟨its, t, hp, ht, ?_⟩
    have h4 : ¬ (t < its ∨ t = its ∧ y < pid) := fun hc => this ⟨t, its, ht, hp, hc⟩
    have h5 : y ≠ pid := fun e => hn (e ▸ hyx)
    omega
  · have hxx := List.mem_of_mem_take hx
    have hxp : bef T x pid := Classical.byContradiction fun hc => by
      have := (pl_iff (hm x hxx) hp).2 hc
      rw [h2 x hx] at this; cases this
    rcases List.mem_cons.1 hy with rfl | hy
    · exact hxp
    · have h6 := (pl_iff (hm y (List.mem_of_mem_drop hy)) hp).1 (h3 y hy)
      obtain ⟨s, t, q1, q2, q3⟩ := hxp
      obtain ⟨u, hu⟩ := Option.ne_none_iff_exists'.1 (hm y (List.mem_of_mem_drop hy))
      rw [hp] at q2; cases q2
      have h4 : ¬ (u < its ∨ u = its ∧ y < pid) := fun hc => h6 ⟨u, its, hu, hp, hc⟩
      have h5 : y ≠ pid := fun e => hn (e ▸ List.mem_of_mem_drop hy)
      exact ⟨s, u, q1, hu, by omega⟩

end Go.Proofs.Ytpemnficdhjkhaa
