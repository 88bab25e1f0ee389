/- A clock of one's own beside a row of twelve times. -/
import Derived.Test.YtpemnficdhjkhaaCkA
namespace Go.Proofs.Ytpemnficdhjkhaa
open Go.RowKit Go.Maps

/-- The times that were written down for twelve processes. -/
def dv (U : TF) (p : Nat) : Int := (U p).getD (-1)
theorem setT_pos {T : TF} {now pid after : Int} (h : setB T pid after = true) : setT T now pid after = at1 T pid (some (now + after)) := by unfold setT; rw [if_pos h]
theorem dropL_in {T : TF} {ys : List Int} {q : Nat} (y : Int) (h : y = q) : dv (dropL T (ys ++ [y])) q = -1 := by unfold dv dropL; rw [if_pos (by rw [← h]; simp)]; rfl
theorem dropL_out {T : TF} {ys : List Int} {q r : Nat} (y : Int) (h : y = q) (hr : r ≠ q) : dropL T (ys ++ [y]) r = dropL T ys r := by
  unfold dropL
  have : (r : Int) ≠ y := by omega
  simp [this]
theorem i64_nat {p : Nat} (hp : p < 12) : I64 (p : Int) := i64_small (by omega) (by omega)
theorem setB_small {T : TF} {p a : Int} (h0 : 0 ≤ a) (h1 : a < 64) : setB T p a = (T p).isNone := by
  unfold setB
  rw [decide_eq_true h0, decide_eq_true (by omega)]
  simp
/-! ### who is told -/
/-- Is p to be told? -/
def isDue (T : TF) (m : Int) (p : Nat) : Bool := decide (0 ≤ dv T p) && decide (dv T p ≤ m)
theorem isDue_iff {T : TF} {m : Int} (hr : ∀ x t, T x = some t → 0 ≤ t) {p : Nat} : isDue T m p = true ↔ ∃ t, T p = some t ∧ t ≤ m := by
  unfold isDue dv
  cases hT : T p with
  | none => simp
  | some t =>
    have := hr p t hT
    simp [this]
theorem due_count {T : TF} {m : Int} {ys : List Int} (h : Due T m ys) (hr : ∀ x t, T x = some t → 0 ≤ t) (hd : ∀ x, T x ≠ none → 0 ≤ x ∧ x < 12) : (List.range 12).countP (isDue T m) = ys.length := by
  have n1 : ys.Nodup := h.1.imp (fun {a b} h e => by subst e; exact bef_irr h)
  have n2 : (((List.range 12).filter (isDue T m)).map (fun p : Nat => (p : Int))).Nodup := by
    have : ((List.range 12).filter (isDue T m)).Nodup := List.nodup_range.sublist List.filter_sublist
    exact List.pairwise_map.2 (this.imp (fun {a b} hne e => hne (by omega)))
  have hp : ys.Perm (((List.range 12).filter (isDue T m)).map (fun p : Nat => (p : Int))) := (List.perm_ext_iff_of_nodup n1 n2).2 (fun x => by
    rw [h.2 x, List.mem_map]
    constructor
    · rintro ⟨t, ht, hle⟩
      obtain ⟨h0, h1⟩ := hd x (by rw [ht]; simp)
      refine ⟨x.toNat, List.mem_filter.2 ⟨List.mem_range.2 (by omega), ?_⟩, by omega⟩
      rw [isDue_iff hr, show ((x.toNat : Nat) : Int) = x by omega]
      exact ⟨t, ht, hle⟩
    · rintro ⟨p, hp, rfl⟩
      exact (isDue_iff hr).1 (List.mem_filter.1 hp).2)
  rw [hp.length_eq, List.length_map, List.countP_eq_length_filter]
theorem count_snoc {f : Nat → Bool} (k : Nat) : (List.range (k + 1)).countP f = (List.range k).countP f + (if f k = true then 1 else 0) := by
  rw [List.range_succ, List.countP_append]
  cases h : f k <;> simp [h]
/-- What is read of one who is told. -/
theorem due_at {T : TF} {m : Int} {ys : List Int} (h : Due T m ys) (hr : ∀ x t, T x = some t → 0 ≤ t) (hd : ∀ x, T x ≠ none → 0 ≤ x ∧ x < 12) {k : Nat} (hk : k < ys.length) :
    ∃ q : Nat, ∃ t : Int, ys[k] = q ∧ q < 12 ∧ dv T q = t ∧ 0 ≤ t ∧ t ≤ m ∧ T q = some t := by
  obtain ⟨t, ht, hle⟩ := (h.2 ys[k]).1 (List.getElem_mem hk)
  obtain ⟨h0, h1⟩ := hd ys[k] (by rw [ht]; simp)
  have e : ((ys[k].toNat : Nat) : Int) = ys[k] := by omega
  exact ⟨ys[k].toNat, t, e.symm, by omega, by unfold dv; rw [e, ht]; rfl, hr _ _ ht, hle, by rw [e, ht]⟩
theorem due_next {T : TF} {m : Int} {ys : List Int} (h : Due T m ys) {k : Nat} (hk : k + 1 < ys.length) {q r : Nat} {s t : Int} (hq : ys[k] = q) (hr : ys[k + 1] = r) (hs : T q = some s) (ht : T r = some t) : s < t ∨ s = t ∧ (q : Int) < r := by
  have := List.pairwise_iff_getElem.1 h.1 k (k + 1) (by omega) hk (by omega)
  obtain ⟨s', t', h1, h2, h3⟩ := this
  rw [hq, hs] at h1; cases h1
  rw [hr, ht] at h2; cases h2
  rw [hq, hr] at h3
  exact h3
theorem drop_tick {T : TF} {m : Int} {ys : List Int} (h : Due T m ys) : dropL T ys = tickT T m := by
  funext x
  unfold dropL tickT
  cases hT : T x with
  | none => simp
  | some t =>
    by_cases hle : t ≤ m
    · rw [if_pos ((h.2 x).2 ⟨t, hT, hle⟩)]; simp [hle]
    · rw [if_neg (fun hc => by
        obtain ⟨t', h1, h2⟩ := (h.2 x).1 hc
        rw [hT] at h1; cases h1
        omega)]
      simp [hle]

/-- The steps that came in. -/
def Steps (w : World) (a : Option Addr) (n : Nat) : Prop := ∀ i, i < n → ∃ gl ol op A B, a = some ⟨gl, ol, none⟩ ∧ gl < w.heap.size ∧ w.cell? ⟨gl, ol + i * 3, none⟩ = some (.int .i64 op) ∧ w.cell? ⟨gl, ol + i * 3 + 1, none⟩ = some (.int .i64 A) ∧ w.cell? ⟨gl, ol + i * 3 + 2, none⟩ = some (.int .i64 B) ∧ I64 op ∧ I64 A ∧ I64 B
theorem Steps.le {w : World} {a : Option Addr} {n m : Nat} (h : Steps w a n) (hm : m ≤ n) : Steps w a m := fun i hi => h i (by omega)

end Go.Proofs.Ytpemnficdhjkhaa
