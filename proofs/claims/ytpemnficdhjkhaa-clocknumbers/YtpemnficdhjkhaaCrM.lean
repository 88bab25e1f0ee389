/- The document's clock: the mathematics of its list. -/
import Derived.Test.YtpemnficdhjkhaaCkPa
namespace Go.Proofs.Ytpemnficdhjkhaa
open Go.RowKit Go.Maps

/-- The list says the same as T. -/
structure SimC (T : TF) (L : List (Int × Int)) : Prop where
  nd : (L.map (·.2)).Nodup
  mem : ∀ x t, T x = some t ↔ (t, x) ∈ L
theorem SimC.nil : SimC (fun _ => none) [] := ⟨by simp, fun x t => by simp⟩
theorem SimC.nope {T : TF} {L : List (Int × Int)} (h : SimC T L) {x : Int} (hx : ∀ p ∈ L, p.2 ≠ x) : T x = none := by
  cases hT : T x with
  | none => rfl
  | some t => exact absurd rfl (hx _ ((h.mem x t).1 hT))
theorem SimC.at {T : TF} {L : List (Int × Int)} (h : SimC T L) {k : Nat} (hk : k < L.length) : T L[k].2 = some L[k].1 := (h.mem _ _).2 (List.getElem_mem hk)
theorem SimC.set {T : TF} {L : List (Int × Int)} (h : SimC T L) {pid its : Int} (hT : T pid = none) : SimC (at1 T pid (some its)) (L ++ [(its, pid)]) := by
  have hno : ∀ t, (t, pid) ∉ L := fun t hm => by rw [(h.mem pid t).2 hm] at hT; cases hT
  refine ⟨?_, fun x t => ?_⟩
  · rw [List.map_append, List.nodup_append]
    refine ⟨h.nd, by simp, fun a ha b hb => ?_⟩
    obtain ⟨⟨t, y⟩, hy, rfl⟩ := List.mem_map.1 ha
    simp at hb
    subst hb
    exact fun e => hno t (e ▸ hy)
  · rw [List.mem_append]
    by_cases e : x = pid
    · subst e
      rw [at1_same]
      simp [hno, eq_comm]
    · rw [at1_other _ _ e, h.mem]
      simp [e]
theorem SimC.drop {T : TF} {L : List (Int × Int)} (h : SimC T L) {k : Nat} (hk : k < L.length) {t x : Int} (he : L[k] = (t, x)) : SimC (at1 T x none) (L.take k ++ L.drop (k + 1)) := by
  have hL : L = L.take k ++ (t, x) :: L.drop (k + 1) := by rw [← he, ← List.drop_eq_getElem_cons hk, List.take_append_drop]
  have hnd := h.nd
  rw [hL, List.map_append, List.map_cons, List.nodup_append, List.nodup_cons] at hnd
  obtain ⟨n1, ⟨n2, n3⟩, n4⟩ := hnd
  have hno : ∀ s, (s, x) ∉ L.take k ++ L.drop (k + 1) := fun s hm => by
    rcases List.mem_append.1 hm with hm | hm
    · exact n4 x (List.mem_map.2 ⟨_, hm, rfl⟩) x (by simp) rfl
    · exact n2 (List.mem_map.2 ⟨_, hm, rfl⟩)
  refine ⟨?_, fun y s => ?_⟩
  · rw [List.map_append, List.nodup_append]
    exact ⟨n1, n3, fun a ha b hb => n4 a ha b (List.mem_cons_of_mem _ hb)⟩
  · by_cases e : y = x
    · subst e
      rw [at1_same]
      exact ⟨fun hc => (by cases hc), fun hc => absurd hc (hno s)⟩
    · rw [at1_other _ _ e, h.mem]
      conv => lhs; rw [hL]
      simp [e]

/-- One of the list comes ahead of another one. -/
def lx (p q : Int × Int) : Bool := decide (p.1 < q.1) || (decide (p.1 = q.1) && decide (p.2 < q.2))
theorem lx_iff {p q : Int × Int} : lx p q = true ↔ p.1 < q.1 ∨ p.1 = q.1 ∧ p.2 < q.2 := by unfold lx; simp
/-- Among the first i, none comes ahead of k. -/
def Lst (L : List (Int × Int)) (i k : Nat) : Prop := k < i ∧ ∃ hi : i ≤ L.length, ∀ j (hj : j < i) (hk : k < L.length), lx (L[j]'(by omega)) L[k] = false
theorem lst_first {L : List (Int × Int)} (h : 0 < L.length) : Lst L 1 0 := ⟨by omega, by omega, fun j hj hk => by
  obtain rfl : j = 0 := by omega
  cases hv : lx L[0] L[0]
  · rfl
  · rw [lx_iff] at hv; omega⟩
theorem lst_keep {L : List (Int × Int)} {i k : Nat} (h : Lst L i k) (hi : i < L.length) (hx : ∀ hk : k < L.length, lx L[i] L[k] = false) : Lst L (i + 1) k := by
  obtain ⟨h1, h2, h3⟩ := h
  refine ⟨by omega, by omega, fun j hj hk => ?_⟩
  rcases Nat.lt_or_ge j i with hji | hji
  · exact h3 j hji hk
  · obtain rfl : j = i := by omega
    exact hx hk
theorem lst_turn {L : List (Int × Int)} {i k : Nat} (h : Lst L i k) (hi : i < L.length) (hx : ∀ hk : k < L.length, lx L[i] L[k] = true) : Lst L (i + 1) i := by
  obtain ⟨h1, h2, h3⟩ := h
  have hk : k < L.length := by omega
  refine ⟨by omega, by omega, fun j hj _ => ?_⟩
  rcases Nat.lt_or_ge j i with hji | hji
  · have a := h3 j hji hk
    have b := hx hk
    cases hv : lx (L[j]'(by omega)) L[i]
    · rfl
    · rw [lx_iff] at hv b
      have : lx (L[j]'(by omega)) L[k] = true := lx_iff.2 (by omega)
      rw [a] at this; cases this
  · obtain rfl : j = i := by omega
    cases hv : lx L[j] L[j]
    · rfl
    · rw [lx_iff] at hv; omega
/-- The one that comes first comes ahead of all others. -/
theorem lst_least {T : TF} {L : List (Int × Int)} (_h : SimC T L) {k : Nat} (hl : Lst L L.length k) {t x : Int} (hk : k < L.length) (he : L[k] = (t, x)) {s y : Int} (hy : (s, y) ∈ L) (hne : y ≠ x) : t < s ∨ t = s ∧ x < y := by
  obtain ⟨j, hj, hjy⟩ := List.mem_iff_getElem.1 hy
  have := hl.2.2 j hj hk
  rw [hjy, he] at this
  have : ¬ (s < t ∨ s = t ∧ y < x) := fun hc => by
    have h1 : lx (s, y) (t, x) = true := lx_iff.2 hc
    rw [this] at h1; cases h1
  omega

/-- What has been told of T so far, and the list of what is left. -/
structure Pre (T : TF) (out : List Int) (L : List (Int × Int)) : Prop where
  sim : SimC (dropL T out) L
  srt : out.Pairwise (bef T)
  mem : ∀ x ∈ out, T x ≠ none
  fst : ∀ x ∈ out, ∀ y, T y ≠ none → y ∉ out → bef T x y
theorem Pre.start {T : TF} {L : List (Int × Int)} (h : SimC T L) : Pre T [] L := ⟨by rw [dropL_nil]; exact h, List.Pairwise.nil, fun x hx => by simp at hx, fun x hx => by simp at hx⟩
theorem Pre.left {T : TF} {out : List Int} {L : List (Int × Int)} (h : Pre T out L) {t x : Int} (hx : (t, x) ∈ L) : T x = some t ∧ x ∉ out := by
  have := (h.sim.mem x t).2 hx
  unfold dropL at this
  split at this
  · cases this
  · rename_i h1; exact ⟨this, h1⟩
theorem Pre.step {T : TF} {out : List Int} {L : List (Int × Int)} (h : Pre T out L) {k : Nat} (hl : Lst L L.length k) (hk : k < L.length) {t x : Int} (he : L[k] = (t, x)) : Pre T (out ++ [x]) (L.take k ++ L.drop (k + 1)) := by
  have hx := h.left (he ▸ List.getElem_mem hk)
  refine ⟨by rw [← dropL_snoc]; exact h.sim.drop hk he, ?_, fun y hy => ?_, fun y hy z hz hzo => ?_⟩
  · rw [List.pairwise_append]
    refine ⟨h.srt, by simp, fun a ha b hb => ?_⟩
    obtain rfl : b = x := by simpa using hb
    exact h.fst a ha b (by rw [hx.1]; simp) hx.2
  · rcases List.mem_append.1 hy with hy | hy
    · exact h.mem y hy
    · obtain rfl : y = x := by simpa using hy
      rw [hx.1]; simp
  · have hzo1 : z ∉ out := fun hc => hzo (List.mem_append.2 (Or.inl hc))
    have hzx : z ≠ x := fun e => hzo (List.mem_append.2 (Or.inr (by simp [e])))
    rcases List.mem_append.1 hy with hy | hy
    · exact h.fst y hy z hz hzo1
    · obtain rfl : y = x := by simpa using hy
      obtain ⟨s, hs⟩ := Option.ne_none_iff_exists'.1 hz
      have hzL : (s, z) ∈ L := (h.sim.mem z s).1 (by unfold dropL; rw [if_neg hzo1]; exact hs)
      exact ⟨t, s, hx.1, hs, lst_least h.sim hl hk he hzL hzx⟩
/-- Nobody is left. -/
theorem Pre.all {T : TF} {out : List Int} (h : Pre T out []) : Srt T out := ⟨h.srt, fun x => ⟨fun hx => h.mem x hx, fun hx => Classical.byContradiction fun hc => by
  obtain ⟨s, hs⟩ := Option.ne_none_iff_exists'.1 hx
  have := (h.sim.mem x s).1 (by unfold dropL; rw [if_neg hc]; exact hs)
  simp at this⟩⟩
/-- All that are left are later than m. -/
theorem Pre.due {T : TF} {out : List Int} {L : List (Int × Int)} {m : Int} (h : Pre T out L) (ho : ∀ x ∈ out, ∀ t, T x = some t → t ≤ m) (hl : ∀ p ∈ L, m < p.1) : Due T m out ∧ SimC (tickT T m) L := by
  have hd : Due T m out := ⟨h.srt, fun x => ⟨fun hx => by
    obtain ⟨t, ht⟩ := Option.ne_none_iff_exists'.1 (h.mem x hx)
    exact ⟨t, ht, ho x hx t ht⟩, fun ⟨t, ht, hle⟩ => Classical.byContradiction fun hc => by
    have := hl _ ((h.sim.mem x t).1 (by unfold dropL; rw [if_neg hc]; exact ht))
    simp at this
    omega⟩⟩
  exact ⟨hd, by rw [← drop_tick hd]; exact h.sim⟩
/-- Where the first is later than m, all are. -/
theorem lst_late {L : List (Int × Int)} {k : Nat} (hl : Lst L L.length k) (hk : k < L.length) {m : Int} (hm : m < L[k].1) : ∀ p ∈ L, m < p.1 := by
  intro p hp
  obtain ⟨j, hj, rfl⟩ := List.mem_iff_getElem.1 hp
  have := hl.2.2 j hj hk
  have : ¬ (L[j].1 < L[k].1 ∨ L[j].1 = L[k].1 ∧ L[j].2 < L[k].2) := fun hc => by
    have h1 : lx L[j] L[k] = true := lx_iff.2 hc
    rw [this] at h1; cases h1
  omega

/-- A row of one's own, or none, and one put behind it. -/
theorem append_rowb {W : World} {v u : Value} {xs ys : List Int} {gb : Option Nat} (ty : TypeId) (hx : RowB W v xs gb) (hs : ∀ s, s = 1 → Src Try.prog s 34 u ys.length (ys.map (Value.int .i64)) W) (hy : ys ≠ []) (hn : xs.length + ys.length ≤ 1073741824) :
    ∃ v' W' gb', (Builtin.append_ #[34, 34] ty #[v, u]).run Try.prog W = .ok v' W' ∧ RowB W' v' (xs ++ ys) gb' ∧ (∀ b, gb' = some b → gb = some b ∨ W.heap.size ≤ b) ∧ UpP (fun x => gb = some x) W W' := by
  rcases hx with ⟨rfl, rfl, rfl⟩ | ⟨b, off, cap, cur, rfl, rfl, h3, h4, h5, h6, h7⟩
  · obtain ⟨v', W', h1, h2, h3⟩ := append_fresh none ty hs (by simpa using hn)
    rcases h2 with ⟨e, _⟩ | ⟨b, h2, hb⟩
    · exact absurd e hy
    · exact ⟨v', W', some b, h1, by rw [List.nil_append]; exact h2, fun b' hb' => by cases hb'; exact Or.inr hb, h3.toN⟩
  · have hA : AR2 W b (b + 1) (.slice (some ⟨b, off, none⟩) xs.length cap) xs := Or.inr ⟨b, Or.inr ⟨b, off, cap, cur, rfl, rfl, h3, h4, h5, h6, h7⟩, Nat.le_refl _, by omega⟩
    obtain ⟨i0, hi, h1, h2, h8⟩ := info_int1
    rcases Nat.lt_or_ge cap (xs.length + ys.length) with hc | hc
    · have hold : (Builtin.firstCells i0.size xs.length (.slice (some ⟨b, off, none⟩) xs.length cap)).run Try.prog W.drew = .ok (xs.map (Value.int .i64)).toArray W.drew :=
        run_firstCells_some W.drew i0.size xs.length ⟨b, off, none⟩ xs.length cap _ (by rw [h1]; simp) (fun j u hu => by
          obtain ⟨hj, rfl⟩ := vals_get xs hu
          rw [Addr.add_lit, World.cell?_drew, h3.cell]
          exact h7 j hj)
      have := run_append_grow_src (P := Try.prog) W 34 34 ty 3 i0 (.int .i64 0) und_ints hi h2 (some ⟨b, off, none⟩) xs.length cap (xs.map (Value.int .i64)) hold u ys.length _ (hs _ h1) hc (by omega) (by rw [h8]; exact growslice_fits hc (by omega))
      have hge := grownCap_ge W (xs.length + ys.length) cap 3
      have hle := grownCap_le_maxLen W (xs.length + ys.length) cap 3 (by unfold maxLen; omega)
      refine ⟨_, _, some W.heap.size, this, Or.inr ⟨W.heap.size, 0, grownCap W (xs.length + ys.length) cap 3, _, rfl, by rw [List.length_append], Cl.new W.drew _ _ _ rfl, ?_, by rw [List.length_append]; omega, by unfold maxLen at hle; omega, ?_⟩, fun b' hb' => by cases hb'; exact Or.inr (Nat.le_refl _), (((Upd.refl [] W).drew).alloc _).toN⟩
      · rw [Array.size_append, zeros_size]
        simp
        omega
      · intro j hj
        rw [Array.getElem?_append_left (by simpa using hj), List.getElem?_toArray, Nat.zero_add j, ← List.map_append]
        exact vals_at (xs ++ ys) hj
    · have := run_append_room_src (P := Try.prog) W 34 34 ty 3 i0 und_ints hi b off xs.length cap u ys.length _ (hs _ h1) hc
        (fun j hj => by rw [h1, Nat.mul_one, h3.cell, Array.getElem?_eq_getElem (by rw [List.length_map] at hj; omega)]; rfl) (fun j hj => h3.free _)
      rw [h1, Nat.mul_one] at this
      obtain ⟨c2, k2, s2, in2, out2⟩ := Cl.sets (ys.map (Value.int .i64)) (off + xs.length) h3
      refine ⟨_, _, some b, this, Or.inr ⟨b, off, cap, c2, rfl, by rw [List.length_append], k2, by omega, by rw [List.length_append]; omega, h6, ?_⟩, fun b' hb' => Or.inl hb', ?_⟩
      · intro j hj
        rw [List.length_append] at hj
        rcases Nat.lt_or_ge j xs.length with h | h
        · rw [out2 _ (by omega), h7 j h, List.getD_eq_getElem?_getD, List.getD_eq_getElem?_getD, List.getElem?_append_left h]
        · have := in2 (j - xs.length) (by rw [List.length_map]; omega) (by omega)
          rw [show off + xs.length + (j - xs.length) = off + j by omega] at this
          rw [this, vals_at ys (by omega), List.getD_eq_getElem?_getD, List.getD_eq_getElem?_getD, List.getElem?_append_right h]
      · exact (upd_sets (S := [b]) (blk := b) (Upd.refl [b] W) (Or.inr (by simp)) (ys.map (Value.int .i64)) (off + xs.length)).toP.mono (fun x hx => by
          have : x = b := by simpa using hx
          rw [this])
theorem RowB.ar {w : World} {v : Value} {xs : List Int} {gb : Option Nat} (h : RowB w v xs gb) : AR w 0 v xs := by
  cases gb with
  | none =>
    rcases h with ⟨h1, h2, _⟩ | ⟨b, off, cap, cur, h1, _⟩
    · exact Or.inl ⟨h2, none, h1⟩
    · cases h1
  | some b => exact Or.inr ⟨b, h, Nat.zero_le _⟩

end Go.Proofs.Ytpemnficdhjkhaa
