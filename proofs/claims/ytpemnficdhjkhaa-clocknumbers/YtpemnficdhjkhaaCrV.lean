/- What Waits hands out lies at the start of a block of its own. -/
import Derived.Test.YtpemnficdhjkhaaCrO
import Derived.Test.YtpemnficdhjkhaaBgC
namespace Go.Proofs.Ytpemnficdhjkhaa
open Go.RowKit Go.Maps

/-- A row that is handed out: nobody's, or at the start of a block from B on. -/
def AR0 (w : World) (B : Nat) (v : Value) (xs : List Int) : Prop := (xs = [] ∧ ∃ p, v = .slice p 0 0) ∨ ∃ b cap cur, v = .slice (some ⟨b, 0, none⟩) xs.length cap ∧ Cl w b cur 3 ∧ cap ≤ cur.size ∧ xs.length ≤ cap ∧ 0 < cap ∧ cap ≤ maxLen ∧ B ≤ b ∧ ∀ j, j < xs.length → cur[j]? = some (.int .i64 (xs.getD j 0))
theorem AR0.ar {w : World} {B : Nat} {v : Value} {xs : List Int} (h : AR0 w B v xs) : AR w B v xs := by
  rcases h with h | ⟨b, cap, cur, h1, h2, h3, h4, _, h5, h6, h7⟩
  · exact Or.inl h
  · exact Or.inr ⟨b, Or.inr ⟨b, 0, cap, cur, rfl, h1, h2, by omega, h4, by unfold maxLen at h5; omega, fun j hj => by rw [Nat.zero_add]; exact h7 j hj⟩, h6⟩
theorem AR0.form {w : World} {B : Nat} {v : Value} {xs : List Int} (h : AR0 w B v xs) : ∃ p c, v = .slice p xs.length c := h.ar.form
theorem AR0.mono {P : Nat → Prop} {w w' : World} {B : Nat} {v : Value} {xs : List Int} (h : AR0 w B v xs) (hu : UpP P w w') (hn : ∀ x, P x → x < B ∨ w.heap.size ≤ x) : AR0 w' B v xs := by
  rcases h with h | ⟨b, cap, cur, h1, h2, h3, h4, h5, h6, h7, h8⟩
  · exact Or.inl h
  · refine Or.inr ⟨b, cap, cur, h1, h2.mono hu (fun hP => ?_), h3, h4, h5, h6, h7, h8⟩
    have := h2.lt
    have := hn b hP
    omega
theorem AR0.upd {w w' : World} {B : Nat} {v : Value} {xs : List Int} (h : AR0 w B v xs) (hu : Upd [] w w') : AR0 w' B v xs := h.mono (P := fun _ => False) hu.toN (fun _ h => h.elim)
/-- .. and may be grown. -/
theorem AR0.row {w : World} {B : Nat} {v : Value} {xs : List Int} (h : AR0 w B v xs) : RowG w 1 v xs.length := by
  rcases h with ⟨rfl, p, rfl⟩ | ⟨b, cap, cur, h1, h2, h3, h4, h5, h6, h7, h8⟩
  · exact Or.inl ⟨⟨p, rfl⟩, rfl⟩
  · refine Or.inr ⟨b, cap, h1, h2.lt, h4, h6, fun j hj => ⟨?_, h2.free _⟩, h5⟩
    rw [h2.cell, Nat.zero_add, Array.getElem?_eq_getElem (by omega)]
    rfl
theorem AR0.ob {w : World} {B : Nat} {v : Value} {xs : List Int} (h : AR0 w B v xs) {g : Nat} (hg : oB v = some g) : B ≤ g ∧ g < w.heap.size := by
  rcases h with ⟨rfl, p, rfl⟩ | ⟨b, cap, cur, h1, h2, h3, h4, h5, h6, h7, h8⟩
  · rw [oB_zero] at hg; cases hg
  · rw [h1] at hg
    obtain rfl : g = b := oB_some hg
    exact ⟨h7, h2.lt⟩
/-- A number is put in its place. -/
theorem AR0.store {w : World} {B b cap k : Nat} {xs : List Int} (h : AR0 w B (.slice (some ⟨b, 0, none⟩) xs.length cap) xs) (hk : k < xs.length) (x : Int) : AR0 (w.setCell ⟨b, k, none⟩ (.int .i64 x)) B (.slice (some ⟨b, 0, none⟩) xs.length cap) (xs.set k x) ∧ w.frozen? ⟨b, k, none⟩ = false ∧ w.cell? ⟨b, k, none⟩ = some (.int .i64 (xs.getD k 0)) ∧ B ≤ b := by
  rcases h with ⟨rfl, _⟩ | ⟨b2, cap2, cur, h1, h2, h3, h4, h5, h6, h7, h8⟩
  · simp at hk
  · simp only [Value.slice.injEq, Option.some.injEq, Addr.mk.injEq, and_true, true_and] at h1
    obtain ⟨rfl, rfl⟩ := h1
    refine ⟨Or.inr ⟨b, cap, _, by rw [List.length_set], h2.set k _, by simpa using h3, by simpa using h4, h5, h6, h7, fun j hj => ?_⟩, h2.free _, by rw [h2.cell]; exact h8 k hk, h7⟩
    rw [List.length_set] at hj
    by_cases e : j = k
    · subst e
      rw [Array.getElem?_setIfInBounds_self_of_lt (by omega)]
      simp [List.getD_eq_getElem?_getD, hk]
    · rw [Array.getElem?_setIfInBounds_ne (fun h => e h.symm), h8 j hj]
      have e2 : ¬ k = j := fun h => e h.symm
      simp only [List.getD_eq_getElem?_getD, List.getElem?_set, if_neg e2]

/-- A row put behind one without room: in new memory. -/
theorem append_fresh0 {W : World} {u : Value} {xs : List Int} (p : Option Addr) (ty : TypeId) (hs : ∀ s, s = 1 → Src Try.prog s 34 u xs.length (xs.map (Value.int .i64)) W) (hn : xs.length ≤ 1073741824) :
    ∃ v' W', (Builtin.append_ #[34, 34] ty #[.slice p 0 0, u]).run Try.prog W = .ok v' W' ∧ AR0 W' W.heap.size v' xs ∧ Upd [] W W' := by
  obtain ⟨i0, hi, h1, h2, h3⟩ := info_int1
  rcases Nat.eq_zero_or_pos xs.length with h0 | h0
  · obtain rfl := List.eq_nil_of_length_eq_zero h0
    cases p with
    | none =>
      have hS := hs i0.size h1
      rcases hS.kind with ⟨e', hk⟩ | hk
      · refine ⟨.slice none 0 0, W, ?_, Or.inl ⟨rfl, none, rfl⟩, Upd.refl _ _⟩
        have hl := hS.len
        have hc := hS.cells
        simp [Builtin.append_, run_underlying und_ints, sizeOf, typeInfo, hi, hl]
        simp at hc
        simp [hc]
      · rw [und_ints] at hk; cases hk
    | some a =>
      obtain ⟨ab, ao, asp⟩ := a
      have hS := hs i0.size h1
      refine ⟨.slice (some ⟨ab, ao, asp⟩) 0 0, W, ?_, Or.inl ⟨rfl, _, rfl⟩, Upd.refl _ _⟩
      have hl := hS.len
      have hc := hS.cells
      simp at hc
      simp [Builtin.append_, run_underlying und_ints, sizeOf, typeInfo, hi, hl, hc, storeCells]
  · have hold : (Builtin.firstCells i0.size 0 (.slice p 0 0)).run Try.prog W.drew = .ok ([] : List Value).toArray W.drew := by
      cases p with
      | none => exact run_firstCells_none _ _ _ _ _
      | some a => exact run_firstCells_some _ _ _ _ _ _ _ (by simp) (fun j v hj => by simp at hj)
    have := run_append_grow_src (P := Try.prog) W 34 34 ty 3 i0 (.int .i64 0) und_ints hi h2 p 0 0 [] hold u xs.length _ (hs _ h1) (by omega) (by omega) (by rw [h3]; exact growslice_fits (by omega) (by omega))
    have hge := grownCap_ge W (0 + xs.length) 0 3
    have hle := grownCap_le_maxLen W (0 + xs.length) 0 3 (by unfold maxLen; omega)
    refine ⟨_, _, this, Or.inr ⟨W.heap.size, grownCap W (0 + xs.length) 0 3, _, by rw [Nat.zero_add], Cl.new W.drew _ _ _ rfl, ?_, by omega, by omega, hle, Nat.le_refl _, ?_⟩, ((Upd.refl [] W).drew).alloc _⟩
    · rw [Array.size_append, zeros_size]
      simp
      omega
    · intro j hj
      rw [Array.getElem?_append_left (by simpa using hj), List.nil_append, List.getElem?_toArray]
      exact vals_at xs hj

set_option maxRecDepth 10000 in
theorem copied_any0 {W : World} {v : Value} {xs : List Int} {gb : Option Nat} (h : RowB W v xs gb) (hn : xs.length ≤ 1073741824) :
    Calls Try.prog 21 #[v] W fun e W' => ∃ v', e = .returned v' ∧ AR0 W' W.heap.size v' xs ∧ Upd [] W W' := by
  have hr : ∀ p ty, ∃ v' W', (Builtin.append_ #[34, 34] ty #[.slice p 0 0, v]).run Try.prog W = .ok v' W' ∧ AR0 W' W.heap.size v' xs ∧ Upd [] W W' := fun p ty => append_fresh0 p ty (fun s hs => src_row h hs) hn
  have hle : xs.length ≤ 9223372036854775807 := by omega
  rcases h with ⟨rfl, rfl, _⟩ | ⟨b, off, cap, cur, rfl, rfl, h3, h4, h5, h6, h7⟩
  · obtain ⟨v', W', hr, hA⟩ := hr none 34
    have HA : Hid (AR0 W' W.heap.size v' [] ∧ Upd [] W W') := hA
    clear hA
    go_enter Try.func21, Try.ntmps21
    go_wp2_with (first | (at_builtin; refine Lib.wpList_append_run _ rfl _ _ _ _ rfl _ _ rfl rfl _ _ hr ?_))
    go_ret
    exact ⟨_, rfl, HA.out⟩
  · obtain ⟨v', W', hr, hA⟩ := hr (some ⟨b, off, none⟩) 34
    have HA : Hid (AR0 W' W.heap.size v' xs ∧ Upd [] W W') := hA
    clear hA h3 h4 h7
    go_enter Try.func21, Try.ntmps21
    go_wp2_with (first | (at_builtin; refine Lib.wpList_append_run _ rfl _ _ _ _ rfl _ _ rfl rfl _ _ hr ?_))
    go_ret
    exact ⟨_, rfl, HA.out⟩

set_option maxRecDepth 10000 in
theorem waits_any0 {w : World} {c n : Nat} {P : Nat → Prop} {now : Int} {T : TF} (o : Ck w c n P now T) (hn : n ≤ 1073741824) :
    Calls Try.prog 9 #[.pointer (some ⟨c, 0, none⟩)] w fun e w' => ∃ v xs, e = .returned v ∧ AR0 w' w.heap.size v xs ∧ Srt T xs ∧ xs.length ≤ n ∧ Upd [] w w' := by
  have hmade := o.made
  obtain ⟨g, v, gb, xs, o, hP⟩ := o
  have c3 : w.cell? ⟨c, 3, none⟩ = some v := by rw [o.row.cell]; rfl
  have hc := copied_any0 o.cells (by have := o.len; omega)
  have HS : Hid (Srt T xs ∧ xs.length ≤ n) := ⟨⟨o.srt, o.mem⟩, o.len⟩
  obtain ⟨p, cap, hv⟩ := o.cells.form
  subst hv
  clear o hP
  go_enter Try.func9, Try.ntmps9
  go_wp2_with fail
  refine Calls.mono hmade ?_
  rintro e w' ⟨rfl, rfl⟩
  go_wp2_with fail
  refine Calls.mono hc ?_
  rintro e w' ⟨v', rfl, h1, h2⟩
  go_wp2
  go_ret
  exact ⟨_, xs, rfl, h1, HS.out.1, HS.out.2, h2⟩

theorem own_waits0 {w wr : World} {c n : Nat} {P : Nat → Prop} {now : Int} {T : TF} (h : Own w wr c n P now T) (hn : n ≤ 1073741824) :
    Calls Try.prog 9 #[.pointer (some ⟨c, 0, none⟩)] wr fun e w' => ∃ v xs, e = .returned v ∧ AR0 w' wr.heap.size v xs ∧ Srt T xs ∧ xs.length ≤ n ∧ Upd [] wr w' :=
  waits_any0 h.ck hn
theorem lc_start {w wr : World} {c : Nat} {P : Nat → Prop} (h : Own w wr c 0 P 0 (fun _ => none)) (hb : ∀ x, P x → x < wr.heap.size) :
    LC w (wr.alloc (.cells #[.int .i64 0, .slice none 0 0] 28)) c 0 wr.heap.size P 0 0 (fun _ => none) (fun _ => none) (.slice none 0 0) [] :=
  ⟨h.upd ((Upd.refl [] wr).alloc _), Cl.new _ _ _ _ rfl, ⟨rfl, Or.inl ⟨rfl, rfl⟩⟩, fun hp => Nat.lt_irrefl _ (hb _ hp), fun g hg => (by cases hg), h.up.size, SimC.nil, Nat.le_refl _⟩
/-- Something turns that lies above all of both clocks. -/
theorem LC.above {w wr w2 : World} {c n b : Nat} {P : Nat → Prop} {now nr : Int} {T U : TF} {lv : Value} {L : List (Int × Int)} (h : LC w wr c n b P now nr T U lv L) {E : Nat} (hE : w.heap.size ≤ E ∧ (∀ x, P x → x < E) ∧ b < E ∧ ∀ g, lv.ownBlock = some g → g < E) (hu : UpP (fun z => E ≤ z) wr w2) :
    LC w w2 c n b P now nr T U lv L :=
  ⟨h.own.past hu (fun x hx hE2 => by have := hE.2.1 x hx; omega) (fun x hx => by have := hE.1; omega), h.box.mono hu (by omega), h.row.upP hu (fun g hg hx => by have := hE.2.2.2 g hg; omega), h.outb, h.outl, h.geb, h.sim, h.len⟩
/-- The first world beyond both clocks. -/
theorem LC.edge {w wr : World} {c n b : Nat} {P : Nat → Prop} {now nr : Int} {T U : TF} {lv : Value} {L : List (Int × Int)} (h : LC w wr c n b P now nr T U lv L) : w.heap.size ≤ wr.heap.size ∧ (∀ x, P x → x < wr.heap.size) ∧ b < wr.heap.size ∧ ∀ g, lv.ownBlock = some g → g < wr.heap.size :=
  ⟨h.own.up.size, h.own.ck.bnd, h.box.lt, fun _ hg => (h.row.own hg).2⟩

end Go.Proofs.Ytpemnficdhjkhaa
