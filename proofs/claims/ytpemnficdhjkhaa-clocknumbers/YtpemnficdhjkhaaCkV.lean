/- Clocks: Set; Drop; Waits. -/
import Derived.Test.YtpemnficdhjkhaaCkU
namespace Go.Proofs.Ytpemnficdhjkhaa
open Go.RowKit Go.Maps

/-- Another clock there, all else as it was but for the clock's blocks. -/
def CkE (w w' : World) (c m : Nat) (P : Nat → Prop) (now : Int) (T : TF) : Prop := ∃ P', Ck w' c m P' now T ∧ UpP P w w' ∧ ∀ x, P' x → P x ∨ w.heap.size ≤ x
theorem CkE.same {w : World} {c n m : Nat} {P : Nat → Prop} {now : Int} {T : TF} (o : Ck w c n P now T) (hm : n ≤ m) : CkE w w c m P now T := ⟨P, o.le hm, UpP.refl _ _, fun _ h => Or.inl h⟩
theorem CkE.le {w w' : World} {c n m : Nat} {P : Nat → Prop} {now : Int} {T : TF} (h : CkE w w' c n P now T) (hm : n ≤ m) : CkE w w' c m P now T := by
  obtain ⟨P', o, h1, h2⟩ := h
  exact ⟨P', o.le hm, h1, h2⟩

theorem set_any {w : World} {c n : Nat} {P : Nat → Prop} {now : Int} {T : TF} (o : Ck w c n P now T) (hn : n + 1 ≤ 1073741824) {pid : Int} (hp : I64 pid) (after : Int) :
    Calls Try.prog 13 #[.pointer (some ⟨c, 0, none⟩), .int .i64 pid, .int .i64 after] w fun e w' => e = .returned (.bool (setB T pid after)) ∧ CkE w w' c (n + 1) P now (setT T now pid after) := by
  cases hb : setB T pid after with
  | false =>
    refine Calls.mono (set_not o hp hb) ?_
    rintro e w' ⟨rfl, rfl⟩
    unfold setT
    rw [if_neg (by rw [hb]; decide)]
    exact ⟨rfl, CkE.same o (by omega)⟩
  | true =>
    obtain ⟨g, v, gb, xs, o, hP⟩ := o
    have hb' := hb
    unfold setB at hb'
    simp at hb'
    obtain ⟨hT, h0, h1⟩ := hb'
    refine Calls.mono (set_new o hn hp hT h0 h1) ?_
    rintro e w' ⟨rfl, v', gb', o', h2, h3⟩
    unfold setT
    rw [if_pos hb]
    refine ⟨rfl, fun x => x = c ∨ x = g ∨ gb' = some x, ⟨g, v', gb', _, o', fun x => Iff.rfl⟩, h3.mono (fun x hx => (hP x).2 hx), fun x hx => ?_⟩
    rcases hx with h | h | h
    · exact Or.inl ((hP x).2 (Or.inl h))
    · exact Or.inl ((hP x).2 (Or.inr (Or.inl h)))
    · rcases h2 x h with h | h
      · exact Or.inl ((hP x).2 (Or.inr (Or.inr h)))
      · exact Or.inr h

/-! ### Drop -/
/-- Where place finds who waits. -/
theorem place_at {T : TF} {its pid : Int} {xs : List Int} (hs : xs.Pairwise (bef T)) (hm : ∀ x ∈ xs, T x ≠ none) (hp : T pid = some its) (hx : pid ∈ xs) :
    (xs.countP fun x => !pl T its pid x) < xs.length ∧ xs = xs.take (xs.countP fun x => !pl T its pid x) ++ pid :: xs.drop ((xs.countP fun x => !pl T its pid x) + 1) := by
  obtain ⟨h1, h2, h3⟩ := parted (pl_mono hs hm hp)
  generalize (xs.countP fun x => !pl T its pid x) = k at h1 h2 h3 ⊢
  have hpp : pl T its pid pid = true := (pl_iff (hm pid hx) hp).2 bef_irr
  have hd : pid ∈ xs.drop k := by
    have : pid ∈ xs.take k ++ xs.drop k := by rw [List.take_append_drop]; exact hx
    rcases List.mem_append.1 this with h | h
    · rw [h2 pid h] at hpp; cases hpp
    · exact h
  have hkl : k < xs.length := by
    have := List.length_pos_of_mem hd
    rw [List.length_drop] at this
    omega
  have hdk := List.drop_eq_getElem_cons hkl
  have hk : xs[k] = pid := by
    rw [hdk] at hd
    rcases List.mem_cons.1 hd with h | h
    · exact h.symm
    · exfalso
      have hy := (pl_iff (hm xs[k] (List.getElem_mem hkl)) hp).1 (h3 xs[k] (by rw [hdk]; exact List.mem_cons_self))
      have hs' : (xs.drop k).Pairwise (bef T) := hs.sublist (List.drop_sublist _ _)
      rw [hdk, List.pairwise_cons] at hs'
      exact hy (hs'.1 pid h)
  refine ⟨hkl, ?_⟩
  rw [← hk, ← hdk, List.take_append_drop]
theorem del_mem {T : TF} {pid : Int} {xs : List Int} {k : Nat} (hs : xs.Pairwise (bef T)) (he : xs = xs.take k ++ pid :: xs.drop (k + 1)) (x : Int) : x ∈ delL xs k ↔ x ∈ xs ∧ x ≠ pid := by
  have hs' := hs
  rw [he, List.pairwise_append, List.pairwise_cons] at hs'
  obtain ⟨_, ⟨h2, _⟩, h3⟩ := hs'
  unfold delL
  constructor
  · intro h
    refine ⟨?_, fun e => ?_⟩
    · rcases List.mem_append.1 h with h | h
      · exact List.mem_of_mem_take h
      · exact List.mem_of_mem_drop h
    · subst e
      rcases List.mem_append.1 h with h | h
      · exact bef_irr (h3 x h x (by simp))
      · exact bef_irr (h2 x h)
  · rintro ⟨h, hne⟩
    rw [he] at h
    rcases List.mem_append.1 h with h | h
    · exact List.mem_append.2 (Or.inl h)
    · rcases List.mem_cons.1 h with h | h
      · exact absurd h hne
      · exact List.mem_append.2 (Or.inr h)
theorem del_srt {T : TF} {pid : Int} {xs : List Int} {k : Nat} (hs : xs.Pairwise (bef T)) (he : xs = xs.take k ++ pid :: xs.drop (k + 1)) : (delL xs k).Pairwise (bef (at1 T pid none)) := by
  refine srt_other (hs.sublist ?_) (fun h => ((del_mem hs he pid).1 h).2 rfl)
  unfold delL
  conv => rhs; rw [he]
  exact List.Sublist.append_left (List.sublist_cons_self _ _) _

set_option maxRecDepth 10000 in
theorem drop_not {w : World} {c n : Nat} {P : Nat → Prop} {now : Int} {T : TF} (o : Ck w c n P now T) {pid : Int} (hp : I64 pid) (hT : T pid = none) :
    Calls Try.prog 14 #[.pointer (some ⟨c, 0, none⟩), .int .i64 pid] w fun e w' => e = .returned (.bool false) ∧ w' = w := by
  have hmade := o.made
  obtain ⟨g, v, gb, xs, o, hP⟩ := o
  have hw := o.toCkR.waits hp
  clear o hP
  rw [hT] at hw
  clear hT
  go_enter Try.func14, Try.ntmps14
  go_wp2_with fail
  refine Calls.mono hmade ?_
  rintro e w' ⟨rfl, rfl⟩
  go_wp2_with fail
  refine Calls.mono hw ?_
  rintro e w' ⟨rfl, rfl⟩
  go_wp2
  go_ret
  exact ⟨rfl, rfl⟩

/-- The clock is whole again. -/
theorem drop_shut {w W4 : World} {c n g k : Nat} {v v' : Value} {gb : Option Nat} {now pid : Int} {T : TF} {xs : List Int} (o : CkO w c n g v gb now T xs) (hk : k < xs.length) (he : xs = xs.take k ++ pid :: xs.drop (k + 1)) (hp : I64 pid)
    (hR : RowB W4 v' (delL xs k) gb) (hu : UpP (fun x => gb = some x) w W4) :
    ∃ W6, (Builtin.delete_ #[44, 3] 0 #[.map (some g), .int .i64 pid]).run Try.prog (W4.setCell ⟨c, 3, none⟩ v') = .ok (.tuple #[]) W6 ∧ (W4.setCell ⟨c, 3, none⟩ v').cell? ⟨c, 2, none⟩ = some (.map (some g)) ∧
      CkO W6 c n g v' gb now (at1 T pid none) (delL xs k) ∧ UpP (fun x => x = c ∨ x = g ∨ gb = some x) w W6 := by
  have us : Upd [c] W4 (W4.setCell ⟨c, 3, none⟩ v') := (Upd.refl [c] W4).setCell (p := ⟨c, 3, none⟩) (Or.inr (by simp)) v'
  have hm5 : TmB (W4.setCell ⟨c, 3, none⟩ v') g n T := MapB.upP (MapB.upP o.times hu (fun hb => (o.bne hb).2 rfl)) us.toP (by simp; exact o.gne)
  have hr5 : Cl (W4.setCell ⟨c, 3, none⟩ v') c #[.pointer (some ⟨c, 0, none⟩), .int .i64 now, .map (some g), v'] 46 := (o.row.mono hu (fun hb => (o.bne hb).1 rfl)).set 3 v'
  obtain ⟨W6, hd, hm6, ht⟩ := TmB.drop hm5 hp 0
  have hut := turned_upP ht
  have hl := delL_len xs hk
  refine ⟨W6, hd, by rw [hr5.cell]; rfl, ⟨⟨hr5.mono hut (fun e => o.gne e.symm), hm6, ?_, by have := o.len; omega, fun x hx => o.key x ((del_mem o.srt he x).1 hx).1⟩, o.now0, o.now1, fun x => ?_, del_srt o.srt he, fun x t hx => ?_⟩, ?_⟩
  · refine (hR.mono us.toP (fun b hb => ?_)).mono hut (fun b hb => (o.bne hb).2)
    simp; exact (o.bne hb).1
  · rw [del_mem o.srt he, o.mem]
    by_cases e : x = pid
    · subst e; simp [at1_same]
    · rw [at1_other _ _ e]; simp [e]
  · by_cases e : x = pid
    · subst e; rw [at1_same] at hx; cases hx
    · rw [at1_other _ _ e] at hx; exact o.rng x t hx
  · exact ((hu.mono (fun x hx => Or.inr (Or.inr hx))).trans (us.toP.mono (fun x hx => by simp at hx; exact Or.inl hx))).trans (hut.mono (fun x hx => Or.inr (Or.inl hx)))

set_option maxHeartbeats 1000000 in
set_option maxRecDepth 10000 in
theorem drop_new {w : World} {c n g : Nat} {v : Value} {gb : Option Nat} {now its : Int} {T : TF} {xs : List Int} (o : CkO w c n g v gb now T xs) (hn : n ≤ 1073741824) {pid : Int} (hp : I64 pid) (hT : T pid = some its) :
    Calls Try.prog 14 #[.pointer (some ⟨c, 0, none⟩), .int .i64 pid] w fun e w' => e = .returned (.bool true) ∧ ∃ v' k, CkO w' c n g v' gb now (at1 T pid none) (delL xs k) ∧ UpP (fun x => x = c ∨ x = g ∨ gb = some x) w w' := by
  have hmade := o.toCkR.made
  have hw := o.toCkR.waits hp
  rw [hT] at hw
  have hmx : ∀ x ∈ xs, T x ≠ none := fun x hx => (o.mem x).1 hx
  obtain ⟨hk, he⟩ := place_at o.srt hmx hT ((o.mem pid).2 (by rw [hT]; simp))
  have hpl := place_any o.toCkR hn hp (by rw [tmAt_some hT]; exact pl_mono o.srt hmx hT)
  rw [tmAt_some hT] at hpl
  generalize (xs.countP fun x => !pl T its pid x) = k at hk he hpl
  have HO : Hid (CkO w c n g v gb now T xs) := o
  have HK : Hid (k < xs.length ∧ xs = xs.take k ++ pid :: xs.drop (k + 1) ∧ I64 pid) := ⟨hk, he, hp⟩
  have hkn : (k : Int) + 1 ≤ 9223372036854775807 := by have := o.len; omega
  obtain ⟨p, cap, hv⟩ := o.cells.form
  subst hv
  clear o hmx hT he
  go_enter Try.func14, Try.ntmps14
  go_wp2_with fail
  refine Calls.mono hmade ?_
  rintro e w' ⟨rfl, rfl⟩
  go_wp2_with fail
  refine Calls.mono hw ?_
  rintro e w' ⟨rfl, rfl⟩
  clear hmade hw
  go_wp2_with fail
  refine Calls.mono hpl ?_
  rintro e w1 ⟨rfl, hG⟩
  clear hpl
  have HG : Hid (Upd [] w' w1) := hG.upd
  have O1 : Hid (CkO w1 c n g (.slice p xs.length cap) gb now T xs) := HO.out.upd hG.upd
  clear hG
  have c3 : w1.cell? ⟨c, 3, none⟩ = some (.slice p xs.length cap) := by rw [O1.out.row.cell]; rfl
  go_wp2_with fail
  refine Calls.mono (delete_any O1.out.cells HK.out.1) ?_
  rintro e W4 ⟨v', rfl, hR, hu⟩
  obtain ⟨p', cap', hv'⟩ := hR.form
  subst hv'
  obtain ⟨W6, hd, c2, hO6, hu6⟩ := drop_shut O1.out HK.out.1 HK.out.2.1 HK.out.2.2 hR hu
  have c3' : W4.cell? ⟨c, 3, none⟩ = some (.slice p xs.length cap) := (hu.cell (p := ⟨c, 3, none⟩) O1.out.row.lt (fun hb => (O1.out.bne hb).1 rfl)).trans c3
  have f3' : W4.frozen? ⟨c, 3, none⟩ = false := (O1.out.row.mono hu (fun hb => (O1.out.bne hb).1 rfl)).free 3
  have HE : Hid (CkO W6 c n g (.slice p' (delL xs k).length cap') gb now (at1 T pid none) (delL xs k) ∧ UpP (fun x => x = c ∨ x = g ∨ gb = some x) w1 W6) := ⟨hO6, hu6⟩
  clear hR hu hO6 hu6 c3
  go_wp2
  go_ret
  exact ⟨rfl, _, k, HE.out.1, HG.out.toN.trans HE.out.2⟩

theorem drop_any {w : World} {c n : Nat} {P : Nat → Prop} {now : Int} {T : TF} (o : Ck w c n P now T) (hn : n ≤ 1073741824) {pid : Int} (hp : I64 pid) :
    Calls Try.prog 14 #[.pointer (some ⟨c, 0, none⟩), .int .i64 pid] w fun e w' => e = .returned (.bool (T pid).isSome) ∧ CkE w w' c n P now (at1 T pid none) := by
  cases hT : T pid with
  | none =>
    refine Calls.mono (drop_not o hp hT) ?_
    rintro e w' ⟨rfl, rfl⟩
    have : at1 T pid none = T := by
      funext x
      by_cases e : x = pid
      · subst e; rw [at1_same, hT]
      · rw [at1_other _ _ e]
    rw [this]
    exact ⟨rfl, CkE.same o (Nat.le_refl _)⟩
  | some its =>
    obtain ⟨g, v, gb, xs, o, hP⟩ := o
    refine Calls.mono (drop_new o hn hp hT) ?_
    rintro e w' ⟨rfl, v', k, o', h3⟩
    exact ⟨rfl, _, ⟨g, v', gb, _, o', fun x => Iff.rfl⟩, h3.mono (fun x hx => (hP x).2 hx), fun x hx => Or.inl ((hP x).2 hx)⟩

/-! ### Waits -/
/-- Who waits, in order. -/
def Srt (T : TF) (xs : List Int) : Prop := xs.Pairwise (bef T) ∧ ∀ x, x ∈ xs ↔ T x ≠ none
theorem Srt.one {T : TF} {xs ys : List Int} (h : Srt T xs) (k : Srt T ys) : xs = ys := srt_one h.1 k.1 (fun x => (h.2 x).trans (k.2 x).symm)
set_option maxRecDepth 10000 in
theorem waits_any {w : World} {c n : Nat} {P : Nat → Prop} {now : Int} {T : TF} (o : Ck w c n P now T) (hn : n ≤ 1073741824) :
    Calls Try.prog 9 #[.pointer (some ⟨c, 0, none⟩)] w fun e w' => ∃ v xs, e = .returned v ∧ AR w' w.heap.size v xs ∧ Srt T xs ∧ xs.length ≤ n ∧ Upd [] w w' := by
  have hmade := o.made
  obtain ⟨g, v, gb, xs, o, hP⟩ := o
  have c3 : w.cell? ⟨c, 3, none⟩ = some v := by rw [o.row.cell]; rfl
  have hc := copied_any o.cells (by have := o.len; omega)
  have HS : Hid (Srt T xs ∧ xs.length ≤ n) := ⟨⟨o.srt, o.mem⟩, o.len⟩
  obtain ⟨p, cap, hv⟩ := o.cells.form
  subst hv
  clear o hP
  go_enter Try.func9, Try.ntmps9
  go_wp2_with fail
  refine Calls.mono hmade ?_
  rintro e w' ⟨rfl, rfl⟩
  go_wp2_with fail
  refine Calls.mono hc ?_
  rintro e w' ⟨v', rfl, h1, h2⟩
  go_wp2
  go_ret
  exact ⟨_, xs, rfl, h1, HS.out.1, HS.out.2, h2⟩

end Go.Proofs.Ytpemnficdhjkhaa
