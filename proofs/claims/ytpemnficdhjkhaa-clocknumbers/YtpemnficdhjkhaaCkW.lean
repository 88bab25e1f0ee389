/- Clocks: Tick. -/
import Derived.Test.YtpemnficdhjkhaaCkV
namespace Go.Proofs.Ytpemnficdhjkhaa
open Go.RowKit Go.Maps

/-- Who waits still, and for when, behind a Tick that comes to m. -/
def tickT (T : TF) (m : Int) : TF := fun x => match T x with
  | some t => if t ≤ m then none else some t
  | none => none
/-- Who is told by it. -/
def Due (T : TF) (m : Int) (xs : List Int) : Prop := xs.Pairwise (bef T) ∧ ∀ x, x ∈ xs ↔ ∃ t, T x = some t ∧ t ≤ m
theorem tickT_some {T : TF} {m x t : Int} : tickT T m x = some t ↔ T x = some t ∧ m < t := by
  unfold tickT
  cases T x with
  | none => simp
  | some s =>
    by_cases h : s ≤ m
    · simp [h]; omega
    · simp [h]; omega
theorem bef_some {T U : TF} {x y : Int} (hx : U x = T x) (hy : U y = T y) (h : bef T x y) : bef U x y := by
  obtain ⟨s, t, h1, h2, h3⟩ := h
  exact ⟨s, t, hx.trans h1, hy.trans h2, h3⟩
/-- All but some. -/
def dropL (T : TF) (ys : List Int) : TF := fun x => if x ∈ ys then none else T x
theorem dropL_nil (T : TF) : dropL T [] = T := by funext x; simp [dropL]
theorem dropL_snoc (T : TF) (ys : List Int) (y : Int) : at1 (dropL T ys) y none = dropL T (ys ++ [y]) := by
  funext x
  unfold at1 dropL
  by_cases h : x = y
  · subst h; simp
  · simp [h]

/-- How a row falls into those who are told and those who wait on. -/
theorem due_parts {T : TF} {m : Int} {xs : List Int} (hs : xs.Pairwise (bef T)) (hm : ∀ x, x ∈ xs ↔ T x ≠ none) :
    (xs.countP fun x => !decide (m < tmAt T x)) ≤ xs.length ∧ Due T m (xs.take (xs.countP fun x => !decide (m < tmAt T x))) ∧ Srt (tickT T m) (xs.drop (xs.countP fun x => !decide (m < tmAt T x))) ∧
      dropL T (xs.take (xs.countP fun x => !decide (m < tmAt T x))) = tickT T m := by
  obtain ⟨h1, h2, h3⟩ := parted (due_mono (now := m) hs)
  generalize (xs.countP fun x => !decide (m < tmAt T x)) = k at h1 h2 h3 ⊢
  have ht : ∀ x, x ∈ xs.take k ↔ ∃ t, T x = some t ∧ t ≤ m := fun x => by
    constructor
    · intro h
      obtain ⟨t, e⟩ := Option.ne_none_iff_exists'.1 ((hm x).1 (List.mem_of_mem_take h))
      have := h2 x h
      rw [tmAt_some e] at this
      simp at this
      exact ⟨t, e, this⟩
    · rintro ⟨t, e, hle⟩
      have hx : x ∈ xs.take k ++ xs.drop k := by rw [List.take_append_drop]; exact (hm x).2 (by rw [e]; simp)
      rcases List.mem_append.1 hx with h | h
      · exact h
      · have := h3 x h
        rw [tmAt_some e] at this
        simp at this
        omega
  have hd : ∀ x, x ∈ xs.drop k ↔ tickT T m x ≠ none := fun x => by
    constructor
    · intro h
      obtain ⟨t, e⟩ := Option.ne_none_iff_exists'.1 ((hm x).1 (List.mem_of_mem_drop h))
      have := h3 x h
      rw [tmAt_some e] at this
      simp at this
      rw [tickT_some.2 ⟨e, this⟩]; simp
    · intro h
      obtain ⟨t, e⟩ := Option.ne_none_iff_exists'.1 h
      obtain ⟨e1, hlt⟩ := tickT_some.1 e
      have hx : x ∈ xs.take k ++ xs.drop k := by rw [List.take_append_drop]; exact (hm x).2 (by rw [e1]; simp)
      rcases List.mem_append.1 hx with h | h
      · obtain ⟨t', e2, hle⟩ := (ht x).1 h
        rw [e1] at e2; cases e2
        omega
      · exact h
  refine ⟨h1, ⟨hs.sublist (List.take_sublist _ _), ht⟩, ⟨?_, hd⟩, ?_⟩
  · have hs' : (xs.drop k).Pairwise (bef T) := hs.sublist (List.drop_sublist _ _)
    refine hs'.imp_of_mem (fun {a b} ha hb hab => ?_)
    have e : ∀ x, x ∈ xs.drop k → tickT T m x = T x := fun x hx => by
      obtain ⟨t, e⟩ := Option.ne_none_iff_exists'.1 ((hd x).1 hx)
      rw [e, (tickT_some.1 e).1]
    exact bef_some (e a ha) (e b hb) hab
  · funext x
    unfold dropL
    by_cases h : x ∈ xs.take k
    · rw [if_pos h]
      obtain ⟨t, e, hle⟩ := (ht x).1 h
      unfold tickT
      rw [e]; simp [hle]
    · rw [if_neg h]
      cases e : T x with
      | none => unfold tickT; rw [e]
      | some t =>
        have : ¬ t ≤ m := fun hle => h ((ht x).2 ⟨t, e, hle⟩)
        unfold tickT
        rw [e]; simp [this]

set_option maxRecDepth 10000 in
theorem tick_not {w : World} {c n : Nat} {P : Nat → Prop} {now : Int} {T : TF} (o : Ck w c n P now T) {m : Int} (hm : m < 0 ∨ 1099511627776 - now < m) :
    Calls Try.prog 15 #[.pointer (some ⟨c, 0, none⟩), .int .i64 m] w fun e w' => e = .returned (.tuple #[.slice none 0 0, .bool false]) ∧ Upd [] w w' := by
  have u0 : Upd [] w (w.alloc (.cells #[.pointer (some ⟨c, 0, none⟩)] 23)) := (Upd.refl [] w).alloc _
  have U0 : Hid (Upd [] w (w.alloc (.cells #[.pointer (some ⟨c, 0, none⟩)] 23))) := u0
  have hmade := (o.upd u0).made
  have hn := o.nows
  obtain ⟨g, v, gb, xs, o, hP⟩ := o
  have c1 : w.cell? ⟨c, 1, none⟩ = some (.int .i64 now) := by rw [o.row.cell]; rfl
  have c1' : (w.alloc (.cells #[.pointer (some ⟨c, 0, none⟩)] 23)).cell? ⟨c, 1, none⟩ = some (.int .i64 now) := by rw [(o.upd u0).row.cell]; rfl
  have hw : IntKind.i64.wrap (1099511627776 - now) = 1099511627776 - now := IntWalk.i64_in _ ⟨by omega, by omega⟩
  obtain ⟨hn0, hn1⟩ := hn
  clear o hP u0
  by_cases h0 : m < 0
  · have d0 : decide (m < 0) = true := by simpa using h0
    clear hm hw
    go_enter Try.func15, Try.ntmps15
    go_wp2_with fail
    refine Calls.mono hmade ?_
    rintro e w' ⟨rfl, rfl⟩
    go_wp2
    go_ret2
    exact ⟨rfl, U0.out⟩
  · have d0 : decide (m < 0) = false := by simpa using h0
    have h1 : 1099511627776 - now < m := by omega
    have d1 : decide (1099511627776 - now < m) = true := by simpa using h1
    clear hm
    go_enter Try.func15, Try.ntmps15
    go_wp2_with fail
    refine Calls.mono hmade ?_
    rintro e w' ⟨rfl, rfl⟩
    go_wp2
    go_ret2
    exact ⟨rfl, U0.out⟩

set_option maxHeartbeats 2000000 in
set_option maxRecDepth 10000 in
theorem tick_some {w : World} {c n g b off cap : Nat} {cur : Array Value} {now : Int} {T : TF} {xs : List Int} (o : CkO w c n g (.slice (some ⟨b, off, none⟩) xs.length cap) (some b) now T xs) (hB : Cl w b cur 3) (hoc : off + cap ≤ cur.size) (hlc : xs.length ≤ cap) (hcm : cap ≤ 9223372036854775807) (hat : ∀ j, j < xs.length → cur[off + j]? = some (.int .i64 (xs.getD j 0))) (hn : n ≤ 1073741824) {m : Int} (h0 : 0 ≤ m) (h1 : m ≤ 1099511627776 - now) :
    Calls Try.prog 15 #[.pointer (some ⟨c, 0, none⟩), .int .i64 m] w fun e w' => ∃ v ys v' zs, e = .returned (.tuple #[v, .bool true]) ∧ AR w' w.heap.size v ys ∧ Due T (now + m) ys ∧ ys.length ≤ n ∧ CkO w' c n g v' (some b) (now + m) (tickT T (now + m)) zs ∧ UpP (fun x => x = c ∨ x = g ∨ some b = some x) w w' := by
  have HO : Hid (CkO w c n g (.slice (some ⟨b, off, none⟩) xs.length cap) (some b) now T xs) := o
  have hn0 := o.now0
  have hn1 := o.now1
  have hlen := o.len
  -- the boxed clock, and its new time
  obtain ⟨w0, hw0⟩ : ∃ w0, w0 = w.alloc (.cells #[.pointer (some ⟨c, 0, none⟩)] 23) := ⟨_, rfl⟩
  have u0 : Upd [] w w0 := by rw [hw0]; exact (Upd.refl [] w).alloc _
  have b0 : w0.cell? ⟨w.heap.size, 0, none⟩ = some (.pointer (some ⟨c, 0, none⟩)) := by rw [hw0]; exact cell_new_sl w _ _
  have hs0 : w.heap.size < w0.heap.size := by rw [hw0]; simp
  have o0 := o.toCkR.upd u0
  have hmade := o0.made
  obtain ⟨w1, hw1⟩ : ∃ w1, w1 = w0.setCell ⟨c, 1, none⟩ (.int .i64 (now + m)) := ⟨_, rfl⟩
  have u1 : Upd [c] w0 w1 := by rw [hw1]; exact (Upd.refl [c] w0).setCell (p := ⟨c, 1, none⟩) (Or.inr (by simp)) _
  have o1 : CkR w1 c n g (.slice (some ⟨b, off, none⟩) xs.length cap) (some b) (now + m) T xs := ⟨by rw [hw1]; exact o0.row.set 1 (.int .i64 (now + m)), MapB.upP o0.times u1.toP (by simp; exact o0.gne), o0.cells.mono u1.toP (fun b hb => by simp; exact (o0.bne hb).1), o0.len, o0.key⟩
  have hcl : c < w.heap.size := o.row.lt
  have b1 : w1.cell? ⟨w.heap.size, 0, none⟩ = some (.pointer (some ⟨c, 0, none⟩)) := (u1.cell (p := ⟨w.heap.size, 0, none⟩) hs0 (by simp; omega)).trans b0
  obtain ⟨q1, q2, q3, q4⟩ := due_parts (m := now + m) o.srt o.mem
  have hfirst := first_any o1 hn (f := 30) (cb := #[.pointer (some ⟨w.heap.size, 0, none⟩)]) (p := fun x => decide (now + m < tmAt T x)) enters_tick1 (fun W hG x hx => tick1_any o1 hG.upd ((hG.upd.cell (p := ⟨w.heap.size, 0, none⟩) (Nat.lt_of_lt_of_le hs0 u1.size) (by simp)).trans b1) (o1.key x hx)) (due_mono o.srt)
  generalize (xs.countP fun x => !decide (now + m < tmAt T x)) = k at q1 q2 q3 q4 hfirst
  have HQ : Hid (k ≤ xs.length ∧ Due T (now + m) (xs.take k) ∧ Srt (tickT T (now + m)) (xs.drop k) ∧ dropL T (xs.take k) = tickT T (now + m)) := ⟨q1, q2, q3, q4⟩
  have O1 : Hid (CkR w1 c n g (.slice (some ⟨b, off, none⟩) xs.length cap) (some b) (now + m) T xs) := o1
  have U1 : Hid (UpP (fun x => x = c) w w1 ∧ w.heap.size < w1.heap.size) := ⟨u0.toN.trans (u1.toP.mono (fun x hx => by simpa using hx)), Nat.lt_of_lt_of_le hs0 u1.size⟩
  have c1 : w0.cell? ⟨c, 1, none⟩ = some (.int .i64 now) := by rw [o0.row.cell]; rfl
  have f1 : w0.frozen? ⟨c, 1, none⟩ = false := o0.row.free 1
  have d0 : decide (m < 0) = false := by simpa using h0
  have d1 : decide (1099511627776 - now < m) = false := by simpa using h1
  have hwr : IntKind.i64.wrap (1099511627776 - now) = 1099511627776 - now := IntWalk.i64_in _ ⟨by omega, by omega⟩
  have hwr2 : IntKind.i64.wrap (now + m) = now + m := IntWalk.i64_in _ ⟨by omega, by omega⟩
  have HW0 : Hid (w0 = w.alloc (.cells #[.pointer (some ⟨c, 0, none⟩)] 23)) := hw0
  have HW1 : Hid (w1 = w0.setCell ⟨c, 1, none⟩ (.int .i64 (now + m))) := hw1
  have HB : Hid (∀ W, UpP (fun x => x = c) w W → Cl W b cur 3) := fun W hu => hB.mono hu (fun e => (o.bne rfl).1 e)
  have HAT : Hid (∀ j, j < xs.length → cur[off + j]? = some (.int .i64 (xs.getD j 0))) := hat
  clear hB hat o o0 o1 u0 u1 q2 q3 q4 hw0 hw1
  go_enter Try.func15, Try.ntmps15
  go_wp2_with fail
  rw [← HW0.out]
  refine Calls.mono hmade ?_
  rintro e w' ⟨rfl, hww⟩
  subst hww
  clear hmade
  go_wp2_with fail
  rw [← HW1.out]
  refine Calls.mono hfirst ?_
  rintro e w2 ⟨rfl, hG⟩
  clear hfirst c1 f1
  have U2 : Hid (Upd [] w1 w2) := hG.upd
  have O2 : Hid (CkR w2 c n g (.slice (some ⟨b, off, none⟩) xs.length cap) (some b) (now + m) T xs) := O1.out.upd hG.upd
  clear hG
  have b2 : w2.cell? ⟨w.heap.size, 0, none⟩ = some (.pointer (some ⟨c, 0, none⟩)) := (U2.out.cell (p := ⟨w.heap.size, 0, none⟩) U1.out.2 (by simp)).trans b1
  have c3 : w2.cell? ⟨c, 3, none⟩ = some (.slice (some ⟨b, off, none⟩) xs.length cap) := by rw [O2.out.row.cell]; rfl
  have hkc : (k : Int) ≤ (cap : Int) := by omega
  have hcopy := copied_any (W := w2) (v := .slice (some ⟨b, off, none⟩) k cap) (xs := xs.take k) (gb := some b) (Or.inr ⟨b, off, cap, cur, rfl, by rw [List.length_take, Nat.min_eq_left q1], HB.out w2 (by have := U1.out.1; exact this.trans (U2.out.toN)), hoc, by rw [List.length_take]; omega, hcm, fun j hj => by
    rw [List.length_take] at hj
    rw [HAT.out j (by omega), List.getD_eq_getElem?_getD, List.getD_eq_getElem?_getD, List.getElem?_take_of_lt (by omega)]⟩) (by rw [List.length_take]; omega)
  go_wp2_with fail
  refine Calls.mono hcopy ?_
  rintro e w3 ⟨vt, rfl, hAR, hu3⟩
  clear hcopy
  -- what is left of the row
  obtain ⟨o2, hA, HL⟩ : ∃ o2, (if cap = k then (some ⟨b, off, none⟩ : Option Addr) else some ⟨b, off + k, none⟩) = some ⟨b, o2, none⟩ ∧ Hid (o2 + (cap - k) ≤ cur.size ∧ ∀ j, j < xs.length - k → cur[o2 + j]? = some (.int .i64 ((xs.drop k).getD j 0))) := by
    by_cases hck : cap = k
    · exact ⟨off, by rw [if_pos hck], ⟨by omega, fun j hj => by omega⟩⟩
    · exact ⟨off + k, by rw [if_neg hck], ⟨by omega, fun j hj => by rw [drop_getD, show off + k + j = off + (k + j) by omega]; exact HAT.out (k + j) (by omega)⟩⟩
  obtain ⟨v5, hv5⟩ : ∃ v5, v5 = Value.slice (some ⟨b, o2, none⟩) (xs.length - k) (cap - k) := ⟨_, rfl⟩
  obtain ⟨W5, hW5⟩ : ∃ W5, W5 = (w3.setCell ⟨c, 3, none⟩ v5).drew := ⟨_, rfl⟩
  have O3 : Hid (CkR w3 c n g (.slice (some ⟨b, off, none⟩) xs.length cap) (some b) (now + m) T xs) := O2.out.upd hu3
  have U3 : Hid (UpP (fun x => x = c) w w3 ∧ w.heap.size < w3.heap.size ∧ w.heap.size ≤ w2.heap.size) := by
    have := U1.out.2
    have h2 := U2.out.size
    have h3 := hu3.size
    exact ⟨(U1.out.1.trans U2.out.toN).trans hu3.toN, by omega, by omega⟩
  have U5 : Hid (UpP (fun x => x = c) w3 W5) := by
    show UpP _ _ _
    rw [hW5]
    exact (((Upd.refl [c] w3).setCell (p := ⟨c, 3, none⟩) (Or.inr (by simp)) v5).drew).toP.mono (fun x hx => by simpa using hx)
  have C5 : Hid (Cl W5 c #[.pointer (some ⟨c, 0, none⟩), .int .i64 (now + m), .map (some g), v5] 46) := by
    show Cl _ _ _ _
    rw [hW5]
    exact (show Cl w3 c _ 46 from O3.out.row).set 3 v5
  have T5 : TmB W5 g n (dropL T []) := by rw [dropL_nil]; exact MapB.upP O3.out.times U5.out O3.out.gne
  have b5 : W5.cell? ⟨w.heap.size, 0, none⟩ = some (.pointer (some ⟨c, 0, none⟩)) := (U5.out.cell (p := ⟨w.heap.size, 0, none⟩) U3.out.2.1 (by show ¬ w.heap.size = c; omega)).trans ((hu3.cell (p := ⟨w.heap.size, 0, none⟩) (by have := U1.out.2; have := U2.out.size; show w.heap.size < _; omega) (by simp)).trans b2)
  obtain ⟨ts, hts⟩ : ∃ ts, xs.take k = ts := ⟨_, rfl⟩
  rw [hts] at hAR
  have HTS : Hid (xs.take k = ts) := hts
  have HA3 : Hid (AR w3 w2.heap.size vt ts) := hAR
  have htl : ts.length ≤ 1073741824 := by rw [← hts, List.length_take]; omega
  obtain ⟨pt, ct, hvt⟩ := hAR.form
  subst hvt
  have A5 : Hid (AR W5 w2.heap.size (.slice pt ts.length ct) ts) := hAR.mono U5.out (fun x hx => Or.inl (by have := U3.out.2.2; omega))
  have HKG : Hid (∀ x ∈ ts, I64 x) := fun x hx => O3.out.key x (List.mem_of_mem_take (hts ▸ hx))
  have b3 : w3.cell? ⟨w.heap.size, 0, none⟩ = some (.pointer (some ⟨c, 0, none⟩)) := (hu3.cell (p := ⟨w.heap.size, 0, none⟩) (by have := U1.out.2; have := U2.out.size; show w.heap.size < _; omega) (by simp)).trans b2
  have c3' : w3.cell? ⟨c, 3, none⟩ = some (.slice (some ⟨b, off, none⟩) xs.length cap) := by rw [O3.out.row.cell]; rfl
  have f3' : w3.frozen? ⟨c, 3, none⟩ = false := O3.out.row.free 3
  have HW5 : Hid (W5 = (w3.setCell ⟨c, 3, none⟩ v5).drew) := hW5
  have HV5 : Hid (v5 = .slice (some ⟨b, o2, none⟩) (xs.length - k) (cap - k)) := hv5
  have hkl : (k : Int) ≤ (xs.length : Int) := by omega
  clear hW5 hv5 hAR hu3 b2 c3 hts b1 b0
  go_wp2_with fail
  go_region
  all_goals
    rw [← HV5.out, ← HW5.out]
    go_wp2_with fail
    clear b3 c3' f3' hA
    go_loopw [9, 55] (fun _ s55 wr => ∃ j : Nat, j ≤ ts.length ∧ s55 = .int .i64 (j : Nat) ∧ TmB wr g n (dropL T (ts.take j)) ∧ UpP (fun x => x = g) W5 wr) (fun _ s55 _ => ts.length - (intOf s55).toNat)
    case atStart => exact ⟨0, Nat.zero_le _, rfl, T5, UpP.refl _ _⟩
    case round =>
      obtain ⟨j, hj, rfl, hT, hU⟩ := hrel
      have HR : Hid (TmB wr g n (dropL T (ts.take j)) ∧ UpP (fun x => x = g) W5 wr) := ⟨hT, hU⟩
      have gc : ¬ (c = g) := fun e => O3.out.gne e.symm
      by_cases hlt : j < ts.length
      · have i1 : (j : Int) < (ts.length : Int) := by omega
        obtain ⟨bt, ot, ct', ht, hcell⟩ := (A5.out.mono hU (fun x hx => Or.inl (by have := MapB.lt O2.out.times; omega))).cell hlt
        simp only [Value.slice.injEq] at ht
        obtain ⟨rfl, _, rfl⟩ := ht
        have hkey : I64 ts[j] := HKG.out _ (List.getElem_mem hlt)
        obtain ⟨W', hd, hT', ht'⟩ := TmB.drop hT hkey 0
        have HR' : Hid (TmB W' g n (dropL T (ts.take (j + 1))) ∧ UpP (fun x => x = g) W5 W') := ⟨by
          rw [dropL_snoc] at hT'
          rw [List.take_succ_eq_append_getElem hlt]
          exact hT', hU.trans (turned_upP ht')⟩
        have c2 : wr.cell? ⟨c, 2, none⟩ = some (.map (some g)) := by rw [(C5.out.mono hU gc).cell]; rfl
        have br : wr.cell? ⟨w.heap.size, 0, none⟩ = some (.pointer (some ⟨c, 0, none⟩)) := (hU.cell (p := ⟨w.heap.size, 0, none⟩) (World.block_lt_of_cell? _ _ b5) (by have := MapB.lt HO.out.times; show ¬ w.heap.size = g; omega)).trans b5
        have hjm : (j : Int) + 1 ≤ 9223372036854775807 := by omega
        clear hT hU ht' hT' hkey
        go_wp2
        go_roundw
        case rel => exact ⟨j + 1, by omega, by go_num, HR'.out.1, HR'.out.2⟩
        case measure => simp [intOf]; omega
      · have hd : decide ((j : Int) < (ts.length : Int)) = false := by simp; omega
        have gb : ¬ (b = g) := (HO.out.bne rfl).2
        have hR : CkO wr c n g v5 (some b) (now + m) (tickT T (now + m)) (xs.drop k) := by
          have hjt : ts.take j = ts := List.take_of_length_le (by omega)
          have hT' := hT
          rw [hjt, ← HTS.out, HQ.out.2.2.2] at hT'
          refine ⟨⟨C5.out.mono hU gc, hT', Or.inr ⟨b, o2, cap - k, cur, rfl, by rw [HV5.out, List.length_drop], (HB.out W5 (U3.out.1.trans U5.out)).mono hU gb, HL.out.1, by rw [List.length_drop]; omega, by omega, fun i hi => HL.out.2 i (by rw [List.length_drop] at hi; exact hi)⟩, by rw [List.length_drop]; have := O3.out.len; omega, fun x hx => O3.out.key x (List.mem_of_mem_drop hx)⟩, by omega, by omega, HQ.out.2.2.1.2, HQ.out.2.2.1.1, fun x t hx => HO.out.rng x t (tickT_some.1 hx).1⟩
        have hF : UpP (fun x => x = c ∨ x = g ∨ some b = some x) w wr := ((U3.out.1.trans U5.out).mono (fun x hx => Or.inl hx)).trans (hU.mono (fun x hx => Or.inr (Or.inl hx)))
        have hAF : AR wr w.heap.size (.slice pt ts.length ct) ts := (A5.out.mono hU (fun x hx => Or.inl (by have := MapB.lt O2.out.times; omega))).base U3.out.2.2
        have HF : Hid (AR wr w.heap.size (.slice pt ts.length ct) ts ∧ Due T (now + m) ts ∧ ts.length ≤ n ∧ CkO wr c n g v5 (some b) (now + m) (tickT T (now + m)) (xs.drop k) ∧ UpP (fun x => x = c ∨ x = g ∨ some b = some x) w wr) := ⟨hAF, HTS.out ▸ HQ.out.2.1, by rw [← HTS.out, List.length_take]; omega, hR, hF⟩
        clear hT hU hR hF hAF
        go_wp2
        go_ret2
        exact ⟨_, _, _, _, rfl, HF.out⟩

set_option maxHeartbeats 2000000 in
set_option maxRecDepth 10000 in
theorem tick_empty {w : World} {c n g : Nat} {now : Int} {T : TF} (o : CkO w c n g (.slice none 0 0) none now T []) (hn : n ≤ 1073741824) {m : Int} (h0 : 0 ≤ m) (h1 : m ≤ 1099511627776 - now) :
    Calls Try.prog 15 #[.pointer (some ⟨c, 0, none⟩), .int .i64 m] w fun e w' => ∃ v, e = .returned (.tuple #[v, .bool true]) ∧ AR w' w.heap.size v [] ∧ CkO w' c n g (.slice none 0 0) none (now + m) T [] ∧ UpP (fun x => x = c) w w' := by
  have HO : Hid (CkO w c n g (.slice none 0 0) none now T []) := o
  have hn0 := o.now0
  have hn1 := o.now1
  obtain ⟨w0, hw0⟩ : ∃ w0, w0 = w.alloc (.cells #[.pointer (some ⟨c, 0, none⟩)] 23) := ⟨_, rfl⟩
  have u0 : Upd [] w w0 := by rw [hw0]; exact (Upd.refl [] w).alloc _
  have b0 : w0.cell? ⟨w.heap.size, 0, none⟩ = some (.pointer (some ⟨c, 0, none⟩)) := by rw [hw0]; exact cell_new_sl w _ _
  have hs0 : w.heap.size < w0.heap.size := by rw [hw0]; simp
  have o0 := o.toCkR.upd u0
  have hmade := o0.made
  obtain ⟨w1, hw1⟩ : ∃ w1, w1 = w0.setCell ⟨c, 1, none⟩ (.int .i64 (now + m)) := ⟨_, rfl⟩
  have u1 : Upd [c] w0 w1 := by rw [hw1]; exact (Upd.refl [c] w0).setCell (p := ⟨c, 1, none⟩) (Or.inr (by simp)) _
  have o1 : CkR w1 c n g (.slice none 0 0) none (now + m) T [] := ⟨by rw [hw1]; exact o0.row.set 1 (.int .i64 (now + m)), MapB.upP o0.times u1.toP (by simp; exact o0.gne), o0.cells.mono u1.toP (fun b hb => by cases hb), o0.len, o0.key⟩
  have hcl : c < w.heap.size := o.row.lt
  have b1 : w1.cell? ⟨w.heap.size, 0, none⟩ = some (.pointer (some ⟨c, 0, none⟩)) := (u1.cell (p := ⟨w.heap.size, 0, none⟩) hs0 (by simp; omega)).trans b0
  have hfirst := first_any o1 hn (f := 30) (cb := #[.pointer (some ⟨w.heap.size, 0, none⟩)]) (p := fun x => decide (now + m < tmAt T x)) enters_tick1 (fun W hG x hx => by simp at hx) List.Pairwise.nil
  have O1 : Hid (CkR w1 c n g (.slice none 0 0) none (now + m) T []) := o1
  have U1 : Hid (UpP (fun x => x = c) w w1 ∧ w.heap.size < w1.heap.size) := ⟨u0.toN.trans (u1.toP.mono (fun x hx => by simpa using hx)), Nat.lt_of_lt_of_le hs0 u1.size⟩
  have c1 : w0.cell? ⟨c, 1, none⟩ = some (.int .i64 now) := by rw [o0.row.cell]; rfl
  have f1 : w0.frozen? ⟨c, 1, none⟩ = false := o0.row.free 1
  have d0 : decide (m < 0) = false := by simpa using h0
  have d1 : decide (1099511627776 - now < m) = false := by simpa using h1
  have hwr : IntKind.i64.wrap (1099511627776 - now) = 1099511627776 - now := IntWalk.i64_in _ ⟨by omega, by omega⟩
  have hwr2 : IntKind.i64.wrap (now + m) = now + m := IntWalk.i64_in _ ⟨by omega, by omega⟩
  have HW0 : Hid (w0 = w.alloc (.cells #[.pointer (some ⟨c, 0, none⟩)] 23)) := hw0
  have HW1 : Hid (w1 = w0.setCell ⟨c, 1, none⟩ (.int .i64 (now + m))) := hw1
  clear o o0 o1 u0 u1 hw0 hw1
  go_enter Try.func15, Try.ntmps15
  go_wp2_with fail
  rw [← HW0.out]
  refine Calls.mono hmade ?_
  rintro e w' ⟨rfl, hww⟩
  subst hww
  clear hmade
  go_wp2_with fail
  rw [← HW1.out]
  refine Calls.mono hfirst ?_
  rintro e w2 ⟨rfl, hG⟩
  clear hfirst c1 f1
  have U2 : Hid (Upd [] w1 w2) := hG.upd
  have O2 : Hid (CkR w2 c n g (.slice none 0 0) none (now + m) T []) := O1.out.upd hG.upd
  clear hG
  have b2 : w2.cell? ⟨w.heap.size, 0, none⟩ = some (.pointer (some ⟨c, 0, none⟩)) := (U2.out.cell (p := ⟨w.heap.size, 0, none⟩) U1.out.2 (by simp)).trans b1
  have c3 : w2.cell? ⟨c, 3, none⟩ = some (.slice none 0 0) := by rw [O2.out.row.cell]; rfl
  have hcopy := copied_any (W := w2) (v := .slice none 0 0) (xs := []) (gb := none) (Or.inl ⟨rfl, rfl, rfl⟩) (by simp)
  go_wp2_with fail
  refine Calls.mono hcopy ?_
  rintro e w3 ⟨vt, rfl, hAR, hu3⟩
  clear hcopy
  obtain ⟨pt, ct, hvt⟩ := hAR.form
  subst hvt
  obtain ⟨W5, hW5⟩ : ∃ W5, W5 = (w3.setCell ⟨c, 3, none⟩ (.slice none 0 0)).drew := ⟨_, rfl⟩
  have O3 : Hid (CkR w3 c n g (.slice none 0 0) none (now + m) T []) := O2.out.upd hu3
  have U3 : Hid (UpP (fun x => x = c) w w3 ∧ w.heap.size ≤ w2.heap.size) := ⟨(U1.out.1.trans U2.out.toN).trans hu3.toN, Nat.le_trans (Nat.le_of_lt U1.out.2) U2.out.size⟩
  have U5 : Hid (UpP (fun x => x = c) w3 W5) := by
    show UpP _ _ _
    rw [hW5]
    exact (((Upd.refl [c] w3).setCell (p := ⟨c, 3, none⟩) (Or.inr (by simp)) (.slice none 0 0)).drew).toP.mono (fun x hx => by simpa using hx)
  have C5 : Hid (Cl W5 c #[.pointer (some ⟨c, 0, none⟩), .int .i64 (now + m), .map (some g), .slice none 0 0] 46) := by
    show Cl _ _ _ _
    rw [hW5]
    exact (show Cl w3 c _ 46 from O3.out.row).set 3 (.slice none 0 0)
  have b3 : w3.cell? ⟨w.heap.size, 0, none⟩ = some (.pointer (some ⟨c, 0, none⟩)) := (hu3.cell (p := ⟨w.heap.size, 0, none⟩) (by have := U1.out.2; have := U2.out.size; show w.heap.size < _; omega) (by simp)).trans b2
  have c3' : w3.cell? ⟨c, 3, none⟩ = some (.slice none 0 0) := by rw [O3.out.row.cell]; rfl
  have f3' : w3.frozen? ⟨c, 3, none⟩ = false := O3.out.row.free 3
  have HW5 : Hid (W5 = (w3.setCell ⟨c, 3, none⟩ (.slice none 0 0)).drew) := hW5
  have HF : Hid (AR W5 w.heap.size (.slice pt ([] : List Int).length ct) [] ∧ CkO W5 c n g (.slice none 0 0) none (now + m) T [] ∧ UpP (fun x => x = c) w W5) := ⟨(hAR.mono U5.out (fun x hx => Or.inl (by have := U3.out.2; omega))).base U3.out.2, ⟨⟨C5.out, MapB.upP O3.out.times U5.out O3.out.gne, Or.inl ⟨rfl, rfl, rfl⟩, by simp, fun x hx => by simp at hx⟩, by omega, by omega, HO.out.mem, List.Pairwise.nil, HO.out.rng⟩, U3.out.1.trans U5.out⟩
  clear hW5 hAR hu3 b2 c3 b1 b0
  go_wp2_with fail
  go_region
  all_goals
    rw [← HW5.out]
    go_wp2_with fail
    refine wp_loop_rounds 1 ?_
    rw [rounds_succ]
    go_wp2_with fail
    go_ret2
    exact ⟨_, rfl, HF.out⟩

theorem tick_any {w : World} {c n : Nat} {P : Nat → Prop} {now : Int} {T : TF} (o : Ck w c n P now T) (hn : n ≤ 1073741824) {m : Int} (h0 : 0 ≤ m) (h1 : m ≤ 1099511627776 - now) :
    Calls Try.prog 15 #[.pointer (some ⟨c, 0, none⟩), .int .i64 m] w fun e w' => ∃ v ys, e = .returned (.tuple #[v, .bool true]) ∧ AR w' w.heap.size v ys ∧ Due T (now + m) ys ∧ ys.length ≤ n ∧ Ck w' c n P (now + m) (tickT T (now + m)) ∧ UpP P w w' := by
  obtain ⟨g, v, gb, xs, o, hP⟩ := o
  rcases o.cells with ⟨rfl, rfl, rfl⟩ | ⟨b, off, cap, cur, rfl, rfl, h3, h4, h5, h6, h7⟩
  · refine Calls.mono (tick_empty o hn h0 h1) ?_
    rintro e w' ⟨v, rfl, h2, h3, h4⟩
    have hT : ∀ x, T x = none := fun x => Classical.byContradiction fun hx => by have := (o.mem x).2 hx; simp at this
    have hE : tickT T (now + m) = T := by funext x; unfold tickT; rw [hT x]
    rw [hE]
    exact ⟨v, [], rfl, h2, ⟨List.Pairwise.nil, fun x => by simp [hT x]⟩, by simp, ⟨g, _, none, [], h3, hP⟩, h4.mono (fun x hx => (hP x).2 (Or.inl hx))⟩
  · refine Calls.mono (tick_some o h3 h4 h5 h6 h7 hn h0 h1) ?_
    rintro e w' ⟨v, ys, v', zs, rfl, h2, h3, h4, h5, h6⟩
    exact ⟨v, ys, rfl, h2, h3, h4, ⟨g, v', some b, zs, h5, hP⟩, h6.mono (fun x hx => (hP x).2 hx)⟩

end Go.Proofs.Ytpemnficdhjkhaa
