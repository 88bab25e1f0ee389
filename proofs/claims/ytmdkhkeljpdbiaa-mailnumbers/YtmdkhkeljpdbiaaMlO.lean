/- awake. -/
import Derived.Test.YtmdkhkeljpdbiaaMlN
namespace Go.Proofs.Ytmdkhkeljpdbiaa
open Go.RowKit

set_option maxRecDepth 10000 in
theorem letter_any (w : World) (s : ByteArray) : Calls Try.prog 18 #[.string s] w fun e w' => e = .returned (.agg (fl 2 false s 0)) ∧ Upd [] w w' := by
  have U1 : Hid (Upd [] w (w.alloc (.cells #[.int .u8 0, .bool false, .slice none 0 0, .string ⟨#[]⟩, .int .i64 0, .slice none 0 0, .slice none 0 0] 26))) := (Upd.refl [] w).alloc _
  have TZ : Hid (Tb (w.alloc (.cells #[.int .u8 0, .bool false, .slice none 0 0, .string ⟨#[]⟩, .int .i64 0, .slice none 0 0, .slice none 0 0] 26)) w.heap.size #[.int .u8 0, .bool false, .slice none 0 0, .string ⟨#[]⟩, .int .i64 0, .slice none 0 0, .slice none 0 0]) := Tb.new _ _ _ rfl
  go_enter Try.func18, Try.ntmps18
  go_wp2_with (first | (refine store_T _ rfl _ _ rfl _ _ _ rfl rfl TZ.out rfl rfl (fl_one 2 false s 0) ?_; intro w3 hT3 hU3) | fail)
  exact ret_T rfl rfl _ _ rfl hT3 rfl ⟨rfl, U1.out.then hU3 (by simp)⟩

/-- A block that is neither the box nor its row. -/
def Loc (w : World) (b : Nat) (v : Value) (x : Nat) (cs : Array Value) : Prop := Tb w x cs ∧ x ≠ b ∧ v.ownBlock ≠ some x
theorem Loc.step {w w' : World} {b x : Nat} {v v' : Value} {cs : Array Value} (h : Loc w b v x cs) (hu : UpdB b v w w' v') : Loc w' b v' x cs := ⟨h.1.updB hu h.2.1 h.2.2, h.2.1, hu.own x h.1.lt h.2.2⟩
theorem Loc.new {w : World} {b k : Nat} {v : Value} {L : List (List Value)} (h : BoxV w b v L k) (cs : Array Value) : Loc (w.alloc (.cells cs 26)) b v w.heap.size cs :=
  ⟨Tb.new _ _ _ rfl, by have := h.lt; omega, fun e => by have := h.row.lt _ e; omega⟩
theorem Loc.set {w w' : World} {b x : Nat} {v : Value} {cs cs' : Array Value} (h : Loc w b v x cs) (h' : Tb w' x cs') : Loc w' b v x cs' := ⟨h', h.2⟩
theorem UpdB.x {w w' : World} {b x : Nat} {v : Value} {cs : Array Value} (_h : Loc w b v x cs) (hu : Upd [x] w w') {y : Nat} {cs' : Array Value} (hy : Loc w b v y cs') (hxy : y ≠ x) : Loc w' b v y cs' := ⟨hy.1.mono hu (by simpa using hxy), hy.2⟩
theorem BoxV.x {w w' : World} {b x k : Nat} {v : Value} {cs : Array Value} {L : List (List Value)} (hb : BoxV w b v L k) (h : Loc w b v x cs) (hu : Upd [x] w w') : BoxV w' b v L k :=
  hb.upd hu (by simpa using fun e => h.2.1 e.symm) (fun g hg hm => h.2.2 (by simp at hm; rw [← hm]; exact hg))
theorem UpdB.fresh {b : Nat} {v : Value} {w w1 w2 : World} (hu : Upd [] w w1) (k : Upd [w.heap.size] w1 w2) : UpdB b v w w2 v :=
  UpdB.of0 (hu.then k (by simp))

theorem skip_V (w : World) (b : Nat) (v : Value) (L : List (List Value)) (k : Nat) (hk : k < L.length) (hn : L.length ≤ 1024) (h : BoxV w b v L k) : Calls Try.prog 12 #[.pointer (some ⟨b, 0, none⟩)] w fun e w' => e = .returned (.int .i64 0) ∧ BoxV w' b v L (k + 1) ∧ UpdB b v w w' v := by
  obtain ⟨p, c, rfl⟩ := h.form
  refine (skip_on w b p L.length c k (beq_eq_false_iff_ne.2 (by omega)) (by omega) (by omega) h.bx).mono ?_
  rintro e w' ⟨rfl, h1, h2⟩
  have hn : ∀ g, (Value.slice p L.length c).ownBlock = some g → g ∉ [b] := fun g hg hm => h.far (by rw [hg]; simp at hm; rw [hm])
  exact ⟨rfl, ⟨h1, h.row.upd h2 hn, h.has.upd h.row h2 hn, h.far⟩, UpdB.of h2⟩
theorem skip_Ve (w : World) (b : Nat) (v : Value) (L : List (List Value)) (k : Nat) (hk : k = L.length) (h : BoxV w b v L k) : Calls Try.prog 12 #[.pointer (some ⟨b, 0, none⟩)] w fun e w' => e = .returned (.int .i64 6) ∧ BoxV w' b v L k ∧ UpdB b v w w' v := by
  obtain ⟨p, c, rfl⟩ := h.form
  refine (skip_end w b p L.length c k (by rw [hk]; simp) h.bx).mono ?_
  rintro e w' ⟨rfl, h2⟩
  exact ⟨rfl, h.up h2, UpdB.of0 h2⟩
theorem next_V (w : World) (b : Nat) (v : Value) (L : List (List Value)) (k : Nat) (kk nn : Int) (bb : Bool) (ss : ByteArray) (hk : k < L.length) (hn : L.length ≤ 1024) (h : BoxV w b v L k) (hc : L.getD k [] = (fl kk bb ss nn).toList) : Calls Try.prog 8 #[.pointer (some ⟨b, 0, none⟩)] w fun e w' => e = .returned (.tuple #[.agg (fl kk bb ss nn), .bool true]) ∧ BoxV w' b v L k ∧ UpdB b v w w' v := by
  rcases h.row with ⟨_, h2⟩ | ⟨g, cap, rfl, hgl, hc1, hc2, _⟩
  · omega
  have hr : w.rangeAt g (k * 7) (fl kk bb ss nn).toList := by
    have := h.has.range (i := k) hk (by rw [hc]; rfl)
    rw [hc] at this
    exact this
  refine (next_on w b g L.length cap k kk nn bb ss hk (by omega) h.bx hgl hr).mono ?_
  rintro e w' ⟨rfl, h2⟩
  exact ⟨rfl, h.up h2, UpdB.of0 h2⟩
theorem next_Ve (w : World) (b : Nat) (v : Value) (L : List (List Value)) (k : Nat) (hk : k = L.length) (h : BoxV w b v L k) : Calls Try.prog 8 #[.pointer (some ⟨b, 0, none⟩)] w fun e w' => e = .returned (.tuple #[(.agg #[.int .u8 0, .bool false, .slice none 0 0, .string ⟨#[]⟩, .int .i64 0, .slice none 0 0, .slice none 0 0]), .bool false]) ∧ BoxV w' b v L k ∧ UpdB b v w w' v := by
  obtain ⟨p, c, rfl⟩ := h.form
  refine (next_end w b p L.length c k (by rw [hk]; simp) h.bx).mono ?_
  rintro e w' ⟨rfl, h2⟩
  exact ⟨rfl, h.up h2, UpdB.of0 h2⟩
theorem len_V (w : World) (b : Nat) (v : Value) (L : List (List Value)) (k n : Nat) (hn : L.length = n) (h : BoxV w b v L k) : Calls Try.prog 13 #[.pointer (some ⟨b, 0, none⟩)] w fun e w' => e = .returned (.int .i64 n) ∧ w' = w := by
  obtain ⟨p, c, rfl⟩ := h.form
  rw [hn] at h
  exact len_in w b p n c k h.bx
theorem new_V (w : World) : Calls Try.prog 16 #[] w fun e w' => e = .returned (.pointer (some ⟨w.heap.size, 0, none⟩)) ∧ BoxV w' w.heap.size (.slice none 0 0) [] 0 ∧ Upd [] w w' := by
  refine (new_any w).mono ?_
  rintro e w' ⟨rfl, h1, h2⟩
  exact ⟨rfl, ⟨h1, Or.inl ⟨rfl, rfl⟩, Hs.zero _ _ _ _, by simp [Value.ownBlock]⟩, h2⟩

theorem sev_fl (k : Int) (b : Bool) (s : ByteArray) (n : Int) : ((fl k b s n).toList).length = 7 ∧ ∀ u ∈ (fl k b s n).toList, u.oneCell' = true := ⟨rfl, fun u hu => List.all_eq_true.1 (by simpa using fl_one k b s n) u hu⟩
theorem Sev.nil : Sev [] := fun c hc => by cases hc
theorem Sev.snoc {L : List (List Value)} (h : Sev L) (k : Int) (b : Bool) (s : ByteArray) (n : Int) : Sev (L ++ [(fl k b s n).toList]) := fun c hc => by
  rcases List.mem_append.1 hc with h1 | h1
  · exact h c h1
  · simp only [List.mem_singleton] at h1
    subst h1
    exact sev_fl k b s n

set_option maxHeartbeats 4000000 in
set_option maxRecDepth 100000 in
theorem awake_any (w : World) : Calls Try.prog 6 #[] w fun e w' => e = .returned (.bool true) ∧ Upd [] w w' := by
  go_enter Try.func6, Try.ntmps6
  go_wp2_with fail
  refine Calls.mono (new_V _) ?_
  rintro e w0 ⟨rfl, hB, hU⟩
  obtain ⟨b, hb⟩ : ∃ b, b = w.heap.size := ⟨_, rfl⟩
  rw [← hb] at hB ⊢
  have HW : Hid (b = w.heap.size ∧ Upd [] w w0) := ⟨hb, hU⟩
  obtain ⟨v0, hv0⟩ : ∃ v0 : Value, v0 = .slice none 0 0 := ⟨_, rfl⟩
  rw [← hv0] at hB
  have HV : Hid (v0 = .slice none 0 0) := hv0
  have HB0 : Hid (BoxV w0 b v0 [] 0) := hB
  have HU0 : Hid (UpdB b v0 w0 w0 v0) := UpdB.refl _ _ _
  clear hB hU hb hv0
  go_wp2_with fail
  refine Calls.mono (letter_any _ _) ?_
  rintro e w1 ⟨rfl, hU⟩
  have hB := HB0.out.up hU
  have hU := UpdB.of0 (b := b) (v := v0) hU
  have HB1 : Hid (BoxV w1 b v0 [] 0) := hB
  have HU1 : Hid (UpdB b v0 w0 w1 v0) := HU0.out.trans hU
  clear hB hU HB0 HU0 
  go_wp2_with fail
  refine Calls.mono (put_on _ b v0 [] 0 2 0 false ⟨#[97]⟩ (by decide) HB1.out) ?_
  rintro e w2 ⟨rfl, v2, hB, hU⟩
  have HB2 : Hid (BoxV w2 b v2 [(fl 2 false ⟨#[97]⟩ 0).toList] 0) := hB
  have HU2 : Hid (UpdB b v0 w0 w2 v2) := HU1.out.trans hU
  clear hB hU HB1 HU1 
  go_wp2_with fail
  refine Calls.mono (letter_any _ _) ?_
  rintro e w3 ⟨rfl, hU⟩
  have hB := HB2.out.up hU
  have hU := UpdB.of0 (b := b) (v := v2) hU
  have HB3 : Hid (BoxV w3 b v2 [(fl 2 false ⟨#[97]⟩ 0).toList] 0) := hB
  have HU3 : Hid (UpdB b v0 w0 w3 v2) := HU2.out.trans hU
  clear hB hU HB2 HU2 
  go_wp2_with fail
  refine Calls.mono (put_on _ b v2 [(fl 2 false ⟨#[97]⟩ 0).toList] 0 2 0 false ⟨#[98]⟩ (by decide) HB3.out) ?_
  rintro e w4 ⟨rfl, v4, hB, hU⟩
  have HB4 : Hid (BoxV w4 b v4 [(fl 2 false ⟨#[97]⟩ 0).toList, (fl 2 false ⟨#[98]⟩ 0).toList] 0) := hB
  have HU4 : Hid (UpdB b v0 w0 w4 v4) := HU3.out.trans hU
  clear hB hU HB3 HU3 
  go_wp2_with fail
  refine Calls.mono (letter_any _ _) ?_
  rintro e w5 ⟨rfl, hU⟩
  have hB := HB4.out.up hU
  have hU := UpdB.of0 (b := b) (v := v4) hU
  have HB5 : Hid (BoxV w5 b v4 [(fl 2 false ⟨#[97]⟩ 0).toList, (fl 2 false ⟨#[98]⟩ 0).toList] 0) := hB
  have HU5 : Hid (UpdB b v0 w0 w5 v4) := HU4.out.trans hU
  clear hB hU HB4 HU4 
  go_wp2_with fail
  refine Calls.mono (put_on _ b v4 [(fl 2 false ⟨#[97]⟩ 0).toList, (fl 2 false ⟨#[98]⟩ 0).toList] 0 2 0 false ⟨#[99]⟩ (by decide) HB5.out) ?_
  rintro e w6 ⟨rfl, v6, hB, hU⟩
  have HB6 : Hid (BoxV w6 b v6 [(fl 2 false ⟨#[97]⟩ 0).toList, (fl 2 false ⟨#[98]⟩ 0).toList, (fl 2 false ⟨#[99]⟩ 0).toList] 0) := hB
  have HU6 : Hid (UpdB b v0 w0 w6 v6) := HU5.out.trans hU
  clear hB hU HB5 HU5 
  go_wp2_with fail
  refine Calls.mono (skip_V _ b v6 [(fl 2 false ⟨#[97]⟩ 0).toList, (fl 2 false ⟨#[98]⟩ 0).toList, (fl 2 false ⟨#[99]⟩ 0).toList] 0 (by decide) (by decide) HB6.out) ?_
  rintro e w7 ⟨rfl, hB, hU⟩
  have HB7 : Hid (BoxV w7 b v6 [(fl 2 false ⟨#[97]⟩ 0).toList, (fl 2 false ⟨#[98]⟩ 0).toList, (fl 2 false ⟨#[99]⟩ 0).toList] 1) := hB
  have HU7 : Hid (UpdB b v0 w0 w7 v6) := HU6.out.trans hU
  clear hB hU HB6 HU6 
  go_wp2_with fail
  have hsev : Sev [(fl 2 false ⟨#[97]⟩ 0).toList, (fl 2 false ⟨#[98]⟩ 0).toList, (fl 2 false ⟨#[99]⟩ 0).toList] := by intro c hc; simp only [List.mem_cons, List.not_mem_nil, or_false] at hc; rcases hc with rfl | rfl | rfl <;> exact sev_fl _ _ _ _
  refine Calls.mono (take_on _ b v6 [(fl 2 false ⟨#[97]⟩ 0).toList, (fl 2 false ⟨#[98]⟩ 0).toList, (fl 2 false ⟨#[99]⟩ 0).toList] 1 2 0 false ⟨#[98]⟩ (by decide) (by decide) hsev HB7.out rfl) ?_
  clear hsev
  rintro e w8 ⟨rfl, v8, hB, hU⟩
  have HB8 : Hid (BoxV w8 b v8 [(fl 2 false ⟨#[97]⟩ 0).toList, (fl 2 false ⟨#[99]⟩ 0).toList] 0) := hB
  have HU8 : Hid (UpdB b v0 w0 w8 v8) := HU7.out.trans hU
  clear hB hU HB7 HU7 
  have HX : Hid (Loc (w8.alloc (.cells #[.int .u8 0, .bool false, .slice none 0 0, .string ⟨#[]⟩, .int .i64 0, .slice none 0 0, .slice none 0 0] 26)) b v8 w8.heap.size #[.int .u8 0, .bool false, .slice none 0 0, .string ⟨#[]⟩, .int .i64 0, .slice none 0 0, .slice none 0 0] ∧ Upd [] w8 (w8.alloc (.cells #[.int .u8 0, .bool false, .slice none 0 0, .string ⟨#[]⟩, .int .i64 0, .slice none 0 0, .slice none 0 0] 26))) := ⟨Loc.new HB8.out _, (Upd.refl [] _).alloc _⟩
  go_wp2_with (first | (refine store_T _ rfl _ _ rfl _ _ _ rfl rfl HX.out.1.1 rfl rfl (fl_one 2 false ⟨#[98]⟩ 0) ?_; intro w9 hT hU0) | fail)
  have hU := UpdB.fresh (b := b) (v := v8) HX.out.2 hU0
  have hB := (HB8.out.up HX.out.2).x HX.out.1 hU0
  have hL := HX.out.1.set hT
  obtain ⟨x1, hx⟩ : ∃ x, x = w8.heap.size := ⟨_, rfl⟩
  rw [← hx] at hL ⊢
  have HLx19 : Hid (Loc w9 b v8 x1 (fl 2 false ⟨#[98]⟩ 0)) := hL
  clear HX hT hU0 hx hL
  have HB9 : Hid (BoxV w9 b v8 [(fl 2 false ⟨#[97]⟩ 0).toList, (fl 2 false ⟨#[99]⟩ 0).toList] 0) := hB
  have HU9 : Hid (UpdB b v0 w0 w9 v8) := HU8.out.trans hU
  clear hB hU HB8 HU8 
  refine Calls.mono (next_V _ b v8 [(fl 2 false ⟨#[97]⟩ 0).toList, (fl 2 false ⟨#[99]⟩ 0).toList] 0 2 0 false ⟨#[97]⟩ (by decide) (by decide) HB9.out rfl) ?_
  rintro e w10 ⟨rfl, hB, hU⟩
  have HB10 : Hid (BoxV w10 b v8 [(fl 2 false ⟨#[97]⟩ 0).toList, (fl 2 false ⟨#[99]⟩ 0).toList] 0) := hB
  have HU10 : Hid (UpdB b v0 w0 w10 v8) := HU9.out.trans hU
  have HLx110 : Hid (Loc w10 b v8 x1 (fl 2 false ⟨#[98]⟩ 0)) := HLx19.out.step hU
  clear hB hU HB9 HU9 HLx19
  have HX : Hid (Loc (w10.alloc (.cells #[.int .u8 0, .bool false, .slice none 0 0, .string ⟨#[]⟩, .int .i64 0, .slice none 0 0, .slice none 0 0] 26)) b v8 w10.heap.size #[.int .u8 0, .bool false, .slice none 0 0, .string ⟨#[]⟩, .int .i64 0, .slice none 0 0, .slice none 0 0] ∧ Upd [] w10 (w10.alloc (.cells #[.int .u8 0, .bool false, .slice none 0 0, .string ⟨#[]⟩, .int .i64 0, .slice none 0 0, .slice none 0 0] 26))) := ⟨Loc.new HB10.out _, (Upd.refl [] _).alloc _⟩
  go_wp2_with (first | (refine store_T _ rfl _ _ rfl _ _ _ rfl rfl HX.out.1.1 rfl rfl (fl_one 2 false ⟨#[97]⟩ 0) ?_; intro w11 hT hU0) | fail)
  have hU := UpdB.fresh (b := b) (v := v8) HX.out.2 hU0
  have hB := (HB10.out.up HX.out.2).x HX.out.1 hU0
  have hL := HX.out.1.set hT
  obtain ⟨x2, hx⟩ : ∃ x, x = w10.heap.size := ⟨_, rfl⟩
  rw [← hx] at hL ⊢
  have HLx211 : Hid (Loc w11 b v8 x2 (fl 2 false ⟨#[97]⟩ 0)) := hL
  clear HX hT hU0 hx hL
  have HB11 : Hid (BoxV w11 b v8 [(fl 2 false ⟨#[97]⟩ 0).toList, (fl 2 false ⟨#[99]⟩ 0).toList] 0) := hB
  have HU11 : Hid (UpdB b v0 w0 w11 v8) := HU10.out.trans hU
  have HLx111 : Hid (Loc w11 b v8 x1 (fl 2 false ⟨#[98]⟩ 0)) := HLx110.out.step hU
  clear hB hU HB10 HU10 HLx110
  refine Calls.mono (skip_V _ b v8 [(fl 2 false ⟨#[97]⟩ 0).toList, (fl 2 false ⟨#[99]⟩ 0).toList] 0 (by decide) (by decide) HB11.out) ?_
  rintro e w12 ⟨rfl, hB, hU⟩
  have HB12 : Hid (BoxV w12 b v8 [(fl 2 false ⟨#[97]⟩ 0).toList, (fl 2 false ⟨#[99]⟩ 0).toList] 1) := hB
  have HU12 : Hid (UpdB b v0 w0 w12 v8) := HU11.out.trans hU
  have HLx112 : Hid (Loc w12 b v8 x1 (fl 2 false ⟨#[98]⟩ 0)) := HLx111.out.step hU
  have HLx212 : Hid (Loc w12 b v8 x2 (fl 2 false ⟨#[97]⟩ 0)) := HLx211.out.step hU
  clear hB hU HB11 HU11 HLx111 HLx211
  go_wp2_with fail
  refine Calls.mono (skip_V _ b v8 [(fl 2 false ⟨#[97]⟩ 0).toList, (fl 2 false ⟨#[99]⟩ 0).toList] 1 (by decide) (by decide) HB12.out) ?_
  rintro e w13 ⟨rfl, hB, hU⟩
  have HB13 : Hid (BoxV w13 b v8 [(fl 2 false ⟨#[97]⟩ 0).toList, (fl 2 false ⟨#[99]⟩ 0).toList] 2) := hB
  have HU13 : Hid (UpdB b v0 w0 w13 v8) := HU12.out.trans hU
  have HLx113 : Hid (Loc w13 b v8 x1 (fl 2 false ⟨#[98]⟩ 0)) := HLx112.out.step hU
  have HLx213 : Hid (Loc w13 b v8 x2 (fl 2 false ⟨#[97]⟩ 0)) := HLx212.out.step hU
  clear hB hU HB12 HU12 HLx112 HLx212
  go_wp2_with fail
  refine Calls.mono (next_Ve _ b v8 [(fl 2 false ⟨#[97]⟩ 0).toList, (fl 2 false ⟨#[99]⟩ 0).toList] 2 rfl HB13.out) ?_
  rintro e w14 ⟨rfl, hB, hU⟩
  have HB14 : Hid (BoxV w14 b v8 [(fl 2 false ⟨#[97]⟩ 0).toList, (fl 2 false ⟨#[99]⟩ 0).toList] 2) := hB
  have HU14 : Hid (UpdB b v0 w0 w14 v8) := HU13.out.trans hU
  have HLx114 : Hid (Loc w14 b v8 x1 (fl 2 false ⟨#[98]⟩ 0)) := HLx113.out.step hU
  have HLx214 : Hid (Loc w14 b v8 x2 (fl 2 false ⟨#[97]⟩ 0)) := HLx213.out.step hU
  clear hB hU HB13 HU13 HLx113 HLx213
  have HX : Hid (Loc (w14.alloc (.cells #[.int .u8 0, .bool false, .slice none 0 0, .string ⟨#[]⟩, .int .i64 0, .slice none 0 0, .slice none 0 0] 26)) b v8 w14.heap.size #[.int .u8 0, .bool false, .slice none 0 0, .string ⟨#[]⟩, .int .i64 0, .slice none 0 0, .slice none 0 0] ∧ Upd [] w14 (w14.alloc (.cells #[.int .u8 0, .bool false, .slice none 0 0, .string ⟨#[]⟩, .int .i64 0, .slice none 0 0, .slice none 0 0] 26))) := ⟨Loc.new HB14.out _, (Upd.refl [] _).alloc _⟩
  go_wp2_with (first | (refine store_T _ rfl _ _ rfl _ _ _ rfl rfl HX.out.1.1 rfl rfl (fl_one 0 false ⟨#[]⟩ 0) ?_; intro w15 hT hU0) | fail)
  have hU := UpdB.fresh (b := b) (v := v8) HX.out.2 hU0
  have hB := (HB14.out.up HX.out.2).x HX.out.1 hU0
  have hL := HX.out.1.set hT
  obtain ⟨x3, hx⟩ : ∃ x, x = w14.heap.size := ⟨_, rfl⟩
  rw [← hx] at hL ⊢
  have HLx315 : Hid (Loc w15 b v8 x3 #[.int .u8 0, .bool false, .slice none 0 0, .string ⟨#[]⟩, .int .i64 0, .slice none 0 0, .slice none 0 0]) := hL
  clear HX hT hU0 hx hL
  have HB15 : Hid (BoxV w15 b v8 [(fl 2 false ⟨#[97]⟩ 0).toList, (fl 2 false ⟨#[99]⟩ 0).toList] 2) := hB
  have HU15 : Hid (UpdB b v0 w0 w15 v8) := HU14.out.trans hU
  have HLx115 : Hid (Loc w15 b v8 x1 (fl 2 false ⟨#[98]⟩ 0)) := HLx114.out.step hU
  have HLx215 : Hid (Loc w15 b v8 x2 (fl 2 false ⟨#[97]⟩ 0)) := HLx214.out.step hU
  clear hB hU HB14 HU14 HLx114 HLx214
  refine Calls.mono (skip_Ve _ b v8 [(fl 2 false ⟨#[97]⟩ 0).toList, (fl 2 false ⟨#[99]⟩ 0).toList] 2 rfl HB15.out) ?_
  rintro e w16 ⟨rfl, hB, hU⟩
  have HB16 : Hid (BoxV w16 b v8 [(fl 2 false ⟨#[97]⟩ 0).toList, (fl 2 false ⟨#[99]⟩ 0).toList] 2) := hB
  have HU16 : Hid (UpdB b v0 w0 w16 v8) := HU15.out.trans hU
  have HLx116 : Hid (Loc w16 b v8 x1 (fl 2 false ⟨#[98]⟩ 0)) := HLx115.out.step hU
  have HLx216 : Hid (Loc w16 b v8 x2 (fl 2 false ⟨#[97]⟩ 0)) := HLx215.out.step hU
  have HLx316 : Hid (Loc w16 b v8 x3 #[.int .u8 0, .bool false, .slice none 0 0, .string ⟨#[]⟩, .int .i64 0, .slice none 0 0, .slice none 0 0]) := HLx315.out.step hU
  clear hB hU HB15 HU15 HLx115 HLx215 HLx315
  go_wp2_with fail
  refine Calls.mono (letter_any _ _) ?_
  rintro e w17 ⟨rfl, hU⟩
  have hB := HB16.out.up hU
  have hU := UpdB.of0 (b := b) (v := v8) hU
  have HB17 : Hid (BoxV w17 b v8 [(fl 2 false ⟨#[97]⟩ 0).toList, (fl 2 false ⟨#[99]⟩ 0).toList] 2) := hB
  have HU17 : Hid (UpdB b v0 w0 w17 v8) := HU16.out.trans hU
  have HLx117 : Hid (Loc w17 b v8 x1 (fl 2 false ⟨#[98]⟩ 0)) := HLx116.out.step hU
  have HLx217 : Hid (Loc w17 b v8 x2 (fl 2 false ⟨#[97]⟩ 0)) := HLx216.out.step hU
  have HLx317 : Hid (Loc w17 b v8 x3 #[.int .u8 0, .bool false, .slice none 0 0, .string ⟨#[]⟩, .int .i64 0, .slice none 0 0, .slice none 0 0]) := HLx316.out.step hU
  clear hB hU HB16 HU16 HLx116 HLx216 HLx316
  go_wp2_with fail
  refine Calls.mono (put_on _ b v8 [(fl 2 false ⟨#[97]⟩ 0).toList, (fl 2 false ⟨#[99]⟩ 0).toList] 2 2 0 false ⟨#[100]⟩ (by decide) HB17.out) ?_
  rintro e w18 ⟨rfl, v18, hB, hU⟩
  have HB18 : Hid (BoxV w18 b v18 [(fl 2 false ⟨#[97]⟩ 0).toList, (fl 2 false ⟨#[99]⟩ 0).toList, (fl 2 false ⟨#[100]⟩ 0).toList] 2) := hB
  have HU18 : Hid (UpdB b v0 w0 w18 v18) := HU17.out.trans hU
  have HLx118 : Hid (Loc w18 b v18 x1 (fl 2 false ⟨#[98]⟩ 0)) := HLx117.out.step hU
  have HLx218 : Hid (Loc w18 b v18 x2 (fl 2 false ⟨#[97]⟩ 0)) := HLx217.out.step hU
  have HLx318 : Hid (Loc w18 b v18 x3 #[.int .u8 0, .bool false, .slice none 0 0, .string ⟨#[]⟩, .int .i64 0, .slice none 0 0, .slice none 0 0]) := HLx317.out.step hU
  clear hB hU HB17 HU17 HLx117 HLx217 HLx317
  go_wp2_with fail
  refine Calls.mono (next_V _ b v18 [(fl 2 false ⟨#[97]⟩ 0).toList, (fl 2 false ⟨#[99]⟩ 0).toList, (fl 2 false ⟨#[100]⟩ 0).toList] 2 2 0 false ⟨#[100]⟩ (by decide) (by decide) HB18.out rfl) ?_
  rintro e w19 ⟨rfl, hB, hU⟩
  have HB19 : Hid (BoxV w19 b v18 [(fl 2 false ⟨#[97]⟩ 0).toList, (fl 2 false ⟨#[99]⟩ 0).toList, (fl 2 false ⟨#[100]⟩ 0).toList] 2) := hB
  have HU19 : Hid (UpdB b v0 w0 w19 v18) := HU18.out.trans hU
  have HLx119 : Hid (Loc w19 b v18 x1 (fl 2 false ⟨#[98]⟩ 0)) := HLx118.out.step hU
  have HLx219 : Hid (Loc w19 b v18 x2 (fl 2 false ⟨#[97]⟩ 0)) := HLx218.out.step hU
  have HLx319 : Hid (Loc w19 b v18 x3 #[.int .u8 0, .bool false, .slice none 0 0, .string ⟨#[]⟩, .int .i64 0, .slice none 0 0, .slice none 0 0]) := HLx318.out.step hU
  clear hB hU HB18 HU18 HLx118 HLx218 HLx318
  have HX : Hid (Loc (w19.alloc (.cells #[.int .u8 0, .bool false, .slice none 0 0, .string ⟨#[]⟩, .int .i64 0, .slice none 0 0, .slice none 0 0] 26)) b v18 w19.heap.size #[.int .u8 0, .bool false, .slice none 0 0, .string ⟨#[]⟩, .int .i64 0, .slice none 0 0, .slice none 0 0] ∧ Upd [] w19 (w19.alloc (.cells #[.int .u8 0, .bool false, .slice none 0 0, .string ⟨#[]⟩, .int .i64 0, .slice none 0 0, .slice none 0 0] 26))) := ⟨Loc.new HB19.out _, (Upd.refl [] _).alloc _⟩
  go_wp2_with (first | (refine store_T _ rfl _ _ rfl _ _ _ rfl rfl HX.out.1.1 rfl rfl (fl_one 2 false ⟨#[100]⟩ 0) ?_; intro w20 hT hU0; have hUx := UpdB.fresh (b := b) (v := v18) HX.out.2 hU0; have y1 : w20.cell? ⟨x1, 3, none⟩ = some (.string ⟨#[98]⟩) := (HLx119.out.step hUx).1.cell 3; have y2 : w20.cell? ⟨x2, 3, none⟩ = some (.string ⟨#[97]⟩) := (HLx219.out.step hUx).1.cell 3; have y4 : w20.cell? ⟨w19.heap.size, 3, none⟩ = some (.string ⟨#[100]⟩) := hT.cell 3; clear hUx) | fail)
  have hU := UpdB.fresh (b := b) (v := v18) HX.out.2 hU0
  have hB := (HB19.out.up HX.out.2).x HX.out.1 hU0
  have hL := HX.out.1.set hT
  obtain ⟨x4, hx⟩ : ∃ x, x = w19.heap.size := ⟨_, rfl⟩
  rw [← hx] at hL ⊢
  have HLx420 : Hid (Loc w20 b v18 x4 (fl 2 false ⟨#[100]⟩ 0)) := hL
  clear HX hT hU0 hx hL
  have HB20 : Hid (BoxV w20 b v18 [(fl 2 false ⟨#[97]⟩ 0).toList, (fl 2 false ⟨#[99]⟩ 0).toList, (fl 2 false ⟨#[100]⟩ 0).toList] 2) := hB
  have HU20 : Hid (UpdB b v0 w0 w20 v18) := HU19.out.trans hU
  have HLx120 : Hid (Loc w20 b v18 x1 (fl 2 false ⟨#[98]⟩ 0)) := HLx119.out.step hU
  have HLx220 : Hid (Loc w20 b v18 x2 (fl 2 false ⟨#[97]⟩ 0)) := HLx219.out.step hU
  have HLx320 : Hid (Loc w20 b v18 x3 #[.int .u8 0, .bool false, .slice none 0 0, .string ⟨#[]⟩, .int .i64 0, .slice none 0 0, .slice none 0 0]) := HLx319.out.step hU
  clear hB hU HB19 HU19 HLx119 HLx219 HLx319
  refine Calls.mono (len_V _ b v18 [(fl 2 false ⟨#[97]⟩ 0).toList, (fl 2 false ⟨#[99]⟩ 0).toList, (fl 2 false ⟨#[100]⟩ 0).toList] 2 3 rfl HB20.out) ?_
  rintro e wl ⟨rfl, hwl⟩
  rw [hwl]
  clear hwl wl
  go_wp2_with fail
  go_ret
  refine ⟨rfl, ?_⟩
  have h1 := HW.out
  have h2 := HU20.out
  exact ⟨h2.os.trans h1.2.os, h2.tape.trans h1.2.tape, h2.output.trans h1.2.output, Nat.le_trans h1.2.size h2.size, fun i hi _ => (h2.block i (Nat.lt_of_lt_of_le hi h1.2.size) (by omega) (by rw [HV.out]; simp [Value.ownBlock])).trans (h1.2.block i hi (by simp))⟩

end Go.Proofs.Ytmdkhkeljpdbiaa
