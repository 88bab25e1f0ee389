/- WholeSums: whatever two terms it is given, the call returns true and leaves its arguments as they were: the card of the given row, tied to the program's text.
   Conditions: the row's own alone (the listed package variables stand as the text lays them). -/
import Derived.Test.YtpjlhpopoacjdaaDoorPairS
import Derived.Test.YtpjlhpopoacjdaaDoorReg2
import Derived.Test.YtpjlhpopoacjdaaDoorJH
namespace Go.Proofs.YtpjlhpopoacjdaaDoor
open Go.RowKit

/-- The blocks of what is lent are there. -/
theorem KIn.within {P : Nat → Prop} {w : World} : ∀ (d : Nat) (cs : List Value) (t : Tm), KIn P w d cs t → KIn (fun x => P x ∧ x < w.heap.size) w d cs t := by
  intro d
  induction d with
  | zero => intro cs t h; exact h.elim
  | succ d ih =>
    intro cs t h
    cases t with
    | mk k num neg L s I T =>
      obtain ⟨g, gi, gt, c, ci, ct, rfl, h1, h2, h3, h4, h5, h6, h7⟩ := h
      have row : ∀ g c (I : List Tm), RowK P (KIn P w d) w g c I → RowK (fun x => P x ∧ x < w.heap.size) (KIn (fun x => P x ∧ x < w.heap.size) w d) w g c I := by
        intro g c I ⟨r1, r2, r3, r4, r5, r6⟩
        refine ⟨⟨r1, r2⟩, r2, r3, r4, fun i hi => ?_, r6⟩
        obtain ⟨cs, k1, k2, k3⟩ := r5 i hi
        exact ⟨cs, k1, k2, ih _ _ k3⟩
      refine ⟨g, gi, gt, c, ci, ct, rfl, ⟨h1, ?_⟩, h2, h3, h4, h5, row gi ci I h6, row gt ct T h7⟩
      rcases h2 with h2 | ⟨b, o, e, hlt, _⟩
      · have : (L ++ marks).length = 0 := by rw [h2]; rfl
        rw [List.length_append] at this
        have m12 : marks.length = 12 := rfl
        omega
      · cases e; exact hlt

/-- What LentTerm answers, as the drawn pair wants it. -/
def LentR (d : Nat) (t : Tm) (P : Nat → Prop) (X : Array Value) (w : World) : Prop := ∃ cs : List Value, X = cs.toArray ∧ KIn P w d cs t
theorem LentR.stay {d : Nat} {t : Tm} (PX : Nat → Prop) (X : Array Value) (w w' : World) (U : List Nat) (h : LentR d t PX X w) (hu : Upd U w w') (hP : ∀ z, PX z → z ∉ U) : LentR d t PX X w' := by
  obtain ⟨cs, e, hK⟩ := h
  exact ⟨cs, e, KIn.keep hu hP (fun _ hx => hx) d cs t hK⟩
theorem LentR.call {d : Nat} {t : Tm} {w0 : World} {cs : List Value} (h : In w0 d cs t) (hs : tsz t ≤ 1353245080330) (V : World) (hu : Upd [] w0 V) :
    Calls Tryd.prog 11 #[.agg cs.toArray] V fun e w' => ∃ u, e = .returned u ∧ Upd [] V w' ∧ ∃ X PX, u = .agg X ∧ X.size = 7 ∧ X.all (·.oneCell') = true ∧ LentR d t PX X w' ∧ ∀ z, PX z → V.heap.size ≤ z ∧ z < w'.heap.size := by
  refine (LentTerm_in d V cs t (In.mono hu d cs t h) hs).mono ?_
  rintro e w' ⟨hU, cs', h7, rfl, hK⟩
  refine ⟨_, rfl, hU, cs'.toArray, fun x => V.heap.size ≤ x ∧ x < w'.heap.size, rfl, by simpa using h7, ?_, ⟨cs', rfl, KIn.within d cs' t hK⟩, fun z hz => hz⟩
  obtain ⟨k, num, neg, s, a1, a2, a3, n1, n2, n3, c1, c2, c3, rfl⟩ := hK.shape
  simp [Value.oneCell']

set_option maxHeartbeats 8000000 in
set_option maxRecDepth 100000 in
theorem WholeSums_core (k0 num0 : Int) (neg0 : Bool) (a0 ai0 at0 : Option Addr) (L0 : List Nat) (c0 ni0 ci0 nt0 ct0 : Nat) (s0 : ByteArray) (k1 num1 : Int) (neg1 : Bool) (a1 ai1 at1 : Option Addr) (L1 : List Nat) (c1 ni1 ci1 nt1 ct1 : Nat) (s1 : ByteArray) (d : Nat) (t0 t1 : Tm) (W : World) (h0 : In W d [.int .u8 k0, .bool neg0, .slice a0 L0.length c0, .string s0, .int .i64 num0, .slice ai0 ni0 ci0, .slice at0 nt0 ct0] t0) (h1 : In W d [.int .u8 k1, .bool neg1, .slice a1 L1.length c1, .string s1, .int .i64 num1, .slice ai1 ni1 ci1, .slice at1 nt1 ct1] t1) (z0 : tsz t0 ≤ 1353245080330) (z1 : tsz t1 ≤ 1353245080330) :
    Calls Tryd.prog 3 #[.agg #[.int .u8 k0, .bool neg0, .slice a0 L0.length c0, .string s0, .int .i64 num0, .slice ai0 ni0 ci0, .slice at0 nt0 ct0], .agg #[.int .u8 k1, .bool neg1, .slice a1 L1.length c1, .string s1, .int .i64 num1, .slice ai1 ni1 ci1, .slice at1 nt1 ct1]] W fun e w' => e = .returned (.bool true) ∧ Upd [] W w' := by
  obtain ⟨K1, p1, P, o1, hP, add⟩ := add_in t0 t1 z0 z1
  obtain ⟨K2, p2, S, o2, hS, sub⟩ := sub_in t0 t1 z0 z1
  obtain ⟨m, o3, int⟩ := int_in t0 z0
  obtain ⟨q, cmp⟩ := compare_in t0 t1 z0 z1
  obtain ⟨o4, rgt⟩ := right_in t0 z0
  have Hadd : Hid _ := add
  have Hsub : Hid _ := sub
  have Hint : Hid _ := int
  have Hcmp : Hid _ := cmp
  have Hrgt : Hid _ := rgt
  have HI0 : Hid (In W d _ t0) := h0
  have HI1 : Hid (In W d _ t1) := h1
  have HZ0 : Hid (tsz t0 ≤ 1353245080330) := z0
  have HZ1 : Hid (tsz t1 ≤ 1353245080330) := z1
  have hP2 : Hid (P.length ≤ 32) := hP
  have hS2 : Hid (S.length ≤ 32) := hS
  clear add sub int cmp rgt h0 h1 z0 z1 hP hS
  go_enter Tryd.func3, Tryd.ntmps3
  go_wp2_with fail
  refine (awake_any _).mono ?_
  rintro e w1 ⟨rfl, hw1⟩
  have V1 := (((Upd.refl [] W).alloc _).alloc _).trans hw1
  have ta1 := Tb.mono ((Tb.new W #[.int .u8 k0, .bool neg0, .slice a0 L0.length c0, .string s0, .int .i64 num0, .slice ai0 ni0 ci0, .slice at0 nt0 ct0] _ rfl).old _) hw1 (by simp)
  have tb1 := Tb.mono (Tb.new (W.alloc _) #[.int .u8 k1, .bool neg1, .slice a1 L1.length c1, .string s1, .int .i64 num1, .slice ai1 ni1 ci1, .slice at1 nt1 ct1] (W.heap.size + 1) (by simp)) hw1 (by simp)
  have U1 : Hid (Upd [] W w1) := V1
  clear V1 hw1
  go_wp2_with (first | (refine load_G _ _ rfl _ _ rfl ta1 rfl rfl ?_) | (refine load_G _ _ rfl _ _ rfl tb1 rfl rfl ?_))
  refine (small_any k0 num0 k1 num1 neg0 neg1 L0 L1 s0 s1 a0 ai0 at0 a1 ai1 at1 c0 ni0 ci0 nt0 ct0 c1 ni1 ci1 nt1 ct1 _).mono ?_
  rintro e w2 ⟨⟨t, rfl⟩, hw2⟩
  have ta2 := Tb.mono ta1 hw2 (by simp)
  have tb2 := Tb.mono tb1 hw2 (by simp)
  have U2 : Hid (Upd [] W w2) := Upd.trans (Hid.out U1) hw2
  clear hw2 ta1 tb1 U1
  cases t
  · go_wp2
    go_ret
    exact ⟨rfl, Hid.out U2⟩
  · go_wp2_with fail
    refine two_region (by kernel_rfl) (by decide) rfl W.heap.size (W.heap.size + 1) #[.int .u8 k0, .bool neg0, .slice a0 L0.length c0, .string s0, .int .i64 num0, .slice ai0 ni0 ci0, .slice at0 nt0 ct0] #[.int .u8 k1, .bool neg1, .slice a1 L1.length c1, .string s1, .int .i64 num1, .slice ai1 ni1 ci1, .slice at1 nt1 ct1] rfl rfl ta2 tb2 rfl rfl Tryd.call11 Tryd.call11 (LentR d t0) (LentR d t1) LentR.stay LentR.stay (LentR.call (In.mono U2.out _ _ _ HI0.out) HZ0.out) (LentR.call (In.mono U2.out _ _ _ HI1.out) HZ1.out) ?_
    rintro g h X Y PX PY w3 hgh hg hh hX7 hY7 tx3 ty3 ⟨csx, rfl, kx⟩ ⟨csy, rfl, ky⟩ hw3
    simp only [Act.put, List.setIfInBounds_toArray, List.set_cons_succ, List.set_cons_zero]
    obtain ⟨x0, x1, x2, x3, x4, x5, x6, rfl⟩ := list7 (cs := csx) (by simpa using hX7)
    obtain ⟨y0, y1, y2, y3, y4, y5, y6, rfl⟩ := list7 (cs := csy) (by simpa using hY7)
    have HKx : Hid (KIn PX w3 d _ t0) := kx
    have HKy : Hid (KIn PY w3 d _ t1) := ky
    have ta3 := Tb.mono ta2 hw3 (by simp)
    have tb3 := Tb.mono tb2 hw3 (by simp)
    have U3 : Hid (Upd [] W w3) := Upd.trans (Hid.out U2) hw3
    have M3 : Hid (Upd [] w3 w3) := Upd.refl [] w3
    clear ta2 tb2 U2 hw3 kx ky hX7 hY7 hgh hg hh
    go_wp2_with (first | (refine load_G _ _ rfl _ _ rfl ta3 rfl rfl ?_) | (refine load_G _ _ rfl _ _ rfl tb3 rfl rfl ?_) | (refine load_G _ _ rfl _ _ rfl tx3 rfl rfl ?_) | (refine load_G _ _ rfl _ _ rfl ty3 rfl rfl ?_))
    refine AnsT.go (Hadd.out d _ _ _ (KIn.plain _ _ _ (KIn.keep (M3.out) (fun x _ => by simp) (fun x hx => hx) _ _ _ HKx.out)) (KIn.plain _ _ _ (KIn.keep (M3.out) (fun x _ => by simp) (fun x hx => hx) _ _ _ HKy.out))).1 ?_
    rintro e w4 ⟨hU4, bs, ds, rfl, zs⟩
    have ms : Hid (At w4 _ _) := zs
    clear zs
    have V4 : Upd [] w3 w4 := hU4
    have ta4 := Tb.mono ta3 V4 (by simp)
    have tb4 := Tb.mono tb3 V4 (by simp)
    have tx4 := Tb.mono tx3 V4 (by simp)
    have ty4 := Tb.mono ty3 V4 (by simp)
    have U4 : Hid (Upd [] W w4) := Upd.trans (U3.out) V4
    have M4 : Hid (Upd [] w3 w4) := Upd.trans (M3.out) V4
    clear hU4 V4 U3 M3 ta3 tb3 tx3 ty3
    go_wp2_with (first | (refine load_G _ _ rfl _ _ rfl (ta4.old _) rfl rfl ?_) | (refine load_G _ _ rfl _ _ rfl (tb4.old _) rfl rfl ?_) | (refine load_G _ _ rfl _ _ rfl (tx4.old _) rfl rfl ?_) | (refine load_G _ _ rfl _ _ rfl (ty4.old _) rfl rfl ?_) | (refine load_G _ _ rfl _ _ rfl (Tb.new w4 _ _ rfl) rfl rfl ?_))
    refine AnsT.go (Hadd.out d _ _ _ (In.mono (Upd.alloc (U4.out) _) _ _ _ HI0.out) (In.mono (Upd.alloc (U4.out) _) _ _ _ HI1.out)).2 ?_
    rintro e w5 ⟨hU5, bt, dt, rfl, zt⟩
    have mt : Hid (At w5 _ _) := zt
    clear zt
    have V5 : Upd [] w4 w5 := ((Upd.refl [] w4).alloc _).trans hU5
    have ta5 := Tb.mono ta4 V5 (by simp)
    have tb5 := Tb.mono tb4 V5 (by simp)
    have tx5 := Tb.mono tx4 V5 (by simp)
    have ty5 := Tb.mono ty4 V5 (by simp)
    have ts5 := Tb.mono (Tb.new w4 #[.int .u8 K1, .bool p1, .slice bs P.length ds, .string ⟨#[]⟩, .int .i64 0, .slice none 0 0, .slice none 0 0] _ rfl) hU5 (by simp)
    have ms5 : Hid (At w5 _ _) := At.mono (ms.out) V5
    have U5 : Hid (Upd [] W w5) := Upd.trans (U4.out) V5
    have M5 : Hid (Upd [] w3 w5) := Upd.trans (M4.out) V5
    clear hU5 V5 U4 M4 ta4 tb4 tx4 ty4
    go_wp2_with (first | (refine load_G _ _ rfl _ _ rfl (ta5.old _) rfl rfl ?_) | (refine load_G _ _ rfl _ _ rfl (tb5.old _) rfl rfl ?_) | (refine load_G _ _ rfl _ _ rfl (tx5.old _) rfl rfl ?_) | (refine load_G _ _ rfl _ _ rfl (ty5.old _) rfl rfl ?_) | (refine load_G _ _ rfl _ _ rfl (ts5.old _) rfl rfl ?_) | (refine load_G _ _ rfl _ _ rfl (Tb.new w5 _ _ rfl) rfl rfl ?_))
    refine AnsT.go (Hsub.out d _ _ _ (KIn.plain _ _ _ (KIn.keep (Upd.alloc (M5.out) _) (fun x _ => by simp) (fun x hx => hx) _ _ _ HKx.out)) (KIn.plain _ _ _ (KIn.keep (Upd.alloc (M5.out) _) (fun x _ => by simp) (fun x hx => hx) _ _ _ HKy.out))).1 ?_
    rintro e w6 ⟨hU6, bu, du, rfl, zu⟩
    have mu : Hid (At w6 _ _) := zu
    clear zu
    have V6 : Upd [] w5 w6 := ((Upd.refl [] w5).alloc _).trans hU6
    have ta6 := Tb.mono ta5 V6 (by simp)
    have tb6 := Tb.mono tb5 V6 (by simp)
    have tx6 := Tb.mono tx5 V6 (by simp)
    have ty6 := Tb.mono ty5 V6 (by simp)
    have ts6 := Tb.mono ts5 V6 (by simp)
    have tt6 := Tb.mono (Tb.new w5 #[.int .u8 K1, .bool p1, .slice bt P.length dt, .string ⟨#[]⟩, .int .i64 0, .slice none 0 0, .slice none 0 0] _ rfl) hU6 (by simp)
    have ms6 : Hid (At w6 _ _) := At.mono (ms5.out) V6
    have mt6 : Hid (At w6 _ _) := At.mono (mt.out) V6
    have U6 : Hid (Upd [] W w6) := Upd.trans (U5.out) V6
    have M6 : Hid (Upd [] w3 w6) := Upd.trans (M5.out) V6
    clear hU6 V6 U5 M5 ta5 tb5 tx5 ty5 ts5
    go_wp2_with (first | (refine load_G _ _ rfl _ _ rfl (ta6.old _) rfl rfl ?_) | (refine load_G _ _ rfl _ _ rfl (tb6.old _) rfl rfl ?_) | (refine load_G _ _ rfl _ _ rfl (tx6.old _) rfl rfl ?_) | (refine load_G _ _ rfl _ _ rfl (ty6.old _) rfl rfl ?_) | (refine load_G _ _ rfl _ _ rfl (ts6.old _) rfl rfl ?_) | (refine load_G _ _ rfl _ _ rfl (tt6.old _) rfl rfl ?_) | (refine load_G _ _ rfl _ _ rfl (Tb.new w6 _ _ rfl) rfl rfl ?_))
    refine AnsT.go (Hsub.out d _ _ _ (In.mono (Upd.alloc (U6.out) _) _ _ _ HI0.out) (In.mono (Upd.alloc (U6.out) _) _ _ _ HI1.out)).2 ?_
    rintro e w7 ⟨hU7, bv, dv, rfl, zv⟩
    have mv : Hid (At w7 _ _) := zv
    clear zv
    have V7 : Upd [] w6 w7 := ((Upd.refl [] w6).alloc _).trans hU7
    have ta7 := Tb.mono ta6 V7 (by simp)
    have tb7 := Tb.mono tb6 V7 (by simp)
    have tx7 := Tb.mono tx6 V7 (by simp)
    have ty7 := Tb.mono ty6 V7 (by simp)
    have ts7 := Tb.mono ts6 V7 (by simp)
    have tt7 := Tb.mono tt6 V7 (by simp)
    have tu7 := Tb.mono (Tb.new w6 #[.int .u8 K2, .bool p2, .slice bu S.length du, .string ⟨#[]⟩, .int .i64 0, .slice none 0 0, .slice none 0 0] _ rfl) hU7 (by simp)
    have ms7 : Hid (At w7 _ _) := At.mono (ms6.out) V7
    have mt7 : Hid (At w7 _ _) := At.mono (mt6.out) V7
    have mu7 : Hid (At w7 _ _) := At.mono (mu.out) V7
    have U7 : Hid (Upd [] W w7) := Upd.trans (U6.out) V7
    have M7 : Hid (Upd [] w3 w7) := Upd.trans (M6.out) V7
    clear hU7 V7 U6 M6 ta6 tb6 tx6 ty6 ts6 tt6
    go_wp2_with (first | (refine load_G _ _ rfl _ _ rfl (ta7.old _) rfl rfl ?_) | (refine load_G _ _ rfl _ _ rfl (tb7.old _) rfl rfl ?_) | (refine load_G _ _ rfl _ _ rfl (tx7.old _) rfl rfl ?_) | (refine load_G _ _ rfl _ _ rfl (ty7.old _) rfl rfl ?_) | (refine load_G _ _ rfl _ _ rfl (ts7.old _) rfl rfl ?_) | (refine load_G _ _ rfl _ _ rfl (tt7.old _) rfl rfl ?_) | (refine load_G _ _ rfl _ _ rfl (tu7.old _) rfl rfl ?_) | (refine load_G _ _ rfl _ _ rfl (Tb.new w7 _ _ rfl) rfl rfl ?_))
    refine AnsV.go (Hint.out d _ _ (KIn.plain _ _ _ (KIn.keep (Upd.alloc (M7.out) _) (fun x _ => by simp) (fun x hx => hx) _ _ _ HKx.out))).1 ?_
    rintro e w8 ⟨rfl, hU8⟩
    have V8 : Upd [] w7 w8 := ((Upd.refl [] w7).alloc _).trans hU8
    have ta8 := Tb.mono ta7 V8 (by simp)
    have tb8 := Tb.mono tb7 V8 (by simp)
    have tx8 := Tb.mono tx7 V8 (by simp)
    have ty8 := Tb.mono ty7 V8 (by simp)
    have ts8 := Tb.mono ts7 V8 (by simp)
    have tt8 := Tb.mono tt7 V8 (by simp)
    have tu8 := Tb.mono tu7 V8 (by simp)
    have tv8 := Tb.mono (Tb.new w7 #[.int .u8 K2, .bool p2, .slice bv S.length dv, .string ⟨#[]⟩, .int .i64 0, .slice none 0 0, .slice none 0 0] _ rfl) hU8 (by simp)
    have ms8 : Hid (At w8 _ _) := At.mono (ms7.out) V8
    have mt8 : Hid (At w8 _ _) := At.mono (mt7.out) V8
    have mu8 : Hid (At w8 _ _) := At.mono (mu7.out) V8
    have mv8 : Hid (At w8 _ _) := At.mono (mv.out) V8
    have U8 : Hid (Upd [] W w8) := Upd.trans (U7.out) V8
    have M8 : Hid (Upd [] w3 w8) := Upd.trans (M7.out) V8
    clear hU8 V8 U7 M7 ta7 tb7 tx7 ty7 ts7 tt7 tu7
    go_wp2_with (first | (refine load_G _ _ rfl _ _ rfl ta8 rfl rfl ?_) | (refine load_G _ _ rfl _ _ rfl tb8 rfl rfl ?_) | (refine load_G _ _ rfl _ _ rfl tx8 rfl rfl ?_) | (refine load_G _ _ rfl _ _ rfl ty8 rfl rfl ?_) | (refine load_G _ _ rfl _ _ rfl ts8 rfl rfl ?_) | (refine load_G _ _ rfl _ _ rfl tt8 rfl rfl ?_) | (refine load_G _ _ rfl _ _ rfl tu8 rfl rfl ?_) | (refine load_G _ _ rfl _ _ rfl tv8 rfl rfl ?_))
    refine AnsV.go (Hint.out d _ _ (In.mono (U8.out) _ _ _ HI0.out)).2 ?_
    rintro e w9 ⟨rfl, hU9⟩
    have V9 : Upd [] w8 w9 := hU9
    have ta9 := Tb.mono ta8 V9 (by simp)
    have tb9 := Tb.mono tb8 V9 (by simp)
    have tx9 := Tb.mono tx8 V9 (by simp)
    have ty9 := Tb.mono ty8 V9 (by simp)
    have ts9 := Tb.mono ts8 V9 (by simp)
    have tt9 := Tb.mono tt8 V9 (by simp)
    have tu9 := Tb.mono tu8 V9 (by simp)
    have tv9 := Tb.mono tv8 V9 (by simp)
    have ms9 : Hid (At w9 _ _) := At.mono (ms8.out) V9
    have mt9 : Hid (At w9 _ _) := At.mono (mt8.out) V9
    have mu9 : Hid (At w9 _ _) := At.mono (mu8.out) V9
    have mv9 : Hid (At w9 _ _) := At.mono (mv8.out) V9
    have U9 : Hid (Upd [] W w9) := Upd.trans (U8.out) V9
    have M9 : Hid (Upd [] w3 w9) := Upd.trans (M8.out) V9
    clear hU9 V9 U8 M8 ta8 tb8 tx8 ty8 ts8 tt8 tu8 tv8
    go_wp2_with (first | (refine load_G _ _ rfl _ _ rfl ta9 rfl rfl ?_) | (refine load_G _ _ rfl _ _ rfl tb9 rfl rfl ?_) | (refine load_G _ _ rfl _ _ rfl tx9 rfl rfl ?_) | (refine load_G _ _ rfl _ _ rfl ty9 rfl rfl ?_) | (refine load_G _ _ rfl _ _ rfl ts9 rfl rfl ?_) | (refine load_G _ _ rfl _ _ rfl tt9 rfl rfl ?_) | (refine load_G _ _ rfl _ _ rfl tu9 rfl rfl ?_) | (refine load_G _ _ rfl _ _ rfl tv9 rfl rfl ?_))
    have hne : Nonempty (Ext w9) := ⟨⟨w9, Upd.refl [] w9⟩⟩
    have cca0 : ∀ n : Ext w9, n.W.cell? ⟨W.heap.size, 0, none⟩ = some (.int .u8 k0) := fun n => n.cell (ta9.cell 0)
    have cca1 : ∀ n : Ext w9, n.W.cell? ⟨W.heap.size, 1, none⟩ = some (.bool neg0) := fun n => n.cell (ta9.cell 1)
    have cca2 : ∀ n : Ext w9, n.W.cell? ⟨W.heap.size, 2, none⟩ = some (.slice a0 L0.length c0) := fun n => n.cell (ta9.cell 2)
    have cca3 : ∀ n : Ext w9, n.W.cell? ⟨W.heap.size, 3, none⟩ = some (.string s0) := fun n => n.cell (ta9.cell 3)
    have cca4 : ∀ n : Ext w9, n.W.cell? ⟨W.heap.size, 4, none⟩ = some (.int .i64 num0) := fun n => n.cell (ta9.cell 4)
    have cca5 : ∀ n : Ext w9, n.W.cell? ⟨W.heap.size, 5, none⟩ = some (.slice ai0 ni0 ci0) := fun n => n.cell (ta9.cell 5)
    have cca6 : ∀ n : Ext w9, n.W.cell? ⟨W.heap.size, 6, none⟩ = some (.slice at0 nt0 ct0) := fun n => n.cell (ta9.cell 6)
    have ccb0 : ∀ n : Ext w9, n.W.cell? ⟨W.heap.size + 1, 0, none⟩ = some (.int .u8 k1) := fun n => n.cell (tb9.cell 0)
    have ccb1 : ∀ n : Ext w9, n.W.cell? ⟨W.heap.size + 1, 1, none⟩ = some (.bool neg1) := fun n => n.cell (tb9.cell 1)
    have ccb2 : ∀ n : Ext w9, n.W.cell? ⟨W.heap.size + 1, 2, none⟩ = some (.slice a1 L1.length c1) := fun n => n.cell (tb9.cell 2)
    have ccb3 : ∀ n : Ext w9, n.W.cell? ⟨W.heap.size + 1, 3, none⟩ = some (.string s1) := fun n => n.cell (tb9.cell 3)
    have ccb4 : ∀ n : Ext w9, n.W.cell? ⟨W.heap.size + 1, 4, none⟩ = some (.int .i64 num1) := fun n => n.cell (tb9.cell 4)
    have ccb5 : ∀ n : Ext w9, n.W.cell? ⟨W.heap.size + 1, 5, none⟩ = some (.slice ai1 ni1 ci1) := fun n => n.cell (tb9.cell 5)
    have ccb6 : ∀ n : Ext w9, n.W.cell? ⟨W.heap.size + 1, 6, none⟩ = some (.slice at1 nt1 ct1) := fun n => n.cell (tb9.cell 6)
    have ccx0 : ∀ n : Ext w9, n.W.cell? ⟨g, 0, none⟩ = some (x0) := fun n => n.cell (tx9.cell 0)
    have ccx1 : ∀ n : Ext w9, n.W.cell? ⟨g, 1, none⟩ = some (x1) := fun n => n.cell (tx9.cell 1)
    have ccx2 : ∀ n : Ext w9, n.W.cell? ⟨g, 2, none⟩ = some (x2) := fun n => n.cell (tx9.cell 2)
    have ccx3 : ∀ n : Ext w9, n.W.cell? ⟨g, 3, none⟩ = some (x3) := fun n => n.cell (tx9.cell 3)
    have ccx4 : ∀ n : Ext w9, n.W.cell? ⟨g, 4, none⟩ = some (x4) := fun n => n.cell (tx9.cell 4)
    have ccx5 : ∀ n : Ext w9, n.W.cell? ⟨g, 5, none⟩ = some (x5) := fun n => n.cell (tx9.cell 5)
    have ccx6 : ∀ n : Ext w9, n.W.cell? ⟨g, 6, none⟩ = some (x6) := fun n => n.cell (tx9.cell 6)
    have ccy0 : ∀ n : Ext w9, n.W.cell? ⟨h, 0, none⟩ = some (y0) := fun n => n.cell (ty9.cell 0)
    have ccy1 : ∀ n : Ext w9, n.W.cell? ⟨h, 1, none⟩ = some (y1) := fun n => n.cell (ty9.cell 1)
    have ccy2 : ∀ n : Ext w9, n.W.cell? ⟨h, 2, none⟩ = some (y2) := fun n => n.cell (ty9.cell 2)
    have ccy3 : ∀ n : Ext w9, n.W.cell? ⟨h, 3, none⟩ = some (y3) := fun n => n.cell (ty9.cell 3)
    have ccy4 : ∀ n : Ext w9, n.W.cell? ⟨h, 4, none⟩ = some (y4) := fun n => n.cell (ty9.cell 4)
    have ccy5 : ∀ n : Ext w9, n.W.cell? ⟨h, 5, none⟩ = some (y5) := fun n => n.cell (ty9.cell 5)
    have ccy6 : ∀ n : Ext w9, n.W.cell? ⟨h, 6, none⟩ = some (y6) := fun n => n.cell (ty9.cell 6)
    have ccs0 : ∀ n : Ext w9, n.W.cell? ⟨w4.heap.size, 0, none⟩ = some (.int .u8 K1) := fun n => n.cell (ts9.cell 0)
    have ccs1 : ∀ n : Ext w9, n.W.cell? ⟨w4.heap.size, 1, none⟩ = some (.bool p1) := fun n => n.cell (ts9.cell 1)
    have ccs2 : ∀ n : Ext w9, n.W.cell? ⟨w4.heap.size, 2, none⟩ = some (.slice bs P.length ds) := fun n => n.cell (ts9.cell 2)
    have ccs3 : ∀ n : Ext w9, n.W.cell? ⟨w4.heap.size, 3, none⟩ = some (.string ⟨#[]⟩) := fun n => n.cell (ts9.cell 3)
    have ccs4 : ∀ n : Ext w9, n.W.cell? ⟨w4.heap.size, 4, none⟩ = some (.int .i64 0) := fun n => n.cell (ts9.cell 4)
    have ccs5 : ∀ n : Ext w9, n.W.cell? ⟨w4.heap.size, 5, none⟩ = some (.slice none 0 0) := fun n => n.cell (ts9.cell 5)
    have ccs6 : ∀ n : Ext w9, n.W.cell? ⟨w4.heap.size, 6, none⟩ = some (.slice none 0 0) := fun n => n.cell (ts9.cell 6)
    have cct0 : ∀ n : Ext w9, n.W.cell? ⟨w5.heap.size, 0, none⟩ = some (.int .u8 K1) := fun n => n.cell (tt9.cell 0)
    have cct1 : ∀ n : Ext w9, n.W.cell? ⟨w5.heap.size, 1, none⟩ = some (.bool p1) := fun n => n.cell (tt9.cell 1)
    have cct2 : ∀ n : Ext w9, n.W.cell? ⟨w5.heap.size, 2, none⟩ = some (.slice bt P.length dt) := fun n => n.cell (tt9.cell 2)
    have cct3 : ∀ n : Ext w9, n.W.cell? ⟨w5.heap.size, 3, none⟩ = some (.string ⟨#[]⟩) := fun n => n.cell (tt9.cell 3)
    have cct4 : ∀ n : Ext w9, n.W.cell? ⟨w5.heap.size, 4, none⟩ = some (.int .i64 0) := fun n => n.cell (tt9.cell 4)
    have cct5 : ∀ n : Ext w9, n.W.cell? ⟨w5.heap.size, 5, none⟩ = some (.slice none 0 0) := fun n => n.cell (tt9.cell 5)
    have cct6 : ∀ n : Ext w9, n.W.cell? ⟨w5.heap.size, 6, none⟩ = some (.slice none 0 0) := fun n => n.cell (tt9.cell 6)
    have ccu0 : ∀ n : Ext w9, n.W.cell? ⟨w6.heap.size, 0, none⟩ = some (.int .u8 K2) := fun n => n.cell (tu9.cell 0)
    have ccu1 : ∀ n : Ext w9, n.W.cell? ⟨w6.heap.size, 1, none⟩ = some (.bool p2) := fun n => n.cell (tu9.cell 1)
    have ccu2 : ∀ n : Ext w9, n.W.cell? ⟨w6.heap.size, 2, none⟩ = some (.slice bu S.length du) := fun n => n.cell (tu9.cell 2)
    have ccu3 : ∀ n : Ext w9, n.W.cell? ⟨w6.heap.size, 3, none⟩ = some (.string ⟨#[]⟩) := fun n => n.cell (tu9.cell 3)
    have ccu4 : ∀ n : Ext w9, n.W.cell? ⟨w6.heap.size, 4, none⟩ = some (.int .i64 0) := fun n => n.cell (tu9.cell 4)
    have ccu5 : ∀ n : Ext w9, n.W.cell? ⟨w6.heap.size, 5, none⟩ = some (.slice none 0 0) := fun n => n.cell (tu9.cell 5)
    have ccu6 : ∀ n : Ext w9, n.W.cell? ⟨w6.heap.size, 6, none⟩ = some (.slice none 0 0) := fun n => n.cell (tu9.cell 6)
    have ccv0 : ∀ n : Ext w9, n.W.cell? ⟨w7.heap.size, 0, none⟩ = some (.int .u8 K2) := fun n => n.cell (tv9.cell 0)
    have ccv1 : ∀ n : Ext w9, n.W.cell? ⟨w7.heap.size, 1, none⟩ = some (.bool p2) := fun n => n.cell (tv9.cell 1)
    have ccv2 : ∀ n : Ext w9, n.W.cell? ⟨w7.heap.size, 2, none⟩ = some (.slice bv S.length dv) := fun n => n.cell (tv9.cell 2)
    have ccv3 : ∀ n : Ext w9, n.W.cell? ⟨w7.heap.size, 3, none⟩ = some (.string ⟨#[]⟩) := fun n => n.cell (tv9.cell 3)
    have ccv4 : ∀ n : Ext w9, n.W.cell? ⟨w7.heap.size, 4, none⟩ = some (.int .i64 0) := fun n => n.cell (tv9.cell 4)
    have ccv5 : ∀ n : Ext w9, n.W.cell? ⟨w7.heap.size, 5, none⟩ = some (.slice none 0 0) := fun n => n.cell (tv9.cell 5)
    have ccv6 : ∀ n : Ext w9, n.W.cell? ⟨w7.heap.size, 6, none⟩ = some (.slice none 0 0) := fun n => n.cell (tv9.cell 6)
    have HC1 : Hid (∀ n : Ext w9, _) := fun n => SameTerm_same K1 p1 bs none none bt none none ds 0 0 dt 0 0 P n.W (by have := hP2.out; omega) (At.mono (ms9.out) n.h) (At.mono (mt9.out) n.h)
    have HC2 : Hid (∀ n : Ext w9, _) := fun n => SameTerm_same K2 p2 bu none none bv none none du 0 0 dv 0 0 S n.W (by have := hS2.out; omega) (At.mono (mu9.out) n.h) (At.mono (mv9.out) n.h)
    have HC3 : Hid (∀ n : Ext w9, _) := fun n => AnsV.at (Hcmp.out d n.W _ _ (KIn.plain _ _ _ (KIn.keep ((M9.out).trans n.h) (fun x _ => by simp) (fun x hx => hx) _ _ _ HKx.out)) (KIn.plain _ _ _ (KIn.keep ((M9.out).trans n.h) (fun x _ => by simp) (fun x hx => hx) _ _ _ HKy.out))).1
    have HC4 : Hid (∀ n : Ext w9, _) := fun n => AnsV.at (Hcmp.out d n.W _ _ (In.mono ((U9.out).trans n.h) _ _ _ HI0.out) (In.mono ((U9.out).trans n.h) _ _ _ HI1.out)).2
    have HC5 : Hid (∀ n : Ext w9, _) := fun n => AnsV.at (Hrgt.out d n.W _ (KIn.plain _ _ _ (KIn.keep ((M9.out).trans n.h) (fun x _ => by simp) (fun x hx => hx) _ _ _ HKx.out))).1
    have HC6 : Hid (∀ n : Ext w9, _) := fun n => AnsV.at (Hrgt.out d n.W _ (In.mono ((U9.out).trans n.h) _ _ _ HI0.out)).2
    have HC7 : Hid (∀ n : Ext w9, _) := fun n => KeptTerm_in d n.W _ _ t0 PX (KIn.keep ((M9.out).trans n.h) (fun x _ => by simp) (fun x hx => hx) _ _ _ HKx.out) (In.mono ((U9.out).trans n.h) _ _ _ HI0.out) HZ0.out
    have HC8 : Hid (∀ n : Ext w9, _) := fun n => KeptTerm_in d n.W _ _ t1 PY (KIn.keep ((M9.out).trans n.h) (fun x _ => by simp) (fun x hx => hx) _ _ _ HKy.out) (In.mono ((U9.out).trans n.h) _ _ _ HI1.out) HZ1.out
    clear ta9 tb9 tx9 ty9 ts9 tt9 tu9 tv9 ms9 mt9 mu9 mv9
    refine wp_region_ext (by kernel_rfl) (by kernel_rfl) ?_
    repeat (go_big_quiet_step (first | (go_at_call_of 18 (Value.slice bs P.length ds); exact Ext.call (HC1.out _)) | (go_at_call_of 18 (Value.slice bu S.length du); exact Ext.call (HC2.out _)) | (go_at_call 19; exact Ext.call (HC3.out _)) | (go_at_call 20; exact Ext.call (HC4.out _)) | (go_at_call 21; exact Ext.call (HC5.out _)) | (go_at_call 22; exact Ext.call (HC6.out _)) | (go_at_call_of 23 (Value.slice a0 L0.length c0); exact Ext.call (HC7.out _)) | (go_at_call_of 23 (Value.slice a1 L1.length c1); exact Ext.call (HC8.out _))))
    refine wpQuiet_nil ?_
    intro _ hw'
    obtain ⟨nx, hw''⟩ := hw'
    subst hw''
    go_wp2
    go_ret
    exact ⟨rfl, (U9.out).trans nx.h⟩

end Go.Proofs.YtpjlhpopoacjdaaDoor
