/- Texts and numbers: what both sides answer. -/
import Derived.Test.YtpeganecbjefoaaDoorRefNo
import Derived.Test.YtpeganecbjefoaaDoorRefTx
import Derived.Test.YtpeganecbjefoaaDoorRefPB
namespace Go.Proofs.YtpeganecbjefoaaDoor
open Go.RowKit

set_option maxHeartbeats 1000000 in
set_option maxRecDepth 100000 in
theorem rText_bad (k num : Int) (neg : Bool) (L : List Nat) (s : ByteArray) (a ai at' : Option Addr) (c ni ci nt ct : Nat) (w : World) (hn2 : L.length ≤ 9223372036854775807) (HL : At w a L) (hni : ni ≤ 9223372036854775807) (hnt : nt ≤ 9223372036854775807) (hbad : okT k neg L s num ni nt = false) :
    Calls Tryd.prog 31 #[.agg #[.int .u8 k, .bool neg, .slice a L.length c, .string s, .int .i64 num, .slice ai ni ci, .slice at' nt ct]] w fun e w' => e = .returned (.string ⟨#[]⟩) ∧ Upd [] w w' := by
  have HR := rRight_any k num neg L s a ai at' c ni ci nt ct (w.alloc (.cells #[.int .u8 k, .bool neg, .slice a L.length c, .string s, .int .i64 num, .slice ai ni ci, .slice at' nt ct] 26)) hn2 (HL.mono ((Upd.refl [] w).alloc _)) hni hnt
  rw [hbad] at HR
  clear hbad HL
  go_enter Tryd.func31, Tryd.ntmps31
  go_wp2_with fail
  refine HR.mono ?_
  rintro e w1 ⟨rfl, rfl⟩
  go_wp2
  go_ret
  exact ⟨rfl, by repeat (first | exact Upd.refl _ _ | refine Upd.alloc ?_ _)⟩

theorem NormD.ex (n : Nat) (hn : n ≠ 0) : ∃ D, NormD D n := by
  induction n using Nat.strongRecOn with
  | ind n ih =>
    by_cases h : n < 10
    · exact ⟨[48 + n], ⟨fun c hc => by simp at hc; omega, by simp [dval], fun x hx => by simp at hx; omega⟩⟩
    · obtain ⟨D, hD⟩ := ih (n / 10) (Nat.div_lt_self (by omega) (by decide)) (by omega)
      have hne : D ≠ [] := fun e => by
        have := hD.eq
        rw [e] at this
        simp [dval] at this
        omega
      refine ⟨(48 + n % 10) :: D, ⟨fun c hc => ?_, by simp only [dval]; rw [hD.eq]; omega, fun x hx => ?_⟩⟩
      · rcases List.mem_cons.1 hc with h1 | h1
        · omega
        · exact hD.dig c h1
      · rw [List.getLast?_cons, List.getLast?_eq_some_getLast hne] at hx
        simp at hx
        exact hD.top x (by rw [List.getLast?_eq_some_getLast hne, hx])
theorem IsText.ex (z : Int) : ∃ T, IsText T z := by
  by_cases h : z.natAbs = 0
  · exact ⟨[48], [48], by rw [if_neg (by omega)], Or.inl ⟨h, rfl⟩⟩
  · obtain ⟨D, hD⟩ := NormD.ex z.natAbs h
    exact ⟨_, D.reverse, rfl, Or.inr ⟨h, by rw [List.reverse_reverse]; exact hD⟩⟩

/-- What a call that answers a text answers, wherever it is called. -/
def PX (F : Nat) (args : Array Value) (W : World) (s : ByteArray) : Prop := ∀ V, Upd [] W V → Calls Tryd.prog F args V fun e w' => e = .returned (.string s) ∧ Upd [] V w'

theorem text_pair (k num : Int) (neg : Bool) (L : List Nat) (s : ByteArray) (a ai at' : Option Addr) (c ni ci nt ct : Nat) (w : World) (hn2 : L.length ≤ 9223372036854775807) (HL : At w a L) (hni : ni ≤ 9223372036854775807) (hnt : nt ≤ 9223372036854775807) (dL : Dig L) :
    ∃ t, PX 30 #[.agg #[.int .u8 k, .bool neg, .slice a L.length c, .string s, .int .i64 num, .slice ai ni ci, .slice at' nt ct]] w t ∧ PX 31 #[.agg #[.int .u8 k, .bool neg, .slice a L.length c, .string s, .int .i64 num, .slice ai ni ci, .slice at' nt ct]] w t := by
  cases ha : okT k neg L s num ni nt
  · exact ⟨⟨#[]⟩, fun V hu => Text_bad k num neg L s a ai at' c ni ci nt ct V hn2 (HL.mono hu) hni hnt ha, fun V hu => rText_bad k num neg L s a ai at' c ni ci nt ct V hn2 (HL.mono hu) hni hnt ha⟩
  · obtain ⟨rfl, rfl, rfl, rfl, rfl, T0⟩ := okT_elim ha dL HL
    obtain ⟨T, hT⟩ := IsText.ex (sg neg (val L))
    refine ⟨bs T, fun V hu => (Text_any a ai at' c ci ct neg L _ V (T0.mono hu)).mono ?_, fun V hu => (rText_core a ai at' c ci ct neg L _ V (T0.mono hu)).mono ?_⟩
    · rintro e w' ⟨hU, T', rfl, hT'⟩
      exact ⟨by rw [hT'.uniq hT], hU⟩
    · rintro e w' ⟨hU, T', rfl, hT'⟩
      exact ⟨by rw [hT'.uniq hT], hU⟩

/-- What a call that answers one integer alone answers. -/
def PO (F : Nat) (args : Array Value) (neg : Bool) (L : List Nat) : Prop := ∀ V, Calls Tryd.prog F args V fun e w' => Upd [] V w' ∧ ∃ a c, e = .returned (.agg #[.int .u8 1, .bool neg, .slice a L.length c, .string ⟨#[]⟩, .int .i64 0, .slice none 0 0, .slice none 0 0]) ∧ At w' a L
theorem PO.res {F : Nat} {args : Array Value} {z : Int} {L : List Nat} (hL : Norm L z.natAbs) (h : ∀ V, Calls Tryd.prog F args V fun e w' => Upd [] V w' ∧ ∃ neg a c M, e = .returned (.agg #[.int .u8 1, .bool neg, .slice a M.length c, .string ⟨#[]⟩, .int .i64 0, .slice none 0 0, .slice none 0 0]) ∧ TI w' neg a M z) : PO F args (decide (z < 0)) L := fun V => (h V).mono fun e w' ⟨hU, ng, a, c, M, he, hT⟩ => by
  have e1 := hT.norm.uniq hL
  have e2 := hT.sgn
  subst e1 e2
  exact ⟨hU, a, c, he, hT.mem⟩
theorem of_pair (n : Int) (hb : -9223372036854775808 ≤ n ∧ n ≤ 9223372036854775807) : ∃ neg L, L.length ≤ 32 ∧ PO 32 #[.int .i64 n] neg L ∧ PO 33 #[.int .i64 n] neg L := by
  obtain ⟨L, hL⟩ := Norm.ex n.natAbs
  refine ⟨_, L, (hL.len_le 32).2 ?_, PO.res hL fun V => Of_any n V hb, PO.res hL fun V => rOf_any n V hb⟩
  exact Nat.lt_of_lt_of_le (show n.natAbs < 18446744073709551616 by omega) (by decide +kernel)

/-- Many digits come to more than there is room for. -/
theorem big_digits {H : List Nat} (hd : IsDig H) (hl : 400 < H.length) (hf : H.getD 0 0 ≠ 48) : ¬ dval H.reverse < 4294967296 ^ 32 := fun h => by
  cases H with
  | nil => simp at hl
  | cons c t =>
    have hc := hd c List.mem_cons_self
    have hcc : c ≠ 48 := by simpa using hf
    rw [List.reverse_cons, dval_append] at h
    have h2 : dval [c] = c - 48 := by simp [dval]
    rw [h2] at h
    have h3 : 10 ^ t.reverse.length * 1 ≤ 10 ^ t.reverse.length * (c - 48) := Nat.mul_le_mul_left _ (by omega)
    have h4 : (4294967296 : Nat) ^ 32 < 10 ^ 309 := by decide +kernel
    have h5 : 10 ^ t.reverse.length < 10 ^ 309 := by
      rw [Nat.mul_one] at h3
      exact Nat.lt_of_le_of_lt (Nat.le_trans h3 (Nat.le_add_left _ _)) (Nat.lt_trans h h4)
    have h6 := (Nat.pow_lt_pow_iff_right (a := 10) (by decide)).1 h5
    rw [List.length_reverse] at h6
    rw [List.length_cons] at hl; omega

theorem PT.pout_bad {F : Nat} {args : Array Value} {W : World} {neg : Bool} {H : List Nat} (hd : ¬ IsDig H) (h : ∀ V, Calls Tryd.prog F args V fun e w' => POut w' e neg H ∧ Upd [] V w') : PT F args W 0 false [] false :=
  PT.zero fun V _ => (h V).mono fun _ _ ⟨hP, hU⟩ => ⟨hP.elim (fun x => x.2) (fun x => absurd x.1 hd), hU⟩
theorem PT.pout_big {F : Nat} {args : Array Value} {W : World} {neg : Bool} {H : List Nat} (hd : ¬ dval H.reverse < 4294967296 ^ 32) (h : ∀ V, Calls Tryd.prog F args V fun e w' => POut w' e neg H ∧ Upd [] V w') : PT F args W 0 false [] false :=
  PT.zero fun V _ => (h V).mono fun _ _ ⟨hP, hU⟩ => ⟨hP.elim (fun x => x.2) (fun x => (x.2.resolve_left (fun k => hd (by have := k.1; rwa [sg_abs] at this))).2), hU⟩
theorem PT.pout {F : Nat} {args : Array Value} {W : World} {neg : Bool} {H L : List Nat} (hd : IsDig H) (hz : dval H.reverse < 4294967296 ^ 32) (hL : Norm L (dval H.reverse)) (h : ∀ V, Calls Tryd.prog F args V fun e w' => POut w' e neg H ∧ Upd [] V w') : PT F args W 1 (decide (sg neg (dval H.reverse) < 0)) L true :=
  PT.res (by rw [sg_abs]; exact hz) (by rw [sg_abs]; exact hL) fun V _ => (h V).mono fun _ _ ⟨hP, hU⟩ => ⟨hP.elim (fun x => absurd hd x.1) (fun x => x.2), hU⟩
/-- Two calls that tell the same of digits answer the same. -/
theorem pout_pair {F G : Nat} {args : Array Value} (W : World) {neg : Bool} {H : List Nat} (h : ∀ V, Calls Tryd.prog F args V fun e w' => POut w' e neg H ∧ Upd [] V w') (k : ∀ V, Calls Tryd.prog G args V fun e w' => POut w' e neg H ∧ Upd [] V w') :
    ∃ K ng L ok, L.length ≤ 32 ∧ PT F args W K ng L ok ∧ PT G args W K ng L ok := by
  by_cases hd : IsDig H
  · by_cases hz : dval H.reverse < 4294967296 ^ 32
    · obtain ⟨L, hL⟩ := Norm.ex (dval H.reverse)
      exact ⟨1, _, L, true, (hL.len_le 32).2 hz, PT.pout hd hz hL h, PT.pout hd hz hL k⟩
    · exact ⟨0, false, [], false, by simp, PT.pout_big hz h, PT.pout_big hz k⟩
  · exact ⟨0, false, [], false, by simp, PT.pout_bad hd h, PT.pout_bad hd k⟩

theorem bs_of (s : ByteArray) : ∃ T : List Nat, s = bs T ∧ ∀ c, c ∈ T → c < 256 := by
  refine ⟨s.data.toList.map UInt8.toNat, ?_, fun c hc => ?_⟩
  · apply bytes_ext
    rw [bs_data, List.map_map]
    rw [show (fun n => UInt8.ofNat n) ∘ UInt8.toNat = id from funext fun x => by simp]
    simp
  · obtain ⟨x, _, rfl⟩ := List.mem_map.1 hc
    exact x.toNat_lt
set_option maxHeartbeats 400000 in
set_option maxRecDepth 100000 in
theorem HasPrefix_nil (w : World) :
    Calls Tryd.prog 85 #[.string ⟨#[]⟩, .string ⟨#[45]⟩] w fun e w' => e = .returned (.bool false) ∧ w' = w := by
  go_enter Tryd.func85, Tryd.ntmps85
  go_wp2
  go_ret
  exact ⟨rfl, rfl⟩
set_option maxHeartbeats 400000 in
set_option maxRecDepth 100000 in
theorem Cut_nil (w : World) :
    Calls Tryd.prog 56 #[.string ⟨#[]⟩, .string ⟨#[45]⟩] w fun e w' => w' = w ∧ e = .returned (.tuple #[.string ⟨#[]⟩, .bool false]) := by
  have HP : Hid (Calls _ _ _ _ _) := HasPrefix_nil w
  go_enter Tryd.func56, Tryd.ntmps56
  go_wp2_with (first | (go_at_call 85; refine (Hid.out HP).mono ?_; rintro e w1 ⟨rfl, rfl⟩) | go_in)
  go_ret2
  exact ⟨rfl, rfl⟩

theorem zero_pair {F G : Nat} {args : Array Value} (W : World) (h : ∀ V, Calls Tryd.prog F args V fun e w' => e = .returned (.tuple #[(.agg #[.int .u8 0, .bool false, .slice none 0 0, .string ⟨#[]⟩, .int .i64 0, .slice none 0 0, .slice none 0 0]), .bool false]) ∧ Upd [] V w') (k : ∀ V, Calls Tryd.prog G args V fun e w' => e = .returned (.tuple #[(.agg #[.int .u8 0, .bool false, .slice none 0 0, .string ⟨#[]⟩, .int .i64 0, .slice none 0 0, .slice none 0 0]), .bool false]) ∧ Upd [] V w') :
    ∃ K ng L ok, L.length ≤ 32 ∧ PT F args W K ng L ok ∧ PT G args W K ng L ok := ⟨0, false, [], false, by simp, PT.zero fun V _ => h V, PT.zero fun V _ => k V⟩
/-- The one tells that there is no room, the other that it is none's text. -/
theorem long_pair {F G : Nat} {args : Array Value} (W : World) {neg : Bool} {H : List Nat} (hl : 400 < H.length) (hf : H.getD 0 0 ≠ 48) (h : ∀ V, Calls Tryd.prog F args V fun e w' => POut w' e neg H ∧ Upd [] V w') (k : ∀ V, Calls Tryd.prog G args V fun e w' => e = .returned (.tuple #[(.agg #[.int .u8 0, .bool false, .slice none 0 0, .string ⟨#[]⟩, .int .i64 0, .slice none 0 0, .slice none 0 0]), .bool false]) ∧ Upd [] V w') :
    ∃ K ng L ok, L.length ≤ 32 ∧ PT F args W K ng L ok ∧ PT G args W K ng L ok := by
  refine ⟨0, false, [], false, by simp, ?_, PT.zero fun V _ => k V⟩
  by_cases hd : IsDig H
  · exact PT.pout_big (big_digits hd hl hf) h
  · exact PT.pout_bad hd h

theorem bs_at (T : List Nat) (h256 : ∀ c, c ∈ T → c < 256) : ∀ k (h : k < (bs T).size), ((bs T)[k]'h).toNat = T.getD k 0 := fun k h => bs_get T h256 k h
theorem bs_ne48 (c : Nat) (t : List Nat) (hc : c < 256) (h : ¬ (c = 48 ∧ t = [])) : ((bs (c :: t)).toList == [48]) = false := by
  rw [Bool.eq_false_iff]
  intro e
  rw [beq_iff_eq] at e
  have h1 : (bs (c :: t)).data.toList = [48] := by rw [← Lib.toList_data]; exact e
  rw [bs_data] at h1
  simp only [List.map_cons, List.cons.injEq, List.map_eq_nil_iff] at h1
  refine h ⟨?_, h1.2⟩
  have := congrArg UInt8.toNat h1.1
  simp at this
  omega

/-- Parse and its reference answer the same, of whatever text. -/
theorem parse_pair (s : ByteArray) (hs : s.size ≤ 420) (W : World) : ∃ K ng L ok, L.length ≤ 32 ∧ PT 28 #[.string s] W K ng L ok ∧ PT 29 #[.string s] W K ng L ok := by
  obtain ⟨T, rfl, h256⟩ := bs_of s
  rw [bs_size] at hs
  cases T with
  | nil => exact zero_pair W (fun V => Parse_empty _ false V Cut_nil) (fun V => rNo_empty V)
  | cons c t =>
    have hc := h256 c List.mem_cons_self
    have ht : ∀ c, c ∈ t → c < 256 := fun c hc => h256 c (List.mem_cons_of_mem _ hc)
    have hsz : (bs (c :: t)).size = t.length + 1 := by rw [bs_size]; rfl
    have hhead := bs_head c t hc
    rw [List.length_cons] at hs
    by_cases h45 : c = 45
    · subst h45
      have hcut : ∀ V, Calls Tryd.prog 56 #[.string (bs (45 :: t)), .string ⟨#[45]⟩] V fun e w' => w' = V ∧ e = .returned (.tuple #[.string (bs t), .bool true]) := fun V => by
        refine (Cut_any (bs (45 :: t)) V (by omega) (by omega)).mono ?_
        rintro e w' ⟨h0, ⟨_, h2⟩ | ⟨h1, _⟩⟩
        · exact ⟨h0, by rw [h2, bs_cut]⟩
        · rw [hhead] at h1; simp at h1
      have hs0 : 0 < (bs (45 :: t)).size := by omega
      have hc0 : ((bs (45 :: t))[0]'hs0).toNat = 45 := bs_at (45 :: t) h256 0 hs0
      have hsd := bs_cut t
      cases t with
      | nil => exact zero_pair W (fun V => Parse_empty _ true V hcut) (fun V => rNo_minus _ V hsz hs0 hc0 hsd)
      | cons x r =>
        have hdsz : (bs (x :: r)).size = (x :: r).length := bs_size _
        have hd0 : 0 < (bs (x :: r)).size := by rw [hdsz]; simp
        have hx0 := bs_at (x :: r) ht 0 hd0
        by_cases hx : x = 48
        · subst hx
          have hne := bs_ne48 45 (48 :: r) (by omega) (by simp)
          by_cases hl : 400 < (48 :: r).length
          · exact zero_pair W (fun V => Parse_lead _ _ true V (by omega) hd0 hx0 hne hcut) (fun V => rNo_longN _ _ V (by omega) (by simp at hdsz hs; omega) (by omega) hs0 hc0 hsd)
          · exact zero_pair W (fun V => Parse_lead _ _ true V (by omega) hd0 hx0 hne hcut) (fun V => rNo_leadN _ _ V (by omega) hd0 hx0 (by omega) hs0 hc0 hsd)
        · have hf : (x :: r).getD 0 0 ≠ 48 := by simpa using hx
          have hg : ∀ V, Calls Tryd.prog 28 #[.string (bs (45 :: x :: r))] V fun e w' => POut w' e true (x :: r) ∧ Upd [] V w' := fun V => Parse_gen _ (bs (x :: r)) (x :: r) true V (by omega) (by omega) hdsz (bs_at _ ht) (by simp) (by simp at hs ⊢; omega) hcut hf
          by_cases hl : 400 < (x :: r).length
          · exact long_pair W hl hf hg (fun V => rNo_longN _ _ V (by omega) (by simp at hdsz hs; omega) (by omega) hs0 hc0 hsd)
          · exact pout_pair W hg (fun V => rParse_neg (bs (x :: r)) (x :: r) V hdsz (bs_at _ ht) (by simp) (by omega) _ (by omega) hs0 hc0 hsd hf)
    · have hcut : ∀ V, Calls Tryd.prog 56 #[.string (bs (c :: t)), .string ⟨#[45]⟩] V fun e w' => w' = V ∧ e = .returned (.tuple #[.string (bs (c :: t)), .bool false]) := fun V => by
        refine (Cut_any (bs (c :: t)) V (by omega) (by omega)).mono ?_
        rintro e w' ⟨h0, ⟨h1, _⟩ | ⟨_, h2⟩⟩
        · rw [hhead] at h1; simp at h1; exact absurd h1 h45
        · exact ⟨h0, h2⟩
      have hdsz : (bs (c :: t)).size = (c :: t).length := bs_size _
      have hs0 : 0 < (bs (c :: t)).size := by omega
      have hx0 : ((bs (c :: t))[0]'hs0).toNat = c := bs_at (c :: t) h256 0 hs0
      by_cases h48 : c = 48
      · subst h48
        by_cases ht0 : t = []
        · subst ht0
          have hdig : IsDig [48] := fun c hc => by simp at hc; omega
          have hP : ∀ V, Calls Tryd.prog 28 #[.string (bs [48])] V fun e w' => POut w' e false [48] ∧ Upd [] V w' := fun V => (Parse_any [48] 0 V ⟨[48], by simp, Or.inl ⟨rfl, rfl⟩⟩ (by decide +kernel)).mono fun e w' ⟨hR, hU⟩ => ⟨Or.inr ⟨hdig, by rw [show sg false (dval [48].reverse) = 0 from rfl]; exact hR⟩, hU⟩
          exact pout_pair W hP (fun V => rParse_one (bs [48]) [48] V hdsz (bs_at _ h256) (by simp) (by simp) rfl rfl)
        · have hne := bs_ne48 48 t (by omega) (fun h => ht0 h.2)
          have hl1 : 1 < (48 :: t).length := by cases t with | nil => exact absurd rfl ht0 | cons x r => simp
          by_cases hl : 400 < (48 :: t).length
          · exact zero_pair W (fun V => Parse_lead _ _ false V (by omega) hs0 hx0 hne hcut) (fun V => rNo_longP _ V 48 (by omega) (by omega) hs0 hx0 (by omega))
          · exact zero_pair W (fun V => Parse_lead _ _ false V (by omega) hs0 hx0 hne hcut) (fun V => rNo_leadP _ V (by omega) (by omega) hs0 hx0)
      · have hf : (c :: t).getD 0 0 ≠ 48 := by simpa using h48
        have hg : ∀ V, Calls Tryd.prog 28 #[.string (bs (c :: t))] V fun e w' => POut w' e false (c :: t) ∧ Upd [] V w' := fun V => Parse_gen _ (bs (c :: t)) (c :: t) false V (by omega) (by omega) hdsz (bs_at _ h256) (by simp) (by simp; omega) hcut hf
        by_cases hl : 400 < (c :: t).length
        · exact long_pair W hl hf hg (fun V => rNo_longP _ V c (by omega) (by omega) hs0 hx0 h45)
        · exact pout_pair W hg (fun V => rParse_pos (bs (c :: t)) (c :: t) V hdsz (bs_at _ h256) (by simp) (by omega) hf (by simpa using h45))

end Go.Proofs.YtpeganecbjefoaaDoor
