/- What the order of right terms is like, said for the statement. -/
import Derived.Test.YtabknipgbmdipaaGreatDoorAwkT
import Derived.Test.YtabknipgbmdipaaGreatDoorJAL
import Derived.Test.YtabknipgbmdipaaGreatDoorJAS
import Derived.Test.YtabknipgbmdipaaGreatDoorJAR

namespace Go.Proofs.YtabknipgbmdipaaGreatDoor
open Go.RowKit

theorem digR_of (I : List Tm) (h : ∀ i (hi : i < I.length), digT I[i]) : digR I := by
  induction I with
  | nil => trivial
  | cons t r ih =>
    refine ⟨h 0 (by simp), ih fun i hi => ?_⟩
    have := h (i + 1) (by simpa using hi)
    simpa using this
theorem In.dig {w : World} : ∀ (d : Nat) (cs : List Value) (t : Tm), In w d cs t → digT t := by
  intro d
  induction d with
  | zero => intro cs t h; exact h.elim
  | succ d ih =>
    intro cs t h
    cases t with
    | mk k num neg L s I T =>
      obtain ⟨a, ai, at', c, ci, ct, rfl, h1, h2, h3, h4⟩ := h
      have row : ∀ (a : Option Addr) (I : List Tm), RowAt (In w d) w a I → digR I := by
        intro a I h
        rcases h with rfl | ⟨b, o, e, hlt, hc⟩
        · trivial
        · refine digR_of I fun i hi => ?_
          obtain ⟨cs, _, _, h⟩ := hc i hi
          exact ih _ _ h
      exact ⟨h2, row _ _ h3, row _ _ h4⟩

end Go.Proofs.YtabknipgbmdipaaGreatDoor

/- Text of whatever term, by its contract. -/
namespace Go.Proofs.YtabknipgbmdipaaGreatDoor
open Go.RowKit

/-- What Text tells. -/
noncomputable def txS (t : Tm) : List UInt8 := if okS t then txT t else []
set_option maxHeartbeats 4000000 in
set_option maxRecDepth 100000 in
theorem TText_bad (d : Nat) (w : World) (cs : List Value) (t : Tm) (h : In w d cs t) (hok : okS t = false) (hs : tsz t ≤ 1353245080330) :
    Calls Tryz.prog 11 #[.agg cs.toArray] w fun e w' => e = .returned (.string ⟨#[]⟩) ∧ Upd [] w w' := by
  have hsev := h.seven
  have tb0 : Tb (w.alloc (.cells cs.toArray 26)) w.heap.size cs.toArray := Tb.new _ _ _ rfl
  have hU1 : Upd [] w (w.alloc (.cells cs.toArray 26)) := (Upd.refl [] w).alloc _
  have HR : Hid (∀ W, Upd [] w W → Calls Tryz.prog 9 #[.agg cs.toArray] W fun e w' => e = .returned (.bool false) ∧ Upd [] W w') := fun W hU => by
    have := TRight_in d W cs t (In.mono hU _ _ _ h) hs
    rw [hok] at this
    exact this
  clear h hok hs
  obtain ⟨C, hC⟩ : ∃ C, C = cs.toArray := ⟨_, rfl⟩
  rw [← hC] at hsev HR tb0 hU1 ⊢
  clear hC
  go_enter Tryz.func11, Tryz.ntmps11
  go_wp2_with (first | (refine load_T _ rfl _ rfl _ _ rfl tb0 hsev ?_) | fail)
  refine Calls.mono (HR.out _ hU1) ?_
  rintro e w1 ⟨rfl, uw1⟩
  go_wp2
  go_ret
  exact ⟨rfl, hU1.trans uw1⟩
theorem TText_any (d : Nat) (w : World) (cs : List Value) (t : Tm) (h : In w d cs t) (hs : tsz t ≤ 1353245080330) (hG : Glb w) :
    Calls Tryz.prog 11 #[.agg cs.toArray] w fun e w' => e = .returned (.string (str (txS t))) ∧ Upd [] w w' := by
  unfold txS
  cases hok : okS t with
  | true => rw [if_pos rfl]; exact TText_in d w cs t h hok hs (tx_short t hok (In.dig _ _ _ h)) hG
  | false => rw [if_neg (by decide)]; exact TText_bad d w cs t h hok hs
end Go.Proofs.YtabknipgbmdipaaGreatDoor

/- The reference's said, Text, by their contracts. -/
namespace Go.Proofs.YtabknipgbmdipaaGreatDoor
open Go.RowKit

theorem str_append (a b : List UInt8) : str a ++ str b = str (a ++ b) := by
  apply ByteArray.ext
  rw [ByteArray.data_append]
  simp [str]
theorem add_ok {a b c : List UInt8} {A B C : ByteArray} (hA : A = str a) (hB : B = str b) (hC : C = str c) (hc : a ++ b = c) (h : a.length + b.length ≤ 9000000000000000000) : ∀ w, (Op.stringOp .add A B).run Tryz.prog w = .ok (.string C) w := fun w => by
  rw [hA, hB, hC, ← hc, ← str_append]
  exact run_string_add_sum w _ _ (by rw [str_size, str_size]; omega)
/-- What said is to answer, of depth d. -/
def SaidS (d : Nat) : Prop := ∀ (w : World) (cs : List Value) (t : Tm), In w d cs t → okT' t = true → tsz t ≤ 1353245080330 → (txT t).length ≤ 140737488355328 → Calls Tryz.prog 56 #[.agg cs.toArray] w fun e w' => e = .returned (.string (str (txT t))) ∧ Upd [] w w'
theorem txC_pre (I : List Tm) (k : Nat) (hk : k ≤ I.length) : (txC (I.take k)).length ≤ (txC I).length := by
  by_cases h : k < I.length
  · have := txC_len I k h; omega
  · rw [List.take_of_length_le (by omega)]; exact Nat.le_refl _
theorem okF_tup {num : Int} {neg : Bool} {L : List Nat} {s : ByteArray} {ni : Nat} {T : List Tm} (h : okF 6 num neg L s ni T = true) : T = [] := by
  unfold okF at h
  simp at h
  exact List.eq_nil_of_length_eq_zero (by simp_all)

set_option maxHeartbeats 1000000 in
set_option maxRecDepth 100000 in
theorem said_ref (w : World) (a ai at' : Option Addr) (nl c ni ci nt ct : Nat) (neg : Bool) (s : ByteArray) (num : Int) (h0 : 0 ≤ num) (h1 : num ≤ 1099511627776) (hlen : ([35, 82, 101, 102, 60] ++ (Lib.itoa num ++ [62])).length ≤ 140737488355328) :
    Calls Tryz.prog 56 #[.agg #[.int .u8 3, .bool neg, .slice a nl c, .string s, .int .i64 num, .slice ai ni ci, .slice at' nt ct]] w fun e w' => e = .returned (.string (str ([35, 82, 101, 102, 60] ++ (Lib.itoa num ++ [62])))) ∧ Upd [] w w' := by
  have tX := Tb.new w #[.int .u8 3, .bool neg, .slice a nl c, .string s, .int .i64 num, .slice ai ni ci, .slice at' nt ct] _ rfl
  have HU : Hid (Upd [] w _) := (Upd.refl [] w).alloc (.cells #[.int .u8 3, .bool neg, .slice a nl c, .string s, .int .i64 num, .slice ai ni ci, .slice at' nt ct] 26)
  obtain ⟨R, hR⟩ : ∃ R, R = str (Lib.itoa num) := ⟨_, rfl⟩
  obtain ⟨X, hX⟩ : ∃ X, X = str ([35, 82, 101, 102, 60] ++ Lib.itoa num) := ⟨_, rfl⟩
  obtain ⟨Y, hY⟩ : ∃ Y, Y = str ([35, 82, 101, 102, 60] ++ (Lib.itoa num ++ [62])) := ⟨_, rfl⟩
  simp only [List.length_append, List.length_cons, List.length_nil] at hlen
  have hA1 : ∀ w, (Op.stringOp .add ⟨#[35, 82, 101, 102, 60]⟩ R).run Tryz.prog w = .ok (.string X) w := add_ok rfl hR hX rfl (by simp; omega)
  have hA2 : ∀ w, (Op.stringOp .add X ⟨#[62]⟩).run Tryz.prog w = .ok (.string Y) w := add_ok (b := [62]) hX rfl hY (by rw [List.append_assoc]) (by simp; omega)
  have HN : Hid (∀ W, Calls Tryz.prog 90 #[.int .i64 num] W fun e w' => e = .returned (.string R) ∧ Upd [] W w') := fun W => by rw [hR]; exact num3_any num W h0 h1
  rw [← hY]
  clear hR hX hY hlen
  have x0 := tX.cell 0
  have x4 := tX.cell 4
  go_enter Tryz.func56, Tryz.ntmps56
  go_wp2_with fail
  refine (HN.out _).mono ?_
  rintro e w1 ⟨rfl, hU1⟩
  go_wp2
  go_ret
  exact ⟨rfl, HU.out.trans hU1⟩

set_option maxHeartbeats 1000000 in
set_option maxRecDepth 100000 in
theorem said_fun (w : World) (a ai at' : Option Addr) (nl c ni ci nt ct : Nat) (neg : Bool) (s : ByteArray) (num : Int) (h0 : 0 ≤ num) (h1 : num ≤ 1099511627776) (hlen : ([35, 70, 117, 110, 60] ++ (Lib.itoa num ++ [62])).length ≤ 140737488355328) :
    Calls Tryz.prog 56 #[.agg #[.int .u8 4, .bool neg, .slice a nl c, .string s, .int .i64 num, .slice ai ni ci, .slice at' nt ct]] w fun e w' => e = .returned (.string (str ([35, 70, 117, 110, 60] ++ (Lib.itoa num ++ [62])))) ∧ Upd [] w w' := by
  have tX := Tb.new w #[.int .u8 4, .bool neg, .slice a nl c, .string s, .int .i64 num, .slice ai ni ci, .slice at' nt ct] _ rfl
  have HU : Hid (Upd [] w _) := (Upd.refl [] w).alloc (.cells #[.int .u8 4, .bool neg, .slice a nl c, .string s, .int .i64 num, .slice ai ni ci, .slice at' nt ct] 26)
  obtain ⟨R, hR⟩ : ∃ R, R = str (Lib.itoa num) := ⟨_, rfl⟩
  obtain ⟨X, hX⟩ : ∃ X, X = str ([35, 70, 117, 110, 60] ++ Lib.itoa num) := ⟨_, rfl⟩
  obtain ⟨Y, hY⟩ : ∃ Y, Y = str ([35, 70, 117, 110, 60] ++ (Lib.itoa num ++ [62])) := ⟨_, rfl⟩
  simp only [List.length_append, List.length_cons, List.length_nil] at hlen
  have hA1 : ∀ w, (Op.stringOp .add ⟨#[35, 70, 117, 110, 60]⟩ R).run Tryz.prog w = .ok (.string X) w := add_ok rfl hR hX rfl (by simp; omega)
  have hA2 : ∀ w, (Op.stringOp .add X ⟨#[62]⟩).run Tryz.prog w = .ok (.string Y) w := add_ok (b := [62]) hX rfl hY (by rw [List.append_assoc]) (by simp; omega)
  have HN : Hid (∀ W, Calls Tryz.prog 90 #[.int .i64 num] W fun e w' => e = .returned (.string R) ∧ Upd [] W w') := fun W => by rw [hR]; exact num3_any num W h0 h1
  rw [← hY]
  clear hR hX hY hlen
  have x0 := tX.cell 0
  have x4 := tX.cell 4
  go_enter Tryz.func56, Tryz.ntmps56
  go_wp2_with fail
  refine (HN.out _).mono ?_
  rintro e w1 ⟨rfl, hU1⟩
  go_wp2
  go_ret
  exact ⟨rfl, HU.out.trans hU1⟩

set_option maxHeartbeats 1000000 in
set_option maxRecDepth 100000 in
theorem said_pid (w : World) (a ai at' : Option Addr) (nl c ni ci nt ct : Nat) (neg : Bool) (s : ByteArray) (num : Int) (h0 : 0 ≤ num) (h1 : num ≤ 1099511627776) (hlen : ([60] ++ (Lib.itoa num ++ [62])).length ≤ 140737488355328) :
    Calls Tryz.prog 56 #[.agg #[.int .u8 5, .bool neg, .slice a nl c, .string s, .int .i64 num, .slice ai ni ci, .slice at' nt ct]] w fun e w' => e = .returned (.string (str ([60] ++ (Lib.itoa num ++ [62])))) ∧ Upd [] w w' := by
  have tX := Tb.new w #[.int .u8 5, .bool neg, .slice a nl c, .string s, .int .i64 num, .slice ai ni ci, .slice at' nt ct] _ rfl
  have HU : Hid (Upd [] w _) := (Upd.refl [] w).alloc (.cells #[.int .u8 5, .bool neg, .slice a nl c, .string s, .int .i64 num, .slice ai ni ci, .slice at' nt ct] 26)
  obtain ⟨R, hR⟩ : ∃ R, R = str (Lib.itoa num) := ⟨_, rfl⟩
  obtain ⟨X, hX⟩ : ∃ X, X = str ([60] ++ Lib.itoa num) := ⟨_, rfl⟩
  obtain ⟨Y, hY⟩ : ∃ Y, Y = str ([60] ++ (Lib.itoa num ++ [62])) := ⟨_, rfl⟩
  simp only [List.length_append, List.length_cons, List.length_nil] at hlen
  have hA1 : ∀ w, (Op.stringOp .add ⟨#[60]⟩ R).run Tryz.prog w = .ok (.string X) w := add_ok rfl hR hX rfl (by simp; omega)
  have hA2 : ∀ w, (Op.stringOp .add X ⟨#[62]⟩).run Tryz.prog w = .ok (.string Y) w := add_ok (b := [62]) hX rfl hY (by rw [List.append_assoc]) (by simp; omega)
  have HN : Hid (∀ W, Calls Tryz.prog 90 #[.int .i64 num] W fun e w' => e = .returned (.string R) ∧ Upd [] W w') := fun W => by rw [hR]; exact num3_any num W h0 h1
  rw [← hY]
  clear hR hX hY hlen
  have x0 := tX.cell 0
  have x4 := tX.cell 4
  go_enter Tryz.func56, Tryz.ntmps56
  go_wp2_with fail
  refine (HN.out _).mono ?_
  rintro e w1 ⟨rfl, hU1⟩
  go_wp2
  go_ret
  exact ⟨rfl, HU.out.trans hU1⟩

set_option maxHeartbeats 1000000 in
set_option maxRecDepth 100000 in
theorem said_int (w : World) (a ai at' : Option Addr) (c ci ct : Nat) (neg : Bool) (L : List Nat) (hok : okL neg L = true) (hd : Dig L) (hA : At w a L) :
    Calls Tryz.prog 56 #[.agg #[.int .u8 1, .bool neg, .slice a L.length c, .string ⟨#[]⟩, .int .i64 0, .slice ai 0 ci, .slice at' 0 ct]] w fun e w' => e = .returned (.string (str (wtx (zv neg L)))) ∧ Upd [] w w' := by
  have tX := Tb.new w #[.int .u8 1, .bool neg, .slice a L.length c, .string ⟨#[]⟩, .int .i64 0, .slice ai 0 ci, .slice at' 0 ct] _ rfl
  have hU0 := (Upd.refl [] w).alloc (.cells #[.int .u8 1, .bool neg, .slice a L.length c, .string ⟨#[]⟩, .int .i64 0, .slice ai 0 ci, .slice at' 0 ct] 26)
  obtain ⟨R, hR⟩ : ∃ R, R = str (wtx (zv neg L)) := ⟨_, rfl⟩
  have HT : Hid (∀ W, Upd [] w W → Calls Tryz.prog 88 #[.agg #[.int .u8 1, .bool neg, .slice a L.length c, .string ⟨#[]⟩, .int .i64 0, .slice ai 0 ci, .slice at' 0 ct]] W fun e w' => e = .returned (.string R) ∧ Upd [] W w') := fun W hu => (rText_core a ai at' c ci ct neg L _ W (TI.of hok hd (hA.mono hu))).mono fun e w' ⟨hu, T, he, hT⟩ => ⟨by rw [he, hR, bs_str hT], hu⟩
  rw [← hR]
  have HU : Hid (Upd [] w _) := hU0
  clear hR hok hd hA hU0
  have x0 := tX.cell 0
  go_enter Tryz.func56, Tryz.ntmps56
  go_wp2_with (first | (refine load_T _ rfl _ rfl _ _ rfl tX rfl ?_) | fail)
  refine (HT.out _ HU.out).mono ?_
  rintro e w1 ⟨rfl, hU1⟩
  go_wp2
  go_ret
  exact ⟨rfl, HU.out.trans hU1⟩

set_option maxHeartbeats 1000000 in
set_option maxRecDepth 100000 in
theorem said_atom (w : World) (a ai at' : Option Addr) (nl c ni ci nt ct : Nat) (neg : Bool) (s : ByteArray) (num : Int) (hs : s.size ≤ 40) :
    Calls Tryz.prog 56 #[.agg #[.int .u8 2, .bool neg, .slice a nl c, .string s, .int .i64 num, .slice ai ni ci, .slice at' nt ct]] w fun e w' => e = .returned (.string (str (atomTx (byt s)))) ∧ Upd [] w w' := by
  have tX := Tb.new w #[.int .u8 2, .bool neg, .slice a nl c, .string s, .int .i64 num, .slice ai ni ci, .slice at' nt ct] _ rfl
  have HU : Hid (Upd [] w _) := (Upd.refl [] w).alloc (.cells #[.int .u8 2, .bool neg, .slice a nl c, .string s, .int .i64 num, .slice ai ni ci, .slice at' nt ct] 26)
  obtain ⟨R, hR⟩ : ∃ R, R = str (atomTx (byt s)) := ⟨_, rfl⟩
  have HN : Hid (∀ W, Calls Tryz.prog 89 #[.string s] W fun e w' => e = .returned (.string R) ∧ Upd [] W w') := fun W => by rw [hR]; exact atom2_any s W (by omega)
  rw [← hR]
  clear hR
  have x0 := tX.cell 0
  have x3 := tX.cell 3
  go_enter Tryz.func56, Tryz.ntmps56
  go_wp2_with fail
  refine (HN.out _).mono ?_
  rintro e w1 ⟨rfl, hU1⟩
  go_wp2
  go_ret
  exact ⟨rfl, HU.out.trans hU1⟩

set_option maxHeartbeats 2000000 in
set_option maxRecDepth 100000 in
theorem said_tup (d : Nat) (ih : SaidS d) (w : World) (a ai at' : Option Addr) (nl c ci ct : Nat) (neg : Bool) (s : ByteArray) (num : Int) (I : List Tm) (hI : RowAt (In w d) w ai I) (hoI : okR I = true) (hsI : tszs I ≤ 1353245080330) (hlen : (123 :: ((txC I).drop 1 ++ [125])).length ≤ 140737488355328) :
    Calls Tryz.prog 56 #[.agg #[.int .u8 6, .bool neg, .slice a nl c, .string s, .int .i64 num, .slice ai I.length ci, .slice at' 0 ct]] w fun e w' => e = .returned (.string (str (123 :: ((txC I).drop 1 ++ [125])))) ∧ Upd [] w w' := by
  have tX := Tb.new w #[.int .u8 6, .bool neg, .slice a nl c, .string s, .int .i64 num, .slice ai I.length ci, .slice at' 0 ct] _ rfl
  have u0 := (Upd.refl [] w).alloc (.cells #[.int .u8 6, .bool neg, .slice a nl c, .string s, .int .i64 num, .slice ai I.length ci, .slice at' 0 ct] 26)
  have hlI : (txC I).length ≤ 140737488355328 := by
    simp only [List.length_append, List.length_cons, List.length_nil, List.length_drop] at hlen
    omega
  have hIl : I.length ≤ 1353245080330 := Nat.le_trans (tszs_len I) hsI
  have HI : Hid (∀ W, Upd [] w W → RowAt (In W d) W ai I) := fun W hu => hI.imp hu (In.mono hu d)
  have HIH : Hid (∀ (W : World) (cs : List Value) (i : Nat) (hi : i < I.length), In W d cs I[i] → Calls Tryz.prog 56 #[.agg cs.toArray] W fun e w' => e = .returned (.string (str (txT I[i]))) ∧ Upd [] W w') := fun W cs i hi hin => ih W cs I[i] hin (okR_get I i hi hoI) (Nat.le_trans (tszs_get I i hi) hsI) (by have := txC_len I i hi; omega)
  obtain ⟨F, hF⟩ : ∃ F, F = str (123 :: ((txC I).drop 1 ++ [125])) := ⟨_, rfl⟩
  have HF : Hid (F = str (123 :: ((txC I).drop 1 ++ [125]))) := hF
  rw [← hF]
  obtain ⟨W0, hW0⟩ : ∃ W0, W0 = w.alloc (.cells #[.int .u8 6, .bool neg, .slice a nl c, .string s, .int .i64 num, .slice ai I.length ci, .slice at' 0 ct] 26) := ⟨_, rfl⟩
  obtain ⟨B, hB⟩ : ∃ B, B = w.heap.size := ⟨_, rfl⟩
  have HU0 : Hid (Upd [] w W0) := by show Upd _ _ _; rw [hW0]; exact u0
  have HX : Hid (∀ W, Upd [] W0 W → W.cell? ⟨B, 0, none⟩ = some (.int .u8 6) ∧ W.cell? ⟨B, 5, none⟩ = some (.slice ai I.length ci) ∧ W.cell? ⟨B, 6, none⟩ = some (.slice at' 0 ct)) := fun W hu => by
    have t := (by rw [hW0, hB] at *; exact tX.mono hu (by simp) : Tb W B #[.int .u8 6, .bool neg, .slice a nl c, .string s, .int .i64 num, .slice ai I.length ci, .slice at' 0 ct])
    exact ⟨t.cell 0, t.cell 5, t.cell 6⟩
  have x0 := tX.cell 0
  clear hI hoI hsI hlen u0 tX ih hF
  go_enter Tryz.func56, Tryz.ntmps56
  go_wp2_with fail
  rw [← hW0, ← hB]
  clear hW0 hB x0
  go_loopw [3, 4] (fun sv i wr => ∃ k : Nat, k ≤ I.length ∧ i = .int .i64 k ∧ sv = .string (str ((txC (I.take k)).drop 1)) ∧ Upd [] W0 wr) (fun _ i _ => I.length - (intOf i).toNat)
  case atStart => exact ⟨0, Nat.zero_le _, rfl, rfl, Upd.refl _ _⟩
  case round =>
    obtain ⟨k, hk, rfl, rfl, hU⟩ := hrel
    have HU : Hid (Upd [] W0 wr) := hU
    have x5 := (HX.out wr hU).2.1
    obtain ⟨X, hX⟩ : ∃ X, X = str ((txC (I.take k)).drop 1) := ⟨_, rfl⟩
    rw [← hX]
    have HXk : Hid (X = str ((txC (I.take k)).drop 1)) := hX
    have hpre := txC_pre I k hk
    by_cases hlt : k < I.length
    · have i1 : (k : Int) < (I.length : Int) := by omega
      rcases HI.out wr (HU0.out.trans hU) with h0 | ⟨b, o, rfl, hltb, hc⟩
      · rw [h0] at hlt; simp at hlt
      obtain ⟨cs, hl7, hcell, hin⟩ := hc k hlt
      obtain ⟨q0, q1, q2, q3, q4, q5, q6, rfl⟩ := list7 hl7
      have c0 : wr.cell? ⟨b, o + k * 7, none⟩ = some q0 := hcell 0 (by omega)
      have c1 : wr.cell? ⟨b, o + k * 7 + 1, none⟩ = some q1 := hcell 1 (by omega)
      have c2 : wr.cell? ⟨b, o + k * 7 + 2, none⟩ = some q2 := hcell 2 (by omega)
      have c3 : wr.cell? ⟨b, o + k * 7 + 3, none⟩ = some q3 := hcell 3 (by omega)
      have c4 : wr.cell? ⟨b, o + k * 7 + 4, none⟩ = some q4 := hcell 4 (by omega)
      have c5 : wr.cell? ⟨b, o + k * 7 + 5, none⟩ = some q5 := hcell 5 (by omega)
      have c6 : wr.cell? ⟨b, o + k * 7 + 6, none⟩ = some q6 := hcell 6 (by omega)
      obtain ⟨Y, hY⟩ : ∃ Y, Y = str (txT I[k]) := ⟨_, rfl⟩
      obtain ⟨Z, hZ⟩ : ∃ Z, Z = str ((txC (I.take (k + 1))).drop 1) := ⟨_, rfl⟩
      have hlk := txC_len I k hlt
      have hdr := txC_drop I k hlt
      have HC : Hid (Calls Tryz.prog 56 #[.agg #[q0, q1, q2, q3, q4, q5, q6]] wr fun e w' => e = .returned (.string Y) ∧ Upd [] wr w') := by
        show Calls _ _ _ _ _
        rw [hY]; exact HIH.out wr _ k hlt hin
      have HZ : Hid (Z = str ((txC (I.take (k + 1))).drop 1)) := hZ
      by_cases hk0 : k = 0
      · rw [if_pos hk0, List.nil_append] at hdr
        have hA : ∀ w, (Op.stringOp .add X Y).run Tryz.prog w = .ok (.string Z) w := add_ok hX hY hZ hdr.symm (by rw [List.length_drop]; omega)
        have d0 : decide ((0 : Int) < (k : Int)) = false := by simp; omega
        have d1 : ¬ (0 : Int) < (k : Int) := by omega
        have d2 : decide (0 < k) = false := by simp; omega
        clear hX hY hZ hdr hlk hpre hk0 hc hcell hin hl7
        go_wp2_with fail
        refine Calls.mono HC.out ?_
        rintro e w2 ⟨rfl, hU2⟩
        have HU2 : Hid (Upd [] W0 w2) := HU.out.trans hU2
        clear hU2
        go_wp2
        go_roundw
        case rel => exact ⟨k + 1, by omega, by go_num, by rw [HZ.out], HU2.out⟩
        case measure => simp [intOf]; omega
      · rw [if_neg hk0] at hdr
        obtain ⟨X1, hX1⟩ : ∃ X1, X1 = str ((txC (I.take k)).drop 1 ++ [44]) := ⟨_, rfl⟩
        have hA0 : ∀ w, (Op.stringOp .add X ⟨#[44]⟩).run Tryz.prog w = .ok (.string X1) w := add_ok (b := [44]) hX rfl hX1 rfl (by rw [List.length_drop]; simp; omega)
        have hA : ∀ w, (Op.stringOp .add X1 Y).run Tryz.prog w = .ok (.string Z) w := add_ok hX1 hY hZ (by rw [hdr, List.append_assoc]) (by rw [List.length_append, List.length_drop]; simp; omega)
        have d0 : decide ((0 : Int) < (k : Int)) = true := by simp; omega
        have d1 : (0 : Int) < (k : Int) := by omega
        have d2 : decide (0 < k) = true := by simp; omega
        clear hX hY hZ hdr hlk hpre hk0 hc hcell hin hl7 hX1
        go_wp2_with fail
        refine Calls.mono HC.out ?_
        rintro e w2 ⟨rfl, hU2⟩
        have HU2 : Hid (Upd [] W0 w2) := HU.out.trans hU2
        clear hU2
        go_wp2
        go_roundw
        case rel => exact ⟨k + 1, by omega, by go_num, by rw [HZ.out], HU2.out⟩
        case measure => simp [intOf]; omega
    · have hd : decide ((k : Int) < (I.length : Int)) = false := by simp; omega
      have x6 := (HX.out wr hU).2.2
      have hkk : I.take k = I := List.take_of_length_le (by omega)
      rw [hkk] at hX hpre
      have x0 := (HX.out wr hU).1
      obtain ⟨Y, hY⟩ : ∃ Y, Y = str (123 :: (txC I).drop 1) := ⟨_, rfl⟩
      have hA1 : ∀ w, (Op.stringOp .add ⟨#[123]⟩ X).run Tryz.prog w = .ok (.string Y) w := add_ok (a := [123]) rfl hX hY rfl (by rw [List.length_drop]; simp; omega)
      have hA2 : ∀ w, (Op.stringOp .add Y ⟨#[125]⟩).run Tryz.prog w = .ok (.string F) w := add_ok (b := [125]) hY rfl HF.out rfl (by rw [List.length_cons, List.length_drop]; simp; omega)
      clear hX hY hpre hkk HXk
      go_wp2
      go_ret
      exact ⟨rfl, HU0.out.trans HU.out⟩

set_option maxHeartbeats 2000000 in
set_option maxRecDepth 100000 in
theorem said_list0 (d : Nat) (ih : SaidS d) (w : World) (a ai at' : Option Addr) (nl c ci ct : Nat) (neg : Bool) (s : ByteArray) (num : Int) (I : List Tm) (hI : RowAt (In w d) w ai I) (hoI : okR I = true) (hsI : tszs I ≤ 1353245080330) (hlen : (91 :: ((txC I).drop 1 ++ [93])).length ≤ 140737488355328) :
    Calls Tryz.prog 56 #[.agg #[.int .u8 7, .bool neg, .slice a nl c, .string s, .int .i64 num, .slice ai I.length ci, .slice at' 0 ct]] w fun e w' => e = .returned (.string (str (91 :: ((txC I).drop 1 ++ [93])))) ∧ Upd [] w w' := by
  have tX := Tb.new w #[.int .u8 7, .bool neg, .slice a nl c, .string s, .int .i64 num, .slice ai I.length ci, .slice at' 0 ct] _ rfl
  have u0 := (Upd.refl [] w).alloc (.cells #[.int .u8 7, .bool neg, .slice a nl c, .string s, .int .i64 num, .slice ai I.length ci, .slice at' 0 ct] 26)
  have hlI : (txC I).length ≤ 140737488355328 := by
    simp only [List.length_append, List.length_cons, List.length_nil, List.length_drop] at hlen
    omega
  have hIl : I.length ≤ 1353245080330 := Nat.le_trans (tszs_len I) hsI
  have HI : Hid (∀ W, Upd [] w W → RowAt (In W d) W ai I) := fun W hu => hI.imp hu (In.mono hu d)
  have HIH : Hid (∀ (W : World) (cs : List Value) (i : Nat) (hi : i < I.length), In W d cs I[i] → Calls Tryz.prog 56 #[.agg cs.toArray] W fun e w' => e = .returned (.string (str (txT I[i]))) ∧ Upd [] W w') := fun W cs i hi hin => ih W cs I[i] hin (okR_get I i hi hoI) (Nat.le_trans (tszs_get I i hi) hsI) (by have := txC_len I i hi; omega)
  obtain ⟨F, hF⟩ : ∃ F, F = str (91 :: ((txC I).drop 1 ++ [93])) := ⟨_, rfl⟩
  have HF : Hid (F = str (91 :: ((txC I).drop 1 ++ [93]))) := hF
  rw [← hF]
  obtain ⟨W0, hW0⟩ : ∃ W0, W0 = w.alloc (.cells #[.int .u8 7, .bool neg, .slice a nl c, .string s, .int .i64 num, .slice ai I.length ci, .slice at' 0 ct] 26) := ⟨_, rfl⟩
  obtain ⟨B, hB⟩ : ∃ B, B = w.heap.size := ⟨_, rfl⟩
  have HU0 : Hid (Upd [] w W0) := by show Upd _ _ _; rw [hW0]; exact u0
  have HX : Hid (∀ W, Upd [] W0 W → W.cell? ⟨B, 0, none⟩ = some (.int .u8 7) ∧ W.cell? ⟨B, 5, none⟩ = some (.slice ai I.length ci) ∧ W.cell? ⟨B, 6, none⟩ = some (.slice at' 0 ct)) := fun W hu => by
    have t := (by rw [hW0, hB] at *; exact tX.mono hu (by simp) : Tb W B #[.int .u8 7, .bool neg, .slice a nl c, .string s, .int .i64 num, .slice ai I.length ci, .slice at' 0 ct])
    exact ⟨t.cell 0, t.cell 5, t.cell 6⟩
  have x0 := tX.cell 0
  clear hI hoI hsI hlen u0 tX ih hF
  go_enter Tryz.func56, Tryz.ntmps56
  go_wp2_with fail
  rw [← hW0, ← hB]
  clear hW0 hB x0
  go_loopw [3, 4] (fun sv i wr => ∃ k : Nat, k ≤ I.length ∧ i = .int .i64 k ∧ sv = .string (str ((txC (I.take k)).drop 1)) ∧ Upd [] W0 wr) (fun _ i _ => I.length - (intOf i).toNat)
  case atStart => exact ⟨0, Nat.zero_le _, rfl, rfl, Upd.refl _ _⟩
  case round =>
    obtain ⟨k, hk, rfl, rfl, hU⟩ := hrel
    have HU : Hid (Upd [] W0 wr) := hU
    have x5 := (HX.out wr hU).2.1
    obtain ⟨X, hX⟩ : ∃ X, X = str ((txC (I.take k)).drop 1) := ⟨_, rfl⟩
    rw [← hX]
    have HXk : Hid (X = str ((txC (I.take k)).drop 1)) := hX
    have hpre := txC_pre I k hk
    by_cases hlt : k < I.length
    · have i1 : (k : Int) < (I.length : Int) := by omega
      rcases HI.out wr (HU0.out.trans hU) with h0 | ⟨b, o, rfl, hltb, hc⟩
      · rw [h0] at hlt; simp at hlt
      obtain ⟨cs, hl7, hcell, hin⟩ := hc k hlt
      obtain ⟨q0, q1, q2, q3, q4, q5, q6, rfl⟩ := list7 hl7
      have c0 : wr.cell? ⟨b, o + k * 7, none⟩ = some q0 := hcell 0 (by omega)
      have c1 : wr.cell? ⟨b, o + k * 7 + 1, none⟩ = some q1 := hcell 1 (by omega)
      have c2 : wr.cell? ⟨b, o + k * 7 + 2, none⟩ = some q2 := hcell 2 (by omega)
      have c3 : wr.cell? ⟨b, o + k * 7 + 3, none⟩ = some q3 := hcell 3 (by omega)
      have c4 : wr.cell? ⟨b, o + k * 7 + 4, none⟩ = some q4 := hcell 4 (by omega)
      have c5 : wr.cell? ⟨b, o + k * 7 + 5, none⟩ = some q5 := hcell 5 (by omega)
      have c6 : wr.cell? ⟨b, o + k * 7 + 6, none⟩ = some q6 := hcell 6 (by omega)
      obtain ⟨Y, hY⟩ : ∃ Y, Y = str (txT I[k]) := ⟨_, rfl⟩
      obtain ⟨Z, hZ⟩ : ∃ Z, Z = str ((txC (I.take (k + 1))).drop 1) := ⟨_, rfl⟩
      have hlk := txC_len I k hlt
      have hdr := txC_drop I k hlt
      have HC : Hid (Calls Tryz.prog 56 #[.agg #[q0, q1, q2, q3, q4, q5, q6]] wr fun e w' => e = .returned (.string Y) ∧ Upd [] wr w') := by
        show Calls _ _ _ _ _
        rw [hY]; exact HIH.out wr _ k hlt hin
      have HZ : Hid (Z = str ((txC (I.take (k + 1))).drop 1)) := hZ
      by_cases hk0 : k = 0
      · rw [if_pos hk0, List.nil_append] at hdr
        have hA : ∀ w, (Op.stringOp .add X Y).run Tryz.prog w = .ok (.string Z) w := add_ok hX hY hZ hdr.symm (by rw [List.length_drop]; omega)
        have d0 : decide ((0 : Int) < (k : Int)) = false := by simp; omega
        have d1 : ¬ (0 : Int) < (k : Int) := by omega
        have d2 : decide (0 < k) = false := by simp; omega
        clear hX hY hZ hdr hlk hpre hk0 hc hcell hin hl7
        go_wp2_with fail
        refine Calls.mono HC.out ?_
        rintro e w2 ⟨rfl, hU2⟩
        have HU2 : Hid (Upd [] W0 w2) := HU.out.trans hU2
        clear hU2
        go_wp2
        go_roundw
        case rel => exact ⟨k + 1, by omega, by go_num, by rw [HZ.out], HU2.out⟩
        case measure => simp [intOf]; omega
      · rw [if_neg hk0] at hdr
        obtain ⟨X1, hX1⟩ : ∃ X1, X1 = str ((txC (I.take k)).drop 1 ++ [44]) := ⟨_, rfl⟩
        have hA0 : ∀ w, (Op.stringOp .add X ⟨#[44]⟩).run Tryz.prog w = .ok (.string X1) w := add_ok (b := [44]) hX rfl hX1 rfl (by rw [List.length_drop]; simp; omega)
        have hA : ∀ w, (Op.stringOp .add X1 Y).run Tryz.prog w = .ok (.string Z) w := add_ok hX1 hY hZ (by rw [hdr, List.append_assoc]) (by rw [List.length_append, List.length_drop]; simp; omega)
        have d0 : decide ((0 : Int) < (k : Int)) = true := by simp; omega
        have d1 : (0 : Int) < (k : Int) := by omega
        have d2 : decide (0 < k) = true := by simp; omega
        clear hX hY hZ hdr hlk hpre hk0 hc hcell hin hl7 hX1
        go_wp2_with fail
        refine Calls.mono HC.out ?_
        rintro e w2 ⟨rfl, hU2⟩
        have HU2 : Hid (Upd [] W0 w2) := HU.out.trans hU2
        clear hU2
        go_wp2
        go_roundw
        case rel => exact ⟨k + 1, by omega, by go_num, by rw [HZ.out], HU2.out⟩
        case measure => simp [intOf]; omega
    · have hd : decide ((k : Int) < (I.length : Int)) = false := by simp; omega
      have x6 := (HX.out wr hU).2.2
      have hkk : I.take k = I := List.take_of_length_le (by omega)
      rw [hkk] at hX hpre
      have x0 := (HX.out wr hU).1
      obtain ⟨Y, hY⟩ : ∃ Y, Y = str (91 :: (txC I).drop 1) := ⟨_, rfl⟩
      have hA1 : ∀ w, (Op.stringOp .add ⟨#[91]⟩ X).run Tryz.prog w = .ok (.string Y) w := add_ok (a := [91]) rfl hX hY rfl (by rw [List.length_drop]; simp; omega)
      have hA2 : ∀ w, (Op.stringOp .add Y ⟨#[93]⟩).run Tryz.prog w = .ok (.string F) w := add_ok (b := [93]) hY rfl HF.out rfl (by rw [List.length_cons, List.length_drop]; simp; omega)
      clear hX hY hpre hkk HXk
      go_wp2
      go_ret
      exact ⟨rfl, HU0.out.trans HU.out⟩

set_option maxHeartbeats 2000000 in
set_option maxRecDepth 100000 in
theorem said_list1 (d : Nat) (ih : SaidS d) (w : World) (a ai at' : Option Addr) (nl c ci ct : Nat) (neg : Bool) (s : ByteArray) (num : Int) (I : List Tm) (hI : RowAt (In w d) w ai I) (hoI : okR I = true) (hsI : tszs I ≤ 1353245080330) (u : Tm) (hT : RowAt (In w d) w at' [u]) (hou : okT' u = true) (hsu : tsz u ≤ 1353245080330) (hlen : (91 :: ((txC I).drop 1 ++ (124 :: txT u) ++ [93])).length ≤ 140737488355328) :
    Calls Tryz.prog 56 #[.agg #[.int .u8 7, .bool neg, .slice a nl c, .string s, .int .i64 num, .slice ai I.length ci, .slice at' 1 ct]] w fun e w' => e = .returned (.string (str (91 :: ((txC I).drop 1 ++ (124 :: txT u) ++ [93])))) ∧ Upd [] w w' := by
  have tX := Tb.new w #[.int .u8 7, .bool neg, .slice a nl c, .string s, .int .i64 num, .slice ai I.length ci, .slice at' 1 ct] _ rfl
  have u0 := (Upd.refl [] w).alloc (.cells #[.int .u8 7, .bool neg, .slice a nl c, .string s, .int .i64 num, .slice ai I.length ci, .slice at' 1 ct] 26)
  have hlI : (txC I).length ≤ 140737488355328 := by
    simp only [List.length_append, List.length_cons, List.length_nil, List.length_drop] at hlen
    omega
  have hIl : I.length ≤ 1353245080330 := Nat.le_trans (tszs_len I) hsI
  have HI : Hid (∀ W, Upd [] w W → RowAt (In W d) W ai I) := fun W hu => hI.imp hu (In.mono hu d)
  have HIH : Hid (∀ (W : World) (cs : List Value) (i : Nat) (hi : i < I.length), In W d cs I[i] → Calls Tryz.prog 56 #[.agg cs.toArray] W fun e w' => e = .returned (.string (str (txT I[i]))) ∧ Upd [] W w') := fun W cs i hi hin => ih W cs I[i] hin (okR_get I i hi hoI) (Nat.le_trans (tszs_get I i hi) hsI) (by have := txC_len I i hi; omega)
  obtain ⟨F, hF⟩ : ∃ F, F = str (91 :: ((txC I).drop 1 ++ (124 :: txT u) ++ [93])) := ⟨_, rfl⟩
  have HF : Hid (F = str (91 :: ((txC I).drop 1 ++ (124 :: txT u) ++ [93]))) := hF
  rw [← hF]
  have HLT : Hid ((txC I).length + (txT u).length ≤ 140737488355330) := by
    show _ ≤ _
    simp only [List.length_append, List.length_cons, List.length_nil, List.length_drop] at hlen
    omega
  have HTu : Hid (∀ W, Upd [] w W → RowAt (In W d) W at' [u]) := fun W hu => hT.imp hu (In.mono hu d)
  have HIu : Hid (∀ (W : World) (cs : List Value), In W d cs u → Calls Tryz.prog 56 #[.agg cs.toArray] W fun e w' => e = .returned (.string (str (txT u))) ∧ Upd [] W w') := fun W cs hin => ih W cs u hin hou hsu (by have := HLT.out; simp only [List.length_append, List.length_cons, List.length_nil, List.length_drop] at hlen; omega)
  clear hT hou hsu
  obtain ⟨W0, hW0⟩ : ∃ W0, W0 = w.alloc (.cells #[.int .u8 7, .bool neg, .slice a nl c, .string s, .int .i64 num, .slice ai I.length ci, .slice at' 1 ct] 26) := ⟨_, rfl⟩
  obtain ⟨B, hB⟩ : ∃ B, B = w.heap.size := ⟨_, rfl⟩
  have HU0 : Hid (Upd [] w W0) := by show Upd _ _ _; rw [hW0]; exact u0
  have HX : Hid (∀ W, Upd [] W0 W → W.cell? ⟨B, 0, none⟩ = some (.int .u8 7) ∧ W.cell? ⟨B, 5, none⟩ = some (.slice ai I.length ci) ∧ W.cell? ⟨B, 6, none⟩ = some (.slice at' 1 ct)) := fun W hu => by
    have t := (by rw [hW0, hB] at *; exact tX.mono hu (by simp) : Tb W B #[.int .u8 7, .bool neg, .slice a nl c, .string s, .int .i64 num, .slice ai I.length ci, .slice at' 1 ct])
    exact ⟨t.cell 0, t.cell 5, t.cell 6⟩
  have x0 := tX.cell 0
  clear hI hoI hsI hlen u0 tX ih hF
  go_enter Tryz.func56, Tryz.ntmps56
  go_wp2_with fail
  rw [← hW0, ← hB]
  clear hW0 hB x0
  go_loopw [3, 4] (fun sv i wr => ∃ k : Nat, k ≤ I.length ∧ i = .int .i64 k ∧ sv = .string (str ((txC (I.take k)).drop 1)) ∧ Upd [] W0 wr) (fun _ i _ => I.length - (intOf i).toNat)
  case atStart => exact ⟨0, Nat.zero_le _, rfl, rfl, Upd.refl _ _⟩
  case round =>
    obtain ⟨k, hk, rfl, rfl, hU⟩ := hrel
    have HU : Hid (Upd [] W0 wr) := hU
    have x5 := (HX.out wr hU).2.1
    obtain ⟨X, hX⟩ : ∃ X, X = str ((txC (I.take k)).drop 1) := ⟨_, rfl⟩
    rw [← hX]
    have HXk : Hid (X = str ((txC (I.take k)).drop 1)) := hX
    have hpre := txC_pre I k hk
    by_cases hlt : k < I.length
    · have i1 : (k : Int) < (I.length : Int) := by omega
      rcases HI.out wr (HU0.out.trans hU) with h0 | ⟨b, o, rfl, hltb, hc⟩
      · rw [h0] at hlt; simp at hlt
      obtain ⟨cs, hl7, hcell, hin⟩ := hc k hlt
      obtain ⟨q0, q1, q2, q3, q4, q5, q6, rfl⟩ := list7 hl7
      have c0 : wr.cell? ⟨b, o + k * 7, none⟩ = some q0 := hcell 0 (by omega)
      have c1 : wr.cell? ⟨b, o + k * 7 + 1, none⟩ = some q1 := hcell 1 (by omega)
      have c2 : wr.cell? ⟨b, o + k * 7 + 2, none⟩ = some q2 := hcell 2 (by omega)
      have c3 : wr.cell? ⟨b, o + k * 7 + 3, none⟩ = some q3 := hcell 3 (by omega)
      have c4 : wr.cell? ⟨b, o + k * 7 + 4, none⟩ = some q4 := hcell 4 (by omega)
      have c5 : wr.cell? ⟨b, o + k * 7 + 5, none⟩ = some q5 := hcell 5 (by omega)
      have c6 : wr.cell? ⟨b, o + k * 7 + 6, none⟩ = some q6 := hcell 6 (by omega)
      obtain ⟨Y, hY⟩ : ∃ Y, Y = str (txT I[k]) := ⟨_, rfl⟩
      obtain ⟨Z, hZ⟩ : ∃ Z, Z = str ((txC (I.take (k + 1))).drop 1) := ⟨_, rfl⟩
      have hlk := txC_len I k hlt
      have hdr := txC_drop I k hlt
      have HC : Hid (Calls Tryz.prog 56 #[.agg #[q0, q1, q2, q3, q4, q5, q6]] wr fun e w' => e = .returned (.string Y) ∧ Upd [] wr w') := by
        show Calls _ _ _ _ _
        rw [hY]; exact HIH.out wr _ k hlt hin
      have HZ : Hid (Z = str ((txC (I.take (k + 1))).drop 1)) := hZ
      by_cases hk0 : k = 0
      · rw [if_pos hk0, List.nil_append] at hdr
        have hA : ∀ w, (Op.stringOp .add X Y).run Tryz.prog w = .ok (.string Z) w := add_ok hX hY hZ hdr.symm (by rw [List.length_drop]; omega)
        have d0 : decide ((0 : Int) < (k : Int)) = false := by simp; omega
        have d1 : ¬ (0 : Int) < (k : Int) := by omega
        have d2 : decide (0 < k) = false := by simp; omega
        clear hX hY hZ hdr hlk hpre hk0 hc hcell hin hl7
        go_wp2_with fail
        refine Calls.mono HC.out ?_
        rintro e w2 ⟨rfl, hU2⟩
        have HU2 : Hid (Upd [] W0 w2) := HU.out.trans hU2
        clear hU2
        go_wp2
        go_roundw
        case rel => exact ⟨k + 1, by omega, by go_num, by rw [HZ.out], HU2.out⟩
        case measure => simp [intOf]; omega
      · rw [if_neg hk0] at hdr
        obtain ⟨X1, hX1⟩ : ∃ X1, X1 = str ((txC (I.take k)).drop 1 ++ [44]) := ⟨_, rfl⟩
        have hA0 : ∀ w, (Op.stringOp .add X ⟨#[44]⟩).run Tryz.prog w = .ok (.string X1) w := add_ok (b := [44]) hX rfl hX1 rfl (by rw [List.length_drop]; simp; omega)
        have hA : ∀ w, (Op.stringOp .add X1 Y).run Tryz.prog w = .ok (.string Z) w := add_ok hX1 hY hZ (by rw [hdr, List.append_assoc]) (by rw [List.length_append, List.length_drop]; simp; omega)
        have d0 : decide ((0 : Int) < (k : Int)) = true := by simp; omega
        have d1 : (0 : Int) < (k : Int) := by omega
        have d2 : decide (0 < k) = true := by simp; omega
        clear hX hY hZ hdr hlk hpre hk0 hc hcell hin hl7 hX1
        go_wp2_with fail
        refine Calls.mono HC.out ?_
        rintro e w2 ⟨rfl, hU2⟩
        have HU2 : Hid (Upd [] W0 w2) := HU.out.trans hU2
        clear hU2
        go_wp2
        go_roundw
        case rel => exact ⟨k + 1, by omega, by go_num, by rw [HZ.out], HU2.out⟩
        case measure => simp [intOf]; omega
    · have hd : decide ((k : Int) < (I.length : Int)) = false := by simp; omega
      have x6 := (HX.out wr hU).2.2
      have hkk : I.take k = I := List.take_of_length_le (by omega)
      rw [hkk] at hX hpre
      obtain ⟨X1, hX1⟩ : ∃ X1, X1 = str ((txC I).drop 1 ++ [124]) := ⟨_, rfl⟩
      obtain ⟨U, hU'⟩ : ∃ U, U = str (txT u) := ⟨_, rfl⟩
      obtain ⟨X2, hX2⟩ : ∃ X2, X2 = str ((txC I).drop 1 ++ (124 :: txT u)) := ⟨_, rfl⟩
      obtain ⟨Y, hY⟩ : ∃ Y, Y = str (91 :: ((txC I).drop 1 ++ (124 :: txT u))) := ⟨_, rfl⟩
      have hb := HLT.out
      have hA0 : ∀ w, (Op.stringOp .add X ⟨#[124]⟩).run Tryz.prog w = .ok (.string X1) w := add_ok (b := [124]) hX rfl hX1 rfl (by rw [List.length_drop]; simp; omega)
      have hA3 : ∀ w, (Op.stringOp .add X1 U).run Tryz.prog w = .ok (.string X2) w := add_ok hX1 hU' hX2 (by rw [List.append_assoc]; rfl) (by rw [List.length_append, List.length_drop]; simp; omega)
      have hA1 : ∀ w, (Op.stringOp .add ⟨#[91]⟩ X2).run Tryz.prog w = .ok (.string Y) w := add_ok (a := [91]) rfl hX2 hY rfl (by simp only [List.length_append, List.length_cons, List.length_nil, List.length_drop]; omega)
      have hA2 : ∀ w, (Op.stringOp .add Y ⟨#[93]⟩).run Tryz.prog w = .ok (.string F) w := add_ok (b := [93]) hY rfl HF.out rfl (by simp only [List.length_append, List.length_cons, List.length_nil, List.length_drop]; omega)
      rcases HTu.out wr (HU0.out.trans hU) with h0 | ⟨b, o, rfl, hltb, hc⟩
      · cases h0
      obtain ⟨cs, hl7, hcell, hin⟩ := hc 0 (by simp)
      obtain ⟨q0, q1, q2, q3, q4, q5, q6, rfl⟩ := list7 hl7
      have c0 : wr.cell? ⟨b, o, none⟩ = some q0 := by have := hcell 0 (by omega); simpa using this
      have c1 : wr.cell? ⟨b, o + 1, none⟩ = some q1 := by have := hcell 1 (by omega); simpa using this
      have c2 : wr.cell? ⟨b, o + 2, none⟩ = some q2 := by have := hcell 2 (by omega); simpa using this
      have c3 : wr.cell? ⟨b, o + 3, none⟩ = some q3 := by have := hcell 3 (by omega); simpa using this
      have c4 : wr.cell? ⟨b, o + 4, none⟩ = some q4 := by have := hcell 4 (by omega); simpa using this
      have c5 : wr.cell? ⟨b, o + 5, none⟩ = some q5 := by have := hcell 5 (by omega); simpa using this
      have c6 : wr.cell? ⟨b, o + 6, none⟩ = some q6 := by have := hcell 6 (by omega); simpa using this
      have HC : Hid (Calls Tryz.prog 56 #[.agg #[q0, q1, q2, q3, q4, q5, q6]] wr fun e w' => e = .returned (.string U) ∧ Upd [] wr w') := by
        show Calls _ _ _ _ _
        rw [hU']; exact HIu.out wr _ hin
      clear hX hY hpre hkk HXk hX1 hX2 hU' hc hcell hin hl7
      go_wp2_with fail
      refine Calls.mono HC.out ?_
      rintro e w2 ⟨rfl, hU2⟩
      have y0 := (HX.out w2 (HU.out.trans hU2)).1
      have HU2 : Hid (Upd [] W0 w2) := HU.out.trans hU2
      clear hU2
      go_wp2
      go_ret
      exact ⟨rfl, HU0.out.trans HU2.out⟩

theorem said_step (d : Nat) (ih : SaidS d) : SaidS (d + 1) := by
  intro w cs t h hok hs hlen
  obtain ⟨k, num, neg, L, s, I, T⟩ := t
  obtain ⟨a, ai, at', c, ci, ct, rfl, hA, hD, hI, hT'⟩ := h
  rw [okT', Bool.and_eq_true, Bool.and_eq_true] at hok
  obtain ⟨⟨hf, hoI⟩, hoT⟩ := hok
  simp only [tsz] at hs
  have hsI : tszs I ≤ 1353245080330 := by omega
  have hsT : tszs T ≤ 1353245080330 := by omega
  rcases okF_kind hf with rfl | rfl | rfl | rfl | rfl | rfl | rfl
  · obtain ⟨p1, rfl, rfl, p4, rfl⟩ := okF_int hf
    have p5 := List.eq_nil_of_length_eq_zero p4
    subst p5
    have e : txT (.mk 1 0 neg L ⟨#[]⟩ [] []) = wtx (zv neg L) := by rw [txT, if_pos rfl]
    rw [e]
    exact said_int w a ai at' c ci ct neg L p1 hD hA
  · have e : txT (.mk 2 num neg L s I T) = atomTx (byt s) := by rw [txT, if_neg (by decide), if_pos rfl]
    rw [e]
    exact said_atom w a ai at' L.length c I.length ci T.length ct neg s num (okF_atom hf)
  · have e : txT (.mk 3 num neg L s I T) = [35, 82, 101, 102, 60] ++ (Lib.itoa num ++ [62]) := by rw [txT, if_neg (by decide), if_neg (by decide), if_pos rfl]
    rw [e] at hlen ⊢
    have hn := okF_num (by decide) hf
    exact said_ref w a ai at' L.length c I.length ci T.length ct neg s num hn.1 hn.2 hlen
  · have e : txT (.mk 4 num neg L s I T) = [35, 70, 117, 110, 60] ++ (Lib.itoa num ++ [62]) := by rw [txT, if_neg (by decide), if_neg (by decide), if_neg (by decide), if_pos rfl]
    rw [e] at hlen ⊢
    have hn := okF_num (by decide) hf
    exact said_fun w a ai at' L.length c I.length ci T.length ct neg s num hn.1 hn.2 hlen
  · have e : txT (.mk 5 num neg L s I T) = [60] ++ (Lib.itoa num ++ [62]) := by rw [txT, if_neg (by decide), if_neg (by decide), if_neg (by decide), if_neg (by decide), if_pos rfl]
    rw [e] at hlen ⊢
    have hn := okF_num (by decide) hf
    exact said_pid w a ai at' L.length c I.length ci T.length ct neg s num hn.1 hn.2 hlen
  · have e0 := okF_tup hf
    subst e0
    have e : txT (.mk 6 num neg L s I []) = 123 :: ((txC I).drop 1 ++ [125]) := by rw [txT, if_neg (by decide), if_neg (by decide), if_neg (by decide), if_neg (by decide), if_neg (by decide), if_pos rfl]
    rw [e] at hlen ⊢
    exact said_tup d ih w a ai at' L.length c ci ct neg s num I hI hoI hsI hlen
  · rcases okF_tail2 hf with rfl | ⟨u, rfl, _⟩
    · have e : txT (.mk 7 num neg L s I []) = 91 :: ((txC I).drop 1 ++ [93]) := by rw [txT, if_neg (by decide), if_neg (by decide), if_neg (by decide), if_neg (by decide), if_neg (by decide), if_neg (by decide), if_pos rfl, txB, List.append_nil]
      rw [e] at hlen ⊢
      exact said_list0 d ih w a ai at' L.length c ci ct neg s num I hI hoI hsI hlen
    · have e : txT (.mk 7 num neg L s I [u]) = 91 :: ((txC I).drop 1 ++ (124 :: txT u) ++ [93]) := by rw [txT, if_neg (by decide), if_neg (by decide), if_neg (by decide), if_neg (by decide), if_neg (by decide), if_neg (by decide), if_pos rfl, txB]
      rw [e] at hlen ⊢
      have hu : tsz u ≤ 1353245080330 := by have := tszs_get [u] 0 (by simp); simp at this; omega
      exact said_list1 d ih w a ai at' L.length c ci ct neg s num I hI hoI hsI u hT' (okR_get [u] 0 (by simp) hoT) hu hlen
theorem said_all : ∀ d, SaidS d
  | 0 => fun _ _ _ h => h.elim
  | d + 1 => said_step d (said_all d)

set_option maxHeartbeats 1000000 in
set_option maxRecDepth 100000 in
/-- Text of the reference. -/
theorem text3_in (d : Nat) (w : World) (cs : List Value) (t : Tm) (h : In w d cs t) (hs : tsz t ≤ 1353245080330) (hc : cntT t ≤ 6000) :
    Calls Tryz.prog 17 #[.agg cs.toArray] w fun e w' => e = .returned (.string (str (txS t))) ∧ Upd [] w w' := by
  have HR : Hid (∀ W, Upd [] w W → Calls Tryz.prog 15 #[.agg cs.toArray] W fun e w' => e = .returned (.bool (okS t)) ∧ Upd [] W w') := fun W hu => right2_in d W cs t (In.mono hu _ _ _ h) hs hc
  have hsev := h.seven
  cases hok : okS t with
  | false =>
    have e : str (txS t) = ⟨#[]⟩ := by unfold txS; rw [hok]; rfl
    rw [e]
    rw [hok] at HR
    obtain ⟨C, hC⟩ : ∃ C, C = cs.toArray := ⟨_, rfl⟩
    rw [← hC] at hsev HR ⊢
    have tb0 : Tb (w.alloc (.cells C 26)) w.heap.size C := Tb.new _ _ _ rfl
    have HU : Hid (Upd [] w (w.alloc (.cells C 26))) := (Upd.refl [] w).alloc _
    clear h hs hc hC hok e
    go_enter Tryz.func17, Tryz.ntmps17
    go_wp2_with (first | (refine load_T _ rfl _ rfl _ _ rfl tb0 hsev ?_) | fail)
    refine Calls.mono (HR.out _ HU.out) ?_
    rintro e w1 ⟨rfl, u1⟩
    go_wp2
    go_ret
    exact ⟨rfl, HU.out.trans u1⟩
  | true =>
    have hok' : okT' t = true := by unfold okS at hok; rw [Bool.and_eq_true] at hok; exact hok.1
    have e : txS t = txT t := by unfold txS; rw [if_pos hok]
    obtain ⟨R, hR⟩ : ∃ R, R = str (txS t) := ⟨_, rfl⟩
    have HS : Hid (∀ W, Upd [] w W → Calls Tryz.prog 56 #[.agg cs.toArray] W fun e w' => e = .returned (.string R) ∧ Upd [] W w') := fun W hu => by rw [hR, e]; exact said_all d W cs t (In.mono hu _ _ _ h) hok' hs (tx_short t hok (In.dig _ _ _ h))
    rw [← hR]
    rw [hok] at HR
    obtain ⟨C, hC⟩ : ∃ C, C = cs.toArray := ⟨_, rfl⟩
    rw [← hC] at hsev HS HR ⊢
    have tb0 : Tb (w.alloc (.cells C 26)) w.heap.size C := Tb.new _ _ _ rfl
    have HU : Hid (Upd [] w (w.alloc (.cells C 26))) := (Upd.refl [] w).alloc _
    clear h hs hc hC hok hok' e hR
    go_enter Tryz.func17, Tryz.ntmps17
    go_wp2_with (first | (refine load_T _ rfl _ rfl _ _ rfl tb0 hsev ?_) | fail)
    refine Calls.mono (HR.out _ HU.out) ?_
    rintro e w1 ⟨rfl, u1⟩
    have tb1 := tb0.mono u1 (by simp)
    go_wp2_with (first | (refine load_T _ rfl _ rfl _ _ rfl tb1 hsev ?_) | fail)
    refine Calls.mono (HS.out _ (HU.out.trans u1)) ?_
    rintro e w2 ⟨rfl, u2⟩
    go_wp2
    go_ret
    exact ⟨rfl, (HU.out.trans u1).trans u2⟩

end Go.Proofs.YtabknipgbmdipaaGreatDoor
