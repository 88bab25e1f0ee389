/- Parse, of whatever text. -/
import Derived.Test.YtpeganecbjefoaaDoorParT
namespace Go.Proofs.YtpeganecbjefoaaDoor
open Go.RowKit

/-- What is told of digits, if they are digits. -/
def POut (w' : World) (e : Ending) (neg : Bool) (H : List Nat) : Prop :=
  (¬ IsDig H ∧ e = .returned (.tuple #[(.agg #[.int .u8 0, .bool false, .slice none 0 0, .string ⟨#[]⟩, .int .i64 0, .slice none 0 0, .slice none 0 0]), .bool false])) ∨ (IsDig H ∧ Res w' e (sg neg (dval H.reverse)))
theorem POut.bad {w' : World} {neg : Bool} {H : List Nat} (h : ¬ IsDig H) : POut w' (.returned (.tuple #[(.agg #[.int .u8 0, .bool false, .slice none 0 0, .string ⟨#[]⟩, .int .i64 0, .slice none 0 0, .slice none 0 0]), .bool false])) neg H := Or.inl ⟨h, rfl⟩
theorem POut.big {w' : World} {neg : Bool} {H : List Nat} (h : ¬ dval H.reverse < 4294967296 ^ 32) : POut w' (.returned (.tuple #[(.agg #[.int .u8 0, .bool false, .slice none 0 0, .string ⟨#[]⟩, .int .i64 0, .slice none 0 0, .slice none 0 0]), .bool false])) neg H := by
  by_cases hd : IsDig H
  · exact Or.inr ⟨hd, Or.inr ⟨by rw [sg_abs]; exact h, rfl⟩⟩
  · exact Or.inl ⟨hd, rfl⟩
theorem not_dig {H : List Nat} (k : Nat) (hk : k < H.length) (h : H.getD k 0 < 48 ∨ 57 < H.getD k 0) : ¬ IsDig H := fun hd => by
  have := hd (H.getD k 0) (by rw [List.getD_eq_getElem?_getD, List.getElem?_eq_getElem hk]; exact List.getElem_mem hk)
  omega

set_option maxHeartbeats 2000000 in
set_option maxRecDepth 100000 in
theorem Parse_gen (s d : ByteArray) (H : List Nat) (neg : Bool) (w : World) (_hs : s.size ≤ 1000) (_h0 : 0 < s.size) (hd : d.size = H.length) (hdk : ∀ k (h : k < d.size), (d[k]'h).toNat = H.getD k 0) (hl : 0 < H.length) (hl2 : H.length ≤ 500)
    (hcut : ∀ W, Calls Tryd.prog 56 #[.string s, .string ⟨#[45]⟩] W fun e w' => w' = W ∧ e = .returned (.tuple #[.string d, .bool neg]))
    (hfirst : H.getD 0 0 ≠ 48) :
    Calls Tryd.prog 28 #[.string s] w fun e w' => POut w' e neg H ∧ Upd [] w w' := by
  have HC : Hid _ := hcut
  have hdne : d.toList.isEmpty = false := by
    rw [← decide_eq_emptyBytes]
    simp only [decide_eq_false_iff_not]
    intro e; subst e; simp at hd; omega
  have hsz0 : 0 < d.size := by omega
  have hx0 := hdk 0 hsz0
  obtain ⟨x0, hx00⟩ : ∃ x, x = H.getD 0 0 := ⟨_, rfl⟩
  rw [← hx00] at hx0 hfirst
  have HDK : Hid _ := hdk
  have HDS : Hid (d.size = H.length) := hd
  have hdl : d.size ≤ 1000 := by omega
  have hU0 := (Upd.refl [] w).alloc (.cells #[.int .u8 0, .bool false, .slice none 0 0, .string ⟨#[]⟩, .int .i64 0, .slice none 0 0, .slice none 0 0] 26)
  have hT0 := Tb.new w #[.int .u8 0, .bool false, .slice none 0 0, .string ⟨#[]⟩, .int .i64 0, .slice none 0 0, .slice none 0 0] _ rfl
  have HUU : Hid _ := hU0
  have HTT : Hid _ := hT0
  clear hx00 hdk hd hcut hU0 hT0
  have hf2 : ((x0 : Int) == 48) = false := by simp; omega
  go_enter Tryd.func28, Tryd.ntmps28
  go_wp2_with fail
  refine (HC.out _).mono ?_
  rintro e w1 ⟨rfl, rfl⟩
  go_wp2_with fail
  go_loopw [6, 28] (fun lm i wr => ∃ k c' : Nat, ∃ a' : Option Addr, ∃ M : List Nat, k ≤ d.size ∧ i = .int .i64 k ∧ lm = .slice a' M.length c' ∧ Norm M (dval (H.take k).reverse) ∧ At wr a' M ∧ M.length ≤ 33 ∧ (∀ i, i < k → 48 ≤ H.getD i 0 ∧ H.getD i 0 ≤ 57) ∧ Upd [] w wr ∧ Tb wr w.heap.size #[.int .u8 0, .bool false, .slice none 0 0, .string ⟨#[]⟩, .int .i64 0, .slice none 0 0, .slice none 0 0]) (fun _ i _ => d.size - (intOf i).toNat)
  case atStart => exact ⟨0, 0, none, [], Nat.zero_le _, rfl, rfl, by simp only [List.take_zero, List.reverse_nil, dval]; exact Norm.zero, At.nil _ _, by simp, fun i hi => by omega, HUU.out, HTT.out⟩
  case round =>
    obtain ⟨k, c', a', M, hk1, rfl, rfl, nM, hM, hM33, hdg, hU, hT⟩ := hrel
    have HDG : Hid (∀ i, i < k → 48 ≤ H.getD i 0 ∧ H.getD i 0 ≤ 57) := hdg
    clear hx0 hdg
    by_cases hk : k < d.size
    · have hxk := HDK.out k hk
      have hkH : k < H.length := by rw [← HDS.out]; exact hk
      have HPV : Hid _ := pv_snoc H k hkH
      have HND : Hid (H.getD k 0 < 48 ∨ 57 < H.getD k 0 → ¬ IsDig H) := fun h => not_dig k hkH h
      obtain ⟨x, hx⟩ : ∃ x, x = H.getD k 0 := ⟨_, rfl⟩
      have HX : Hid (x = H.getD k 0) := hx
      rw [← hx] at hxk HPV HND
      clear hx
      by_cases hx1 : x < 48
      · have hlt : decide ((x : Int) < 48) = true := by simp; omega
        have HB : Hid (¬ IsDig H) := HND.out (Or.inl hx1)
        go_wp2_with (refine store_V _ rfl _ _ rfl _ _ _ _ _ _ _ _ _ _ _ _ _ _ _ rfl rfl hT rfl ?_; intro w3 hT3 hU3)
        exact ret_Tb Tryd.results28 rfl _ _ _ rfl hT3 rfl rfl ⟨POut.bad HB.out, hU.then hU3 (by simp)⟩
      · by_cases hx2 : 57 < x
        · have hlt : decide ((x : Int) < 48) = false := by simp; omega
          have hgt : decide ((x : Int) > 57) = true := by simp; omega
          have HB : Hid (¬ IsDig H) := HND.out (Or.inr hx2)
          go_wp2_with (refine store_V _ rfl _ _ rfl _ _ _ _ _ _ _ _ _ _ _ _ _ _ _ rfl rfl hT rfl ?_; intro w3 hT3 hU3)
          exact ret_Tb Tryd.results28 rfl _ _ _ rfl hT3 rfl rfl ⟨POut.bad HB.out, hU.then hU3 (by simp)⟩
        · by_cases hM32 : M.length ≤ 32
          · have hlt : decide ((x : Int) < 48) = false := by simp; omega
            have hgt : decide ((x : Int) > 57) = false := by simp; omega
            have hgm : decide ((M.length : Int) > 32) = false := by simp; omega
            go_wp2_with fail
            refine (scaled_any a' _ _ c' 10 (x - 48) _ M wr rfl (by omega) (by omega) hM nM (by omega) (by omega)).mono ?_
            rintro e w2 ⟨hU2, a2, c2, M2, rfl, nM2, hM2, hl2', hc21, hc22⟩
            have hT2 := hT.mono hU2 (by simp)
            have hU02 := hU.trans hU2
            clear hT hU
            go_wp2
            go_roundw
            case rel => exact ⟨k + 1, c2, a2, M2, by omega, by go_num, rfl, by rw [HPV.out]; exact nM2, hM2, by omega, fun i hi => by
              by_cases hik : i = k
              · rw [hik, ← HX.out]; omega
              · exact HDG.out i (by omega), hU02, hT2⟩
            case measure => simp [intOf]; omega
          · have hlt : decide ((x : Int) < 48) = false := by simp; omega
            have hgt : decide ((x : Int) > 57) = false := by simp; omega
            have hgm : decide ((M.length : Int) > 32) = true := by simp; omega
            have HBG : Hid (¬ dval H.reverse < 4294967296 ^ 32) := fun h => hM32 ((nM.len_le 32).2 (Nat.lt_of_le_of_lt (pv_le H k) h))
            go_wp2_with (refine store_V _ rfl _ _ rfl _ _ _ _ _ _ _ _ _ _ _ _ _ _ _ rfl rfl hT rfl ?_; intro w3 hT3 hU3)
            exact ret_Tb Tryd.results28 rfl _ _ _ rfl hT3 rfl rfl ⟨POut.big HBG.out, hU.then hU3 (by simp)⟩
    · have hkd : k = d.size := by omega
      have HIS : Hid (IsDig H) := fun c hc => by
        obtain ⟨i, hi, e⟩ := List.mem_iff_getElem.1 hc
        have := HDG.out i (by rw [hkd, HDS.out]; exact hi)
        rw [List.getD_eq_getElem?_getD, List.getElem?_eq_getElem hi] at this
        rw [← e]; exact this
      rw [List.take_of_length_le (by rw [hkd, HDS.out]; exact Nat.le_refl _)] at nM
      go_wp2_with fail
      refine (fitting_any a' c' _ neg M (sg neg (dval H.reverse)) wr (by omega) nM hM rfl).mono ?_
      rintro e w2 ⟨hR, hU2⟩
      have hT2 := hT.mono hU2 (by simp)
      have hU02 := hU.trans hU2
      clear hT hU hU2
      rcases hR with ⟨hs', neg', a2, c2, M2, rfl, hTI⟩ | ⟨hs', rfl⟩
      · have HTI : Hid _ := hTI
        have HS : Hid _ := hs'
        clear hTI hs'
        go_wp2_with (refine store_V _ rfl _ _ rfl _ _ _ _ _ _ _ _ _ _ _ _ _ _ _ rfl rfl hT2 rfl ?_; intro w3 hT3 hU3)
        exact ret_Tb Tryd.results28 rfl _ _ _ rfl hT3 rfl rfl ⟨Or.inr ⟨HIS.out, Or.inl ⟨HS.out, neg', a2, c2, M2, rfl, ⟨HTI.out.norm, HTI.out.mem.keep hT2 hU3, HTI.out.len, HTI.out.sgn⟩⟩⟩, hU02.then hU3 (by simp)⟩
      · have HS : Hid _ := hs'
        clear hs'
        go_wp2_with (refine store_V _ rfl _ _ rfl _ _ _ _ _ _ _ _ _ _ _ _ _ _ _ rfl rfl hT2 rfl ?_; intro w3 hT3 hU3)
        exact ret_Tb Tryd.results28 rfl _ _ _ rfl hT3 rfl rfl ⟨Or.inr ⟨HIS.out, Or.inr ⟨HS.out, rfl⟩⟩, hU02.then hU3 (by simp)⟩

set_option maxHeartbeats 1000000 in
set_option maxRecDepth 100000 in
/-- No digits. -/
theorem Parse_empty (s : ByteArray) (neg : Bool) (w : World)
    (hcut : ∀ W, Calls Tryd.prog 56 #[.string s, .string ⟨#[45]⟩] W fun e w' => w' = W ∧ e = .returned (.tuple #[.string ⟨#[]⟩, .bool neg])) :
    Calls Tryd.prog 28 #[.string s] w fun e w' => e = .returned (.tuple #[(.agg #[.int .u8 0, .bool false, .slice none 0 0, .string ⟨#[]⟩, .int .i64 0, .slice none 0 0, .slice none 0 0]), .bool false]) ∧ Upd [] w w' := by
  have HC : Hid _ := hcut
  have hU0 := (Upd.refl [] w).alloc (.cells #[.int .u8 0, .bool false, .slice none 0 0, .string ⟨#[]⟩, .int .i64 0, .slice none 0 0, .slice none 0 0] 26)
  have hT0 := Tb.new w #[.int .u8 0, .bool false, .slice none 0 0, .string ⟨#[]⟩, .int .i64 0, .slice none 0 0, .slice none 0 0] _ rfl
  clear hcut
  go_enter Tryd.func28, Tryd.ntmps28
  go_wp2_with fail
  refine (HC.out _).mono ?_
  rintro e w1 ⟨rfl, rfl⟩
  go_wp2_with (refine store_V _ rfl _ _ rfl _ _ _ _ _ _ _ _ _ _ _ _ _ _ _ rfl rfl hT0 rfl ?_; intro w3 hT3 hU3)
  exact ret_Tb Tryd.results28 rfl _ _ _ rfl hT3 rfl rfl ⟨rfl, hU0.then hU3 (by simp)⟩

set_option maxHeartbeats 1000000 in
set_option maxRecDepth 100000 in
/-- A nought ahead of others, or of a sign. -/
theorem Parse_lead (s d : ByteArray) (neg : Bool) (w : World) (_hs : s.size ≤ 1000) (hsz0 : 0 < d.size) (hx0 : (d[0]'hsz0).toNat = 48) (hne : (s.toList == [48]) = false)
    (hcut : ∀ W, Calls Tryd.prog 56 #[.string s, .string ⟨#[45]⟩] W fun e w' => w' = W ∧ e = .returned (.tuple #[.string d, .bool neg])) :
    Calls Tryd.prog 28 #[.string s] w fun e w' => e = .returned (.tuple #[(.agg #[.int .u8 0, .bool false, .slice none 0 0, .string ⟨#[]⟩, .int .i64 0, .slice none 0 0, .slice none 0 0]), .bool false]) ∧ Upd [] w w' := by
  have HC : Hid _ := hcut
  have hdne : d.toList.isEmpty = false := by
    rw [← decide_eq_emptyBytes]
    simp only [decide_eq_false_iff_not]
    intro e; subst e; simp at hsz0
  have hU0 := (Upd.refl [] w).alloc (.cells #[.int .u8 0, .bool false, .slice none 0 0, .string ⟨#[]⟩, .int .i64 0, .slice none 0 0, .slice none 0 0] 26)
  have hT0 := Tb.new w #[.int .u8 0, .bool false, .slice none 0 0, .string ⟨#[]⟩, .int .i64 0, .slice none 0 0, .slice none 0 0] _ rfl
  clear hcut
  go_enter Tryd.func28, Tryd.ntmps28
  go_wp2_with fail
  refine (HC.out _).mono ?_
  rintro e w1 ⟨rfl, rfl⟩
  go_wp2_with (refine store_V _ rfl _ _ rfl _ _ _ _ _ _ _ _ _ _ _ _ _ _ _ rfl rfl hT0 rfl ?_; intro w3 hT3 hU3)
  exact ret_Tb Tryd.results28 rfl _ _ _ rfl hT3 rfl rfl ⟨rfl, hU0.then hU3 (by simp)⟩

end Go.Proofs.YtpeganecbjefoaaDoor
