/- Parse, of an integer's text. -/
import Derived.Test.YtpjlhpopoacjdaaDoorJB
import Derived.Test.YtpjlhpopoacjdaaDoorScal
import Derived.Test.YtpjlhpopoacjdaaDoorSumT
import Derived.WalkSpells
import Derived.Lib.Strings
namespace Go.Proofs.YtpjlhpopoacjdaaDoor
open Go.RowKit

theorem bs_size (T : List Nat) : (bs T).size = T.length := by simp [bs, ByteArray.size]

set_option maxHeartbeats 400000 in
set_option maxRecDepth 100000 in
theorem HasPrefix_any (s : ByteArray) (w : World) (hs : s.size ≤ 1000) (h0 : 0 < s.size) :
    Calls Tryd.prog 85 #[.string s, .string ⟨#[45]⟩] w fun e w' => e = .returned (.bool ((s.extract 0 1).toList == [45])) ∧ w' = w := by
  go_enter Tryd.func85, Tryd.ntmps85
  go_wp2
  go_ret
  exact ⟨rfl, rfl⟩

set_option maxHeartbeats 400000 in
set_option maxRecDepth 100000 in
theorem Cut_any (s : ByteArray) (w : World) (hs : s.size ≤ 1000) (h0 : 0 < s.size) :
    Calls Tryd.prog 56 #[.string s, .string ⟨#[45]⟩] w fun e w' => w' = w ∧
      ((((s.extract 0 1).toList == [45]) = true ∧ e = .returned (.tuple #[.string (s.extract 1 s.size), .bool true])) ∨ (((s.extract 0 1).toList == [45]) = false ∧ e = .returned (.tuple #[.string s, .bool false]))) := by
  have HP : Hid (Calls _ _ _ _ _) := HasPrefix_any s w hs h0
  obtain ⟨b, hb⟩ : ∃ b, b = ((s.extract 0 1).toList == [45]) := ⟨_, rfl⟩
  rw [← hb] at HP ⊢
  clear hb
  cases b
  · go_enter Tryd.func56, Tryd.ntmps56
    go_wp2_with (first | (go_at_call 85; refine (Hid.out HP).mono ?_; rintro e w1 ⟨rfl, rfl⟩) | go_in)
    go_ret2
    exact ⟨rfl, Or.inr ⟨trivial, rfl⟩⟩
  · go_enter Tryd.func56, Tryd.ntmps56
    go_wp2_with (first | (go_at_call 85; refine (Hid.out HP).mono ?_; rintro e w1 ⟨rfl, rfl⟩) | go_in)
    go_ret2
    exact ⟨rfl, Or.inl ⟨trivial, rfl⟩⟩

/-- What digits, the highest one first, come to. -/
theorem pv_snoc (H : List Nat) (k : Nat) (hk : k < H.length) : dval (H.take (k + 1)).reverse = 10 * dval (H.take k).reverse + (H.getD k 0 - 48) := by
  rw [List.take_succ_eq_append_getElem hk, List.reverse_append]
  simp only [List.reverse_cons, List.reverse_nil, List.nil_append, List.cons_append, dval]
  rw [List.getD_eq_getElem?_getD, List.getElem?_eq_getElem hk]
  simp only [Option.getD_some]
  omega

theorem pv_le (H : List Nat) (k : Nat) : dval (H.take k).reverse ≤ dval H.reverse := by
  have h : H.reverse = (H.drop k).reverse ++ (H.take k).reverse := by rw [← List.reverse_append, List.take_append_drop]
  rw [h, dval_append]
  have h1 : 1 ≤ 10 ^ (H.drop k).reverse.length := Nat.pow_pos (by decide)
  have h2 := Nat.mul_le_mul_right (dval (H.take k).reverse) h1
  omega

set_option maxHeartbeats 1000000 in
set_option maxRecDepth 100000 in
/-- Behind the sign. -/
theorem Parse_core (s d : ByteArray) (H : List Nat) (n : Nat) (neg : Bool) (w : World) (_hs : s.size ≤ 1000) (_h0 : 0 < s.size) (hd : d.size = H.length) (hdk : ∀ k (h : k < d.size), (d[k]'h).toNat = H.getD k 0) (hdig : IsDig H) (hl : 0 < H.length) (hl2 : H.length ≤ 1000) (hv : dval H.reverse = n) (hn : n < 4294967296 ^ 32)
    (hcut : ∀ W, Calls Tryd.prog 56 #[.string s, .string ⟨#[45]⟩] W fun e w' => w' = W ∧ e = .returned (.tuple #[.string d, .bool neg]))
    (hfirst : (H.getD 0 0 ≠ 48) ∨ (s.toList == [48]) = true) :
    Calls Tryd.prog 28 #[.string s] w fun e w' => Res w' e (sg neg n) ∧ Upd [] w w' := by
  have HC : Hid _ := hcut
  have hdne : d.toList.isEmpty = false := by
    rw [← decide_eq_emptyBytes]
    simp only [decide_eq_false_iff_not]
    intro e; subst e; simp at hd; omega
  have hsz0 : 0 < d.size := by omega
  have hx0 := hdk 0 hsz0
  have hd0 := hdig (H.getD 0 0) (by rw [List.getD_eq_getElem?_getD, List.getElem?_eq_getElem hl]; exact List.getElem_mem hl)
  obtain ⟨x0, hx00⟩ : ∃ x, x = H.getD 0 0 := ⟨_, rfl⟩
  rw [← hx00] at hx0 hd0 hfirst
  have HDK : Hid _ := hdk
  have HDS : Hid _ := hd
  have HV : Hid _ := hv
  have HN : Hid _ := hn
  have hdl : d.size ≤ 1000 := by omega
  have hU0 := (Upd.refl [] w).alloc (.cells #[.int .u8 0, .bool false, .slice none 0 0, .string ⟨#[]⟩, .int .i64 0, .slice none 0 0, .slice none 0 0] 26)
  have hT0 := Tb.new w #[.int .u8 0, .bool false, .slice none 0 0, .string ⟨#[]⟩, .int .i64 0, .slice none 0 0, .slice none 0 0] _ rfl
  have HUU : Hid _ := hU0
  have HTT : Hid _ := hT0
  clear hx00 hdk hd hv hn hcut hU0 hT0
  rcases hfirst with hf | hf
  · have hf2 : ((x0 : Int) == 48) = false := by simp; omega
    go_enter Tryd.func28, Tryd.ntmps28
    go_wp2_with fail
    refine (HC.out _).mono ?_
    rintro e w1 ⟨rfl, rfl⟩
    go_wp2_with fail
    go_loopw [6, 28] (fun lm i wr => ∃ k c' : Nat, ∃ a' : Option Addr, ∃ M : List Nat, k ≤ d.size ∧ i = .int .i64 k ∧ lm = .slice a' M.length c' ∧ Norm M (dval (H.take k).reverse) ∧ At wr a' M ∧ Upd [] w wr ∧ Tb wr w.heap.size #[.int .u8 0, .bool false, .slice none 0 0, .string ⟨#[]⟩, .int .i64 0, .slice none 0 0, .slice none 0 0]) (fun _ i _ => d.size - (intOf i).toNat)
    case atStart => exact ⟨0, 0, none, [], Nat.zero_le _, rfl, rfl, by simp only [List.take_zero, List.reverse_nil, dval]; exact Norm.zero, At.nil _ _, HUU.out, HTT.out⟩
    case round =>
      obtain ⟨k, c', a', M, hk1, rfl, rfl, nM, hM, hU, hT⟩ := hrel
      have hM32 : M.length ≤ 32 := (nM.len_le 32).2 (Nat.lt_of_le_of_lt (pv_le H k) (by rw [HV.out]; exact HN.out))
      clear hx0
      by_cases hk : k < d.size
      · have hxk := HDK.out k hk
        have hkH : k < H.length := by rw [← HDS.out]; exact hk
        have hdk := hdig (H.getD k 0) (by rw [List.getD_eq_getElem?_getD, List.getElem?_eq_getElem hkH]; exact List.getElem_mem hkH)
        have HPV : Hid _ := pv_snoc H k hkH
        obtain ⟨x, hx⟩ : ∃ x, x = H.getD k 0 := ⟨_, rfl⟩
        rw [← hx] at hxk hdk HPV
        clear hx
        go_wp2_with fail
        refine (scaled_any a' _ _ c' 10 (x - 48) _ M wr rfl (by omega) (by omega) hM nM (by omega) (by omega)).mono ?_
        rintro e w2 ⟨hU2, a2, c2, M2, rfl, nM2, hM2, hl2', hc21, hc22⟩
        have hT2 := hT.mono hU2 (by simp)
        have hU02 := hU.trans hU2
        clear hT hU
        go_wp2
        go_roundw
        case rel => exact ⟨k + 1, c2, a2, M2, by omega, by go_num, rfl, by rw [HPV.out]; exact nM2, hM2, hU02, hT2⟩
        case measure => simp [intOf]; omega
      · have hkd : k = d.size := by omega
        have hval : dval (H.take k).reverse = n := by rw [List.take_of_length_le (by rw [hkd, HDS.out]; exact Nat.le_refl _)]; exact HV.out
        rw [hval] at nM
        clear hval
        go_wp2_with fail
        refine (fitting_any a' c' n neg M (sg neg n) wr (by omega) nM hM rfl).mono ?_
        rintro e w2 ⟨hR, hU2⟩
        have hT2 := hT.mono hU2 (by simp)
        have hU02 := hU.trans hU2
        clear hT hU hU2
        rcases hR with ⟨hs', neg', a2, c2, M2, rfl, hTI⟩ | ⟨hs', rfl⟩
        · have HTI : Hid _ := hTI
          have HS : Hid _ := hs'
          clear hTI hs'
          go_wp2_with (refine store_V _ rfl _ _ rfl _ _ _ _ _ _ _ _ _ _ _ _ _ _ _ rfl rfl hT2 rfl ?_; intro w3 hT3 hU3)
          exact ret_Tb Tryd.results28 rfl _ _ _ rfl hT3 rfl rfl ⟨Or.inl ⟨HS.out, neg', a2, c2, M2, rfl, ⟨HTI.out.norm, HTI.out.mem.keep hT2 hU3, HTI.out.len, HTI.out.sgn⟩⟩, hU02.then hU3 (by simp)⟩
        · have HS : Hid _ := hs'
          clear hs'
          go_wp2_with (refine store_V _ rfl _ _ rfl _ _ _ _ _ _ _ _ _ _ _ _ _ _ _ rfl rfl hT2 rfl ?_; intro w3 hT3 hU3)
          exact ret_Tb Tryd.results28 rfl _ _ _ rfl hT3 rfl rfl ⟨Or.inr ⟨HS.out, rfl⟩, hU02.then hU3 (by simp)⟩
  · have hf3 : (!(s.toList == [48])) = false := by rw [hf]; rfl
    obtain ⟨b48, hb48⟩ : ∃ b, b = ((x0 : Int) == 48) := ⟨_, rfl⟩
    rw [hf] at hf3
    rcases Bool.eq_false_or_eq_true ((x0 : Int) == 48) with hq | hq
    all_goals
      clear hb48
      go_enter Tryd.func28, Tryd.ntmps28
      go_wp2_with fail
      refine (HC.out _).mono ?_
      rintro e w1 ⟨rfl, rfl⟩
      go_wp2_with fail
      go_loopw [6, 28] (fun lm i wr => ∃ k c' : Nat, ∃ a' : Option Addr, ∃ M : List Nat, k ≤ d.size ∧ i = .int .i64 k ∧ lm = .slice a' M.length c' ∧ Norm M (dval (H.take k).reverse) ∧ At wr a' M ∧ Upd [] w wr ∧ Tb wr w.heap.size #[.int .u8 0, .bool false, .slice none 0 0, .string ⟨#[]⟩, .int .i64 0, .slice none 0 0, .slice none 0 0]) (fun _ i _ => d.size - (intOf i).toNat)
      case atStart => exact ⟨0, 0, none, [], Nat.zero_le _, rfl, rfl, by simp only [List.take_zero, List.reverse_nil, dval]; exact Norm.zero, At.nil _ _, HUU.out, HTT.out⟩
      case round =>
        obtain ⟨k, c', a', M, hk1, rfl, rfl, nM, hM, hU, hT⟩ := hrel
        have hM32 : M.length ≤ 32 := (nM.len_le 32).2 (Nat.lt_of_le_of_lt (pv_le H k) (by rw [HV.out]; exact HN.out))
        clear hx0
        by_cases hk : k < d.size
        · have hxk := HDK.out k hk
          have hkH : k < H.length := by rw [← HDS.out]; exact hk
          have hdk := hdig (H.getD k 0) (by rw [List.getD_eq_getElem?_getD, List.getElem?_eq_getElem hkH]; exact List.getElem_mem hkH)
          have HPV : Hid _ := pv_snoc H k hkH
          obtain ⟨x, hx⟩ : ∃ x, x = H.getD k 0 := ⟨_, rfl⟩
          rw [← hx] at hxk hdk HPV
          clear hx
          go_wp2_with fail
          refine (scaled_any a' _ _ c' 10 (x - 48) _ M wr rfl (by omega) (by omega) hM nM (by omega) (by omega)).mono ?_
          rintro e w2 ⟨hU2, a2, c2, M2, rfl, nM2, hM2, hl2', hc21, hc22⟩
          have hT2 := hT.mono hU2 (by simp)
          have hU02 := hU.trans hU2
          clear hT hU
          go_wp2
          go_roundw
          case rel => exact ⟨k + 1, c2, a2, M2, by omega, by go_num, rfl, by rw [HPV.out]; exact nM2, hM2, hU02, hT2⟩
          case measure => simp [intOf]; omega
        · have hkd : k = d.size := by omega
          have hval : dval (H.take k).reverse = n := by rw [List.take_of_length_le (by rw [hkd, HDS.out]; exact Nat.le_refl _)]; exact HV.out
          rw [hval] at nM
          clear hval
          go_wp2_with fail
          refine (fitting_any a' c' n neg M (sg neg n) wr (by omega) nM hM rfl).mono ?_
          rintro e w2 ⟨hR, hU2⟩
          have hT2 := hT.mono hU2 (by simp)
          have hU02 := hU.trans hU2
          clear hT hU hU2
          rcases hR with ⟨hs', neg', a2, c2, M2, rfl, hTI⟩ | ⟨hs', rfl⟩
          · have HTI : Hid _ := hTI
            have HS : Hid _ := hs'
            clear hTI hs'
            go_wp2_with (refine store_V _ rfl _ _ rfl _ _ _ _ _ _ _ _ _ _ _ _ _ _ _ rfl rfl hT2 rfl ?_; intro w3 hT3 hU3)
            exact ret_Tb Tryd.results28 rfl _ _ _ rfl hT3 rfl rfl ⟨Or.inl ⟨HS.out, neg', a2, c2, M2, rfl, ⟨HTI.out.norm, HTI.out.mem.keep hT2 hU3, HTI.out.len, HTI.out.sgn⟩⟩, hU02.then hU3 (by simp)⟩
          · have HS : Hid _ := hs'
            clear hs'
            go_wp2_with (refine store_V _ rfl _ _ rfl _ _ _ _ _ _ _ _ _ _ _ _ _ _ _ rfl rfl hT2 rfl ?_; intro w3 hT3 hU3)
            exact ret_Tb Tryd.results28 rfl _ _ _ rfl hT3 rfl rfl ⟨Or.inr ⟨HS.out, rfl⟩, hU02.then hU3 (by simp)⟩

end Go.Proofs.YtpjlhpopoacjdaaDoor
