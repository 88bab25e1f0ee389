/- span, by its contract: of whatever function is handed to it. -/
import Derived.Test.YtiapdapkklcliaaGreatDoorLf
import Derived.Lib.Strings
namespace Go.Proofs.YtiapdapkklcliaaGreatDoor
open Go.RowKit

theorem getD_el (l : List UInt8) (k : Nat) (h : k < l.length) : l.getD k 0 = l[k] := by simp [List.getD, h]
theorem byt_get (s : ByteArray) (k : Nat) (h : k < s.size) : (byt s)[k]'(by rw [byt_len]; exact h) = s[k] := rfl

set_option maxHeartbeats 1000000 in
theorem span_gen (s : ByteArray) (fid : Nat) (cp : Array Value) (p : Nat → Bool) (I : Nat → World → Prop) (w : World) (hs : s.size ≤ 1000000000)
    (eg : ∀ args w, (callFunc fid args).run Tryz.prog w = .ok (.enter fid args) w) (h0 : I 0 w)
    (hp : ∀ k (hk : k < s.size) (w : World), I k w → Calls Tryz.prog fid (#[.int .u8 s[k].toNat] ++ cp) w fun e w' => e = .returned (.bool (p k)) ∧ I (k + 1) w') :
    Calls Tryz.prog 35 #[.string s, .func (.func fid) #[] cp] w fun e w' => ∃ n m, n ≤ s.size ∧ e = .returned (.string (s.extract 0 n)) ∧ (∀ j, j < n → p j = true) ∧ (n < s.size → p n = false) ∧ I m w' := by
  have HP : Hid _ := hp
  clear hp
  go_enter Tryz.func35, Tryz.ntmps35
  go_wp2
  go_loopw [5] (fun i wr => ∃ k : Nat, k ≤ s.size ∧ i = .int .i64 k ∧ (∀ j, j < k → p j = true) ∧ I k wr) (fun i _ => s.size - (intOf i).toNat)
  case atStart => exact ⟨0, Nat.zero_le _, rfl, fun j hj => by omega, h0⟩
  case round =>
    obtain ⟨k, hk, rfl, he, hI⟩ := hrel
    have HE : Hid (∀ j, j < k → p j = true) := he
    have HI : Hid (I k _) := hI
    clear he hI
    by_cases hlt : k < s.size
    · go_wp2_with fail
      refine (HP.out k hlt _ HI.out).mono ?_
      rintro e w2 ⟨rfl, hI2⟩
      have HI2 : Hid (I (k + 1) _) := hI2
      clear hI2
      cases hb : p k with
      | true =>
        go_wp2
        go_roundw
        case rel => exact ⟨k + 1, by omega, by go_num, fun j hj => by
          by_cases h : j = k
          · rw [h]; exact hb
          · exact HE.out j (by omega), HI2.out⟩
        case measure => simp [intOf]; omega
      | false =>
        go_wp2
        go_ret
        exact ⟨k, k + 1, hk, rfl, HE.out, fun _ => hb, HI2.out⟩
    · go_wp2
      go_ret
      exact ⟨k, k, hk, rfl, HE.out, fun h => absurd h hlt, HI.out⟩

theorem byt_extract (s : ByteArray) (a b : Nat) : byt (s.extract a b) = ((byt s).take b).drop a := by
  unfold byt
  rw [Lib.extract_data]
  simp [List.drop_take]

theorem span_plain (s : ByteArray) (fid : Nat) (p : UInt8 → Bool) (w : World) (hs : s.size ≤ 1000000000)
    (eg : ∀ args w, (callFunc fid args).run Tryz.prog w = .ok (.enter fid args) w)
    (hp : ∀ (c : UInt8) (w : World), Calls Tryz.prog fid #[.int .u8 c.toNat] w fun e w' => e = .returned (.bool (p c)) ∧ w' = w) :
    Calls Tryz.prog 35 #[.string s, .func (.func fid) #[] #[]] w fun e w' => e = .returned (.string (str ((byt s).take (Sc.span p (byt s))))) ∧ w' = w := by
  refine (span_gen s fid #[] (fun k => p ((byt s).getD k 0)) (fun _ w' => w' = w) w hs eg rfl ?_).mono ?_
  · rintro k hk w rfl
    refine (hp s[k] w).mono ?_
    rintro e w' ⟨rfl, rfl⟩
    refine ⟨ret_bool ?_, rfl⟩
    rw [getD_el _ _ (by rw [byt_len]; exact hk), byt_get]
  · rintro e w' ⟨n, m, hn, rfl, h1, h2, rfl⟩
    have e : Sc.span p (byt s) = n := by
      refine Sc.span_char p _ n (by rw [byt_len]; exact hn) (fun j hj hjn => ?_) (fun h => ?_)
      · have := h1 j hjn
        rwa [getD_el _ _ hj] at this
      · have := h2 (by rw [byt_len] at h; exact h)
        rwa [getD_el _ _ h] at this
    refine ⟨?_, rfl⟩
    rw [e, str_eq (byt_extract s 0 n), List.drop_zero]

set_option maxHeartbeats 400000 in
theorem gap_any (s : ByteArray) (w : World) (hs : s.size ≤ 1000000000) : Calls Tryz.prog 19 #[.string s] w fun e w' => e = .returned (.int .i64 (Sc.gap (byt s))) ∧ Upd [] w w' := by
  go_enter Tryz.func19, Tryz.ntmps19
  go_wp2_with fail
  refine (span_gen s 36 _ (fun k => Sc.inC (Sc.stC false (byt s) k) ((byt s).getD k 0) || Sc.isBlank ((byt s).getD k 0)) (fun k w' => Flag w' w.heap.size (Sc.stC false (byt s) k) ∧ Upd [] w w') _ hs Tryz.call36 ⟨Blk.new w _ _, (Upd.refl [] w).alloc _⟩ ?_).mono ?_
  · rintro k hk w1 ⟨h1, h2⟩
    have hk' : k < (byt s).length := by rw [byt_len]; exact hk
    refine (gap1_any s[k] _ _ w1 h1).mono ?_
    rintro e w' ⟨rfl, h3, h4⟩
    rw [Sc.stC_succ _ _ _ hk', getD_el _ _ hk', byt_get s k hk]
    exact ⟨rfl, h3, h2.then h4 (fun x hx => by simp at hx; omega)⟩
  · rintro e w' ⟨n, m, hn, rfl, h1, h2, _, hu⟩
    have e : Sc.gap (byt s) = n := by
      refine Sc.gapL_char false _ n (by rw [byt_len]; exact hn) (fun j hj hjn => ?_) (fun h => ?_)
      · have := h1 j hjn
        rwa [getD_el _ _ hj] at this
      · have := h2 (by rw [byt_len] at h; exact h)
        rwa [getD_el _ _ h] at this
    have HE : Hid (Sc.gap (byt s) = n) := e
    have HU : Hid (Upd [] w w') := hu
    clear e h1 h2 hu
    go_wp2
    go_ret
    rw [HE.out]
    exact ⟨ret_int rfl, HU.out⟩

end Go.Proofs.YtiapdapkklcliaaGreatDoor
