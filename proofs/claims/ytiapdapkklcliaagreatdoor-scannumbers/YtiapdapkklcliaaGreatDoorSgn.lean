/- readSign, by its contract. -/
import Derived.Test.YtiapdapkklcliaaGreatDoorNam
namespace Go.Proofs.YtiapdapkklcliaaGreatDoor
open Go.RowKit

theorem prefix_take (s t : List UInt8) : t.isPrefixOf s = (s.take t.length == t) := by
  rw [Bool.eq_iff_iff, List.isPrefixOf_iff_prefix, List.prefix_iff_eq_take, beq_iff_eq]
  constructor <;> (intro h; exact h.symm)

set_option maxHeartbeats 400000 in
theorem HasPrefix1_any (s t : ByteArray) (w : World) (_hs : s.size ≤ 1000000000) (_ht : t.size ≤ 1000000000) : Calls Tryz.prog 75 #[.string s, .string t] w fun e w' => e = .returned (.bool ((byt t).isPrefixOf (byt s))) ∧ w' = w := by
  by_cases h : t.size ≤ s.size
  · have e : ((s.extract 0 t.size).toList == t.toList) = (byt t).isPrefixOf (byt s) := by
      rw [beq_str, byt_extract, prefix_take, byt_len]; rfl
    have HE : Hid (((s.extract 0 t.size).toList == t.toList) = (byt t).isPrefixOf (byt s)) := e
    clear e
    go_enter Tryz.func75, Tryz.ntmps75
    go_wp2
    go_ret
    exact ⟨ret_bool HE.out, rfl⟩
  · have e : (byt t).isPrefixOf (byt s) = false := by
      rw [Bool.eq_false_iff]
      intro hc
      have := (List.isPrefixOf_iff_prefix.1 hc).length_le
      rw [byt_len, byt_len] at this
      exact h this
    have HE : Hid ((byt t).isPrefixOf (byt s) = false) := e
    clear e
    go_enter Tryz.func75, Tryz.ntmps75
    go_wp2
    go_ret
    exact ⟨ret_bool HE.out.symm, rfl⟩

set_option maxHeartbeats 400000 in
theorem HasPrefix_any (s t : ByteArray) (w : World) (hs : s.size ≤ 1000000000) (ht : t.size ≤ 1000000000) : Calls Tryz.prog 30 #[.string s, .string t] w fun e w' => e = .returned (.bool ((byt t).isPrefixOf (byt s))) ∧ w' = w := by
  go_enter Tryz.func30, Tryz.ntmps30
  go_wp2_with (go_at_call 75; refine (HasPrefix1_any _ _ _ hs ht).mono ?_; rintro e w' ⟨rfl, rfl⟩)
  go_ret
  exact ⟨rfl, rfl⟩

theorem sign_short (k : Nat) : (Sc.signs.getD k []).length ≤ 3 := by
  by_cases h : k < 29
  · have : ∀ i : Fin 29, (Sc.signs.getD i []).length ≤ 3 := by decide
    exact this ⟨k, h⟩
  · have : Sc.signs.getD k [] = [] := by simp only [List.getD]; rw [List.getElem?_eq_none (by simp [Sc.signs]; omega)]; rfl
    rw [this]; simp
theorem longest_succ (s : List UInt8) (k : Nat) (hk : k < 29) : Sc.longest s (Sc.signs.take (k + 1)) [] = if (Sc.longest s (Sc.signs.take k) []).length < (Sc.signs.getD k []).length && (Sc.signs.getD k []).isPrefixOf s then Sc.signs.getD k [] else Sc.longest s (Sc.signs.take k) [] := by
  have hk' : k < Sc.signs.length := hk
  unfold Sc.longest
  rw [List.take_succ_eq_append_getElem hk', List.foldl_append]
  simp only [List.foldl_cons, List.foldl_nil, List.getD, List.getElem?_eq_getElem hk', Option.getD_some]

set_option maxHeartbeats 1000000 in
theorem readSign_any (s : ByteArray) (w : World) (hs : s.size ≤ 1000000000) (hg : Glb w) : Calls Tryz.prog 43 #[.string s] w fun e w' => e = .returned (.agg (fdC (Sc.readSign (byt s)))) ∧ Upd [] w w' := by
  obtain ⟨tt, fr, hh⟩ := (hg.mono ((Upd.refl [] w).alloc (.cells #[.int .u8 0, .string ⟨#[]⟩, .int .i64 0, .int .i64 0] 49))).signs
  clear hg
  go_enter Tryz.func43, Tryz.ntmps43
  go_wp2_with (refine wpList_load_row rfl 135 _ rfl 3 rfl tt _ fr _ hh Tryz.underlying135 rfl (by kernel_rfl) ?_)
  go_loop [3, 7] (fun b i => ∃ k : Nat, k ≤ 29 ∧ i = .int .i64 k ∧ b = .string (str (Sc.longest (byt s) (Sc.signs.take k) []))) (fun _ i => 29 - (intOf i).toNat)
  case atStart => exact ⟨0, Nat.zero_le _, rfl, rfl⟩
  case round =>
    obtain ⟨k, hk, rfl, rfl⟩ := hrel
    by_cases hlt : k < 29
    · have hi := index_sign k hlt
      have HL : Hid _ := longest_succ (byt s) k hlt
      obtain ⟨g, hgg⟩ : ∃ g, g = Sc.signs.getD k [] := ⟨_, rfl⟩
      obtain ⟨b, hbb⟩ : ∃ b, b = Sc.longest (byt s) (Sc.signs.take k) [] := ⟨_, rfl⟩
      have hgl : g.length ≤ 3 := by rw [hgg]; exact sign_short k
      rw [← hgg] at hi HL
      rw [← hbb] at HL ⊢
      clear hgg hbb
      have s1 : (str g).size = g.length := str_size g
      have s2 : (str b).size = b.length := str_size b
      by_cases hlen : b.length < g.length
      · cases hp : g.isPrefixOf (byt s) with
        | true =>
          go_wp2_with (go_at_call 30; refine (HasPrefix_any _ _ _ hs (by omega)).mono ?_; rintro e w' ⟨rfl, rfl⟩; rw [byt_str])
          go_round
          case rel => exact ⟨k + 1, by omega, by go_num, by rw [HL.out, hp, if_pos (by simp; omega)]⟩
          case measure => simp [intOf]; omega
        | false =>
          go_wp2_with (go_at_call 30; refine (HasPrefix_any _ _ _ hs (by omega)).mono ?_; rintro e w' ⟨rfl, rfl⟩; rw [byt_str])
          go_round
          case rel => exact ⟨k + 1, by omega, by go_num, by rw [HL.out, hp, if_neg (by simp)]⟩
          case measure => simp [intOf]; omega
      · have hd : decide ((b.length : Int) < (g.length : Int)) = false := by simp; omega
        go_wp2
        go_round
        case rel => exact ⟨k + 1, by omega, by go_num, by rw [HL.out, if_neg (by simp; omega)]⟩
        case measure => simp [intOf]; omega
    · have hk29 : decide ((k : Int) < 29) = false := by simp; omega
      have hkk : k = 29 := by omega
      have e0 : Sc.signs.take k = Sc.signs := List.take_of_length_le (by rw [hkk]; decide)
      rw [e0]
      obtain ⟨b, hbb⟩ : ∃ b, b = Sc.longest (byt s) Sc.signs [] := ⟨_, rfl⟩
      have e : Sc.readSign (byt s) = if b.isEmpty then .bad 200 else .tok 5 b b.length := by unfold Sc.readSign; rw [← hbb]
      have HE : Hid (Sc.readSign (byt s) = if b.isEmpty then .bad 200 else .tok 5 b b.length) := e
      rw [← hbb]
      have s2 : (str b).size = b.length := str_size b
      have s3 : (str b).toList.isEmpty = b.isEmpty := by rw [Lib.toList_data]; rfl
      clear e hbb e0 hkk
      cases hb : b.isEmpty with
      | true =>
        rw [hb] at s3
        go_wp2
        have e := HE.out
        rw [hb, if_pos rfl] at e
        rw [e]
        exact ret_S Tryz.results43 rfl _ _ rfl (Blk.new w _ _) Tryz.underlying49 info_fd ⟨rfl, (Upd.refl [] w).alloc _⟩
      | false =>
        rw [hb] at s3
        go_wp2
        have e := HE.out
        rw [hb, if_neg (by simp)] at e
        rw [e]
        exact ret_S Tryz.results43 rfl _ _ rfl (Blk.new w _ _) Tryz.underlying49 info_fd ⟨rfl, (Upd.refl [] w).alloc _⟩

end Go.Proofs.YtiapdapkklcliaaGreatDoor
