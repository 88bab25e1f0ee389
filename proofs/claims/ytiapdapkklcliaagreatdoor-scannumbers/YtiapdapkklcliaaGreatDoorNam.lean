/- nameKind, readName, readDigits: by their contracts. -/
import Derived.Test.YtiapdapkklcliaaGreatDoorSpn
import Derived.Test.YtiapdapkklcliaaGreatDoorSto
namespace Go.Proofs.YtiapdapkklcliaaGreatDoor
open Go.RowKit

def wordsC : Array Value := (Sc.words.map (fun l => Value.string (str l))).toArray
def signsC : Array Value := (Sc.signs.map (fun l => Value.string (str l))).toArray
def escC : Array Value := #[.int .u8 110, .int .u8 10, .int .u8 116, .int .u8 9, .int .u8 92, .int .u8 92, .int .u8 39, .int .u8 39, .int .u8 34, .int .u8 34]

/-- A block with these cells. -/
def Holds (w : World) (g : Nat) (cs : Array Value) : Prop := ∃ t fr, w.heap[g]? = some (.cells cs t fr)
theorem Holds.mono {w w' : World} {g : Nat} {cs : Array Value} (h : Holds w g cs) (hu : Upd [] w w') : Holds w' g cs := by
  obtain ⟨t, fr, h⟩ := h
  exact ⟨t, fr, (hu.block g (lt_blk h) (by simp)).trans h⟩
/-- The tables are as the text lays them. -/
structure Glb (w : World) : Prop where
  words : Holds w 0 wordsC
  signs : Holds w 3 signsC
  escapes : Holds w 5 escC
theorem Glb.mono {w w' : World} (h : Glb w) (hu : Upd [] w w') : Glb w' := ⟨h.words.mono hu, h.signs.mono hu, h.escapes.mono hu⟩

theorem index_word (k : Nat) (hk : k < 19) (w : World) : (Instr.index 78 (.agg wordsC) (.int .i64 k)).run Tryz.prog w = .ok (.string (str (Sc.words.getD k []))) w := by
  obtain rfl | rfl | rfl | rfl | rfl | rfl | rfl | rfl | rfl | rfl | rfl | rfl | rfl | rfl | rfl | rfl | rfl | rfl | rfl : k = 0 ∨ k = 1 ∨ k = 2 ∨ k = 3 ∨ k = 4 ∨ k = 5 ∨ k = 6 ∨ k = 7 ∨ k = 8 ∨ k = 9 ∨ k = 10 ∨ k = 11 ∨ k = 12 ∨ k = 13 ∨ k = 14 ∨ k = 15 ∨ k = 16 ∨ k = 17 ∨ k = 18 := by omega
  · kernel_rfl
  · kernel_rfl
  · kernel_rfl
  · kernel_rfl
  · kernel_rfl
  · kernel_rfl
  · kernel_rfl
  · kernel_rfl
  · kernel_rfl
  · kernel_rfl
  · kernel_rfl
  · kernel_rfl
  · kernel_rfl
  · kernel_rfl
  · kernel_rfl
  · kernel_rfl
  · kernel_rfl
  · kernel_rfl
  · kernel_rfl
theorem index_sign (k : Nat) (hk : k < 29) (w : World) : (Instr.index 135 (.agg signsC) (.int .i64 k)).run Tryz.prog w = .ok (.string (str (Sc.signs.getD k []))) w := by
  obtain rfl | rfl | rfl | rfl | rfl | rfl | rfl | rfl | rfl | rfl | rfl | rfl | rfl | rfl | rfl | rfl | rfl | rfl | rfl | rfl | rfl | rfl | rfl | rfl | rfl | rfl | rfl | rfl | rfl : k = 0 ∨ k = 1 ∨ k = 2 ∨ k = 3 ∨ k = 4 ∨ k = 5 ∨ k = 6 ∨ k = 7 ∨ k = 8 ∨ k = 9 ∨ k = 10 ∨ k = 11 ∨ k = 12 ∨ k = 13 ∨ k = 14 ∨ k = 15 ∨ k = 16 ∨ k = 17 ∨ k = 18 ∨ k = 19 ∨ k = 20 ∨ k = 21 ∨ k = 22 ∨ k = 23 ∨ k = 24 ∨ k = 25 ∨ k = 26 ∨ k = 27 ∨ k = 28 := by omega
  · kernel_rfl
  · kernel_rfl
  · kernel_rfl
  · kernel_rfl
  · kernel_rfl
  · kernel_rfl
  · kernel_rfl
  · kernel_rfl
  · kernel_rfl
  · kernel_rfl
  · kernel_rfl
  · kernel_rfl
  · kernel_rfl
  · kernel_rfl
  · kernel_rfl
  · kernel_rfl
  · kernel_rfl
  · kernel_rfl
  · kernel_rfl
  · kernel_rfl
  · kernel_rfl
  · kernel_rfl
  · kernel_rfl
  · kernel_rfl
  · kernel_rfl
  · kernel_rfl
  · kernel_rfl
  · kernel_rfl
  · kernel_rfl

theorem beq_str (s t : ByteArray) : (s.toList == t.toList) = (byt s == byt t) := by rw [Lib.toList_data, Lib.toList_data]; rfl
theorem getD_getD (l : List (List UInt8)) (k : Nat) : l[k]?.getD [] = l.getD k [] := by simp [List.getD]
theorem headD_get (l : List UInt8) (h : 0 < l.length) : l.headD 0 = l[0] := by
  cases l with
  | nil => simp at h
  | cons c r => rfl
theorem head_byt (s : ByteArray) (h : 0 < s.size) : (byt s).headD 0 = s[0] := by
  rw [← byt_get s 0 h]
  exact headD_get _ _
theorem nameKind_3 (l : List UInt8) (h : Sc.isLower (l.headD 0) = false) : Sc.nameKind l = 3 := by unfold Sc.nameKind; rw [h]; rfl
theorem nameKind_6 (l : List UInt8) (h : Sc.isLower (l.headD 0) = true) (h2 : Sc.words.contains l = true) : Sc.nameKind l = 6 := by unfold Sc.nameKind; rw [h, h2]; rfl
theorem nameKind_2 (l : List UInt8) (h : Sc.isLower (l.headD 0) = true) (h2 : Sc.words.contains l = false) : Sc.nameKind l = 2 := by unfold Sc.nameKind; rw [h, h2]; rfl
theorem not_word (s : List UInt8) (h : ∀ j, j < 19 → (s == Sc.words.getD j []) = false) : Sc.words.contains s = false := by
  rw [Bool.eq_false_iff]
  intro hc
  simp only [List.contains_iff_mem] at hc
  obtain ⟨i, hi, e⟩ := List.mem_iff_getElem.1 hc
  have := h i hi
  simp only [List.getD, hi, List.getElem?_eq_getElem, Option.getD_some, e] at this
  simp at this
theorem is_word (s : List UInt8) (k : Nat) (hk : k < 19) (h : (s == Sc.words.getD k []) = true) : Sc.words.contains s = true := by
  simp only [List.contains_iff_mem]
  rw [beq_iff_eq] at h
  rw [h]
  have hk' : k < Sc.words.length := hk
  simp only [List.getD, List.getElem?_eq_getElem hk', Option.getD_some]
  exact List.getElem_mem hk'

set_option maxHeartbeats 1000000 in
theorem nameKind_any (s : ByteArray) (w : World) (_hs : s.size ≤ 1000000000) (h0 : 0 < s.size) (hg : Glb w) : Calls Tryz.prog 81 #[.string s] w fun e w' => e = .returned (.int .u8 (Sc.nameKind (byt s))) ∧ w' = w := by
  obtain ⟨tt, fr, hh⟩ := hg.words
  cases hl : Sc.isLower s[0] with
  | false =>
    go_enter Tryz.func81, Tryz.ntmps81
    go_wp2_with (go_at_call 78; refine (isLower_any _ _).mono ?_; rintro e w' ⟨rfl, rfl⟩)
    go_ret
    have e : Sc.nameKind (byt s) = 3 := nameKind_3 _ (by rw [head_byt s h0]; exact hl)
    rw [e]
    exact ⟨rfl, rfl⟩
  | true =>
    go_enter Tryz.func81, Tryz.ntmps81
    go_wp2_with (first | (go_at_call 78; refine (isLower_any _ _).mono ?_; rintro e w' ⟨rfl, rfl⟩) | (refine wpList_load_row rfl 78 _ rfl 0 rfl tt _ fr _ hh Tryz.underlying78 rfl (by kernel_rfl) ?_))
    go_loop [10] (fun i => ∃ k : Nat, k ≤ 19 ∧ i = .int .i64 k ∧ ∀ j, j < k → (byt s == Sc.words.getD j []) = false) (fun i => 19 - (intOf i).toNat)
    case atStart => exact ⟨0, Nat.zero_le _, rfl, fun j hj => by omega⟩
    case round =>
      obtain ⟨k, hk, rfl, he⟩ := hrel
      have HE : Hid _ := he
      clear he
      by_cases hlt : k < 19
      · have hi := index_word k hlt
        go_wp2
        · have hc : (s.toList == (str (Sc.words[k]?.getD [])).toList) = true := by assumption
          rw [beq_str, byt_str, getD_getD] at hc
          have e : Sc.nameKind (byt s) = 6 := nameKind_6 _ (by rw [head_byt s h0]; exact hl) (is_word _ k hlt hc)
          go_ret
          rw [e]
          exact ⟨rfl, rfl⟩
        · have hc : (s.toList == (str (Sc.words[k]?.getD [])).toList) = false := by assumption
          rw [beq_str, byt_str, getD_getD] at hc
          go_round
          case rel => exact ⟨k + 1, by omega, by go_num, fun j hj => by
            by_cases h : j = k
            · rw [h]; exact hc
            · exact HE.out j (by omega)⟩
          case measure => simp [intOf]; omega
      · have hk19 : decide ((k : Int) < 19) = false := by simp; omega
        go_wp2
        go_ret
        have e : Sc.nameKind (byt s) = 2 := nameKind_2 _ (by rw [head_byt s h0]; exact hl) (not_word _ (fun j hj => HE.out j (by omega)))
        rw [e]
        exact ⟨rfl, rfl⟩

/-- What is found, as a value. -/
def fdC : Sc.Fd → Array Value
  | .tok k t n => #[.int .u8 k, .string (str t), .int .i64 n, .int .i64 0]
  | .bad e => #[.int .u8 0, .string ⟨#[]⟩, .int .i64 0, .int .i64 e]
theorem info_fd : (Tryz.prog.info? 49).map (·.size) = some 4 := by kernel_rfl
theorem str_size (l : List UInt8) : (str l).size = l.length := by rw [← byt_len, byt_str]

set_option maxHeartbeats 1000000 in
theorem readName_any (s : ByteArray) (w : World) (hs : s.size ≤ 1000000000) (h0 : 0 < s.size) (hn : Sc.isName s[0] = true) (hg : Glb w) : Calls Tryz.prog 39 #[.string s] w fun e w' => e = .returned (.agg (fdC (Sc.readName (byt s)))) ∧ Upd [] w w' := by
  have hsp := Sc.span_le Sc.isName (byt s)
  rw [byt_len] at hsp
  have HG : Hid (Glb w) := hg
  clear hg
  go_enter Tryz.func39, Tryz.ntmps39
  go_wp2_with fail
  refine (span_plain s 79 Sc.isName _ hs Tryz.call79 isName_any).mono ?_
  rintro e w1 ⟨rfl, hw1⟩
  have hl : (str ((byt s).take (Sc.span Sc.isName (byt s)))).size = Sc.span Sc.isName (byt s) := by
    rw [str_size, List.length_take, byt_len]; omega
  have hpos : 0 < Sc.span Sc.isName (byt s) := by
    have h1 : 0 < (byt s).length := by rw [byt_len]; exact h0
    have h2 : Sc.isName (byt s)[0] = true := hn
    revert h1 h2
    cases byt s with
    | nil => intro h; simp at h
    | cons c r => intro _ h; simp only [List.getElem_cons_zero] at h; simp [Sc.span, h]
  by_cases h40 : 40 < Sc.span Sc.isName (byt s)
  · have e : Sc.readName (byt s) = .bad 201 := by unfold Sc.readName; rw [if_pos h40]
    have HE : Hid (Sc.readName (byt s) = _) := e
    clear e
    go_wp2
    rw [HE.out]
    exact ret_S Tryz.results39 rfl _ _ rfl (Blk.new w _ _) Tryz.underlying49 info_fd ⟨rfl, (Upd.refl [] w).alloc _⟩
  · have e : Sc.readName (byt s) = .tok (Sc.nameKind ((byt s).take (Sc.span Sc.isName (byt s)))) ((byt s).take (Sc.span Sc.isName (byt s))) (Sc.span Sc.isName (byt s)) := by unfold Sc.readName; rw [if_neg h40]
    have HE : Hid (Sc.readName (byt s) = _) := e
    clear e
    go_wp2_with fail
    refine (nameKind_any _ _ (by omega) (by omega) (HG.out.mono ((Upd.refl [] w).alloc _))).mono ?_
    rintro e w2 ⟨rfl, hw2⟩
    rw [byt_str]
    go_wp2
    rw [HE.out]
    exact ret_S Tryz.results39 rfl _ _ rfl (Blk.new w _ _) Tryz.underlying49 info_fd ⟨rfl, (Upd.refl [] w).alloc _⟩

theorem byt_from (s : ByteArray) (n : Nat) : byt (s.extract n s.size) = (byt s).drop n := by
  rw [byt_extract, List.take_of_length_le (by rw [byt_len]; exact Nat.le_refl _)]
theorem size_from (s : ByteArray) (n : Nat) : (s.extract n s.size).size = s.size - n := by
  rw [← byt_len, byt_from, List.length_drop, byt_len]
theorem runsOn_get (l : List UInt8) (h : 0 < l.length) : Sc.runsOn l = (Sc.isLetter l[0] || Sc.isJoint l[0]) := by
  cases l with
  | nil => simp at h
  | cons c r => rfl
theorem runsOn_b (s : ByteArray) (n : Nat) (h : 0 < (s.extract n s.size).size) : Sc.runsOn ((byt s).drop n) = (Sc.isLetter (s.extract n s.size)[0] || Sc.isJoint (s.extract n s.size)[0]) := by
  have h1 : 0 < (byt (s.extract n s.size)).length := by rw [byt_len]; exact h
  rw [← byt_from, ← byt_get _ _ h]
  exact runsOn_get _ h1
theorem empty_b (s : ByteArray) (h : 0 < s.size) : s.toList.isEmpty = false := by
  rw [Lib.toList_data]
  have : 0 < (byt s).length := by rw [byt_len]; exact h
  revert this
  unfold byt
  cases s.data.toList with
  | nil => simp
  | cons c r => simp
theorem empty_z (s : ByteArray) (h : s.size = 0) : s.toList.isEmpty = true := by
  rw [Lib.toList_data]
  have : (byt s).length = 0 := by rw [byt_len]; exact h
  revert this
  unfold byt
  cases s.data.toList with
  | nil => simp
  | cons c r => simp

set_option maxHeartbeats 1000000 in
theorem readDigits_any (s : ByteArray) (w : World) (hs : s.size ≤ 1000000000) : Calls Tryz.prog 41 #[.string s] w fun e w' => e = .returned (.agg (fdC (Sc.readDigits (byt s)))) ∧ Upd [] w w' := by
  have hsp := Sc.span_le Sc.isDigit (byt s)
  rw [byt_len] at hsp
  obtain ⟨n, hn⟩ : ∃ n, n = Sc.span Sc.isDigit (byt s) := ⟨_, rfl⟩
  have e : Sc.readDigits (byt s) = if Sc.runsOn ((byt s).drop n) || 400 < n then .bad 201 else .tok 1 ((byt s).take n) n := by unfold Sc.readDigits; rw [← hn]
  have hl : (str ((byt s).take n)).size = n := by
    rw [str_size, List.length_take, byt_len]; omega
  have HE : Hid (Sc.readDigits (byt s) = _) := e
  have HN : Hid (n = Sc.span Sc.isDigit (byt s)) := hn
  rw [← hn] at hsp
  clear e hn
  go_enter Tryz.func41, Tryz.ntmps41
  go_wp2_with fail
  refine (span_plain s 40 Sc.isDigit _ hs Tryz.call40 isDigit_any).mono ?_
  rintro e w1 ⟨rfl, hw1⟩
  rw [← HN.out]
  clear HN
  by_cases hb : n < s.size
  · have hx := empty_b (s.extract n s.size) (by rw [size_from]; omega)
    have hb0 : 0 < s.size - n := by omega
    have HR : Hid _ := runsOn_b s n (by rw [size_from]; omega)
    cases hL : Sc.isLetter ((s.extract n s.size)[0]'(by rw [size_from]; omega)) with
    | true =>
      go_wp2_with (first | (go_at_call 38; refine (isLetter_any _ _).mono ?_; rintro e w' ⟨rfl, rfl⟩) | (go_at_call 80; refine (isJoint_any _ _).mono ?_; rintro e w' ⟨rfl, rfl⟩))
      have e := HE.out
      rw [HR.out, hL, if_pos (by simp)] at e
      rw [e]
      exact ret_S Tryz.results41 rfl _ _ rfl (Blk.new w _ _) Tryz.underlying49 info_fd ⟨rfl, (Upd.refl [] w).alloc _⟩
    | false =>
     cases hJ : Sc.isJoint ((s.extract n s.size)[0]'(by rw [size_from]; omega)) with
     | true =>
      go_wp2_with (first | (go_at_call 38; refine (isLetter_any _ _).mono ?_; rintro e w' ⟨rfl, rfl⟩) | (go_at_call 80; refine (isJoint_any _ _).mono ?_; rintro e w' ⟨rfl, rfl⟩))
      have e := HE.out
      rw [HR.out, hL, hJ, if_pos (by simp)] at e
      rw [e]
      exact ret_S Tryz.results41 rfl _ _ rfl (Blk.new w _ _) Tryz.underlying49 info_fd ⟨rfl, (Upd.refl [] w).alloc _⟩
     | false =>
      by_cases h4 : 400 < n
      · go_wp2_with (first | (go_at_call 38; refine (isLetter_any _ _).mono ?_; rintro e w' ⟨rfl, rfl⟩) | (go_at_call 80; refine (isJoint_any _ _).mono ?_; rintro e w' ⟨rfl, rfl⟩))
        have e := HE.out
        rw [HR.out, hL, hJ, if_pos (by simp; omega)] at e
        rw [e]
        exact ret_S Tryz.results41 rfl _ _ rfl (Blk.new w _ _) Tryz.underlying49 info_fd ⟨rfl, (Upd.refl [] w).alloc _⟩
      · go_wp2_with (first | (go_at_call 38; refine (isLetter_any _ _).mono ?_; rintro e w' ⟨rfl, rfl⟩) | (go_at_call 80; refine (isJoint_any _ _).mono ?_; rintro e w' ⟨rfl, rfl⟩))
        have e := HE.out
        rw [HR.out, hL, hJ, if_neg (by simp; omega)] at e
        rw [e]
        exact ret_S Tryz.results41 rfl _ _ rfl (Blk.new w _ _) Tryz.underlying49 info_fd ⟨rfl, (Upd.refl [] w).alloc _⟩
  · have hx := empty_z (s.extract n s.size) (by rw [size_from]; omega)
    have HR : Hid (Sc.runsOn ((byt s).drop n) = false) := by show Sc.runsOn _ = false; rw [List.drop_of_length_le (by rw [byt_len]; omega)]; rfl
    by_cases h4 : 400 < n
    · go_wp2
      have e := HE.out
      rw [HR.out, if_pos (by simp; omega)] at e
      rw [e]
      exact ret_S Tryz.results41 rfl _ _ rfl (Blk.new w _ _) Tryz.underlying49 info_fd ⟨rfl, (Upd.refl [] w).alloc _⟩
    · go_wp2
      have e := HE.out
      rw [HR.out, if_neg (by simp; omega)] at e
      rw [e]
      exact ret_S Tryz.results41 rfl _ _ rfl (Blk.new w _ _) Tryz.underlying49 info_fd ⟨rfl, (Upd.refl [] w).alloc _⟩

end Go.Proofs.YtiapdapkklcliaaGreatDoor
