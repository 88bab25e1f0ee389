/- The reference's word, Plain, by their contracts. -/
import Derived.Test.YtabknipgbmdipaaGreatDoorJAK
import Derived.Test.YtabknipgbmdipaaGreatDoorFzH
namespace Go.Proofs.YtabknipgbmdipaaGreatDoor
open Go.RowKit

theorem words_get (k : Nat) (hk : k < 19) : (#[.string ⟨#[97, 102, 116, 101, 114]⟩, .string ⟨#[97, 110, 100]⟩, .string ⟨#[97, 110, 100, 97, 108, 115, 111]⟩, .string ⟨#[98, 101, 103, 105, 110]⟩, .string ⟨#[99, 97, 115, 101]⟩, .string ⟨#[100, 105, 118]⟩, .string ⟨#[101, 110, 100]⟩, .string ⟨#[102, 117, 110]⟩, .string ⟨#[105, 102]⟩, .string ⟨#[110, 111, 116]⟩, .string ⟨#[111, 102]⟩, .string ⟨#[111, 114]⟩, .string ⟨#[111, 114, 101, 108, 115, 101]⟩, .string ⟨#[114, 101, 99, 101, 105, 118, 101]⟩, .string ⟨#[114, 101, 109]⟩, .string ⟨#[116, 114, 121]⟩, .string ⟨#[99, 97, 116, 99, 104]⟩, .string ⟨#[119, 104, 101, 110]⟩, .string ⟨#[120, 111, 114]⟩] : Array Value)[k]? = some (.string (str (resW.getD k []))) := by
  obtain rfl | rfl | rfl | rfl | rfl | rfl | rfl | rfl | rfl | rfl | rfl | rfl | rfl | rfl | rfl | rfl | rfl | rfl | rfl : k = 0 ∨ k = 1 ∨ k = 2 ∨ k = 3 ∨ k = 4 ∨ k = 5 ∨ k = 6 ∨ k = 7 ∨ k = 8 ∨ k = 9 ∨ k = 10 ∨ k = 11 ∨ k = 12 ∨ k = 13 ∨ k = 14 ∨ k = 15 ∨ k = 16 ∨ k = 17 ∨ k = 18 := by omega
  all_goals rfl
theorem idx_str (s : ByteArray) (k : Nat) (hk : k < s.size) (W : World) : (Instr.index 9 (.string s) (.int .i64 (k : Int))).run Tryz.prog W = .ok (.int .u8 (s[k].toNat : Int)) W := by
  rw [run_index_string _ _ _ _ _ Tryz.underlying9, dif_pos ⟨by omega, by omega⟩]
  simp
theorem beq_comm' (a b : List UInt8) : (a == b) = (b == a) := by
  rw [Bool.eq_iff_iff, beq_iff_eq, beq_iff_eq]; exact eq_comm

set_option maxHeartbeats 1000000 in
set_option maxRecDepth 100000 in
theorem word2_any (s : ByteArray) (w : World) : Calls Tryz.prog 183 #[.string s] w fun e w' => e = .returned (.bool (resW.contains (byt s))) ∧ Upd [] w w' := by
  obtain ⟨W1, hW1⟩ : ∃ W1, W1 = w.alloc (.cells #[.string ⟨#[97, 102, 116, 101, 114]⟩, .string ⟨#[97, 110, 100]⟩, .string ⟨#[97, 110, 100, 97, 108, 115, 111]⟩, .string ⟨#[98, 101, 103, 105, 110]⟩, .string ⟨#[99, 97, 115, 101]⟩, .string ⟨#[100, 105, 118]⟩, .string ⟨#[101, 110, 100]⟩, .string ⟨#[102, 117, 110]⟩, .string ⟨#[105, 102]⟩, .string ⟨#[110, 111, 116]⟩, .string ⟨#[111, 102]⟩, .string ⟨#[111, 114]⟩, .string ⟨#[111, 114, 101, 108, 115, 101]⟩, .string ⟨#[114, 101, 99, 101, 105, 118, 101]⟩, .string ⟨#[114, 101, 109]⟩, .string ⟨#[116, 114, 121]⟩, .string ⟨#[99, 97, 116, 99, 104]⟩, .string ⟨#[119, 104, 101, 110]⟩, .string ⟨#[120, 111, 114]⟩] 9) := ⟨_, rfl⟩
  have HU : Hid (Upd [] w W1) := by show Upd _ _ _; rw [hW1]; exact (Upd.refl [] w).alloc _
  have HC : Hid (∀ k, k < 19 → W1.cell? ⟨w.heap.size, k, none⟩ = some (.string (str (resW.getD k [])))) := fun k hk => by rw [hW1, (Bk.new _ _ _).cell k]; exact words_get k hk
  obtain ⟨R, hR⟩ : ∃ R, R = resW.contains (byt s) := ⟨_, rfl⟩
  rw [← hR]
  have HRR : Hid (R = resW.contains (byt s)) := hR
  clear hR
  go_enter Tryz.func183, Tryz.ntmps183
  go_wp2
  rw [← hW1]
  clear hW1
  go_loop [4] (fun i => ∃ k : Nat, k ≤ 19 ∧ i = .int .i64 k ∧ ∀ j, j < k → (byt s == resW.getD j []) = false) (fun i => 19 - (intOf i).toNat)
  case atStart => exact ⟨0, Nat.zero_le _, rfl, fun j hj => by omega⟩
  case round =>
    obtain ⟨k, hk, rfl, he⟩ := hrel
    have HE : Hid (∀ j, j < k → (byt s == resW.getD j []) = false) := he
    clear he
    by_cases hlt : k < 19
    · have hj1 : ((k : Int) < 19) := by omega
      have hc := HC.out k hlt
      obtain ⟨g, hg⟩ : ∃ g, g = str (resW.getD k []) := ⟨_, rfl⟩
      rw [← hg] at hc
      have hb : (g.toList == s.toList) = (byt s == resW.getD k []) := by rw [hg, beq_str, byt_str, beq_comm']
      clear hg
      cases hq : (byt s == resW.getD k []) with
      | true =>
        rw [hq] at hb
        have HQ : Hid ((byt s == resW.getD k []) = true) := hq
        clear hq
        go_wp2
        go_ret
        exact ⟨ret_bool (by rw [HRR.out]; exact (is_word _ k hlt HQ.out).symm), HU.out⟩
      | false =>
        rw [hq] at hb
        have HQ : Hid ((byt s == resW.getD k []) = false) := hq
        clear hq
        go_wp2
        go_round
        case rel => exact ⟨k + 1, by omega, by go_num, fun j hj => by
          by_cases h : j = k
          · subst h; exact HQ.out
          · exact HE.out j (by omega)⟩
        case measure => simp [intOf]; omega
    · have hd : decide ((k : Int) < 19) = false := by simp; omega
      go_wp2
      go_ret
      exact ⟨ret_bool (by rw [HRR.out]; exact (not_word _ (fun j hj => HE.out j (by omega))).symm), HU.out⟩

/-- May a byte stand there in a plain atom? -/
def okc (k : Nat) (c : UInt8) : Bool := lowB c || (decide (k ≠ 0) && nameB c)
theorem plain_bad (s : ByteArray) (k : Nat) (hk : k < s.size) (h : okc k s[k] = false) : plainB (byt s) = false := by
  unfold okc at h
  rw [Bool.or_eq_false_iff, Bool.and_eq_false_iff] at h
  rcases h with ⟨h1, h2 | h2⟩
  · have : k = 0 := by simpa using h2
    subst this
    exact plainB_low s hk h1
  · exact plainB_name s k hk h2
theorem low_name (c : UInt8) (h : lowB c = true) : nameB c = true := by unfold nameB; rw [h]; rfl
theorem plain_ok (s : ByteArray) (h : ∀ k (hk : k < s.size), okc k s[k] = true) (h0 : 0 < s.size) : plainB (byt s) = !(resW.contains (byt s)) := by
  have h1 : lowB s[0] = true := by
    have := h 0 h0
    unfold okc at this
    simpa using this
  have h2 : ∀ k (hk : k < s.size), nameB s[k] = true := fun k hk => by
    have := h k hk
    unfold okc at this
    rw [Bool.or_eq_true, Bool.and_eq_true] at this
    rcases this with h3 | h3
    · exact low_name _ h3
    · exact h3.2
  cases hc : resW.contains (byt s) with
  | true => exact plainB_word s hc
  | false => exact plainB_all s h0 h1 h2 hc

set_option maxHeartbeats 2000000 in
set_option maxRecDepth 100000 in
theorem plain2_any (s : ByteArray) (w : World) (hs : s.size ≤ 1000000000) : Calls Tryz.prog 142 #[.string s] w fun e w' => e = .returned (.bool (plainB (byt s))) ∧ Upd [] w w' := by
  have hE := empty_of s
  obtain ⟨R, hR⟩ : ∃ R, R = plainB (byt s) := ⟨_, rfl⟩
  rw [← hR]
  have HRR : Hid (R = plainB (byt s)) := hR
  clear hR
  go_enter Tryz.func142, Tryz.ntmps142
  go_wp2_with fail
  go_loopw [3, 4, 5] (fun i _ _ wr => ∃ k : Nat, k ≤ s.size ∧ i = .int .i64 k ∧ (∀ j (hj : j < s.size), j < k → okc j s[j] = true) ∧ Upd [] w wr) (fun i _ _ _ => s.size - (intOf i).toNat)
  case atStart => exact ⟨0, Nat.zero_le _, rfl, fun j _ hj => by omega, Upd.refl _ _⟩
  case round =>
    obtain ⟨k, hk, rfl, he, hU⟩ := hrel
    have HE : Hid (∀ j (hj : j < s.size), j < k → okc j s[j] = true) := he
    have HU : Hid (Upd [] w wr) := hU
    clear he hU
    by_cases hlt : k < s.size
    · have hlt' : (k : Int) < (s.size : Int) := by omega
      have HR : Hid (∀ b, okc k s[k] = b → (b = true → ∀ j (hj : j < s.size), j < k + 1 → okc j s[j] = true) ∧ (b = false → plainB (byt s) = false)) := fun b hb => ⟨fun h j hj hjk => by
          by_cases e : j = k
          · subst e; rw [hb, h]
          · exact HE.out j hj (by omega), fun h => plain_bad s k hlt (by rw [hb, h])⟩
      obtain ⟨c, hc⟩ : ∃ c, c = s[k].toNat := ⟨_, rfl⟩
      have HOK : Hid (∀ b, ((decide (97 ≤ c) && decide (c ≤ 122)) || (decide (k ≠ 0) && ((decide (97 ≤ c) && decide (c ≤ 122)) || (decide (65 ≤ c) && decide (c ≤ 90)) || (decide (48 ≤ c) && decide (c ≤ 57)) || decide (c = 95) || decide (c = 64)))) = b → okc k s[k] = b) := fun b hb => by
        rw [← hb, hc]
        unfold okc nameB lowB
        rw [Bool.eq_iff_iff]
        simp
        omega
      have hx : ∀ W, (Instr.index 9 (.string s) (.int .i64 (k : Int))).run Tryz.prog W = .ok (.int .u8 (c : Int)) W := fun W => by
        rw [hc]
        exact idx_str s k hlt W
      have hc2 : c < 256 := by rw [hc]; exact s[k].toNat_lt
      clear hc
      cases hb : ((decide (97 ≤ c) && decide (c ≤ 122)) || (decide (k ≠ 0) && ((decide (97 ≤ c) && decide (c ≤ 122)) || (decide (65 ≤ c) && decide (c ≤ 90)) || (decide (48 ≤ c) && decide (c ≤ 57)) || decide (c = 95) || decide (c = 64)))) with
      | true =>
        have HB : Hid (((decide (97 ≤ c) && decide (c ≤ 122)) || (decide (k ≠ 0) && ((decide (97 ≤ c) && decide (c ≤ 122)) || (decide (65 ≤ c) && decide (c ≤ 90)) || (decide (48 ≤ c) && decide (c ≤ 57)) || decide (c = 95) || decide (c = 64)))) = true) := hb
        have HN : Hid (∀ j (hj : j < s.size), j < k + 1 → okc j s[j] = true) := (HR.out true (HOK.out true hb)).1 rfl
        clear hb HR HOK
        go_wp2
        all_goals first
          | (refine ⟨⟨k + 1, by omega, by go_num, HN.out, HU.out⟩, ?_⟩; simp [intOf]; omega)
          | (exfalso; have h2 := HB.out; rename_i hlast; simp at h2 hlast; omega)
          | (exfalso; have h2 := HB.out; rename_i hl _ _; simp at h2 hl; omega)
          | (exfalso; have h2 := HB.out; rename_i hl _; simp at h2 hl; omega)
          | (exfalso; rename_i hlast; simp at hlast; done)
          | (exfalso; rename_i hlast; simp_all; done)
          | (exfalso; rename_i hlast; simp at hlast; omega)
          | (exfalso; have h2 := HB.out; simp at h2; omega)
      | false =>
        have HB : Hid (((decide (97 ≤ c) && decide (c ≤ 122)) || (decide (k ≠ 0) && ((decide (97 ≤ c) && decide (c ≤ 122)) || (decide (65 ≤ c) && decide (c ≤ 90)) || (decide (48 ≤ c) && decide (c ≤ 57)) || decide (c = 95) || decide (c = 64)))) = false) := hb
        have HN : Hid (plainB (byt s) = false) := (HR.out false (HOK.out false hb)).2 rfl
        clear hb HR HOK
        go_wp2
        all_goals first
          | (go_ret; exact ⟨ret_bool (by rw [HRR.out]; exact HN.out.symm), HU.out⟩)
          | (exfalso; have h2 := HB.out; rename_i hlast; simp at h2 hlast; omega)
          | (exfalso; have h2 := HB.out; rename_i hl _ _; simp at h2 hl; omega)
          | (exfalso; have h2 := HB.out; rename_i hl _; simp at h2 hl; omega)
          | (exfalso; rename_i hlast; simp at hlast; done)
          | (exfalso; rename_i hlast; simp_all; done)
          | (exfalso; rename_i hlast; simp at hlast; omega)
          | (exfalso; have h2 := HB.out; simp at h2; omega)
    · have hd : decide ((k : Int) < s.size) = false := by simp; omega
      have hall : ∀ j (hj : j < s.size), okc j s[j] = true := fun j hj => HE.out j hj (by omega)
      by_cases h0 : s.size = 0
      · rw [decide_eq_true h0] at hE
        go_wp2
        go_ret
        exact ⟨ret_bool (by rw [HRR.out]; exact (plainB_nil s h0).symm), HU.out⟩
      · rw [decide_eq_false h0] at hE
        obtain ⟨V, hV⟩ : ∃ V, V = resW.contains (byt s) := ⟨_, rfl⟩
        have HP : Hid (plainB (byt s) = !V) := by show _ = _; rw [hV]; exact plain_ok s hall (by omega)
        have HW : Hid (∀ W, Calls Tryz.prog 183 #[.string s] W fun e w' => e = .returned (.bool V) ∧ Upd [] W w') := fun W => by rw [hV]; exact word2_any s W
        clear hV hall
        go_wp2_with (go_at_call 183; refine (HW.out _).mono ?_; rintro e w1 ⟨rfl, hU1⟩)
        all_goals
          go_ret
          exact ⟨ret_bool (by rw [HRR.out, HP.out] <;> simp_all), HU.out.trans hU1⟩

end Go.Proofs.YtabknipgbmdipaaGreatDoor
