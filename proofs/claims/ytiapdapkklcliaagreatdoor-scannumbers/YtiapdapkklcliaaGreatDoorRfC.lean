/- The reference's words, signs, names: by their contracts. -/
import Derived.Test.YtiapdapkklcliaaGreatDoorRfB
namespace Go.Proofs.YtiapdapkklcliaaGreatDoor
open Go.RowKit

def signsRC : Array Value := (Sc.signsR.map (fun l => Value.string (str l))).toArray
set_option maxHeartbeats 400000 in
set_option maxRecDepth 10000 in
theorem rwords_any (w : World) : Calls Tryz.prog 14 #[] w fun e w' => e = .returned (.slice (some ⟨w.heap.size, 0, none⟩) 19 19) ∧ Blk w' w.heap.size wordsC 9 ∧ Upd [] w w' := by
  go_enter Tryz.func14, Tryz.ntmps14
  go_wp2
  go_ret
  exact ⟨rfl, Blk.new w wordsC 9, (Upd.refl [] w).alloc _⟩
set_option maxHeartbeats 400000 in
set_option maxRecDepth 10000 in
theorem rsigns_any (w : World) : Calls Tryz.prog 51 #[] w fun e w' => e = .returned (.slice (some ⟨w.heap.size, 0, none⟩) 29 29) ∧ Blk w' w.heap.size signsRC 9 ∧ Upd [] w w' := by
  go_enter Tryz.func51, Tryz.ntmps51
  go_wp2
  go_ret
  exact ⟨rfl, Blk.new w signsRC 9, (Upd.refl [] w).alloc _⟩
theorem wordsC_get (k : Nat) (hk : k < 19) : wordsC[k]? = some (.string (str (Sc.words.getD k []))) := by
  have hk' : k < Sc.words.length := hk
  simp only [wordsC, List.getElem?_toArray, List.getElem?_map, List.getElem?_eq_getElem hk', Option.map_some, List.getD, Option.getD_some]
theorem signsRC_get (k : Nat) (hk : k < 29) : signsRC[k]? = some (.string (str (Sc.signsR.getD k []))) := by
  have hk' : k < Sc.signsR.length := hk
  simp only [signsRC, List.getElem?_toArray, List.getElem?_map, List.getElem?_eq_getElem hk', Option.map_some, List.getD, Option.getD_some]
theorem beq_comm8 (a b : List UInt8) : (a == b) = (b == a) := by
  rw [Bool.eq_iff_iff, beq_iff_eq, beq_iff_eq]; exact eq_comm

set_option maxHeartbeats 1000000 in
theorem rword_any (s : ByteArray) (w : World) : Calls Tryz.prog 83 #[.string s] w fun e w' => e = .returned (.bool (Sc.words.contains (byt s))) ∧ Upd [] w w' := by
  go_enter Tryz.func83, Tryz.ntmps83
  go_wp2_with fail
  refine (rwords_any _).mono ?_
  rintro e w1 ⟨rfl, hB, hU⟩
  go_wp2
  go_loopw [4] (fun i wr => ∃ k : Nat, k ≤ 19 ∧ i = .int .i64 k ∧ wr = w1 ∧ ∀ j, j < k → (byt s == Sc.words.getD j []) = false) (fun i _ => 19 - (intOf i).toNat)
  case atStart => exact ⟨0, Nat.zero_le _, rfl, rfl, fun j hj => by omega⟩
  case round =>
    obtain ⟨k, hk, rfl, rfl, he⟩ := hrel
    have HE : Hid _ := he
    have HU : Hid (Upd [] w wr) := hU
    clear he
    by_cases hlt : k < 19
    · have hc := (hB.cell k).trans (wordsC_get k hlt)
      obtain ⟨t, ht⟩ : ∃ t, t = Sc.words.getD k [] := ⟨_, rfl⟩
      have HT : Hid (t = Sc.words.getD k []) := ht
      rw [← ht] at hc
      clear ht
      have hi1 : (k : Int) < 19 := by omega
      by_cases hq : byt s = t
      · have hb : ((str t).toList == s.toList) = true := by rw [beq_str, byt_str, hq]; simp
        go_wp2
        go_ret
        refine ⟨ret_bool ?_, HU.out⟩
        rw [is_word (byt s) k hlt (by rw [← HT.out, hq]; simp)]
      · have hb : ((str t).toList == s.toList) = false := by
          rw [beq_str, byt_str, Bool.eq_false_iff]
          intro h
          rw [beq_iff_eq] at h
          exact hq h.symm
        go_wp2
        go_roundw
        case rel => exact ⟨k + 1, by omega, by go_num, by first | trivial | rfl, fun j hj => by
          by_cases h : j = k
          · rw [h, ← HT.out, Bool.eq_false_iff]
            intro h2
            rw [beq_iff_eq] at h2
            exact hq h2
          · exact HE.out j (by omega)⟩
        case measure => simp [intOf]; omega
    · have hd : decide ((k : Int) < 19) = false := by simp; omega
      go_wp2
      go_ret
      refine ⟨ret_bool ?_, HU.out⟩
      rw [not_word (byt s) (fun j hj => HE.out j (by omega))]

/-- A struct, and a word more. -/
theorem ret_St {fn : Func} {R : Ending → World → Prop} {a : Act} {w : World} {u p : Tmp} {T : TypeId} (h : fn.results = #[.cell p T, .tmp u]) (hd : a.defers = []) (g : Nat) (cs : Array Value) (v : Value) {fs : _} (hv : a.tmps.getD u undef = v)
    (hp : a.tmps.getD p undef = .pointer (some ⟨g, 0, none⟩)) (hg : Blk w g cs T) (hu : Tryz.prog.underlying T = some (.struct fs)) (hi : (Tryz.prog.info? T).map (·.size) = some cs.size)
    (hR : R (.returned (.tuple #[.agg cs, v])) w) : bodyPost Tryz.prog fn R .ret a w := by
  refine bodyPost_ret (v := .tuple #[.agg cs, v]) ?_ hd hR
  have hp' : a.tmps[p]?.getD undef = .pointer (some ⟨g, 0, none⟩) := by simpa using hp
  have hu' : a.tmps[u]?.getD undef = v := by simpa using hv
  simp [results, h, hp', hu', asAddr, run_loadVar_row w g T T cs (0, 0) _ hg hu rfl hi]
/-- .. and two. -/
theorem ret_Stt {fn : Func} {R : Ending → World → Prop} {a : Act} {w : World} {u x p : Tmp} {T : TypeId} (h : fn.results = #[.cell p T, .tmp u, .tmp x]) (hd : a.defers = []) (g : Nat) (cs : Array Value) (v y : Value) {fs : _} (hv : a.tmps.getD u undef = v) (hy : a.tmps.getD x undef = y)
    (hp : a.tmps.getD p undef = .pointer (some ⟨g, 0, none⟩)) (hg : Blk w g cs T) (hu : Tryz.prog.underlying T = some (.struct fs)) (hi : (Tryz.prog.info? T).map (·.size) = some cs.size)
    (hR : R (.returned (.tuple #[.agg cs, v, y])) w) : bodyPost Tryz.prog fn R .ret a w := by
  refine bodyPost_ret (v := .tuple #[.agg cs, v, y]) ?_ hd hR
  have hp' : a.tmps[p]?.getD undef = .pointer (some ⟨g, 0, none⟩) := by simpa using hp
  have hu' : a.tmps[u]?.getD undef = v := by simpa using hv
  have hx' : a.tmps[x]?.getD undef = y := by simpa using hy
  simp [results, h, hp', hu', hx', asAddr, run_loadVar_row w g T T cs (0, 0) _ hg hu rfl hi]
theorem info_tok3 : (Tryz.prog.info? 43).map (·.size) = some 3 := by kernel_rfl

/-- What the document tells of a name. -/
def namR (pl : Nat) (l : List UInt8) : Value :=
  if 40 < Sc.span Sc.isName l then .tuple #[.agg #[.int .u8 0, .string ⟨#[]⟩, .int .i64 0], .int .i64 0]
  else .tuple #[.agg #[.int .u8 (Sc.nameKind (l.take (Sc.span Sc.isName l))), .string (str (l.take (Sc.span Sc.isName l))), .int .i64 pl], .int .i64 ((pl + Sc.span Sc.isName l : Nat) : Int)]
theorem cut_str (s : ByteArray) (a b : Nat) : s.extract a b = str (((byt s).drop a).take (b - a)) := by
  apply str_eq
  rw [byt_extract, List.drop_take]

/-- How far the bytes of a kind go. -/
theorem span_to (p : UInt8 → Bool) (s : ByteArray) (pl k : Nat) (hk : k ≤ s.size) (hpk : pl ≤ k) (h : ∀ j (hj : j < s.size), pl ≤ j → j < k → p s[j] = true) (h3 : ∀ hk : k < s.size, p s[k] = false) : Sc.span p ((byt s).drop pl) = k - pl := by
  refine Sc.span_char p _ _ (by rw [List.length_drop, byt_len]; omega) (fun j hj hlt => ?_) (fun hlt => ?_)
  · rw [List.length_drop, byt_len] at hj
    rw [List.getElem_drop]
    exact h (pl + j) (by omega) (by omega) (by omega)
  · rw [List.length_drop, byt_len] at hlt
    rw [List.getElem_drop]
    have := h3 (by omega)
    simp only [show pl + (k - pl) = k by omega]
    exact this

set_option maxHeartbeats 4000000 in
set_option maxRecDepth 100000 in
theorem rname_any (s : ByteArray) (pl : Nat) (w : World) (hs : s.size ≤ 1000000000) (hp : pl < s.size) (hl : (Sc.isLower s[pl] || Sc.high s[pl]) = true) :
    Calls Tryz.prog 47 #[.string s, .int .i64 pl] w fun e w' => e = .returned (namR pl ((byt s).drop pl)) ∧ Upd [] w w' := by
  have HL : Hid ((Sc.isLower s[pl] || Sc.high s[pl]) = true) := hl
  clear hl
  have i00 : (pl : Int) < (s.size : Int) := by omega
  go_enter Tryz.func47, Tryz.ntmps47
  go_wp2_with fail
  go_loopw [6] (fun i wr => ∃ k : Nat, pl ≤ k ∧ k ≤ s.size ∧ i = .int .i64 k ∧ wr = w.alloc (.cells #[.int .u8 0, .string ⟨#[]⟩, .int .i64 0] 43) ∧ ∀ j (hj : j < s.size), pl ≤ j → j < k → Sc.isName s[j] = true) (fun i _ => s.size - (intOf i).toNat)
  case atStart => exact ⟨pl, by omega, by omega, rfl, rfl, fun j hj h1 h2 => by omega⟩
  case round =>
    obtain ⟨k, hk1, hk2, rfl, hwr, he⟩ := hrel
    have HE : Hid (∀ j (hj : j < s.size), pl ≤ j → j < k → Sc.isName s[j] = true) := he
    have HW : Hid (wr = w.alloc (.cells #[.int .u8 0, .string ⟨#[]⟩, .int .i64 0] 43)) := hwr
    clear he hwr
    by_cases hgo : ∃ hlt : k < s.size, Sc.isName (s[k]'hlt) = true
    · obtain ⟨hlt, hn⟩ := hgo
      have i1 : (k : Int) < (s.size : Int) := by omega
      have hn2 : Sc.named (s[k]'hlt) = true := by rw [Sc.named_eq]; exact hn
      clear hn
      go_wp2_with (go_at_call 49; refine (rnamed_any _ _).mono ?_; rintro e w' ⟨rfl, rfl⟩)
      go_roundw
      case rel => exact ⟨k + 1, by omega, by omega, by go_num, HW.out, fun j hj h1 h2 => by
        by_cases h : j = k
        · subst h; rw [← Sc.named_eq]; exact hn2
        · exact HE.out j hj h1 (by omega)⟩
      case measure => simp [intOf]; omega
    · have hend : ∀ hk : k < s.size, Sc.isName s[k] = false := fun hlt => by
        rw [Bool.eq_false_iff]; intro h; exact hgo ⟨hlt, h⟩
      have hsp := span_to Sc.isName s pl k hk2 hk1 HE.out hend
      obtain ⟨t, ht⟩ : ∃ t, t = ((byt s).drop pl).take (k - pl) := ⟨_, rfl⟩
      have hcut : s.extract pl k = str t := by rw [cut_str, ht]
      have hpk : pl < k := by
        by_cases h : pl = k
        · subst h
          have := hend hp
          rw [← Sc.named_eq] at this
          have h2 := HL.out
          unfold Sc.named at this
          rw [h2] at this
          simp at this
        · omega
      have hhd : t.headD 0 = s[pl] := by
        rw [ht, drop_here s pl hp, show k - pl = (k - pl - 1) + 1 by omega]
        rfl
      have HR : Hid (namR pl ((byt s).drop pl) = if 40 < k - pl then .tuple #[.agg #[.int .u8 0, .string ⟨#[]⟩, .int .i64 0], .int .i64 0] else .tuple #[.agg #[.int .u8 (Sc.nameKind t), .string (str t), .int .i64 pl], .int .i64 ((k : Nat) : Int)]) := by
        show _ = _
        unfold namR
        rw [hsp, ← ht, show pl + (k - pl) = k by omega]
      have HH : Hid (t.headD 0 = s[pl]) := hhd
      clear ht hsp hhd hgo HE
      have hB := Blk.new w #[.int .u8 0, .string ⟨#[]⟩, .int .i64 0] 43
      rw [← HW.out] at hB
      have hU0 : Upd [] w wr := by rw [HW.out]; exact (Upd.refl [] w).alloc _
      have hsub : wrap64 ((k : Int) - (pl : Int)) = ((k - pl : Nat) : Int) := by unfold wrap64; omega
      have hsub2 : IntKind.i64.wrap ((k : Int) - (pl : Int)) = ((k - pl : Nat) : Int) := by rw [IntKind.wrap_i64]; omega
      have hlo := hB.lt
      by_cases hlt : k < s.size
      · have i1 : (k : Int) < (s.size : Int) := by omega
        have hn2 : Sc.named (s[k]'hlt) = false := by rw [Sc.named_eq]; exact hend hlt
        clear hend
        cases hh : Sc.high s[pl] with
        | true =>
          have HK : Hid (Sc.nameKind t = 3) := nameKind_3 _ (by rw [HH.out]; have := Sc.high_low _ HL.out; rw [hh] at this; simpa using this)
          go_wp2_with (first | (go_at_call 49; refine (rnamed_any _ _).mono ?_; rintro e w' ⟨rfl, hw'⟩; rw [hw']; clear hw') | fail)
          refine (rhigh_any _ _).mono ?_
          rintro e w' ⟨rfl, hw'⟩
          rw [hw', hh]
          clear hw'
          obtain ⟨w3, hw3⟩ : ∃ w3, w3 = wr.alloc (.cells #[.int .u8 2, .string (str t), .int .i64 pl] 43) := ⟨_, rfl⟩
          have hB3 : Blk w3 wr.heap.size #[.int .u8 2, .string (str t), .int .i64 pl] 43 := by rw [hw3]; exact Blk.new _ _ _
          have A3 : Blk w3 w.heap.size #[.int .u8 0, .string ⟨#[]⟩, .int .i64 0] 43 := by rw [hw3]; exact hB.mono ((Upd.refl [] wr).alloc _) (by simp)
          have U3 : Upd [] w w3 := by rw [hw3]; exact hU0.alloc _
          rw [← hw3]
          clear hw3
          have y0 : w3.cell? ⟨wr.heap.size, 0, none⟩ = some (.int .u8 2) := hB3.cell 0
          have f0 : w3.frozen? ⟨wr.heap.size, 0, none⟩ = false := hB3.free 0
          have y1 : w3.cell? ⟨wr.heap.size, 1, none⟩ = some (.string (str t)) := hB3.cell 1

          have hBB : Blk (w3.setCell ⟨wr.heap.size, 0, none⟩ (.int .u8 3)) wr.heap.size #[.int .u8 3, .string (str t), .int .i64 pl] 43 := hB3.set 0 _
          have hAA : Blk (w3.setCell ⟨wr.heap.size, 0, none⟩ (.int .u8 3)) w.heap.size #[.int .u8 0, .string ⟨#[]⟩, .int .i64 0] 43 := A3.other _ (by simp; omega) _
          have hUU : Upd [] w (w3.setCell ⟨wr.heap.size, 0, none⟩ (.int .u8 3)) := U3.setCell (Or.inl (by simp; omega)) _
          by_cases h40 : 40 < k - pl
          · have d40 : (40 : Int) < ((k - pl : Nat) : Int) := by omega
            go_wp2_with (refine store_S _ rfl 43 _ _ rfl w.heap.size #[.int .u8 0, .string ⟨#[]⟩, .int .i64 0] _ rfl rfl hAA info_tok3 rfl (by simp [Value.oneCell']) ?_; intro w5 hB5 hU5)
            rw [HR.out, if_pos h40]
            exact ret_St Tryz.results47 rfl _ _ _ rfl rfl hB5 Tryz.underlying43 info_tok3 ⟨rfl, hUU.then hU5 (by simp)⟩
          · have d40 : decide ((40 : Int) < ((k - pl : Nat) : Int)) = false := by simp; omega
            go_wp2_with (first | (refine wpList_load_row rfl 43 _ rfl wr.heap.size rfl 43 _ (0, 0) _ hBB Tryz.underlying43 rfl info_tok3 ?_) | (refine store_S _ rfl 43 _ _ rfl w.heap.size #[.int .u8 3, .string (str t), .int .i64 pl] _ rfl rfl hAA info_tok3 rfl (by simp [Value.oneCell']) ?_; intro w5 hB5 hU5))
            rw [HR.out, if_neg h40, HK.out]
            exact ret_St Tryz.results47 rfl _ _ _ rfl rfl hB5 Tryz.underlying43 info_tok3 ⟨rfl, hUU.then hU5 (by simp)⟩
        | false =>
          have hlow : Sc.isLower s[pl] = true := by have := HL.out; rw [hh] at this; simpa using this
          cases hw : Sc.words.contains t with
          | true =>
            have HK : Hid (Sc.nameKind t = 6) := nameKind_6 _ (by rw [HH.out]; exact hlow) hw
            go_wp2_with (first | (go_at_call 49; refine (rnamed_any _ _).mono ?_; rintro e w' ⟨rfl, hw'⟩; rw [hw']; clear hw') | fail)
            refine (rhigh_any _ _).mono ?_
            rintro e w' ⟨rfl, hw'⟩
            rw [hw', hh]
            clear hw'
            obtain ⟨w3, hw3⟩ : ∃ w3, w3 = wr.alloc (.cells #[.int .u8 2, .string (str t), .int .i64 pl] 43) := ⟨_, rfl⟩
            have hB3 : Blk w3 wr.heap.size #[.int .u8 2, .string (str t), .int .i64 pl] 43 := by rw [hw3]; exact Blk.new _ _ _
            have A3 : Blk w3 w.heap.size #[.int .u8 0, .string ⟨#[]⟩, .int .i64 0] 43 := by rw [hw3]; exact hB.mono ((Upd.refl [] wr).alloc _) (by simp)
            have U3 : Upd [] w w3 := by rw [hw3]; exact hU0.alloc _
            rw [← hw3]
            clear hw3
            have y0 : w3.cell? ⟨wr.heap.size, 0, none⟩ = some (.int .u8 2) := hB3.cell 0
            have f0 : w3.frozen? ⟨wr.heap.size, 0, none⟩ = false := hB3.free 0
            have y1 : w3.cell? ⟨wr.heap.size, 1, none⟩ = some (.string (str t)) := hB3.cell 1

            go_wp2_with fail

            refine (rword_any _ _).mono ?_
            rintro e w4 ⟨rfl, hU4⟩
            have hB4 := hB3.mono hU4 (by simp)
            have A4 := A3.mono hU4 (by simp)
            have U4 := U3.trans hU4
            have z0 : w4.cell? ⟨wr.heap.size, 0, none⟩ = some (.int .u8 2) := hB4.cell 0
            have g0 : w4.frozen? ⟨wr.heap.size, 0, none⟩ = false := hB4.free 0
            rw [byt_str, hw]

            have hBB : Blk (w4.setCell ⟨wr.heap.size, 0, none⟩ (.int .u8 6)) wr.heap.size #[.int .u8 6, .string (str t), .int .i64 pl] 43 := hB4.set 0 _
            have hAA : Blk (w4.setCell ⟨wr.heap.size, 0, none⟩ (.int .u8 6)) w.heap.size #[.int .u8 0, .string ⟨#[]⟩, .int .i64 0] 43 := A4.other _ (by simp; omega) _
            have hUU : Upd [] w (w4.setCell ⟨wr.heap.size, 0, none⟩ (.int .u8 6)) := U4.setCell (Or.inl (by simp; omega)) _
            by_cases h40 : 40 < k - pl
            · have d40 : (40 : Int) < ((k - pl : Nat) : Int) := by omega
              go_wp2_with (refine store_S _ rfl 43 _ _ rfl w.heap.size #[.int .u8 0, .string ⟨#[]⟩, .int .i64 0] _ rfl rfl hAA info_tok3 rfl (by simp [Value.oneCell']) ?_; intro w5 hB5 hU5)
              rw [HR.out, if_pos h40]
              exact ret_St Tryz.results47 rfl _ _ _ rfl rfl hB5 Tryz.underlying43 info_tok3 ⟨rfl, hUU.then hU5 (by simp)⟩
            · have d40 : decide ((40 : Int) < ((k - pl : Nat) : Int)) = false := by simp; omega
              go_wp2_with (first | (refine wpList_load_row rfl 43 _ rfl wr.heap.size rfl 43 _ (0, 0) _ hBB Tryz.underlying43 rfl info_tok3 ?_) | (refine store_S _ rfl 43 _ _ rfl w.heap.size #[.int .u8 6, .string (str t), .int .i64 pl] _ rfl rfl hAA info_tok3 rfl (by simp [Value.oneCell']) ?_; intro w5 hB5 hU5))
              rw [HR.out, if_neg h40, HK.out]
              exact ret_St Tryz.results47 rfl _ _ _ rfl rfl hB5 Tryz.underlying43 info_tok3 ⟨rfl, hUU.then hU5 (by simp)⟩
          | false =>
            have HK : Hid (Sc.nameKind t = 2) := nameKind_2 _ (by rw [HH.out]; exact hlow) hw
            go_wp2_with (first | (go_at_call 49; refine (rnamed_any _ _).mono ?_; rintro e w' ⟨rfl, hw'⟩; rw [hw']; clear hw') | fail)
            refine (rhigh_any _ _).mono ?_
            rintro e w' ⟨rfl, hw'⟩
            rw [hw', hh]
            clear hw'
            obtain ⟨w3, hw3⟩ : ∃ w3, w3 = wr.alloc (.cells #[.int .u8 2, .string (str t), .int .i64 pl] 43) := ⟨_, rfl⟩
            have hB3 : Blk w3 wr.heap.size #[.int .u8 2, .string (str t), .int .i64 pl] 43 := by rw [hw3]; exact Blk.new _ _ _
            have A3 : Blk w3 w.heap.size #[.int .u8 0, .string ⟨#[]⟩, .int .i64 0] 43 := by rw [hw3]; exact hB.mono ((Upd.refl [] wr).alloc _) (by simp)
            have U3 : Upd [] w w3 := by rw [hw3]; exact hU0.alloc _
            rw [← hw3]
            clear hw3
            have y0 : w3.cell? ⟨wr.heap.size, 0, none⟩ = some (.int .u8 2) := hB3.cell 0
            have f0 : w3.frozen? ⟨wr.heap.size, 0, none⟩ = false := hB3.free 0
            have y1 : w3.cell? ⟨wr.heap.size, 1, none⟩ = some (.string (str t)) := hB3.cell 1

            go_wp2_with fail

            refine (rword_any _ _).mono ?_
            rintro e w4 ⟨rfl, hU4⟩
            have hB4 := hB3.mono hU4 (by simp)
            have A4 := A3.mono hU4 (by simp)
            have U4 := U3.trans hU4
            have z0 : w4.cell? ⟨wr.heap.size, 0, none⟩ = some (.int .u8 2) := hB4.cell 0
            have g0 : w4.frozen? ⟨wr.heap.size, 0, none⟩ = false := hB4.free 0
            rw [byt_str, hw]

            have hBB : Blk w4 wr.heap.size #[.int .u8 2, .string (str t), .int .i64 pl] 43 := hB4
            have hAA : Blk w4 w.heap.size #[.int .u8 0, .string ⟨#[]⟩, .int .i64 0] 43 := A4
            have hUU : Upd [] w w4 := U4
            by_cases h40 : 40 < k - pl
            · have d40 : (40 : Int) < ((k - pl : Nat) : Int) := by omega
              go_wp2_with (refine store_S _ rfl 43 _ _ rfl w.heap.size #[.int .u8 0, .string ⟨#[]⟩, .int .i64 0] _ rfl rfl hAA info_tok3 rfl (by simp [Value.oneCell']) ?_; intro w5 hB5 hU5)
              rw [HR.out, if_pos h40]
              exact ret_St Tryz.results47 rfl _ _ _ rfl rfl hB5 Tryz.underlying43 info_tok3 ⟨rfl, hUU.then hU5 (by simp)⟩
            · have d40 : decide ((40 : Int) < ((k - pl : Nat) : Int)) = false := by simp; omega
              go_wp2_with (first | (refine wpList_load_row rfl 43 _ rfl wr.heap.size rfl 43 _ (0, 0) _ hBB Tryz.underlying43 rfl info_tok3 ?_) | (refine store_S _ rfl 43 _ _ rfl w.heap.size #[.int .u8 2, .string (str t), .int .i64 pl] _ rfl rfl hAA info_tok3 rfl (by simp [Value.oneCell']) ?_; intro w5 hB5 hU5))
              rw [HR.out, if_neg h40, HK.out]
              exact ret_St Tryz.results47 rfl _ _ _ rfl rfl hB5 Tryz.underlying43 info_tok3 ⟨rfl, hUU.then hU5 (by simp)⟩
      · have i1 : decide ((k : Int) < (s.size : Int)) = false := by simp; omega
        clear hend
        cases hh : Sc.high s[pl] with
        | true =>
          have HK : Hid (Sc.nameKind t = 3) := nameKind_3 _ (by rw [HH.out]; have := Sc.high_low _ HL.out; rw [hh] at this; simpa using this)
          go_wp2_with (first | (go_at_call 49; refine (rnamed_any _ _).mono ?_; rintro e w' ⟨rfl, hw'⟩; rw [hw']; clear hw') | fail)
          refine (rhigh_any _ _).mono ?_
          rintro e w' ⟨rfl, hw'⟩
          rw [hw', hh]
          clear hw'
          obtain ⟨w3, hw3⟩ : ∃ w3, w3 = wr.alloc (.cells #[.int .u8 2, .string (str t), .int .i64 pl] 43) := ⟨_, rfl⟩
          have hB3 : Blk w3 wr.heap.size #[.int .u8 2, .string (str t), .int .i64 pl] 43 := by rw [hw3]; exact Blk.new _ _ _
          have A3 : Blk w3 w.heap.size #[.int .u8 0, .string ⟨#[]⟩, .int .i64 0] 43 := by rw [hw3]; exact hB.mono ((Upd.refl [] wr).alloc _) (by simp)
          have U3 : Upd [] w w3 := by rw [hw3]; exact hU0.alloc _
          rw [← hw3]
          clear hw3
          have y0 : w3.cell? ⟨wr.heap.size, 0, none⟩ = some (.int .u8 2) := hB3.cell 0
          have f0 : w3.frozen? ⟨wr.heap.size, 0, none⟩ = false := hB3.free 0
          have y1 : w3.cell? ⟨wr.heap.size, 1, none⟩ = some (.string (str t)) := hB3.cell 1

          have hBB : Blk (w3.setCell ⟨wr.heap.size, 0, none⟩ (.int .u8 3)) wr.heap.size #[.int .u8 3, .string (str t), .int .i64 pl] 43 := hB3.set 0 _
          have hAA : Blk (w3.setCell ⟨wr.heap.size, 0, none⟩ (.int .u8 3)) w.heap.size #[.int .u8 0, .string ⟨#[]⟩, .int .i64 0] 43 := A3.other _ (by simp; omega) _
          have hUU : Upd [] w (w3.setCell ⟨wr.heap.size, 0, none⟩ (.int .u8 3)) := U3.setCell (Or.inl (by simp; omega)) _
          by_cases h40 : 40 < k - pl
          · have d40 : (40 : Int) < ((k - pl : Nat) : Int) := by omega
            go_wp2_with (refine store_S _ rfl 43 _ _ rfl w.heap.size #[.int .u8 0, .string ⟨#[]⟩, .int .i64 0] _ rfl rfl hAA info_tok3 rfl (by simp [Value.oneCell']) ?_; intro w5 hB5 hU5)
            rw [HR.out, if_pos h40]
            exact ret_St Tryz.results47 rfl _ _ _ rfl rfl hB5 Tryz.underlying43 info_tok3 ⟨rfl, hUU.then hU5 (by simp)⟩
          · have d40 : decide ((40 : Int) < ((k - pl : Nat) : Int)) = false := by simp; omega
            go_wp2_with (first | (refine wpList_load_row rfl 43 _ rfl wr.heap.size rfl 43 _ (0, 0) _ hBB Tryz.underlying43 rfl info_tok3 ?_) | (refine store_S _ rfl 43 _ _ rfl w.heap.size #[.int .u8 3, .string (str t), .int .i64 pl] _ rfl rfl hAA info_tok3 rfl (by simp [Value.oneCell']) ?_; intro w5 hB5 hU5))
            rw [HR.out, if_neg h40, HK.out]
            exact ret_St Tryz.results47 rfl _ _ _ rfl rfl hB5 Tryz.underlying43 info_tok3 ⟨rfl, hUU.then hU5 (by simp)⟩
        | false =>
          have hlow : Sc.isLower s[pl] = true := by have := HL.out; rw [hh] at this; simpa using this
          cases hw : Sc.words.contains t with
          | true =>
            have HK : Hid (Sc.nameKind t = 6) := nameKind_6 _ (by rw [HH.out]; exact hlow) hw
            go_wp2_with (first | (go_at_call 49; refine (rnamed_any _ _).mono ?_; rintro e w' ⟨rfl, hw'⟩; rw [hw']; clear hw') | fail)
            refine (rhigh_any _ _).mono ?_
            rintro e w' ⟨rfl, hw'⟩
            rw [hw', hh]
            clear hw'
            obtain ⟨w3, hw3⟩ : ∃ w3, w3 = wr.alloc (.cells #[.int .u8 2, .string (str t), .int .i64 pl] 43) := ⟨_, rfl⟩
            have hB3 : Blk w3 wr.heap.size #[.int .u8 2, .string (str t), .int .i64 pl] 43 := by rw [hw3]; exact Blk.new _ _ _
            have A3 : Blk w3 w.heap.size #[.int .u8 0, .string ⟨#[]⟩, .int .i64 0] 43 := by rw [hw3]; exact hB.mono ((Upd.refl [] wr).alloc _) (by simp)
            have U3 : Upd [] w w3 := by rw [hw3]; exact hU0.alloc _
            rw [← hw3]
            clear hw3
            have y0 : w3.cell? ⟨wr.heap.size, 0, none⟩ = some (.int .u8 2) := hB3.cell 0
            have f0 : w3.frozen? ⟨wr.heap.size, 0, none⟩ = false := hB3.free 0
            have y1 : w3.cell? ⟨wr.heap.size, 1, none⟩ = some (.string (str t)) := hB3.cell 1

            go_wp2_with fail

            refine (rword_any _ _).mono ?_
            rintro e w4 ⟨rfl, hU4⟩
            have hB4 := hB3.mono hU4 (by simp)
            have A4 := A3.mono hU4 (by simp)
            have U4 := U3.trans hU4
            have z0 : w4.cell? ⟨wr.heap.size, 0, none⟩ = some (.int .u8 2) := hB4.cell 0
            have g0 : w4.frozen? ⟨wr.heap.size, 0, none⟩ = false := hB4.free 0
            rw [byt_str, hw]

            have hBB : Blk (w4.setCell ⟨wr.heap.size, 0, none⟩ (.int .u8 6)) wr.heap.size #[.int .u8 6, .string (str t), .int .i64 pl] 43 := hB4.set 0 _
            have hAA : Blk (w4.setCell ⟨wr.heap.size, 0, none⟩ (.int .u8 6)) w.heap.size #[.int .u8 0, .string ⟨#[]⟩, .int .i64 0] 43 := A4.other _ (by simp; omega) _
            have hUU : Upd [] w (w4.setCell ⟨wr.heap.size, 0, none⟩ (.int .u8 6)) := U4.setCell (Or.inl (by simp; omega)) _
            by_cases h40 : 40 < k - pl
            · have d40 : (40 : Int) < ((k - pl : Nat) : Int) := by omega
              go_wp2_with (refine store_S _ rfl 43 _ _ rfl w.heap.size #[.int .u8 0, .string ⟨#[]⟩, .int .i64 0] _ rfl rfl hAA info_tok3 rfl (by simp [Value.oneCell']) ?_; intro w5 hB5 hU5)
              rw [HR.out, if_pos h40]
              exact ret_St Tryz.results47 rfl _ _ _ rfl rfl hB5 Tryz.underlying43 info_tok3 ⟨rfl, hUU.then hU5 (by simp)⟩
            · have d40 : decide ((40 : Int) < ((k - pl : Nat) : Int)) = false := by simp; omega
              go_wp2_with (first | (refine wpList_load_row rfl 43 _ rfl wr.heap.size rfl 43 _ (0, 0) _ hBB Tryz.underlying43 rfl info_tok3 ?_) | (refine store_S _ rfl 43 _ _ rfl w.heap.size #[.int .u8 6, .string (str t), .int .i64 pl] _ rfl rfl hAA info_tok3 rfl (by simp [Value.oneCell']) ?_; intro w5 hB5 hU5))
              rw [HR.out, if_neg h40, HK.out]
              exact ret_St Tryz.results47 rfl _ _ _ rfl rfl hB5 Tryz.underlying43 info_tok3 ⟨rfl, hUU.then hU5 (by simp)⟩
          | false =>
            have HK : Hid (Sc.nameKind t = 2) := nameKind_2 _ (by rw [HH.out]; exact hlow) hw
            go_wp2_with (first | (go_at_call 49; refine (rnamed_any _ _).mono ?_; rintro e w' ⟨rfl, hw'⟩; rw [hw']; clear hw') | fail)
            refine (rhigh_any _ _).mono ?_
            rintro e w' ⟨rfl, hw'⟩
            rw [hw', hh]
            clear hw'
            obtain ⟨w3, hw3⟩ : ∃ w3, w3 = wr.alloc (.cells #[.int .u8 2, .string (str t), .int .i64 pl] 43) := ⟨_, rfl⟩
            have hB3 : Blk w3 wr.heap.size #[.int .u8 2, .string (str t), .int .i64 pl] 43 := by rw [hw3]; exact Blk.new _ _ _
            have A3 : Blk w3 w.heap.size #[.int .u8 0, .string ⟨#[]⟩, .int .i64 0] 43 := by rw [hw3]; exact hB.mono ((Upd.refl [] wr).alloc _) (by simp)
            have U3 : Upd [] w w3 := by rw [hw3]; exact hU0.alloc _
            rw [← hw3]
            clear hw3
            have y0 : w3.cell? ⟨wr.heap.size, 0, none⟩ = some (.int .u8 2) := hB3.cell 0
            have f0 : w3.frozen? ⟨wr.heap.size, 0, none⟩ = false := hB3.free 0
            have y1 : w3.cell? ⟨wr.heap.size, 1, none⟩ = some (.string (str t)) := hB3.cell 1

            go_wp2_with fail

            refine (rword_any _ _).mono ?_
            rintro e w4 ⟨rfl, hU4⟩
            have hB4 := hB3.mono hU4 (by simp)
            have A4 := A3.mono hU4 (by simp)
            have U4 := U3.trans hU4
            have z0 : w4.cell? ⟨wr.heap.size, 0, none⟩ = some (.int .u8 2) := hB4.cell 0
            have g0 : w4.frozen? ⟨wr.heap.size, 0, none⟩ = false := hB4.free 0
            rw [byt_str, hw]

            have hBB : Blk w4 wr.heap.size #[.int .u8 2, .string (str t), .int .i64 pl] 43 := hB4
            have hAA : Blk w4 w.heap.size #[.int .u8 0, .string ⟨#[]⟩, .int .i64 0] 43 := A4
            have hUU : Upd [] w w4 := U4
            by_cases h40 : 40 < k - pl
            · have d40 : (40 : Int) < ((k - pl : Nat) : Int) := by omega
              go_wp2_with (refine store_S _ rfl 43 _ _ rfl w.heap.size #[.int .u8 0, .string ⟨#[]⟩, .int .i64 0] _ rfl rfl hAA info_tok3 rfl (by simp [Value.oneCell']) ?_; intro w5 hB5 hU5)
              rw [HR.out, if_pos h40]
              exact ret_St Tryz.results47 rfl _ _ _ rfl rfl hB5 Tryz.underlying43 info_tok3 ⟨rfl, hUU.then hU5 (by simp)⟩
            · have d40 : decide ((40 : Int) < ((k - pl : Nat) : Int)) = false := by simp; omega
              go_wp2_with (first | (refine wpList_load_row rfl 43 _ rfl wr.heap.size rfl 43 _ (0, 0) _ hBB Tryz.underlying43 rfl info_tok3 ?_) | (refine store_S _ rfl 43 _ _ rfl w.heap.size #[.int .u8 2, .string (str t), .int .i64 pl] _ rfl rfl hAA info_tok3 rfl (by simp [Value.oneCell']) ?_; intro w5 hB5 hU5))
              rw [HR.out, if_neg h40, HK.out]
              exact ret_St Tryz.results47 rfl _ _ _ rfl rfl hB5 Tryz.underlying43 info_tok3 ⟨rfl, hUU.then hU5 (by simp)⟩

end Go.Proofs.YtiapdapkklcliaaGreatDoor
