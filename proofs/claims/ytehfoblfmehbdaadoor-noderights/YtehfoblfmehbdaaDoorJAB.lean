/- Numbers and variables, by their contracts. -/
import Derived.Test.YtehfoblfmehbdaaDoorNdQ
import Derived.Laws.Closers25

namespace Go.Proofs.YtehfoblfmehbdaaDoor
open Go.RowKit

/-- The document's number. -/
def numS (s : ByteArray) : Bool := decide (s.size ≠ 0 ∧ s.size ≤ 400) && allB digB s
/-- Its first byte begins a variable. -/
def vhead (s : ByteArray) : Bool := if h : 0 < s.size then uppB (s[0]'h).toNat || ((s[0]'h).toNat : Int) == 95 else false
/-- The document's variable. -/
def varS (s : ByteArray) : Bool := decide (s.size ≠ 0 ∧ s.size ≤ 40) && (vhead s && allB varC s)

theorem empty_is {s : ByteArray} (h : s.size = 0) : s = ⟨#[]⟩ := by
  cases s with
  | mk d => congr; exact Array.eq_empty_of_size_eq_zero h
theorem empty_isn {s : ByteArray} (h : s.size ≠ 0) : s.toList.isEmpty = false := by
  rw [← decide_eq_emptyBytes]
  simp only [decide_eq_false_iff_not]
  intro e; subst e; simp at h

set_option maxHeartbeats 1000000 in
set_option maxRecDepth 100000 in
theorem isNumber_any (s : ByteArray) (w : World) (hs : s.size ≤ 9223372036854775807) :
    Calls Tryd.prog 68 #[.string s] w fun e w' => e = .returned (.bool (numS s)) ∧ w' = w := by
  unfold numS
  obtain ⟨b, hb⟩ : ∃ b, allB digB s = b := ⟨_, rfl⟩
  have HB : Hid (∀ W, Calls Tryd.prog 72 #[.string s, .func (.func 73) #[] #[]] W fun e w' => e = .returned (.bool b) ∧ w' = W) := fun W => by
    rw [← hb]; exact allBytes_any s _ digB W hs Tryd.call73 isDigit_any
  rw [hb]
  clear hb
  by_cases h0 : s.size = 0
  · obtain rfl := empty_is h0
    go_enter Tryd.func68, Tryd.ntmps68
    go_wp2
    go_ret
    exact ⟨rfl, rfl⟩
  · have hq := empty_isn h0
    by_cases h1 : s.size ≤ 400
    · rw [decide_eq_true (⟨h0, h1⟩ : s.size ≠ 0 ∧ s.size ≤ 400), Bool.true_and]
      have hd : decide ((s.size : Int) ≤ 400) = true := by simp; omega
      go_enter Tryd.func68, Tryd.ntmps68
      go_wp2_with fail
      refine (HB.out _).mono ?_
      rintro e w1 ⟨rfl, rfl⟩
      go_wp2
      go_ret
      exact ⟨rfl, rfl⟩
    · have hx : decide (s.size ≠ 0 ∧ s.size ≤ 400) = false := decide_eq_false (fun h => h1 h.2)
      rw [hx, Bool.false_and]
      have hd : decide ((s.size : Int) ≤ 400) = false := by simp; omega
      go_enter Tryd.func68, Tryd.ntmps68
      go_wp2
      go_ret
      exact ⟨rfl, rfl⟩

set_option maxHeartbeats 1000000 in
set_option maxRecDepth 100000 in
theorem isVariable_any (s : ByteArray) (w : World) (hs : s.size ≤ 9223372036854775807) :
    Calls Tryd.prog 69 #[.string s] w fun e w' => e = .returned (.bool (varS s)) ∧ w' = w := by
  unfold varS
  obtain ⟨b, hb⟩ : ∃ b, allB varC s = b := ⟨_, rfl⟩
  have HB : Hid (∀ W, Calls Tryd.prog 72 #[.string s, .func (.func 75) #[] #[]] W fun e w' => e = .returned (.bool b) ∧ w' = W) := fun W => by
    rw [← hb]; exact allBytes_any s _ varC W hs Tryd.call75 isVarC_any
  rw [hb]
  clear hb
  by_cases h0 : s.size = 0
  · obtain rfl := empty_is h0
    go_enter Tryd.func69, Tryd.ntmps69
    go_wp2
    go_ret
    exact ⟨rfl, rfl⟩
  · have hq := empty_isn h0
    by_cases h1 : s.size ≤ 40
    · rw [decide_eq_true (⟨h0, h1⟩ : s.size ≠ 0 ∧ s.size ≤ 40), Bool.true_and]
      have hd : decide ((s.size : Int) ≤ 40) = true := by simp; omega
      have hp : 0 < s.size := Nat.pos_of_ne_zero h0
      have hv : vhead s = (uppB (s[0]'hp).toNat || ((s[0]'hp).toNat : Int) == 95) := dif_pos hp
      rw [hv]
      clear hv
      obtain ⟨u, hu⟩ : ∃ u, uppB ((s[0]'hp).toNat : Int) = u := ⟨_, rfl⟩
      have HU : Hid (∀ W, Calls Tryd.prog 74 #[.int .u8 ((s[0]'hp).toNat : Int)] W fun e w' => e = .returned (.bool u) ∧ w' = W) := fun W => by rw [← hu]; exact isUpper_any _ W
      rw [hu]
      clear hu
      obtain ⟨m, hm⟩ : ∃ m, (((s[0]'hp).toNat : Int) == 95) = m := ⟨_, rfl⟩
      rw [hm]
      have hm2 : (((s[0]'hp).toNat : Int) != 95) = !m := by rw [bne, hm]
      cases u with
      | true =>
        go_enter Tryd.func69, Tryd.ntmps69
        go_wp2_with fail
        refine (HU.out _).mono ?_
        rintro e w1 ⟨rfl, rfl⟩
        go_wp2_with fail
        refine (HB.out _).mono ?_
        rintro e w1 ⟨rfl, rfl⟩
        go_wp2
        go_ret
        exact ⟨rfl, rfl⟩
      | false =>
        cases m with
        | true =>
          go_enter Tryd.func69, Tryd.ntmps69
          go_wp2_with fail
          refine (HU.out _).mono ?_
          rintro e w1 ⟨rfl, rfl⟩
          go_wp2_with fail
          refine (HB.out _).mono ?_
          rintro e w1 ⟨rfl, rfl⟩
          go_wp2
          go_ret
          exact ⟨rfl, rfl⟩
        | false =>
          go_enter Tryd.func69, Tryd.ntmps69
          go_wp2_with fail
          refine (HU.out _).mono ?_
          rintro e w1 ⟨rfl, rfl⟩
          go_wp2
          go_ret
          exact ⟨rfl, rfl⟩
    · have hx : decide (s.size ≠ 0 ∧ s.size ≤ 40) = false := decide_eq_false (fun h => h1 h.2)
      rw [hx, Bool.false_and]
      have hd : decide ((s.size : Int) ≤ 40) = false := by simp; omega
      go_enter Tryd.func69, Tryd.ntmps69
      go_wp2
      go_ret
      exact ⟨rfl, rfl⟩

end Go.Proofs.YtehfoblfmehbdaaDoor

/- Operators, by their contract. -/
namespace Go.Proofs.YtehfoblfmehbdaaDoor
open Go.RowKit

/-- The operators, with how many items each stands. -/
def opsL : List (List UInt8 × Nat) := [([45], 1), ([43], 1), ([110, 111, 116], 1), ([33], 2), ([111, 114, 101, 108, 115, 101], 2), ([97, 110, 100, 97, 108, 115, 111], 2), ([61, 61], 2), ([47, 61], 2), ([61, 58, 61], 2), ([61, 47, 61], 2), ([60], 2), ([61, 60], 2), ([62], 2), ([62, 61], 2), ([43, 43], 2), ([45, 45], 2), ([43], 2), ([45], 2), ([111, 114], 2), ([120, 111, 114], 2), ([42], 2), ([100, 105, 118], 2), ([114, 101, 109], 2), ([97, 110, 100], 2)]
def opT (k : Nat) : ByteArray := ⟨(opsL.getD k ([], 0)).1.toArray⟩
def opN (k : Nat) : Nat := (opsL.getD k ([], 0)).2
def opsV : Array Value := (opsL.flatMap fun p => [Value.string ⟨p.1.toArray⟩, Value.int .u8 p.2]).toArray
/-- The table stands in its block. -/
def Ops (w : World) : Prop := 1 < w.heap.size ∧ ∃ t fr, w.heap[1]? = some (.cells opsV t fr)
theorem Ops.mono {w w' : World} (h : Ops w) (hu : Upd [] w w') : Ops w' := by
  obtain ⟨hs, t, fr, he⟩ := h
  exact ⟨Nat.lt_of_lt_of_le hs hu.size, t, fr, (hu.block 1 hs (by simp)).trans he⟩
/-- The document's operator. -/
def opB (s : ByteArray) (n : Int) : Bool := (List.range 24).any fun k => decide (opT k = s ∧ (opN k : Int) = n)
theorem opB_yes {s : ByteArray} {n : Int} (k : Nat) (hk : k < 24) (h : opT k = s ∧ (opN k : Int) = n) : opB s n = true := List.any_eq_true.2 ⟨k, List.mem_range.2 hk, decide_eq_true h⟩
theorem opB_no {s : ByteArray} {n : Int} (h : ∀ k, k < 24 → ¬ (opT k = s ∧ (opN k : Int) = n)) : opB s n = false := List.any_eq_false.2 fun k hk => by simpa using h k (List.mem_range.1 hk)

theorem ops_part (k : Nat) (hk : k < 24) : opsV.extract (k * 2) (k * 2 + 2) = #[.string (opT k), .int .u8 (opN k)] := by
  match k, hk with
  | 0, _ => rfl
  | 1, _ => rfl
  | 2, _ => rfl
  | 3, _ => rfl
  | 4, _ => rfl
  | 5, _ => rfl
  | 6, _ => rfl
  | 7, _ => rfl
  | 8, _ => rfl
  | 9, _ => rfl
  | 10, _ => rfl
  | 11, _ => rfl
  | 12, _ => rfl
  | 13, _ => rfl
  | 14, _ => rfl
  | 15, _ => rfl
  | 16, _ => rfl
  | 17, _ => rfl
  | 18, _ => rfl
  | 19, _ => rfl
  | 20, _ => rfl
  | 21, _ => rfl
  | 22, _ => rfl
  | 23, _ => rfl
  | n + 24, h => exact absurd h (by omega)
theorem info80 : (Tryd.prog.info? 71).map (·.size) = some 2 := by kernel_rfl
theorem info81 : (Tryd.prog.info? 72).map (·.size) = some 48 := by kernel_rfl
theorem desc81 : Tryd.prog.underlying 72 = some (.array 24 71) := by kernel_rfl

theorem load_ops {w : World} (hw : Ops w) {ops : Array Oper} {rest : List Oper} {o : Oper} {a : Act} {Q : Exit → Act → World → Prop} (hgd : o.guard = none) (x : Operand) (ho : o.op = .load 72 x) (hx : a.eval x = .pointer (some ⟨1, 0, none⟩))
    (h : wpList Tryd.prog ops Q rest (a.put o.dst (.agg opsV)) w) : wpList Tryd.prog ops Q (o :: rest) a w := by
  obtain ⟨_, t, fr, he⟩ := hw
  exact wpList_load_row hgd 72 x ho 1 hx t opsV fr _ he desc81 rfl info81 h

theorem index_run (k : Nat) (hk : k < 24) (w : World) : (Instr.index 72 (.agg opsV) (.int .i64 k)).run Tryd.prog w = .ok (.agg #[.string (opT k), .int .u8 (opN k)]) w := by
  rw [← ops_part k hk]
  have h1 : ∀ w, (isAgg 71).run Tryd.prog w = .ok true w := fun w => by rfl
  have h2 : ∀ w, (Go.sizeOf 71).run Tryd.prog w = .ok 2 w := fun w => by rfl
  have h3 : ∀ w, (Go.underlying 72).run Tryd.prog w = .ok (.array 24 71) w := fun w => by rfl
  have h4 : 0 ≤ (k : Int) ∧ (k : Int) < (24 : Nat) := by omega
  simp only [Instr.index, asIntOf, Sem.run_bind, Sem.run_pure, Result.andThen_ok, h3]
  rw [if_pos h4]
  simp [part, h1, h2]

theorem bytes_of {s t : ByteArray} (h : s.toList = t.toList) : s = t := by
  rw [ByteArray.toList_eq, ByteArray.toList_eq] at h
  obtain ⟨⟨l⟩⟩ := s
  obtain ⟨⟨m⟩⟩ := t
  simp at h
  rw [h]
theorem opN_le (k : Nat) (hk : k < 24) : opN k ≤ 2 := by
  match k, hk with
  | 0, _ => simp [opN, opsL]
  | 1, _ => simp [opN, opsL]
  | 2, _ => simp [opN, opsL]
  | 3, _ => simp [opN, opsL]
  | 4, _ => simp [opN, opsL]
  | 5, _ => simp [opN, opsL]
  | 6, _ => simp [opN, opsL]
  | 7, _ => simp [opN, opsL]
  | 8, _ => simp [opN, opsL]
  | 9, _ => simp [opN, opsL]
  | 10, _ => simp [opN, opsL]
  | 11, _ => simp [opN, opsL]
  | 12, _ => simp [opN, opsL]
  | 13, _ => simp [opN, opsL]
  | 14, _ => simp [opN, opsL]
  | 15, _ => simp [opN, opsL]
  | 16, _ => simp [opN, opsL]
  | 17, _ => simp [opN, opsL]
  | 18, _ => simp [opN, opsL]
  | 19, _ => simp [opN, opsL]
  | 20, _ => simp [opN, opsL]
  | 21, _ => simp [opN, opsL]
  | 22, _ => simp [opN, opsL]
  | 23, _ => simp [opN, opsL]
  | n + 24, h => exact absurd h (by omega)
theorem opN_wrap (k : Nat) (hk : k < 24) : wrap64 (opN k : Int) = opN k := by
  have := opN_le k hk
  unfold wrap64; omega

theorem index_ops {w : World} (k : Nat) (hk : k < 24) {ops : Array Oper} {rest : List Oper} {o : Oper} {a : Act} {Q : Exit → Act → World → Prop} (hgd : o.guard = none) (x y : Operand) (ho : o.op = .index 72 x y) (hx : a.eval x = .agg opsV) (hy : a.eval y = .int .i64 k)
    (h : wpList Tryd.prog ops Q rest (a.put o.dst (.agg #[.string (opT k), .int .u8 (opN k)])) w) : wpList Tryd.prog ops Q (o :: rest) a w :=
  wpList_plain hgd fun _ hK => by
    have := hK _ _ h
    unfold Oper.wp execOp
    simp only [ho, hx, hy, Sem.run_bind, Result.andThen_ok, Sem.run_pure, index_run k hk]
    exact this

set_option maxHeartbeats 1000000 in
set_option maxRecDepth 100000 in
theorem isOperator_any (s : ByteArray) (n : Int) (w : World) (hO : Ops w) :
    Calls Tryd.prog 70 #[.string s, .int .i64 n] w fun e w' => e = .returned (.bool (opB s n)) ∧ Upd [] w w' := by
  have HO : Hid (Ops w) := hO
  clear hO
  go_enter Tryd.func70, Tryd.ntmps70
  go_wp2_with (first | (refine load_ops HO.out rfl _ rfl rfl ?_) | fail)
  go_loopw [8] (fun i wr => ∃ k : Nat, k ≤ 24 ∧ i = .int .i64 k ∧ (∀ j, j < k → ¬ (opT j = s ∧ (opN j : Int) = n)) ∧ Upd [] w wr) (fun i _ => 24 - (intOf i).toNat)
  case atStart => exact ⟨0, by omega, rfl, fun j hj => by omega, Upd.refl _ _⟩
  case round =>
    obtain ⟨k, hk, rfl, hy, hu⟩ := hrel
    have HY : Hid (∀ j, j < k → ¬ (opT j = s ∧ (opN j : Int) = n)) := hy
    have HU : Hid (Upd [] w wr) := hu
    clear hy hu
    by_cases hlt : k < 24
    · have i1 : (k : Int) < 24 := by omega
      go_wp2_with (first | (refine index_ops k hlt rfl _ _ rfl rfl rfl ?_) | fail)
      · go_ret
        rename_i e1 e2
        refine ⟨?_, HU.out.alloc _⟩
        rw [opB_yes k hlt ⟨bytes_of e1, by rw [← opN_wrap k hlt]; exact eq_of_beq e2⟩]
        rfl
      · rename_i e1 e2
        refine ⟨⟨k + 1, by omega, by go_num, fun j hj => ?_, HU.out.alloc _⟩, by simp [intOf]; omega⟩
        by_cases e : j = k
        · subst e; rintro ⟨_, h⟩; rw [opN_wrap j hlt, h] at e2; simp at e2
        · exact HY.out j (by omega)
      · rename_i e1
        refine ⟨⟨k + 1, by omega, by go_num, fun j hj => ?_, HU.out.alloc _⟩, by simp [intOf]; omega⟩
        by_cases e : j = k
        · subst e; rintro ⟨h, _⟩; exact e1 (by rw [h])
        · exact HY.out j (by omega)
    · have i1 : ¬ (k : Int) < 24 := by omega
      have HK : Hid (k = 24) := by show k = 24; omega
      go_wp2
      go_ret
      refine ⟨?_, HU.out⟩
      rw [opB_no (fun j hj => HY.out j (by rw [HK.out]; exact hj))]
      rfl

end Go.Proofs.YtehfoblfmehbdaaDoor
