/- Rows of digits: plain arithmetic, and what is owned of them. -/
import Derived.Test.YtnpocmhaoaigfaaGreatDoorDivL
import Derived.Deep.LoopGhost

namespace Go.Proofs.YtnpocmhaoaigfaaGreatDoor
open Go.RowKit

/-- What digits, the lowest one first, come to. -/
def dval : List Nat → Nat
  | [] => 0
  | c :: r => (c - 48) + 10 * dval r
def IsDig (D : List Nat) : Prop := ∀ c, c ∈ D → 48 ≤ c ∧ c ≤ 57

theorem IsDig.nil : IsDig [] := fun _ h => by simp at h
theorem IsDig.append {A B : List Nat} (ha : IsDig A) (hb : IsDig B) : IsDig (A ++ B) := fun c hc => by
  rcases List.mem_append.1 hc with h | h
  · exact ha c h
  · exact hb c h
theorem IsDig.one (x : Nat) : IsDig [48 + x % 10] := fun c hc => by
  simp only [List.mem_cons, List.not_mem_nil, or_false] at hc
  omega

theorem dval_append (A B : List Nat) : dval (A ++ B) = dval A + 10 ^ A.length * dval B := by
  induction A with
  | nil => simp [dval]
  | cons x r ih =>
    simp only [List.cons_append, dval, ih, List.length_cons, Nat.pow_succ]
    rw [Nat.mul_add, Nat.mul_comm (10 ^ r.length) 10, Nat.mul_assoc]; omega

theorem dval_one (x : Nat) : dval [48 + x] = x := by simp [dval]

/-- One digit more of a chunk. -/
theorem chunk_step (E : List Nat) (j low low0 : Nat) (hj : E.length = j) (h : dval E + 10 ^ j * low = low0) : dval (E ++ [48 + low % 10]) + 10 ^ (j + 1) * (low / 10) = low0 := by
  rw [dval_append, dval_one, hj, Nat.pow_succ, Nat.mul_assoc, Nat.add_assoc, ← Nat.mul_add, Nat.mod_add_div]
  exact h

/-- A whole chunk. -/
theorem chunk_end (D E : List Nat) (x low0 n : Nat) (hE : E.length = 9) (hlow : low0 = x % 1000000000) (low : Nat) (h : dval E + 10 ^ 9 * low = low0) (hx : dval D + 10 ^ D.length * x = n) :
    dval (D ++ E) + 10 ^ (D ++ E).length * (x / 1000000000) = n := by
  have h1 : low0 < 1000000000 := by rw [hlow]; exact Nat.mod_lt _ (by decide)
  have h2 : low = 0 := by
    rcases Nat.eq_zero_or_pos low with h0 | h0
    · exact h0
    · have : 10 ^ 9 * 1 ≤ 10 ^ 9 * low := Nat.mul_le_mul_left _ h0
      have e : (10 : Nat) ^ 9 = 1000000000 := by decide
      rw [e] at *
      omega
  rw [h2, Nat.mul_zero, Nat.add_zero] at h
  rw [dval_append, List.length_append, hE, Nat.pow_add, h, hlow, Nat.add_assoc, Nat.mul_assoc, ← Nat.mul_add]
  have e : (10 : Nat) ^ 9 = 1000000000 := by decide
  rw [e, Nat.mod_add_div]
  exact hx

theorem digits_few (D : List Nat) (x n : Nat) (hx : 0 < x) (h : dval D + 10 ^ D.length * x = n) (hn : n < 4294967296 ^ 32) : D.length ≤ 308 := by
  have h1 : 10 ^ D.length * 1 ≤ 10 ^ D.length * x := Nat.mul_le_mul_left _ hx
  have h2 : (4294967296 : Nat) ^ 32 < 10 ^ 309 := by decide +kernel
  have h3 : 10 ^ D.length < 10 ^ 309 := by
    rw [Nat.mul_one] at h1
    exact Nat.lt_of_le_of_lt (Nat.le_trans h1 (by rw [← h]; exact Nat.le_add_left _ _)) (Nat.lt_trans hn h2)
  have := (Nat.pow_lt_pow_iff_right (a := 10) (by decide)).1 h3
  omega

theorem info_u8 : (Tryz.prog.info? 5).map (fun i => (i.zero, i.size, i.bytes)) = some (some (.int .u8 0), 1, 1) := by kernel_rfl

/-- Bytes that are the call's own. -/
def OB (w : World) (base : Nat) (v : Value) (D : List Nat) : Prop := w.ownsRow base 5 1 v D.length (D.map (fun n => Value.int .u8 (n : Nat)))

/-- A slice of limbs that no write to the bytes can meet. -/
def Sep (w : World) (base : Nat) (a : Option Addr) (M : List Nat) : Prop := M = [] ∨ ∀ p, a = some p → p.block < base ∨ ∃ cs, w.heap[p.block]? = some (.cells cs 61 (0, 0))

theorem Sep.start {w : World} {a : Option Addr} {M : List Nat} (h : At w a M) : Sep w w.heap.size a M := by
  rcases h with h | ⟨b, o, e, hlt, _⟩
  · exact Or.inl h
  · exact Or.inr fun p hp => by rw [e] at hp; cases hp; exact Or.inl hlt

/-- Behind an append onto the bytes the limbs are there as they were. -/
theorem at_grown {w w' : World} {base : Nat} {v : Value} {D M : List Nat} {a : Option Addr} {o : Obj} (h : OB w base v D) (hs : Sep w base a M) (hA : At w a M) (hg : (w.alloc o).grownBy w' v.ownBlock) : At w' a M ∧ Sep w' base a M := by
  rcases hs with hs | hs
  · exact ⟨Or.inl hs, Or.inl hs⟩
  · have hn : ∀ p, a = some p → v.ownBlock ≠ some p.block := by
      intro p hp e
      obtain ⟨_, ⟨h1, _⟩ | ⟨g, cap, cur, hv, hb, hh, _⟩⟩ := h
      · rw [h1] at e; simp [Value.ownBlock] at e
      · rw [hv] at e
        simp only [Value.ownBlock, Option.some.injEq] at e
        rcases hs p hp with h2 | ⟨cs, h2⟩
        · omega
        · rw [← e, hh] at h2
          simp at h2
    constructor
    · rcases hA.mono ((Upd.refl [] w).alloc o) with h | ⟨b, o', e, hlt, hc⟩
      · exact Or.inl h
      · exact Or.inr ⟨b, o', e, Nat.lt_of_lt_of_le hlt hg.size, fun i hi => hg.cell (hc i hi) (fun h => hn _ e h.symm)⟩
    · refine Or.inr fun p hp => ?_
      rcases hs p hp with h1 | ⟨cs, h1⟩
      · exact Or.inl h1
      · have h2 := (Below.heap_alloc w o _ (lt_of_block h1)).trans h1
        exact Or.inr ⟨cs, (hg.block p.block (lt_of_block h2) (fun e => hn p hp e.symm)).trans h2⟩

theorem OB.upd {w w' : World} {base : Nat} {v : Value} {D : List Nat} (h : OB w base v D) (hu : Upd [] w w') : OB w' base v D := by
  obtain ⟨h0, h1 | ⟨g, cap, cur, hv, hb, hh, h2⟩⟩ := h
  · exact ⟨h0, Or.inl h1⟩
  · exact ⟨h0, Or.inr ⟨g, cap, cur, hv, hb, (hu.block g (lt_of_block hh) (by simp)).trans hh, h2⟩⟩

end Go.Proofs.YtnpocmhaoaigfaaGreatDoor

/- digitsUp, by its contract. -/
namespace Go.Proofs.YtnpocmhaoaigfaaGreatDoor
open Go.RowKit

theorem OB.snoc {w : World} {base : Nat} {v : Value} {D : List Nat} {x : Nat} (h : w.ownsRow base 5 1 v (D.length + 1) (D.map (fun n => Value.int .u8 (n : Nat)) ++ [.int .u8 ((48 : Int) + (x : Int) % 10)])) : OB w base v (D ++ [48 + x % 10]) := by
  unfold OB
  have e : (D ++ [48 + x % 10]).map (fun n => Value.int .u8 (n : Nat)) = D.map (fun n => Value.int .u8 (n : Nat)) ++ [.int .u8 ((48 : Int) + (x : Int) % 10)] := by
    simp
  rw [e, List.length_append]
  exact h

set_option maxHeartbeats 2000000 in
set_option maxRecDepth 100000 in
theorem digitsUp_any (a : Option Addr) (ca n : Nat) (L : List Nat) (w : World) (hL : L.length ≤ 32) (HL : At w a L) (nL : Norm L n) (hn : n < 4294967296 ^ 32) :
    Calls Tryz.prog 31 #[.slice a L.length ca] w fun e w' => Upd [] w w' ∧ ∃ v D, e = .returned v ∧ OB w' w.heap.size v D ∧ IsDig D ∧ dval D = n ∧ D.length ≤ 400 := by
  obtain ⟨i0, hi, hz0, hz1, hz2⟩ := info_parts info_u8
  have HN : Hid (n < 4294967296 ^ 32) := hn
  clear hn
  have hsep0 := Sep.start HL
  go_enter Tryz.func31, Tryz.ntmps31
  go_wp2_with fail
  go_loopg [0, 3] n (fun g lm v wr => ∃ c' : Nat, ∃ a' : Option Addr, ∃ M D : List Nat, lm = .slice a' M.length c' ∧ Norm M g ∧ At wr a' M ∧ M.length ≤ 32 ∧ Sep wr w.heap.size a' M ∧ OB wr w.heap.size v D ∧ IsDig D ∧ dval D + 10 ^ D.length * g = n ∧ D.length ≤ 400 ∧ Upd [] w wr)
  case atStart => exact ⟨ca, a, L, [], rfl, nL, HL, hL, hsep0, World.ownsRow_nil _ _ _ _, IsDig.nil, by simp [dval], by simp, Upd.refl _ _⟩
  case round =>
    rename World => wo
    rename Nat => gq
    obtain ⟨c', a', M, D, rfl, nM, hM, hMl, hsep, hD, dD, hval, hDl, hU⟩ := hrel
    have HV : Hid _ := hval
    clear hval hsep0
    by_cases hM0 : M = []
    · subst hM0
      have hg0 := nM.nil_iff.1 rfl
      go_wp2
      go_ret
      refine ⟨hU, _, D, rfl, hD, dD, ?_, hDl⟩
      have := HV.out
      rw [hg0, Nat.mul_zero, Nat.add_zero] at this
      exact this
    · have hpos : 0 < M.length := by cases M with | nil => exact absurd rfl hM0 | cons x t => simp
      have hg0 : 0 < gq := by
        rcases Nat.eq_zero_or_pos gq with h | h
        · exact absurd (nM.nil_iff.2 h) hM0
        · exact h
      have hD308 := digits_few D gq n hg0 HV.out HN.out
      go_wp2_with fail
      refine (divByLimb_new a' _ c' 1000000000 gq M wo rfl (by omega) hM nM (by omega) (by omega)).mono ?_
      rintro e w1 ⟨hU1, a1, c1, M1, rfl, nM1, hM1, hl1, hc11, hc12, hty⟩
      have hsep1 : Sep w1 w.heap.size a1 M1 := Or.inr fun p hp => Or.inr (hty p hp)
      have hD1 := hD.upd hU1
      have hU01 := hU.trans hU1
      have hlow := Nat.mod_lt gq (show 0 < 1000000000 by decide)
      obtain ⟨low0, hlow0⟩ : ∃ low0, low0 = gq % 1000000000 := ⟨_, rfl⟩
      rw [← hlow0] at hlow ⊢
      have HLO : Hid _ := hlow0
      clear hlow0 hsep hM hD hU1 hU hty
      go_wp2_with fail
      go_loopg [3, 4, 13] 9 (fun g v lo i wr => ∃ j low : Nat, ∃ E : List Nat, j + g = 9 ∧ i = .int .i64 j ∧ lo = .int .u32 low ∧ low < 1000000000 ∧ E.length = j ∧ IsDig E ∧ dval E + 10 ^ j * low = low0 ∧ OB wr w.heap.size v (D ++ E) ∧ At wr a1 M1 ∧ Sep wr w.heap.size a1 M1 ∧ Upd [] w wr)
      case atStart => exact ⟨0, low0, [], rfl, rfl, rfl, hlow, rfl, IsDig.nil, by simp [dval], by rw [List.append_nil]; exact hD1, hM1, hsep1, hU01⟩
      case round =>
        obtain ⟨j, low, E, hjg, rfl, rfl, hlowl, hEl, dE, hEv, hOB, hAt, hSep, hUr⟩ := hrel
        have HEL : Hid _ := hEl
        have HEV : Hid _ := hEv
        have HJG : Hid _ := hjg
        have hlen : (D ++ E).length ≤ 317 := by rw [List.length_append, hEl]; omega
        have hj9 : j ≤ 9 := by omega
        have hown : wr.ownsRow w.heap.size 5 1 _ (D ++ E).length ((D ++ E).map (fun n => Value.int .u8 (n : Nat))) := hOB
        clear hEl hEv hjg hD1 hM1 hsep1 hU01
        have hsz := hUr.size
        by_cases hj : j < 9
        · have HO : Hid _ := hOB
          clear hOB
          go_wp2_with (at_builtin; refine wpList_append_own _ rfl _ _ 52 rfl w.heap.size 5 i0 (.int .u8 0) 1 1 Tryz.underlying52 hi hz0 hz1 hz2 rfl (by decide) _ _ _ rfl (hown.alloc _) ⟨wr.heap.size, 0, none⟩ 1 1 [.int .u8 ((48 : Int) + (low : Int) % 10)] rfl rfl (cell_one_new _ _ _) (by intro u hu; simp at hu; subst hu; rfl) (by unfold maxLen; omega) (by omega) (by simp; omega) ?_; intro v' w2 hown' hgrow _)
          have hg2 := at_grown HO.out hSep hAt hgrow
          go_roundg (gk - 1)
          case measure => have := HJG.out; omega
          case rel =>
            refine ⟨j + 1, low / 10, E ++ [48 + low % 10], by have := HJG.out; omega, by go_num, by go_num, by omega, by rw [List.length_append, HEL.out]; rfl, dE.append (IsDig.one low), chunk_step E j low low0 HEL.out HEV.out, ?_, hg2.1, hg2.2, ?_⟩
            · rw [← List.append_assoc]; exact OB.snoc hown'
            · exact (hUr.alloc _).grown hgrow (fun k hk => Or.inl (World.ownsRow.lt HO.out k hk).1)
        · have hj9' : j = 9 := by omega
          go_wp2
          go_roundg (gq / 1000000000)
          case measure => exact Nat.div_lt_self hg0 (by decide)
          case rel =>
            refine ⟨c1, a1, M1, D ++ E, rfl, nM1, hAt, by omega, hSep, hOB, dD.append dE, ?_, by omega, hUr⟩
            refine chunk_end D E gq low0 n (by rw [HEL.out, hj9']) HLO.out low ?_ HV.out
            rw [← hj9']; exact HEV.out

end Go.Proofs.YtnpocmhaoaigfaaGreatDoor
