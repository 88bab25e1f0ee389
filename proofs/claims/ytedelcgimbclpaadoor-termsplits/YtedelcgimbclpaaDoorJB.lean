/- The contract of the closure that divides. -/
import Derived.Test.YtedelcgimbclpaaDoorJK
import Derived.Test.YtedelcgimbclpaaDoorJH

namespace Go.Proofs.YtedelcgimbclpaaDoor
open Go.RowKit

theorem quo_wrap (V d : Nat) (hq : V / d < 4294967296) : IntKind.u64.wrap ((V : Int) / (d : Int)) % 4294967296 = ((V / d : Nat) : Int) := by
  have e : (V : Int) / (d : Int) = ((V / d : Nat) : Int) := by simp
  rw [e]
  generalize V / d = q at *
  simp only [IntKind.wrap_u64]
  omega

set_option maxHeartbeats 400000 in
theorem dividing1_core (x c d V bk bb : Nat) (w : World) (hd0 : 0 < d) (hd : d < 4294967296) (hx : x < 4294967296) (hc : c < 4294967296)
    (hk : w.cell? ⟨bk, 0, none⟩ = some (.int .u64 (c : Nat))) (hkf : w.frozen? ⟨bk, 0, none⟩ = false) (_hbb : w.cell? ⟨bb, 0, none⟩ = some (.int .u32 (d : Nat)))
    (hoth : ∀ v, (w.setCell ⟨bk, 0, none⟩ v).cell? ⟨bb, 0, none⟩ = some (.int .u32 (d : Nat))) (hr : V % d < d)
    (hor : bits BinOp.or IntKind.u64 ((c : Int) * 4294967296) (x : Int) = (V : Nat)) :
    Calls Tryd.prog 96 #[.int .u32 (x : Nat), .pointer (some ⟨bk, 0, none⟩), .pointer (some ⟨bb, 0, none⟩)] w fun e w' =>
      e = .returned (.tuple #[.int .u32 (IntKind.u64.wrap ((V : Int) / (d : Int)) % 4294967296), .int .u32 ((V % d : Nat))]) ∧ w' = (w.setCell ⟨bk, 0, none⟩ (.int .u64 ((V % d : Nat)))).drew := by
  go_enter Tryd.func96, Tryd.ntmps96
  go_wp2
  go_region
  all_goals go_wp2
  all_goals go_ret2
  all_goals rw [setCell_twice]
  all_goals exact ⟨by simp, by simp⟩

/-- dividing's closure: the digit, and what is left over. -/
theorem dividing1_any (x c d bk bb : Nat) (w : World) (hx : x < 4294967296) (hd : d < 4294967296) (hcc : c < d) (Hk : One w bk .u64 113 c) (Hb : One w bb .u32 43 d) (hne : bk ≠ bb) :
    Calls Tryd.prog 96 #[.int .u32 (x : Nat), .pointer (some ⟨bk, 0, none⟩), .pointer (some ⟨bb, 0, none⟩)] w fun e w' =>
      e = .returned (.tuple #[.int .u32 (((c * 4294967296 + x) / d : Nat)), .int .u32 (((c * 4294967296 + x) % d : Nat))]) ∧ One w' bk .u64 113 ((c * 4294967296 + x) % d) ∧ Upd [bk] w w' := by
  refine (dividing1_core x c d (c * 4294967296 + x) bk bb w (by omega) hd hx (by omega) Hk.cell Hk.free Hb.cell
    (fun v => (World.cell?_setCell_other _ _ _ _ (by simp)).trans Hb.cell) (Nat.mod_lt _ (by omega)) (or_shift c x (by omega) hx)).mono ?_
  rintro e w' ⟨rfl, rfl⟩
  rw [quo_wrap _ _ (quo_lt x c d hx hcc)]
  exact ⟨rfl, One.set Hk _, ((Upd.refl _ _).setCell (Or.inr (by simp)) _).drew⟩

end Go.Proofs.YtedelcgimbclpaaDoor

/- divByLimb, by its contract. -/
namespace Go.Proofs.YtedelcgimbclpaaDoor
open Go.RowKit

/-- A slice that lies in a row of limbs of somebody's own. -/
def Typed (w : World) (a : Option Addr) : Prop := ∀ p, a = some p → ∃ cs, w.heap[p.block]? = some (.cells cs 43 (0, 0))
theorem Typed.nil (w : World) : Typed w none := fun _ h => by cases h
theorem Typed.blk {w : World} {g o : Nat} {X : List Nat} (h : Blk w g X) : Typed w (some ⟨g, o, none⟩) := fun p e => by cases e; exact ⟨_, h⟩

theorem drop_set_self (X : List Nat) (i q : Nat) (hi : i < X.length) : (X.set i q).drop i = q :: X.drop (i + 1) := by
  have h : i < (X.set i q).length := by simpa using hi
  rw [List.drop_eq_getElem_cons h, List.drop_set_of_lt (by omega)]
  simp

theorem div_step (X A : List Nat) (i c d : Nat) (hX : i < X.length) (hA : i < A.length) (he : val (X.drop (i + 1)) * d + c = val (A.drop (i + 1))) :
    val ((X.set i ((c * 4294967296 + A.getD i 0) / d)).drop i) * d + (c * 4294967296 + A.getD i 0) % d = val (A.drop i) := by
  rw [drop_set_self X i _ hX, val_cons, val_drop A i hA, ← he, Nat.add_mul, Nat.mul_assoc]
  have h := Nat.div_add_mod (c * 4294967296 + A.getD i 0) d
  rw [Nat.mul_comm] at h
  generalize (c * 4294967296 + A.getD i 0) / d * d = u1 at *
  generalize (c * 4294967296 + A.getD i 0) % d = u2 at *
  generalize val (X.drop (i + 1)) * d = u3 at *
  omega

theorem div_end (q d c a : Nat) (hc : c < d) (h : q * d + c = a) : q = a / d ∧ c = a % d := by
  subst h
  have hd : 0 < d := by omega
  rw [Nat.mul_comm q d, Nat.mul_add_div hd, Nat.mul_add_mod, Nat.div_eq_of_lt hc, Nat.mod_eq_of_lt hc]
  exact ⟨by omega, rfl⟩

set_option maxHeartbeats 1000000 in
set_option maxRecDepth 100000 in
theorem divByLimb_core2 (a : Option Addr) (ca d : Nat) (A : List Nat) (w : World) (hA : A.length ≤ 1000) (HA : At w a A) (dA : Dig A) (hd0 : 0 < d) (hd : d < 4294967296) :
    Calls Tryd.prog 78 #[.slice a A.length ca, .int .u32 (d : Nat)] w fun e w' =>
      Upd [] w w' ∧ ∃ a' c' M, e = .returned (.tuple #[.slice a' M.length c', .int .u32 ((val A % d : Nat))]) ∧ Norm M (val A / d) ∧ At w' a' M ∧ M.length ≤ A.length ∧ M.length ≤ c' ∧ c' ≤ 9223372036854775807 ∧ Typed w' a' := by
  go_enter Tryd.func78, Tryd.ntmps78
  go_wp2_with (at_make; refine make_u32 _ rfl _ _ rfl _ _ A.length rfl rfl (by omega) (by omega) (by omega) ?_; intro w0 hblk hup)
  refine (dividing_any _ d _ rfl).mono ?_
  rintro e w1 ⟨rfl, hk, hbb, hup1⟩
  have hg := hblk.lt
  go_wp2_with fail
  go_loopw [5, 16] (fun r i wr => ∃ k c : Nat, ∃ X : List Nat, k ≤ A.length ∧ i = .int .i64 k ∧ r = .int .u32 c ∧ Blk wr w.heap.size X ∧ X.length = A.length ∧ Dig X ∧ One wr (w0.heap.size + 1) .u64 113 c ∧ One wr w0.heap.size .u32 43 d ∧ c < d ∧ Upd [] w wr ∧
      val (X.drop (A.length - k)) * d + c = val (A.drop (A.length - k))) (fun _ i _ => A.length - (intOf i).toNat)
  case atStart =>
    refine ⟨0, 0, List.replicate A.length 0, Nat.zero_le _, rfl, rfl, hblk.mono hup1 (by simp), by simp, Dig.replicate _, hk, hbb, hd0, hup.trans hup1, ?_⟩
    rw [Nat.sub_zero, List.drop_of_length_le (by simp), List.drop_of_length_le (Nat.le_refl _)]; simp [val]
  case round =>
    obtain ⟨k, c, X, hk1, rfl, rfl, hX, hXl, dX, hK, hBB, hc, hU, he⟩ := hrel
    have HE : Hid _ := he
    have HL : Hid _ := hXl
    clear he hXl hblk hup hk hbb hup1
    by_cases hk2 : k < A.length
    · rcases HA.mono hU with h | ⟨ba, oa, rfl, hlta, hca⟩
      · rw [h] at hk2; simp at hk2
      have hcx := hca (A.length - 1 - k) (by omega)
      obtain ⟨x, hx⟩ : ∃ x, x = A.getD (A.length - 1 - k) 0 := ⟨_, rfl⟩
      rw [← hx] at hcx
      have HX : Hid _ := hx
      have hxl : x < 4294967296 := by rw [hx]; exact dA.getD _
      clear hx hca
      have HI : Hid (A.length - 1 - k + 1 = A.length - k) := by show _ = _; omega
      go_wp2_with fail
      refine (dividing1_any x c d _ _ wr hxl hd hc hK hBB (by omega)).mono ?_
      rintro e w4 ⟨rfl, hK4, hU4⟩
      have hq := quo_lt x c d hxl hc
      have hr := Nat.mod_lt (c * 4294967296 + x) hd0
      have HD : Hid _ := div_step X A (A.length - 1 - k) c d (by rw [HL.out]; omega) (by omega) (by rw [HI.out]; exact HE.out)
      rw [← HX.out] at HD
      generalize (c * 4294967296 + x) / d = q at *
      generalize (c * 4294967296 + x) % d = r at *
      have hX4 := hX.mono hU4 (by simp; omega)
      have hcell := hX4.cell (A.length - 1 - k) (by rw [HL.out]; omega)
      have hfree := hX4.free (A.length - 1 - k)
      have hB4 := hBB.mono hU4 (by simp)
      go_wp2
      go_roundw
      case rel =>
        refine ⟨k + 1, _, _, by omega, by go_num, rfl, hX4.set _ _, by rw [List.length_set]; exact HL.out, dX.set _ _ hq, hK4.other _ (by show w.heap.size ≠ w0.heap.size + 1; omega) _, hB4.other _ (by show w.heap.size ≠ w0.heap.size; omega) _, hr, (hU.then hU4 (by simp; omega)).setCell (Or.inl (Nat.le_refl _)) _, ?_⟩
        rw [show A.length - (k + 1) = A.length - 1 - k by omega]
        exact HD.out
      case measure => simp [intOf]; omega
    · have hkm : k = A.length := by omega
      go_wp2_with fail
      have hTl := HL.out
      rw [← hTl]
      refine (trimmed_new _ _ X wr (by omega) (Nat.le_refl _) (by omega) hX.at dX).mono ?_
      rintro e w5 ⟨rfl, a', c', M, rfl, hN, hAt, hl, hc1, hc2, hfr⟩
      go_wp2
      go_ret2
      have hv := HE.out
      rw [hkm, Nat.sub_self, List.drop_zero, List.drop_zero] at hv
      obtain ⟨e1, e2⟩ := div_end _ _ _ _ hc hv
      exact ⟨hU, a', c', M, by rw [← e2]; rfl, e1 ▸ hN, hAt, by omega, hc1, hc2, by rcases hfr with h | h <;> rw [h]; exact Typed.nil _; exact Typed.blk hX⟩

/-- divByLimb: quotient and rest. -/
theorem divByLimb_new (a : Option Addr) (D : Int) (ca d x : Nat) (A : List Nat) (w : World) (hD : D = (d : Int)) (hA : A.length ≤ 1000) (HA : At w a A) (nA : Norm A x) (hd0 : 0 < d) (hd : d < 4294967296) :
    Calls Tryd.prog 78 #[.slice a A.length ca, .int .u32 D] w fun e w' =>
      Upd [] w w' ∧ ∃ a' c' M, e = .returned (.tuple #[.slice a' M.length c', .int .u32 ((x % d : Nat))]) ∧ Norm M (x / d) ∧ At w' a' M ∧ M.length ≤ A.length ∧ M.length ≤ c' ∧ c' ≤ 9223372036854775807 ∧ Typed w' a' := by
  have h := nA.eq
  subst h hD
  exact divByLimb_core2 a ca d A w hA HA nA.dig hd0 hd

theorem divByLimb_any (a : Option Addr) (D : Int) (ca d x : Nat) (A : List Nat) (w : World) (hD : D = (d : Int)) (hA : A.length ≤ 1000) (HA : At w a A) (nA : Norm A x) (hd0 : 0 < d) (hd : d < 4294967296) :
    Calls Tryd.prog 78 #[.slice a A.length ca, .int .u32 D] w fun e w' =>
      Upd [] w w' ∧ ∃ a' c' M, e = .returned (.tuple #[.slice a' M.length c', .int .u32 ((x % d : Nat))]) ∧ Norm M (x / d) ∧ At w' a' M ∧ M.length ≤ A.length ∧ M.length ≤ c' ∧ c' ≤ 9223372036854775807 := by
  refine (divByLimb_new a D ca d x A w hD hA HA nA hd0 hd).mono ?_
  rintro e w' ⟨h0, a', c', M, h1, h2, h3, h4, h5, h6, _⟩
  exact ⟨h0, a', c', M, h1, h2, h3, h4, h5, h6⟩

end Go.Proofs.YtedelcgimbclpaaDoor

/- Rows of digits: plain arithmetic, and what is owned of them. -/
namespace Go.Proofs.YtedelcgimbclpaaDoor
open Go.RowKit

/-- What digits, the lowest one first, come to. -/
def dval : List Nat → Nat
  | [] => 0
  | c :: r => (c - 48) + 10 * dval r
def IsDig (D : List Nat) : Prop := ∀ c, c ∈ D → 48 ≤ c ∧ c ≤ 57

theorem IsDig.nil : IsDig [] := fun _ h => by simp at h
theorem IsDig.append {A B : List Nat} (ha : IsDig A) (hb : IsDig B) : IsDig (A ++ B) := fun c hc => by
  rcases List.mem_append.1 hc with h | h
  · exact ha c h
  · exact hb c h
theorem IsDig.one (x : Nat) : IsDig [48 + x % 10] := fun c hc => by
  simp only [List.mem_cons, List.not_mem_nil, or_false] at hc
  omega

theorem dval_append (A B : List Nat) : dval (A ++ B) = dval A + 10 ^ A.length * dval B := by
  induction A with
  | nil => simp [dval]
  | cons x r ih =>
    simp only [List.cons_append, dval, ih, List.length_cons, Nat.pow_succ]
    rw [Nat.mul_add, Nat.mul_comm (10 ^ r.length) 10, Nat.mul_assoc]; omega

theorem dval_one (x : Nat) : dval [48 + x] = x := by simp [dval]

/-- One digit more of a chunk. -/
theorem chunk_step (E : List Nat) (j low low0 : Nat) (hj : E.length = j) (h : dval E + 10 ^ j * low = low0) : dval (E ++ [48 + low % 10]) + 10 ^ (j + 1) * (low / 10) = low0 := by
  rw [dval_append, dval_one, hj, Nat.pow_succ, Nat.mul_assoc, Nat.add_assoc, ← Nat.mul_add, Nat.mod_add_div]
  exact h

/-- A whole chunk. -/
theorem chunk_end (D E : List Nat) (x low0 n : Nat) (hE : E.length = 9) (hlow : low0 = x % 1000000000) (low : Nat) (h : dval E + 10 ^ 9 * low = low0) (hx : dval D + 10 ^ D.length * x = n) :
    dval (D ++ E) + 10 ^ (D ++ E).length * (x / 1000000000) = n := by
  have h1 : low0 < 1000000000 := by rw [hlow]; exact Nat.mod_lt _ (by decide)
  have h2 : low = 0 := by
    rcases Nat.eq_zero_or_pos low with h0 | h0
    · exact h0
    · have : 10 ^ 9 * 1 ≤ 10 ^ 9 * low := Nat.mul_le_mul_left _ h0
      have e : (10 : Nat) ^ 9 = 1000000000 := by decide
      rw [e] at *
      omega
  rw [h2, Nat.mul_zero, Nat.add_zero] at h
  rw [dval_append, List.length_append, hE, Nat.pow_add, h, hlow, Nat.add_assoc, Nat.mul_assoc, ← Nat.mul_add]
  have e : (10 : Nat) ^ 9 = 1000000000 := by decide
  rw [e, Nat.mod_add_div]
  exact hx

theorem digits_few (D : List Nat) (x n : Nat) (hx : 0 < x) (h : dval D + 10 ^ D.length * x = n) (hn : n < 4294967296 ^ 32) : D.length ≤ 308 := by
  have h1 : 10 ^ D.length * 1 ≤ 10 ^ D.length * x := Nat.mul_le_mul_left _ hx
  have h2 : (4294967296 : Nat) ^ 32 < 10 ^ 309 := by decide +kernel
  have h3 : 10 ^ D.length < 10 ^ 309 := by
    rw [Nat.mul_one] at h1
    exact Nat.lt_of_le_of_lt (Nat.le_trans h1 (by rw [← h]; exact Nat.le_add_left _ _)) (Nat.lt_trans hn h2)
  have := (Nat.pow_lt_pow_iff_right (a := 10) (by decide)).1 h3
  omega

theorem info_u8 : (Tryd.prog.info? 5).map (fun i => (i.zero, i.size, i.bytes)) = some (some (.int .u8 0), 1, 1) := by kernel_rfl

/-- Bytes that are the call's own. -/
def OB (w : World) (base : Nat) (v : Value) (D : List Nat) : Prop := w.ownsRow base 5 1 v D.length (D.map (fun n => Value.int .u8 (n : Nat)))

/-- A slice of limbs that no write to the bytes can meet. -/
def Sep (w : World) (base : Nat) (a : Option Addr) (M : List Nat) : Prop := M = [] ∨ ∀ p, a = some p → p.block < base ∨ ∃ cs, w.heap[p.block]? = some (.cells cs 43 (0, 0))

theorem Sep.start {w : World} {a : Option Addr} {M : List Nat} (h : At w a M) : Sep w w.heap.size a M := by
  rcases h with h | ⟨b, o, e, hlt, _⟩
  · exact Or.inl h
  · exact Or.inr fun p hp => by rw [e] at hp; cases hp; exact Or.inl hlt

/-- Behind an append onto the bytes the limbs are there as they were. -/
theorem at_grown {w w' : World} {base : Nat} {v : Value} {D M : List Nat} {a : Option Addr} {o : Obj} (h : OB w base v D) (hs : Sep w base a M) (hA : At w a M) (hg : (w.alloc o).grownBy w' v.ownBlock) : At w' a M ∧ Sep w' base a M := by
  rcases hs with hs | hs
  · exact ⟨Or.inl hs, Or.inl hs⟩
  · have hn : ∀ p, a = some p → v.ownBlock ≠ some p.block := by
      intro p hp e
      obtain ⟨_, ⟨h1, _⟩ | ⟨g, cap, cur, hv, hb, hh, _⟩⟩ := h
      · rw [h1] at e; simp [Value.ownBlock] at e
      · rw [hv] at e
        simp only [Value.ownBlock, Option.some.injEq] at e
        rcases hs p hp with h2 | ⟨cs, h2⟩
        · omega
        · rw [← e, hh] at h2
          simp at h2
    constructor
    · rcases hA.mono ((Upd.refl [] w).alloc o) with h | ⟨b, o', e, hlt, hc⟩
      · exact Or.inl h
      · exact Or.inr ⟨b, o', e, Nat.lt_of_lt_of_le hlt hg.size, fun i hi => hg.cell (hc i hi) (fun h => hn _ e h.symm)⟩
    · refine Or.inr fun p hp => ?_
      rcases hs p hp with h1 | ⟨cs, h1⟩
      · exact Or.inl h1
      · have h2 := (Below.heap_alloc w o _ (lt_of_block h1)).trans h1
        exact Or.inr ⟨cs, (hg.block p.block (lt_of_block h2) (fun e => hn p hp e.symm)).trans h2⟩

theorem OB.upd {w w' : World} {base : Nat} {v : Value} {D : List Nat} (h : OB w base v D) (hu : Upd [] w w') : OB w' base v D := by
  obtain ⟨h0, h1 | ⟨g, cap, cur, hv, hb, hh, h2⟩⟩ := h
  · exact ⟨h0, Or.inl h1⟩
  · exact ⟨h0, Or.inr ⟨g, cap, cur, hv, hb, (hu.block g (lt_of_block hh) (by simp)).trans hh, h2⟩⟩

end Go.Proofs.YtedelcgimbclpaaDoor
