/- strconv.Itoa at this program, by the shelf's contract. -/
import Derived.Test.YtaoipmmeialpnaaGreatDoorAtm
import Derived.Shelf.LaysM
import Derived.Shelf.Strconv.Itoa3
import Derived.Test.YtaoipmmeialpnaaGreatDoorJAD
import Derived.Test.YtaoipmmeialpnaaGreatDoorJAF
import Derived.Test.YtaoipmmeialpnaaGreatDoorOrdD
import Derived.Test.YtaoipmmeialpnaaGreatDoorJAJ

namespace Go.Proofs.YtaoipmmeialpnaaGreatDoor
open Go.Shelf Go.RowKit Go.Sort Go.Lib

def laysM171_ren : Go.Shelf.Ren := ⟨fun | 171 => 51 | 243 => 85 | 246 => 142 | 283 => 184 | 284 => 185 | 285 => 186 | 286 => 187 | 129 => 205 | 317 => 204 | 318 => 206 | 319 => 207 | 320 => 208 | 337 => 211 | 338 => 212 | n => n, fun | 3 => 3 | 9 => 9 | 2 => 2 | 4 => 4 | 171 => 241 | 0 => 0 | 53 => 130 | 37 => 46 | 5 => 5 | 173 => 244 | 212 => 258 | 51 => 48 | 20 => 20 | 213 => 259 | 46 => 132 | 232 => 267 | 233 => 268 | n => n, fun | 17 => 2 | 18 => 5 | 19 => 6 | n => n⟩
theorem laysM171 : Go.Proofs.LaysM.n171 Tryz.prog laysM171_ren := {
  mixed := by kernel_rfl
  f129 := Tryz.func205.trans (congrArg some (by kernel_rfl))
  f171 := Tryz.func51.trans (congrArg some (by kernel_rfl))
  f243 := Tryz.func85.trans (congrArg some (by kernel_rfl))
  f246 := Tryz.func142.trans (congrArg some (by kernel_rfl))
  f283 := Tryz.func184.trans (congrArg some (by kernel_rfl))
  f284 := Tryz.func185.trans (congrArg some (by kernel_rfl))
  f285 := Tryz.func186.trans (congrArg some (by kernel_rfl))
  f286 := Tryz.func187.trans (congrArg some (by kernel_rfl))
  f317 := Tryz.func204.trans (congrArg some (by kernel_rfl))
  f318 := Tryz.func206.trans (congrArg some (by kernel_rfl))
  f319 := Tryz.func207.trans (congrArg some (by kernel_rfl))
  f320 := Tryz.func208.trans (congrArg some (by kernel_rfl))
  f337 := Tryz.func211.trans (congrArg some (by kernel_rfl))
  f338 := Tryz.func212.trans (congrArg some (by kernel_rfl))
  t0 := Tryz.underlying0
  a0 := Tryz.isAgg0
  z0 := Tryz.sizeOf0
  v0 := Tryz.zeroValue0
  t2 := Tryz.underlying2
  a2 := Tryz.isAgg2
  z2 := Tryz.sizeOf2
  v2 := Tryz.zeroValue2
  t3 := Tryz.underlying3
  a3 := Tryz.isAgg3
  z3 := Tryz.sizeOf3
  v3 := Tryz.zeroValue3
  t4 := Tryz.underlying4
  a4 := Tryz.isAgg4
  z4 := Tryz.sizeOf4
  v4 := Tryz.zeroValue4
  t5 := Tryz.underlying5
  a5 := Tryz.isAgg5
  z5 := Tryz.sizeOf5
  v5 := Tryz.zeroValue5
  t9 := Tryz.underlying9
  a9 := Tryz.isAgg9
  z9 := Tryz.sizeOf9
  v9 := Tryz.zeroValue9
  t20 := Tryz.underlying20
  a20 := Tryz.isAgg20
  z20 := Tryz.sizeOf20
  v20 := Tryz.zeroValue20
  t37 := Tryz.underlying46
  a37 := Tryz.isAgg46
  z37 := Tryz.sizeOf46
  v37 := Tryz.zeroValue46
  t46 := Tryz.underlying132
  a46 := Tryz.isAgg132
  z46 := Tryz.sizeOf132
  v46 := Tryz.zeroValue132
  t51 := Tryz.underlying48
  a51 := Tryz.isAgg48
  z51 := Tryz.sizeOf48
  v51 := Tryz.zeroValue48
  t53 := Tryz.underlying130
  a53 := Tryz.isAgg130
  z53 := Tryz.sizeOf130
  v53 := Tryz.zeroValue130
  t171 := Tryz.underlying241
  a171 := Tryz.isAgg241
  z171 := Tryz.sizeOf241
  v171 := Tryz.zeroValue241
  t173 := Tryz.underlying244
  a173 := Tryz.isAgg244
  z173 := Tryz.sizeOf244
  v173 := Tryz.zeroValue244
  t212 := Tryz.underlying258
  a212 := Tryz.isAgg258
  z212 := Tryz.sizeOf258
  v212 := Tryz.zeroValue258
  t213 := Tryz.underlying259
  a213 := Tryz.isAgg259
  z213 := Tryz.sizeOf259
  t232 := Tryz.underlying267
  a232 := Tryz.isAgg267
  z232 := Tryz.sizeOf267
  v232 := Tryz.zeroValue267
  t233 := Tryz.underlying268
  a233 := Tryz.isAgg268
  z233 := Tryz.sizeOf268
  v233 := Tryz.zeroValue268
  g17 := by kernel_rfl
  g18 := by kernel_rfl
  g19 := by kernel_rfl
  i0 := by kernel_rfl
  i2 := by kernel_rfl
  i3 := by kernel_rfl
  i4 := by kernel_rfl
  i5 := by kernel_rfl
  i9 := by kernel_rfl
  i20 := by kernel_rfl
  i37 := by kernel_rfl
  i46 := by kernel_rfl
  i51 := by kernel_rfl
  i53 := by kernel_rfl
  i171 := by kernel_rfl
  i173 := by kernel_rfl
  i212 := by kernel_rfl
  i232 := by kernel_rfl
  i233 := by kernel_rfl
  m17 := by kernel_rfl
  m18 := by kernel_rfl
  m19 := by kernel_rfl }

/-- The table of powers of ten is laid. -/
def Pow (w : World) : Prop := Lib.TabIs Tryz.prog w "internal/strconv.uint64pow10" .u64 Lib.pow10Tab
theorem var_upd {w w' : World} (hu : Upd [] w w') {name : String} {cs : Array Value} (h : w.var? Tryz.prog name = some cs) : w'.var? Tryz.prog name = some cs := by
  unfold World.var? at h ⊢
  cases hg : Tryz.prog.globalNamed name with
  | none => rw [hg] at h; simp at h
  | some g =>
    rw [hg] at h
    simp only [Option.bind_some] at h ⊢
    have hlt : g < w.heap.size := by
      rcases Nat.lt_or_ge g w.heap.size with h' | h'
      · exact h'
      · rw [Array.getElem?_eq_none h'] at h; simp at h
    rw [hu.block g hlt (by simp)]
    exact h
theorem Pow.mono {w w' : World} (h : Pow w) (hu : Upd [] w w') : Pow w' := var_upd hu h
theorem Upd.grow (w : World) (k : Nat) (os : Array Obj) : Upd [] w (grow (w.drewN k) os) :=
  have h := (Upd.refl [] w).drewN k
  ⟨h.os, h.tape, h.output, by have := h.size; simp only [Go.Sort.grow, Array.size_append]; omega, fun i hi _ => by
    have h1 := h.size
    rw [← h.block i hi (by simp)]
    simp only [Go.Sort.grow]
    rw [Array.getElem?_append_left (by omega)]⟩
theorem Itoa_any (n : Int) (h0 : -9223372036854775808 ≤ n) (h1 : n ≤ 9223372036854775807) (w : World) (ht : Pow w) :
    Calls Tryz.prog 51 #[.int .i64 n] w fun e w' => e = .returned (.string (str (Lib.itoa n))) ∧ Upd [] w w' := by
  have H : Calls Tryz.prog 51 #[.int .i64 n] w fun e w' => e = .returned (.string ⟨(Lib.itoa n).toArray⟩) ∧ ∃ k os, w' = grow (w.drewN k) os := Any.strconv_Itoa laysM171 n h0 h1 w ht
  refine H.mono ?_
  rintro e w' ⟨rfl, k, os, rfl⟩
  exact ⟨rfl, Upd.grow w k os⟩
end Go.Proofs.YtaoipmmeialpnaaGreatDoor

/- A term's text, as plain mathematics; what is kept while it is written; put, by its contract. -/
namespace Go.Proofs.YtaoipmmeialpnaaGreatDoor
open Go.RowKit

theorem IsText.ex1 (z : Int) (h : ∃ T, IsText T z) : ∃ l : List UInt8, ∀ T, IsText T z → T.map (fun n => UInt8.ofNat n) = l := by
  obtain ⟨T, hT⟩ := h
  exact ⟨_, fun U hU => by rw [hU.uniq hT]⟩
open Classical in
/-- An integer's text. -/
noncomputable def wtx (z : Int) : List UInt8 := if h : ∃ T, IsText T z then Classical.choose (IsText.ex1 z h) else []
theorem wtx_eq {z : Int} {T : List Nat} (h : IsText T z) : wtx z = T.map (fun n => UInt8.ofNat n) := by
  have he : ∃ T, IsText T z := ⟨T, h⟩
  unfold wtx
  rw [dif_pos he]
  exact (Classical.choose_spec (IsText.ex1 z he) T h).symm
theorem bs_str {z : Int} {T : List Nat} (h : IsText T z) : bs T = str (wtx z) := by rw [wtx_eq h]; rfl

mutual
/-- A term's text. -/
noncomputable def txT : Tm → List UInt8
  | .mk k num neg L s I T => if k = 1 then wtx (zv neg L) else if k = 2 then atomTx (byt s) else if k = 3 then [35, 82, 101, 102, 60] ++ (Lib.itoa num ++ [62]) else if k = 4 then [35, 70, 117, 110, 60] ++ (Lib.itoa num ++ [62]) else if k = 5 then [60] ++ (Lib.itoa num ++ [62]) else if k = 6 then 123 :: ((txC I).drop 1 ++ [125]) else if k = 7 then 91 :: ((txC I).drop 1 ++ txB T ++ [93]) else []
/-- Texts, a comma ahead of each. -/
noncomputable def txC : List Tm → List UInt8
  | [] => []
  | t :: r => 44 :: (txT t ++ txC r)
/-- The first one's text, a bar ahead of it. -/
noncomputable def txB : List Tm → List UInt8
  | [] => []
  | t :: _ => 124 :: txT t
end
mutual
/-- There is no ref, fun or pid in it. -/
def plT : Tm → Bool
  | .mk k _ _ _ _ I T => (k == 1 || k == 2 || k == 6 || k == 7) && plR I && plR T
def plR : List Tm → Bool
  | [] => true
  | t :: r => plT t && plR r
end
theorem plR_get (I : List Tm) (h : plR I = true) (i : Nat) (hi : i < I.length) : plT I[i] = true := by
  induction I generalizing i with
  | nil => simp at hi
  | cons t r ih =>
    rw [plR, Bool.and_eq_true] at h
    cases i with
    | zero => exact h.1
    | succ i => exact ih h.2 i (by simpa using hi)
theorem txC_take (I : List Tm) (k : Nat) (hk : k < I.length) : txC (I.take (k + 1)) = txC (I.take k) ++ 44 :: txT I[k] := by
  induction I generalizing k with
  | nil => simp at hk
  | cons t r ih =>
    cases k with
    | zero => simp [txC]
    | succ k =>
      simp only [List.take_succ_cons, txC, List.getElem_cons_succ]
      rw [ih k (by simpa using hk)]
      simp
theorem txC_le (I : List Tm) (k : Nat) : (txC (I.take k)).length ≤ (txC I).length := by
  induction I generalizing k with
  | nil => simp
  | cons t r ih =>
    cases k with
    | zero => simp [txC]
    | succ k => simp only [List.take_succ_cons, txC, List.length_cons, List.length_append]; have := ih k; omega
theorem txC_len (I : List Tm) (k : Nat) (hk : k < I.length) : (txC (I.take k)).length + 1 + (txT I[k]).length ≤ (txC I).length := by
  have := txC_le I (k + 1)
  rw [txC_take I k hk, List.length_append, List.length_cons] at this
  omega
theorem txC_drop (I : List Tm) (k : Nat) (hk : k < I.length) : (txC (I.take (k + 1))).drop 1 = (txC (I.take k)).drop 1 ++ ((if k = 0 then [] else [44]) ++ txT I[k]) := by
  rw [txC_take I k hk]
  cases k with
  | zero => simp [txC]
  | succ k =>
    cases I with
    | nil => simp at hk
    | cons t r => simp [txC]

/-- The words lie ahead of b. -/
def WdsB (b : Nat) (w : World) : Prop := ∃ bw o c, 0 < b ∧ bw < b ∧ w.cell? ⟨0, 0, none⟩ = some (.slice (some ⟨bw, o, none⟩) 19 c) ∧ 19 ≤ c ∧ ∀ i, i < 19 → w.cell? ⟨bw, o + i, none⟩ = some (.string (str (resW.getD i [])))
theorem WdsB.plain {b : Nat} {w : World} (h : WdsB b w) : Wds w := by
  obtain ⟨bw, o, c, _, _, h1, h2, h3⟩ := h
  exact ⟨bw, o, c, h1, h2, h3⟩
theorem Wds.toB {w w' : World} (h : Wds w) (hu : Upd [] w w') : WdsB w.heap.size w' := by
  obtain ⟨bw, o, c, h1, h2, h3⟩ := h
  have a1 := lt_of_cell h1
  have a2 := lt_of_cell (h3 0 (by omega))
  exact ⟨bw, o, c, by simp at a1; omega, a2, (hu.cell (lt_of_cell h1) (by simp)).trans h1, h2, fun i hi => (hu.cell (lt_of_cell (h3 i hi)) (by simp)).trans (h3 i hi)⟩
theorem below_cell {b : Nat} {w w' : World} (h : Below b w w') {a : Addr} (ha : a.block < b) : w'.cell? a = w.cell? a := by simp [World.cell?, h.block a.block ha]
theorem WdsB.below {b : Nat} {w w' : World} (h : WdsB b w) (hu : Below b w w') : WdsB b w' := by
  obtain ⟨bw, o, c, h0, hb, h1, h2, h3⟩ := h
  exact ⟨bw, o, c, h0, hb, (below_cell hu (by simpa using h0)).trans h1, h2, fun i hi => (below_cell hu hb).trans (h3 i hi)⟩
/-- What the text's functions read of the package's variables. -/
structure Glb (w : World) : Prop where
  wds : Wds w
  pow : Pow w
theorem Glb.mono {w w' : World} (h : Glb w) (hu : Upd [] w w') : Glb w' := ⟨h.wds.mono hu, h.pow.mono hu⟩
structure GlbB (b : Nat) (w : World) : Prop where
  wds : WdsB b w
  pow : Pow w
  lt : 2 < b
theorem GlbB.plain {b : Nat} {w : World} (h : GlbB b w) : Glb w := ⟨h.wds.plain, h.pow⟩
theorem pow_named : Tryz.prog.globalNamed "internal/strconv.uint64pow10" = some 2 := by kernel_rfl
theorem pow_lt {w : World} (h : Pow w) : 2 < w.heap.size := by
  have h' : w.var? Tryz.prog "internal/strconv.uint64pow10" = some _ := h
  unfold World.var? at h'
  rw [pow_named] at h'
  simp only [Option.bind_some] at h'
  rcases Nat.lt_or_ge 2 w.heap.size with hh | hh
  · exact hh
  · rw [Array.getElem?_eq_none hh] at h'; simp at h'
theorem Glb.toB {w w' : World} (h : Glb w) (hu : Upd [] w w') : GlbB w.heap.size w' := ⟨h.wds.toB hu, h.pow.mono hu, pow_lt h.pow⟩
theorem GlbB.below {b : Nat} {w w' : World} (h : GlbB b w) (hu : Below b w w') : GlbB b w' := by
  refine ⟨h.wds.below hu, ?_, h.lt⟩
  have h' : w.var? Tryz.prog "internal/strconv.uint64pow10" = some _ := h.pow
  show w'.var? Tryz.prog "internal/strconv.uint64pow10" = some _
  unfold World.var? at h' ⊢
  rw [pow_named] at h' ⊢
  simp only [Option.bind_some] at h' ⊢
  rw [hu.block 2 h.lt]
  exact h'
theorem below_upd {b : Nat} {w w' : World} (h : Below b w w') : Upd ((List.range w.heap.size).filter (fun x => decide (b ≤ x))) w w' :=
  ⟨h.os, h.tape, h.output, h.size, fun k hk hn => h.block k (by
    simp at hn
    have := hn hk
    omega)⟩
theorem Upd.toBelow {w w' : World} (h : Upd [] w w') (b : Nat) (hb : b ≤ w.heap.size) : Below b w w' := ⟨h.os, h.tape, h.output, h.size, fun k hk => h.block k (by omega) (by simp)⟩
theorem Upd.toKp {w w' : World} (h : Upd [] w w') (b : Nat) (hb : b ≤ w.heap.size) : Kp b w w' := ⟨h.toBelow b hb, fun k o hk _ _ => (h.block k ((Array.getElem?_eq_some_iff.1 hk).1) (by simp)).trans hk⟩
theorem InB.below {b : Nat} {w w' : World} (h : Below b w w') (d : Nat) (cs : List Value) (t : Tm) (hi : InB (fun x => x < b) w d cs t) : InB (fun x => x < b) w' d cs t :=
  InB.upd (below_upd h) (fun x hx hm => by simp at hm; omega) (fun _ hx _ => hx) d cs t hi
theorem RowB.below {b : Nat} {w w' : World} (h : Below b w w') {d : Nat} {a : Option Addr} {I : List Tm} (hi : RowB (fun x => x < b) (InB (fun x => x < b) w d) w a I) : RowB (fun x => x < b) (InB (fun x => x < b) w' d) w' a I :=
  RowB.upd (below_upd h) (fun x hx hm => by simp at hm; omega) (fun _ hx _ => hx) hi
theorem Bd.shape {w : World} {b : Nat} {bs : List Value} (h : Bd w b bs) : ∃ x y, w.heap[b]? = some (.cells #[x, y] 57 (0, 0)) := by
  rcases h with ⟨_, v, hb, _⟩ | ⟨_, v, hb, _⟩ <;> exact ⟨_, _, hb⟩

set_option maxHeartbeats 1000000 in
set_option maxRecDepth 100000 in
theorem put_any (b g c : Nat) (l : List UInt8) (ps : List (List UInt8)) (w : World) (hB : Bd w b (Lib.byteCells l)) (hg : w.heap[g]? = some (.cells (ps.map (fun p => Value.string (str p))).toArray 9 (0, 0)))
    (hlen : l.length + ps.flatten.length ≤ 140737488355328) (hn : ps.length ≤ 1000) :
    Calls Tryz.prog 45 #[.slice (some ⟨g, 0, none⟩) ps.length c, .pointer (some ⟨b, 0, none⟩)] w fun e w' => e = .returned (.tuple #[]) ∧ Bd w' b (Lib.byteCells (l ++ ps.flatten)) ∧ Kp b w w' := by
  have hgb : g ≠ b := fun e => by
    obtain ⟨x, y, h⟩ := hB.shape
    rw [e, h] at hg
    simp at hg
  have HG : Hid _ := hg
  have HB : Hid (Bd w b (Lib.byteCells l)) := hB
  have HL : Hid _ := hlen
  clear hg hB hlen
  go_enter Tryz.func45, Tryz.ntmps45
  go_wp2
  go_loopw [7] (fun i wr => ∃ k : Nat, k ≤ ps.length ∧ i = .int .i64 k ∧ Bd wr b (Lib.byteCells (l ++ (ps.take k).flatten)) ∧ Kp b w wr) (fun i _ => ps.length - (intOf i).toNat)
  case atStart => exact ⟨0, Nat.zero_le _, rfl, by simpa using HB.out, Kp.refl _ _⟩
  case round =>
    obtain ⟨k, hk, rfl, hB, hK⟩ := hrel
    have HB2 : Hid _ := hB
    have HK : Hid _ := hK
    clear hB hK
    by_cases hlt : k < ps.length
    · have hc : wr.cell? ⟨g, k, none⟩ = some (.string (str ps[k])) := by
        have h1 := HK.out.others g _ HG.out (by simpa using hgb) (by simp)
        rw [Lib.cell_of_heap h1]
        simp [hlt]
      have hle : (Lib.byteCells (l ++ (ps.take k).flatten)).length + (str ps[k]).size ≤ 140737488355328 := by
        rw [Lib.byteCells_length, str_size, List.length_append]
        have h1 := HL.out
        have h2 : ps.flatten = (ps.take (k + 1)).flatten ++ (ps.drop (k + 1)).flatten := by rw [← List.flatten_append, List.take_append_drop]
        rw [h2, List.length_append, List.take_succ_eq_append_getElem hlt, List.flatten_append, List.length_append] at h1
        simp at h1 ⊢
        omega
      have HLE : Hid _ := hle
      clear hle
      go_wp2_with (go_at_call 46; refine (WriteString_any _ _ _ _ HB2.out HLE.out).mono ?_; rintro e w3 ⟨rfl, hB3, hK3⟩)
      have e : Lib.byteCells (l ++ (ps.take k).flatten) ++ Lib.strCells (str ps[k]) = Lib.byteCells (l ++ (ps.take (k + 1)).flatten) := by
        rw [cells_add, List.take_succ_eq_append_getElem hlt, List.flatten_append, List.append_assoc]; simp
      rw [e] at hB3
      refine ⟨⟨k + 1, by omega, by go_num, hB3, HK.out.trans hK3⟩, ?_⟩
      simp [intOf]; omega
    · have hd : decide ((k : Int) < ps.length) = false := by simp; omega
      go_wp2
      go_end0
      have e : ps.take k = ps := List.take_of_length_le (by omega)
      have h1 := HB2.out
      rw [e] at h1
      exact ⟨rfl, h1, HK.out⟩
end Go.Proofs.YtaoipmmeialpnaaGreatDoor
