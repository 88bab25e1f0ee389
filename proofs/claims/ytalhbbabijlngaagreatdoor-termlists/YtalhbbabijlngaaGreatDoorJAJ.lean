/- strconv.Itoa at this program, by the shelf's contract. -/
import Derived.Test.YtalhbbabijlngaaGreatDoorJAE
import Derived.Shelf.LaysM
import Derived.Shelf.Strconv.Itoa3
import Derived.Test.YtalhbbabijlngaaGreatDoorJAF
import Derived.Test.YtalhbbabijlngaaGreatDoorJAG
import Derived.Test.YtalhbbabijlngaaGreatDoorJAI
namespace Go.Proofs.YtalhbbabijlngaaGreatDoor
open Go.Shelf Go.RowKit Go.Sort Go.Lib
def laysM171_ren : Go.Shelf.Ren := ⟨fun | 171 => 48 | 243 => 81 | 246 => 136 | 283 => 178 | 284 => 179 | 285 => 180 | 286 => 181 | 129 => 199 | 317 => 198 | 318 => 200 | 319 => 201 | 320 => 202 | 337 => 205 | 338 => 206 | n => n, fun | 3 => 3 | 9 => 9 | 2 => 2 | 4 => 4 | 171 => 239 | 0 => 0 | 53 => 128 | 37 => 52 | 5 => 5 | 173 => 242 | 212 => 256 | 51 => 47 | 20 => 20 | 213 => 257 | 46 => 130 | 232 => 265 | 233 => 266 | n => n, fun | 17 => 2 | 18 => 5 | 19 => 6 | n => n⟩
theorem laysM171 : Go.Proofs.LaysM.n171 Tryz.prog laysM171_ren := {
 mixed := by kernel_rfl
 f129 := Tryz.func199.trans (congrArg some (by kernel_rfl))
 f171 := Tryz.func48.trans (congrArg some (by kernel_rfl))
 f243 := Tryz.func81.trans (congrArg some (by kernel_rfl))
 f246 := Tryz.func136.trans (congrArg some (by kernel_rfl))
 f283 := Tryz.func178.trans (congrArg some (by kernel_rfl))
 f284 := Tryz.func179.trans (congrArg some (by kernel_rfl))
 f285 := Tryz.func180.trans (congrArg some (by kernel_rfl))
 f286 := Tryz.func181.trans (congrArg some (by kernel_rfl))
 f317 := Tryz.func198.trans (congrArg some (by kernel_rfl))
 f318 := Tryz.func200.trans (congrArg some (by kernel_rfl))
 f319 := Tryz.func201.trans (congrArg some (by kernel_rfl))
 f320 := Tryz.func202.trans (congrArg some (by kernel_rfl))
 f337 := Tryz.func205.trans (congrArg some (by kernel_rfl))
 f338 := Tryz.func206.trans (congrArg some (by kernel_rfl))
 t0 := Tryz.underlying0
 a0 := Tryz.isAgg0
 z0 := Tryz.sizeOf0
 v0 := Tryz.zeroValue0
 t2 := Tryz.underlying2
 a2 := Tryz.isAgg2
 z2 := Tryz.sizeOf2
 v2 := Tryz.zeroValue2
 t3 := Tryz.underlying3
 a3 := Tryz.isAgg3
 z3 := Tryz.sizeOf3
 v3 := Tryz.zeroValue3
 t4 := Tryz.underlying4
 a4 := Tryz.isAgg4
 z4 := Tryz.sizeOf4
 v4 := Tryz.zeroValue4
 t5 := Tryz.underlying5
 a5 := Tryz.isAgg5
 z5 := Tryz.sizeOf5
 v5 := Tryz.zeroValue5
 t9 := Tryz.underlying9
 a9 := Tryz.isAgg9
 z9 := Tryz.sizeOf9
 v9 := Tryz.zeroValue9
 t20 := Tryz.underlying20
 a20 := Tryz.isAgg20
 z20 := Tryz.sizeOf20
 v20 := Tryz.zeroValue20
 t37 := Tryz.underlying52
 a37 := Tryz.isAgg52
 z37 := Tryz.sizeOf52
 v37 := Tryz.zeroValue52
 t46 := Tryz.underlying130
 a46 := Tryz.isAgg130
 z46 := Tryz.sizeOf130
 v46 := Tryz.zeroValue130
 t51 := Tryz.underlying47
 a51 := Tryz.isAgg47
 z51 := Tryz.sizeOf47
 v51 := Tryz.zeroValue47
 t53 := Tryz.underlying128
 a53 := Tryz.isAgg128
 z53 := Tryz.sizeOf128
 v53 := Tryz.zeroValue128
 t171 := Tryz.underlying239
 a171 := Tryz.isAgg239
 z171 := Tryz.sizeOf239
 v171 := Tryz.zeroValue239
 t173 := Tryz.underlying242
 a173 := Tryz.isAgg242
 z173 := Tryz.sizeOf242
 v173 := Tryz.zeroValue242
 t212 := Tryz.underlying256
 a212 := Tryz.isAgg256
 z212 := Tryz.sizeOf256
 v212 := Tryz.zeroValue256
 t213 := Tryz.underlying257
 a213 := Tryz.isAgg257
 z213 := Tryz.sizeOf257
 t232 := Tryz.underlying265
 a232 := Tryz.isAgg265
 z232 := Tryz.sizeOf265
 v232 := Tryz.zeroValue265
 t233 := Tryz.underlying266
 a233 := Tryz.isAgg266
 z233 := Tryz.sizeOf266
 v233 := Tryz.zeroValue266
 g17 := by kernel_rfl
 g18 := by kernel_rfl
 g19 := by kernel_rfl
 i0 := by kernel_rfl
 i2 := by kernel_rfl
 i3 := by kernel_rfl
 i4 := by kernel_rfl
 i5 := by kernel_rfl
 i9 := by kernel_rfl
 i20 := by kernel_rfl
 i37 := by kernel_rfl
 i46 := by kernel_rfl
 i51 := by kernel_rfl
 i53 := by kernel_rfl
 i171 := by kernel_rfl
 i173 := by kernel_rfl
 i212 := by kernel_rfl
 i232 := by kernel_rfl
 i233 := by kernel_rfl
 m17 := by kernel_rfl
 m18 := by kernel_rfl
 m19 := by kernel_rfl }
def Pow (w : World) : Prop := Lib.TabIs Tryz.prog w "internal/strconv.uint64pow10" .u64 Lib.pow10Tab
theorem var_upd {w w' : World} (hu : Upd [] w w') {name : String} {cs : Array Value} (h : w.var? Tryz.prog name = some cs) : w'.var? Tryz.prog name = some cs := by
 unfold World.var? at h ⊢
 cases hg : Tryz.prog.globalNamed name with
 | none => rw [hg] at h; simp at h
 | some g =>
  rw [hg] at h
  simp only [Option.bind_some] at h ⊢
  have hlt : g < w.heap.size := by
   rcases Nat.lt_or_ge g w.heap.size with h' | h'
   ·exact h'
   ·rw [Array.getElem?_eq_none h'] at h; simp at h
  rw [hu.block g hlt (by simp)]
  exact h
theorem Pow.mono {w w' : World} (h : Pow w) (hu : Upd [] w w') : Pow w' := var_upd hu h
theorem Upd.grow (w : World) (k : Nat) (os : Array Obj) : Upd [] w (grow (w.drewN k) os) :=
 have h := (Upd.refl [] w).drewN k
 ⟨h.os, h.tape, h.output, by have := h.size; simp only [Go.Sort.grow, Array.size_append]; omega, fun i hi _ => by
  have h1 := h.size
  rw [← h.block i hi (by simp)]
  simp only [Go.Sort.grow]
  rw [Array.getElem?_append_left (by omega)]⟩
theorem Itoa_any (n : Int) (h0 : -9223372036854775808 ≤ n) (h1 : n ≤ 9223372036854775807) (w : World) (ht : Pow w) :
  Calls Tryz.prog 48 #[.int .i64 n] w fun e w' => e = .returned (.string (str (Lib.itoa n))) ∧ Upd [] w w' := by
 have H : Calls Tryz.prog 48 #[.int .i64 n] w fun e w' => e = .returned (.string ⟨(Lib.itoa n).toArray⟩) ∧ ∃ k os, w' = grow (w.drewN k) os := Any.strconv_Itoa laysM171 n h0 h1 w ht
 refine H.mono ?_
 rintro e w' ⟨rfl, k, os, rfl⟩
 exact ⟨rfl, Upd.grow w k os⟩
end Go.Proofs.YtalhbbabijlngaaGreatDoor
namespace Go.Proofs.YtalhbbabijlngaaGreatDoor
open Go.RowKit
theorem IsText.ex1 (z : Int) (h : ∃ T, IsText T z) : ∃ l : List UInt8, ∀ T, IsText T z → T.map (fun n => UInt8.ofNat n) = l := by
 obtain ⟨T, hT⟩ := h
 exact ⟨_, fun U hU => by rw [hU.uniq hT]⟩
open Classical in
noncomputable def wtx (z : Int) : List UInt8 := if h : ∃ T, IsText T z then Classical.choose (IsText.ex1 z h) else []
theorem wtx_eq {z : Int} {T : List Nat} (h : IsText T z) : wtx z = T.map (fun n => UInt8.ofNat n) := by
 have he : ∃ T, IsText T z := ⟨T, h⟩
 unfold wtx
 rw [dif_pos he]
 exact (Classical.choose_spec (IsText.ex1 z he) T h).symm
theorem bs_str {z : Int} {T : List Nat} (h : IsText T z) : bs T = str (wtx z) := by rw [wtx_eq h]; rfl
mutual
noncomputable def txT : Tm → List UInt8
 | .mk k num neg L s I T => if k = 1 then wtx (zv neg L) else if k = 2 then atomTx (byt s) else if k = 3 then [35, 82, 101, 102, 60] ++ (Lib.itoa num ++ [62]) else if k = 4 then [35, 70, 117, 110, 60] ++ (Lib.itoa num ++ [62]) else if k = 5 then [60] ++ (Lib.itoa num ++ [62]) else if k = 6 then 123 :: ((txC I).drop 1 ++ [125]) else if k = 7 then 91 :: ((txC I).drop 1 ++ txB T ++ [93]) else []
noncomputable def txC : List Tm → List UInt8
 | [] => []
 | t :: r => 44 :: (txT t ++ txC r)
noncomputable def txB : List Tm → List UInt8
 | [] => []
 | t :: _ => 124 :: txT t
end
theorem txC_take (I : List Tm) (k : Nat) (hk : k < I.length) : txC (I.take (k + 1)) = txC (I.take k) ++ 44 :: txT I[k] := by
 induction I generalizing k with
 | nil => simp at hk
 | cons t r ih =>
  cases k with
  | zero => simp [txC]
  | succ k =>
   simp only [List.take_succ_cons, txC, List.getElem_cons_succ]
   rw [ih k (by simpa using hk)]
   simp
theorem txC_le (I : List Tm) (k : Nat) : (txC (I.take k)).length ≤ (txC I).length := by
 induction I generalizing k with
 | nil => simp
 | cons t r ih =>
  cases k with
  | zero => simp [txC]
  | succ k => simp only [List.take_succ_cons, txC, List.length_cons, List.length_append]; have := ih k; omega
theorem txC_len (I : List Tm) (k : Nat) (hk : k < I.length) : (txC (I.take k)).length + 1 + (txT I[k]).length ≤ (txC I).length := by
 have := txC_le I (k + 1)
 rw [txC_take I k hk, List.length_append, List.length_cons] at this
 omega
theorem txC_drop (I : List Tm) (k : Nat) (hk : k < I.length) : (txC (I.take (k + 1))).drop 1 = (txC (I.take k)).drop 1 ++ ((if k = 0 then [] else [44]) ++ txT I[k]) := by
 rw [txC_take I k hk]
 cases k with
 | zero => simp [txC]
 | succ k =>
  cases I with
  | nil => simp at hk
  | cons t r => simp [txC]
def WdsB (b : Nat) (w : World) : Prop := ∃ bw o c, 0 < b ∧ bw < b ∧ w.cell? ⟨0, 0, none⟩ = some (.slice (some ⟨bw, o, none⟩) 19 c) ∧ 19 ≤ c ∧ ∀ i, i < 19 → w.cell? ⟨bw, o + i, none⟩ = some (.string (str (resW.getD i [])))
theorem WdsB.plain {b : Nat} {w : World} (h : WdsB b w) : Wds w := by
 obtain ⟨bw, o, c, _, _, h1, h2, h3⟩ := h
 exact ⟨bw, o, c, h1, h2, h3⟩
theorem Wds.toB {w w' : World} (h : Wds w) (hu : Upd [] w w') : WdsB w.heap.size w' := by
 obtain ⟨bw, o, c, h1, h2, h3⟩ := h
 have a1 := lt_of_cell h1
 have a2 := lt_of_cell (h3 0 (by omega))
 exact ⟨bw, o, c, by simp at a1; omega, a2, (hu.cell (lt_of_cell h1) (by simp)).trans h1, h2, fun i hi => (hu.cell (lt_of_cell (h3 i hi)) (by simp)).trans (h3 i hi)⟩
theorem below_cell {b : Nat} {w w' : World} (h : Below b w w') {a : Addr} (ha : a.block < b) : w'.cell? a = w.cell? a := by simp [World.cell?, h.block a.block ha]
theorem WdsB.below {b : Nat} {w w' : World} (h : WdsB b w) (hu : Below b w w') : WdsB b w' := by
 obtain ⟨bw, o, c, h0, hb, h1, h2, h3⟩ := h
 exact ⟨bw, o, c, h0, hb, (below_cell hu (by simpa using h0)).trans h1, h2, fun i hi => (below_cell hu hb).trans (h3 i hi)⟩
structure Glb (w : World) : Prop where
 wds : Wds w
 pow : Pow w
theorem Glb.mono {w w' : World} (h : Glb w) (hu : Upd [] w w') : Glb w' := ⟨h.wds.mono hu, h.pow.mono hu⟩
structure GlbB (b : Nat) (w : World) : Prop where
 wds : WdsB b w
 pow : Pow w
 lt : 2 < b
theorem GlbB.plain {b : Nat} {w : World} (h : GlbB b w) : Glb w := ⟨h.wds.plain, h.pow⟩
theorem pow_named : Tryz.prog.globalNamed "internal/strconv.uint64pow10" = some 2 := by kernel_rfl
theorem pow_lt {w : World} (h : Pow w) : 2 < w.heap.size := by
 have h' : w.var? Tryz.prog "internal/strconv.uint64pow10" = some _ := h
 unfold World.var? at h'
 rw [pow_named] at h'
 simp only [Option.bind_some] at h'
 rcases Nat.lt_or_ge 2 w.heap.size with hh | hh
 ·exact hh
 ·rw [Array.getElem?_eq_none hh] at h'; simp at h'
theorem Glb.toB {w w' : World} (h : Glb w) (hu : Upd [] w w') : GlbB w.heap.size w' := ⟨h.wds.toB hu, h.pow.mono hu, pow_lt h.pow⟩
theorem GlbB.below {b : Nat} {w w' : World} (h : GlbB b w) (hu : Below b w w') : GlbB b w' := by
 refine ⟨h.wds.below hu, ?_, h.lt⟩
 have h' : w.var? Tryz.prog "internal/strconv.uint64pow10" = some _ := h.pow
 show w'.var? Tryz.prog "internal/strconv.uint64pow10" = some _
 unfold World.var? at h' ⊢
 rw [pow_named] at h' ⊢
 simp only [Option.bind_some] at h' ⊢
 rw [hu.block 2 h.lt]
 exact h'
theorem below_upd {b : Nat} {w w' : World} (h : Below b w w') : Upd ((List.range w.heap.size).filter (fun x => decide (b ≤ x))) w w' :=
 ⟨h.os, h.tape, h.output, h.size, fun k hk hn => h.block k (by
  simp at hn
  have := hn hk
  omega)⟩
theorem Upd.toBelow {w w' : World} (h : Upd [] w w') (b : Nat) (hb : b ≤ w.heap.size) : Below b w w' := ⟨h.os, h.tape, h.output, h.size, fun k hk => h.block k (by omega) (by simp)⟩
theorem Upd.toKp {w w' : World} (h : Upd [] w w') (b : Nat) (hb : b ≤ w.heap.size) : Kp b w w' := ⟨h.toBelow b hb, fun k o hk _ _ => (h.block k ((Array.getElem?_eq_some_iff.1 hk).1) (by simp)).trans hk⟩
theorem InB.below {b : Nat} {w w' : World} (h : Below b w w') (d : Nat) (cs : List Value) (t : Tm) (hi : InB (fun x => x < b) w d cs t) : InB (fun x => x < b) w' d cs t :=
 InB.upd (below_upd h) (fun x hx hm => by simp at hm; omega) (fun _ hx _ => hx) d cs t hi
theorem RowB.below {b : Nat} {w w' : World} (h : Below b w w') {d : Nat} {a : Option Addr} {I : List Tm} (hi : RowB (fun x => x < b) (InB (fun x => x < b) w d) w a I) : RowB (fun x => x < b) (InB (fun x => x < b) w' d) w' a I :=
 RowB.upd (below_upd h) (fun x hx hm => by simp at hm; omega) (fun _ hx _ => hx) hi
theorem Bd.shape {w : World} {b : Nat} {bs : List Value} (h : Bd w b bs) : ∃ x y, w.heap[b]? = some (.cells #[x, y] 54 (0, 0)) := by
 rcases h with ⟨_, v, hb, _⟩ | ⟨_, v, hb, _⟩ <;> exact ⟨_, _, hb⟩
set_option maxHeartbeats 1000000 in
set_option maxRecDepth 100000 in
theorem put_any (b g c : Nat) (l : List UInt8) (ps : List (List UInt8)) (w : World) (hB : Bd w b (Lib.byteCells l)) (hg : w.heap[g]? = some (.cells (ps.map (fun p => Value.string (str p))).toArray 9 (0, 0)))
  (hlen : l.length + ps.flatten.length ≤ 140737488355328) (hn : ps.length ≤ 1000) :
  Calls Tryz.prog 42 #[.slice (some ⟨g, 0, none⟩) ps.length c, .pointer (some ⟨b, 0, none⟩)] w fun e w' => e = .returned (.tuple #[]) ∧ Bd w' b (Lib.byteCells (l ++ ps.flatten)) ∧ Kp b w w' := by
 have hgb : g ≠ b := fun e => by
  obtain ⟨x, y, h⟩ := hB.shape
  rw [e, h] at hg
  simp at hg
 have HG : Hid _ := hg
 have HB : Hid (Bd w b (Lib.byteCells l)) := hB
 have HL : Hid _ := hlen
 clear hg hB hlen
 go_enter Tryz.func42, Tryz.ntmps42
 go_wp2
 go_loopw [7] (fun i wr => ∃ k : Nat, k ≤ ps.length ∧ i = .int .i64 k ∧ Bd wr b (Lib.byteCells (l ++ (ps.take k).flatten)) ∧ Kp b w wr) (fun i _ => ps.length - (intOf i).toNat)
 case atStart => exact ⟨0, Nat.zero_le _, rfl, by simpa using HB.out, Kp.refl _ _⟩
 case round =>
  obtain ⟨k, hk, rfl, hB, hK⟩ := hrel
  have HB2 : Hid _ := hB
  have HK : Hid _ := hK
  clear hB hK
  by_cases hlt : k < ps.length
  ·have hc : wr.cell? ⟨g, k, none⟩ = some (.string (str ps[k])) := by
    have h1 := HK.out.others g _ HG.out (by simpa using hgb) (by simp)
    rw [Lib.cell_of_heap h1]
    simp [hlt]
   have hle : (Lib.byteCells (l ++ (ps.take k).flatten)).length + (str ps[k]).size ≤ 140737488355328 := by
    rw [Lib.byteCells_length, str_size, List.length_append]
    have h1 := HL.out
    have h2 : ps.flatten = (ps.take (k + 1)).flatten ++ (ps.drop (k + 1)).flatten := by rw [← List.flatten_append, List.take_append_drop]
    rw [h2, List.length_append, List.take_succ_eq_append_getElem hlt, List.flatten_append, List.length_append] at h1
    simp at h1 ⊢
    omega
   have HLE : Hid _ := hle
   clear hle
   go_wp2_with (go_at_call 43; refine (WriteString_any _ _ _ _ HB2.out HLE.out).mono ?_; rintro e w3 ⟨rfl, hB3, hK3⟩)
   have e : Lib.byteCells (l ++ (ps.take k).flatten) ++ Lib.strCells (str ps[k]) = Lib.byteCells (l ++ (ps.take (k + 1)).flatten) := by
    rw [cells_add, List.take_succ_eq_append_getElem hlt, List.flatten_append, List.append_assoc]; simp
   rw [e] at hB3
   refine ⟨⟨k + 1, by omega, by go_num, hB3, HK.out.trans hK3⟩, ?_⟩
   simp [intOf]; omega
  ·have hd : decide ((k : Int) < ps.length) = false := by simp; omega
   go_wp2
   go_end0
   have e : ps.take k = ps := List.take_of_length_le (by omega)
   have h1 := HB2.out
   rw [e] at h1
   exact ⟨rfl, h1, HK.out⟩
end Go.Proofs.YtalhbbabijlngaaGreatDoor
namespace Go.Proofs.YtalhbbabijlngaaGreatDoor
open Go.RowKit
structure TS (w : World) (b p q r : Nat) (l : List UInt8) : Prop where
 bd : Bd w b (Lib.byteCells l)
 put : FunB w p (.func (.func 42) #[] #[.pointer (some ⟨b, 0, none⟩)]) 60
 wr : FunB w q (.func (.func 45) #[] #[.pointer (some ⟨p, 0, none⟩), .pointer (some ⟨r, 0, none⟩), .pointer (some ⟨q, 0, none⟩)]) 34
 row : FunB w r (.func (.func 44) #[] #[.pointer (some ⟨p, 0, none⟩), .pointer (some ⟨q, 0, none⟩)]) 61
theorem FunB.kp {w w' : World} {b p : Nat} {v : Value} {T : TypeId} {bs : List Value} (h : FunB w p v T) (hB : Bd w b bs) (hK : Kp b w w') (hT : T ≠ 5) : FunB w' p v T := by
 refine hK.others p _ h ?_ ?_
 ·intro e
  simp at e
  subst e
  obtain ⟨x, y, h2⟩ := hB.shape
  have := h.symm.trans h2
  simp at this
 ·intro c fz e
  simp at e
  exact hT e.2.1
theorem TS.kp {w w' : World} {b p q r : Nat} {l l' : List UInt8} (h : TS w b p q r l) (hK : Kp b w w') (hB : Bd w' b (Lib.byteCells l')) : TS w' b p q r l' :=
 ⟨hB, h.put.kp h.bd hK (by decide), h.wr.kp h.bd hK (by decide), h.row.kp h.bd hK (by decide)⟩
theorem TS.upd {w w' : World} {b p q r : Nat} {l : List UInt8} (h : TS w b p q r l) (hu : Upd [] w w') : TS w' b p q r l :=
 ⟨h.bd.upd hu, h.put.mono hu (by simp), h.wr.mono hu (by simp), h.row.mono hu (by simp)⟩
theorem Tb.kp {w w' : World} {b g : Nat} {cs : Array Value} {bs : List Value} (h : Tb w g cs) (hB : Bd w b bs) (hK : Kp b w w') : Tb w' g cs := by
 have h' : w.heap[g]? = some (.cells cs 26 (0, 0)) := h
 refine hK.others g _ h' ?_ ?_
 ·intro e
  simp at e
  subst e
  obtain ⟨x, y, h2⟩ := hB.shape
  have := h'.symm.trans h2
  simp at this
 ·intro c fz e
  simp at e
def WrP (w : World) (b p q r : Nat) (l m : List UInt8) (e : Ending) (w' : World) : Prop := e = .returned (.tuple #[]) ∧ TS w' b p q r (l ++ m) ∧ Kp b w w'
def WriteSaid (d : Nat) : Prop := ∀ (w : World) (b p q r : Nat) (l : List UInt8) (cs : List Value) (t : Tm), InB (fun x => x < b) w d cs t → okT' t = true → tsz t ≤ 1353245080330 → l.length + (txT t).length ≤ 140737488355328 → GlbB b w → TS w b p q r l →
 Calls Tryz.prog 45 #[.agg cs.toArray, .pointer (some ⟨p, 0, none⟩), .pointer (some ⟨r, 0, none⟩), .pointer (some ⟨q, 0, none⟩)] w (WrP w b p q r l (txT t))
theorem InB.one' {P : Nat → Prop} {w : World} {d : Nat} {cs : List Value} {t : Tm} (h : InB P w d cs t) : cs.toArray.all (·.oneCell') = true := (InB.plain _ _ _ h).one
theorem put_one {w : World} {b p q r : Nat} {l : List UInt8} (h : TS w b p q r l) (m : List UInt8) (hlen : l.length + m.length ≤ 140737488355328) :
  Calls Tryz.prog 42 #[.slice (some ⟨w.heap.size, 0, none⟩) 1 1, .pointer (some ⟨b, 0, none⟩)] (w.alloc (.cells #[.string (str m)] 9)) (WrP w b p q r l m) := by
 have hu : Upd [] w (w.alloc (.cells #[.string (str m)] 9)) := (Upd.refl [] w).alloc _
 have h1 := h.upd hu
 refine (put_any b w.heap.size 1 l [m] _ h1.bd (heap_alloc_new w _) (by simpa using hlen) (by simp)).mono ?_
 rintro e w' ⟨rfl, hB, hK⟩
 rw [show [m].flatten = m by simp] at hB
 exact ⟨rfl, h1.kp hK hB, (hu.toKp b (Nat.le_of_lt h.bd.lt)).trans hK⟩
theorem put_three {w : World} {b p q r : Nat} {l : List UInt8} (h : TS w b p q r l) (m1 m2 m3 : List UInt8) (hlen : l.length + (m1 ++ (m2 ++ m3)).length ≤ 140737488355328) :
  Calls Tryz.prog 42 #[.slice (some ⟨w.heap.size, 0, none⟩) 3 3, .pointer (some ⟨b, 0, none⟩)] (w.alloc (.cells #[.string (str m1), .string (str m2), .string (str m3)] 9)) (WrP w b p q r l (m1 ++ (m2 ++ m3))) := by
 have hu : Upd [] w (w.alloc (.cells #[.string (str m1), .string (str m2), .string (str m3)] 9)) := (Upd.refl [] w).alloc _
 have h1 := h.upd hu
 have e : [m1, m2, m3].flatten = m1 ++ (m2 ++ m3) := by simp
 refine (put_any b w.heap.size 3 l [m1, m2, m3] _ h1.bd (heap_alloc_new w _) (by rw [e]; exact hlen) (by simp)).mono ?_
 rintro e w' ⟨rfl, hB, hK⟩
 rw [show [m1, m2, m3].flatten = m1 ++ (m2 ++ m3) by simp] at hB
 exact ⟨rfl, h1.kp hK hB, (hu.toKp b (Nat.le_of_lt h.bd.lt)).trans hK⟩
theorem put_one_at {w : World} {b p q r : Nat} {l : List UInt8} (h : TS w b p q r l) (m : List UInt8) (hlen : l.length + m.length ≤ 140737488355328) (g : Nat) (hg : g = w.heap.size) (s : ByteArray) (hs : s = str m) :
  Calls Tryz.prog 42 #[.slice (some ⟨g, 0, none⟩) 1 1, .pointer (some ⟨b, 0, none⟩)] (w.alloc (.cells #[.string s] 9)) (WrP w b p q r l m) := by
 subst hg hs
 exact put_one h m hlen
set_option maxHeartbeats 4000000 in
set_option maxRecDepth 100000 in
theorem row_in (d : Nat) (ih : WriteSaid d) (w : World) (b p q r : Nat) (l : List UInt8) (a : Option Addr) (c : Nat) (I : List Tm) (h : RowB (fun x => x < b) (InB (fun x => x < b) w d) w a I) (hok : okR I = true)
  (hs : tszs I ≤ 1353245080330) (hlen : l.length + (txC I).length ≤ 140737488355328) (hG : GlbB b w) (hT : TS w b p q r l) :
  Calls Tryz.prog 44 #[.slice a I.length c, .pointer (some ⟨p, 0, none⟩), .pointer (some ⟨q, 0, none⟩)] w (WrP w b p q r l ((txC I).drop 1)) := by
 have hlenI : I.length ≤ 1353245080330 := Nat.le_trans (tszs_len I) hs
 have HS : Hid (tszs I ≤ 1353245080330) := hs
 have HA : Hid (RowB (fun x => x < b) (InB (fun x => x < b) w d) w a I) := h
 have IH : Hid (WriteSaid d) := ih
 have HT : Hid (TS w b p q r l) := hT
 have HG : Hid (GlbB b w) := hG
 have HO : Hid (okR I = true ∧ l.length + (txC I).length ≤ 140737488355328) := ⟨hok, hlen⟩
 clear hs h ih hT hG hok hlen
 have hcall : ∀ args w, (callFunc 45 args).run Tryz.prog w = .ok (.enter 45 args) w := Tryz.call45
 have hcall1 : ∀ args w, (callFunc 42 args).run Tryz.prog w = .ok (.enter 42 args) w := Tryz.call42
 go_enter Tryz.func44, Tryz.ntmps44
 go_wp2
 go_loopw [8] (fun i wr => ∃ k : Nat, k ≤ I.length ∧ i = .int .i64 k ∧ TS wr b p q r (l ++ (txC (I.take k)).drop 1) ∧ Kp b w wr) (fun i _ => I.length - (intOf i).toNat)
 case atStart => exact ⟨0, Nat.zero_le _, rfl, by simpa [txC] using HT.out, Kp.refl _ _⟩
 case round =>
  obtain ⟨k, hk, rfl, hT, hK⟩ := hrel
  have HT2 : Hid (TS wr b p q r (l ++ (txC (I.take k)).drop 1)) := hT
  have HK : Hid (Kp b w wr) := hK
  have HA2 := RowB.below hK.below HA.out
  have HG2 : Hid (GlbB b wr) := HG.out.below hK.below
  clear hT hK
  by_cases hlt : k < I.length
  ·rcases HA2 with h0 | ⟨b0, o, rfl, hb0, hb1, hc⟩
   ·rw [h0] at hlt; simp at hlt
   obtain ⟨cs, hl7, hcell, hin⟩ := hc k hlt
   have hone := hin.one'
   obtain ⟨q0, q1, q2, q3, q4, q5, q6, rfl⟩ := list7 hl7
   have HIN : Hid (InB (fun x => x < b) wr d [q0, q1, q2, q3, q4, q5, q6] I[k]) := hin
   have HSZ : Hid (tsz I[k] ≤ 1353245080330) := Nat.le_trans (tszs_get I k hlt) HS.out
   have HOK : Hid (okT' I[k] = true) := okR_get I k hlt HO.out.1
   have hbz : b < wr.heap.size := HT2.out.bd.lt
   have HLN : Hid (l.length + (txC (I.take k)).length + 1 + (txT I[k]).length ≤ 140737488355328) := by
    show _ ≤ _
    have h1 := HO.out.2
    have h2 := txC_len I k hlt
    omega
   have xq0 : wr.cell? ⟨b0, o + k * 7, none⟩ = some q0 := hcell 0 (by omega)
   have xq1 : wr.cell? ⟨b0, o + k * 7 + 1, none⟩ = some q1 := hcell 1 (by omega)
   have xq2 : wr.cell? ⟨b0, o + k * 7 + 2, none⟩ = some q2 := hcell 2 (by omega)
   have xq3 : wr.cell? ⟨b0, o + k * 7 + 3, none⟩ = some q3 := hcell 3 (by omega)
   have xq4 : wr.cell? ⟨b0, o + k * 7 + 4, none⟩ = some q4 := hcell 4 (by omega)
   have xq5 : wr.cell? ⟨b0, o + k * 7 + 5, none⟩ = some q5 := hcell 5 (by omega)
   have xq6 : wr.cell? ⟨b0, o + k * 7 + 6, none⟩ = some q6 := hcell 6 (by omega)
   have i1 : (k : Int) < (I.length : Int) := by omega
   have tbz : Tb (wr.alloc (.cells #[.int .u8 0, .bool false, .slice none 0 0, .string ⟨#[]⟩, .int .i64 0, .slice none 0 0, .slice none 0 0] 26)) wr.heap.size #[.int .u8 0, .bool false, .slice none 0 0, .string ⟨#[]⟩, .int .i64 0, .slice none 0 0, .slice none 0 0] := Tb.new _ _ _ rfl
   clear hc hcell hin
   have HYP : Hid (∀ w1, Upd [] wr w1 → w1.cell? ⟨p, 0, none⟩ = some (.func (.func 42) #[] #[.pointer (some ⟨b, 0, none⟩)])) := fun w1 h1 => (HT2.out.upd h1).put.cell
   have HYQ : Hid (∀ w1, Upd [] wr w1 → w1.cell? ⟨q, 0, none⟩ = some (.func (.func 45) #[] #[.pointer (some ⟨p, 0, none⟩), .pointer (some ⟨r, 0, none⟩), .pointer (some ⟨q, 0, none⟩)])) := fun w1 h1 => (HT2.out.upd h1).wr.cell
   by_cases h0 : k = 0
   ·have h0' : ¬ 0 < k := by omega
    have HZ : Hid (k = 0) := h0
    clear h0
    go_wp2_with (first
     | (refine store_T _ rfl _ _ rfl _ #[q0, q1, q2, q3, q4, q5, q6] _ rfl rfl tbz rfl rfl hone ?_; intro w1 hT1 hU1; have hw1 : Upd [] wr w1 := ((Upd.refl [] wr).alloc _).then hU1 (by simp); have yq := HYQ.out w1 hw1)
     | (refine load_T _ rfl _ rfl _ _ rfl hT1 rfl ?_))
    have hKw : Kp b wr w1 := hw1.toKp b (by omega)
    refine (IH.out w1 b p q r (l ++ (txC (I.take k)).drop 1) [q0, q1, q2, q3, q4, q5, q6] I[k] (InB.below hKw.below _ _ _ HIN.out) HOK.out HSZ.out (by have := HLN.out; simp at this ⊢; omega) (HG2.out.below hKw.below) (HT2.out.upd hw1)).mono ?_
    rintro e w4 ⟨rfl, hT4, hK4⟩
    have HT4 : Hid (TS w4 b p q r (l ++ (txC (I.take (k + 1))).drop 1)) := by
     have e := txC_drop I k hlt
     rw [if_pos HZ.out, List.nil_append] at e
     show TS _ _ _ _ _ _
     rw [e, ← List.append_assoc]
     exact hT4
    have HK4 : Hid (Kp b w w4) := (HK.out.trans hKw).trans hK4
    clear hT4 hK4 hKw yq hw1 hU1 hT1 xq0 xq1 xq2 xq3 xq4 xq5 xq6 tbz
    go_wp2
    go_roundw
    case rel => exact ⟨k + 1, by omega, by go_num, HT4.out, HK4.out⟩
    case measure => simp [intOf]; omega
   ·have h0' : 0 < k := by omega
    go_wp2_with (first
     | (refine store_T _ rfl _ _ rfl _ #[q0, q1, q2, q3, q4, q5, q6] _ rfl rfl tbz rfl rfl hone ?_; intro w1 hT1 hU1; have hw1 : Upd [] wr w1 := ((Upd.refl [] wr).alloc _).then hU1 (by simp); have yq := HYP.out w1 hw1)
     | (refine load_T _ rfl _ rfl _ _ rfl hT1 rfl ?_))
    have hKw : Kp b wr w1 := hw1.toKp b (by omega)
    have hTw := HT2.out.upd hw1
    refine (put_one hTw [44] (by have := HLN.out; simp at this ⊢; omega)).mono ?_
    rintro e w3 ⟨rfl, hT3, hK3⟩
    have tb3 : Tb w3 wr.heap.size #[q0, q1, q2, q3, q4, q5, q6] := hT1.kp hTw.bd hK3
    have yq3 := hT3.wr.cell
    have HT3 : Hid _ := hT3
    have HK3 : Hid (Kp b wr w3) := hKw.trans hK3
    clear yq hT3 hK3 hTw hKw hw1 hU1 hT1 xq0 xq1 xq2 xq3 xq4 xq5 xq6 tbz
    go_wp2_with (refine load_T _ rfl _ rfl _ _ rfl tb3 rfl ?_)
    refine (IH.out w3 b p q r (l ++ (txC (I.take k)).drop 1 ++ [44]) [q0, q1, q2, q3, q4, q5, q6] I[k] (InB.below HK3.out.below _ _ _ HIN.out) HOK.out HSZ.out (by have := HLN.out; simp at this ⊢; omega) (HG2.out.below HK3.out.below) HT3.out).mono ?_
    rintro e w4 ⟨rfl, hT4, hK4⟩
    have HT4 : Hid (TS w4 b p q r (l ++ (txC (I.take (k + 1))).drop 1)) := by
     have e := txC_drop I k hlt
     rw [if_neg h0] at e
     show TS _ _ _ _ _ _
     rw [e, ← List.append_assoc, ← List.append_assoc]
     exact hT4
    have HK4 : Hid (Kp b w w4) := (HK.out.trans HK3.out).trans hK4
    clear hT4 hK4 yq3 tb3
    go_wp2
    go_roundw
    case rel => exact ⟨k + 1, by omega, by go_num, HT4.out, HK4.out⟩
    case measure => simp [intOf]; omega
  ·have hd : decide ((k : Int) < (I.length : Int)) = false := by simp; omega
   have HE : Hid (I.take k = I) := List.take_of_length_le (by omega)
   clear HA2
   go_wp2
   go_end0
   have h2 := HT2.out
   rw [HE.out] at h2
   exact ⟨rfl, h2, HK.out⟩
end Go.Proofs.YtalhbbabijlngaaGreatDoor
