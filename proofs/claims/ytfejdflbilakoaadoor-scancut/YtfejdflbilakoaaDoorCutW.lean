/- ScanCut: the walks. -/
import Derived.Test.YtfejdflbilakoaaDoorCutL
namespace Go.Proofs.YtfejdflbilakoaaDoor
open Go.RowKit

theorem TokPost.form {w w' : World} {T : Sc.Told} {e : Ending} (h : TokPost w T e w') : ∃ (a : Option Addr) (n c : Nat) (x k : Int), e = .returned (.tuple #[.slice a n c, .agg #[.int .i64 x, .int .i64 k]]) ∧ Upd [] w w' := by
  obtain ⟨hU, h⟩ := h
  cases T with
  | ok l => obtain ⟨a, c, rfl, _⟩ := h; exact ⟨a, _, c, 0, 0, rfl, hU⟩
  | fault x k => subst h; exact ⟨none, 0, 0, x, k, rfl, hU⟩

/-- What Tokens answers, wherever it is called. -/
def TokSaid (w : World) (s : ByteArray) (T : Sc.Told) : Prop := ∀ W, Upd [] w W → Calls Tryd.prog 6 #[.string s] W (TokPost W T)
theorem TokSaid.mk (w : World) (s : ByteArray) (hg : Glb w) (T : Sc.Told) (h : Sc.tokens (byt s) = T) : TokSaid w s T := fun W hU => by
  subst h; exact Tokens_any s W (hg.mono hU)

set_option maxHeartbeats 1000000 in
set_option maxRecDepth 100000 in
theorem Cut_long (a b : ByteArray) (w : World) (hg : Glb w) (ha : a.size ≤ 140737488355328) (hb : b.size ≤ 140737488355328) (h : 20000 < a.size + b.size) :
    Calls Tryd.prog 4 #[.string a, .string b] w fun e w' => e = .returned (.bool true) ∧ Upd [] w w' := by
  have hd : (20000 : Int) < (a.size : Int) + (b.size : Int) := by omega
  have HG : Hid (Glb w) := hg
  clear hg h
  go_enter Tryd.func4, Tryd.ntmps4
  go_wp2_with fail
  refine (awake_any _ HG.out).mono ?_
  rintro e w1 ⟨rfl, hU1⟩
  go_wp2
  go_ret
  exact ⟨rfl, hU1⟩

set_option maxHeartbeats 2000000 in
set_option maxRecDepth 100000 in
theorem Cut_fault (a b : ByteArray) (w : World) (hg : Glb w) (h : a.size + b.size ≤ 20000) (x k : Nat) (hx : x = 200 ∨ x = 201) (Tb : Sc.Told) (hTa : TokSaid w a (.fault x k)) (hTb : TokSaid w b Tb) (hTc : TokSaid w (a ++ ⟨#[10]⟩ ++ b) (.fault x k)) :
    Calls Tryd.prog 4 #[.string a, .string b] w fun e w' => e = .returned (.bool true) ∧ Upd [] w w' := by
  have hd : decide ((20000 : Int) < (a.size : Int) + (b.size : Int)) = false := by simp; omega
  have hx0 : ((x : Int) != 0) = true := by simp; omega
  have HG : Hid (Glb w) := hg
  have HA : Hid (TokSaid w a (.fault x k)) := hTa
  have HB : Hid (TokSaid w b Tb) := hTb
  have HC : Hid (TokSaid w (a ++ ⟨#[10]⟩ ++ b) (.fault x k)) := hTc
  clear hg hTa hTb hTc
  go_enter Tryd.func4, Tryd.ntmps4
  go_wp2_with fail
  refine (awake_any _ HG.out).mono ?_
  rintro e w1 ⟨rfl, hU1⟩
  go_wp2_with fail
  refine (HA.out _ hU1).mono ?_
  rintro e w2 ⟨hU2, rfl⟩
  have V2 := hU1.trans hU2
  go_wp2_with fail
  refine (HB.out _ (V2.alloc _)).mono ?_
  intro e w3 hP
  obtain ⟨a3, n3, c3, x3, k3, rfl, hU3⟩ := hP.form
  clear hP
  have B2 := (Blk.new w2 #[.int .i64 x, .int .i64 k] 26).mono hU3 (by simp)
  have V3 := (V2.alloc _).trans hU3
  go_wp2_with fail
  refine (HC.out _ (V3.alloc _)).mono ?_
  rintro e w4 ⟨hU4, rfl⟩
  have B4 := (B2.mono ((Upd.refl [] w3).alloc _) (by simp)).mono hU4 (by simp)
  have V4 := (V3.alloc _).trans hU4
  have c0 : w4.cell? ⟨w2.heap.size, 0, none⟩ = some (.int .i64 x) := B4.cell 0
  have c1 : w4.cell? ⟨w2.heap.size, 1, none⟩ = some (.int .i64 k) := B4.cell 1
  have hlt := B4.lt
  have HV : Hid (Upd [] w w4) := V4
  clear B2 B4 V2 V3 V4 hU1 hU2 hU3 hU4
  go_wp2
  go_ret
  exact ⟨rfl, HV.out.alloc _⟩

set_option maxHeartbeats 2000000 in
set_option maxRecDepth 100000 in
theorem Cut_fault2 (a b : ByteArray) (w : World) (hg : Glb w) (h : a.size + b.size ≤ 20000) (x k : Nat) (hx : x = 200 ∨ x = 201) (hk : k ≤ 1000000) (la : List Sc.Tok) (hTa : TokSaid w a (.ok la)) (hTb : TokSaid w b (.fault x k)) (hTc : TokSaid w (a ++ ⟨#[10]⟩ ++ b) (.fault x (k + (a.size + 1)))) :
    Calls Tryd.prog 4 #[.string a, .string b] w fun e w' => e = .returned (.bool true) ∧ Upd [] w w' := by
  have hd : decide ((20000 : Int) < (a.size : Int) + (b.size : Int)) = false := by simp; omega
  have hx0 : ((x : Int) != 0) = true := by simp; omega
  have HG : Hid (Glb w) := hg
  have HA : Hid (TokSaid w a (.ok la)) := hTa
  have HB : Hid (TokSaid w b (.fault x k)) := hTb
  have HC : Hid (TokSaid w (a ++ ⟨#[10]⟩ ++ b) (.fault x (k + (a.size + 1)))) := hTc
  have hsum : (((k + (a.size + 1) : Nat) : Int) == (k : Int) + (a.size : Int) + 1) = true := by simp; omega
  clear hg hTa hTb hTc
  go_enter Tryd.func4, Tryd.ntmps4
  go_wp2_with fail
  refine (awake_any _ HG.out).mono ?_
  rintro e w1 ⟨rfl, hU1⟩
  go_wp2_with fail
  refine (HA.out _ hU1).mono ?_
  rintro e w2 ⟨hU2, a2, c2, rfl, _⟩
  have V2 := hU1.trans hU2
  go_wp2_with fail
  refine (HB.out _ (V2.alloc _)).mono ?_
  rintro e w3 ⟨hU3, rfl⟩
  have B2 := (Blk.new w2 #[.int .i64 0, .int .i64 0] 26).mono hU3 (by simp)
  have V3 := (V2.alloc _).trans hU3
  go_wp2_with fail
  refine (HC.out _ (V3.alloc _)).mono ?_
  rintro e w4 ⟨hU4, rfl⟩
  have B4 := (B2.mono ((Upd.refl [] w3).alloc _) (by simp)).mono hU4 (by simp)
  have D4 := (Blk.new w3 #[.int .i64 x, .int .i64 k] 26).mono hU4 (by simp)
  have V4 := (V3.alloc _).trans hU4
  have c0 : w4.cell? ⟨w2.heap.size, 0, none⟩ = some (.int .i64 0) := B4.cell 0
  have c1 : w4.cell? ⟨w2.heap.size, 1, none⟩ = some (.int .i64 0) := B4.cell 1
  have d0 : w4.cell? ⟨w3.heap.size, 0, none⟩ = some (.int .i64 x) := D4.cell 0
  have d1 : w4.cell? ⟨w3.heap.size, 1, none⟩ = some (.int .i64 k) := D4.cell 1
  have hlt := B4.lt
  have hlt2 := D4.lt
  have HV : Hid (Upd [] w w4) := V4
  clear B2 B4 D4 V2 V3 V4 hU1 hU2 hU3 hU4
  go_wp2
  go_ret
  exact ⟨rfl, HV.out.alloc _⟩

end Go.Proofs.YtfejdflbilakoaaDoor
