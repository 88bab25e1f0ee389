/- Names: Put, Take, Find, End. -/
import Derived.Test.YtpojkmpimnnjiaaGreatNmS
namespace Go.Proofs.YtpojkmpimnnjiaaGreat
open Go.RowKit Go.Maps

theorem namAt_none : namAt none = .agg #[.string ⟨#[]⟩, .int .i64 0] := rfl
theorem namAt_some (s : BS) (p : Int) : namAt (some (s, p)) = .agg #[encStr s, .int .i64 p] := rfl
theorem nmF_none {F : NF} {s : BS} (h : F s = none) : nmF F s = none := by unfold nmF; rw [h]; rfl
theorem nmF_some {F : NF} {s : BS} {p : Int} (h : F s = some p) : nmF F s = some (s, p) := by unfold nmF; rw [h]; rfl
theorem pdF_none {G : PF} {p : Int} (h : G p = none) : pdF G p = none := by unfold pdF; rw [h]; rfl
theorem pdF_some {G : PF} {s : BS} {p : Int} (h : G p = some s) : pdF G p = some (s, p) := by unfold pdF; rw [h]; rfl

set_option maxRecDepth 10000 in
theorem find_any {w : World} {l n b1 b2 : Nat} {F : NF} {G : PF} (o : NmO w l n b1 b2 F G) {s : BS} (hs : okB s) :
    Calls Tryz.prog 13 #[.pointer (some ⟨l, 0, none⟩), encStr s] w fun e w' => e = .returned (.tuple #[.int .i64 ((F s).getD 0), .bool (F s).isSome]) ∧ Upd [] w w' := by
  have e1 := MapB.look2 str_key und_way1 o.byN hs
  have hm := o.made
  have c1 : w.cell? ⟨l, 1, none⟩ = some (.map (some b1)) := by rw [o.row.cell]; rfl
  cases hF : F s with
  | none =>
    rw [nmF_none hF, namAt_none] at e1
    clear o hF
    go_enter Tryz.func13, Tryz.ntmps13
    go_wp2_with fail
    refine Calls.mono hm ?_
    rintro e w' ⟨rfl, rfl⟩
    clear hm
    go_wp2_with fail
    refine bodyPost_ret (results_tmp2 rfl _ _ _) rfl ?_
    exact ⟨rfl, (Upd.refl [] _).alloc _⟩
  | some p =>
    rw [nmF_some hF, namAt_some] at e1
    clear o hF
    go_enter Tryz.func13, Tryz.ntmps13
    go_wp2_with fail
    refine Calls.mono hm ?_
    rintro e w' ⟨rfl, rfl⟩
    clear hm
    go_wp2_with fail
    refine bodyPost_ret (results_tmp2 rfl _ _ _) rfl ?_
    exact ⟨rfl, (Upd.refl [] _).alloc _⟩

set_option maxRecDepth 10000 in
theorem take_any {w : World} {l n b1 b2 : Nat} {F : NF} {G : PF} (o : NmO w l n b1 b2 F G) {s : BS} (hs : okB s) :
    Calls Tryz.prog 18 #[.pointer (some ⟨l, 0, none⟩), encStr s] w fun e w' => e = .returned (.bool (F s).isSome) ∧ NmO w' l n b1 b2 (at1 F s none) (match F s with | some p => at1 G p none | none => G) ∧ Upd [b1, b2] w w' := by
  have e1 := MapB.look2 str_key und_way1 o.byN hs
  have hm := o.made
  have c1 : w.cell? ⟨l, 1, none⟩ = some (.map (some b1)) := by rw [o.row.cell]; rfl
  cases hF : F s with
  | none =>
    rw [nmF_none hF, namAt_none] at e1
    have hat : at1 F s none = F := by
      funext x
      unfold at1
      by_cases hx : x = s
      · rw [if_pos hx, hx, hF]
      · rw [if_neg hx]
    rw [hat]
    have O : Hid (NmO w l n b1 b2 F G) := o
    clear o hF hat
    go_enter Tryz.func18, Tryz.ntmps18
    go_wp2_with fail
    refine Calls.mono hm ?_
    rintro e w' ⟨rfl, rfl⟩
    clear hm
    go_wp2_with fail
    go_ret
    exact ⟨rfl, O.out.upd ((Upd.refl [] _).alloc _), ((Upd.refl [] _).alloc _).more _⟩
  | some p =>
    rw [nmF_some hF, namAt_some] at e1
    have O : Hid (∀ W, Upd [] w W → Calls Tryz.prog 32 #[.pointer (some ⟨l, 0, none⟩), namV (s, p)] W fun e w' => e = .returned (.tuple #[]) ∧ NmO w' l n b1 b2 (at1 F s none) (at1 G p none) ∧ Upd [b1, b2] W w') := fun W hu => forget_any (o.upd hu) hF
    clear o hF
    go_enter Tryz.func18, Tryz.ntmps18
    go_wp2_with fail
    refine Calls.mono hm ?_
    rintro e w' ⟨rfl, rfl⟩
    clear hm
    go_wp2_with fail
    refine Calls.mono (O.out _ ((Upd.refl [] _).alloc _)) ?_
    rintro e w2 ⟨rfl, o2, hu⟩
    have H : Hid (NmO w2 l n b1 b2 (at1 F s none) (at1 G p none) ∧ Upd [b1, b2] w' w2) := ⟨o2, (((Upd.refl [] w').alloc _).more _).trans hu⟩
    clear o2 hu O
    go_wp2_with fail
    go_ret
    exact ⟨rfl, H.out⟩

set_option maxRecDepth 10000 in
theorem end_any {w : World} {l n b1 b2 : Nat} {F : NF} {G : PF} (o : NmO w l n b1 b2 F G) {p : Int} (hp : I64 p) :
    Calls Tryz.prog 14 #[.pointer (some ⟨l, 0, none⟩), .int .i64 p] w fun e w' => (match G p with | some s => ∃ g, w.heap.size ≤ g ∧ e = .returned (.slice (some ⟨g, 0, none⟩) 1 1) ∧ Cl w' g #[encStr s] 9 | none => e = .returned (.slice none 0 0)) ∧ NmO w' l n b1 b2 (match G p with | some s => at1 F s none | none => F) (at1 G p none) ∧ Upd [b1, b2] w w' := by
  have e1 := MapB.look2 int_key und_way2 o.byP hp
  have hm := o.made
  have c1 : w.cell? ⟨l, 2, none⟩ = some (.map (some b2)) := by rw [o.row.cell]; rfl
  cases hG : G p with
  | none =>
    rw [pdF_none hG, namAt_none] at e1
    have hat : at1 G p none = G := by
      funext x
      unfold at1
      by_cases hx : x = p
      · rw [if_pos hx, hx, hG]
      · rw [if_neg hx]
    rw [hat]
    have O : Hid (NmO w l n b1 b2 F G) := o
    clear o hG hat
    go_enter Tryz.func14, Tryz.ntmps14
    go_wp2_with fail
    refine Calls.mono hm ?_
    rintro e w' ⟨rfl, rfl⟩
    clear hm
    go_wp2_with fail
    go_ret
    exact ⟨rfl, O.out.upd ((Upd.refl [] _).alloc _), ((Upd.refl [] _).alloc _).more _⟩
  | some s =>
    rw [pdF_some hG, namAt_some] at e1
    have hF := (o.two s p).2 hG
    obtain ⟨W1, hW1⟩ : ∃ W1, W1 = w.alloc (.cells #[encStr s, .int .i64 p] 42) := ⟨_, rfl⟩
    obtain ⟨x, hx⟩ : ∃ x, x = w.heap.size := ⟨_, rfl⟩
    have U1 : Hid (Upd [] w W1) := by rw [hW1]; exact (Upd.refl [] w).alloc _
    have C1 : Cl W1 x #[encStr s, .int .i64 p] 42 := by rw [hW1]; exact Cl.new _ _ _ _ hx
    have q0 : W1.cell? ⟨x, 0, none⟩ = some (encStr s) := by rw [C1.cell]; rfl
    have q1 : W1.cell? ⟨x, 1, none⟩ = some (.int .i64 p) := by rw [C1.cell]; rfl
    have HX : Hid (Cl W1 x #[encStr s, .int .i64 p] 42 ∧ x ∉ [b1, b2]) := by
      refine ⟨C1, ?_⟩
      have o2 := o.upd U1.out
      have h1 := MapB.ne o2.byN C1
      have h2 := MapB.ne o2.byP C1
      simp
      exact ⟨fun e => h1 e.symm, fun e => h2 e.symm⟩
    have O : Hid (Calls Tryz.prog 32 #[.pointer (some ⟨l, 0, none⟩), namV (s, p)] W1 fun e w' => e = .returned (.tuple #[]) ∧ NmO w' l n b1 b2 (at1 F s none) (at1 G p none) ∧ Upd [b1, b2] W1 w') := forget_any (o.upd U1.out) hF
    clear o hG hF C1
    go_enter Tryz.func14, Tryz.ntmps14
    go_wp2_with fail
    refine Calls.mono hm ?_
    rintro e w' ⟨rfl, rfl⟩
    clear hm
    go_wp2_with fail
    rw [← hW1, ← hx]
    clear hW1 hx
    refine Calls.mono O.out ?_
    rintro e w2 ⟨rfl, o2, hu⟩
    have q2 : w2.cell? ⟨x, 0, none⟩ = some (encStr s) := (hu.cell (p := ⟨x, 0, none⟩) HX.out.1.lt HX.out.2).trans q0
    have H : Hid (NmO w2 l n b1 b2 (at1 F s none) (at1 G p none) ∧ Upd [b1, b2] w' w2) := ⟨o2, (U1.out.more _).trans hu⟩
    clear o2 hu O q0 q1
    go_wp2_with fail
    go_ret
    exact ⟨⟨_, H.out.2.size, rfl, Cl.new _ _ _ _ rfl⟩, H.out.1.upd ((Upd.refl [] _).alloc _), H.out.2.trans (((Upd.refl [] _).alloc _).more _)⟩

end Go.Proofs.YtpojkmpimnnjiaaGreat
