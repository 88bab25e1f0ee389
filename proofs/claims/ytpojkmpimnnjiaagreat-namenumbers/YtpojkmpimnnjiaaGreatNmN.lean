/- Names: the object; made, New, has, forget. -/
import Derived.Test.YtpojkmpimnnjiaaGreatNmM
namespace Go.Proofs.YtpojkmpimnnjiaaGreat
open Go.RowKit Go.Maps

abbrev NF := BS → Option Int
abbrev PF := Int → Option BS
def nmF (F : NF) : BS → Option Nd := fun s => (F s).map fun p => (s, p)
def pdF (G : PF) : Int → Option Nd := fun p => (G p).map fun s => (s, p)
theorem nmF_put (F : NF) (s : BS) (p : Int) : at1 (nmF F) s (some (s, p)) = nmF (at1 F s (some p)) := by
  funext x
  unfold nmF at1
  by_cases hx : x = s <;> simp [hx]
theorem nmF_drop (F : NF) (s : BS) : at1 (nmF F) s none = nmF (at1 F s none) := by
  funext x
  unfold nmF at1
  by_cases hx : x = s <;> simp [hx]
theorem pdF_put (G : PF) (s : BS) (p : Int) : at1 (pdF G) p (some (s, p)) = pdF (at1 G p (some s)) := by
  funext x
  unfold pdF at1
  by_cases hx : x = p <;> simp [hx]
theorem pdF_drop (G : PF) (p : Int) : at1 (pdF G) p none = pdF (at1 G p none) := by
  funext x
  unfold pdF at1
  by_cases hx : x = p <;> simp [hx]

/-- At l lie Names: F whose name is whose, G who has which. -/
structure NmO (w : World) (l n b1 b2 : Nat) (F : NF) (G : PF) : Prop where
  row : Cl w l #[.pointer (some ⟨l, 0, none⟩), .map (some b1), .map (some b2)] 52
  byN : StrB w b1 n (nmF F)
  byP : PidB w b2 n (pdF G)
  ne : b1 ≠ b2
  two : ∀ s p, F s = some p ↔ G p = some s

theorem NmO.d1 {w : World} {l n b1 b2 : Nat} {F : NF} {G : PF} (o : NmO w l n b1 b2 F G) : b1 ≠ l := MapB.ne o.byN o.row
theorem NmO.d2 {w : World} {l n b1 b2 : Nat} {F : NF} {G : PF} (o : NmO w l n b1 b2 F G) : b2 ≠ l := MapB.ne o.byP o.row
theorem NmO.upd {w w' : World} {l n b1 b2 : Nat} {F : NF} {G : PF} (o : NmO w l n b1 b2 F G) (hu : Upd [] w w') : NmO w' l n b1 b2 F G :=
  ⟨o.row.upd hu (by simp), MapB.upP o.byN (P := fun _ => False) hu.toN (fun h => h), MapB.upP o.byP (P := fun _ => False) hu.toN (fun h => h), o.ne, o.two⟩
theorem NmO.le {w : World} {l n m b1 b2 : Nat} {F : NF} {G : PF} (o : NmO w l n b1 b2 F G) (h : n ≤ m) : NmO w l m b1 b2 F G :=
  ⟨o.row, o.byN.le h, o.byP.le h, o.ne, o.two⟩
theorem NmO.keyN {w : World} {l n b1 b2 : Nat} {F : NF} {G : PF} (o : NmO w l n b1 b2 F G) {s : BS} {p : Int} (h : F s = some p) : okB s ∧ I64 p := by
  have h2 := (o.two s p).1 h
  exact ⟨MapB.keys str_key o.byN (by unfold nmF; rw [h]; simp), MapB.keys int_key o.byP (by unfold pdF; rw [h2]; simp)⟩

theorem und_pnames : Tryz.prog.underlying 25 = some (.pointer 52) := by kernel_rfl
theorem ptr_sameIn (w : World) (b o d : Nat) : (Op.equalIn (d + 1) 25 (.pointer (some ⟨b, o, none⟩)) (.pointer (some ⟨b, o, none⟩))).run Tryz.prog w = .ok true w := by
  simp [Op.equalIn, run_underlying und_pnames, sameAddr]
theorem ptr_nilIn (w : World) (b o d : Nat) : (Op.equalIn (d + 1) 25 (.pointer none) (.pointer (some ⟨b, o, none⟩))).run Tryz.prog w = .ok false w := by
  simp [Op.equalIn, run_underlying und_pnames]
theorem ptr_same (w : World) (b o : Nat) : (binOp .eql 25 (.pointer (some ⟨b, o, none⟩)) (.pointer (some ⟨b, o, none⟩))).run Tryz.prog w = .ok (.bool true) w := by
  simp only [binOp]
  simp [Op.equal, Op.maxDepth, ptr_sameIn w b o 9999]
theorem ptr_nil (w : World) (b o : Nat) : (binOp .eql 25 (.pointer none) (.pointer (some ⟨b, o, none⟩))).run Tryz.prog w = .ok (.bool false) w := by
  simp only [binOp]
  simp [Op.equal, Op.maxDepth, ptr_nilIn w b o 9999]

set_option maxRecDepth 10000 in
theorem made_ok (w : World) (b : Nat) (cs : Array Value) (h : Cl w b cs 52) (h0 : cs[0]? = some (.pointer (some ⟨b, 0, none⟩))) : Calls Tryz.prog 22 #[.pointer (some ⟨b, 0, none⟩)] w fun e w' => e = .returned (.bool true) ∧ w' = w := by
  have e0 : w.cell? ⟨b, 0, none⟩ = some (.pointer (some ⟨b, 0, none⟩)) := by rw [h.cell]; exact h0
  have e1 := ptr_same w b 0
  clear h h0
  go_enter Tryz.func22, Tryz.ntmps22
  go_wp2
  go_ret
  exact ⟨rfl, rfl⟩
theorem made_nil (w : World) : Calls Tryz.prog 22 #[.pointer none] w fun e w' => e = .returned (.bool false) ∧ w' = w := by
  go_enter Tryz.func22, Tryz.ntmps22
  go_wp2
  go_ret
  exact ⟨rfl, rfl⟩
theorem made_zero (w : World) (b : Nat) (e0 : w.cell? ⟨b, 0, none⟩ = some (.pointer none)) : Calls Tryz.prog 22 #[.pointer (some ⟨b, 0, none⟩)] w fun e w' => e = .returned (.bool false) ∧ w' = w := by
  have e1 := ptr_nil w b 0
  go_enter Tryz.func22, Tryz.ntmps22
  go_wp2
  go_ret
  exact ⟨rfl, rfl⟩
theorem NmO.made {w : World} {l n b1 b2 : Nat} {F : NF} {G : PF} (o : NmO w l n b1 b2 F G) : Calls Tryz.prog 22 #[.pointer (some ⟨l, 0, none⟩)] w fun e w' => e = .returned (.bool true) ∧ w' = w := made_ok w l _ o.row rfl

set_option maxRecDepth 10000 in
theorem new_any (w : World) : Calls Tryz.prog 7 #[] w fun e w' => ∃ l b1 b2, e = .returned (.pointer (some ⟨l, 0, none⟩)) ∧ NmO w' l 0 b1 b2 (fun _ => none) (fun _ => none) ∧ w.heap.size ≤ b1 ∧ w.heap.size ≤ b2 ∧ w.heap.size ≤ l ∧ Upd [] w w' := by
  have hmm := @run_makeMap Tryz.prog
  go_enter Tryz.func7, Tryz.ntmps7
  go_wp2
  go_ret
  obtain ⟨k, hk⟩ : ∃ k, k = w.heap.size := ⟨_, rfl⟩
  obtain ⟨w1, hw1⟩ : ∃ w1, w.alloc (.map #[] 0) = w1 := ⟨_, rfl⟩
  obtain ⟨w2, hw2⟩ : ∃ w2, w1.alloc (.map #[] 0) = w2 := ⟨_, rfl⟩
  have s1 : w1.heap.size = k + 1 := by rw [← hw1, hk]; simp
  have s2 : w2.heap.size = k + 2 := by rw [← hw2]; simp [s1]
  rw [hw1, hw2, ← hk]
  obtain ⟨w4, hw4⟩ : ∃ w4, w2.alloc (.cells #[.pointer (some ⟨k + 1 + 1, 0, none⟩), .map (some k), .map (some (k + 1))] 52) = w4 := ⟨_, rfl⟩
  have s4 : w4.heap.size = k + 3 := by rw [← hw4]; simp [s2]
  rw [hw4]
  have M1 : StrB w1 k 0 (fun _ => none) := by rw [← hw1]; exact MapB.new w k hk
  have M2 : PidB w2 (k + 1) 0 (fun _ => none) := by rw [← hw2]; exact MapB.new w1 (k + 1) s1.symm
  have R4 : Cl w4 (k + 2) #[.pointer (some ⟨k + 2, 0, none⟩), .map (some k), .map (some (k + 1))] 52 := by rw [← hw4]; exact Cl.new _ _ _ _ s2.symm
  have u12 : Upd [] w1 w2 := by rw [← hw2]; exact (Upd.refl [] w1).alloc _
  have u24 : Upd [] w2 w4 := by rw [← hw4]; exact (Upd.refl [] w2).alloc _
  have u01 : Upd [] w w1 := by rw [← hw1]; exact (Upd.refl [] w).alloc _
  exact ⟨k + 2, k, k + 1, rfl, ⟨R4, MapB.upP M1 (P := fun _ => False) ((u12.trans u24).toN) (fun h => h), MapB.upP M2 (P := fun _ => False) u24.toN (fun h => h), by omega, fun s p => ⟨fun h => (nomatch h), fun h => (nomatch h)⟩⟩, by omega, by omega, by omega, (u01.trans u12).trans u24⟩

theorem namAt_form (o : Option Nd) : ∃ s p, namAt o = .agg #[.string s, .int .i64 p] := by
  cases o with
  | none => exact ⟨_, _, rfl⟩
  | some m => exact ⟨_, _, rfl⟩
set_option maxRecDepth 10000 in
theorem has1_any {w : World} {l n b1 b2 : Nat} {F : NF} {G : PF} (o : NmO w l n b1 b2 F G) {s : BS} (hs : okB s) :
    Calls Tryz.prog 29 #[.map (some b1), encStr s] w fun e w' => e = .returned (.bool (F s).isSome) ∧ Upd [] w w' := by
  have e1 := MapB.look2 str_key und_way1 o.byN hs
  have e2 : (nmF F s).isSome = (F s).isSome := by unfold nmF; simp
  rw [e2] at e1
  generalize (F s).isSome = b at e1 ⊢
  obtain ⟨y1, y2, hy⟩ := namAt_form (nmF F s)
  rw [hy] at e1
  clear hy
  clear o
  go_enter Tryz.func29, Tryz.ntmps29
  go_wp2
  go_ret
  exact ⟨rfl, (Upd.refl [] w).alloc _⟩
set_option maxRecDepth 10000 in
theorem has2_any {w : World} {l n b1 b2 : Nat} {F : NF} {G : PF} (o : NmO w l n b1 b2 F G) {p : Int} (hp : I64 p) :
    Calls Tryz.prog 30 #[.map (some b2), .int .i64 p] w fun e w' => e = .returned (.bool (G p).isSome) ∧ Upd [] w w' := by
  have e1 := MapB.look2 int_key und_way2 o.byP hp
  have e2 : (pdF G p).isSome = (G p).isSome := by unfold pdF; simp
  rw [e2] at e1
  generalize (G p).isSome = b at e1 ⊢
  obtain ⟨y1, y2, hy⟩ := namAt_form (pdF G p)
  rw [hy] at e1
  clear hy
  clear o
  go_enter Tryz.func30, Tryz.ntmps30
  go_wp2
  go_ret
  exact ⟨rfl, (Upd.refl [] w).alloc _⟩

/-- What forget leaves. -/
theorem NmO.less {w w1 w' : World} {l n b1 b2 : Nat} {F : NF} {G : PF} (o : NmO w l n b1 b2 F G) {s : BS} {p : Int} (hF : F s = some p) (h1 : StrB w1 b1 n (at1 (nmF F) s none)) (u1 : UpP (fun x => x = b1) w w1) (h2 : PidB w' b2 n (at1 (pdF G) p none)) (u2 : UpP (fun x => x = b2) w1 w') :
    NmO w' l n b1 b2 (at1 F s none) (at1 G p none) ∧ Upd [b1, b2] w w' := by
  have hG := (o.two s p).1 hF
  rw [nmF_drop] at h1
  rw [pdF_drop] at h2
  refine ⟨⟨(o.row.mono u1 (fun e => o.d1 e.symm)).mono u2 (fun e => o.d2 e.symm), MapB.upP h1 u2 (fun e => o.ne e), h2, o.ne, fun s' p' => ?_⟩, ?_⟩
  · unfold at1
    by_cases hs : s' = s
    · subst hs
      simp
      intro hp hG'
      have := (o.two s' p').2 hG'
      rw [hF] at this
      cases this
      exact hp rfl
    · by_cases hp : p' = p
      · subst hp
        simp [hs]
        intro hF'
        have := (o.two s' p').1 hF'
        rw [hG] at this
        cases this
        exact hs rfl
      · simp [hs, hp]
        exact o.two s' p'
  · have u : UpP (fun x => x = b1 ∨ x = b2) w w' := (u1.mono (Q := fun x => x = b1 ∨ x = b2) (fun x hx => Or.inl hx)).trans (u2.mono (fun x hx => Or.inr hx))
    exact ⟨u.os, u.tape, u.output, u.size, fun k hk hn => u.block k hk (by simpa using hn)⟩

theorem Upd.more {w w' : World} (h : Upd [] w w') (S : List Nat) : Upd S w w' := ⟨h.os, h.tape, h.output, h.size, fun k hk _ => h.block k hk (by simp)⟩

set_option maxRecDepth 10000 in
theorem forget_any {w : World} {l n b1 b2 : Nat} {F : NF} {G : PF} (o : NmO w l n b1 b2 F G) {s : BS} {p : Int} (hF : F s = some p) :
    Calls Tryz.prog 32 #[.pointer (some ⟨l, 0, none⟩), namV (s, p)] w fun e w' => e = .returned (.tuple #[]) ∧ NmO w' l n b1 b2 (at1 F s none) (at1 G p none) ∧ Upd [b1, b2] w w' := by
  have hk := o.keyN hF
  obtain ⟨x, hx⟩ : ∃ x, x = w.heap.size := ⟨_, rfl⟩
  obtain ⟨W2, hW2⟩ : ∃ W2, W2 = w.alloc (.cells #[encStr s, .int .i64 p] 42) := ⟨_, rfl⟩
  have U2 : Upd [] w W2 := by rw [hW2]; exact (Upd.refl [] w).alloc _
  have C2 : Cl W2 x #[encStr s, .int .i64 p] 42 := by rw [hW2]; exact Cl.new _ _ _ _ hx
  have o2 := o.upd U2
  obtain ⟨w1, e1, h1, t1⟩ := MapB.drop (w := W2.drew) str_key und_way1 (MapB.upP o2.byN ((UpP.refl (fun _ => False) _).drew) (fun h => h)) hk.1 0
  have u1 : UpP (fun x => x = b1) W2 w1 := (UpP.refl (fun x => x = b1) W2).drew.trans (turned_upP t1)
  have hb1 : x ≠ b1 := fun e => MapB.ne o2.byN C2 e.symm
  have hP1 : PidB w1 b2 n (pdF G) := MapB.upP o2.byP u1 (fun e => o.ne e.symm)
  obtain ⟨w', e2, h2, t2⟩ := MapB.drop (w := w1.drew) int_key und_way2 (MapB.upP hP1 ((UpP.refl (fun _ => False) _).drew) (fun h => h)) hk.2 0
  have u2 : UpP (fun x => x = b2) w1 w' := (UpP.refl (fun x => x = b2) w1).drew.trans (turned_upP t2)
  have c1 : W2.cell? ⟨l, 1, none⟩ = some (.map (some b1)) := by rw [o2.row.cell]; rfl
  have c2 : w1.cell? ⟨l, 2, none⟩ = some (.map (some b2)) := by rw [(o2.row.mono u1 (fun e => o2.d1 e.symm)).cell]; rfl
  have q0 : W2.cell? ⟨x, 0, none⟩ = some (encStr s) := by rw [C2.cell]; rfl
  have q1 : w1.cell? ⟨x, 1, none⟩ = some (.int .i64 p) := by rw [(C2.mono u1 hb1).cell]; rfl
  have H : Hid (NmO w' l n b1 b2 (at1 F s none) (at1 G p none) ∧ Upd [b1, b2] w w') := by
    obtain ⟨g1, g2⟩ := o2.less hF h1 u1 h2 u2
    exact ⟨g1, (U2.more _).trans g2⟩
  clear o h1 t1 u1 hP1 h2 t2 u2 hk hF U2 C2 o2 hb1
  go_enter Tryz.func32, Tryz.ntmps32
  go_wp2_with fail
  rw [← hW2, ← hx]
  clear hW2 hx
  rename_i K1 hK1
  go_region
  clear e1 c1 q0
  go_wp2_with fail
  trace_state
  go_region
  go_wp2
  go_end0
  exact ⟨rfl, H.out⟩

end Go.Proofs.YtpojkmpimnnjiaaGreat
