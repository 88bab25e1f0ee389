/- Names: Put. -/
import Derived.Test.YtpojkmpimnnjiaaGreatNmP
namespace Go.Proofs.YtpojkmpimnnjiaaGreat
open Go.RowKit Go.Maps

/-- What Put leaves. -/
theorem NmO.grow {w w1 w' : World} {l n b1 b2 : Nat} {F : NF} {G : PF} (o : NmO w l n b1 b2 F G) {s : BS} {p : Int} (hF : F s = none) (hG : G p = none) (h1 : StrB w1 b1 (n + 1) (at1 (nmF F) s (some (s, p)))) (u1 : UpP (fun x => x = b1) w w1) (h2 : PidB w' b2 (n + 1) (at1 (pdF G) p (some (s, p)))) (u2 : UpP (fun x => x = b2) w1 w') :
    NmO w' l (n + 1) b1 b2 (at1 F s (some p)) (at1 G p (some s)) ∧ Upd [b1, b2] w w' := by
  rw [nmF_put] at h1
  rw [pdF_put] at h2
  refine ⟨⟨(o.row.mono u1 (fun e => o.d1 e.symm)).mono u2 (fun e => o.d2 e.symm), MapB.upP h1 u2 (fun e => o.ne e), h2, o.ne, fun s' p' => ?_⟩, ?_⟩
  · unfold at1
    by_cases hs : s' = s
    · subst hs
      by_cases hp : p' = p
      · subst hp; simp
      · simp only [if_true, hp, if_false]
        constructor
        · intro h; cases h; exact absurd rfl hp
        · intro h
          have := (o.two s' p').2 h
          rw [hF] at this
          cases this
    · by_cases hp : p' = p
      · subst hp
        simp only [if_true, hs, if_false]
        constructor
        · intro h
          have := (o.two s' p').1 h
          rw [hG] at this
          cases this
        · intro h; cases h; exact absurd rfl hs
      · simp only [hs, hp, if_false]
        exact o.two s' p'
  · have u : UpP (fun x => x = b1 ∨ x = b2) w w' := (u1.mono (Q := fun x => x = b1 ∨ x = b2) (fun x hx => Or.inl hx)).trans (u2.mono (fun x hx => Or.inr hx))
    exact ⟨u.os, u.tape, u.output, u.size, fun k hk hn => u.block k hk (by simpa using hn)⟩

set_option maxHeartbeats 1000000 in
set_option maxRecDepth 10000 in
theorem put_old {w : World} {l n b1 b2 : Nat} {F : NF} {G : PF} (o : NmO w l n b1 b2 F G) {s : BS} (hs : okB s) {p : Int} (hp : I64 p) (h : ((F s).isNone && (G p).isNone) = false) :
    Calls Tryz.prog 12 #[.pointer (some ⟨l, 0, none⟩), encStr s, .int .i64 p] w fun e w' => e = .returned (.bool false) ∧ Upd [] w w' := by
  have hm := o.made
  have c1 : w.cell? ⟨l, 1, none⟩ = some (.map (some b1)) := by rw [o.row.cell]; rfl
  have h1 := has1_any o hs
  have O : Hid (NmO w l n b1 b2 F G) := o
  have HP : Hid (I64 p) := hp
  cases hF : F s with
  | some q =>
    rw [hF] at h1
    clear h hF o hp
    go_enter Tryz.func12, Tryz.ntmps12
    go_wp2_with fail
    refine Calls.mono hm ?_
    rintro e w' ⟨rfl, rfl⟩
    clear hm
    go_wp2_with fail
    refine Calls.mono h1 ?_
    rintro e w2 ⟨rfl, hu⟩
    have U : Hid (Upd [] w' w2) := hu
    clear h1 hu
    go_wp2_with fail
    go_ret
    exact ⟨rfl, U.out⟩
  | none =>
    rw [hF] at h1
    have hG : (G p).isSome = true := by
      rw [hF] at h
      cases hg : G p with
      | none => rw [hg] at h; cases h
      | some _ => rfl
    have H2 : Hid (∀ W, Upd [] w W → Calls Tryz.prog 30 #[.map (some b2), .int .i64 p] W fun e w' => e = .returned (.bool true) ∧ Upd [] W w') := fun W hu => by
      have := has2_any (o.upd hu) hp
      rwa [hG] at this
    clear h hF o hG
    go_enter Tryz.func12, Tryz.ntmps12
    go_wp2_with fail
    refine Calls.mono hm ?_
    rintro e w' ⟨rfl, rfl⟩
    clear hm
    go_wp2_with fail
    refine Calls.mono h1 ?_
    rintro e w2 ⟨rfl, hu⟩
    have U : Hid (Upd [] w' w2) := hu
    have c2 : w2.cell? ⟨l, 2, none⟩ = some (.map (some b2)) := by rw [(O.out.upd hu).row.cell]; rfl
    clear h1 hu
    go_wp2_with fail
    refine Calls.mono (H2.out _ U.out) ?_
    rintro e w3 ⟨rfl, hu⟩
    have U3 : Hid (Upd [] w' w3) := U.out.trans hu
    clear hu
    go_wp2_with fail
    go_ret
    exact ⟨rfl, U3.out⟩

set_option maxHeartbeats 2000000 in
set_option maxRecDepth 10000 in
theorem put_new {w : World} {l n b1 b2 : Nat} {F : NF} {G : PF} (o : NmO w l n b1 b2 F G) (hn : n < 1000000000) {s : BS} (hs : s.length ≤ 1000000000) {p : Int} (hp : I64 p) (hF : F s = none) (hG : G p = none) :
    Calls Tryz.prog 12 #[.pointer (some ⟨l, 0, none⟩), encStr s, .int .i64 p] w fun e w' => e = .returned (.bool true) ∧ NmO w' l (n + 1) b1 b2 (at1 F s (some p)) (at1 G p (some s)) ∧ Upd [b1, b2] w w' := by
  have hs2 : okB s := by show _ ≤ maxLen; unfold maxLen; omega
  have hm := o.made
  have c1 : w.cell? ⟨l, 1, none⟩ = some (.map (some b1)) := by rw [o.row.cell]; rfl
  have h1 := has1_any o hs2
  rw [hF] at h1
  have O : Hid (NmO w l n b1 b2 F G) := o
  have HP : Hid (I64 p ∧ s.length ≤ 1000000000 ∧ okB s ∧ n < maxLen) := ⟨hp, hs, hs2, by unfold maxLen; omega⟩
  have HFG : Hid (F s = none ∧ G p = none) := ⟨hF, hG⟩
  have H2 : Hid (∀ W, Upd [] w W → Calls Tryz.prog 30 #[.map (some b2), .int .i64 p] W fun e w' => e = .returned (.bool false) ∧ Upd [] W w') := fun W hu => by
    have := has2_any (o.upd hu) hp
    rwa [hG] at this
  clear hF hG o hp hs hs2 hn
  go_enter Tryz.func12, Tryz.ntmps12
  go_wp2_with fail
  refine Calls.mono hm ?_
  rintro e w' ⟨rfl, rfl⟩
  clear hm
  go_wp2_with fail
  refine Calls.mono h1 ?_
  rintro e w2 ⟨rfl, hu⟩
  have U : Hid (Upd [] w' w2) := hu
  have c2 : w2.cell? ⟨l, 2, none⟩ = some (.map (some b2)) := by rw [(O.out.upd hu).row.cell]; rfl
  clear h1 hu
  go_wp2_with fail
  refine Calls.mono (H2.out _ U.out) ?_
  rintro e w3 ⟨rfl, hu⟩
  have U3 : Hid (Upd [] w' w3) := U.out.trans hu
  clear hu H2 U c1 c2
  go_wp2_with fail
  refine Calls.mono (clone_any s HP.out.2.1 w3) ?_
  rintro e w4 ⟨rfl, hu⟩
  have U4 : Hid (Upd [] w' w4) := U3.out.trans hu
  clear hu U3
  obtain ⟨W5, hW5⟩ : ∃ W5, W5 = w4.alloc (.cells #[encStr s, .int .i64 p] 42) := ⟨_, rfl⟩
  obtain ⟨x, hx⟩ : ∃ x, x = w4.heap.size := ⟨_, rfl⟩
  have U5 : Hid (Upd [] w' W5) := by rw [hW5]; exact U4.out.alloc _
  have C5 : Cl W5 x #[encStr s, .int .i64 p] 42 := by rw [hW5]; exact Cl.new _ _ _ _ hx
  have o5 := O.out.upd U5.out
  obtain ⟨w6, e1, h1, t1⟩ := MapB.put (w := W5.drew) str_key und_way1 (MapB.upP o5.byN ((UpP.refl (fun _ => False) _).drew) (fun h => h)) HP.out.2.2.2 HP.out.2.2.1 (s, p)
  have u1 : UpP (fun x => x = b1) W5 w6 := (UpP.refl (fun x => x = b1) W5).drew.trans (turned_upP t1)
  have hb1 : x ≠ b1 := fun e => MapB.ne o5.byN C5 e.symm
  have hP1 : PidB w6 b2 n (pdF G) := MapB.upP o5.byP u1 (fun e => o5.ne e.symm)
  obtain ⟨w7, e2, h2, t2⟩ := MapB.put (w := w6.drew) int_key und_way2 (MapB.upP hP1 ((UpP.refl (fun _ => False) _).drew) (fun h => h)) HP.out.2.2.2 HP.out.1 (s, p)
  have u2 : UpP (fun x => x = b2) w6 w7 := (UpP.refl (fun x => x = b2) w6).drew.trans (turned_upP t2)
  have c1 : W5.cell? ⟨l, 1, none⟩ = some (.map (some b1)) := by rw [o5.row.cell]; rfl
  have c2 : w6.cell? ⟨l, 2, none⟩ = some (.map (some b2)) := by rw [(o5.row.mono u1 (fun e => o5.d1 e.symm)).cell]; rfl
  have q0 : W5.cell? ⟨x, 0, none⟩ = some (encStr s) := by rw [C5.cell]; rfl
  have q1 : W5.cell? ⟨x, 1, none⟩ = some (.int .i64 p) := by rw [C5.cell]; rfl
  have r0 : w6.cell? ⟨x, 0, none⟩ = some (encStr s) := by rw [(C5.mono u1 hb1).cell]; rfl
  have r1 : w6.cell? ⟨x, 1, none⟩ = some (.int .i64 p) := by rw [(C5.mono u1 hb1).cell]; rfl
  have H : Hid (NmO w7 l (n + 1) b1 b2 (at1 F s (some p)) (at1 G p (some s)) ∧ Upd [b1, b2] w' w7) := by
    obtain ⟨g1, g2⟩ := o5.grow HFG.out.1 HFG.out.2 h1 u1 h2 u2
    exact ⟨g1, (U5.out.more _).trans g2⟩
  clear h1 t1 u1 hP1 h2 t2 u2 C5 o5 hb1 U4 U5 O HP HFG
  go_wp2_with fail
  rw [← hW5, ← hx]
  clear hW5 hx
  rename_i K1 hK1
  go_region
  clear e1 c1 q0 q1
  go_wp2_with fail
  go_region
  go_wp2_with fail
  go_ret
  exact ⟨rfl, H.out⟩

theorem put_any {w : World} {l n b1 b2 : Nat} {F : NF} {G : PF} (o : NmO w l n b1 b2 F G) (hn : n < 1000000000) {s : BS} (hs : s.length ≤ 1000000000) {p : Int} (hp : I64 p) :
    Calls Tryz.prog 12 #[.pointer (some ⟨l, 0, none⟩), encStr s, .int .i64 p] w fun e w' => e = .returned (.bool ((F s).isNone && (G p).isNone)) ∧ NmO w' l (n + 1) b1 b2 (if (F s).isNone && (G p).isNone then at1 F s (some p) else F) (if (F s).isNone && (G p).isNone then at1 G p (some s) else G) ∧ Upd [b1, b2] w w' := by
  cases h : ((F s).isNone && (G p).isNone) with
  | true =>
    rw [Bool.and_eq_true, Option.isNone_iff_eq_none, Option.isNone_iff_eq_none] at h
    simpa using put_new o hn hs hp h.1 h.2
  | false =>
    refine (put_old o (by show _ ≤ maxLen; unfold maxLen; omega) hp h).mono ?_
    rintro e w' ⟨rfl, hu⟩
    exact ⟨rfl, (o.upd hu).le (Nat.le_succ _), hu.more _⟩

end Go.Proofs.YtpojkmpimnnjiaaGreat
