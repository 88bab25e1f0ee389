/- Clocks: the object; made, New, Now, waits. -/
import Derived.Test.YtpemnficdhjkhaaCkN
namespace Go.Proofs.Ytpemnficdhjkhaa
open Go.RowKit Go.Maps

abbrev TF := Int → Option Int
/-- x is told ahead of y: by times, then by numbers. -/
def bef (T : TF) (x y : Int) : Prop := ∃ s t, T x = some s ∧ T y = some t ∧ (s < t ∨ s = t ∧ x < y)
theorem bef_irr {T : TF} {x : Int} : ¬ bef T x x := by
  rintro ⟨s, t, h1, h2, h3⟩
  rw [h1] at h2; cases h2
  omega
theorem bef_asym {T : TF} {x y : Int} (h : bef T x y) : ¬ bef T y x := by
  obtain ⟨s, t, h1, h2, h3⟩ := h
  rintro ⟨s', t', h4, h5, h6⟩
  rw [h1] at h5; cases h5
  rw [h2] at h4; cases h4
  omega
/-- A row in which all who wait stand, in order, is one. -/
theorem srt_one {T : TF} {xs ys : List Int} (h1 : xs.Pairwise (bef T)) (h2 : ys.Pairwise (bef T)) (h : ∀ x, x ∈ xs ↔ x ∈ ys) : xs = ys := by
  have n1 : xs.Nodup := h1.imp (fun {a b} h e => by subst e; exact bef_irr h)
  have n2 : ys.Nodup := h2.imp (fun {a b} h e => by subst e; exact bef_irr h)
  have hp : xs.Perm ys := (List.perm_ext_iff_of_nodup n1 n2).2 h
  exact hp.eq_of_pairwise (le := bef T) (fun a b _ _ h3 h4 => absurd h4 (bef_asym h3)) h1 h2

/-- The clock's cells, its map and its row. -/
structure CkR (w : World) (c n g : Nat) (v : Value) (gb : Option Nat) (now : Int) (T : TF) (xs : List Int) : Prop where
  row : Cl w c #[.pointer (some ⟨c, 0, none⟩), .int .i64 now, .map (some g), v] 46
  times : TmB w g n T
  cells : RowB w v xs gb
  len : xs.length ≤ n
  key : ∀ x ∈ xs, I64 x
structure CkO (w : World) (c n g : Nat) (v : Value) (gb : Option Nat) (now : Int) (T : TF) (xs : List Int) : Prop extends CkR w c n g v gb now T xs where
  now0 : 0 ≤ now
  now1 : now ≤ 1099511627776
  mem : ∀ x, x ∈ xs ↔ T x ≠ none
  srt : xs.Pairwise (bef T)
  rng : ∀ x t, T x = some t → 0 ≤ t ∧ t ≤ 2199023255552
/-- At c lies a clock at now, for which those wait whom T tells; all its blocks: P. -/
def Ck (w : World) (c n : Nat) (P : Nat → Prop) (now : Int) (T : TF) : Prop :=
  ∃ g v gb xs, CkO w c n g v gb now T xs ∧ ∀ x, P x ↔ (x = c ∨ x = g ∨ gb = some x)

variable {w w' : World} {c n g : Nat} {v : Value} {gb : Option Nat} {now : Int} {T : TF} {xs : List Int} {P Q : Nat → Prop}
theorem CkR.mono (o : CkR w c n g v gb now T xs) (hu : UpP Q w w') (hQ : ∀ x, (x = c ∨ x = g ∨ gb = some x) → ¬ Q x) : CkR w' c n g v gb now T xs :=
  ⟨o.row.mono hu (hQ c (by simp)), MapB.upP o.times hu (hQ g (by simp)), o.cells.mono hu (fun b hb => hQ b (by simp [hb])), o.len, o.key⟩
theorem CkR.upd (o : CkR w c n g v gb now T xs) (hu : Upd [] w w') : CkR w' c n g v gb now T xs := o.mono (Q := fun _ => False) hu.toN (fun _ _ h => h)
theorem CkO.mono (o : CkO w c n g v gb now T xs) (hu : UpP Q w w') (hQ : ∀ x, (x = c ∨ x = g ∨ gb = some x) → ¬ Q x) : CkO w' c n g v gb now T xs :=
  ⟨o.toCkR.mono hu hQ, o.now0, o.now1, o.mem, o.srt, o.rng⟩
theorem CkO.upd (o : CkO w c n g v gb now T xs) (hu : Upd [] w w') : CkO w' c n g v gb now T xs := o.mono (Q := fun _ => False) hu.toN (fun _ _ h => h)
theorem CkO.le (o : CkO w c n g v gb now T xs) {m : Nat} (hm : n ≤ m) : CkO w c m g v gb now T xs :=
  ⟨⟨o.row, MapB.le o.times hm, o.cells, Nat.le_trans o.len hm, o.key⟩, o.now0, o.now1, o.mem, o.srt, o.rng⟩
theorem CkR.bnd (o : CkR w c n g v gb now T xs) : ∀ x, (x = c ∨ x = g ∨ gb = some x) → x < w.heap.size := by
  rintro x (rfl | rfl | h)
  · exact o.row.lt
  · exact MapB.lt o.times
  · exact o.cells.lt h
theorem CkR.gne (o : CkR w c n g v gb now T xs) : g ≠ c := MapB.ne o.times o.row
theorem CkR.bne (o : CkR w c n g v gb now T xs) {b : Nat} (hb : gb = some b) : b ≠ c ∧ b ≠ g := by
  rcases o.cells with ⟨_, _, h⟩ | ⟨b', off, cap, cur, h1, h2, h3, r⟩
  · rw [h] at hb; cases hb
  · rw [h1] at hb; cases hb
    exact ⟨h3.ne o.row (by decide), (MapB.ne o.times h3).symm⟩
theorem Ck.mono (o : Ck w c n P now T) (hu : UpP Q w w') (hQ : ∀ x, P x → ¬ Q x) : Ck w' c n P now T := by
  obtain ⟨g, v, gb, xs, o, hP⟩ := o
  exact ⟨g, v, gb, xs, o.mono hu (fun x hx => hQ x ((hP x).2 hx)), hP⟩
theorem Ck.upd (o : Ck w c n P now T) (hu : Upd [] w w') : Ck w' c n P now T := o.mono (Q := fun _ => False) hu.toN (fun _ _ h => h)
theorem Ck.le (o : Ck w c n P now T) {m : Nat} (hm : n ≤ m) : Ck w c m P now T := by
  obtain ⟨g, v, gb, xs, o, hP⟩ := o
  exact ⟨g, v, gb, xs, o.le hm, hP⟩
theorem Ck.bnd (o : Ck w c n P now T) : ∀ x, P x → x < w.heap.size := by
  obtain ⟨g, v, gb, xs, o, hP⟩ := o
  exact fun x hx => o.toCkR.bnd x ((hP x).1 hx)
theorem Ck.nows (o : Ck w c n P now T) : 0 ≤ now ∧ now ≤ 1099511627776 := by
  obtain ⟨g, v, gb, xs, o, hP⟩ := o
  exact ⟨o.now0, o.now1⟩
theorem Ck.rng (o : Ck w c n P now T) : ∀ x t, T x = some t → 0 ≤ t ∧ t ≤ 2199023255552 := by
  obtain ⟨g, v, gb, xs, o, hP⟩ := o
  exact o.rng
theorem Ck.key (o : Ck w c n P now T) {x : Int} (hx : T x ≠ none) : I64 x := by
  obtain ⟨g, v, gb, xs, o, hP⟩ := o
  exact MapB.keys o.times hx

theorem und_pclock : Try.prog.underlying 23 = some (.pointer 46) := by kernel_rfl
theorem ptr_sameIn (w : World) (b o d : Nat) : (Op.equalIn (d + 1) 23 (.pointer (some ⟨b, o, none⟩)) (.pointer (some ⟨b, o, none⟩))).run Try.prog w = .ok true w := by
  simp [Op.equalIn, run_underlying und_pclock, sameAddr]
theorem ptr_nilIn (w : World) (b o d : Nat) : (Op.equalIn (d + 1) 23 (.pointer none) (.pointer (some ⟨b, o, none⟩))).run Try.prog w = .ok false w := by
  simp [Op.equalIn, run_underlying und_pclock]
theorem ptr_same (w : World) (b o : Nat) : (binOp .eql 23 (.pointer (some ⟨b, o, none⟩)) (.pointer (some ⟨b, o, none⟩))).run Try.prog w = .ok (.bool true) w := by
  simp only [binOp]
  simp [Op.equal, Op.maxDepth, ptr_sameIn w b o 9999]
theorem ptr_nil (w : World) (b o : Nat) : (binOp .eql 23 (.pointer none) (.pointer (some ⟨b, o, none⟩))).run Try.prog w = .ok (.bool false) w := by
  simp only [binOp]
  simp [Op.equal, Op.maxDepth, ptr_nilIn w b o 9999]

set_option maxRecDepth 10000 in
theorem made_ok (w : World) (b : Nat) (cs : Array Value) (h : Cl w b cs 46) (h0 : cs[0]? = some (.pointer (some ⟨b, 0, none⟩))) : Calls Try.prog 20 #[.pointer (some ⟨b, 0, none⟩)] w fun e w' => e = .returned (.bool true) ∧ w' = w := by
  have e0 : w.cell? ⟨b, 0, none⟩ = some (.pointer (some ⟨b, 0, none⟩)) := by rw [h.cell]; exact h0
  have e1 := ptr_same w b 0
  clear h h0
  go_enter Try.func20, Try.ntmps20
  go_wp2
  go_ret
  exact ⟨rfl, rfl⟩
theorem made_nil (w : World) : Calls Try.prog 20 #[.pointer none] w fun e w' => e = .returned (.bool false) ∧ w' = w := by
  go_enter Try.func20, Try.ntmps20
  go_wp2
  go_ret
  exact ⟨rfl, rfl⟩
theorem made_zero (w : World) (b : Nat) (e0 : w.cell? ⟨b, 0, none⟩ = some (.pointer none)) : Calls Try.prog 20 #[.pointer (some ⟨b, 0, none⟩)] w fun e w' => e = .returned (.bool false) ∧ w' = w := by
  have e1 := ptr_nil w b 0
  go_enter Try.func20, Try.ntmps20
  go_wp2
  go_ret
  exact ⟨rfl, rfl⟩
theorem CkR.made (o : CkR w c n g v gb now T xs) : Calls Try.prog 20 #[.pointer (some ⟨c, 0, none⟩)] w fun e w' => e = .returned (.bool true) ∧ w' = w := made_ok w c _ o.row rfl
theorem Ck.made (o : Ck w c n P now T) : Calls Try.prog 20 #[.pointer (some ⟨c, 0, none⟩)] w fun e w' => e = .returned (.bool true) ∧ w' = w := by
  obtain ⟨g, v, gb, xs, o, hP⟩ := o
  exact o.toCkR.made

set_option maxRecDepth 10000 in
theorem CkR.waits (o : CkR w c n g v gb now T xs) {x : Int} (hx : I64 x) : Calls Try.prog 25 #[.pointer (some ⟨c, 0, none⟩), .int .i64 x] w fun e w' => e = .returned (.bool (T x).isSome) ∧ w' = w := by
  have c2 : w.cell? ⟨c, 2, none⟩ = some (.map (some g)) := by rw [o.row.cell]; rfl
  have e1 := o.times.look2 hx
  clear o
  go_enter Try.func25, Try.ntmps25
  go_wp2
  go_ret
  exact ⟨rfl, rfl⟩
set_option maxRecDepth 10000 in
theorem now_any (o : Ck w c n P now T) : Calls Try.prog 7 #[.pointer (some ⟨c, 0, none⟩)] w fun e w' => e = .returned (.int .i64 now) ∧ w' = w := by
  have hmade := o.made
  obtain ⟨g, v, gb, xs, o, hP⟩ := o
  have c1 : w.cell? ⟨c, 1, none⟩ = some (.int .i64 now) := by rw [o.row.cell]; rfl
  clear o hP
  go_enter Try.func7, Try.ntmps7
  go_wp2_with fail
  refine Calls.mono hmade ?_
  rintro e w' ⟨rfl, rfl⟩
  go_wp2
  go_ret
  exact ⟨rfl, rfl⟩

set_option maxRecDepth 10000 in
theorem new_any (w : World) : Calls Try.prog 5 #[] w fun e w' => ∃ c, e = .returned (.pointer (some ⟨c, 0, none⟩)) ∧ Ck w' c 0 (fun x => w.heap.size ≤ x ∧ x < w'.heap.size) 0 (fun _ => none) ∧ Upd [] w w' := by
  have hmm := @run_makeMap Try.prog
  go_enter Try.func5, Try.ntmps5
  go_wp2
  go_ret
  obtain ⟨k, hk⟩ : ∃ k, k = w.heap.size := ⟨_, rfl⟩
  obtain ⟨w1, hw1⟩ : ∃ w1, w.alloc (.map #[] 0) = w1 := ⟨_, rfl⟩
  have s1 : w1.heap.size = k + 1 := by rw [← hw1, hk]; simp
  rw [hw1, ← hk]
  obtain ⟨w4, hw4⟩ : ∃ w4, w1.alloc (.cells #[.pointer (some ⟨k + 1, 0, none⟩), .int .i64 0, .map (some k), .slice none 0 0] 46) = w4 := ⟨_, rfl⟩
  have s4 : w4.heap.size = k + 2 := by rw [← hw4]; simp [s1]
  rw [hw4]
  have M2 : TmB w1 k 0 (fun _ => none) := by rw [← hw1]; exact MapB.new w k hk
  have R4 : Cl w4 (k + 1) #[.pointer (some ⟨k + 1, 0, none⟩), .int .i64 0, .map (some k), .slice none 0 0] 46 := by rw [← hw4]; exact Cl.new _ _ _ _ s1.symm
  have u14 : Upd [] w1 w4 := by rw [← hw4]; exact (Upd.refl [] w1).alloc _
  have u01 : Upd [] w w1 := by rw [← hw1]; exact (Upd.refl [] w).alloc _
  refine ⟨k + 1, rfl, ⟨k, .slice none 0 0, none, [], ⟨⟨R4, MapB.upP M2 (P := fun _ => False) u14.toN (fun h => h), Or.inl ⟨rfl, rfl, rfl⟩, by simp, fun x hx => by simp at hx⟩, by omega, by omega, fun x => by simp, List.Pairwise.nil, fun x t h => (nomatch h)⟩, fun x => ?_⟩, u01.trans u14⟩
  rw [s4]
  simp
  omega

end Go.Proofs.Ytpemnficdhjkhaa
