/- Maps of ints to ints; cells stored one behind the other; a row of ints that may begin within its block. -/
import Derived.Test.YtpemnficdhjkhaaLkM
import Derived.Laws.IdiomCopy
namespace Go.Proofs.Ytpemnficdhjkhaa
open Go.RowKit Go.Maps

/-! ### maps of ints to ints -/
theorem und_times : Try.prog.underlying 44 = some (.map 3 3) := by kernel_rfl
theorem zero_int (w : World) : (zeroValue 3).run Try.prog w = .ok (.int .i64 0) w := by kernel_rfl
def intElem : Rd
  | .int .i64 x => some (.lit (.int .i64 x), [])
  | _ => none
theorem int_elem : Elem Int intElem (fun x => .int .i64 x) (fun x => .lit (.int .i64 x)) := by
  refine ⟨fun a => rfl, fun v a ps hv => ?_⟩
  unfold intElem at hv
  split at hv
  · simp at hv
    rw [hv.1]
  · cases hv
def TmB (w : World) (b n : Nat) (T : Int → Option Int) : Prop := MapB intElem (fun x : Int => .lit (.int .i64 x)) w b n T
/-- What a look into the map tells. -/
def tmAt (T : Int → Option Int) (k : Int) : Int := (T k).getD 0
theorem TmB.look {w : World} {b n : Nat} {T : Int → Option Int} (h : TmB w b n T) {k : Int} (hk : I64 k) : (Instr.lookup 44 (.map (some b)) (.int .i64 k) false).run Try.prog w = .ok (.int .i64 (tmAt T k)) w := by
  have := MapB.look int_elem und_times (zero_int w) (show intElem (.int .i64 0) = some (.lit (.int .i64 0), []) from rfl) (fun v ps hv => int_elem.inv v 0 ps hv) h hk
  rw [this]
  unfold tmAt
  cases T k <;> rfl
theorem TmB.look2 {w : World} {b n : Nat} {T : Int → Option Int} (h : TmB w b n T) {k : Int} (hk : I64 k) : (Instr.lookup 44 (.map (some b)) (.int .i64 k) true).run Try.prog w = .ok (.tuple #[.int .i64 (tmAt T k), .bool (T k).isSome]) w := by
  have := MapB.look2 int_elem und_times (zero_int w) (show intElem (.int .i64 0) = some (.lit (.int .i64 0), []) from rfl) (fun v ps hv => int_elem.inv v 0 ps hv) h hk
  rw [this]
  unfold tmAt
  cases T k <;> rfl
theorem TmB.put {w : World} {b n : Nat} {T : Int → Option Int} (h : TmB w b n T) (hn : n < maxLen) {k : Int} (hk : I64 k) (t : Int) :
    ∃ w', (Instr.mapUpdate 44 (.map (some b)) (.int .i64 k) (.int .i64 t)).run Try.prog w = .ok () w' ∧ TmB w' b (n + 1) (at1 T k (some t)) ∧ w.mapTurned w' b :=
  MapB.put int_elem und_times h hn hk t
theorem TmB.drop {w : World} {b n : Nat} {T : Int → Option Int} (h : TmB w b n T) {k : Int} (hk : I64 k) (ty : TypeId) :
    ∃ w', (Builtin.delete_ #[44, 3] ty #[.map (some b), .int .i64 k]).run Try.prog w = .ok (.tuple #[]) w' ∧ TmB w' b n (at1 T k none) ∧ w.mapTurned w' b :=
  MapB.drop und_times h hk ty

/-! ### cells stored -/
theorem Cl.sets {b : Nat} {T : TypeId} : ∀ (vs : List Value) (o : Nat) {w : World} {cur : Array Value}, Cl w b cur T →
    ∃ cur', Cl (w.setCells b o vs) b cur' T ∧ cur'.size = cur.size ∧ (∀ j, j < vs.length → o + j < cur.size → cur'[o + j]? = vs[j]?) ∧ ∀ k, (k < o ∨ o + vs.length ≤ k) → cur'[k]? = cur[k]?
  | [], o, w, cur, h => ⟨cur, h, rfl, fun j hj => absurd hj (by simp), fun _ _ => rfl⟩
  | v :: r, o, w, cur, h => by
    obtain ⟨cur', h1, h2, h3, h4⟩ := Cl.sets r (o + 1) (h.set o v)
    refine ⟨cur', h1, by rw [h2]; simp, fun j hj hs => ?_, fun k hk => ?_⟩
    · match j with
      | 0 =>
        rw [h4 (o + 0) (Or.inl (by omega))]
        simp only [Nat.add_zero] at hs ⊢
        simp [hs]
      | j + 1 =>
        have := h3 j (by simpa using hj) (by simp; omega)
        rw [show o + (j + 1) = o + 1 + j by omega, this]
        simp
    · simp only [List.length_cons] at hk
      rw [h4 k (by omega), Array.getElem?_setIfInBounds_ne (by omega)]
theorem upd_sets {S : List Nat} {a b : World} (h : Upd S a b) {blk : Nat} (hb : a.heap.size ≤ blk ∨ blk ∈ S) : ∀ (vs : List Value) (o : Nat), Upd S a (b.setCells blk o vs) := by
  intro vs
  induction vs generalizing b with
  | nil => exact fun o => h
  | cons v r ih => exact fun o => ih (h.setCell (p := ⟨blk, o, none⟩) hb v) (o + 1)
theorem heap_sets (b : Nat) (vs : List Value) : ∀ (o : Nat) (w : World), (w.setCells b o vs).heap.size = w.heap.size := by
  induction vs with
  | nil => exact fun _ _ => rfl
  | cons v r ih => exact fun o w => (ih (o + 1) _).trans (World.size_setCell _ _ _)

theorem UpP.cell {P : Nat → Prop} {w w' : World} (h : UpP P w w') {p : Addr} (hp : p.block < w.heap.size) (hn : ¬ P p.block) : w'.cell? p = w.cell? p := World.cell?_of_block (w := w) (h.block p.block hp hn)

/-! ### a row -/
/-- A row of ints, which may begin within its block gb. -/
def RowB (w : World) (v : Value) (xs : List Int) (gb : Option Nat) : Prop :=
  (v = .slice none 0 0 ∧ xs = [] ∧ gb = none) ∨
  ∃ b off cap cur, gb = some b ∧ v = .slice (some ⟨b, off, none⟩) xs.length cap ∧ Cl w b cur 3 ∧ off + cap ≤ cur.size ∧ xs.length ≤ cap ∧ cap ≤ 9223372036854775807 ∧ ∀ j, j < xs.length → cur[off + j]? = some (.int .i64 (xs.getD j 0))
theorem RowB.mono {P : Nat → Prop} {w w' : World} {v : Value} {xs : List Int} {gb : Option Nat} (h : RowB w v xs gb) (hu : UpP P w w') (hn : ∀ b, gb = some b → ¬ P b) : RowB w' v xs gb := by
  rcases h with h | ⟨b, off, cap, cur, h1, h2, h3, r⟩
  · exact Or.inl h
  · exact Or.inr ⟨b, off, cap, cur, h1, h2, h3.mono hu (hn b h1), r⟩
theorem RowB.upd {w w' : World} {v : Value} {xs : List Int} {gb : Option Nat} (h : RowB w v xs gb) (hu : Upd [] w w') : RowB w' v xs gb := h.mono (P := fun _ => False) hu.toN (fun _ _ h => h)
theorem RowB.lt {w : World} {v : Value} {xs : List Int} {gb : Option Nat} (h : RowB w v xs gb) {b : Nat} (hb : gb = some b) : b < w.heap.size := by
  rcases h with ⟨_, _, h⟩ | ⟨b', off, cap, cur, h1, h2, h3, r⟩
  · rw [h] at hb; cases hb
  · rw [h1] at hb; cases hb; exact h3.lt
theorem RowB.form {w : World} {v : Value} {xs : List Int} {gb : Option Nat} (h : RowB w v xs gb) : ∃ p c, v = .slice p xs.length c := by
  rcases h with ⟨h1, h2, _⟩ | ⟨b', off, cap, cur, h1, h2, _⟩
  · exact ⟨none, 0, by rw [h1, h2]; rfl⟩
  · exact ⟨_, _, h2⟩
theorem RowB.cell {w : World} {v : Value} {xs : List Int} {gb : Option Nat} (h : RowB w v xs gb) {k : Nat} (hk : k < xs.length) : ∃ b off cap, gb = some b ∧ v = .slice (some ⟨b, off, none⟩) xs.length cap ∧ w.cell? ⟨b, off + k, none⟩ = some (.int .i64 (xs.getD k 0)) := by
  rcases h with ⟨_, h2, _⟩ | ⟨b, off, cap, cur, h1, h2, h3, _, _, _, h4⟩
  · rw [h2] at hk; simp at hk
  · exact ⟨b, off, cap, h1, h2, by rw [h3.cell]; exact h4 k hk⟩

end Go.Proofs.Ytpemnficdhjkhaa
