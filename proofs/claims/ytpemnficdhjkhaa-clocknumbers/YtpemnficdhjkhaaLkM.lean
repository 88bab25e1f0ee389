/- Maps keyed by ints, as functions. -/
import Derived.Test.YtpemnficdhjkhaaLkA
import Derived.Maps.OwnSet
import Derived.Lib.SlKeysI
namespace Go.Proofs.Ytpemnficdhjkhaa
open Go.RowKit Go.Maps

abbrev lk (x : Int) : Lit := .int .i64 x
/-- An int of 64 bits. -/
def I64 (x : Int) : Prop := (Lit.int .i64 x).wf = true
theorem und_int : Try.prog.underlying 3 = some (.int .i64) := by kernel_rfl
theorem keyed : Keyed Try.prog 3 := int_keyed und_int
theorem key_int {x : Int} (h : I64 x) : keyOf Try.prog 3 (.int .i64 x) = some (lk x) := keyOf_int_mk und_int h
theorem lk_key (x : Int) : WideAt.IsKeyLit (lk x) := trivial
theorem lk_ne {x y : Int} (h : x ≠ y) : lk x ≠ lk y := fun e => h (by simpa using e)

abbrev Rd := Value → Option (DataW Unit × List MemPlace)
abbrev OM (R : Rd) (w : World) (b n : Nat) (D : DataW Unit) : Prop := w.ownsMap (H := Unit) Try.prog 3 R b n D

/-- Another value at one place. -/
def at1 {α : Type} (f : Int → α) (k : Int) (a : α) : Int → α := fun x => if x = k then a else f x
theorem at1_same {α : Type} (f : Int → α) (k : Int) (a : α) : at1 f k a k = a := by simp [at1]
theorem at1_other {α : Type} (f : Int → α) {k x : Int} (a : α) (h : x ≠ k) : at1 f k a x = f x := by simp [at1, h]

/-- What a map of ints to whatever is: R reads an element's value, val writes it, enc is its datum. -/
structure Elem (α : Type) (R : Rd) (val : α → Value) (en : α → DataW Unit) : Prop where
  enc : ∀ a, R (val a) = some (en a, [])
  inv : ∀ v a ps, R v = some (en a, ps) → v = val a

def MapB {α : Type} (R : Rd) (enc : α → DataW Unit) (w : World) (b n : Nat) (f : Int → Option α) : Prop :=
  ∃ D, OM R w b n D ∧ (∀ x, has D (lk x) = (f x).isSome) ∧ ∀ x a z, f x = some a → D.atKey (lk x) z = enc a

variable {α : Type} {R : Rd} {val : α → Value} {enc : α → DataW Unit} {w : World} {b n : Nat} {f : Int → Option α}

theorem MapB.lt (h : MapB R enc w b n f) : b < w.heap.size := by
  obtain ⟨D, h, _⟩ := h
  exact h.lt
theorem MapB.le (h : MapB R enc w b n f) {m : Nat} (hm : n ≤ m) : MapB R enc w b m f := by
  obtain ⟨D, h, r⟩ := h
  exact ⟨D, h.mono hm, r⟩
theorem MapB.upP {P : Nat → Prop} {w' : World} (h : MapB R enc w b n f) (hu : UpP P w w') (hn : ¬ P b) : MapB R enc w' b n f := by
  obtain ⟨D, ⟨es, clock, hb, r1⟩, r⟩ := h
  exact ⟨D, ⟨es, clock, (hu.block b (Array.getElem?_eq_some_iff.1 hb).1 hn).trans hb, r1⟩, r⟩
theorem MapB.new (w : World) (g : Nat) (h : g = w.heap.size) : MapB R enc (w.alloc (.map #[] 0)) g 0 (fun _ => none) := by
  subst h
  exact ⟨_, World.ownsMap_made _ _ _ _, fun x => rfl, fun x a z hx => by cases hx⟩
/-- A map that lies at a place is no block of cells. -/
theorem MapB.ne (h : MapB R enc w b n f) {g : Nat} {cs : Array Value} {T : TypeId} (hg : Cl w g cs T) : b ≠ g := fun e => by
  obtain ⟨D, ⟨es, clock, hb, _⟩, _⟩ := h
  subst e
  rw [hg] at hb
  cases hb

theorem MapB.look (E : Elem α R val enc) {t e : TypeId} (ht : Try.prog.underlying t = some (.map 3 e)) {z : Value} {zd : DataW Unit} {zp : List MemPlace} (hz : (zeroValue e).run Try.prog w = .ok z w) (hzd : R z = some (zd, zp)) (hzi : ∀ v ps, R v = some (zd, ps) → v = z)
    (h : MapB R enc w b n f) {k : Int} (hk : I64 k) : (Instr.lookup t (.map (some b)) (.int .i64 k) false).run Try.prog w = .ok (match f k with | some a => val a | none => z) w := by
  obtain ⟨D, hD, hh, ha⟩ := h
  obtain ⟨v, ps, hrun, hv⟩ := hD.lookup keyed ht hz hzd (key_int hk)
  rw [hrun]
  cases hf : f k with
  | none =>
    have := hh k
    rw [hf] at this
    rw [atKey_of_not_has (by simpa using this)] at hv
    rw [hzi v ps hv]
  | some a =>
    rw [ha k a zd hf] at hv
    rw [E.inv v a ps hv]
theorem MapB.look2 (E : Elem α R val enc) {t e : TypeId} (ht : Try.prog.underlying t = some (.map 3 e)) {z : Value} {zd : DataW Unit} {zp : List MemPlace} (hz : (zeroValue e).run Try.prog w = .ok z w) (hzd : R z = some (zd, zp)) (hzi : ∀ v ps, R v = some (zd, ps) → v = z)
    (h : MapB R enc w b n f) {k : Int} (hk : I64 k) : (Instr.lookup t (.map (some b)) (.int .i64 k) true).run Try.prog w = .ok (.tuple #[(match f k with | some a => val a | none => z), .bool (f k).isSome]) w := by
  obtain ⟨D, hD, hh, ha⟩ := h
  obtain ⟨v, ps, hrun, hv⟩ := hD.look_ok keyed ht hz hzd (key_int hk)
  rw [hrun, hh k]
  cases hf : f k with
  | none =>
    have := hh k
    rw [hf] at this
    rw [atKey_of_not_has (by simpa using this)] at hv
    rw [hzi v ps hv]
  | some a =>
    rw [ha k a zd hf] at hv
    rw [E.inv v a ps hv]
theorem MapB.put (E : Elem α R val enc) {t e : TypeId} (ht : Try.prog.underlying t = some (.map 3 e)) (h : MapB R enc w b n f) (hn : n < maxLen) {k : Int} (hk : I64 k) (a : α) :
    ∃ w', (Instr.mapUpdate t (.map (some b)) (.int .i64 k) (val a)).run Try.prog w = .ok () w' ∧ MapB R enc w' b (n + 1) (at1 f k (some a)) ∧ w.mapTurned w' b := by
  obtain ⟨D, hD, hh, ha⟩ := h
  obtain ⟨w', hrun, h1, h2⟩ := hD.store keyed ht hn (key_int hk) (E.enc a)
  refine ⟨w', hrun, ⟨_, h1, fun x => ?_, fun x c z hx => ?_⟩, h2⟩
  · by_cases hx : x = k
    · subst hx; rw [has_put_same hD.isMap (lk_key x), at1_same]; rfl
    · rw [has_put_other (lk_ne hx), at1_other _ _ hx, hh]
  · by_cases hxk : x = k
    · subst hxk; rw [at1_same] at hx; cases hx; rw [atKey_put_same hD.isMap (lk_key x)]
    · rw [at1_other _ _ hxk] at hx; rw [atKey_put_other (lk_ne hxk)]; exact ha x c z hx
theorem MapB.drop {t e : TypeId} (ht : Try.prog.underlying t = some (.map 3 e)) (h : MapB R enc w b n f) {k : Int} (hk : I64 k) (ty : TypeId) :
    ∃ w', (Builtin.delete_ #[t, 3] ty #[.map (some b), .int .i64 k]).run Try.prog w = .ok (.tuple #[]) w' ∧ MapB R enc w' b n (at1 f k none) ∧ w.mapTurned w' b := by
  obtain ⟨D, hD, hh, ha⟩ := h
  obtain ⟨w', hrun, h1, h2⟩ := hD.drop keyed ht (key_int hk) ty
  refine ⟨w', hrun, ⟨_, h1, fun x => ?_, fun x c z hx => ?_⟩, h2⟩
  · by_cases hx : x = k
    · subst hx; rw [has_del_same, at1_same]; rfl
    · rw [has_del_other (lk_ne hx), at1_other _ _ hx, hh]
  · by_cases hxk : x = k
    · subst hxk; rw [at1_same] at hx; cases hx
    · rw [at1_other _ _ hxk] at hx; rw [atKey_del_other (lk_ne hxk)]; exact ha x c z hx
theorem MapB.keys (h : MapB R enc w b n f) {x : Int} (hx : f x ≠ none) : I64 x := by
  obtain ⟨D, hD, hh, _⟩ := h
  obtain ⟨es, rfl, hes⟩ := hD.keysOf
  have h1 : has (.map es) (lk x) = true := by rw [hh]; cases hf : f x <;> simp_all
  rw [has_eq, List.any_eq_true] at h1
  obtain ⟨p, hp, hs⟩ := h1
  obtain ⟨v, hv⟩ := hes p hp
  obtain ⟨y, _, e, hw⟩ := Maps.keyOf_i64 und_int hv
  have := WideAt.sameKey_eq hs
  rw [e] at this
  have e2 : y = x := by simpa using this
  exact e2 ▸ hw
theorem size_zero {D : DataW Unit} (hD : IsMap D) (hk : ∀ es, D = .map es → ∀ p ∈ es, ∃ x, p.1 = lk x) : (size D = 0 ↔ ∀ x, has D (lk x) = false) := by
  obtain ⟨es, rfl⟩ := hD
  constructor
  · intro h x
    have : es = [] := List.eq_nil_of_length_eq_zero h
    subst this; rfl
  · intro h
    cases es with
    | nil => rfl
    | cons p r =>
      obtain ⟨x, hx⟩ := hk _ rfl p (by simp)
      have := h x
      rw [has_eq, List.any_cons, hx, WideAt.sameKey_self (lk_key x)] at this
      simp at this
theorem MapB.len {t e : TypeId} (ht : Try.prog.underlying t = some (.map 3 e)) (h : MapB R enc w b n f) (ty : TypeId) :
    ∃ z : Nat, (Builtin.len_ #[t] ty #[.map (some b)]).run Try.prog w = .ok (.int .i64 z) w ∧ z ≤ n ∧ (z = 0 ↔ ∀ x, f x = none) := by
  obtain ⟨D, hD, hh, _⟩ := h
  refine ⟨size D, hD.len ht ty, hD.size_le, ?_⟩
  rw [size_zero hD.isMap]
  · constructor
    · intro h x
      have := hh x
      rw [h x] at this
      cases hf : f x
      · rfl
      · rw [hf] at this; simp at this
    · intro h x
      rw [hh x, h x]; rfl
  · rintro es rfl p hp
    obtain ⟨es', e, hes⟩ := hD.keysOf
    cases e
    obtain ⟨v, hv⟩ := hes p hp
    obtain ⟨y, _, e, _⟩ := Maps.keyOf_i64 und_int hv
    exact ⟨y, e⟩
/-- The keys of the datum, whatever order they come in. -/
theorem MapB.perm {D : DataW Unit} (hD : OM R w b n D) (hh : ∀ x, has D (lk x) = (f x).isSome) {ss : List Int} (hp : ss.Perm (intKeys D)) : ss.Nodup ∧ (∀ x, x ∈ ss ↔ f x ≠ none) ∧ ss.length ≤ n := by
  obtain ⟨es, rfl, hpw⟩ := hD.tidy keyed
  have hk : ∀ p ∈ es, ∃ x, p.1 = lk x := by
    intro p hp
    obtain ⟨es', e, hes⟩ := hD.keysOf
    cases e
    obtain ⟨v, hv⟩ := hes p hp
    obtain ⟨y, _, e, _⟩ := Maps.keyOf_i64 und_int hv
    exact ⟨y, e⟩
  have hnd : (intKeys (.map es)).Nodup := by
    show (es.map fun p => intOf p.1).Nodup
    refine List.pairwise_map.2 (hpw.imp_of_mem fun {p q} hp' hq' hne e => hne ?_)
    obtain ⟨a, ha⟩ := hk p hp'
    obtain ⟨b, hb⟩ := hk q hq'
    rw [ha, hb] at e ⊢
    exact congrArg _ e
  refine ⟨hp.nodup_iff.2 hnd, fun x => ?_, ?_⟩
  · rw [hp.mem_iff]
    have : (x ∈ intKeys (.map es)) ↔ has (.map es) (lk x) = true := by
      show (x ∈ es.map fun p => intOf p.1) ↔ _
      rw [List.mem_map, has_eq, List.any_eq_true]
      constructor
      · rintro ⟨p, hp', rfl⟩
        obtain ⟨a, ha⟩ := hk p hp'
        exact ⟨p, hp', by rw [ha]; simp [Lit.sameKey, intOf]⟩
      · rintro ⟨p, hp', hs⟩
        obtain ⟨a, ha⟩ := hk p hp'
        rw [ha] at hs
        exact ⟨p, hp', by rw [ha]; simpa [Lit.sameKey, intOf] using hs⟩
    rw [this, hh x]
    cases f x <;> simp
  · have e1 : ss.length = size (DataW.map es) := by rw [hp.length_eq]; simp [intKeys, size]
    rw [e1]; exact hD.size_le

/-! ### a set of ints -/
theorem unit_elem : Elem Unit unitElem (fun _ => .agg #[]) (fun _ => .agg []) := ⟨fun _ => unitElem_mk, fun _v _ _ps hv => (unitElem_inv hv).1⟩
def setF (s : Int → Bool) : Int → Option Unit := fun x => if s x then some () else none
def SetB (w : World) (b n : Nat) (s : Int → Bool) : Prop := MapB unitElem (fun _ : Unit => .agg []) w b n (setF s)
theorem setF_some (s : Int → Bool) (x : Int) : (setF s x).isSome = s x := by unfold setF; cases s x <;> rfl
theorem setF_none (s : Int → Bool) (x : Int) : setF s x = none ↔ s x = false := by unfold setF; cases s x <;> simp
theorem setF_put (s : Int → Bool) (k : Int) : at1 (setF s) k (some ()) = setF (at1 s k true) := by
  funext x; unfold setF at1; by_cases hx : x = k <;> simp [hx]
theorem setF_drop (s : Int → Bool) (k : Int) : at1 (setF s) k none = setF (at1 s k false) := by
  funext x; unfold setF at1; by_cases hx : x = k <;> simp [hx]
theorem SetB.keys {s : Int → Bool} (h : SetB w b n s) {x : Int} (hx : s x = true) : I64 x := MapB.keys h (fun e => by rw [setF_none, hx] at e; cases e)

/-! ### a map of ints to sets: the element is read as its block's number -/
def setElem : Rd
  | .map (some k) => some (.lit (.int .i64 k), [])
  | .map none => some (.lit (.int .i64 (-1)), [])
  | _ => none
theorem set_elem : Elem Nat setElem (fun k => .map (some k)) (fun k => .lit (.int .i64 k)) := by
  refine ⟨fun a => rfl, fun v a ps hv => ?_⟩
  unfold setElem at hv
  split at hv
  · rename_i k
    simp at hv
    obtain rfl : k = a := by omega
    rfl
  · simp at hv
  · cases hv
theorem set_elem_none (v : Value) (ps : List MemPlace) (hv : setElem v = some (.lit (.int .i64 (-1)), ps)) : v = .map none := by
  unfold setElem at hv
  split at hv
  · simp at hv
  · rfl
  · cases hv
def OutB (w : World) (b n : Nat) (f : Int → Option Nat) : Prop := MapB setElem (fun k : Nat => .lit (.int .i64 k)) w b n f
/-! ### a map of ints to monitors -/
abbrev monV (r a b : Int) : Value := .agg #[.int .i64 r, .int .i64 a, .int .i64 b]
abbrev monD (r a b : Int) : DataW Unit := .agg [.lit (lk r), .lit (lk a), .lit (lk b)]
def monElem : Rd
  | .agg cs => match cs.toList with
    | [.int .i64 r, .int .i64 a, .int .i64 b] => some (monD r a b, [])
    | _ => none
  | _ => none
theorem monElem_inv {v : Value} {z : DataW Unit × List MemPlace} (h : monElem v = some z) : ∃ r a b, v = monV r a b ∧ z = (monD r a b, []) := by
  unfold monElem at h
  split at h
  · rename_i cs
    split at h
    · rename_i r a b hcs
      cases h
      exact ⟨r, a, b, by rw [show cs = #[.int .i64 r, .int .i64 a, .int .i64 b] from Array.toList_inj.1 hcs], rfl⟩
    · cases h
  · cases h
abbrev Mon := Int × Int × Int
theorem mon_elem : Elem Mon monElem (fun m => monV m.1 m.2.1 m.2.2) (fun m => monD m.1 m.2.1 m.2.2) := by
  refine ⟨fun a => rfl, fun v a ps hv => ?_⟩
  obtain ⟨r, x, y, rfl, e⟩ := monElem_inv hv
  obtain ⟨a1, a2, a3⟩ := a
  simp at e
  obtain ⟨⟨rfl, rfl, rfl⟩, _⟩ := e
  rfl
theorem mon_elem_zero (v : Value) (ps : List MemPlace) (hv : monElem v = some (monD 0 0 0, ps)) : v = monV 0 0 0 := mon_elem.inv v (0, 0, 0) ps hv
def MonB (w : World) (b n : Nat) (f : Int → Option Mon) : Prop := MapB monElem (fun m : Mon => monD m.1 m.2.1 m.2.2) w b n f
def monAt (o : Option Mon) : Value := match o with | some m => monV m.1 m.2.1 m.2.2 | none => monV 0 0 0
theorem turned_upP {w w' : World} {b : Nat} (h : w.mapTurned w' b) : UpP (fun x => x = b) w w' := by
  have hg := h.grown
  exact ⟨hg.os, hg.tape, hg.output, hg.size, fun k hk hn => hg.block k hk (fun e => hn (by cases e; rfl))⟩
theorem turned_size {w w' : World} {b : Nat} (h : w.mapTurned w' b) : w'.heap.size = w.heap.size := by
  obtain ⟨es, c, es', c', hb, rfl⟩ := h
  simp [ChangeMaps.setBlock]

end Go.Proofs.Ytpemnficdhjkhaa
