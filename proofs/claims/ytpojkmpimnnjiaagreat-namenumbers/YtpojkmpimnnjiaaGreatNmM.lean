/- Maps keyed by texts, or by ints, as functions. -/
import Derived.Test.YtpojkmpimnnjiaaGreatNmA
import Derived.Maps.OwnSet
import Derived.Lib.SlKeysI
import Derived.Sort.KeysCollected
namespace Go.Proofs.YtpojkmpimnnjiaaGreat
open Go.RowKit Go.Maps

abbrev BS := List UInt8
abbrev lk (x : Int) : Lit := .int .i64 x
/-- An int of 64 bits. -/
def I64 (x : Int) : Prop := (Lit.int .i64 x).wf = true
theorem und_int : Tryz.prog.underlying 3 = some (.int .i64) := by kernel_rfl
theorem und_str : Tryz.prog.underlying 9 = some .string := by kernel_rfl
theorem und_way1 : Tryz.prog.underlying 48 = some (.map 9 42) := by kernel_rfl
theorem und_way2 : Tryz.prog.underlying 50 = some (.map 3 42) := by kernel_rfl
theorem zero_named (w : World) : (zeroValue 42).run Tryz.prog w = .ok (.agg #[.string ⟨#[]⟩, .int .i64 0]) w := by kernel_rfl

/-- A key's type: how its keys are said. -/
structure KeyT (κ : Type) (T : TypeId) (kv : κ → Value) (kl : κ → Lit) (ok : κ → Prop) : Prop where
  keyed : Keyed Tryz.prog T
  key : ∀ {k}, ok k → keyOf Tryz.prog T (kv k) = some (kl k)
  lit : ∀ k, WideAt.IsKeyLit (kl k)
  inj : ∀ {x y}, x ≠ y → kl x ≠ kl y
  inv : ∀ {v l}, keyOf Tryz.prog T v = some l → ∃ x, v = kv x ∧ l = kl x ∧ ok x

abbrev intV (x : Int) : Value := .int .i64 x
abbrev strL (x : BS) : Lit := .string x
abbrev okB (x : BS) : Prop := x.length ≤ maxLen
theorem int_key : KeyT Int 3 intV lk I64 :=
  ⟨int_keyed und_int, fun h => keyOf_int_mk und_int h, fun _ => trivial, fun h e => h (by simpa using e), fun h => by obtain ⟨x, h1, h2, h3⟩ := Maps.keyOf_i64 und_int h; exact ⟨x, h1, h2, h3⟩⟩
theorem str_key : KeyT BS 9 encStr strL okB :=
  ⟨string_keyed und_str, fun {k} h => by
      have := WideMaps.keyOf_string_mk (P := Tryz.prog) und_str (s := ⟨k.toArray⟩) (show k.toArray.size ≤ maxLen by simpa using h)
      simpa using this, fun _ => trivial, fun h e => h (by simpa using e), fun h => by obtain ⟨x, h1, h2, h3⟩ := Maps.keyOf_str und_str h; exact ⟨x, h1, h2, h3⟩⟩

abbrev Rd := Value → Option (DataW Unit × List MemPlace)
/-- Another value at one place. -/
def at1 {κ α : Type} [DecidableEq κ] (f : κ → α) (k : κ) (a : α) : κ → α := fun x => if x = k then a else f x
theorem at1_same {κ α : Type} [DecidableEq κ] (f : κ → α) (k : κ) (a : α) : at1 f k a k = a := by simp [at1]
theorem at1_other {κ α : Type} [DecidableEq κ] (f : κ → α) {k x : κ} (a : α) (h : x ≠ k) : at1 f k a x = f x := by simp [at1, h]

/-- A name with its process. -/
abbrev Nd := BS × Int
abbrev namV (m : Nd) : Value := .agg #[encStr m.1, .int .i64 m.2]
abbrev namD (m : Nd) : DataW Unit := .agg [.lit (.string m.1), .lit (lk m.2)]
def namElem : Rd
  | .agg cs => match cs.toList with
    | [.string s, .int .i64 p] => some (.agg [.lit (.string s.data.toList), .lit (lk p)], [])
    | _ => none
  | _ => none
theorem namElem_mk (m : Nd) : namElem (namV m) = some (namD m, []) := by
  simp [namElem, namD]
theorem namElem_inv {v : Value} {z : DataW Unit × List MemPlace} (h : namElem v = some z) : ∃ m : Nd, v = namV m ∧ z = (namD m, []) := by
  unfold namElem at h
  split at h
  · rename_i cs
    split at h
    · rename_i s p hcs
      cases h
      exact ⟨(s.data.toList, p), by rw [show cs = #[.string s, .int .i64 p] from Array.toList_inj.1 hcs], rfl⟩
    · cases h
  · cases h
theorem namD_inj {a b : Nd} (h : namD a = namD b) : a = b := by
  obtain ⟨a1, a2⟩ := a
  obtain ⟨b1, b2⟩ := b
  simp [namD] at h
  rw [h.1, h.2]
theorem nam_zero : namElem (.agg #[.string ⟨#[]⟩, .int .i64 0]) = some (namD ([], 0), []) := namElem_mk ([], 0)
theorem nam_get {v : Value} {m : Nd} {ps : List MemPlace} (h : namElem v = some (namD m, ps)) : v = namV m := by
  obtain ⟨m', e1, e2⟩ := namElem_inv h
  rw [Prod.mk.injEq] at e2
  rw [namD_inj e2.1]
  exact e1

section
variable {κ : Type} {T : TypeId} {kv : κ → Value} {kl : κ → Lit} {ok : κ → Prop}

/-- In block b lies a map with at most n entries ever: f tells them. -/
def MapB (T : TypeId) (kl : κ → Lit) (w : World) (b n : Nat) (f : κ → Option Nd) : Prop :=
  ∃ D, w.ownsMap (H := Unit) Tryz.prog T namElem b n D ∧ (∀ x, has D (kl x) = (f x).isSome) ∧ ∀ x a z, f x = some a → D.atKey (kl x) z = namD a

variable {w : World} {b n : Nat} {f : κ → Option Nd}

theorem MapB.lt (h : MapB T kl w b n f) : b < w.heap.size := by
  obtain ⟨D, h, _⟩ := h
  exact h.lt
theorem MapB.le (h : MapB T kl w b n f) {m : Nat} (hm : n ≤ m) : MapB T kl w b m f := by
  obtain ⟨D, h, r⟩ := h
  exact ⟨D, h.mono hm, r⟩
theorem MapB.upP {P : Nat → Prop} {w' : World} (h : MapB T kl w b n f) (hu : UpP P w w') (hn : ¬ P b) : MapB T kl w' b n f := by
  obtain ⟨D, ⟨es, clock, hb, r1⟩, r⟩ := h
  exact ⟨D, ⟨es, clock, (hu.block b (Array.getElem?_eq_some_iff.1 hb).1 hn).trans hb, r1⟩, r⟩
theorem MapB.new (w : World) (g : Nat) (h : g = w.heap.size) : MapB T kl (w.alloc (.map #[] 0)) g 0 (fun _ => none) := by
  subst h
  exact ⟨_, World.ownsMap_made _ _ _ _, fun x => rfl, fun x a z hx => by cases hx⟩
theorem MapB.ne (h : MapB T kl w b n f) {g : Nat} {cs : Array Value} {U : TypeId} (hg : Cl w g cs U) : b ≠ g := fun e => by
  obtain ⟨D, ⟨es, clock, hb, _⟩, _⟩ := h
  subst e
  rw [hg] at hb
  cases hb

/-- What is told of a key. -/
def namAt (o : Option Nd) : Value := match o with | some m => namV m | none => .agg #[.string ⟨#[]⟩, .int .i64 0]

theorem MapB.look2 (K : KeyT κ T kv kl ok) {t : TypeId} (ht : Tryz.prog.underlying t = some (.map T 42))
    (h : MapB T kl w b n f) {k : κ} (hk : ok k) : (Instr.lookup t (.map (some b)) (kv k) true).run Tryz.prog w = .ok (.tuple #[namAt (f k), .bool (f k).isSome]) w := by
  obtain ⟨D, hD, hh, ha⟩ := h
  obtain ⟨v, ps, hrun, hv⟩ := hD.look_ok K.keyed ht (zero_named w) nam_zero (K.key hk)
  rw [hrun, hh k]
  cases hf : f k with
  | none =>
    have := hh k
    rw [hf] at this
    rw [atKey_of_not_has (by simpa using this)] at hv
    rw [nam_get hv]
    rfl
  | some a =>
    rw [ha k a _ hf] at hv
    rw [nam_get hv]
    rfl
theorem MapB.put [DecidableEq κ] (K : KeyT κ T kv kl ok) {t : TypeId} (ht : Tryz.prog.underlying t = some (.map T 42)) (h : MapB T kl w b n f) (hn : n < maxLen) {k : κ} (hk : ok k) (a : Nd) :
    ∃ w', (Instr.mapUpdate t (.map (some b)) (kv k) (namV a)).run Tryz.prog w = .ok () w' ∧ MapB T kl w' b (n + 1) (at1 f k (some a)) ∧ w.mapTurned w' b := by
  obtain ⟨D, hD, hh, ha⟩ := h
  obtain ⟨w', hrun, h1, h2⟩ := hD.store K.keyed ht hn (K.key hk) (namElem_mk a)
  refine ⟨w', hrun, ⟨_, h1, fun x => ?_, fun x c z hx => ?_⟩, h2⟩
  · by_cases hx : x = k
    · subst hx; rw [has_put_same hD.isMap (K.lit x), at1_same]; rfl
    · rw [has_put_other (K.inj hx), at1_other _ _ hx, hh]
  · by_cases hxk : x = k
    · subst hxk; rw [at1_same] at hx; cases hx; rw [atKey_put_same hD.isMap (K.lit x)]
    · rw [at1_other _ _ hxk] at hx; rw [atKey_put_other (K.inj hxk)]; exact ha x c z hx
theorem MapB.drop [DecidableEq κ] (K : KeyT κ T kv kl ok) {t : TypeId} (ht : Tryz.prog.underlying t = some (.map T 42)) (h : MapB T kl w b n f) {k : κ} (hk : ok k) (ty : TypeId) :
    ∃ w', (Builtin.delete_ #[t, T] ty #[.map (some b), kv k]).run Tryz.prog w = .ok (.tuple #[]) w' ∧ MapB T kl w' b n (at1 f k none) ∧ w.mapTurned w' b := by
  obtain ⟨D, hD, hh, ha⟩ := h
  obtain ⟨w', hrun, h1, h2⟩ := hD.drop K.keyed ht (K.key hk) ty
  refine ⟨w', hrun, ⟨_, h1, fun x => ?_, fun x c z hx => ?_⟩, h2⟩
  · by_cases hx : x = k
    · subst hx; rw [has_del_same, at1_same]; rfl
    · rw [has_del_other (K.inj hx), at1_other _ _ hx, hh]
  · by_cases hxk : x = k
    · subst hxk; rw [at1_same] at hx; cases hx
    · rw [at1_other _ _ hxk] at hx; rw [atKey_del_other (K.inj hxk)]; exact ha x c z hx
theorem MapB.keys (K : KeyT κ T kv kl ok) (h : MapB T kl w b n f) {x : κ} (hx : f x ≠ none) : ok x := by
  obtain ⟨D, hD, hh, _⟩ := h
  obtain ⟨es, rfl, hes⟩ := hD.keysOf
  have h1 : has (.map es) (kl x) = true := by rw [hh]; cases hf : f x <;> simp_all
  rw [has_eq, List.any_eq_true] at h1
  obtain ⟨p, hp, hs⟩ := h1
  obtain ⟨v, hv⟩ := hes p hp
  obtain ⟨y, _, e, hw⟩ := K.inv hv
  have := WideAt.sameKey_eq hs
  rw [e] at this
  have e2 : y = x := Classical.byContradiction fun hne => K.inj hne this
  exact e2 ▸ hw
end

abbrev StrB (w : World) (b n : Nat) (f : BS → Option Nd) : Prop := MapB 9 strL w b n f
abbrev PidB (w : World) (b n : Nat) (f : Int → Option Nd) : Prop := MapB 3 lk w b n f

theorem turned_upP {w w' : World} {b : Nat} (h : w.mapTurned w' b) : UpP (fun x => x = b) w w' := by
  have hg := h.grown
  exact ⟨hg.os, hg.tape, hg.output, hg.size, fun k hk hn => hg.block k hk (fun e => hn (by cases e; rfl))⟩
theorem turned_size {w w' : World} {b : Nat} (h : w.mapTurned w' b) : w'.heap.size = w.heap.size := by
  obtain ⟨es, c, es', c', hb, rfl⟩ := h
  simp [ChangeMaps.setBlock]

end Go.Proofs.YtpojkmpimnnjiaaGreat
