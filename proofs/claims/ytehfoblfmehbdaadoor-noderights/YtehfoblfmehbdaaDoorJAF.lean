/- The closure of rightKids of package node. -/
import Derived.Test.YtehfoblfmehbdaaDoorJAE

namespace Go.Proofs.YtehfoblfmehbdaaDoor
open Go.RowKit

/-- A box of a row of roles. -/
def RolB (w : World) (g : Nat) (v : Value) : Prop := w.heap[g]? = some (.cells #[v] 53 (0, 0))
theorem RolB.lt {w : World} {g : Nat} {v : Value} (h : RolB w g v) : g < w.heap.size := lt_of_block h
theorem RolB.mono {S : List Nat} {w w' : World} {g : Nat} {v : Value} (h : RolB w g v) (hu : Upd S w w') (hn : g ∉ S) : RolB w' g v := (hu.block g h.lt hn).trans h
theorem RolB.cell {w : World} {g : Nat} {v : Value} (h : RolB w g v) : w.cell? ⟨g, 0, none⟩ = some v := cell_of_row w g 0 _ _ _ h
theorem RolB.free {w : World} {g : Nat} {v : Value} (h : RolB w g v) : w.frozen? ⟨g, 0, none⟩ = false := frozen_of_row w g 0 _ _ h
theorem RolB.set {w : World} {g : Nat} {v : Value} (h : RolB w g v) (u : Value) : RolB (w.setCell ⟨g, 0, none⟩ u) g u := by
  unfold RolB
  rw [heap_setCell_same w g 0 _ _ _ h]
  rfl

set_option maxHeartbeats 1000000 in
set_option maxRecDepth 100000 in
theorem rk1_last (a : Option Addr) (n c g b o c2 : Nat) (k : Int) (s : ByteArray) (num pos r : Int) (w : World) (z : Bool) (hg : RolB w g (.slice (some ⟨b, o, none⟩) 1 c2)) (hb : b < w.heap.size) (hc : w.cell? ⟨b, o, none⟩ = some (.int .u8 r))
    (hI : ∀ W, Upd [] w W → Calls Tryd.prog 24 #[.agg #[.int .u8 k, .string s, .int .i64 num, .int .i64 pos, .slice a n c], .int .u8 r] W fun e w' => e = .returned (.bool z) ∧ Upd [] W w') :
    Calls Tryd.prog 63 #[.agg #[.int .u8 k, .string s, .int .i64 num, .int .i64 pos, .slice a n c], .pointer (some ⟨g, 0, none⟩)] w fun e w' => e = .returned (.bool z) ∧ Upd [] w w' := by
  have HU0 : Hid (Upd [] w (w.alloc (.cells #[.int .u8 k, .string s, .int .i64 num, .int .i64 pos, .slice a n c] 25))) := (Upd.refl [] w).alloc _
  have tb0 : Tb (w.alloc (.cells #[.int .u8 k, .string s, .int .i64 num, .int .i64 pos, .slice a n c] 25)) w.heap.size #[.int .u8 k, .string s, .int .i64 num, .int .i64 pos, .slice a n c] := Tb.new _ _ _ rfl
  have x0 := (hg.mono HU0.out (by simp)).cell
  have x1 : (w.alloc (.cells #[.int .u8 k, .string s, .int .i64 num, .int .i64 pos, .slice a n c] 25)).cell? ⟨b, o, none⟩ = some (.int .u8 r) := (HU0.out.cell (p := ⟨b, o, none⟩) hb (by simp)).trans hc
  have HI : Hid (∀ W, Upd [] w W → Calls Tryd.prog 24 #[.agg #[.int .u8 k, .string s, .int .i64 num, .int .i64 pos, .slice a n c], .int .u8 r] W fun e w' => e = .returned (.bool z) ∧ Upd [] W w') := hI
  clear hg hc hI
  go_enter Tryd.func63, Tryd.ntmps63
  go_wp2_with (first | (refine load_G _ _ rfl _ _ rfl tb0 rfl rfl ?_) | fail)
  refine (HI.out _ HU0.out).mono ?_
  rintro e w1 ⟨rfl, hu⟩
  have HU1 : Hid (Upd [] w w1) := HU0.out.trans hu
  clear hu tb0 x0 x1
  go_wp2
  go_ret
  exact ⟨rfl, HU1.out⟩

set_option maxHeartbeats 1000000 in
set_option maxRecDepth 100000 in
theorem rk1_more (a : Option Addr) (n c g b o l c2 : Nat) (k : Int) (s : ByteArray) (num pos r : Int) (w : World) (z : Bool) (hl : 1 < l) (hlc : l ≤ c2) (hc2 : c2 ≤ 9223372036854775807) (hg : RolB w g (.slice (some ⟨b, o, none⟩) l c2)) (hb : b < w.heap.size) (hc : w.cell? ⟨b, o, none⟩ = some (.int .u8 r))
    (hI : ∀ W, Upd [g] w W → Calls Tryd.prog 24 #[.agg #[.int .u8 k, .string s, .int .i64 num, .int .i64 pos, .slice a n c], .int .u8 r] W fun e w' => e = .returned (.bool z) ∧ Upd [] W w') :
    Calls Tryd.prog 63 #[.agg #[.int .u8 k, .string s, .int .i64 num, .int .i64 pos, .slice a n c], .pointer (some ⟨g, 0, none⟩)] w fun e w' => e = .returned (.bool z) ∧ RolB w' g (.slice (some ⟨b, o + 1, none⟩) (l - 1) (c2 - 1)) ∧ Upd [g] w w' := by
  have HU0 : Hid (Upd [] w (w.alloc (.cells #[.int .u8 k, .string s, .int .i64 num, .int .i64 pos, .slice a n c] 25))) := (Upd.refl [] w).alloc _
  have hne : (g = w.heap.size) = False := by simp; exact Nat.ne_of_lt hg.lt
  have r0 := hg.mono HU0.out (by simp)
  have x0 := r0.cell
  have f0 := r0.free
  have R1 : Hid (RolB ((w.alloc (.cells #[.int .u8 k, .string s, .int .i64 num, .int .i64 pos, .slice a n c] 25)).setCell ⟨g, 0, none⟩ (.slice (some ⟨b, o + 1, none⟩) (l - 1) (c2 - 1))) g (.slice (some ⟨b, o + 1, none⟩) (l - 1) (c2 - 1))) := r0.set _
  have HU1 : Hid (Upd [g] w ((w.alloc (.cells #[.int .u8 k, .string s, .int .i64 num, .int .i64 pos, .slice a n c] 25)).setCell ⟨g, 0, none⟩ (.slice (some ⟨b, o + 1, none⟩) (l - 1) (c2 - 1)))) := ((Upd.refl [g] w).alloc _).setCell (Or.inr (by simp)) _
  have tb0 : Tb ((w.alloc (.cells #[.int .u8 k, .string s, .int .i64 num, .int .i64 pos, .slice a n c] 25)).setCell ⟨g, 0, none⟩ (.slice (some ⟨b, o + 1, none⟩) (l - 1) (c2 - 1))) w.heap.size #[.int .u8 k, .string s, .int .i64 num, .int .i64 pos, .slice a n c] := (Tb.new _ _ _ rfl).other _ (Nat.ne_of_lt hg.lt) _
  have x1 : (w.alloc (.cells #[.int .u8 k, .string s, .int .i64 num, .int .i64 pos, .slice a n c] 25)).cell? ⟨b, o, none⟩ = some (.int .u8 r) := (HU0.out.cell (p := ⟨b, o, none⟩) hb (by simp)).trans hc
  have i0 : (1 : Int) < (l : Int) := by omega
  have i1 : (0 : Int) < (l : Int) := by omega
  have i2 : (1 : Int) ≤ (c2 : Int) := by omega
  have i3 : (1 : Int) ≤ (l : Int) := by omega
  have i4 : (l : Int) ≤ (c2 : Int) := by omega
  have i5 : (1 : Int) < (c2 : Int) := by omega
  have HI : Hid (∀ W, Upd [g] w W → Calls Tryd.prog 24 #[.agg #[.int .u8 k, .string s, .int .i64 num, .int .i64 pos, .slice a n c], .int .u8 r] W fun e w' => e = .returned (.bool z) ∧ Upd [] W w') := hI
  clear hg hc hI r0
  go_enter Tryd.func63, Tryd.ntmps63
  go_wp2_with (first | (refine load_G _ _ rfl _ _ rfl tb0 rfl rfl ?_) | fail)
  refine (HI.out _ HU1.out).mono ?_
  rintro e w1 ⟨rfl, hu⟩
  have HU2 : Hid (Upd [g] w w1) := HU1.out.then hu (by simp)
  have R2 : Hid (RolB w1 g (.slice (some ⟨b, o + 1, none⟩) (l - 1) (c2 - 1))) := R1.out.mono hu (by simp)
  clear hu tb0 x0 x1 f0
  go_wp2
  go_ret
  exact ⟨rfl, R2.out, HU2.out⟩

end Go.Proofs.YtehfoblfmehbdaaDoor

/- What has a role: the mathematics; rightKids' row. -/
namespace Go.Proofs.YtehfoblfmehbdaaDoor
open Go.RowKit

def formAt (k r : Int) : Option Fm := formsL.find? fun f => f.ro == (if r = 17 ∧ k ≠ 18 then 0 else r) && f.kd == k
def nxt (rs : List Int) : List Int := if 1 < rs.length then rs.tail else rs
def rol (rs : List Int) (j : Nat) : Int := rs.getD (min j (rs.length - 1)) 0
def kidsN (f : Fm) (n : Nat) : Bool := decide (f.le ≤ n) && (decide (n ≤ f.ks.length) || f.mo)
mutual
/-- It is what has the role. -/
def isB (r : Int) : Nd → Bool
  | .mk k s num pos K => match formAt k r with
    | none => false
    | some f => kidsN f K.length && (isR f.ks K && fldB (.mk k s num pos K))
/-- Its kids are what has the roles, the last one of them again and again. -/
def isR (rs : List Int) : List Nd → Bool
  | [] => true
  | n :: K => isB (rol rs 0) n && isR (nxt rs) K
end
theorem rol_nxt (rs : List Int) (j : Nat) : rol (nxt rs) j = rol rs (j + 1) := by
  match rs with
  | [] => rfl
  | [x] => simp [nxt, rol]
  | x :: y :: t =>
    simp only [nxt, rol, List.length_cons, List.tail_cons]
    rw [if_pos (by omega), show min (j + 1) (t.length + 1 + 1 - 1) = min j (t.length + 1 - 1) + 1 by omega, List.getD_cons_succ]
    rfl
theorem isR_iff (rs : List Int) (K : List Nd) : isR rs K = true ↔ ∀ i (h : i < K.length), isB (rol rs i) K[i] = true := by
  induction K generalizing rs with
  | nil => simp [isR]
  | cons n K ih =>
    rw [isR, Bool.and_eq_true, ih]
    constructor
    · rintro ⟨h1, h2⟩ i hi
      cases i with
      | zero => exact h1
      | succ i => have := h2 i (by simpa using hi); rw [rol_nxt] at this; exact this
    · intro h
      refine ⟨h 0 (by simp), fun i hi => ?_⟩
      rw [rol_nxt]
      exact h (i + 1) (by simpa using hi)

theorem RowN.turnR {R Q : List Value → Nd → Prop} {w w' : World} {g : Nat} {av : Option Addr} {nv cv : Nat} (hu : Upd [g] w w') (hg : RolB w g (.slice av nv cv)) (hkd : ∀ cs t, R cs t → cs[0]? = some (.int .u8 t.kd)) (himp : ∀ cs t, R cs t → Q cs t) (a : Option Addr) (K : List Nd) (h1 : RowN R w a K) : RowN Q w' a K := by
  rcases h1 with h | ⟨b, o, e, hlt, hc⟩
  · exact Or.inl h
  · by_cases hK : K = []
    · exact Or.inl hK
    have hpos : 0 < K.length := by cases K with | nil => exact absurd rfl hK | cons x t => simp
    have hb : b ∉ [g] := fun hm => by
      simp only [List.mem_cons, List.not_mem_nil, or_false] at hm
      subst hm
      obtain ⟨cs, k1, k2, k3⟩ := hc 0 hpos
      have hk := k2 0 (by omega)
      rw [hkd _ _ k3] at hk
      have := cell_of_row w b (o + (0 * 5 + 0)) _ _ _ hg
      rw [this] at hk
      cases ho : o + (0 * 5 + 0) with
      | zero => rw [ho] at hk; simp at hk
      | succ m => rw [ho] at hk; simp at hk
    refine Or.inr ⟨b, o, e, Nat.lt_of_lt_of_le hlt hu.size, fun i hi => ?_⟩
    obtain ⟨cs, k1, k2, k3⟩ := hc i hi
    exact ⟨cs, k1, fun j hj => (hu.cell (p := ⟨b, o + (i * 5 + j), none⟩) hlt hb).trans (k2 j hj), himp _ _ k3⟩
/-- A box of roles may turn: trees stay. -/
theorem NIn.updR {w w' : World} {g : Nat} {av : Option Addr} {nv cv : Nat} (hu : Upd [g] w w') (hg : RolB w g (.slice av nv cv)) : ∀ (d : Nat) (cs : List Value) (t : Nd), NIn w d cs t → NIn w' d cs t := by
  intro d
  induction d with
  | zero => intro cs t h; exact h.elim
  | succ d ih =>
    intro cs t h
    cases t with
    | mk k s num pos K =>
      obtain ⟨a, c, rfl, h1, hcp⟩ := h
      exact ⟨a, c, rfl, RowN.turnR hu hg (fun _ _ h => h.kd) ih a K h1, hcp⟩

/-- What `is` is to answer, of trees of a depth. -/
def IsS (A : Nat → Option Addr) (C : Nat → Nat) (d : Nat) : Prop := ∀ (w : World) (cs : List Value) (t : Nd) (r : Int), NIn w d cs t → nsz t ≤ 2199023255488 → nxz t ≤ 140737488355328 → Frm A C w → Ops w → Calls Tryd.prog 24 #[.agg cs.toArray, .int .u8 r] w fun e w' => e = .returned (.bool (isB r t)) ∧ Upd [] w w'

/-- While kids are gone through. -/
structure KdsI (w : World) (g b o c : Nat) (rs : List Int) (K : List Nd) (j : Nat) (W : World) : Prop where
  upd : Upd [] w W
  box : RolB W g (.slice (some ⟨b, o + min j (rs.length - 1), none⟩) (rs.length - min j (rs.length - 1)) (c - min j (rs.length - 1)))
  got : ∀ i (h : i < K.length), i < j → isB (rol rs i) K[i] = true
structure KdsF (w : World) (rs : List Int) (K : List Nd) (W : World) : Prop where
  upd : Upd [] w W
  not : isR rs K = false

theorem kids_all (A : Nat → Option Addr) (C : Nat → Nat) (d : Nat) (ih : IsS A C d) (w w0 : World) (a : Option Addr) (cK g b o c : Nat) (rs : List Int) (K : List Nd) (hK : RowN (NIn w d) w a K) (hz : nszs K ≤ 2199023255488) (hx : nxzs K ≤ 140737488355328) (hF : Frm A C w) (hO : Ops w)
    (hu : Upd [] w w0) (hgw : w.heap.size ≤ g) (hg : RolB w0 g (.slice (some ⟨b, o, none⟩) rs.length c)) (h0 : 0 < rs.length) (hc : rs.length ≤ c) (hc2 : c ≤ 9223372036854775807) (hb : b < w.heap.size) (hrow : ∀ j (h : j < rs.length), w.cell? ⟨b, o + j, none⟩ = some (.int .u8 rs[j])) :
    Calls Tryd.prog 42 #[.slice a K.length cK, .func (.func 63) #[] #[.pointer (some ⟨g, 0, none⟩)]] w0 fun e w' => e = .returned (.bool (isR rs K)) ∧ Upd [] w w' := by
  refine (all_gen a cK d K 63 #[.pointer (some ⟨g, 0, none⟩)] (KdsI w g b o c rs K) (KdsF w rs K) w0 (Nat.le_trans (nszs_len K) hz) Tryd.call63 ⟨hu, by simpa using hg, fun i _ h => by omega⟩ (fun k W h => hK.imp h.upd (NIn.mono h.upd d)) (fun k W V h hV => ⟨h.upd.trans hV, h.box.mono hV (by simp), h.got⟩) (fun k hk cs W h hin => ?_)).mono ?_
  · obtain ⟨p, hp⟩ : ∃ p, p = min k (rs.length - 1) := ⟨_, rfl⟩
    have hbx := h.box
    rw [← hp] at hbx
    have hpl : p < rs.length := by omega
    have hcell : W.cell? ⟨b, o + p, none⟩ = some (.int .u8 (rol rs k)) := by
      have e : rol rs k = rs[p] := by simp only [rol, ← hp, List.getD_eq_getElem?_getD, List.getElem?_eq_getElem hpl, Option.getD_some]
      rw [e]
      exact (h.upd.cell (p := ⟨b, o + p, none⟩) hb (by simp)).trans (hrow p hpl)
    have hbW : b < W.heap.size := Nat.lt_of_lt_of_le hb h.upd.size
    have hIs : ∀ V, Upd [g] W V → Calls Tryd.prog 24 #[.agg cs.toArray, .int .u8 (rol rs k)] V fun e w' => e = .returned (.bool (isB (rol rs k) K[k])) ∧ Upd [] V w' := fun V hV => by
      have hwV : Upd [] w V := h.upd.then hV (fun x hx => Or.inl (by simp at hx; omega))
      exact ih V cs K[k] (rol rs k) (NIn.updR hV hbx _ _ _ hin) (Nat.le_trans (nszs_get K k hk) hz) (Nat.le_trans (nxzs_get K k hk) hx) (hF.mono hwV) (hO.mono hwV)
    obtain ⟨t, ht⟩ : ∃ t, t = K[k] := ⟨_, rfl⟩
    rw [← ht] at hin hIs
    have fin : ∀ (z : Bool) (w' : World), z = isB (rol rs k) K[k] → Upd [] w w' → RolB w' g (.slice (some ⟨b, o + min (k + 1) (rs.length - 1), none⟩) (rs.length - min (k + 1) (rs.length - 1)) (c - min (k + 1) (rs.length - 1))) → AllP (KdsI w g b o c rs K (k + 1)) (KdsF w rs K) (.returned (.bool z)) w' := fun z w' hzz hu' hbx' => by
      refine ⟨z, rfl, fun hy => ⟨hu', hbx', fun i hi hik => ?_⟩, fun hn => ⟨hu', ?_⟩⟩
      · by_cases e : i = k
        · subst e; rw [← hzz, hy]
        · exact h.got i hi (by omega)
      · cases hr : isR rs K with
        | false => rfl
        | true => have := (isR_iff rs K).1 hr k hk; rw [← hzz, hn] at this; cases this
    obtain ⟨kk, s, num, pos, K2⟩ := t
    cases d with
    | zero => exact hin.elim
    | succ d =>
      obtain ⟨a2, c2, rfl, -, -⟩ := hin
      by_cases hl : 1 < rs.length - p
      · refine (rk1_more a2 K2.length c2 g b (o + p) (rs.length - p) (c - p) kk s num pos (rol rs k) W _ hl (by omega) (by omega) hbx hbW hcell hIs).mono ?_
        rintro e w' ⟨rfl, hb', hu'⟩
        refine fin _ w' (by rw [← ht]) (h.upd.then hu' (fun x hx => Or.inl (by simp at hx; omega))) ?_
        have e1 : min (k + 1) (rs.length - 1) = p + 1 := by omega
        rw [e1, ← Nat.add_assoc, ← Nat.sub_sub, ← Nat.sub_sub]
        exact hb'
      · have hl1 : rs.length - p = 1 := by omega
        rw [hl1] at hbx
        refine (rk1_last a2 K2.length c2 g b (o + p) (c - p) kk s num pos (rol rs k) W _ hbx hbW hcell (fun V hV => hIs V ((Upd.refl [g] W).then hV (by simp)))).mono ?_
        rintro e w' ⟨rfl, hu'⟩
        refine fin _ w' (by rw [← ht]) (h.upd.trans hu') ?_
        have e1 : min (k + 1) (rs.length - 1) = p := by omega
        rw [e1, hl1]
        exact hbx.mono hu' (by simp)
  · rintro e w' ⟨bb, rfl, hy, hn⟩
    cases bb with
    | true => exact ⟨by rw [(isR_iff rs K).2 (fun i hi => (hy rfl).got i hi hi)], (hy rfl).upd⟩
    | false => exact ⟨by rw [(hn rfl).not], (hn rfl).upd⟩

end Go.Proofs.YtehfoblfmehbdaaDoor

/- rightKids of package node, by its contract. -/
namespace Go.Proofs.YtehfoblfmehbdaaDoor
open Go.RowKit

set_option maxHeartbeats 1000000 in
set_option maxRecDepth 100000 in
theorem rk_few (a a2 : Option Addr) (n c L c2 le : Nat) (x y : Int) (mo : Bool) (w : World) (hn : n ≤ 2199023255488) (hle : le ≤ 255) (_hL : L ≤ 2199023255488) (h : n < le) : Calls Tryd.prog 44 #[.slice a n c, .agg #[.int .u8 x, .int .u8 y, .int .u8 le, .slice a2 L c2, .bool mo]] w fun e w' => e = .returned (.bool false) ∧ Upd [] w w' := by
  have HU0 : Hid (Upd [] w ((w.alloc (.cells #[.int .u8 x, .int .u8 y, .int .u8 le, .slice a2 L c2, .bool mo] 55)).alloc (.cells #[.slice none 0 0] 53))) := ((Upd.refl [] w).alloc _).alloc _
  have hw : wrap64 (le : Int) = le := by unfold wrap64; omega
  have e0 : ((n : Int) < (le : Int)) := by omega
  go_enter Tryd.func44, Tryd.ntmps44
  go_wp2
  go_ret
  exact ⟨rfl, by repeat (first | with_reducible exact Upd.refl _ _ | with_reducible refine Upd.alloc ?_ _)⟩
set_option maxHeartbeats 1000000 in
set_option maxRecDepth 100000 in
theorem rk_many (a a2 : Option Addr) (n c L c2 le : Nat) (x y : Int) (w : World) (_hn : n ≤ 2199023255488) (hle : le ≤ 255) (_hL : L ≤ 2199023255488) (h : le ≤ n) (h2 : L < n) : Calls Tryd.prog 44 #[.slice a n c, .agg #[.int .u8 x, .int .u8 y, .int .u8 le, .slice a2 L c2, .bool false]] w fun e w' => e = .returned (.bool false) ∧ Upd [] w w' := by
  have HU0 : Hid (Upd [] w ((w.alloc (.cells #[.int .u8 x, .int .u8 y, .int .u8 le, .slice a2 L c2, .bool false] 55)).alloc (.cells #[.slice none 0 0] 53))) := ((Upd.refl [] w).alloc _).alloc _
  have hw : wrap64 (le : Int) = le := by unfold wrap64; omega
  have e0 : decide ((n : Int) < (le : Int)) = false := by simp; omega
  have e1 : ((L : Int) < (n : Int)) := by omega
  go_enter Tryd.func44, Tryd.ntmps44
  go_wp2
  go_ret
  exact ⟨rfl, by repeat (first | with_reducible exact Upd.refl _ _ | with_reducible refine Upd.alloc ?_ _)⟩
set_option maxHeartbeats 1000000 in
set_option maxRecDepth 100000 in
theorem rk_fit (a a2 : Option Addr) (n c L c2 le : Nat) (x y : Int) (mo : Bool) (w : World) (_hn : n ≤ 2199023255488) (hle : le ≤ 255) (_hL : L ≤ 2199023255488) (h : le ≤ n) (h2 : n ≤ L) (z : Bool) (hC : ∀ w0 g, Upd [] w w0 → w.heap.size ≤ g → RolB w0 g (.slice a2 L c2) → Calls Tryd.prog 42 #[.slice a n c, .func (.func 63) #[] #[.pointer (some ⟨g, 0, none⟩)]] w0 fun e w' => e = .returned (.bool z) ∧ Upd [] w w') : Calls Tryd.prog 44 #[.slice a n c, .agg #[.int .u8 x, .int .u8 y, .int .u8 le, .slice a2 L c2, .bool mo]] w fun e w' => e = .returned (.bool z) ∧ Upd [] w w' := by
  have HU0 : Hid (Upd [] w ((w.alloc (.cells #[.int .u8 x, .int .u8 y, .int .u8 le, .slice a2 L c2, .bool mo] 55)).alloc (.cells #[.slice none 0 0] 53))) := ((Upd.refl [] w).alloc _).alloc _
  have hw : wrap64 (le : Int) = le := by unfold wrap64; omega
  have e0 : decide ((n : Int) < (le : Int)) = false := by simp; omega
  have e1 : decide ((L : Int) < (n : Int)) = false := by simp; omega
  have HC : Hid (∀ w0 g, Upd [] w w0 → w.heap.size ≤ g → RolB w0 g (.slice a2 L c2) → Calls Tryd.prog 42 #[.slice a n c, .func (.func 63) #[] #[.pointer (some ⟨g, 0, none⟩)]] w0 fun e w' => e = .returned (.bool z) ∧ Upd [] w w') := hC
  clear hC
  have R1 : Hid (RolB ((w.alloc (.cells #[.int .u8 x, .int .u8 y, .int .u8 le, .slice a2 L c2, .bool mo] 55)).alloc (.cells #[.slice a2 L c2] 53)) (w.heap.size + 1) (.slice a2 L c2)) := FunB.new _ _ _ _ (by simp)
  have HU1 : Hid (Upd [] w ((w.alloc (.cells #[.int .u8 x, .int .u8 y, .int .u8 le, .slice a2 L c2, .bool mo] 55)).alloc (.cells #[.slice a2 L c2] 53))) := ((Upd.refl [] w).alloc _).alloc _
  go_enter Tryd.func44, Tryd.ntmps44
  go_wp2_with fail
  refine (HC.out _ (w.heap.size + 1) HU1.out (by omega) R1.out).mono ?_
  rintro e w1 ⟨rfl, hu⟩
  have HU2 : Hid (Upd [] w w1) := hu
  clear hu
  go_wp2
  go_ret
  exact ⟨rfl, HU2.out⟩
set_option maxHeartbeats 1000000 in
set_option maxRecDepth 100000 in
theorem rk_more (a a2 : Option Addr) (n c L c2 le : Nat) (x y : Int) (w : World) (_hn : n ≤ 2199023255488) (hle : le ≤ 255) (_hL : L ≤ 2199023255488) (h : le ≤ n) (h2 : L < n) (z : Bool) (hC : ∀ w0 g, Upd [] w w0 → w.heap.size ≤ g → RolB w0 g (.slice a2 L c2) → Calls Tryd.prog 42 #[.slice a n c, .func (.func 63) #[] #[.pointer (some ⟨g, 0, none⟩)]] w0 fun e w' => e = .returned (.bool z) ∧ Upd [] w w') : Calls Tryd.prog 44 #[.slice a n c, .agg #[.int .u8 x, .int .u8 y, .int .u8 le, .slice a2 L c2, .bool true]] w fun e w' => e = .returned (.bool z) ∧ Upd [] w w' := by
  have HU0 : Hid (Upd [] w ((w.alloc (.cells #[.int .u8 x, .int .u8 y, .int .u8 le, .slice a2 L c2, .bool true] 55)).alloc (.cells #[.slice none 0 0] 53))) := ((Upd.refl [] w).alloc _).alloc _
  have hw : wrap64 (le : Int) = le := by unfold wrap64; omega
  have e0 : decide ((n : Int) < (le : Int)) = false := by simp; omega
  have e1 : ((L : Int) < (n : Int)) := by omega
  have HC : Hid (∀ w0 g, Upd [] w w0 → w.heap.size ≤ g → RolB w0 g (.slice a2 L c2) → Calls Tryd.prog 42 #[.slice a n c, .func (.func 63) #[] #[.pointer (some ⟨g, 0, none⟩)]] w0 fun e w' => e = .returned (.bool z) ∧ Upd [] w w') := hC
  clear hC
  have R1 : Hid (RolB ((w.alloc (.cells #[.int .u8 x, .int .u8 y, .int .u8 le, .slice a2 L c2, .bool true] 55)).alloc (.cells #[.slice a2 L c2] 53)) (w.heap.size + 1) (.slice a2 L c2)) := FunB.new _ _ _ _ (by simp)
  have HU1 : Hid (Upd [] w ((w.alloc (.cells #[.int .u8 x, .int .u8 y, .int .u8 le, .slice a2 L c2, .bool true] 55)).alloc (.cells #[.slice a2 L c2] 53))) := ((Upd.refl [] w).alloc _).alloc _
  go_enter Tryd.func44, Tryd.ntmps44
  go_wp2_with fail
  refine (HC.out _ (w.heap.size + 1) HU1.out (by omega) R1.out).mono ?_
  rintro e w1 ⟨rfl, hu⟩
  have HU2 : Hid (Upd [] w w1) := hu
  clear hu
  go_wp2
  go_ret
  exact ⟨rfl, HU2.out⟩

end Go.Proofs.YtehfoblfmehbdaaDoor
