/- rightBranches of package node, by its contract. -/
import Derived.Test.YtejcppnleckmfaaDoorNdT
namespace Go.Proofs.YtejcppnleckmfaaDoor
open Go.RowKit

/-- A box of a kind. -/
def KindB (w : World) (g : Nat) (k : Int) : Prop := w.heap[g]? = some (.cells #[.int .u8 k] 22 (0, 0))
theorem KindB.lt {w : World} {g : Nat} {k : Int} (h : KindB w g k) : g < w.heap.size := lt_of_block h
theorem KindB.mono {w w' : World} {g : Nat} {k : Int} (h : KindB w g k) (hu : Upd [] w w') : KindB w' g k := (hu.block g h.lt (by simp)).trans h
theorem KindB.cell {w : World} {g : Nat} {k : Int} (h : KindB w g k) : w.cell? ⟨g, 0, none⟩ = some (.int .u8 k) := cell_of_row w g 0 _ _ _ h

/-- The closure that asks for a kind. -/
abbrev kf (g : Nat) : Value := .func (.func 60) #[] #[.pointer (some ⟨g, 0, none⟩)]

set_option maxHeartbeats 1000000 in
set_option maxRecDepth 100000 in
theorem of_any (k : Int) (w : World) : Calls Tryd.prog 59 #[.int .u8 k] w fun e w' => ∃ g, e = .returned (kf g) ∧ KindB w' g k ∧ Upd [] w w' := by
  have HU0 : Hid (Upd [] w (w.alloc (.cells #[.int .u8 k] 22))) := (Upd.refl [] w).alloc _
  have HK : Hid (KindB (w.alloc (.cells #[.int .u8 k] 22)) w.heap.size k) := heap_alloc_new w _
  go_enter Tryd.func59, Tryd.ntmps59
  go_wp2
  go_ret
  exact ⟨w.heap.size, rfl, HK.out, HU0.out⟩

set_option maxHeartbeats 1000000 in
set_option maxRecDepth 100000 in
theorem asks_kind (k0 k : Int) (g : Nat) (q1 q2 q3 q4 : Value) (w : World) (hg : KindB w g k0) : Calls Tryd.prog 60 #[.agg #[.int .u8 k, q1, q2, q3, q4], .pointer (some ⟨g, 0, none⟩)] w fun e w' => e = .returned (.bool (k == k0)) ∧ Upd [] w w' := by
  have HU0 : Hid (Upd [] w (w.alloc (.cells #[.int .u8 k, q1, q2, q3, q4] 25))) := (Upd.refl [] w).alloc _
  have hc := (hg.mono HU0.out).cell
  have hne : g ≠ w.heap.size := Nat.ne_of_lt hg.lt
  clear hg
  go_enter Tryd.func60, Tryd.ntmps60
  go_wp2
  go_ret
  exact ⟨rfl, HU0.out⟩

/-- Of all kids the kind. -/
def kdAll (k0 : Int) (K : List Nd) : Bool := K.all fun n => n.kd == k0
structure KdI (w : World) (k0 : Int) (g : Nat) (K : List Nd) (j : Nat) (W : World) : Prop where
  upd : Upd [] w W
  got : kdAll k0 (K.take j) = true
structure KdF (w : World) (k0 : Int) (K : List Nd) (W : World) : Prop where
  upd : Upd [] w W
  not : kdAll k0 K = false

theorem all_kind (a : Option Addr) (c d : Nat) (K : List Nd) (k0 : Int) (g : Nat) (w : World) (hs : K.length ≤ 2199023255488) (hK : RowN (NIn w d) w a K) (hg : KindB w g k0) :
    Calls Tryd.prog 41 #[.slice a K.length c, kf g] w fun e w' => e = .returned (.bool (kdAll k0 K)) ∧ Upd [] w w' := by
  refine (all_gen a c d K 60 #[.pointer (some ⟨g, 0, none⟩)] (KdI w k0 g K) (KdF w k0 K) w hs Tryd.call60 ⟨Upd.refl _ _, rfl⟩ (fun k W h => hK.imp h.upd (NIn.mono h.upd d)) (fun k W V h hu => ⟨h.upd.trans hu, h.got⟩) (fun k hk cs W h hin => ?_)).mono ?_
  · obtain ⟨q0, q1, q2, q3, q4, rfl⟩ := list5 hin.len
    have hq : q0 = .int .u8 K[k].kd := by have := hin.kd; simpa using this
    subst hq
    refine (asks_kind k0 K[k].kd g q1 q2 q3 q4 W (hg.mono h.upd)).mono ?_
    rintro e w' ⟨rfl, hu⟩
    refine ⟨_, rfl, fun hy => ⟨h.upd.trans hu, ?_⟩, fun hn => ⟨h.upd.trans hu, ?_⟩⟩
    · have := h.got
      unfold kdAll at *
      rw [List.take_succ_eq_append_getElem hk, List.all_append, this, List.all_cons, hy]; rfl
    · unfold kdAll
      exact List.all_eq_false.2 ⟨K[k], List.getElem_mem hk, by simpa using hn⟩
  · rintro e w' ⟨b, rfl, hy, hn⟩
    cases b with
    | true => have := (hy rfl).got; rw [List.take_length] at this; exact ⟨by rw [this], (hy rfl).upd⟩
    | false => exact ⟨by rw [(hn rfl).not], (hn rfl).upd⟩

theorem RowN.take {R : List Value → Nd → Prop} {w : World} {a : Option Addr} {K : List Nd} (h : RowN R w a K) (m : Nat) : RowN R w a (K.take m) := by
  rcases h with rfl | ⟨b, o, e, hlt, hc⟩
  · exact Or.inl (by simp)
  · refine Or.inr ⟨b, o, e, hlt, fun i hi => ?_⟩
    rw [List.length_take] at hi
    obtain ⟨cs, k1, k2, k3⟩ := hc i (by omega)
    exact ⟨cs, k1, k2, by rw [List.getElem_take]; exact k3⟩
theorem RowN.drop {R : List Value → Nd → Prop} {w : World} {b o : Nat} {K : List Nd} (h : RowN R w (some ⟨b, o, none⟩) K) (m : Nat) : RowN R w (some ⟨b, o + m * 5, none⟩) (K.drop m) := by
  rcases h with rfl | ⟨b, o, e, hlt, hc⟩
  · exact Or.inl (by simp)
  · cases e
    refine Or.inr ⟨b, o + m * 5, rfl, hlt, fun i hi => ?_⟩
    rw [List.length_drop] at hi
    obtain ⟨cs, k1, k2, k3⟩ := hc (m + i) (by omega)
    refine ⟨cs, k1, fun j hj => ?_, by rw [List.getElem_drop]; exact k3⟩
    rw [← k2 j hj]
    congr 2
    omega

end Go.Proofs.YtejcppnleckmfaaDoor
