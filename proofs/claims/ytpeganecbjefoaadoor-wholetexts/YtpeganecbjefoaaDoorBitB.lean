/- Rows of bits in memory. -/
import Derived.Test.YtpeganecbjefoaaDoorBitM
import Derived.Test.YtpeganecbjefoaaDoorDigU
namespace Go.Proofs.YtpeganecbjefoaaDoor
open Go.RowKit

theorem info_bool : (Tryd.prog.info? 4).map (fun i => (i.zero, i.size, i.bytes)) = some (some (.bool false), 1, 1) := by kernel_rfl

/-- The cells of a slice's first bits. -/
def BA (w : World) (a : Option Addr) (L : List Bool) : Prop :=
  L = [] ∨ ∃ b o, a = some ⟨b, o, none⟩ ∧ b < w.heap.size ∧ ∀ i, i < L.length → w.cell? ⟨b, o + i, none⟩ = some (.bool (L.getD i false))

theorem BA.nil (w : World) (a : Option Addr) : BA w a [] := Or.inl rfl
theorem BA.keep {S : List Nat} {w w' : World} {a : Option Addr} {L : List Bool} (h : BA w a L) (hb : Upd S w w') (hn : ∀ p, a = some p → p.block ∉ S) : BA w' a L := by
  rcases h with h | ⟨b, o, e, hlt, hc⟩
  · exact Or.inl h
  · exact Or.inr ⟨b, o, e, Nat.lt_of_lt_of_le hlt hb.size, fun i hi => (hb.cell (p := ⟨b, o + i, none⟩) hlt (show b ∉ S from hn _ e)).trans (hc i hi)⟩
theorem BA.mono {w w' : World} {a : Option Addr} {L : List Bool} (h : BA w a L) (hb : Upd [] w w') : BA w' a L := h.keep hb (fun _ _ => by simp)
theorem BA.take {w : World} {a : Option Addr} {L : List Bool} (h : BA w a L) (n : Nat) : BA w a (L.take n) := by
  rcases h with h | ⟨b, o, e, hlt, hc⟩
  · exact Or.inl (by rw [h]; simp)
  · refine Or.inr ⟨b, o, e, hlt, fun i hi => ?_⟩
    have h1 : i < n ∧ i < L.length := by simpa [List.length_take, Nat.lt_min] using hi
    rw [hc i h1.2]
    simp [List.getD, h1.1]

/-- Bits that are the call's own. -/
def OL (w : World) (base : Nat) (v : Value) (L : List Bool) : Prop := w.ownsRow base 4 1 v L.length (L.map Value.bool)

theorem OL.nil (w : World) (base : Nat) : OL w base (.slice none 0 0) [] := World.ownsRow_nil _ _ _ _
theorem OL.snoc {w : World} {base : Nat} {v : Value} {L : List Bool} {x : Bool} (h : w.ownsRow base 4 1 v (L.length + 1) (L.map Value.bool ++ [.bool x])) : OL w base v (L ++ [x]) := by
  unfold OL
  rw [List.map_append, List.length_append]
  exact h
theorem OL.upd {w w' : World} {base : Nat} {v : Value} {L : List Bool} (h : OL w base v L) (hu : Upd [] w w') : OL w' base v L := by
  obtain ⟨h0, h1 | ⟨g, cap, cur, hv, hb, hh, h2⟩⟩ := h
  · exact ⟨h0, Or.inl h1⟩
  · exact ⟨h0, Or.inr ⟨g, cap, cur, hv, hb, (hu.block g (lt_of_block hh) (by simp)).trans hh, h2⟩⟩
/-- What is owned is there. -/
theorem OL.there {w : World} {base : Nat} {v : Value} {L : List Bool} (h : OL w base v L) :
    ∃ a cap, v = .slice a L.length cap ∧ BA w a L ∧ Fresh base a ∧ L.length ≤ cap ∧ cap ≤ 9223372036854775807 := by
  obtain ⟨hl, ⟨h1, h2⟩ | ⟨g, cap, cur, hv', hb, hh, hc1, hc2, hcs, hcu⟩⟩ := h
  · exact ⟨none, 0, by rw [h1, h2], Or.inl (List.eq_nil_of_length_eq_zero h2), Fresh.nil _, by omega, by omega⟩
  · refine ⟨_, cap, hv', ?_, Fresh.mem hb, hc1, by unfold maxLen at hc2; omega⟩
    refine Or.inr ⟨g, 0, rfl, lt_of_block hh, fun i hi => ?_⟩
    rw [Nat.zero_add, cell_of_row w g i _ _ _ hh]
    have e : cur.toList[i]? = (cur.toList.take (L.length * 1))[i]? := by rw [List.getElem?_take_of_lt (by omega)]
    rw [← Array.getElem?_toList, e, hcu, List.getElem?_map, List.getElem?_eq_getElem hi, List.getD_eq_getElem?_getD, List.getElem?_eq_getElem hi]
    rfl

set_option maxHeartbeats 400000 in
theorem at_in (b o n cap i : Nat) (x : Bool) (w : World) (hi : i < n) (_hn : n ≤ 100000) (hc : w.cell? ⟨b, o + i, none⟩ = some (.bool x)) :
    Calls Tryd.prog 69 #[.slice (some ⟨b, o, none⟩) n cap, .int .i64 i] w fun e w' => e = .returned (.bool x) ∧ w' = w := by
  go_enter Tryd.func69, Tryd.ntmps69
  go_wp2
  go_ret
  exact ⟨rfl, rfl⟩

set_option maxHeartbeats 400000 in
theorem at_out (a : Option Addr) (n cap i : Nat) (w : World) (hi : n ≤ i) :
    Calls Tryd.prog 69 #[.slice a n cap, .int .i64 i] w fun e w' => e = .returned (.bool false) ∧ w' = w := by
  have hd : decide ((i : Int) < (n : Int)) = false := by simp; omega
  go_enter Tryd.func69, Tryd.ntmps69
  go_wp2
  go_ret
  exact ⟨rfl, rfl⟩

/-- at: the bit at i, or none. -/
theorem at_any (a : Option Addr) (cap i : Nat) (L : List Bool) (w : World) (hn : L.length ≤ 100000) (hL : BA w a L) :
    Calls Tryd.prog 69 #[.slice a L.length cap, .int .i64 i] w fun e w' => e = .returned (.bool (L.getD i false)) ∧ w' = w := by
  rcases Nat.lt_or_ge i L.length with hi | hi
  · rcases hL with h | ⟨b, o, rfl, hlt, hc⟩
    · rw [h] at hi; simp at hi
    · exact at_in b o L.length cap i _ w hi hn (hc i hi)
  · rw [List.getD_eq_getElem?_getD, List.getElem?_eq_none hi]
    exact at_out a L.length cap i w hi

set_option maxHeartbeats 1000000 in
set_option maxRecDepth 100000 in
theorem cut_core (a : Option Addr) (cap : Nat) (L : List Bool) (w : World) (_hn : L.length ≤ 100000) (hcap : L.length ≤ cap) (hcm : cap ≤ 9223372036854775807) (HL : BA w a L) :
    Calls Tryd.prog 68 #[.slice a L.length cap] w fun e w' =>
      w' = w ∧ ∃ m, m ≤ L.length ∧ (∀ i, m ≤ i → i < L.length → L.getD i false = false) ∧ (m = 0 ∨ L.getD (m - 1) false = true) ∧ ∃ c', e = .returned (.slice a m c') ∧ m ≤ c' ∧ c' ≤ 9223372036854775807 := by
  go_enter Tryd.func68, Tryd.ntmps68
  go_wp2
  go_loopw [3] (fun i wr => ∃ k : Nat, k ≤ L.length ∧ i = .int .i64 k ∧ (∀ i, k ≤ i → i < L.length → L.getD i false = false) ∧ wr = w) (fun i _ => (intOf i).toNat)
  case atStart => exact ⟨L.length, Nat.le_refl _, rfl, fun i h1 h2 => by omega, rfl⟩
  case round =>
    obtain ⟨k, hk1, rfl, hz, rfl⟩ := hrel
    have HZ : Hid _ := hz
    clear hz
    by_cases hk0 : k = 0
    · subst hk0
      go_wp2
      go_ret
      exact ⟨rfl, 0, Nat.zero_le _, HZ.out, Or.inl rfl, _, rfl, by omega, by omega⟩
    · obtain ⟨j, rfl⟩ : ∃ j, k = j + 1 := ⟨k - 1, by omega⟩
      rcases HL with h | ⟨b, o, rfl, hlt, hc⟩
      · rw [h] at hk1; simp at hk1
      have hcx := hc j (by omega)
      obtain ⟨x, hx⟩ : ∃ x, x = L.getD j false := ⟨_, rfl⟩
      rw [← hx] at hcx
      have HX : Hid _ := hx
      clear hx hc
      cases x
      · go_wp2
        go_roundw
        case rel =>
          refine ⟨j, by omega, by go_num, ?_, by simp⟩
          intro i h1 h2
          by_cases hij : i = j
          · rw [hij]; exact HX.out.symm
          · exact HZ.out i (by omega) h2
        case measure => simp [intOf]
      · go_wp2
        go_ret
        exact ⟨rfl, j + 1, by omega, HZ.out, Or.inr HX.out.symm, _, rfl, by omega, by omega⟩

/-- cut: the bits without the noughts at the end. -/
theorem cut_any (a : Option Addr) (cap : Nat) (L : List Bool) (w : World) (hn : L.length ≤ 100000) (hcap : L.length ≤ cap) (hcm : cap ≤ 9223372036854775807) (HL : BA w a L) :
    Calls Tryd.prog 68 #[.slice a L.length cap] w fun e w' =>
      w' = w ∧ ∃ c' M, e = .returned (.slice a M.length c') ∧ NormB M (nb L) ∧ BA w a M ∧ M.length ≤ L.length ∧ M.length ≤ c' ∧ c' ≤ 9223372036854775807 := by
  refine (cut_core a cap L w hn hcap hcm HL).mono ?_
  rintro e w' ⟨rfl, m, hm, hz, ht, c', rfl, h1, h2⟩
  have hl : (L.take m).length = m := by simp; omega
  exact ⟨rfl, c', L.take m, by rw [hl], normB_take L m hm hz ht, HL.take m, by omega, by omega, h2⟩

end Go.Proofs.YtpeganecbjefoaaDoor
