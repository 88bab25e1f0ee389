/- all of package node, of whatever closure. -/
import Derived.Test.YtejcppnleckmfaaDoorNdO
import Derived.Deep.RegionWith
namespace Go.Proofs.YtejcppnleckmfaaDoor
open Go.RowKit

theorem NIn.kd {w : World} {d : Nat} {cs : List Value} {t : Nd} (h : NIn w d cs t) : cs[0]? = some (.int .u8 t.kd) := by
  cases d with
  | zero => exact h.elim
  | succ d =>
    cases t
    obtain ⟨_, _, rfl, _⟩ := h
    rfl
theorem RowN.turn {R Q : List Value → Nd → Prop} {S : List Nat} {w w' : World} (hu : Upd S w w') (hS : ∀ b ∈ S, ∃ n, IntB w b n) (hkd : ∀ cs t, R cs t → cs[0]? = some (.int .u8 t.kd)) (himp : ∀ cs t, R cs t → Q cs t) (a : Option Addr) (K : List Nd) (h1 : RowN R w a K) : RowN Q w' a K := by
  rcases h1 with h | ⟨b, o, e, hlt, hc⟩
  · exact Or.inl h
  · by_cases hK : K = []
    · exact Or.inl hK
    have hpos : 0 < K.length := by cases K with | nil => exact absurd rfl hK | cons x t => simp
    have hb : b ∉ S := fun hm => by
      obtain ⟨n, hn⟩ := hS b hm
      obtain ⟨cs, k1, k2, k3⟩ := hc 0 hpos
      have hk := k2 0 (by omega)
      rw [hkd _ _ k3] at hk
      have := cell_of_row w b (o + (0 * 5 + 0)) _ _ _ hn
      rw [this] at hk
      cases ho : o + (0 * 5 + 0) with
      | zero => rw [ho] at hk; simp at hk
      | succ m => rw [ho] at hk; simp at hk
    refine Or.inr ⟨b, o, e, Nat.lt_of_lt_of_le hlt hu.size, fun i hi => ?_⟩
    obtain ⟨cs, k1, k2, k3⟩ := hc i hi
    exact ⟨cs, k1, fun j hj => (hu.cell (p := ⟨b, o + (i * 5 + j), none⟩) hlt hb).trans (k2 j hj), himp _ _ k3⟩
/-- Boxes of integers may turn: trees stay. -/
theorem NIn.upd {S : List Nat} {w w' : World} (hu : Upd S w w') (hS : ∀ b ∈ S, ∃ n, IntB w b n) : ∀ (d : Nat) (cs : List Value) (t : Nd), NIn w d cs t → NIn w' d cs t := by
  intro d
  induction d with
  | zero => intro cs t h; exact h.elim
  | succ d ih =>
    intro cs t h
    cases t with
    | mk k s num pos K =>
      obtain ⟨a, c, rfl, h1, hcp⟩ := h
      exact ⟨a, c, rfl, RowN.turn hu hS (fun _ _ h => h.kd) ih a K h1, hcp⟩
theorem RowN.upd {S : List Nat} {w w' : World} (hu : Upd S w w') (hS : ∀ b ∈ S, ∃ n, IntB w b n) (d : Nat) (a : Option Addr) (K : List Nd) (h : RowN (NIn w d) w a K) : RowN (NIn w' d) w' a K :=
  RowN.turn hu hS (fun _ _ h => h.kd) (NIn.upd hu hS d) a K h

/-- Yes or no is answered. -/
def AllP (Y N : World → Prop) (e : Ending) (w' : World) : Prop := ∃ b : Bool, e = .returned (.bool b) ∧ (b = true → Y w') ∧ (b = false → N w')

set_option maxHeartbeats 4000000 in
set_option maxRecDepth 100000 in
theorem all_gen (a : Option Addr) (c d : Nat) (K : List Nd) (fid : Nat) (cp : Array Value) (I : Nat → World → Prop) (F : World → Prop) (w : World) (hs : K.length ≤ 2199023255488)
    (eg : ∀ args w, (callFunc fid args).run Tryd.prog w = .ok (.enter fid args) w) (h0 : I 0 w) (hI : ∀ k W, I k W → RowN (NIn W d) W a K) (hV : ∀ k W V, I k W → Upd [] W V → I k V)
    (hp : ∀ k (hk : k < K.length) (cs : List Value) (W : World), I k W → NIn W d cs K[k] → Calls Tryd.prog fid (#[.agg cs.toArray] ++ cp) W (AllP (I (k + 1)) F)) :
    Calls Tryd.prog 41 #[.slice a K.length c, .func (.func fid) #[] cp] w (AllP (I K.length) F) := by
  have HP : Hid (∀ k (hk : k < K.length) (cs : List Value) (W : World), I k W → NIn W d cs K[k] → Calls Tryd.prog fid (#[.agg cs.toArray] ++ cp) W (AllP (I (k + 1)) F)) := hp
  have HI : Hid (∀ k W, I k W → RowN (NIn W d) W a K) := hI
  have HV : Hid (∀ k W V, I k W → Upd [] W V → I k V) := hV
  clear hp hI hV
  go_enter Tryd.func41, Tryd.ntmps41
  go_wp2
  go_loopw [9] (fun i wr => ∃ k : Nat, k ≤ K.length ∧ i = .int .i64 k ∧ I k wr) (fun i _ => K.length - (intOf i).toNat)
  case atStart => exact ⟨0, Nat.zero_le _, rfl, h0⟩
  case round =>
    obtain ⟨k, hk, rfl, hik⟩ := hrel
    by_cases hlt : k < K.length
    · have i1 : (k : Int) < (K.length : Int) := by omega
      rcases HI.out k _ hik with h1 | ⟨b, o, rfl, hb, hc⟩
      · rw [h1] at hlt; simp at hlt
      obtain ⟨cs, hl5, hcell, hin⟩ := hc k hlt
      have hone := hin.one
      obtain ⟨q0, q1, q2, q3, q4, rfl⟩ := list5 hl5
      have x0 : wr.cell? ⟨b, o + k * 5, none⟩ = some q0 := hcell 0 (by omega)
      have x1 : wr.cell? ⟨b, o + k * 5 + 1, none⟩ = some q1 := hcell 1 (by omega)
      have x2 : wr.cell? ⟨b, o + k * 5 + 2, none⟩ = some q2 := hcell 2 (by omega)
      have x3 : wr.cell? ⟨b, o + k * 5 + 3, none⟩ = some q3 := hcell 3 (by omega)
      have x4 : wr.cell? ⟨b, o + k * 5 + 4, none⟩ = some q4 := hcell 4 (by omega)
      have HIN : Hid (NIn wr d [q0, q1, q2, q3, q4] K[k]) := hin
      have HIK : Hid (I k wr) := hik
      have tz : Tb (wr.alloc (.cells #[.int .u8 0, .string ⟨#[]⟩, .int .i64 0, .int .i64 0, .slice none 0 0] 25)) wr.heap.size #[.int .u8 0, .string ⟨#[]⟩, .int .i64 0, .int .i64 0, .slice none 0 0] := Tb.new _ _ _ rfl
      have HUZ : Hid (Upd [] wr (wr.alloc (.cells #[.int .u8 0, .string ⟨#[]⟩, .int .i64 0, .int .i64 0, .slice none 0 0] 25))) := (Upd.refl [] wr).alloc _
      clear hc hcell hin hik h0
      go_wp2_with (first
        | (refine store_T _ rfl _ _ rfl _ #[q0, q1, q2, q3, q4] _ rfl rfl tz rfl rfl hone ?_; intro w1 t1 u1)
        | (refine load_T _ rfl _ rfl _ _ rfl t1 rfl ?_)
        | fail)
      have U1 : Upd [] wr w1 := HUZ.out.then u1 (by simp)
      refine Calls.mono (HP.out k hlt _ _ (HV.out k _ _ HIK.out U1) (NIn.mono U1 _ _ _ HIN.out)) ?_
      rintro e w2 ⟨bb, rfl, hy, hn⟩
      have HY : Hid (bb = true → I (k + 1) w2) := hy
      have HN : Hid (bb = false → F w2) := hn
      clear hy hn t1 u1 U1 tz x0 x1 x2 x3 x4
      cases bb with
      | true =>
        go_wp2
        go_roundw
        case rel => exact ⟨k + 1, by omega, by go_num, by have := HY.out; simpa using this⟩
        case measure => simp [intOf]; omega
      | false =>
        go_wp2
        go_ret
        exact ⟨false, rfl, fun h => (by cases h), fun _ => (by have := HN.out; simpa using this)⟩
    · have hd : decide ((k : Int) < (K.length : Int)) = false := by simp; omega
      have HIK : Hid (I K.length wr) := by
        have : k = K.length := by omega
        rw [← this]; exact hik
      clear hik h0
      go_wp2
      go_ret
      exact ⟨true, rfl, fun _ => HIK.out, fun h => by cases h⟩

end Go.Proofs.YtejcppnleckmfaaDoor
