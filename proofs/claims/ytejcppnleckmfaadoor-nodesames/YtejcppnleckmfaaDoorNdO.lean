/- NodesOf, great and many: by their contracts. -/
import Derived.Test.YtejcppnleckmfaaDoorNdM
namespace Go.Proofs.YtejcppnleckmfaaDoor
open Go.RowKit

/-- A count is answered: where it is not past m, it is the tree's. -/
def CntX (m : Int) (t : Nd) (e : Ending) : Prop := ∃ z : Int, e = .returned (.int .i64 z) ∧ 1 ≤ z ∧ z ≤ m + 60000000000000 ∧ (z ≤ m → z = (cntN t : Nat))
/-- How far the count has come. -/
def InvZ (m z : Int) (N : Nat) : Prop := 1 ≤ z ∧ z ≤ m + 60000000000000 ∧ (z ≤ m → z = (N : Int))
theorem InvZ.step {m z zz : Int} {N M c : Nat} (h : InvZ m z N) (hz : z ≤ m) (h1 : 1 ≤ zz) (h2 : zz ≤ m - z + 60000000000000) (h3 : zz ≤ m - z → zz = (c : Int)) (hM : M = N + c) : InvZ m (z + zz) M := by
  obtain ⟨a1, a2, a3⟩ := h
  refine ⟨by omega, by omega, fun h => ?_⟩
  have := a3 hz
  have := h3 (by omega)
  omega
def NofX (d : Nat) : Prop := ∀ (w : World) (cs : List Value) (t : Nd) (m : Int), NIn w d cs t → nsz t ≤ 2199023255488 → nxz t ≤ 140737488355328 → 0 ≤ m → m ≤ 20000 → Calls Tryd.prog 10 #[.agg cs.toArray, .int .i64 m] w fun e w' => CntX m t e ∧ Upd [] w w'

set_option maxHeartbeats 4000000 in
set_option maxRecDepth 100000 in
theorem NofX_step (d : Nat) (ih : NofX d) : NofX (d + 1) := by
  intro w cs t m h hs hx hm0 hm1
  obtain ⟨k, s, num, pos, K⟩ := t
  obtain ⟨a, c, rfl, hK, -⟩ := h
  simp only [nsz] at hs
  simp only [nxz] at hx
  have HZ : Hid (nszs K ≤ 2199023255488) := hs
  have HX : Hid (nxzs K ≤ 140737488355328) := by show _ ≤ _; omega
  have hsz : s.size ≤ 140737488355328 := by omega
  have hl : K.length ≤ 2199023255488 := Nat.le_trans (nszs_len K) hs
  clear hs hx
  have HK : Hid (RowN (NIn w d) w a K) := hK
  have IH : Hid (∀ (w : World) (cs : List Value) (t : Nd) (m : Int), NIn w d cs t → nsz t ≤ 2199023255488 → nxz t ≤ 140737488355328 → 0 ≤ m → m ≤ 20000 → Calls Tryd.prog 10 #[.agg cs.toArray, .int .i64 m] w fun e w' => CntX m t e ∧ Upd [] w w') := ih
  have HTB0 : Hid (Tb (w.alloc (.cells #[.int .u8 k, .string s, .int .i64 num, .int .i64 pos, .slice a K.length c] 25)) w.heap.size #[.int .u8 k, .string s, .int .i64 num, .int .i64 pos, .slice a K.length c]) := Tb.new _ _ _ rfl
  have HU0 : Hid (Upd [] w (w.alloc (.cells #[.int .u8 k, .string s, .int .i64 num, .int .i64 pos, .slice a K.length c] 25))) := (Upd.refl [] w).alloc _
  obtain ⟨n0, hn0⟩ : ∃ n : Nat, n = 1 + s.size / 8 := ⟨_, rfl⟩
  have HW1 : Hid (wrap64 (1 + wrap64 ((s.size : Int) / 8)) = (n0 : Int)) := by show _ = _; unfold wrap64; omega
  have HE : Hid (cntN (.mk k s num pos K) = n0 + cntL K) := by show _ = _; rw [cntN, hn0]
  have HN0 : Hid (1 ≤ n0 ∧ n0 ≤ 60000000000000) := ⟨by omega, by omega⟩
  clear hK ih hn0 hsz
  go_enter Tryd.func10, Tryd.ntmps10
  go_wp2
  go_loopw [5, 6] (fun n i wr => ∃ (j : Nat) (z : Int), j ≤ K.length ∧ i = .int .i64 j ∧ n = .int .i64 z ∧ Upd [] w wr ∧ Tb wr w.heap.size #[.int .u8 k, .string s, .int .i64 num, .int .i64 pos, .slice a K.length c] ∧ InvZ m z (n0 + cntL (K.take j))) (fun _ i _ => K.length - (intOf i).toNat)
  case atStart =>
    refine ⟨0, (n0 : Int), Nat.zero_le _, rfl, by rw [HW1.out], HU0.out, HTB0.out, ?_⟩
    have := HN0.out
    exact ⟨by omega, by omega, fun _ => by simp [cntL]⟩
  case round =>
    obtain ⟨i, z, hi, rfl, rfl, hU, htb, hzf⟩ := hrel
    have y4 : wr.cell? ⟨w.heap.size, 4, none⟩ = some (.slice a K.length c) := htb.cell 4
    by_cases hlt2 : i < K.length
    · have i1 : (i : Int) < (K.length : Int) := by omega
      by_cases hzm : z ≤ m
      · rcases HK.out with h0 | ⟨b, o, rfl, hlt, hc⟩
        · rw [h0] at hlt2; simp at hlt2
        · obtain ⟨cs, hl5, hcell, hin⟩ := hc i hlt2
          obtain ⟨q0, q1, q2, q3, q4, rfl⟩ := list5 hl5
          have HIN : Hid (NIn w d [q0, q1, q2, q3, q4] K[i]) := hin
          have HSZ : Hid (nsz K[i] ≤ 2199023255488) := Nat.le_trans (nszs_get K i hlt2) HZ.out
          have HXK : Hid (nxz K[i] ≤ 140737488355328) := Nat.le_trans (nxzs_get K i hlt2) HX.out
          have x0 : wr.cell? ⟨b, o + i * 5, none⟩ = some q0 := (hU.cell (p := ⟨b, o + (i * 5 + 0), none⟩) hlt (by simp)).trans (hcell 0 (by omega))
          have x1 : wr.cell? ⟨b, o + i * 5 + 1, none⟩ = some q1 := (hU.cell (p := ⟨b, o + (i * 5 + 1), none⟩) hlt (by simp)).trans (hcell 1 (by omega))
          have x2 : wr.cell? ⟨b, o + i * 5 + 2, none⟩ = some q2 := (hU.cell (p := ⟨b, o + (i * 5 + 2), none⟩) hlt (by simp)).trans (hcell 2 (by omega))
          have x3 : wr.cell? ⟨b, o + i * 5 + 3, none⟩ = some q3 := (hU.cell (p := ⟨b, o + (i * 5 + 3), none⟩) hlt (by simp)).trans (hcell 3 (by omega))
          have x4 : wr.cell? ⟨b, o + i * 5 + 4, none⟩ = some q4 := (hU.cell (p := ⟨b, o + (i * 5 + 4), none⟩) hlt (by simp)).trans (hcell 4 (by omega))
          have HU : Hid (Upd [] w wr) := hU
          have HTB : Hid (Tb wr _ _) := htb
          have HZN : Hid (InvZ m z (n0 + cntL (K.take i))) := hzf
          have hwm : IntKind.i64.wrap (m - z) = m - z := by have := hzf.1; have := hzf.2.1; rw [IntKind.wrap_i64]; omega
          have hwn : wrap64 (m - z) = m - z := by have := hzf.1; have := hzf.2.1; unfold wrap64; omega
          clear hc hcell hin hU htb hzf
          go_wp2_with fail
          refine Calls.mono (IH.out wr _ _ _ (NIn.mono HU.out _ _ _ HIN.out) HSZ.out HXK.out (by omega) (by have := HZN.out.1; omega)) ?_
          rintro e w2 ⟨⟨zz, rfl, hz1, hz2, hz3⟩, hU2⟩
          have HU2 : Hid (Upd [] w w2) := HU.out.trans hU2
          have HTB2 : Hid (Tb w2 _ _) := HTB.out.mono hU2 (by simp)
          have hww : IntKind.i64.wrap (z + zz) = z + zz := by have := HZN.out.1; have := HZN.out.2.1; rw [IntKind.wrap_i64]; omega
          have hwx : wrap64 (z + zz) = z + zz := by have := HZN.out.1; have := HZN.out.2.1; unfold wrap64; omega
          have HZM : Hid (1 ≤ zz ∧ zz ≤ (m - z) + 60000000000000 ∧ (zz ≤ (m - z) → zz = cntN K[i])) := ⟨hz1, hz2, hz3⟩
          clear hU2 x0 x1 x2 x3 x4 y4 hz1 hz2 hz3
          go_wp2
          go_roundw
          case rel => exact ⟨i + 1, z + zz, by omega, by go_num, rfl, HU2.out, HTB2.out, HZN.out.step hzm HZM.out.1 HZM.out.2.1 HZM.out.2.2 (by rw [cntL_take K i hlt2]; omega)⟩
          case measure => simp [intOf]; omega
      · have hzb : decide (z ≤ m) = false := by simp; omega
        have HU : Hid (Upd [] w wr) := hU
        have HZS : Hid (1 ≤ z ∧ z ≤ m + 60000000000000) := ⟨hzf.1, hzf.2.1⟩
        clear hU htb hzf
        go_wp2
        go_ret
        exact ⟨⟨_, rfl, HZS.out.1, HZS.out.2, fun h => by omega⟩, HU.out⟩
    · have hd : decide ((i : Int) < (K.length : Int)) = false := by simp; omega
      have HU : Hid (Upd [] w wr) := hU
      have HZS : Hid (1 ≤ z ∧ z ≤ m + 60000000000000 ∧ (z ≤ m → z = (cntN (.mk k s num pos K) : Nat))) := ⟨hzf.1, hzf.2.1, fun h => by have := hzf.2.2 h; rw [List.take_of_length_le (by omega)] at this; rw [HE.out]; exact this⟩
      clear hU htb hzf
      go_wp2
      go_ret
      exact ⟨⟨_, rfl, HZS.out⟩, HU.out⟩
theorem NofX_all : ∀ d, NofX d
  | 0 => fun _ _ _ _ h => h.elim
  | d + 1 => NofX_step d (NofX_all d)

/-- There are not too many. -/
def GreatP (t : Nd) (e : Ending) : Prop := ∃ b : Bool, e = .returned (.bool b) ∧ (b = false → cntN t ≤ 20000)
set_option maxHeartbeats 1000000 in
set_option maxRecDepth 100000 in
theorem great_in (d : Nat) (w : World) (cs : List Value) (t : Nd) (h : NIn w d cs t) (hs : nsz t ≤ 2199023255488) (hx : nxz t ≤ 140737488355328) :
    Calls Tryd.prog 4 #[.agg cs.toArray] w fun e w' => GreatP t e ∧ Upd [] w w' := by
  have hsev := h.five
  have HN : Hid (∀ W, Upd [] w W → Calls Tryd.prog 10 #[.agg cs.toArray, .int .i64 20000] W fun e w' => CntX 20000 t e ∧ Upd [] W w') := fun W hu => NofX_all d W cs t 20000 (NIn.mono hu _ _ _ h) hs hx (by omega) (by omega)
  clear h hs hx
  obtain ⟨C, hC⟩ : ∃ C, C = cs.toArray := ⟨_, rfl⟩
  rw [← hC] at hsev HN ⊢
  have tb0 : Tb (w.alloc (.cells C 25)) w.heap.size C := Tb.new _ _ _ rfl
  have HU : Hid (Upd [] w (w.alloc (.cells C 25))) := (Upd.refl [] w).alloc _
  clear hC
  go_enter Tryd.func4, Tryd.ntmps4
  go_wp2_with (first | (refine load_T _ rfl _ rfl _ _ rfl tb0 hsev ?_) | fail)
  refine Calls.mono (HN.out _ HU.out) ?_
  rintro e w1 ⟨⟨z, rfl, _, _, hz⟩, h1⟩
  have U1 : Hid (Upd [] w w1) := HU.out.trans h1
  have HZ : Hid (z ≤ 20000 → z = (cntN t : Nat)) := hz
  clear h1 hz tb0
  by_cases hgt : (20000 : Int) < z
  · go_wp2
    go_ret
    exact ⟨⟨_, rfl, fun h => by simp at h⟩, U1.out⟩
  · have hd : decide ((20000 : Int) < z) = false := by simp; omega
    go_wp2
    go_ret
    exact ⟨⟨_, rfl, fun _ => by have := HZ.out (by omega); omega⟩, U1.out⟩

end Go.Proofs.YtejcppnleckmfaaDoor
