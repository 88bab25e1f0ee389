/- SameNode, SameNodes, KeptNodes, KeptNode of the kit, by their contracts. -/
import Derived.Test.YtehfoblfmehbdaaDoorJAH
import Derived.Deep.QuietTactic
import Derived.BigQuiet
namespace Go.Proofs.YtehfoblfmehbdaaDoor
open Go.RowKit

/-- A world in which nothing of an elder one has turned. -/
structure Ext (w : World) where
  W : World
  h : Upd [] w W
theorem Ext.call {f : FuncId} {args : Array Value} {w : World} {v : Value} {n : Ext w} (h : Calls Tryd.prog f args n.W fun e w' => e = .returned v ∧ Upd [] n.W w') :
    Calls Tryd.prog f args n.W fun e w'' => e = .returned v ∧ ∃ m : Ext w, w'' = m.W :=
  h.mono fun _ w'' ⟨he, hu⟩ => ⟨he, ⟨w'', n.h.trans hu⟩, rfl⟩
theorem wp_region_ext {id : Nat} {Q : Exit → Act → World → Prop} {a : Act} {w : World} {l : List Oper} (hm : Tryd.prog.follows .mixedOrders = true) (hB : Region.lexB .any l.toArray = true)
    (h : wpQuiet Tryd.prog l.toArray (fun w' => ∃ n : Ext w, w' = n.W) (fun a' => ∀ w', (∃ n : Ext w, w' = n.W) → Q .normal a' w') l a) : (Code.region id l.toArray true).wp Tryd.prog Q a w :=
  wp_region_quiet (C := fun w' => ∃ n : Ext w, w' = n.W) hm hB ⟨⟨w.drew, (Upd.refl [] w).drew⟩, rfl⟩ (by simpa using h)

/-- What SameNode is to answer of a node and itself, of depth d. -/
def SamS (d : Nat) : Prop := ∀ (w : World) (cs cs' : List Value) (t : Nd), NIn w d cs t → NIn w d cs' t → nsz t ≤ 20000 → Calls Tryd.prog 38 #[.agg cs.toArray, .agg cs'.toArray] w fun e w' => e = .returned (.bool true) ∧ Upd [] w w'

set_option maxHeartbeats 4000000 in
set_option maxRecDepth 100000 in
theorem SameNodes_in (d : Nat) (ih : SamS d) (w : World) (a a' : Option Addr) (c c' : Nat) (K : List Nd) (h : RowN (NIn w d) w a K) (h' : RowN (NIn w d) w a' K) (hs : nszs K ≤ 20000) :
    Calls Tryd.prog 61 #[.slice a K.length c, .slice a' K.length c'] w fun e w' => e = .returned (.bool true) ∧ Upd [] w w' := by
  have hIl := nszs_len K
  have hlen : K.length ≤ 20000 := by omega
  have HS : Hid (nszs K ≤ 20000) := hs
  have HA : Hid (RowN (NIn w d) w a K) := h
  have HB : Hid (RowN (NIn w d) w a' K) := h'
  have IH : Hid (SamS d) := ih
  clear hIl hs h h' ih
  go_enter Tryd.func61, Tryd.ntmps61
  go_wp2
  go_loopw [5] (fun i wr => ∃ k : Nat, k ≤ K.length ∧ i = .int .i64 k ∧ Upd [] w wr) (fun i _ => K.length - (intOf i).toNat)
  case atStart => exact ⟨0, Nat.zero_le _, rfl, Upd.refl _ _⟩
  case round =>
    obtain ⟨k, hk, rfl, hU⟩ := hrel
    by_cases hkL : k < K.length
    · have i1 : (k : Int) < (K.length : Int) := by omega
      rcases HA.out with h0 | ⟨b, o, rfl, hltb, hc⟩
      · rw [h0] at hkL; simp at hkL
      rcases HB.out with h0 | ⟨b', o', rfl, hltb', hc'⟩
      · rw [h0] at hkL; simp at hkL
      obtain ⟨cs, hl5, hcell, hin⟩ := hc k hkL
      obtain ⟨cs', hl5', hcell', hin'⟩ := hc' k hkL
      obtain ⟨q0, q1, q2, q3, q4, rfl⟩ := list5 hl5
      obtain ⟨p0, p1, p2, p3, p4, rfl⟩ := list5 hl5'
      have HSZ : Hid (nsz K[k] ≤ 20000) := Nat.le_trans (nszs_get K k hkL) HS.out
      have HCALL : Hid (∀ n : Ext wr, Calls Tryd.prog 38 #[.agg #[q0, q1, q2, q3, q4], .agg #[p0, p1, p2, p3, p4]] n.W fun e w' => e = .returned (.bool true) ∧ Upd [] n.W w') := fun n =>
        IH.out n.W [q0, q1, q2, q3, q4] [p0, p1, p2, p3, p4] K[k] (NIn.mono (hU.trans n.h) _ _ _ hin) (NIn.mono (hU.trans n.h) _ _ _ hin') HSZ.out
      have mc : ∀ (n : Ext wr) j, j < 5 → n.W.cell? ⟨b, o + (k * 5 + j), none⟩ = [q0, q1, q2, q3, q4][j]? := fun n j hj => ((hU.trans n.h).cell (p := ⟨b, o + (k * 5 + j), none⟩) hltb (by simp)).trans (hcell j hj)
      have mc' : ∀ (n : Ext wr) j, j < 5 → n.W.cell? ⟨b', o' + (k * 5 + j), none⟩ = [p0, p1, p2, p3, p4][j]? := fun n j hj => ((hU.trans n.h).cell (p := ⟨b', o' + (k * 5 + j), none⟩) hltb' (by simp)).trans (hcell' j hj)
      have xq0 : ∀ n : Ext wr, n.W.cell? ⟨b, o + k * 5, none⟩ = some q0 := fun n => mc n 0 (by omega)
      have xp0 : ∀ n : Ext wr, n.W.cell? ⟨b', o' + k * 5, none⟩ = some p0 := fun n => mc' n 0 (by omega)
      have xq1 : ∀ n : Ext wr, n.W.cell? ⟨b, o + k * 5 + 1, none⟩ = some q1 := fun n => mc n 1 (by omega)
      have xp1 : ∀ n : Ext wr, n.W.cell? ⟨b', o' + k * 5 + 1, none⟩ = some p1 := fun n => mc' n 1 (by omega)
      have xq2 : ∀ n : Ext wr, n.W.cell? ⟨b, o + k * 5 + 2, none⟩ = some q2 := fun n => mc n 2 (by omega)
      have xp2 : ∀ n : Ext wr, n.W.cell? ⟨b', o' + k * 5 + 2, none⟩ = some p2 := fun n => mc' n 2 (by omega)
      have xq3 : ∀ n : Ext wr, n.W.cell? ⟨b, o + k * 5 + 3, none⟩ = some q3 := fun n => mc n 3 (by omega)
      have xp3 : ∀ n : Ext wr, n.W.cell? ⟨b', o' + k * 5 + 3, none⟩ = some p3 := fun n => mc' n 3 (by omega)
      have xq4 : ∀ n : Ext wr, n.W.cell? ⟨b, o + k * 5 + 4, none⟩ = some q4 := fun n => mc n 4 (by omega)
      have xp4 : ∀ n : Ext wr, n.W.cell? ⟨b', o' + k * 5 + 4, none⟩ = some p4 := fun n => mc' n 4 (by omega)
      clear hc hc' hin hin' hcell hcell' hl5 hl5' mc mc'
      go_wp2_with fail
      have hne : Nonempty (Ext wr) := ⟨⟨wr, Upd.refl [] wr⟩⟩
      refine wp_region_ext (by kernel_rfl) (by kernel_rfl) ?_
      repeat (go_big_quiet_step ((go_at_call 38; exact Ext.call (HCALL.out _))))
      refine wpQuiet_nil ?_
      intro _ hw'
      obtain ⟨nx, hw''⟩ := hw'
      subst hw''
      go_wp2
      go_roundw
      case rel => exact ⟨k + 1, by omega, by go_num, hU.trans nx.h⟩
      case measure => simp [intOf]; omega
    · have hkk : k = K.length := by omega
      have dd : decide ((k : Int) < (K.length : Int)) = false := by simp; omega
      go_wp2
      go_ret
      exact ⟨rfl, hU⟩
set_option maxHeartbeats 4000000 in
set_option maxRecDepth 100000 in
theorem SameNode_step (d : Nat) (ih : SamS d) : SamS (d + 1) := by
  intro w cs cs' t h h' hs
  cases t with
  | mk k s num pos K =>
    obtain ⟨a, c, rfl, hK, -⟩ := h
    obtain ⟨a', c', rfl, hK', -⟩ := h'
    simp only [nsz] at hs
    have HK : Hid (∀ W, Upd [] w W → _) := fun W hu => SameNodes_in d ih W a a' c c' K (hK.imp hu (NIn.mono hu d)) (hK'.imp hu (NIn.mono hu d)) hs
    clear hK hK' hs ih
    have u0 := ((Upd.refl [] w).alloc (.cells #[.int .u8 k, .string s, .int .i64 num, .int .i64 pos, .slice a K.length c] 25)).alloc (.cells #[.int .u8 k, .string s, .int .i64 num, .int .i64 pos, .slice a' K.length c'] 25)
    have e1 : (k == k) = true := by simp
    have e3 : (num == num) = true := by simp
    have e4 : (pos == pos) = true := by simp
    go_enter Tryd.func38, Tryd.ntmps38
    go_wp2_with fail
    refine (HK.out _ u0).mono ?_
    rintro e w1 ⟨rfl, hU1⟩
    go_wp2
    go_ret
    exact ⟨rfl, u0.trans hU1⟩
theorem SameNode_in : ∀ d, SamS d
  | 0 => fun _ _ _ _ h => h.elim
  | d + 1 => SameNode_step d (SameNode_in d)

/-- What KeptNode is to answer, of depth d. -/
def KepS (d : Nat) : Prop := ∀ (w : World) (cs cs' : List Value) (t : Nd) (P : Nat → Prop), NL w d cs t P → NIn w d cs' t → nsz t ≤ 20000 → Calls Tryd.prog 15 #[.agg cs.toArray, .agg cs'.toArray] w fun e w' => e = .returned (.bool true) ∧ Upd [] w w'

set_option maxHeartbeats 4000000 in
set_option maxRecDepth 100000 in
theorem KeptNodes_in (d : Nat) (ih : KepS d) (w : World) (P : Nat → Prop) (g cap : Nat) (a : Option Addr) (c : Nat) (K : List Nd) (hR : RowS (NL w d) w g cap K P) (hcap : K.length + 12 ≤ cap) (hM : ∀ i, i < 12 → ∀ j, j < 5 → w.cell? ⟨g, (K.length + i) * 5 + j, none⟩ = (markN i)[j]?) (h : RowN (NIn w d) w a K) (hs : nszs K ≤ 20000) :
    Calls Tryd.prog 39 #[.slice (some ⟨g, 0, none⟩) K.length cap, .slice a K.length c] w fun e w' => e = .returned (.bool true) ∧ Upd [] w w' := by
  have hIl := nszs_len K
  have hlen : K.length ≤ 20000 := by omega
  have HS : Hid (nszs K ≤ 20000) := hs
  have HA : Hid (RowN (NIn w d) w a K) := h
  have IH : Hid (KepS d) := ih
  have hglt := hR.lt
  obtain ⟨_, _, _, hcap2, Q, _, _, hel⟩ := hR
  have HEL : Hid (∀ i (hi : i < K.length), ∃ cs : List Value, cs.length = 5 ∧ (∀ j, j < 5 → w.cell? ⟨g, i * 5 + j, none⟩ = cs[j]?) ∧ NL w d cs K[i] (Q i)) := hel
  have HMK : Hid (∀ i, i < 12 → ∀ j, j < 5 → w.cell? ⟨g, (K.length + i) * 5 + j, none⟩ = (markN i)[j]?) := hM
  clear hIl hs h ih hel hM
  go_enter Tryd.func39, Tryd.ntmps39
  go_wp2
  go_loopw [6] (fun i wr => ∃ k : Nat, k ≤ K.length + 12 ∧ i = .int .i64 k ∧ Upd [] w wr) (fun i _ => K.length + 12 - (intOf i).toNat)
  case atStart => exact ⟨0, Nat.zero_le _, rfl, Upd.refl _ _⟩
  case round =>
    obtain ⟨k, hk, rfl, hU⟩ := hrel
    have hgr : g < wr.heap.size := Nat.lt_of_lt_of_le hglt hU.size
    by_cases hk2 : k < K.length + 12
    · have i2 : (k : Int) < ((K.length + 12 : Nat) : Int) := by omega
      have i3 : (k : Int) < (K.length : Int) + 12 := by omega
      by_cases hkL : k < K.length
      · rcases HA.out with h0 | ⟨b, o, rfl, hltb, hc⟩
        · rw [h0] at hkL; simp at hkL
        obtain ⟨cs, hl5, hcell, hki⟩ := HEL.out k hkL
        obtain ⟨cs', hl5', hcell', hin⟩ := hc k hkL
        obtain ⟨q0, q1, q2, q3, q4, rfl⟩ := list5 hl5
        obtain ⟨p0, p1, p2, p3, p4, rfl⟩ := list5 hl5'
        have HSZ : Hid (nsz K[k] ≤ 20000) := Nat.le_trans (nszs_get K k hkL) HS.out
        have HCALL : Hid (∀ n : Ext wr, Calls Tryd.prog 15 #[.agg #[q0, q1, q2, q3, q4], .agg #[p0, p1, p2, p3, p4]] n.W fun e w' => e = .returned (.bool true) ∧ Upd [] n.W w') := fun n =>
          IH.out n.W [q0, q1, q2, q3, q4] [p0, p1, p2, p3, p4] K[k] (Q k) (NL.upd (hU.trans n.h) _ _ _ _ (fun x _ => by simp) hki) (NIn.mono (hU.trans n.h) _ _ _ hin) HSZ.out
        have mc : ∀ (n : Ext wr) j, j < 5 → n.W.cell? ⟨g, k * 5 + j, none⟩ = [q0, q1, q2, q3, q4][j]? := fun n j hj => ((hU.trans n.h).cell (p := ⟨g, k * 5 + j, none⟩) hglt (by simp)).trans (hcell j hj)
        have mc' : ∀ (n : Ext wr) j, j < 5 → n.W.cell? ⟨b, o + (k * 5 + j), none⟩ = [p0, p1, p2, p3, p4][j]? := fun n j hj => ((hU.trans n.h).cell (p := ⟨b, o + (k * 5 + j), none⟩) hltb (by simp)).trans (hcell' j hj)
        have xq0 : ∀ n : Ext wr, n.W.cell? ⟨g, k * 5, none⟩ = some q0 := fun n => mc n 0 (by omega)
        have xp0 : ∀ n : Ext wr, n.W.cell? ⟨b, o + k * 5, none⟩ = some p0 := fun n => mc' n 0 (by omega)
        have xq1 : ∀ n : Ext wr, n.W.cell? ⟨g, k * 5 + 1, none⟩ = some q1 := fun n => mc n 1 (by omega)
        have xp1 : ∀ n : Ext wr, n.W.cell? ⟨b, o + k * 5 + 1, none⟩ = some p1 := fun n => mc' n 1 (by omega)
        have xq2 : ∀ n : Ext wr, n.W.cell? ⟨g, k * 5 + 2, none⟩ = some q2 := fun n => mc n 2 (by omega)
        have xp2 : ∀ n : Ext wr, n.W.cell? ⟨b, o + k * 5 + 2, none⟩ = some p2 := fun n => mc' n 2 (by omega)
        have xq3 : ∀ n : Ext wr, n.W.cell? ⟨g, k * 5 + 3, none⟩ = some q3 := fun n => mc n 3 (by omega)
        have xp3 : ∀ n : Ext wr, n.W.cell? ⟨b, o + k * 5 + 3, none⟩ = some p3 := fun n => mc' n 3 (by omega)
        have xq4 : ∀ n : Ext wr, n.W.cell? ⟨g, k * 5 + 4, none⟩ = some q4 := fun n => mc n 4 (by omega)
        have xp4 : ∀ n : Ext wr, n.W.cell? ⟨b, o + k * 5 + 4, none⟩ = some p4 := fun n => mc' n 4 (by omega)
        have d1 : decide ((k : Int) < (K.length : Int)) = true := by simp; omega
        have d2 : decide (k < K.length) = true := by simp; omega
        have d3 : decide (K.length ≤ k) = false := by simp; omega
        have d4 : decide ((k : Int) ≥ (K.length : Int)) = false := by simp; omega
        have d5 : decide ((K.length : Int) ≤ (k : Int)) = false := by simp; omega
        have i1 : (k : Int) < (K.length : Int) := by omega
        clear hc hki hin hcell hcell' hl5 hl5' mc mc'
        go_wp2_with fail
        have hne : Nonempty (Ext wr) := ⟨⟨wr, Upd.refl [] wr⟩⟩
        refine wp_region_ext (by kernel_rfl) (by kernel_rfl) ?_
        repeat (go_big_quiet_step ((go_at_call 15; exact Ext.call (HCALL.out _))))
        refine wpQuiet_nil ?_
        intro _ hw'
        obtain ⟨nx, hw''⟩ := hw'
        subst hw''
        go_wp2
        go_roundw
        case rel => exact ⟨k + 1, by omega, by go_num, hU.trans nx.h⟩
        case measure => simp [intOf]; omega
      · obtain ⟨j, hkj⟩ : ∃ j, k = K.length + j := ⟨k - K.length, by omega⟩
        have hj : j < 12 := by omega
        have mk : (k : Int) - (K.length : Int) = (j : Int) := by omega
        have mc : ∀ (n : Ext wr) i, i < 5 → n.W.cell? ⟨g, k * 5 + i, none⟩ = (markN j)[i]? := fun n i hi => by
          rw [hkj]
          exact ((hU.trans n.h).cell (p := ⟨g, (K.length + j) * 5 + i, none⟩) hglt (by simp)).trans (HMK.out j hj i hi)
        have xq0 : ∀ n : Ext wr, n.W.cell? ⟨g, k * 5, none⟩ = some (.int .u8 0) := fun n => mc n 0 (by omega)
        have xq1 : ∀ n : Ext wr, n.W.cell? ⟨g, k * 5 + 1, none⟩ = some (.string ⟨#[]⟩) := fun n => mc n 1 (by omega)
        have xq2 : ∀ n : Ext wr, n.W.cell? ⟨g, k * 5 + 2, none⟩ = some (.int .i64 0) := fun n => mc n 2 (by omega)
        have xq3 : ∀ n : Ext wr, n.W.cell? ⟨g, k * 5 + 3, none⟩ = some (.int .i64 ((8000024 + j : Nat) : Int)) := fun n => mc n 3 (by omega)
        have xq4 : ∀ n : Ext wr, n.W.cell? ⟨g, k * 5 + 4, none⟩ = some (.slice none 0 0) := fun n => mc n 4 (by omega)
        have d1 : decide ((k : Int) < (K.length : Int)) = false := by simp; omega
        have d2 : decide (k < K.length) = false := by simp; omega
        have d3 : decide (K.length ≤ k) = true := by simp; omega
        have d4 : decide ((k : Int) ≥ (K.length : Int)) = true := by simp; omega
        have d5 : decide ((K.length : Int) ≤ (k : Int)) = true := by simp; omega
        have HKJ : Hid (k = K.length + j) := hkj
        clear mc hkj
        go_wp2_with fail
        have hne : Nonempty (Ext wr) := ⟨⟨wr, Upd.refl [] wr⟩⟩
        refine wp_region_ext (by kernel_rfl) (by kernel_rfl) ?_
        repeat (go_big_quiet_step (first | (go_at_call 40; exact Ext.call (markNode_any j _ hj)) | (go_at_call 38; exact Ext.call (SameNode_in 1 _ (markN j) (markN j) (markT j) (markN_in _ j) (markN_in _ j) (by simp [markT, nsz, nszs])))))
        refine wpQuiet_nil ?_
        intro _ hw'
        obtain ⟨nx, hw''⟩ := hw'
        subst hw''
        go_wp2
        go_roundw
        case rel => exact ⟨k + 1, by omega, by go_num, hU.trans nx.h⟩
        case measure => simp [intOf]; omega
    · have hkk : k = K.length + 12 := by omega
      have dd : decide ((k : Int) < (K.length : Int) + 12) = false := by simp; omega
      go_wp2
      go_ret
      exact ⟨rfl, hU⟩
set_option maxHeartbeats 4000000 in
set_option maxRecDepth 100000 in
theorem KeptNode_step (d : Nat) (ih : KepS d) : KepS (d + 1) := by
  intro w cs cs' t P h h' hs
  have hplain := NL.plain (w := w) (d + 1) cs t P h
  cases t with
  | mk k s num pos K =>
    have HSm : Hid (∀ W, Upd [] w W → Calls Tryd.prog 38 #[.agg cs.toArray, .agg cs'.toArray] W fun e w' => e = .returned (.bool true) ∧ Upd [] W w') := fun W hu => SameNode_in (d + 1) W cs cs' _ (NIn.mono hu _ _ _ hplain) (NIn.mono hu _ _ _ h') hs
    obtain ⟨g, cap, rfl, hR, hc, hM⟩ := h
    obtain ⟨a, c, rfl, hK, -⟩ := h'
    simp only [nsz] at hs
    have HK : Hid (∀ W, Upd [] w W → _) := fun W hu => KeptNodes_in d ih W P g cap a c K (hR.upd hu (fun x _ => by simp) (fun x hx => hx) (fun cs t Q hx hR => NL.upd hu _ _ _ _ (fun x _ => by simp) hR)) hc (fun i hi j hj => (hu.cell (p := ⟨g, (K.length + i) * 5 + j, none⟩) hR.lt (by simp)).trans (hM i hi j hj)) (hK.imp hu (NIn.mono hu d)) hs
    clear hK hs ih hR hM hplain
    have u0 := ((Upd.refl [] w).alloc (.cells #[.int .u8 k, .string s, .int .i64 num, .int .i64 pos, .slice (some ⟨g, 0, none⟩) K.length cap] 25)).alloc (.cells #[.int .u8 k, .string s, .int .i64 num, .int .i64 pos, .slice a K.length c] 25)
    have tx := (Tb.new w #[.int .u8 k, .string s, .int .i64 num, .int .i64 pos, .slice (some ⟨g, 0, none⟩) K.length cap] _ rfl).old (.cells #[.int .u8 k, .string s, .int .i64 num, .int .i64 pos, .slice a K.length c] 25)
    have ty := Tb.new (w.alloc (.cells #[.int .u8 k, .string s, .int .i64 num, .int .i64 pos, .slice (some ⟨g, 0, none⟩) K.length cap] 25)) #[.int .u8 k, .string s, .int .i64 num, .int .i64 pos, .slice a K.length c] (w.heap.size + 1) (by simp)
    go_enter Tryd.func15, Tryd.ntmps15
    go_wp2_with (first | (refine load_G _ _ rfl _ _ rfl tx rfl rfl ?_) | (refine load_G _ _ rfl _ _ rfl ty rfl rfl ?_))
    refine (HSm.out _ u0).mono ?_
    rintro e w1 ⟨rfl, hU1⟩
    have tx1 := tx.mono hU1 (by simp)
    have ty1 := ty.mono hU1 (by simp)
    have u1 := u0.trans hU1
    have x4 := tx1.cell 4
    have y4 := ty1.cell 4
    clear u0 tx ty hU1
    go_wp2_with fail
    refine (HK.out _ u1).mono ?_
    rintro e w2 ⟨rfl, hU2⟩
    go_wp2
    go_ret
    exact ⟨rfl, u1.trans hU2⟩
/-- KeptNode, of a node and what was lent of it: true. -/
theorem KeptNode_in : ∀ d, KepS d
  | 0 => fun _ _ _ _ _ h => h.elim
  | d + 1 => KeptNode_step d (KeptNode_in d)

end Go.Proofs.YtehfoblfmehbdaaDoor
