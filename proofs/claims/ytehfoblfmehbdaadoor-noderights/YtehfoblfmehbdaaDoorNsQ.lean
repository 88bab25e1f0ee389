/- awake. -/
import Derived.Test.YtehfoblfmehbdaaDoorNsP
namespace Go.Proofs.YtehfoblfmehbdaaDoor
open Go.RowKit

theorem new_blk (w : World) (cs : Array Value) (v : World) (hv : v = w.alloc (.cells cs 25)) : v.heap[w.heap.size]? = some (.cells cs 25 (0, 0)) ∧ Upd [] w v := by
  rw [hv]; exact ⟨heap_alloc_new w _, (Upd.refl [] w).alloc _⟩
theorem kids2 {W : World} {d : Nat} {cells : Array Value} {a b : Nd} {c0 c1 c2 c3 c4 e0 e1 e2 e3 e4 : Value} (hc : cells = #[c0, c1, c2, c3, c4, e0, e1, e2, e3, e4]) (ha : NIn W d [c0, c1, c2, c3, c4] a) (hb : NIn W d [e0, e1, e2, e3, e4] b) :
    ∀ i (hi : i < [a, b].length), ∃ cs : List Value, cs.length = 5 ∧ (∀ j, j < 5 → cells[i * 5 + j]? = cs[j]?) ∧ NIn W d cs [a, b][i] := by
  intro i hi
  subst hc
  match i, hi with
  | 0, _ => exact ⟨_, rfl, fun j hj => by (match j, hj with | 0, _ => rfl | 1, _ => rfl | 2, _ => rfl | 3, _ => rfl | 4, _ => rfl), ha⟩
  | 1, _ => exact ⟨_, rfl, fun j hj => by (match j, hj with | 0, _ => rfl | 1, _ => rfl | 2, _ => rfl | 3, _ => rfl | 4, _ => rfl), hb⟩
theorem kids1 {W : World} {d : Nat} {cells : Array Value} {a : Nd} {c0 c1 c2 c3 c4 : Value} (hc : cells = #[c0, c1, c2, c3, c4]) (ha : NIn W d [c0, c1, c2, c3, c4] a) :
    ∀ i (hi : i < [a].length), ∃ cs : List Value, cs.length = 5 ∧ (∀ j, j < 5 → cells[i * 5 + j]? = cs[j]?) ∧ NIn W d cs [a][i] := by
  intro i hi
  subst hc
  match i, hi with
  | 0, _ => exact ⟨_, rfl, fun j hj => by (match j, hj with | 0, _ => rfl | 1, _ => rfl | 2, _ => rfl | 3, _ => rfl | 4, _ => rfl), ha⟩

set_option maxHeartbeats 8000000 in
set_option maxRecDepth 100000 in
theorem awake_any (A : Nat → Option Addr) (C : Nat → Nat) (w : World) (hF : Frm A C w) (hO : Ops w) : Calls Tryd.prog 5 #[] w fun e w' => e = .returned (.bool true) ∧ Upd [] w w' := by
  have HT : Hid (Frm A C w ∧ Ops w) := ⟨hF, hO⟩
  clear hF hO
  go_enter Tryd.func5, Tryd.ntmps5
  go_wp2_with fail
  refine Calls.mono (one_any _) ?_
  rintro e w1 ⟨rfl, u1⟩
  go_wp2_with fail
  refine Calls.mono (x_any _) ?_
  rintro e w2 ⟨rfl, u2⟩
  go_wp2_with fail
  obtain ⟨w3, hv3⟩ : ∃ v, v = w2.alloc (.cells #[.int .u8 1, .string ⟨#[49]⟩, .int .i64 0, .int .i64 0, .slice none 0 0, .int .u8 3, .string ⟨#[88]⟩, .int .i64 0, .int .i64 0, .slice none 0 0] 25) := ⟨_, rfl⟩
  rw [← hv3]
  obtain ⟨b3, u3⟩ := new_blk w2 _ w3 hv3
  clear hv3
  refine Calls.mono (lof_any 5 ⟨#[]⟩ (some ⟨w2.heap.size, 0, none⟩) 2 2 _) ?_
  rintro e w4 ⟨rfl, u4⟩
  go_wp2_with fail
  obtain ⟨w5, hv5⟩ : ∃ v, v = w4.alloc (.cells #[.int .u8 5, .string ⟨#[]⟩, .int .i64 0, .int .i64 0, .slice (some ⟨w2.heap.size, 0, none⟩) 2 2] 25) := ⟨_, rfl⟩
  rw [← hv5]
  obtain ⟨b5, u5⟩ := new_blk w4 _ w5 hv5
  clear hv5
  refine Calls.mono (leaf_any 2 ⟨#[102]⟩ _) ?_
  rintro e w6 ⟨rfl, u6⟩
  go_wp2_with fail
  refine Calls.mono (x_any _) ?_
  rintro e w7 ⟨rfl, u7⟩
  go_wp2_with fail
  obtain ⟨w8, hv8⟩ : ∃ v, v = w7.alloc (.cells #[.int .u8 2, .string ⟨#[102]⟩, .int .i64 0, .int .i64 0, .slice none 0 0, .int .u8 3, .string ⟨#[88]⟩, .int .i64 0, .int .i64 0, .slice none 0 0] 25) := ⟨_, rfl⟩
  rw [← hv8]
  obtain ⟨b8, u8⟩ := new_blk w7 _ w8 hv8
  clear hv8
  refine Calls.mono (lof_any 9 ⟨#[]⟩ (some ⟨w7.heap.size, 0, none⟩) 2 2 _) ?_
  rintro e w9 ⟨rfl, u9⟩
  go_wp2_with fail
  obtain ⟨w10, hv10⟩ : ∃ v, v = w9.alloc (.cells #[.int .u8 9, .string ⟨#[]⟩, .int .i64 0, .int .i64 0, .slice (some ⟨w7.heap.size, 0, none⟩) 2 2] 25) := ⟨_, rfl⟩
  rw [← hv10]
  obtain ⟨b10, u10⟩ := new_blk w9 _ w10 hv10
  clear hv10
  refine Calls.mono (x_any _) ?_
  rintro e w11 ⟨rfl, u11⟩
  go_wp2_with fail
  refine Calls.mono (one_any _) ?_
  rintro e w12 ⟨rfl, u12⟩
  go_wp2_with fail
  obtain ⟨w13, hv13⟩ : ∃ v, v = w12.alloc (.cells #[.int .u8 3, .string ⟨#[88]⟩, .int .i64 0, .int .i64 0, .slice none 0 0, .int .u8 1, .string ⟨#[49]⟩, .int .i64 0, .int .i64 0, .slice none 0 0] 25) := ⟨_, rfl⟩
  rw [← hv13]
  obtain ⟨b13, u13⟩ := new_blk w12 _ w13 hv13
  clear hv13
  refine Calls.mono (lof_any 8 ⟨#[]⟩ (some ⟨w12.heap.size, 0, none⟩) 2 2 _) ?_
  rintro e w14 ⟨rfl, u14⟩
  go_wp2_with fail
  obtain ⟨w15, hv15⟩ : ∃ v, v = w14.alloc (.cells #[.int .u8 8, .string ⟨#[]⟩, .int .i64 0, .int .i64 0, .slice (some ⟨w12.heap.size, 0, none⟩) 2 2] 25) := ⟨_, rfl⟩
  rw [← hv15]
  obtain ⟨b15, u15⟩ := new_blk w14 _ w15 hv15
  clear hv15
  refine Calls.mono (one_any _) ?_
  rintro e w16 ⟨rfl, u16⟩
  go_wp2_with fail
  obtain ⟨w17, hv17⟩ : ∃ v, v = w16.alloc (.cells #[.int .u8 1, .string ⟨#[49]⟩, .int .i64 0, .int .i64 0, .slice none 0 0] 25) := ⟨_, rfl⟩
  rw [← hv17]
  obtain ⟨b17, u17⟩ := new_blk w16 _ w17 hv17
  clear hv17
  refine Calls.mono (lof_any 7 ⟨#[45]⟩ (some ⟨w16.heap.size, 0, none⟩) 1 1 _) ?_
  rintro e w18 ⟨rfl, u18⟩
  go_wp2_with fail
  obtain ⟨w19, hv19⟩ : ∃ v, v = w18.alloc (.cells #[.int .u8 7, .string ⟨#[45]⟩, .int .i64 0, .int .i64 0, .slice (some ⟨w16.heap.size, 0, none⟩) 1 1] 25) := ⟨_, rfl⟩
  rw [← hv19]
  obtain ⟨b19, u19⟩ := new_blk w18 _ w19 hv19
  clear hv19
  have UW : Upd [] w w19 := ((((((((((((((((((u1.trans u2).trans u3).trans u4).trans u5).trans u6).trans u7).trans u8).trans u9).trans u10).trans u11).trans u12).trans u13).trans u14).trans u15).trans u16).trans u17).trans u18).trans u19)
  have R1 : w19.heap[w2.heap.size]? = some (.cells #[.int .u8 1, .string ⟨#[49]⟩, .int .i64 0, .int .i64 0, .slice none 0 0, .int .u8 3, .string ⟨#[88]⟩, .int .i64 0, .int .i64 0, .slice none 0 0] 25 (0, 0)) := (Upd.block (S := []) ((((((((((((((((u4.trans u5).trans u6).trans u7).trans u8).trans u9).trans u10).trans u11).trans u12).trans u13).trans u14).trans u15).trans u16).trans u17).trans u18).trans u19)) _ (lt_of_block b3) (by simp)).trans b3
  have T1 : w19.heap[w4.heap.size]? = some (.cells #[.int .u8 5, .string ⟨#[]⟩, .int .i64 0, .int .i64 0, .slice (some ⟨w2.heap.size, 0, none⟩) 2 2] 25 (0, 0)) := (Upd.block (S := []) ((((((((((((((u6.trans u7).trans u8).trans u9).trans u10).trans u11).trans u12).trans u13).trans u14).trans u15).trans u16).trans u17).trans u18).trans u19)) _ (lt_of_block b5) (by simp)).trans b5
  have R2 : w19.heap[w7.heap.size]? = some (.cells #[.int .u8 2, .string ⟨#[102]⟩, .int .i64 0, .int .i64 0, .slice none 0 0, .int .u8 3, .string ⟨#[88]⟩, .int .i64 0, .int .i64 0, .slice none 0 0] 25 (0, 0)) := (Upd.block (S := []) (((((((((((u9.trans u10).trans u11).trans u12).trans u13).trans u14).trans u15).trans u16).trans u17).trans u18).trans u19)) _ (lt_of_block b8) (by simp)).trans b8
  have T2 : w19.heap[w9.heap.size]? = some (.cells #[.int .u8 9, .string ⟨#[]⟩, .int .i64 0, .int .i64 0, .slice (some ⟨w7.heap.size, 0, none⟩) 2 2] 25 (0, 0)) := (Upd.block (S := []) (((((((((u11.trans u12).trans u13).trans u14).trans u15).trans u16).trans u17).trans u18).trans u19)) _ (lt_of_block b10) (by simp)).trans b10
  have R3 : w19.heap[w12.heap.size]? = some (.cells #[.int .u8 3, .string ⟨#[88]⟩, .int .i64 0, .int .i64 0, .slice none 0 0, .int .u8 1, .string ⟨#[49]⟩, .int .i64 0, .int .i64 0, .slice none 0 0] 25 (0, 0)) := (Upd.block (S := []) ((((((u14.trans u15).trans u16).trans u17).trans u18).trans u19)) _ (lt_of_block b13) (by simp)).trans b13
  have T3 : w19.heap[w14.heap.size]? = some (.cells #[.int .u8 8, .string ⟨#[]⟩, .int .i64 0, .int .i64 0, .slice (some ⟨w12.heap.size, 0, none⟩) 2 2] 25 (0, 0)) := (Upd.block (S := []) ((((u16.trans u17).trans u18).trans u19)) _ (lt_of_block b15) (by simp)).trans b15
  have R4 : w19.heap[w16.heap.size]? = some (.cells #[.int .u8 1, .string ⟨#[49]⟩, .int .i64 0, .int .i64 0, .slice none 0 0] 25 (0, 0)) := (Upd.block (S := []) ((u18.trans u19)) _ (lt_of_block b17) (by simp)).trans b17
  have T4 : w19.heap[w18.heap.size]? = some (.cells #[.int .u8 7, .string ⟨#[45]⟩, .int .i64 0, .int .i64 0, .slice (some ⟨w16.heap.size, 0, none⟩) 1 1] 25 (0, 0)) := b19
  have NP : Hid (∀ W, Upd [] w19 W → NIn W 2 [.int .u8 5, .string ⟨#[]⟩, .int .i64 0, .int .i64 0, .slice (some ⟨w2.heap.size, 0, none⟩) 2 2] pairN) := fun W hu => ⟨some ⟨w2.heap.size, 0, none⟩, 2, rfl, row_in ((hu.block _ (lt_of_block R1) (by simp)).trans R1) [oneN, xN] (kids2 rfl (one_in W 0 _ _ _ _) (one_in W 0 _ _ _ _)), by simp, by omega⟩
  have NC : Hid (∀ W, Upd [] w19 W → NIn W 2 [.int .u8 9, .string ⟨#[]⟩, .int .i64 0, .int .i64 0, .slice (some ⟨w7.heap.size, 0, none⟩) 2 2] callN) := fun W hu => ⟨some ⟨w7.heap.size, 0, none⟩, 2, rfl, row_in ((hu.block _ (lt_of_block R2) (by simp)).trans R2) [fN, xN] (kids2 rfl (one_in W 0 _ _ _ _) (one_in W 0 _ _ _ _)), by simp, by omega⟩
  have NM : Hid (∀ W, Upd [] w19 W → NIn W 2 [.int .u8 8, .string ⟨#[]⟩, .int .i64 0, .int .i64 0, .slice (some ⟨w12.heap.size, 0, none⟩) 2 2] matN) := fun W hu => ⟨some ⟨w12.heap.size, 0, none⟩, 2, rfl, row_in ((hu.block _ (lt_of_block R3) (by simp)).trans R3) [xN, oneN] (kids2 rfl (one_in W 0 _ _ _ _) (one_in W 0 _ _ _ _)), by simp, by omega⟩
  have NI : Hid (∀ W, Upd [] w19 W → NIn W 2 [.int .u8 7, .string ⟨#[45]⟩, .int .i64 0, .int .i64 0, .slice (some ⟨w16.heap.size, 0, none⟩) 1 1] minN) := fun W hu => ⟨some ⟨w16.heap.size, 0, none⟩, 1, rfl, row_in ((hu.block _ (lt_of_block R4) (by simp)).trans R4) [oneN] (kids1 rfl (one_in W 0 _ _ _ _)), by simp, by omega⟩
  have CRp : Hid (∀ W, Upd [] w19 W → Calls Tryd.prog 7 #[.agg #[.int .u8 5, .string ⟨#[]⟩, .int .i64 0, .int .i64 0, .slice (some ⟨w2.heap.size, 0, none⟩) 2 2]] W fun e w' => e = .returned (.bool true) ∧ Upd [] W w') := fun W hu => by
    have h := Right_in A C 2 W _ _ (NP.out W hu) (by decide +kernel) (by decide +kernel) (HT.out.1.mono (UW.trans hu)) (HT.out.2.mono (UW.trans hu))
    rw [r_pair] at h
    exact h
  have CPp : Hid (∀ W, Upd [] w19 W → Calls Tryd.prog 9 #[.agg #[.int .u8 5, .string ⟨#[]⟩, .int .i64 0, .int .i64 0, .slice (some ⟨w2.heap.size, 0, none⟩) 2 2]] W fun e w' => e = .returned (.bool true) ∧ Upd [] W w') := fun W hu => by
    have h := Pattern_in A C 2 W _ _ (NP.out W hu) (by decide +kernel) (by decide +kernel) (HT.out.1.mono (UW.trans hu)) (HT.out.2.mono (UW.trans hu))
    rw [p_pair] at h
    exact h
  have CGp : Hid (∀ W, Upd [] w19 W → Calls Tryd.prog 11 #[.agg #[.int .u8 5, .string ⟨#[]⟩, .int .i64 0, .int .i64 0, .slice (some ⟨w2.heap.size, 0, none⟩) 2 2]] W fun e w' => e = .returned (.bool true) ∧ Upd [] W w') := fun W hu => by
    have h := Guard_in A C 2 W _ _ (NP.out W hu) (by decide +kernel) (by decide +kernel) (HT.out.1.mono (UW.trans hu)) (HT.out.2.mono (UW.trans hu))
    rw [g_pair] at h
    exact h
  have CPm : Hid (∀ W, Upd [] w19 W → Calls Tryd.prog 9 #[.agg #[.int .u8 8, .string ⟨#[]⟩, .int .i64 0, .int .i64 0, .slice (some ⟨w12.heap.size, 0, none⟩) 2 2]] W fun e w' => e = .returned (.bool true) ∧ Upd [] W w') := fun W hu => by
    have h := Pattern_in A C 2 W _ _ (NM.out W hu) (by decide +kernel) (by decide +kernel) (HT.out.1.mono (UW.trans hu)) (HT.out.2.mono (UW.trans hu))
    rw [p_mat] at h
    exact h
  have CGm : Hid (∀ W, Upd [] w19 W → Calls Tryd.prog 11 #[.agg #[.int .u8 8, .string ⟨#[]⟩, .int .i64 0, .int .i64 0, .slice (some ⟨w12.heap.size, 0, none⟩) 2 2]] W fun e w' => e = .returned (.bool false) ∧ Upd [] W w') := fun W hu => by
    have h := Guard_in A C 2 W _ _ (NM.out W hu) (by decide +kernel) (by decide +kernel) (HT.out.1.mono (UW.trans hu)) (HT.out.2.mono (UW.trans hu))
    rw [g_mat] at h
    exact h
  have CGc : Hid (∀ W, Upd [] w19 W → Calls Tryd.prog 11 #[.agg #[.int .u8 9, .string ⟨#[]⟩, .int .i64 0, .int .i64 0, .slice (some ⟨w7.heap.size, 0, none⟩) 2 2]] W fun e w' => e = .returned (.bool true) ∧ Upd [] W w') := fun W hu => by
    have h := Guard_in A C 2 W _ _ (NC.out W hu) (by decide +kernel) (by decide +kernel) (HT.out.1.mono (UW.trans hu)) (HT.out.2.mono (UW.trans hu))
    rw [g_call] at h
    exact h
  have CPc : Hid (∀ W, Upd [] w19 W → Calls Tryd.prog 9 #[.agg #[.int .u8 9, .string ⟨#[]⟩, .int .i64 0, .int .i64 0, .slice (some ⟨w7.heap.size, 0, none⟩) 2 2]] W fun e w' => e = .returned (.bool false) ∧ Upd [] W w') := fun W hu => by
    have h := Pattern_in A C 2 W _ _ (NC.out W hu) (by decide +kernel) (by decide +kernel) (HT.out.1.mono (UW.trans hu)) (HT.out.2.mono (UW.trans hu))
    rw [p_call] at h
    exact h
  have CPi : Hid (∀ W, Upd [] w19 W → Calls Tryd.prog 9 #[.agg #[.int .u8 7, .string ⟨#[45]⟩, .int .i64 0, .int .i64 0, .slice (some ⟨w16.heap.size, 0, none⟩) 1 1]] W fun e w' => e = .returned (.bool true) ∧ Upd [] W w') := fun W hu => by
    have h := Pattern_in A C 2 W _ _ (NI.out W hu) (by decide +kernel) (by decide +kernel) (HT.out.1.mono (UW.trans hu)) (HT.out.2.mono (UW.trans hu))
    rw [p_min] at h
    exact h
  have CGi : Hid (∀ W, Upd [] w19 W → Calls Tryd.prog 11 #[.agg #[.int .u8 7, .string ⟨#[45]⟩, .int .i64 0, .int .i64 0, .slice (some ⟨w16.heap.size, 0, none⟩) 1 1]] W fun e w' => e = .returned (.bool true) ∧ Upd [] W w') := fun W hu => by
    have h := Guard_in A C 2 W _ _ (NI.out W hu) (by decide +kernel) (by decide +kernel) (HT.out.1.mono (UW.trans hu)) (HT.out.2.mono (UW.trans hu))
    rw [g_min] at h
    exact h
  have CRb : Hid (∀ W, Upd [] w19 W → Calls Tryd.prog 7 #[.agg #[.int .u8 19, .string ⟨#[]⟩, .int .i64 0, .int .i64 0, .slice none 0 0]] W fun e w' => e = .returned (.bool false) ∧ Upd [] W w') := fun W hu => by
    have h := Right_in A C 1 W _ bodN (one_in W 0 _ _ _ _) (by decide +kernel) (by decide +kernel) (HT.out.1.mono (UW.trans hu)) (HT.out.2.mono (UW.trans hu))
    rw [r_bod] at h
    exact h
  have CRx : Hid (∀ W, Upd [] w19 W → Calls Tryd.prog 7 #[.agg #[.int .u8 3, .string ⟨#[120]⟩, .int .i64 0, .int .i64 0, .slice none 0 0]] W fun e w' => e = .returned (.bool false) ∧ Upd [] W w') := fun W hu => by
    have h := Right_in A C 1 W _ badN (one_in W 0 _ _ _ _) (by decide +kernel) (by decide +kernel) (HT.out.1.mono (UW.trans hu)) (HT.out.2.mono (UW.trans hu))
    rw [r_bad] at h
    exact h
  have NCC : Hid (∀ W r, Upd [] w19 W → W.heap[r]? = some (.cells #[.int .u8 9, .string ⟨#[]⟩, .int .i64 0, .int .i64 0, .slice (some ⟨w7.heap.size, 0, none⟩) 2 2, .int .u8 3, .string ⟨#[88]⟩, .int .i64 0, .int .i64 0, .slice none 0 0] 25 (0, 0)) → NIn W 3 [.int .u8 9, .string ⟨#[]⟩, .int .i64 0, .int .i64 0, .slice (some ⟨r, 0, none⟩) 2 2] ccN) := fun W r hu hr => ⟨some ⟨r, 0, none⟩, 2, rfl, row_in hr [callN, xN] (kids2 rfl (NC.out W hu) (one_in W 1 _ _ _ _)), by simp, by omega⟩
  have CRcc : Hid (∀ W r, Upd [] w19 W → W.heap[r]? = some (.cells #[.int .u8 9, .string ⟨#[]⟩, .int .i64 0, .int .i64 0, .slice (some ⟨w7.heap.size, 0, none⟩) 2 2, .int .u8 3, .string ⟨#[88]⟩, .int .i64 0, .int .i64 0, .slice none 0 0] 25 (0, 0)) → Calls Tryd.prog 7 #[.agg #[.int .u8 9, .string ⟨#[]⟩, .int .i64 0, .int .i64 0, .slice (some ⟨r, 0, none⟩) 2 2]] W fun e w' => e = .returned (.bool true) ∧ Upd [] W w') := fun W r hu hr => by
    have h := Right_in A C 3 W _ _ (NCC.out W r hu hr) (by decide +kernel) (by decide +kernel) (HT.out.1.mono (UW.trans hu)) (HT.out.2.mono (UW.trans hu))
    rw [r_cc] at h
    exact h
  have CGcc : Hid (∀ W r, Upd [] w19 W → W.heap[r]? = some (.cells #[.int .u8 9, .string ⟨#[]⟩, .int .i64 0, .int .i64 0, .slice (some ⟨w7.heap.size, 0, none⟩) 2 2, .int .u8 3, .string ⟨#[88]⟩, .int .i64 0, .int .i64 0, .slice none 0 0] 25 (0, 0)) → Calls Tryd.prog 11 #[.agg #[.int .u8 9, .string ⟨#[]⟩, .int .i64 0, .int .i64 0, .slice (some ⟨r, 0, none⟩) 2 2]] W fun e w' => e = .returned (.bool false) ∧ Upd [] W w') := fun W r hu hr => by
    have h := Guard_in A C 3 W _ _ (NCC.out W r hu hr) (by decide +kernel) (by decide +kernel) (HT.out.1.mono (UW.trans hu)) (HT.out.2.mono (UW.trans hu))
    rw [g_cc] at h
    exact h
  have CRs : Hid (∀ W r, Upd [] w19 W → W.heap[r]? = some (.cells #[.int .u8 1, .string ⟨#[49]⟩, .int .i64 0, .int .i64 0, .slice none 0 0] 25 (0, 0)) → Calls Tryd.prog 7 #[.agg #[.int .u8 12, .string ⟨#[]⟩, .int .i64 0, .int .i64 0, .slice (some ⟨r, 0, none⟩) 1 1]] W fun e w' => e = .returned (.bool false) ∧ Upd [] W w') := fun W r hu hr => by
    have h := Right_in A C 2 W [.int .u8 12, .string ⟨#[]⟩, .int .i64 0, .int .i64 0, .slice (some ⟨r, 0, none⟩) 1 1] casN ⟨some ⟨r, 0, none⟩, 1, rfl, row_in hr [oneN] (kids1 rfl (one_in W 0 _ _ _ _)), by simp, by omega⟩ (by decide +kernel) (by decide +kernel) (HT.out.1.mono (UW.trans hu)) (HT.out.2.mono (UW.trans hu))
    rw [r_cas] at h
    exact h
  have CD : Hid (∀ W, Upd [] w19 W → Calls Tryd.prog 13 #[.agg #[.int .u8 5, .string ⟨#[]⟩, .int .i64 0, .int .i64 0, .slice (some ⟨w2.heap.size, 0, none⟩) 2 2]] W fun e w' => e = .returned (.int .i64 2) ∧ Upd [] W w') := fun W hu => by
    have hr := (hu.block _ (lt_of_block R1) (by simp)).trans R1
    exact Deep_flat W 5 0 0 ⟨#[]⟩ (w2.heap.size) 2 1 [oneN, xN] (row_in hr [oneN, xN] (kids2 rfl (one_in W 0 _ _ _ _) (one_in W 0 _ _ _ _))) ⟨_, hr⟩ (by simp) (by simp) (fun V cs i hi hin => by
      match i, hi with
      | 0, _ =>
        obtain ⟨a, c, rfl, _⟩ := hin
        exact ⟨_, _, _, _, a, c, rfl⟩
      | 1, _ =>
        obtain ⟨a, c, rfl, _⟩ := hin
        exact ⟨_, _, _, _, a, c, rfl⟩)
  clear NP NC NM NI NCC
  dsimp only [List.append]
  refine wp_region_held_drew (S := fun W => Upd [] w19 W) (by kernel_rfl) (Upd.refl [] w19).drew (fun hS => ?_)
  refine wpAnyH_take (i := 0) (v := .agg #[.int .u8 5, .string ⟨#[]⟩, .int .i64 0, .int .i64 0, .slice (some ⟨w2.heap.size, 0, none⟩) 2 2]) rfl (by kernel_rfl) (by kernel_rfl) (by kernel_rfl) (fun _ _ _ h => h) (Or.inl ⟨by rfl, ?_⟩) hS ?_
  · intro W hW; have t : Tb W (w4.heap.size) #[.int .u8 5, .string ⟨#[]⟩, .int .i64 0, .int .i64 0, .slice (some ⟨w2.heap.size, 0, none⟩) 2 2] := (hW.block _ (lt_of_block T1) (by simp)).trans T1; have e0 : W.cell? ⟨w4.heap.size, 0, none⟩ = some (.int .u8 5) := t.cell 0; have e1 : W.cell? ⟨w4.heap.size, 1, none⟩ = some (.string ⟨#[]⟩) := t.cell 1; have e2 : W.cell? ⟨w4.heap.size, 2, none⟩ = some (.int .i64 0) := t.cell 2; have e3 : W.cell? ⟨w4.heap.size, 3, none⟩ = some (.int .i64 0) := t.cell 3; have e4 : W.cell? ⟨w4.heap.size, 4, none⟩ = some (.slice (some ⟨w2.heap.size, 0, none⟩) 2 2) := t.cell 4; go_simp
  simp only [Act.put, List.getElem_toArray, List.getElem_cons_zero, List.setIfInBounds_toArray, List.set_cons_succ, List.set_cons_zero]
  refine wpAnyH_ready (rs := [1]) (by kernel_rfl) (by simp) (AllReadyH.cons rfl (fun K hK => ?_) AllReadyH.nil)
  go_simp
  refine Calls.mono (CRp.out _ hS) ?_
  rintro en w20 ⟨rfl, hU⟩
  have hS2 : Upd [] w19 w20 := hS.trans hU
  refine hK.out _ _ hS2 (fun _ => ?_)
  clear hK K hS
  have hS : Upd [] w19 w20 := hS2
  clear hS2
  clear hU
  refine wpAnyH_take (i := 2) (v := .bool true) rfl (by kernel_rfl) (by kernel_rfl) (by kernel_rfl) (fun _ _ _ h => h) (Or.inl ⟨by rfl, ?_⟩) hS ?_
  · intro W hW; go_simp
  refine wpAnyH_take (i := 3) (v := .agg #[.int .u8 5, .string ⟨#[]⟩, .int .i64 0, .int .i64 0, .slice (some ⟨w2.heap.size, 0, none⟩) 2 2]) rfl (by kernel_rfl) (by kernel_rfl) (by kernel_rfl) (fun _ _ _ h => h) (Or.inl ⟨by rfl, ?_⟩) hS ?_
  · intro W hW; have t : Tb W (w4.heap.size) #[.int .u8 5, .string ⟨#[]⟩, .int .i64 0, .int .i64 0, .slice (some ⟨w2.heap.size, 0, none⟩) 2 2] := (hW.block _ (lt_of_block T1) (by simp)).trans T1; have e0 : W.cell? ⟨w4.heap.size, 0, none⟩ = some (.int .u8 5) := t.cell 0; have e1 : W.cell? ⟨w4.heap.size, 1, none⟩ = some (.string ⟨#[]⟩) := t.cell 1; have e2 : W.cell? ⟨w4.heap.size, 2, none⟩ = some (.int .i64 0) := t.cell 2; have e3 : W.cell? ⟨w4.heap.size, 3, none⟩ = some (.int .i64 0) := t.cell 3; have e4 : W.cell? ⟨w4.heap.size, 4, none⟩ = some (.slice (some ⟨w2.heap.size, 0, none⟩) 2 2) := t.cell 4; go_simp
  simp only [Act.put, List.getElem_toArray, List.getElem_cons_succ, List.getElem_cons_zero, List.setIfInBounds_toArray, List.set_cons_succ, List.set_cons_zero]
  refine wpAnyH_ready (rs := [4]) (by kernel_rfl) (by simp) (AllReadyH.cons rfl (fun K hK => ?_) AllReadyH.nil)
  go_simp
  refine Calls.mono (CPp.out _ hS) ?_
  rintro en w21 ⟨rfl, hU⟩
  have hS2 : Upd [] w19 w21 := hS.trans hU
  refine hK.out _ _ hS2 (fun _ => ?_)
  clear hK K hS
  have hS : Upd [] w19 w21 := hS2
  clear hS2
  clear hU
  refine wpAnyH_take (i := 5) (v := .bool true) rfl (by kernel_rfl) (by kernel_rfl) (by kernel_rfl) (fun _ _ _ h => h) (Or.inl ⟨by rfl, ?_⟩) hS ?_
  · intro W hW; go_simp
  refine wpAnyH_take (i := 6) (v := .bool true) rfl (by kernel_rfl) (by kernel_rfl) (by kernel_rfl) (fun _ _ _ h => h) (Or.inl ⟨by rfl, ?_⟩) hS ?_
  · intro W hW; go_simp
  refine wpAnyH_take (i := 7) (v := .agg #[.int .u8 5, .string ⟨#[]⟩, .int .i64 0, .int .i64 0, .slice (some ⟨w2.heap.size, 0, none⟩) 2 2]) rfl (by kernel_rfl) (by kernel_rfl) (by kernel_rfl) (fun _ _ _ h => h) (Or.inl ⟨by rfl, ?_⟩) hS ?_
  · intro W hW; have t : Tb W (w4.heap.size) #[.int .u8 5, .string ⟨#[]⟩, .int .i64 0, .int .i64 0, .slice (some ⟨w2.heap.size, 0, none⟩) 2 2] := (hW.block _ (lt_of_block T1) (by simp)).trans T1; have e0 : W.cell? ⟨w4.heap.size, 0, none⟩ = some (.int .u8 5) := t.cell 0; have e1 : W.cell? ⟨w4.heap.size, 1, none⟩ = some (.string ⟨#[]⟩) := t.cell 1; have e2 : W.cell? ⟨w4.heap.size, 2, none⟩ = some (.int .i64 0) := t.cell 2; have e3 : W.cell? ⟨w4.heap.size, 3, none⟩ = some (.int .i64 0) := t.cell 3; have e4 : W.cell? ⟨w4.heap.size, 4, none⟩ = some (.slice (some ⟨w2.heap.size, 0, none⟩) 2 2) := t.cell 4; go_simp
  simp only [Act.put, List.getElem_toArray, List.getElem_cons_succ, List.getElem_cons_zero, List.setIfInBounds_toArray, List.set_cons_succ, List.set_cons_zero]
  refine wpAnyH_ready (rs := [8]) (by kernel_rfl) (by simp) (AllReadyH.cons rfl (fun K hK => ?_) AllReadyH.nil)
  go_simp
  refine Calls.mono (CGp.out _ hS) ?_
  rintro en w22 ⟨rfl, hU⟩
  have hS2 : Upd [] w19 w22 := hS.trans hU
  refine hK.out _ _ hS2 (fun _ => ?_)
  clear hK K hS
  have hS : Upd [] w19 w22 := hS2
  clear hS2
  clear hU
  refine wpAnyH_take (i := 9) (v := .bool true) rfl (by kernel_rfl) (by kernel_rfl) (by kernel_rfl) (fun _ _ _ h => h) (Or.inl ⟨by rfl, ?_⟩) hS ?_
  · intro W hW; go_simp
  refine wpAnyH_take (i := 10) (v := .bool true) rfl (by kernel_rfl) (by kernel_rfl) (by kernel_rfl) (fun _ _ _ h => h) (Or.inl ⟨by rfl, ?_⟩) hS ?_
  · intro W hW; go_simp
  refine wpAnyH_take (i := 11) (v := .agg #[.int .u8 8, .string ⟨#[]⟩, .int .i64 0, .int .i64 0, .slice (some ⟨w12.heap.size, 0, none⟩) 2 2]) rfl (by kernel_rfl) (by kernel_rfl) (by kernel_rfl) (fun _ _ _ h => h) (Or.inl ⟨by rfl, ?_⟩) hS ?_
  · intro W hW; have t : Tb W (w14.heap.size) #[.int .u8 8, .string ⟨#[]⟩, .int .i64 0, .int .i64 0, .slice (some ⟨w12.heap.size, 0, none⟩) 2 2] := (hW.block _ (lt_of_block T3) (by simp)).trans T3; have e0 : W.cell? ⟨w14.heap.size, 0, none⟩ = some (.int .u8 8) := t.cell 0; have e1 : W.cell? ⟨w14.heap.size, 1, none⟩ = some (.string ⟨#[]⟩) := t.cell 1; have e2 : W.cell? ⟨w14.heap.size, 2, none⟩ = some (.int .i64 0) := t.cell 2; have e3 : W.cell? ⟨w14.heap.size, 3, none⟩ = some (.int .i64 0) := t.cell 3; have e4 : W.cell? ⟨w14.heap.size, 4, none⟩ = some (.slice (some ⟨w12.heap.size, 0, none⟩) 2 2) := t.cell 4; go_simp
  simp only [Act.put, List.getElem_toArray, List.getElem_cons_succ, List.getElem_cons_zero, List.setIfInBounds_toArray, List.set_cons_succ, List.set_cons_zero]
  refine wpAnyH_ready (rs := [12]) (by kernel_rfl) (by simp) (AllReadyH.cons rfl (fun K hK => ?_) AllReadyH.nil)
  go_simp
  refine Calls.mono (CPm.out _ hS) ?_
  rintro en w23 ⟨rfl, hU⟩
  have hS2 : Upd [] w19 w23 := hS.trans hU
  refine hK.out _ _ hS2 (fun _ => ?_)
  clear hK K hS
  have hS : Upd [] w19 w23 := hS2
  clear hS2
  clear hU
  refine wpAnyH_take (i := 13) (v := .bool true) rfl (by kernel_rfl) (by kernel_rfl) (by kernel_rfl) (fun _ _ _ h => h) (Or.inl ⟨by rfl, ?_⟩) hS ?_
  · intro W hW; go_simp
  refine wpAnyH_take (i := 14) (v := .bool true) rfl (by kernel_rfl) (by kernel_rfl) (by kernel_rfl) (fun _ _ _ h => h) (Or.inl ⟨by rfl, ?_⟩) hS ?_
  · intro W hW; go_simp
  refine wpAnyH_take (i := 15) (v := .agg #[.int .u8 8, .string ⟨#[]⟩, .int .i64 0, .int .i64 0, .slice (some ⟨w12.heap.size, 0, none⟩) 2 2]) rfl (by kernel_rfl) (by kernel_rfl) (by kernel_rfl) (fun _ _ _ h => h) (Or.inl ⟨by rfl, ?_⟩) hS ?_
  · intro W hW; have t : Tb W (w14.heap.size) #[.int .u8 8, .string ⟨#[]⟩, .int .i64 0, .int .i64 0, .slice (some ⟨w12.heap.size, 0, none⟩) 2 2] := (hW.block _ (lt_of_block T3) (by simp)).trans T3; have e0 : W.cell? ⟨w14.heap.size, 0, none⟩ = some (.int .u8 8) := t.cell 0; have e1 : W.cell? ⟨w14.heap.size, 1, none⟩ = some (.string ⟨#[]⟩) := t.cell 1; have e2 : W.cell? ⟨w14.heap.size, 2, none⟩ = some (.int .i64 0) := t.cell 2; have e3 : W.cell? ⟨w14.heap.size, 3, none⟩ = some (.int .i64 0) := t.cell 3; have e4 : W.cell? ⟨w14.heap.size, 4, none⟩ = some (.slice (some ⟨w12.heap.size, 0, none⟩) 2 2) := t.cell 4; go_simp
  simp only [Act.put, List.getElem_toArray, List.getElem_cons_succ, List.getElem_cons_zero, List.setIfInBounds_toArray, List.set_cons_succ, List.set_cons_zero]
  refine wpAnyH_ready (rs := [16]) (by kernel_rfl) (by simp) (AllReadyH.cons rfl (fun K hK => ?_) AllReadyH.nil)
  go_simp
  refine Calls.mono (CGm.out _ hS) ?_
  rintro en w24 ⟨rfl, hU⟩
  have hS2 : Upd [] w19 w24 := hS.trans hU
  refine hK.out _ _ hS2 (fun _ => ?_)
  clear hK K hS
  have hS : Upd [] w19 w24 := hS2
  clear hS2
  clear hU
  refine wpAnyH_take (i := 17) (v := .bool true) rfl (by kernel_rfl) (by kernel_rfl) (by kernel_rfl) (fun _ _ _ h => h) (Or.inl ⟨by rfl, ?_⟩) hS ?_
  · intro W hW; go_simp
  refine wpAnyH_take (i := 18) (v := .bool true) rfl (by kernel_rfl) (by kernel_rfl) (by kernel_rfl) (fun _ _ _ h => h) (Or.inl ⟨by rfl, ?_⟩) hS ?_
  · intro W hW; go_simp
  refine wpAnyH_take (i := 19) (v := .bool true) rfl (by kernel_rfl) (by kernel_rfl) (by kernel_rfl) (fun _ _ _ h => h) (Or.inl ⟨by rfl, ?_⟩) hS ?_
  · intro W hW; go_simp
  refine wpAnyH_take (i := 20) (v := .agg #[.int .u8 9, .string ⟨#[]⟩, .int .i64 0, .int .i64 0, .slice (some ⟨w7.heap.size, 0, none⟩) 2 2]) rfl (by kernel_rfl) (by kernel_rfl) (by kernel_rfl) (fun _ _ _ h => h) (Or.inl ⟨by rfl, ?_⟩) hS ?_
  · intro W hW; have t : Tb W (w9.heap.size) #[.int .u8 9, .string ⟨#[]⟩, .int .i64 0, .int .i64 0, .slice (some ⟨w7.heap.size, 0, none⟩) 2 2] := (hW.block _ (lt_of_block T2) (by simp)).trans T2; have e0 : W.cell? ⟨w9.heap.size, 0, none⟩ = some (.int .u8 9) := t.cell 0; have e1 : W.cell? ⟨w9.heap.size, 1, none⟩ = some (.string ⟨#[]⟩) := t.cell 1; have e2 : W.cell? ⟨w9.heap.size, 2, none⟩ = some (.int .i64 0) := t.cell 2; have e3 : W.cell? ⟨w9.heap.size, 3, none⟩ = some (.int .i64 0) := t.cell 3; have e4 : W.cell? ⟨w9.heap.size, 4, none⟩ = some (.slice (some ⟨w7.heap.size, 0, none⟩) 2 2) := t.cell 4; go_simp
  simp only [Act.put, List.getElem_toArray, List.getElem_cons_succ, List.getElem_cons_zero, List.setIfInBounds_toArray, List.set_cons_succ, List.set_cons_zero]
  refine wpAnyH_ready (rs := [21]) (by kernel_rfl) (by simp) (AllReadyH.cons rfl (fun K hK => ?_) AllReadyH.nil)
  go_simp
  refine Calls.mono (CGc.out _ hS) ?_
  rintro en w25 ⟨rfl, hU⟩
  have hS2 : Upd [] w19 w25 := hS.trans hU
  refine hK.out _ _ hS2 (fun _ => ?_)
  clear hK K hS
  have hS : Upd [] w19 w25 := hS2
  clear hS2
  clear hU
  refine wpAnyH_take (i := 22) (v := .bool true) rfl (by kernel_rfl) (by kernel_rfl) (by kernel_rfl) (fun _ _ _ h => h) (Or.inl ⟨by rfl, ?_⟩) hS ?_
  · intro W hW; go_simp
  refine wpAnyH_take (i := 23) (v := .bool true) rfl (by kernel_rfl) (by kernel_rfl) (by kernel_rfl) (fun _ _ _ h => h) (Or.inl ⟨by rfl, ?_⟩) hS ?_
  · intro W hW; go_simp
  refine wpAnyH_take (i := 24) (v := .agg #[.int .u8 9, .string ⟨#[]⟩, .int .i64 0, .int .i64 0, .slice (some ⟨w7.heap.size, 0, none⟩) 2 2]) rfl (by kernel_rfl) (by kernel_rfl) (by kernel_rfl) (fun _ _ _ h => h) (Or.inl ⟨by rfl, ?_⟩) hS ?_
  · intro W hW; have t : Tb W (w9.heap.size) #[.int .u8 9, .string ⟨#[]⟩, .int .i64 0, .int .i64 0, .slice (some ⟨w7.heap.size, 0, none⟩) 2 2] := (hW.block _ (lt_of_block T2) (by simp)).trans T2; have e0 : W.cell? ⟨w9.heap.size, 0, none⟩ = some (.int .u8 9) := t.cell 0; have e1 : W.cell? ⟨w9.heap.size, 1, none⟩ = some (.string ⟨#[]⟩) := t.cell 1; have e2 : W.cell? ⟨w9.heap.size, 2, none⟩ = some (.int .i64 0) := t.cell 2; have e3 : W.cell? ⟨w9.heap.size, 3, none⟩ = some (.int .i64 0) := t.cell 3; have e4 : W.cell? ⟨w9.heap.size, 4, none⟩ = some (.slice (some ⟨w7.heap.size, 0, none⟩) 2 2) := t.cell 4; go_simp
  simp only [Act.put, List.getElem_toArray, List.getElem_cons_succ, List.getElem_cons_zero, List.setIfInBounds_toArray, List.set_cons_succ, List.set_cons_zero]
  refine wpAnyH_ready (rs := [25]) (by kernel_rfl) (by simp) (AllReadyH.cons rfl (fun K hK => ?_) AllReadyH.nil)
  go_simp
  refine Calls.mono (CPc.out _ hS) ?_
  rintro en w26 ⟨rfl, hU⟩
  have hS2 : Upd [] w19 w26 := hS.trans hU
  refine hK.out _ _ hS2 (fun _ => ?_)
  clear hK K hS
  have hS : Upd [] w19 w26 := hS2
  clear hS2
  clear hU
  refine wpAnyH_take (i := 26) (v := .bool true) rfl (by kernel_rfl) (by kernel_rfl) (by kernel_rfl) (fun _ _ _ h => h) (Or.inl ⟨by rfl, ?_⟩) hS ?_
  · intro W hW; go_simp
  refine wpAnyH_take (i := 27) (v := .bool true) rfl (by kernel_rfl) (by kernel_rfl) (by kernel_rfl) (fun _ _ _ h => h) (Or.inl ⟨by rfl, ?_⟩) hS ?_
  · intro W hW; go_simp
  refine wpAnyH_take (i := 28) (v := .bool true) rfl (by kernel_rfl) (by kernel_rfl) (by kernel_rfl) (fun _ _ _ h => h) (Or.inl ⟨by rfl, ?_⟩) hS ?_
  · intro W hW; go_simp
  refine wpAnyH_take (i := 29) (v := .agg #[.int .u8 7, .string ⟨#[45]⟩, .int .i64 0, .int .i64 0, .slice (some ⟨w16.heap.size, 0, none⟩) 1 1]) rfl (by kernel_rfl) (by kernel_rfl) (by kernel_rfl) (fun _ _ _ h => h) (Or.inl ⟨by rfl, ?_⟩) hS ?_
  · intro W hW; have t : Tb W (w18.heap.size) #[.int .u8 7, .string ⟨#[45]⟩, .int .i64 0, .int .i64 0, .slice (some ⟨w16.heap.size, 0, none⟩) 1 1] := (hW.block _ (lt_of_block T4) (by simp)).trans T4; have e0 : W.cell? ⟨w18.heap.size, 0, none⟩ = some (.int .u8 7) := t.cell 0; have e1 : W.cell? ⟨w18.heap.size, 1, none⟩ = some (.string ⟨#[45]⟩) := t.cell 1; have e2 : W.cell? ⟨w18.heap.size, 2, none⟩ = some (.int .i64 0) := t.cell 2; have e3 : W.cell? ⟨w18.heap.size, 3, none⟩ = some (.int .i64 0) := t.cell 3; have e4 : W.cell? ⟨w18.heap.size, 4, none⟩ = some (.slice (some ⟨w16.heap.size, 0, none⟩) 1 1) := t.cell 4; go_simp
  simp only [Act.put, List.getElem_toArray, List.getElem_cons_succ, List.getElem_cons_zero, List.setIfInBounds_toArray, List.set_cons_succ, List.set_cons_zero]
  refine wpAnyH_ready (rs := [30]) (by kernel_rfl) (by simp) (AllReadyH.cons rfl (fun K hK => ?_) AllReadyH.nil)
  go_simp
  refine Calls.mono (CPi.out _ hS) ?_
  rintro en w27 ⟨rfl, hU⟩
  have hS2 : Upd [] w19 w27 := hS.trans hU
  refine hK.out _ _ hS2 (fun _ => ?_)
  clear hK K hS
  have hS : Upd [] w19 w27 := hS2
  clear hS2
  clear hU
  refine wpAnyH_take (i := 31) (v := .bool true) rfl (by kernel_rfl) (by kernel_rfl) (by kernel_rfl) (fun _ _ _ h => h) (Or.inl ⟨by rfl, ?_⟩) hS ?_
  · intro W hW; go_simp
  refine wpAnyH_take (i := 32) (v := .bool true) rfl (by kernel_rfl) (by kernel_rfl) (by kernel_rfl) (fun _ _ _ h => h) (Or.inl ⟨by rfl, ?_⟩) hS ?_
  · intro W hW; go_simp
  refine wpAnyH_take (i := 33) (v := .agg #[.int .u8 7, .string ⟨#[45]⟩, .int .i64 0, .int .i64 0, .slice (some ⟨w16.heap.size, 0, none⟩) 1 1]) rfl (by kernel_rfl) (by kernel_rfl) (by kernel_rfl) (fun _ _ _ h => h) (Or.inl ⟨by rfl, ?_⟩) hS ?_
  · intro W hW; have t : Tb W (w18.heap.size) #[.int .u8 7, .string ⟨#[45]⟩, .int .i64 0, .int .i64 0, .slice (some ⟨w16.heap.size, 0, none⟩) 1 1] := (hW.block _ (lt_of_block T4) (by simp)).trans T4; have e0 : W.cell? ⟨w18.heap.size, 0, none⟩ = some (.int .u8 7) := t.cell 0; have e1 : W.cell? ⟨w18.heap.size, 1, none⟩ = some (.string ⟨#[45]⟩) := t.cell 1; have e2 : W.cell? ⟨w18.heap.size, 2, none⟩ = some (.int .i64 0) := t.cell 2; have e3 : W.cell? ⟨w18.heap.size, 3, none⟩ = some (.int .i64 0) := t.cell 3; have e4 : W.cell? ⟨w18.heap.size, 4, none⟩ = some (.slice (some ⟨w16.heap.size, 0, none⟩) 1 1) := t.cell 4; go_simp
  simp only [Act.put, List.getElem_toArray, List.getElem_cons_succ, List.getElem_cons_zero, List.setIfInBounds_toArray, List.set_cons_succ, List.set_cons_zero]
  refine wpAnyH_ready (rs := [34]) (by kernel_rfl) (by simp) (AllReadyH.cons rfl (fun K hK => ?_) AllReadyH.nil)
  go_simp
  refine Calls.mono (CGi.out _ hS) ?_
  rintro en w28 ⟨rfl, hU⟩
  have hS2 : Upd [] w19 w28 := hS.trans hU
  refine hK.out _ _ hS2 (fun _ => ?_)
  clear hK K hS
  have hS : Upd [] w19 w28 := hS2
  clear hS2
  clear hU
  refine wpAnyH_take (i := 35) (v := .bool true) rfl (by kernel_rfl) (by kernel_rfl) (by kernel_rfl) (fun _ _ _ h => h) (Or.inl ⟨by rfl, ?_⟩) hS ?_
  · intro W hW; go_simp
  refine wpAnyH_take (i := 36) (v := .bool true) rfl (by kernel_rfl) (by kernel_rfl) (by kernel_rfl) (fun _ _ _ h => h) (Or.inl ⟨by rfl, ?_⟩) hS ?_
  · intro W hW; go_simp
  refine wpAnyH_take (i := 37) (v := .agg #[.int .u8 9, .string ⟨#[]⟩, .int .i64 0, .int .i64 0, .slice (some ⟨w7.heap.size, 0, none⟩) 2 2]) rfl (by kernel_rfl) (by kernel_rfl) (by kernel_rfl) (fun _ _ _ h => h) (Or.inl ⟨by rfl, ?_⟩) hS ?_
  · intro W hW; have t : Tb W (w9.heap.size) #[.int .u8 9, .string ⟨#[]⟩, .int .i64 0, .int .i64 0, .slice (some ⟨w7.heap.size, 0, none⟩) 2 2] := (hW.block _ (lt_of_block T2) (by simp)).trans T2; have e0 : W.cell? ⟨w9.heap.size, 0, none⟩ = some (.int .u8 9) := t.cell 0; have e1 : W.cell? ⟨w9.heap.size, 1, none⟩ = some (.string ⟨#[]⟩) := t.cell 1; have e2 : W.cell? ⟨w9.heap.size, 2, none⟩ = some (.int .i64 0) := t.cell 2; have e3 : W.cell? ⟨w9.heap.size, 3, none⟩ = some (.int .i64 0) := t.cell 3; have e4 : W.cell? ⟨w9.heap.size, 4, none⟩ = some (.slice (some ⟨w7.heap.size, 0, none⟩) 2 2) := t.cell 4; go_simp
  simp only [Act.put, List.getElem_toArray, List.getElem_cons_succ, List.getElem_cons_zero, List.setIfInBounds_toArray, List.set_cons_succ, List.set_cons_zero]
  refine wpAnyH_ready (rs := [38]) (by kernel_rfl) (by simp) (AllReadyH.cons rfl (fun K hK => ?_) AllReadyH.nil)
  go_simp
  refine Calls.mono (x_any _) ?_
  rintro en w29 ⟨rfl, hU⟩
  have hS2 : Upd [] w19 w29 := hS.trans hU
  refine hK.out _ _ hS2 (fun _ => ?_)
  clear hK K hS
  have hS : Upd [] w19 w29 := hS2
  clear hS2
  clear hU
  refine wpAnyH_ready (rs := [39]) (by kernel_rfl) (by simp) (AllReadyH.cons rfl (fun K hK => ?_) AllReadyH.nil)
  go_simp
  obtain ⟨w30, hv⟩ : ∃ v, v = w29.alloc (.cells #[.int .u8 9, .string ⟨#[]⟩, .int .i64 0, .int .i64 0, .slice (some ⟨w7.heap.size, 0, none⟩) 2 2, .int .u8 3, .string ⟨#[88]⟩, .int .i64 0, .int .i64 0, .slice none 0 0] 25) := ⟨_, rfl⟩
  rw [← hv]
  obtain ⟨hr, hU⟩ := new_blk w29 _ w30 hv
  have hS2 : Upd [] w19 w30 := hS.trans hU
  refine hK.out _ _ hS2 (fun _ => ?_)
  clear hK K hS hv
  have hS : Upd [] w19 w30 := hS2
  clear hS2 hU
  refine wpAnyH_ready (rs := [40]) (by kernel_rfl) (by simp) (AllReadyH.cons rfl (fun K hK => ?_) AllReadyH.nil)
  go_simp
  refine Calls.mono (lof_any 9 ⟨#[]⟩ (some ⟨w29.heap.size, 0, none⟩) 2 2 _) ?_
  rintro en w31 ⟨rfl, hU⟩
  have hS2 : Upd [] w19 w31 := hS.trans hU
  refine hK.out _ _ hS2 (fun _ => ?_)
  clear hK K hS
  have hS : Upd [] w19 w31 := hS2
  clear hS2
  have hr2 := (hU.block _ (lt_of_block hr) (by simp)).trans hr
  clear hU hr
  refine wpAnyH_ready (rs := [41]) (by kernel_rfl) (by simp) (AllReadyH.cons rfl (fun K hK => ?_) AllReadyH.nil)
  go_simp
  refine Calls.mono (CRcc.out _ _ hS hr2) ?_
  rintro en w32 ⟨rfl, hU⟩
  have hS2 : Upd [] w19 w32 := hS.trans hU
  refine hK.out _ _ hS2 (fun _ => ?_)
  clear hK K hS
  have hS : Upd [] w19 w32 := hS2
  clear hS2
  clear hU hr2
  refine wpAnyH_take (i := 42) (v := .bool true) rfl (by kernel_rfl) (by kernel_rfl) (by kernel_rfl) (fun _ _ _ h => h) (Or.inl ⟨by rfl, ?_⟩) hS ?_
  · intro W hW; go_simp
  refine wpAnyH_take (i := 43) (v := .bool true) rfl (by kernel_rfl) (by kernel_rfl) (by kernel_rfl) (fun _ _ _ h => h) (Or.inl ⟨by rfl, ?_⟩) hS ?_
  · intro W hW; go_simp
  refine wpAnyH_take (i := 44) (v := .agg #[.int .u8 9, .string ⟨#[]⟩, .int .i64 0, .int .i64 0, .slice (some ⟨w7.heap.size, 0, none⟩) 2 2]) rfl (by kernel_rfl) (by kernel_rfl) (by kernel_rfl) (fun _ _ _ h => h) (Or.inl ⟨by rfl, ?_⟩) hS ?_
  · intro W hW; have t : Tb W (w9.heap.size) #[.int .u8 9, .string ⟨#[]⟩, .int .i64 0, .int .i64 0, .slice (some ⟨w7.heap.size, 0, none⟩) 2 2] := (hW.block _ (lt_of_block T2) (by simp)).trans T2; have e0 : W.cell? ⟨w9.heap.size, 0, none⟩ = some (.int .u8 9) := t.cell 0; have e1 : W.cell? ⟨w9.heap.size, 1, none⟩ = some (.string ⟨#[]⟩) := t.cell 1; have e2 : W.cell? ⟨w9.heap.size, 2, none⟩ = some (.int .i64 0) := t.cell 2; have e3 : W.cell? ⟨w9.heap.size, 3, none⟩ = some (.int .i64 0) := t.cell 3; have e4 : W.cell? ⟨w9.heap.size, 4, none⟩ = some (.slice (some ⟨w7.heap.size, 0, none⟩) 2 2) := t.cell 4; go_simp
  simp only [Act.put, List.getElem_toArray, List.getElem_cons_succ, List.getElem_cons_zero, List.setIfInBounds_toArray, List.set_cons_succ, List.set_cons_zero]
  refine wpAnyH_ready (rs := [45]) (by kernel_rfl) (by simp) (AllReadyH.cons rfl (fun K hK => ?_) AllReadyH.nil)
  go_simp
  refine Calls.mono (x_any _) ?_
  rintro en w33 ⟨rfl, hU⟩
  have hS2 : Upd [] w19 w33 := hS.trans hU
  refine hK.out _ _ hS2 (fun _ => ?_)
  clear hK K hS
  have hS : Upd [] w19 w33 := hS2
  clear hS2
  clear hU
  refine wpAnyH_ready (rs := [46]) (by kernel_rfl) (by simp) (AllReadyH.cons rfl (fun K hK => ?_) AllReadyH.nil)
  go_simp
  obtain ⟨w34, hv⟩ : ∃ v, v = w33.alloc (.cells #[.int .u8 9, .string ⟨#[]⟩, .int .i64 0, .int .i64 0, .slice (some ⟨w7.heap.size, 0, none⟩) 2 2, .int .u8 3, .string ⟨#[88]⟩, .int .i64 0, .int .i64 0, .slice none 0 0] 25) := ⟨_, rfl⟩
  rw [← hv]
  obtain ⟨hr, hU⟩ := new_blk w33 _ w34 hv
  have hS2 : Upd [] w19 w34 := hS.trans hU
  refine hK.out _ _ hS2 (fun _ => ?_)
  clear hK K hS hv
  have hS : Upd [] w19 w34 := hS2
  clear hS2 hU
  refine wpAnyH_ready (rs := [47]) (by kernel_rfl) (by simp) (AllReadyH.cons rfl (fun K hK => ?_) AllReadyH.nil)
  go_simp
  refine Calls.mono (lof_any 9 ⟨#[]⟩ (some ⟨w33.heap.size, 0, none⟩) 2 2 _) ?_
  rintro en w35 ⟨rfl, hU⟩
  have hS2 : Upd [] w19 w35 := hS.trans hU
  refine hK.out _ _ hS2 (fun _ => ?_)
  clear hK K hS
  have hS : Upd [] w19 w35 := hS2
  clear hS2
  have hr2 := (hU.block _ (lt_of_block hr) (by simp)).trans hr
  clear hU hr
  refine wpAnyH_ready (rs := [48]) (by kernel_rfl) (by simp) (AllReadyH.cons rfl (fun K hK => ?_) AllReadyH.nil)
  go_simp
  refine Calls.mono (CGcc.out _ _ hS hr2) ?_
  rintro en w36 ⟨rfl, hU⟩
  have hS2 : Upd [] w19 w36 := hS.trans hU
  refine hK.out _ _ hS2 (fun _ => ?_)
  clear hK K hS
  have hS : Upd [] w19 w36 := hS2
  clear hS2
  clear hU hr2
  refine wpAnyH_take (i := 49) (v := .bool true) rfl (by kernel_rfl) (by kernel_rfl) (by kernel_rfl) (fun _ _ _ h => h) (Or.inl ⟨by rfl, ?_⟩) hS ?_
  · intro W hW; go_simp
  refine wpAnyH_take (i := 50) (v := .bool true) rfl (by kernel_rfl) (by kernel_rfl) (by kernel_rfl) (fun _ _ _ h => h) (Or.inl ⟨by rfl, ?_⟩) hS ?_
  · intro W hW; go_simp
  refine wpAnyH_take (i := 51) (v := .bool true) rfl (by kernel_rfl) (by kernel_rfl) (by kernel_rfl) (fun _ _ _ h => h) (Or.inl ⟨by rfl, ?_⟩) hS ?_
  · intro W hW; go_simp
  simp only [Act.put, List.getElem_toArray, List.getElem_cons_succ, List.getElem_cons_zero, List.setIfInBounds_toArray, List.set_cons_succ, List.set_cons_zero]
  refine wpAnyH_ready (rs := [52]) (by kernel_rfl) (by simp) (AllReadyH.cons rfl (fun K hK => ?_) AllReadyH.nil)
  go_simp
  refine Calls.mono (body_any _) ?_
  rintro en w37 ⟨rfl, hU⟩
  have hS2 : Upd [] w19 w37 := hS.trans hU
  refine hK.out _ _ hS2 (fun _ => ?_)
  clear hK K hS
  have hS : Upd [] w19 w37 := hS2
  clear hS2
  clear hU
  refine wpAnyH_ready (rs := [53]) (by kernel_rfl) (by simp) (AllReadyH.cons rfl (fun K hK => ?_) AllReadyH.nil)
  go_simp
  refine Calls.mono (CRb.out _ hS) ?_
  rintro en w38 ⟨rfl, hU⟩
  have hS2 : Upd [] w19 w38 := hS.trans hU
  refine hK.out _ _ hS2 (fun _ => ?_)
  clear hK K hS
  have hS : Upd [] w19 w38 := hS2
  clear hS2
  clear hU
  refine wpAnyH_take (i := 54) (v := .bool true) rfl (by kernel_rfl) (by kernel_rfl) (by kernel_rfl) (fun _ _ _ h => h) (Or.inl ⟨by rfl, ?_⟩) hS ?_
  · intro W hW; go_simp
  refine wpAnyH_take (i := 55) (v := .bool true) rfl (by kernel_rfl) (by kernel_rfl) (by kernel_rfl) (fun _ _ _ h => h) (Or.inl ⟨by rfl, ?_⟩) hS ?_
  · intro W hW; go_simp
  refine wpAnyH_take (i := 56) (v := .bool true) rfl (by kernel_rfl) (by kernel_rfl) (by kernel_rfl) (fun _ _ _ h => h) (Or.inl ⟨by rfl, ?_⟩) hS ?_
  · intro W hW; go_simp
  simp only [Act.put, List.getElem_toArray, List.getElem_cons_succ, List.getElem_cons_zero, List.setIfInBounds_toArray, List.set_cons_succ, List.set_cons_zero]
  refine wpAnyH_ready (rs := [57]) (by kernel_rfl) (by simp) (AllReadyH.cons rfl (fun K hK => ?_) AllReadyH.nil)
  go_simp
  refine Calls.mono (one_any _) ?_
  rintro en w39 ⟨rfl, hU⟩
  have hS2 : Upd [] w19 w39 := hS.trans hU
  refine hK.out _ _ hS2 (fun _ => ?_)
  clear hK K hS
  have hS : Upd [] w19 w39 := hS2
  clear hS2
  clear hU
  refine wpAnyH_ready (rs := [58]) (by kernel_rfl) (by simp) (AllReadyH.cons rfl (fun K hK => ?_) AllReadyH.nil)
  go_simp
  obtain ⟨w40, hv⟩ : ∃ v, v = w39.alloc (.cells #[.int .u8 1, .string ⟨#[49]⟩, .int .i64 0, .int .i64 0, .slice none 0 0] 25) := ⟨_, rfl⟩
  rw [← hv]
  obtain ⟨hr, hU⟩ := new_blk w39 _ w40 hv
  have hS2 : Upd [] w19 w40 := hS.trans hU
  refine hK.out _ _ hS2 (fun _ => ?_)
  clear hK K hS hv
  have hS : Upd [] w19 w40 := hS2
  clear hS2 hU
  refine wpAnyH_ready (rs := [59]) (by kernel_rfl) (by simp) (AllReadyH.cons rfl (fun K hK => ?_) AllReadyH.nil)
  go_simp
  refine Calls.mono (lof_any 12 ⟨#[]⟩ (some ⟨w39.heap.size, 0, none⟩) 1 1 _) ?_
  rintro en w41 ⟨rfl, hU⟩
  have hS2 : Upd [] w19 w41 := hS.trans hU
  refine hK.out _ _ hS2 (fun _ => ?_)
  clear hK K hS
  have hS : Upd [] w19 w41 := hS2
  clear hS2
  have hr2 := (hU.block _ (lt_of_block hr) (by simp)).trans hr
  clear hU hr
  refine wpAnyH_ready (rs := [60]) (by kernel_rfl) (by simp) (AllReadyH.cons rfl (fun K hK => ?_) AllReadyH.nil)
  go_simp
  refine Calls.mono (CRs.out _ _ hS hr2) ?_
  rintro en w42 ⟨rfl, hU⟩
  have hS2 : Upd [] w19 w42 := hS.trans hU
  refine hK.out _ _ hS2 (fun _ => ?_)
  clear hK K hS
  have hS : Upd [] w19 w42 := hS2
  clear hS2
  clear hU hr2
  refine wpAnyH_take (i := 61) (v := .bool true) rfl (by kernel_rfl) (by kernel_rfl) (by kernel_rfl) (fun _ _ _ h => h) (Or.inl ⟨by rfl, ?_⟩) hS ?_
  · intro W hW; go_simp
  refine wpAnyH_take (i := 62) (v := .bool true) rfl (by kernel_rfl) (by kernel_rfl) (by kernel_rfl) (fun _ _ _ h => h) (Or.inl ⟨by rfl, ?_⟩) hS ?_
  · intro W hW; go_simp
  refine wpAnyH_take (i := 63) (v := .bool true) rfl (by kernel_rfl) (by kernel_rfl) (by kernel_rfl) (fun _ _ _ h => h) (Or.inl ⟨by rfl, ?_⟩) hS ?_
  · intro W hW; go_simp
  simp only [Act.put, List.getElem_toArray, List.getElem_cons_succ, List.getElem_cons_zero, List.setIfInBounds_toArray, List.set_cons_succ, List.set_cons_zero]
  refine wpAnyH_ready (rs := [64]) (by kernel_rfl) (by simp) (AllReadyH.cons rfl (fun K hK => ?_) AllReadyH.nil)
  go_simp
  refine Calls.mono (leaf_any 3 ⟨#[120]⟩ _) ?_
  rintro en w43 ⟨rfl, hU⟩
  have hS2 : Upd [] w19 w43 := hS.trans hU
  refine hK.out _ _ hS2 (fun _ => ?_)
  clear hK K hS
  have hS : Upd [] w19 w43 := hS2
  clear hS2
  clear hU
  refine wpAnyH_ready (rs := [65]) (by kernel_rfl) (by simp) (AllReadyH.cons rfl (fun K hK => ?_) AllReadyH.nil)
  go_simp
  refine Calls.mono (CRx.out _ hS) ?_
  rintro en w44 ⟨rfl, hU⟩
  have hS2 : Upd [] w19 w44 := hS.trans hU
  refine hK.out _ _ hS2 (fun _ => ?_)
  clear hK K hS
  have hS : Upd [] w19 w44 := hS2
  clear hS2
  clear hU
  refine wpAnyH_take (i := 66) (v := .bool true) rfl (by kernel_rfl) (by kernel_rfl) (by kernel_rfl) (fun _ _ _ h => h) (Or.inl ⟨by rfl, ?_⟩) hS ?_
  · intro W hW; go_simp
  refine wpAnyH_take (i := 67) (v := .bool true) rfl (by kernel_rfl) (by kernel_rfl) (by kernel_rfl) (fun _ _ _ h => h) (Or.inl ⟨by rfl, ?_⟩) hS ?_
  · intro W hW; go_simp
  refine wpAnyH_take (i := 68) (v := .bool true) rfl (by kernel_rfl) (by kernel_rfl) (by kernel_rfl) (fun _ _ _ h => h) (Or.inl ⟨by rfl, ?_⟩) hS ?_
  · intro W hW; go_simp
  refine wpAnyH_take (i := 69) (v := .agg #[.int .u8 5, .string ⟨#[]⟩, .int .i64 0, .int .i64 0, .slice (some ⟨w2.heap.size, 0, none⟩) 2 2]) rfl (by kernel_rfl) (by kernel_rfl) (by kernel_rfl) (fun _ _ _ h => h) (Or.inl ⟨by rfl, ?_⟩) hS ?_
  · intro W hW; have t : Tb W (w4.heap.size) #[.int .u8 5, .string ⟨#[]⟩, .int .i64 0, .int .i64 0, .slice (some ⟨w2.heap.size, 0, none⟩) 2 2] := (hW.block _ (lt_of_block T1) (by simp)).trans T1; have e0 : W.cell? ⟨w4.heap.size, 0, none⟩ = some (.int .u8 5) := t.cell 0; have e1 : W.cell? ⟨w4.heap.size, 1, none⟩ = some (.string ⟨#[]⟩) := t.cell 1; have e2 : W.cell? ⟨w4.heap.size, 2, none⟩ = some (.int .i64 0) := t.cell 2; have e3 : W.cell? ⟨w4.heap.size, 3, none⟩ = some (.int .i64 0) := t.cell 3; have e4 : W.cell? ⟨w4.heap.size, 4, none⟩ = some (.slice (some ⟨w2.heap.size, 0, none⟩) 2 2) := t.cell 4; go_simp
  simp only [Act.put, List.getElem_toArray, List.getElem_cons_succ, List.getElem_cons_zero, List.setIfInBounds_toArray, List.set_cons_succ, List.set_cons_zero]
  refine wpAnyH_ready (rs := [70]) (by kernel_rfl) (by simp) (AllReadyH.cons rfl (fun K hK => ?_) AllReadyH.nil)
  go_simp
  refine Calls.mono (CD.out _ hS) ?_
  rintro en w45 ⟨rfl, hU⟩
  have hS2 : Upd [] w19 w45 := hS.trans hU
  refine hK.out _ _ hS2 (fun _ => ?_)
  clear hK K hS
  have hS : Upd [] w19 w45 := hS2
  clear hS2
  clear hU
  refine wpAnyH_take (i := 71) (v := .bool true) rfl (by kernel_rfl) (by kernel_rfl) (by kernel_rfl) (fun _ _ _ h => h) (Or.inl ⟨by rfl, ?_⟩) hS ?_
  · intro W hW; go_simp
  refine wpAnyH_take (i := 72) (v := .bool true) rfl (by kernel_rfl) (by kernel_rfl) (by kernel_rfl) (fun _ _ _ h => h) (Or.inl ⟨by rfl, ?_⟩) hS ?_
  · intro W hW; go_simp
  refine wpAnyH_take (i := 73) (v := .bool true) rfl (by kernel_rfl) (by kernel_rfl) (by kernel_rfl) (fun _ _ _ h => h) (Or.inl ⟨by rfl, ?_⟩) hS ?_
  · intro W hW; go_simp
  simp only [Act.put, List.getElem_toArray, List.getElem_cons_succ, List.getElem_cons_zero, List.setIfInBounds_toArray, List.set_cons_succ, List.set_cons_zero]
  refine wpAnyH_done (by kernel_rfl) ?_ _
  go_wp2
  go_ret
  exact ⟨rfl, UW.trans hS⟩

end Go.Proofs.YtehfoblfmehbdaaDoor
