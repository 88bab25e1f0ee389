/- throughout of package node, of whatever closure that asks one node. -/
import Derived.Test.YtehfoblfmehbdaaDoorNdG
namespace Go.Proofs.YtehfoblfmehbdaaDoor
open Go.RowKit

mutual
/-- It holds for a node and all that is in it. -/
def thru (p : Nd → Bool) : Nd → Bool
  | .mk k s num pos K => p (.mk k s num pos K) && thrus p K
def thrus (p : Nd → Bool) : List Nd → Bool
  | [] => true
  | n :: r => thru p n && thrus p r
end
theorem thrus_get (p : Nd → Bool) (K : List Nd) (h : thrus p K = true) (k : Nat) (hk : k < K.length) : thru p K[k] = true := by
  induction K generalizing k with
  | nil => simp at hk
  | cons t r ih =>
    rw [thrus, Bool.and_eq_true] at h
    cases k with
    | zero => exact h.1
    | succ k => simp only [List.getElem_cons_succ]; exact ih h.2 k (by simpa using hk)
theorem thrus_all (p : Nd → Bool) (K : List Nd) (h : ∀ k (hk : k < K.length), thru p K[k] = true) : thrus p K = true := by
  induction K with
  | nil => rw [thrus]
  | cons t r ih =>
    have h0 := h 0 (by simp)
    rw [thrus, Bool.and_eq_true]
    exact ⟨h0, ih (fun k hk => by have := h (k + 1) (by simpa using hk); simpa using this)⟩
/-- What a call has: something that is called. -/
def callOk (t : Nd) : Bool := decide (t.kd ≠ 9) || decide (0 < t.kids.length)

/-- A closure that asks one node, and keeps nothing. -/
def Asks (fid : Nat) (p : Nd → Bool) : Prop := ∀ (d : Nat) (w : World) (cs : List Value) (t : Nd), NIn w d cs t → nsz t ≤ 2199023255488 → callOk t = true → Calls Tryd.prog fid #[.agg cs.toArray] w fun e w' => e = .returned (.bool (p t)) ∧ Upd [] w w'
def ThrS (fid : Nat) (p : Nd → Bool) (d : Nat) : Prop := ∀ (w : World) (bh q : Nat) (cs : List Value) (t : Nd), NIn w d cs t → nsz t ≤ 2199023255488 → thru callOk t = true → FunB w bh (.func (.func fid) #[] #[]) 26 → FunB w q (.func (.func 58) #[] #[.pointer (some ⟨bh, 0, none⟩), .pointer (some ⟨q, 0, none⟩)]) 26 →
  Calls Tryd.prog 58 #[.agg cs.toArray, .pointer (some ⟨bh, 0, none⟩), .pointer (some ⟨q, 0, none⟩)] w fun e w' => e = .returned (.bool (thru p t)) ∧ Upd [] w w'

structure ThrI (w : World) (p : Nd → Bool) (K : List Nd) (k : Nat) (W : World) : Prop where
  upd : Upd [] w W
  yes : ∀ j (hj : j < K.length), j < k → thru p K[j] = true
def ThrF (w : World) (p : Nd → Bool) (K : List Nd) (W : World) : Prop := thrus p K = false ∧ Upd [] w W

theorem thr_kids (fid : Nat) (p : Nd → Bool) (d : Nat) (ih : ThrS fid p d) (w : World) (bh q : Nat) (a : Option Addr) (c : Nat) (K : List Nd) (hK : RowN (NIn w d) w a K) (hz : nszs K ≤ 2199023255488) (hc : thrus callOk K = true) (h1 : FunB w bh (.func (.func fid) #[] #[]) 26) (h2 : FunB w q (.func (.func 58) #[] #[.pointer (some ⟨bh, 0, none⟩), .pointer (some ⟨q, 0, none⟩)]) 26) :
    Calls Tryd.prog 42 #[.slice a K.length c, .func (.func 58) #[] #[.pointer (some ⟨bh, 0, none⟩), .pointer (some ⟨q, 0, none⟩)]] w fun e w' => e = .returned (.bool (thrus p K)) ∧ Upd [] w w' := by
  refine (all_gen a c d K 58 _ (ThrI w p K) (ThrF w p K) w (Nat.le_trans (nszs_len K) hz) Tryd.call58 ⟨Upd.refl _ _, fun j _ h => by omega⟩ (fun k W h => hK.imp h.upd (fun cs t g => NIn.mono h.upd _ _ _ g)) (fun k W V h hu => ⟨h.upd.trans hu, h.yes⟩) (fun k hk cs W h hin => ?_)).mono ?_
  · refine (ih W bh q cs K[k] hin (Nat.le_trans (nszs_get K k hk) hz) (thrus_get _ K hc k hk) (h1.mono h.upd (by simp)) (h2.mono h.upd (by simp))).mono ?_
    rintro e w' ⟨rfl, hu⟩
    refine ⟨_, rfl, fun hy => ⟨h.upd.trans hu, fun j hj hjk => ?_⟩, fun hn => ⟨?_, h.upd.trans hu⟩⟩
    · by_cases e : j = k
      · subst e; exact hy
      · exact h.yes j hj (by omega)
    · cases hh : thrus p K with
      | false => rfl
      | true => rw [thrus_get p K hh k hk] at hn; cases hn
  · rintro e w' ⟨b, rfl, hy, hn⟩
    cases b with
    | true =>
      have h := hy rfl
      exact ⟨by rw [thrus_all p K (fun k hk => h.yes k hk hk)], h.upd⟩
    | false =>
      have h := hn rfl
      exact ⟨by rw [h.1], h.2⟩

set_option maxHeartbeats 4000000 in
set_option maxRecDepth 100000 in
theorem Thr_step (fid : Nat) (p : Nd → Bool) (eg : ∀ args w, (callFunc fid args).run Tryd.prog w = .ok (.enter fid args) w) (hp : Asks fid p) (d : Nat) (ih : ThrS fid p d) : ThrS fid p (d + 1) := by
  intro w bh q cs t h hs hc h1 h2
  obtain ⟨k, s, num, pos, K⟩ := t
  have h' := h
  obtain ⟨a, c, rfl, hK, -⟩ := h
  rw [thru, Bool.and_eq_true] at hc
  rw [thru]
  have hsz := hs
  simp only [nsz] at hs
  have hl : K.length ≤ 2199023255488 := Nat.le_trans (nszs_len K) hs
  have tb0 : Tb (w.alloc (.cells #[.int .u8 k, .string s, .int .i64 num, .int .i64 pos, .slice a K.length c] 25)) w.heap.size #[.int .u8 k, .string s, .int .i64 num, .int .i64 pos, .slice a K.length c] := Tb.new _ _ _ rfl
  have hU0 : Upd [] w (w.alloc (.cells #[.int .u8 k, .string s, .int .i64 num, .int .i64 pos, .slice a K.length c] 25)) := (Upd.refl [] w).alloc _
  obtain ⟨o, ho⟩ : ∃ o, p (.mk k s num pos K) = o := ⟨_, rfl⟩
  obtain ⟨r, hr⟩ : ∃ r, thrus p K = r := ⟨_, rfl⟩
  rw [ho, hr]
  have HP : Hid (∀ W, Upd [] w W → Calls Tryd.prog fid #[.agg #[.int .u8 k, .string s, .int .i64 num, .int .i64 pos, .slice a K.length c]] W fun e w' => e = .returned (.bool o) ∧ Upd [] W w') := fun W hu => by
    have := hp (d + 1) W _ (.mk k s num pos K) (NIn.mono hu _ _ _ h') hsz hc.1
    rw [ho] at this
    exact this
  have HK : Hid (∀ W, Upd [] w W → Calls Tryd.prog 42 #[.slice a K.length c, .func (.func 58) #[] #[.pointer (some ⟨bh, 0, none⟩), .pointer (some ⟨q, 0, none⟩)]] W fun e w' => e = .returned (.bool r) ∧ Upd [] W w') := fun W hu => by
    have := thr_kids fid p d ih W bh q a c K (hK.imp hu (fun cs t g => NIn.mono hu _ _ _ g)) hs hc.2 (h1.mono hu (by simp)) (h2.mono hu (by simp))
    rw [hr] at this
    exact this
  have y1 : w.cell? ⟨bh, 0, none⟩ = some (.func (.func fid) #[] #[]) := h1.cell
  have HQ : Hid (FunB w q (.func (.func 58) #[] #[.pointer (some ⟨bh, 0, none⟩), .pointer (some ⟨q, 0, none⟩)]) 26) := h2
  have HU0 : Hid (Upd [] w (w.alloc (.cells #[.int .u8 k, .string s, .int .i64 num, .int .i64 pos, .slice a K.length c] 25))) := hU0
  have lb := h1.lt
  have nb : ¬ bh = w.heap.size := by omega
  clear hU0 ho hr hK h' hs hsz hc h1 h2 ih hp
  go_enter Tryd.func58, Tryd.ntmps58
  go_wp2_with (first | (refine load_T _ rfl _ rfl _ _ rfl tb0 rfl ?_) | fail)
  refine Calls.mono (HP.out _ HU0.out) ?_
  rintro e w1 ⟨rfl, u1⟩
  have U1 : Hid (Upd [] w w1) := HU0.out.trans u1
  have tb1 := tb0.mono u1 (by simp)
  have z4 : w1.cell? ⟨w.heap.size, 4, none⟩ = some (.slice a K.length c) := tb1.cell 4
  have zq : w1.cell? ⟨q, 0, none⟩ = some (.func (.func 58) #[] #[.pointer (some ⟨bh, 0, none⟩), .pointer (some ⟨q, 0, none⟩)]) := (HQ.out.mono U1.out (by simp)).cell
  clear u1 tb0 tb1 y1
  cases o with
  | false =>
    go_wp2
    go_ret
    exact ⟨rfl, U1.out⟩
  | true =>
    go_wp2_with fail
    refine Calls.mono (HK.out _ U1.out) ?_
    rintro e w2 ⟨rfl, u2⟩
    have U2 : Hid (Upd [] w w2) := U1.out.trans u2
    clear u2
    go_wp2
    go_ret
    exact ⟨rfl, U2.out⟩
theorem Thr_all (fid : Nat) (p : Nd → Bool) (eg : ∀ args w, (callFunc fid args).run Tryd.prog w = .ok (.enter fid args) w) (hp : Asks fid p) : ∀ d, ThrS fid p d
  | 0 => fun _ _ _ _ _ h => h.elim
  | d + 1 => Thr_step fid p eg hp d (Thr_all fid p eg hp d)

set_option maxHeartbeats 4000000 in
set_option maxRecDepth 100000 in
theorem thr_in (fid : Nat) (p : Nd → Bool) (eg : ∀ args w, (callFunc fid args).run Tryd.prog w = .ok (.enter fid args) w) (hp : Asks fid p) (d : Nat) (w : World) (cs : List Value) (t : Nd) (h : NIn w d cs t) (hs : nsz t ≤ 2199023255488) (hc : thru callOk t = true) :
    Calls Tryd.prog 29 #[.agg cs.toArray, .func (.func fid) #[] #[]] w fun e w' => e = .returned (.bool (thru p t)) ∧ Upd [] w w' := by
  have hsev := h.five
  obtain ⟨C, hC⟩ : ∃ C, C = cs.toArray := ⟨_, rfl⟩
  have HF : Hid (∀ W, Upd [] w W → ∀ bh q, FunB W bh (.func (.func fid) #[] #[]) 26 → FunB W q (.func (.func 58) #[] #[.pointer (some ⟨bh, 0, none⟩), .pointer (some ⟨q, 0, none⟩)]) 26 → Calls Tryd.prog 58 #[.agg C, .pointer (some ⟨bh, 0, none⟩), .pointer (some ⟨q, 0, none⟩)] W fun e w' => e = .returned (.bool (thru p t)) ∧ Upd [] W w') := fun W hu bh q h1 h2 => by
    rw [hC]
    exact Thr_all fid p eg hp d W bh q cs t (NIn.mono hu _ _ _ h) hs hc h1 h2
  rw [← hC] at hsev ⊢
  clear h hs hC hc hp eg
  have tb0 : Tb (w.alloc (.cells C 25)) w.heap.size C := Tb.new _ _ _ rfl
  go_enter Tryd.func29, Tryd.ntmps29
  go_wp2_with (first | (refine load_T _ rfl _ rfl _ _ rfl ((tb0.old _).old _) hsev ?_) | fail)
  refine Calls.mono (HF.out _ (((Upd.refl [] w).alloc _).alloc _ |>.alloc _) (w.heap.size + 1) (w.heap.size + 1 + 1) ((FunB.new _ _ _ _ (by simp)).mono ((Upd.refl [] _).alloc _) (by simp)) (FunB.new _ _ _ _ (by simp))) ?_
  rintro e w1 ⟨rfl, u1⟩
  have U1 : Hid (Upd [] w w1) := Upd.trans (((Upd.refl [] w).alloc _).alloc _ |>.alloc _) u1
  clear u1
  go_wp2
  go_ret
  exact ⟨rfl, U1.out⟩

end Go.Proofs.YtehfoblfmehbdaaDoor
