/- lint's has, callable, alike, of whatever modules. -/
import Derived.Test.YtpgjcedonimgnaaDoorJAN
namespace Go.Proofs.YtpgjcedonimgnaaDoor
open Go.RowKit

theorem StrAt.keep {w w' : World} {bm : Nat} {f : Fr} (hN : NmIs w bm f) (hu : Upd [bm] w w') {a : Option Addr} {L : List ByteArray} (h : StrAt w a L) : StrAt w' a L := by
  rcases h with h | ⟨b, o, e, h⟩
  · exact Or.inl h
  · exact Or.inr ⟨b, o, e, fun i hi => hN.cell hu (h i hi)⟩
theorem Blt.keep {w w' : World} {bm : Nat} {f : Fr} (h : Blt w) (hN : NmIs w bm f) (hu : Upd [bm] w w') : Blt w' := fun k a hk ha => by
  obtain ⟨ad, c, h1, h2⟩ := h k a hk ha
  exact ⟨ad, c, hN.cell hu h1, h2.keep hN hu⟩
/-- The checker: its functions; the table. -/
structure Env (w : World) (bc bf : Nat) (hs : ByteArray → Int → Bool) : Prop where
  c : w.heap[bc]? = some (.cells #[.map (some bf)] 51 (0, 0))
  f : FnIs w bf hs
  b : Blt w
theorem Env.mono {w w' : World} {bc bf : Nat} {hs : ByteArray → Int → Bool} (h : Env w bc bf hs) (hu : Upd [] w w') : Env w' bc bf hs := ⟨(hu.block bc (lt_of_block h.c) (by simp)).trans h.c, h.f.mono hu (by simp), h.b.mono hu⟩
theorem Env.keep {w w' : World} {bc bf bm : Nat} {f : Fr} {hs : ByteArray → Int → Bool} (h : Env w bc bf hs) (hN : NmIs w bm f) (hu : Upd [bm] w w') (hn : bf ≠ bm) : Env w' bc bf hs := ⟨hN.keepBlock hu h.c, h.f.mono hu (by simpa using hn), h.b.keep hN hu⟩

set_option maxHeartbeats 1000000 in
set_option maxRecDepth 100000 in
theorem has_in (bc bf : Nat) (hs : ByteArray → Int → Bool) (s : ByteArray) (n : Int) (w : World) (h : Env w bc bf hs) : Calls Tryd.prog 37 #[.pointer (some ⟨bc, 0, none⟩), .string s, .int .i64 n] w fun e w' => e = .returned (.bool (hs s n)) ∧ Upd [] w w' := by
  have hl := h.f.look s n
  have hc : w.cell? ⟨bc, 0, none⟩ = some (.map (some bf)) := cell_of_row _ bc 0 _ _ _ h.c
  clear h
  obtain ⟨z, hz⟩ : ∃ z, z = hs s n := ⟨_, rfl⟩
  rw [← hz] at hl ⊢
  clear hz
  go_enter Tryd.func37, Tryd.ntmps37
  go_wp2_with fail
  go_ret
  exact ⟨rfl, (Upd.refl [] w).alloc _⟩
set_option maxHeartbeats 1000000 in
set_option maxRecDepth 100000 in
theorem callable_in (bc bf : Nat) (hs : ByteArray → Int → Bool) (s : ByteArray) (n : Int) (w : World) (h : Env w bc bf hs) : Calls Tryd.prog 27 #[.pointer (some ⟨bc, 0, none⟩), .string s, .int .i64 n] w fun e w' => e = .returned (.bool (clbB hs s n)) ∧ Upd [] w w' := by
  have HH := has_in bc bf hs s n w h
  have HB : Hid (Blt w) := h.b
  clear h
  obtain ⟨G, hG⟩ : ∃ G, G = clbB hs s n := ⟨_, rfl⟩
  rw [← hG]
  unfold clbB at hG
  cases hz : hs s n with
  | true =>
    rw [hz] at HH hG
    have hg : G = true := by rw [hG]; rfl
    subst hg
    have HH' : Hid (Calls Tryd.prog 37 #[.pointer (some ⟨bc, 0, none⟩), .string s, .int .i64 n] w fun e w' => e = .returned (.bool true) ∧ Upd [] w w') := HH
    clear HH hG hz
    go_enter Tryd.func27, Tryd.ntmps27
    go_wp2_with fail
    refine Calls.mono HH'.out ?_
    rintro e w1 ⟨rfl, u1⟩
    clear HH'
    go_wp2_with fail
    go_ret
    exact ⟨rfl, u1⟩
  | false =>
    rw [hz] at HH hG
    have hg : G = decide (kindS s n ≠ 0) := by rw [hG]; rfl
    have HH' : Hid (Calls Tryd.prog 37 #[.pointer (some ⟨bc, 0, none⟩), .string s, .int .i64 n] w fun e w' => e = .returned (.bool false) ∧ Upd [] w w') := HH
    obtain ⟨k, hk⟩ : ∃ k, k = kindS s n := ⟨_, rfl⟩
    rw [← hk] at hg
    have HK : Hid (k = kindS s n) := hk
    clear HH hG hz hk
    go_enter Tryd.func27, Tryd.ntmps27
    go_wp2_with fail
    refine Calls.mono HH'.out ?_
    rintro e w1 ⟨rfl, u1⟩
    have U1 : Hid (Upd [] w w1) := u1
    clear HH' u1
    go_wp2_with fail
    refine Calls.mono (Kind_any s n w1 (HB.out.mono U1.out)) ?_
    rintro e w2 ⟨rfl, rfl⟩
    rw [← HK.out]
    by_cases h0 : k = 0
    · subst h0
      have hg' : G = false := by rw [hg]; rfl
      subst hg'
      clear hg
      go_wp2_with fail
      go_ret
      exact ⟨rfl, U1.out⟩
    · have hg' : G = true := by rw [hg]; simp [h0]
      subst hg'
      clear hg
      have hne : ((k : Int) == 0) = false := by simp; exact h0
      go_wp2_with fail
      go_ret
      exact ⟨by simp [h0], U1.out⟩
/-- A clause has patterns. -/
def hasP : Nd → Bool
  | .mk _ _ _ _ (_ :: _) => true
  | _ => false
theorem alikeF_at (n : Int) (K : List Nd) (q : Nat) (hq : q < K.length) : alikeF n (K.drop q) = if 12 < patN K[q] then some (217, K[q].pos) else if (patN K[q] : Int) ≠ n then some (211, K[q].pos) else alikeF n (K.drop (q + 1)) := by
  rw [List.drop_eq_getElem_cons hq, alikeF]

set_option maxHeartbeats 4000000 in
set_option maxRecDepth 100000 in
theorem alike_in (d : Nat) (w : World) (a : Option Addr) (c : Nat) (K : List Nd) (n : Int) (hR : RowN (NIn w d) w a K) (hs0 : K.length ≤ 2199023255488) (hP : ∀ i (hi : i < K.length), hasP K[i] = true) : Calls Tryd.prog 28 #[.slice a K.length c, .int .i64 n] w (RetO (alikeF n K) w) := by
  have HR : Hid (RowN (NIn w d) w a K) := hR
  have HP : Hid (∀ i (hi : i < K.length), hasP K[i] = true) := hP
  obtain ⟨G, hG⟩ : ∃ G, G = alikeF n K := ⟨_, rfl⟩
  rw [← hG]
  have HG : Hid (G = alikeF n K) := hG
  clear hR hP hG
  go_enter Tryd.func28, Tryd.ntmps28
  go_wp2_with fail
  go_loopw [9] (fun i wr => ∃ q : Nat, q ≤ K.length ∧ i = .int .i64 q ∧ Hid (alikeF n K = alikeF n (K.drop q)) ∧ Upd [] w wr) (fun i _ => K.length - (intOf i).toNat)
  case atStart => exact ⟨0, Nat.zero_le _, rfl, rfl, Upd.refl [] w⟩
  case round =>
    obtain ⟨q, hq, rfl, HA, hu⟩ := hrel
    have HU : Hid (Upd [] w wr) := hu
    clear hu
    by_cases hlt : q < K.length
    · have i1 : (q : Int) < (K.length : Int) := by omega
      obtain ⟨b3, o3, hae, cs, hl5, hcell, hin⟩ := HR.out.atK q hlt
      cases hae
      have hp := HP.out q hlt
      have HA2 := HA.out
      rw [alikeF_at n K q hlt] at HA2
      obtain ⟨nd, hnd⟩ : ∃ nd, nd = K[q] := ⟨_, rfl⟩
      rw [← hnd] at hin hp HA2
      clear hnd HA
      match d, nd, hin, hp with
      | d + 1, .mk k1 s1 n1 p1 (P :: K1), ⟨a1, c1, hcs, hR1, hc1⟩, _ =>
        subst hcs
        obtain ⟨b4, o4, rfl, hb4, cs4, h54, hcell4, hin4⟩ := RowN.at0 hR1 (by simp)
        obtain ⟨k5, s5, n5, p5, K5⟩ := P
        obtain ⟨a5, c5, rfl⟩ := NIn.cells hin4
        have hm : patN (.mk k1 s1 n1 p1 (.mk k5 s5 n5 p5 K5 :: K1)) = K5.length := rfl
        rw [hm] at HA2
        have hps : (Nd.mk k1 s1 n1 p1 (.mk k5 s5 n5 p5 K5 :: K1)).pos = p1 := rfl
        rw [hps] at HA2
        obtain ⟨m, hmm⟩ : ∃ m, m = K5.length := ⟨_, rfl⟩
        rw [← hmm] at HA2
        have HA3 : Hid (alikeF n K = if 12 < m then some (217, p1) else if (m : Int) ≠ n then some (211, p1) else alikeF n (K.drop (q + 1))) := HA2
        have y4 : Hid (∀ W, Upd [] wr W → W.cell? ⟨b4, o4 + 4, none⟩ = some (.slice a5 m c5)) := fun W hW => by
          have e : w.cell? ⟨b4, o4 + 4, none⟩ = some (.slice a5 m c5) := by rw [hmm]; exact hcell4 4 (by omega)
          exact ((HU.out.trans hW).cell (cell_lt e) (by simp)).trans e
        have hc5 : ∀ j v, j < 5 → w.cell? ⟨b3, o3 + (q * 5 + j), none⟩ = some v → wr.cell? ⟨b3, o3 + (q * 5 + j), none⟩ = some v := fun j v _ e => (HU.out.cell (cell_lt e) (by simp)).trans e
        obtain ⟨l1, hl1⟩ : ∃ l1, l1 = (Nd.mk k5 s5 n5 p5 K5 :: K1).length := ⟨_, rfl⟩
        rw [← hl1] at hcell
        have hl1' : 0 < (l1 : Int) := by rw [hl1, List.length_cons]; omega
        have hl1'' : 0 < l1 := by omega
        have x0 : wr.cell? ⟨b3, o3 + q * 5, none⟩ = some (.int .u8 k1) := hc5 0 _ (by omega) (hcell 0 (by omega))
        have x1 : wr.cell? ⟨b3, o3 + q * 5 + 1, none⟩ = some (.string s1) := hc5 1 _ (by omega) (hcell 1 (by omega))
        have x2 : wr.cell? ⟨b3, o3 + q * 5 + 2, none⟩ = some (.int .i64 n1) := hc5 2 _ (by omega) (hcell 2 (by omega))
        have x3 : wr.cell? ⟨b3, o3 + q * 5 + 3, none⟩ = some (.int .i64 p1) := hc5 3 _ (by omega) (hcell 3 (by omega))
        have x4 : wr.cell? ⟨b3, o3 + q * 5 + 4, none⟩ = some (.slice (some ⟨b4, o4, none⟩) l1 c1) := hc5 4 _ (by omega) (hcell 4 (by omega))
        have tz : Tb (wr.alloc (.cells #[.int .u8 0, .string ⟨#[]⟩, .int .i64 0, .int .i64 0, .slice none 0 0] 29)) wr.heap.size #[.int .u8 0, .string ⟨#[]⟩, .int .i64 0, .int .i64 0, .slice none 0 0] := Tb.new _ _ _ rfl
        have HUZ : Hid (Upd [] wr (wr.alloc (.cells #[.int .u8 0, .string ⟨#[]⟩, .int .i64 0, .int .i64 0, .slice none 0 0] 29))) := (Upd.refl [] wr).alloc _
        clear hc5 hcell hcell4 hin4 hR1 h54 hmm hl1 hm hps HA2 hl5
        go_wp2_with (first
          | (refine store_T _ rfl _ _ rfl _ #[.int .u8 k1, .string s1, .int .i64 n1, .int .i64 p1, .slice (some ⟨b4, o4, none⟩) l1 c1] _ rfl rfl tz rfl rfl (by simp [Value.oneCell']) ?_; intro w1 t1 u1; have V1 : Hid (Upd [] wr w1) := HUZ.out.then u1 (by simp); have z4 : w1.cell? ⟨wr.heap.size, 4, none⟩ = some (.slice (some ⟨b4, o4, none⟩) l1 c1) := t1.cell 4; have z5 := y4.out w1 V1.out)
          | (refine load_T _ rfl _ rfl _ _ rfl t1 rfl ?_)
          | fail)
        by_cases h12 : 12 < m
        · rw [show decide ((12 : Int) < (m : Int)) = true from decide_eq_true (by omega)]
          refine Calls.mono (refuse_yes _ _ _ _ _ _ _ _ _) ?_
          rintro e w2 ⟨rfl, u2⟩
          have U2 : Hid (Upd [] w w2) := (HU.out.trans V1.out).trans u2
          have HA4 : Hid (alikeF n K = some (217, p1)) := by have := HA3.out; rw [if_pos h12] at this; exact this
          clear t1 u1 V1 tz HUZ x0 x1 x2 x3 x4 z4 z5 u2 y4
          go_wp2_with fail
          exact ⟨rfl, retO_err (HG.out.trans HA4.out) U2.out⟩
        · rw [show decide ((12 : Int) < (m : Int)) = false from decide_eq_false (by omega)]
          refine Calls.mono (refuse_no _ _ _ _ _ _ _ _ _) ?_
          rintro e w2 ⟨⟨v2, rfl⟩, u2⟩
          have U2 : Hid (Upd [] w w2) := (HU.out.trans V1.out).trans u2
          have t2 := t1.mono u2 (by simp)
          have HA4 : Hid (alikeF n K = if (m : Int) ≠ n then some (211, p1) else alikeF n (K.drop (q + 1))) := by have := HA3.out; rw [if_neg h12] at this; exact this
          clear t1 u1 V1 tz HUZ x0 x1 x2 x3 x4 z4 z5 u2 y4 HA3
          by_cases hmn : (m : Int) = n
          · have HA5 : Hid (alikeF n K = alikeF n (K.drop (q + 1))) := by have := HA4.out; rw [if_neg (by simp [hmn])] at this; exact this
            have hb : ((m : Int) == n) = true := by simp [hmn]
            have hb2 : ((m : Int) != n) = false := by simp [hmn]
            have HMN : Hid ((m : Int) = n) := hmn
            clear HA4 hmn
            go_wp2_with (first | (refine load_T _ rfl _ rfl _ _ rfl t2 rfl ?_) | fail)
            refine Calls.mono (refuse_no _ _ _ _ _ _ _ _ _) ?_
            rintro e w3 ⟨⟨v3, rfl⟩, u3⟩
            have U3 : Hid (Upd [] w w3) := U2.out.trans u3
            clear u3 U2 t2 hb hb2
            go_wp2_with fail
            go_roundw
            case rel => exact ⟨q + 1, by omega, by go_num, HA5, U3.out⟩
            case measure => simp [intOf]; omega
          · have HA5 : Hid (alikeF n K = some (211, p1)) := by have := HA4.out; rw [if_pos (by simpa using hmn)] at this; exact this
            have hb : ((m : Int) == n) = false := by simp [hmn]
            have hb2 : ((m : Int) != n) = true := by simp [hmn]
            clear HA4
            go_wp2_with (first | (refine load_T _ rfl _ rfl _ _ rfl t2 rfl ?_) | fail)
            refine Calls.mono (refuse_yes _ _ _ _ _ _ _ _ _) ?_
            rintro e w3 ⟨rfl, u3⟩
            have U3 : Hid (Upd [] w w3) := U2.out.trans u3
            clear u3 U2 t2 hb hb2
            go_wp2_with fail
            exact ⟨rfl, retO_err (HG.out.trans HA5.out) U3.out⟩
    · have hd : decide ((q : Int) < (K.length : Int)) = false := by simp; omega
      have hqe : q = K.length := by omega
      have HP3 : Hid (alikeF n K = none) := by
        have := HA.out
        rw [hqe, List.drop_length, alikeF] at this
        exact this
      go_wp2_with fail
      exact bodyPost_end (results_none rfl _ _ _) rfl (retO_ok (HG.out.trans HP3.out) HU.out)

end Go.Proofs.YtpgjcedonimgnaaDoor
