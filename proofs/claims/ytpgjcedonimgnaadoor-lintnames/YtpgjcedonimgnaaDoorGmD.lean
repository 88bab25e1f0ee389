/- lint's variable, isNegative and pattern, of whatever trees. -/
import Derived.Test.YtpgjcedonimgnaaDoorJAL
namespace Go.Proofs.YtpgjcedonimgnaaDoor
open Go.RowKit

/-- How a part of the check goes out: well, with these names, or with a fault. -/
def Ret (R : Except Flt Fr) (bm : Nat) (w : World) (e : Ending) (w' : World) : Prop := Upd [bm] w w' ∧ match R with
  | .ok f' => (∃ u, e = .returned u) ∧ NmIs w' bm f'
  | .error x => e = .panicked [{ v := .iface 33 (.agg #[.int .i64 x.1, .int .i64 x.2]), recovered := false }]
/-- The same where no name is bound. -/
def RetO (R : Option Flt) (w : World) (e : Ending) (w' : World) : Prop := Upd [] w w' ∧ match R with
  | none => ∃ u, e = .returned u
  | some x => e = .panicked [{ v := .iface 33 (.agg #[.int .i64 x.1, .int .i64 x.2]), recovered := false }]
theorem str_ne {s t : ByteArray} {l : List UInt8} (ht : t.toList = l) (h : s ≠ t) : (s.toList == l) = false := by
  cases hb : s.toList == l with
  | false => rfl
  | true => exact absurd (bytes_of ((eq_of_beq hb).trans ht.symm)) h
theorem Chn.upd {w w' : World} {bm : Nat} {bs : List Nat} {f f' : Fr} {r : List Fr} {a : Option Addr} (h : Chn w (bm :: bs) (f :: r) a) (hu : Upd [bm] w w') (hN' : NmIs w' bm f') : Chn w' (bm :: bs) (f' :: r) a := by
  obtain ⟨b, a', e, hb, hN, hm, hr⟩ := h
  exact ⟨b, a', e, hN.keepBlock hu hb, hN', hm, Chn.keep hN hu bs r a' hm hr⟩
theorem Chn.nm {w : World} {bm : Nat} {bs : List Nat} {f : Fr} {r : List Fr} {a : Option Addr} (h : Chn w (bm :: bs) (f :: r) a) : NmIs w bm f := by
  obtain ⟨b, a', e, hb, hN, hm, hr⟩ := h
  exact hN

set_option maxHeartbeats 1000000 in
set_option maxRecDepth 100000 in
theorem variable_in (k num pos : Int) (s : ByteArray) (ad : Option Addr) (n c : Nat) (bs : List Nat) (r : List Fr) (a : Option Addr) (w : World) (h : Chn w bs r a) : Calls Tryd.prog 47 #[.agg #[.int .u8 k, .string s, .int .i64 num, .int .i64 pos, .slice ad n c], .pointer a] w (RetO (varF r s pos) w) := by
  have hk3 := ofF_range w _ _ _ h s
  have U : Upd [] w (w.alloc (.cells #[.int .u8 k, .string s, .int .i64 num, .int .i64 pos, .slice ad n c] 29)) := (Upd.refl [] w).alloc _
  have hO := of_in _ _ _ s _ (Chn.mono U _ _ _ h)
  have tN : Tb (w.alloc (.cells #[.int .u8 k, .string s, .int .i64 num, .int .i64 pos, .slice ad n c] 29)) w.heap.size #[.int .u8 k, .string s, .int .i64 num, .int .i64 pos, .slice ad n c] := Tb.new _ _ _ rfl
  obtain ⟨G, hG⟩ : ∃ G, G = varF r s pos := ⟨_, rfl⟩
  rw [← hG]
  unfold varF at hG
  obtain ⟨z, hz⟩ : ∃ z, z = ofF r s := ⟨_, rfl⟩
  rw [← hz] at hk3 hO hG
  have HO : Hid (Calls Tryd.prog 53 #[.pointer a, .string s] (w.alloc (.cells #[.int .u8 k, .string s, .int .i64 num, .int .i64 pos, .slice ad n c] 29)) fun e w' => e = .returned (.int .i64 z) ∧ w' = w.alloc (.cells #[.int .u8 k, .string s, .int .i64 num, .int .i64 pos, .slice ad n c] 29)) := hO
  have HU : Hid (Upd [] w (w.alloc (.cells #[.int .u8 k, .string s, .int .i64 num, .int .i64 pos, .slice ad n c] 29))) := U
  clear hO hz h U
  have hc : z = 0 ∨ z = 1 ∨ z = 2 ∨ z = 3 := by omega
  have x0 : bits BinOp.and IntKind.i64 0 1 = 0 := by decide
  have x1 : bits BinOp.and IntKind.i64 1 1 = 1 := by decide
  have x2 : bits BinOp.and IntKind.i64 2 1 = 0 := by decide
  have x3 : bits BinOp.and IntKind.i64 3 1 = 1 := by decide
  have y0 : bits BinOp.and IntKind.i64 0 2 = 0 := by decide
  have y2 : bits BinOp.and IntKind.i64 2 2 = 2 := by decide
  rcases hc with rfl | rfl | rfl | rfl
  · have hg : G = some (212, pos) := hG
    subst hg
    clear hG
    go_enter Tryd.func47, Tryd.ntmps47
    go_wp2_with fail
    refine Calls.mono HO.out ?_
    rintro e w1 ⟨rfl, rfl⟩
    clear HO
    go_wp2_with (first | (refine load_T _ rfl _ rfl _ _ rfl tN rfl ?_) | fail)
    refine Calls.mono (refuse_no _ _ _ _ _ _ _ _ _) ?_
    rintro e w2 ⟨⟨v2, rfl⟩, u2⟩
    have t2 := tN.mono u2 (by simp)
    have U2 : Hid (Upd [] w w2) := HU.out.trans u2
    clear tN HU u2
    go_wp2_with (first | (refine load_T _ rfl _ rfl _ _ rfl t2 rfl ?_) | fail)
    refine Calls.mono (refuse_yes _ _ _ _ _ _ _ _ _) ?_
    rintro e w3 ⟨rfl, u3⟩
    have U3 : Hid (Upd [] w w3) := U2.out.trans u3
    clear t2 U2 u3
    go_wp2_with fail
    exact ⟨rfl, U3.out, rfl⟩
  · have hg : G = none := hG
    subst hg
    clear hG
    go_enter Tryd.func47, Tryd.ntmps47
    go_wp2_with fail
    refine Calls.mono HO.out ?_
    rintro e w1 ⟨rfl, rfl⟩
    clear HO
    go_wp2_with fail
    exact bodyPost_ret (results_none rfl _ _ _) rfl ⟨HU.out, _, rfl⟩
  · have hg : G = some (213, pos) := hG
    subst hg
    clear hG
    go_enter Tryd.func47, Tryd.ntmps47
    go_wp2_with fail
    refine Calls.mono HO.out ?_
    rintro e w1 ⟨rfl, rfl⟩
    clear HO
    go_wp2_with (first | (refine load_T _ rfl _ rfl _ _ rfl tN rfl ?_) | fail)
    refine Calls.mono (refuse_yes _ _ _ _ _ _ _ _ _) ?_
    rintro e w3 ⟨rfl, u3⟩
    have U3 : Hid (Upd [] w w3) := HU.out.trans u3
    clear HU u3
    go_wp2_with fail
    exact ⟨rfl, U3.out, rfl⟩
  · have hg : G = none := hG
    subst hg
    clear hG
    go_enter Tryd.func47, Tryd.ntmps47
    go_wp2_with fail
    refine Calls.mono HO.out ?_
    rintro e w1 ⟨rfl, rfl⟩
    clear HO
    go_wp2_with fail
    exact bodyPost_ret (results_none rfl _ _ _) rfl ⟨HU.out, _, rfl⟩

set_option maxHeartbeats 1000000 in
set_option maxRecDepth 100000 in
theorem isNegative_in (d : Nat) (w : World) (cs : List Value) (t : Nd) (h : NIn w d cs t) : Calls Tryd.prog 46 #[.agg cs.toArray] w fun e w' => e = .returned (.bool (isNeg t)) ∧ Upd [] w w' := by
  obtain ⟨k, s, num, pos, K⟩ := t
  cases d with
  | zero => exact h.elim
  | succ d =>
    obtain ⟨a, c, rfl, hR, hcp⟩ := h
    have HU : Hid (Upd [] w (w.alloc (.cells #[.int .u8 k, .string s, .int .i64 num, .int .i64 pos, .slice a K.length c] 29))) := (Upd.refl [] w).alloc _
    obtain ⟨G, hG⟩ : ∃ G, G = isNeg (.mk k s num pos K) := ⟨_, rfl⟩
    rw [← hG]
    unfold isNeg at hG
    simp only [Nd.kd, Nd.txt, Nd.kids] at hG
    by_cases hk : k = 7
    · subst hk
      by_cases hs : s = ⟨#[45]⟩
      · subst hs
        by_cases hl : K.length = 1
        · obtain ⟨n0, rfl⟩ : ∃ n0, K = [n0] := List.length_eq_one_iff.1 hl
          obtain ⟨b, o, rfl, hb, c5, h5, hcell, hin⟩ := RowN.at0 hR (by simp)
          have hkd := hin.kd
          have x0 : (w.alloc (.cells #[.int .u8 7, .string ⟨#[45]⟩, .int .i64 num, .int .i64 pos, .slice (some ⟨b, o, none⟩) 1 c] 29)).cell? ⟨b, o, none⟩ = some (.int .u8 n0.kd) := (HU.out.cell (p := ⟨b, o, none⟩) hb (by simp)).trans ((hcell 0 (by omega)).trans hkd)
          obtain ⟨q, hq⟩ : ∃ q, q = n0.kd := ⟨_, rfl⟩
          rw [← hq] at x0
          have hG' : G = decide (q = 1) := by
            rw [hG, hq]
            cases n0
            simp [Nd.kd]
          subst hG'
          clear hcell hin hkd hR hG hq
          go_enter Tryd.func46, Tryd.ntmps46
          by_cases hq1 : q = 1
          · subst hq1
            go_wp2_with fail
            go_ret
            exact ⟨rfl, HU.out⟩
          · have hd : (q == 1) = false := by simp [hq1]
            have hd2 : decide (q = 1) = false := by simp [hq1]
            go_wp2_with fail
            go_ret
            exact ⟨by simp [hq1], HU.out⟩
        · have hG' : G = false := by rw [hG]; simp [hl]
          subst hG'
          have hd : ((K.length : Int) == 1) = false := by simp; omega
          have hd2 : decide ((K.length : Int) = 1) = false := by simp; omega
          have hd3 : (K.length == 1) = false := by simp [hl]
          clear hG hR
          go_enter Tryd.func46, Tryd.ntmps46
          go_wp2_with fail
          go_ret
          exact ⟨rfl, HU.out⟩
      · have hG' : G = false := by rw [hG]; simp [hs]
        subst hG'
        have hd : (s.toList == [45]) = false := str_ne (by kernel_rfl) hs
        clear hG hR
        go_enter Tryd.func46, Tryd.ntmps46
        go_wp2_with fail
        go_ret
        exact ⟨rfl, HU.out⟩
    · have hG' : G = false := by rw [hG]; simp [hk]
      subst hG'
      have hd : (k == 7) = false := by simp [hk]
      have hd2 : decide (k = 7) = false := by simp [hk]
      clear hG hR
      go_enter Tryd.func46, Tryd.ntmps46
      go_wp2_with fail
      go_ret
      exact ⟨rfl, HU.out⟩

end Go.Proofs.YtpgjcedonimgnaaDoor
