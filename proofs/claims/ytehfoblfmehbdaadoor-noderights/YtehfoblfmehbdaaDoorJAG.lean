/- is of package node: the call. -/
import Derived.Test.YtehfoblfmehbdaaDoorJAF

namespace Go.Proofs.YtehfoblfmehbdaaDoor
open Go.RowKit

set_option maxHeartbeats 1000000 in
set_option maxRecDepth 100000 in
theorem is_no (a : Option Addr) (n c : Nat) (k : Int) (s : ByteArray) (num pos r : Int) (w : World) (hF : ∀ W, Upd [] w W → Calls Tryd.prog 43 #[.int .u8 k, .int .u8 r] W fun e w' => e = .returned (.tuple #[.agg #[.int .u8 0, .int .u8 0, .int .u8 0, .slice none 0 0, .bool false], .bool false]) ∧ Upd [] W w') :
    Calls Tryd.prog 24 #[.agg #[.int .u8 k, .string s, .int .i64 num, .int .i64 pos, .slice a n c], .int .u8 r] w fun e w' => e = .returned (.bool false) ∧ Upd [] w w' := by
  have HU0 : Hid (Upd [] w (w.alloc (.cells #[.int .u8 k, .string s, .int .i64 num, .int .i64 pos, .slice a n c] 25))) := (Upd.refl [] w).alloc _
  have tb0 : Tb (w.alloc (.cells #[.int .u8 k, .string s, .int .i64 num, .int .i64 pos, .slice a n c] 25)) w.heap.size #[.int .u8 k, .string s, .int .i64 num, .int .i64 pos, .slice a n c] := Tb.new _ _ _ rfl
  have HF : Hid (∀ W, Upd [] w W → Calls Tryd.prog 43 #[.int .u8 k, .int .u8 r] W fun e w' => e = .returned (.tuple #[.agg #[.int .u8 0, .int .u8 0, .int .u8 0, .slice none 0 0, .bool false], .bool false]) ∧ Upd [] W w') := hF
  clear hF
  go_enter Tryd.func24, Tryd.ntmps24
  go_wp2_with fail
  refine (HF.out _ HU0.out).mono ?_
  rintro e w1 ⟨rfl, hu⟩
  have HU1 : Hid (Upd [] w w1) := HU0.out.trans hu
  have tb1 := tb0.mono hu (by simp)
  have HT1 : Hid (Tb w1 w.heap.size #[.int .u8 k, .string s, .int .i64 num, .int .i64 pos, .slice a n c]) := tb1
  have _y4 : w1.cell? ⟨w.heap.size, 4, none⟩ = some (.slice a n c) := tb1.cell 4
  have hlt := tb1.lt
  clear hu tb0 tb1
  go_wp2
  go_ret
  exact ⟨rfl, HU1.out.alloc _⟩
set_option maxHeartbeats 1000000 in
set_option maxRecDepth 100000 in
theorem is_kids (a : Option Addr) (n c : Nat) (k : Int) (s : ByteArray) (num pos r : Int) (x y : Int) (le L c2 : Nat) (a2 : Option Addr) (mo : Bool) (w : World) (hF : ∀ W, Upd [] w W → Calls Tryd.prog 43 #[.int .u8 k, .int .u8 r] W fun e w' => e = .returned (.tuple #[.agg #[.int .u8 x, .int .u8 y, .int .u8 le, .slice a2 L c2, .bool mo], .bool true]) ∧ Upd [] W w') (hK : ∀ W, Upd [] w W → Calls Tryd.prog 44 #[.slice a n c, .agg #[.int .u8 x, .int .u8 y, .int .u8 le, .slice a2 L c2, .bool mo]] W fun e w' => e = .returned (.bool false) ∧ Upd [] W w') :
    Calls Tryd.prog 24 #[.agg #[.int .u8 k, .string s, .int .i64 num, .int .i64 pos, .slice a n c], .int .u8 r] w fun e w' => e = .returned (.bool false) ∧ Upd [] w w' := by
  have HU0 : Hid (Upd [] w (w.alloc (.cells #[.int .u8 k, .string s, .int .i64 num, .int .i64 pos, .slice a n c] 25))) := (Upd.refl [] w).alloc _
  have tb0 : Tb (w.alloc (.cells #[.int .u8 k, .string s, .int .i64 num, .int .i64 pos, .slice a n c] 25)) w.heap.size #[.int .u8 k, .string s, .int .i64 num, .int .i64 pos, .slice a n c] := Tb.new _ _ _ rfl
  have HF : Hid (∀ W, Upd [] w W → Calls Tryd.prog 43 #[.int .u8 k, .int .u8 r] W fun e w' => e = .returned (.tuple #[.agg #[.int .u8 x, .int .u8 y, .int .u8 le, .slice a2 L c2, .bool mo], .bool true]) ∧ Upd [] W w') := hF
  clear hF
  have HK : Hid (∀ W, Upd [] w W → Calls Tryd.prog 44 #[.slice a n c, .agg #[.int .u8 x, .int .u8 y, .int .u8 le, .slice a2 L c2, .bool mo]] W fun e w' => e = .returned (.bool false) ∧ Upd [] W w') := hK
  clear hK
  go_enter Tryd.func24, Tryd.ntmps24
  go_wp2_with fail
  refine (HF.out _ HU0.out).mono ?_
  rintro e w1 ⟨rfl, hu⟩
  have HU1 : Hid (Upd [] w w1) := HU0.out.trans hu
  have tb1 := tb0.mono hu (by simp)
  have HT1 : Hid (Tb w1 w.heap.size #[.int .u8 k, .string s, .int .i64 num, .int .i64 pos, .slice a n c]) := tb1
  have y4 : w1.cell? ⟨w.heap.size, 4, none⟩ = some (.slice a n c) := tb1.cell 4
  have hlt := tb1.lt
  clear hu tb0 tb1
  have HU2 : Hid (Upd [] w (w1.alloc (.cells #[.int .u8 x, .int .u8 y, .int .u8 le, .slice a2 L c2, .bool mo] 55))) := HU1.out.alloc _
  have y5 : (w1.alloc (.cells #[.int .u8 x, .int .u8 y, .int .u8 le, .slice a2 L c2, .bool mo] 55)).cell? ⟨w.heap.size, 4, none⟩ = some (.slice a n c) := (((Upd.refl [] w1).alloc _).cell (p := ⟨w.heap.size, 4, none⟩) hlt (by simp)).trans y4
  have HT2 : Hid (Tb (w1.alloc (.cells #[.int .u8 x, .int .u8 y, .int .u8 le, .slice a2 L c2, .bool mo] 55)) w.heap.size #[.int .u8 k, .string s, .int .i64 num, .int .i64 pos, .slice a n c]) := HT1.out.old _
  go_wp2_with fail
  refine (HK.out _ HU2.out).mono ?_
  rintro e w2 ⟨rfl, hu⟩
  have HU3 : Hid (Upd [] w w2) := HU2.out.trans hu
  have _tb3 : Tb w2 w.heap.size #[.int .u8 k, .string s, .int .i64 num, .int .i64 pos, .slice a n c] := HT2.out.mono hu (by simp)
  clear hu y4 y5
  go_wp2
  go_ret
  exact ⟨rfl, HU3.out⟩
set_option maxHeartbeats 1000000 in
set_option maxRecDepth 100000 in
theorem is_go (a : Option Addr) (n c : Nat) (k : Int) (s : ByteArray) (num pos r : Int) (x y : Int) (le L c2 : Nat) (a2 : Option Addr) (mo : Bool) (z : Bool) (w : World) (hF : ∀ W, Upd [] w W → Calls Tryd.prog 43 #[.int .u8 k, .int .u8 r] W fun e w' => e = .returned (.tuple #[.agg #[.int .u8 x, .int .u8 y, .int .u8 le, .slice a2 L c2, .bool mo], .bool true]) ∧ Upd [] W w') (hK : ∀ W, Upd [] w W → Calls Tryd.prog 44 #[.slice a n c, .agg #[.int .u8 x, .int .u8 y, .int .u8 le, .slice a2 L c2, .bool mo]] W fun e w' => e = .returned (.bool true) ∧ Upd [] W w') (hR : ∀ W, Upd [] w W → Calls Tryd.prog 45 #[.agg #[.int .u8 k, .string s, .int .i64 num, .int .i64 pos, .slice a n c]] W fun e w' => e = .returned (.bool z) ∧ Upd [] W w') :
    Calls Tryd.prog 24 #[.agg #[.int .u8 k, .string s, .int .i64 num, .int .i64 pos, .slice a n c], .int .u8 r] w fun e w' => e = .returned (.bool z) ∧ Upd [] w w' := by
  have HU0 : Hid (Upd [] w (w.alloc (.cells #[.int .u8 k, .string s, .int .i64 num, .int .i64 pos, .slice a n c] 25))) := (Upd.refl [] w).alloc _
  have tb0 : Tb (w.alloc (.cells #[.int .u8 k, .string s, .int .i64 num, .int .i64 pos, .slice a n c] 25)) w.heap.size #[.int .u8 k, .string s, .int .i64 num, .int .i64 pos, .slice a n c] := Tb.new _ _ _ rfl
  have HF : Hid (∀ W, Upd [] w W → Calls Tryd.prog 43 #[.int .u8 k, .int .u8 r] W fun e w' => e = .returned (.tuple #[.agg #[.int .u8 x, .int .u8 y, .int .u8 le, .slice a2 L c2, .bool mo], .bool true]) ∧ Upd [] W w') := hF
  clear hF
  have HK : Hid (∀ W, Upd [] w W → Calls Tryd.prog 44 #[.slice a n c, .agg #[.int .u8 x, .int .u8 y, .int .u8 le, .slice a2 L c2, .bool mo]] W fun e w' => e = .returned (.bool true) ∧ Upd [] W w') := hK
  clear hK
  have HR : Hid (∀ W, Upd [] w W → Calls Tryd.prog 45 #[.agg #[.int .u8 k, .string s, .int .i64 num, .int .i64 pos, .slice a n c]] W fun e w' => e = .returned (.bool z) ∧ Upd [] W w') := hR
  clear hR
  go_enter Tryd.func24, Tryd.ntmps24
  go_wp2_with fail
  refine (HF.out _ HU0.out).mono ?_
  rintro e w1 ⟨rfl, hu⟩
  have HU1 : Hid (Upd [] w w1) := HU0.out.trans hu
  have tb1 := tb0.mono hu (by simp)
  have HT1 : Hid (Tb w1 w.heap.size #[.int .u8 k, .string s, .int .i64 num, .int .i64 pos, .slice a n c]) := tb1
  have y4 : w1.cell? ⟨w.heap.size, 4, none⟩ = some (.slice a n c) := tb1.cell 4
  have hlt := tb1.lt
  clear hu tb0 tb1
  have HU2 : Hid (Upd [] w (w1.alloc (.cells #[.int .u8 x, .int .u8 y, .int .u8 le, .slice a2 L c2, .bool mo] 55))) := HU1.out.alloc _
  have y5 : (w1.alloc (.cells #[.int .u8 x, .int .u8 y, .int .u8 le, .slice a2 L c2, .bool mo] 55)).cell? ⟨w.heap.size, 4, none⟩ = some (.slice a n c) := (((Upd.refl [] w1).alloc _).cell (p := ⟨w.heap.size, 4, none⟩) hlt (by simp)).trans y4
  have HT2 : Hid (Tb (w1.alloc (.cells #[.int .u8 x, .int .u8 y, .int .u8 le, .slice a2 L c2, .bool mo] 55)) w.heap.size #[.int .u8 k, .string s, .int .i64 num, .int .i64 pos, .slice a n c]) := HT1.out.old _
  go_wp2_with fail
  refine (HK.out _ HU2.out).mono ?_
  rintro e w2 ⟨rfl, hu⟩
  have HU3 : Hid (Upd [] w w2) := HU2.out.trans hu
  have tb3 : Tb w2 w.heap.size #[.int .u8 k, .string s, .int .i64 num, .int .i64 pos, .slice a n c] := HT2.out.mono hu (by simp)
  clear hu y4 y5
  go_wp2_with (first | (refine load_G _ _ rfl _ _ rfl tb3 rfl rfl ?_) | fail)
  refine (HR.out _ HU3.out).mono ?_
  rintro e w3 ⟨rfl, hu⟩
  have HU4 : Hid (Upd [] w w3) := HU3.out.trans hu
  clear hu tb3
  go_wp2
  go_ret
  exact ⟨rfl, HU4.out⟩

end Go.Proofs.YtehfoblfmehbdaaDoor

/- is of package node, by its contract. -/
namespace Go.Proofs.YtehfoblfmehbdaaDoor
open Go.RowKit

theorem tab_more : ∀ f ∈ formsL, f.mo = true → 0 < f.ks.length := by decide
theorem tab_le : ∀ f ∈ formsL, f.le ≤ 255 ∧ f.ks.length ≤ 255 := by decide
theorem tab_recv : ∀ f ∈ formsL, f.kd = 14 → 1 ≤ f.le := by decide
theorem tab_fun : ∀ f ∈ formsL, f.kd = 21 → 1 ≤ f.le ∧ rol f.ks 0 = 9 := by decide
theorem tab_clause : ∀ f ∈ formsL, f.ro = 9 → f.le = 3 := by decide

theorem fm_eq {i : Nat} (h : i < 36) : ∃ h' : i < formsL.length, fm i = formsL[i]'h' := ⟨by rw [forms_len]; exact h, by
  simp only [fm, List.getD_eq_getElem?_getD, List.getElem?_eq_getElem (show i < formsL.length by rw [forms_len]; exact h), Option.getD_some]⟩
theorem fm_mem {i : Nat} (h : i < 36) : fm i ∈ formsL := by
  obtain ⟨h', e⟩ := fm_eq h
  rw [e]; exact List.getElem_mem h'

def rr (k r : Int) : Int := if r = 17 ∧ k ≠ 18 then 0 else r
theorem formAt_some {k r : Int} {f : Fm} (h : formAt k r = some f) : ∃ i, i < 36 ∧ fm i = f ∧ f.ro = rr k r ∧ f.kd = k ∧ ∀ j, j < i → ¬ ((fm j).ro = rr k r ∧ (fm j).kd = k) := by
  obtain ⟨hp, i, hi, e, hj⟩ := List.find?_eq_some_iff_getElem.1 h
  have hi36 : i < 36 := by rw [← forms_len]; exact hi
  obtain ⟨_, e'⟩ := fm_eq hi36
  have hp' : f.ro = rr k r ∧ f.kd = k := by simpa [rr] using hp
  refine ⟨i, hi36, e'.trans e, hp'.1, hp'.2, fun j hji hh => ?_⟩
  obtain ⟨_, e2⟩ := fm_eq (show j < 36 by omega)
  have := hj j hji
  rw [← e2] at this
  simp [rr] at hh
  simp [hh] at this
theorem formAt_none {k r : Int} (h : formAt k r = none) : ∀ j, j < 36 → ¬ ((fm j).ro = rr k r ∧ (fm j).kd = k) := by
  intro j hj hh
  have := List.find?_eq_none.1 h _ (fm_mem hj)
  simp [rr] at hh
  simp [hh] at this

theorem fo_any (A : Nat → Option Addr) (C : Nat → Nat) (k r : Int) (w : World) (hF : Frm A C w) : Calls Tryd.prog 43 #[.int .u8 k, .int .u8 r] w (FoP A C w k (rr k r)) := by
  unfold rr
  by_cases h : r = 17
  · subst h
    by_cases hk : k = 18
    · subst hk; rw [if_neg (by simp)]; exact fo_b A C w hF
    · rw [if_pos ⟨rfl, hk⟩]; exact fo_c A C k w hF hk
  · rw [if_neg (fun hh => h hh.1)]; exact fo_a A C k r w hF h
theorem fo_some (A : Nat → Option Addr) (C : Nat → Nat) (k r : Int) (w : World) (hF : Frm A C w) {i : Nat} (hi : i < 36) (h1 : (fm i).ro = rr k r) (h2 : (fm i).kd = k) (h3 : ∀ j, j < i → ¬ ((fm j).ro = rr k r ∧ (fm j).kd = k)) :
    Calls Tryd.prog 43 #[.int .u8 k, .int .u8 r] w fun e w' => e = .returned (.tuple #[.agg #[.int .u8 (fm i).ro, .int .u8 (fm i).kd, .int .u8 (fm i).le, .slice (A i) (fm i).ks.length (C i), .bool (fm i).mo], .bool true]) ∧ Upd [] w w' := by
  refine (fo_any A C k r w hF).mono ?_
  rintro e w' ⟨hu, ⟨j, hj, g1, g2, g3, rfl⟩ | ⟨g, rfl⟩⟩
  · have : j = i := by
      rcases Nat.lt_trichotomy j i with hlt | he | hgt
      · exact absurd ⟨g1, g2⟩ (h3 j hlt)
      · exact he
      · exact absurd ⟨h1, h2⟩ (g3 i hgt)
    subst this
    exact ⟨rfl, hu⟩
  · exact absurd ⟨h1, h2⟩ (g i hi)
theorem fo_none (A : Nat → Option Addr) (C : Nat → Nat) (k r : Int) (w : World) (hF : Frm A C w) (h : ∀ j, j < 36 → ¬ ((fm j).ro = rr k r ∧ (fm j).kd = k)) :
    Calls Tryd.prog 43 #[.int .u8 k, .int .u8 r] w fun e w' => e = .returned (.tuple #[.agg #[.int .u8 0, .int .u8 0, .int .u8 0, .slice none 0 0, .bool false], .bool false]) ∧ Upd [] w w' := by
  refine (fo_any A C k r w hF).mono ?_
  rintro e w' ⟨hu, ⟨j, hj, g1, g2, g3, rfl⟩ | ⟨g, rfl⟩⟩
  · exact absurd ⟨g1, g2⟩ (h j hj)
  · exact ⟨rfl, hu⟩

theorem isB_clause {n : Nd} (h : isB 9 n = true) : 3 ≤ n.kids.length := by
  obtain ⟨k, s, num, pos, K⟩ := n
  rw [isB] at h
  cases hf : formAt k 9 with
  | none => rw [hf] at h; simp at h
  | some f =>
    rw [hf] at h
    obtain ⟨i, hi, e, h1, h2, _⟩ := formAt_some hf
    have hle := tab_clause f (e ▸ fm_mem hi) (by rw [h1]; simp [rr])
    simp only [kidsN, Bool.and_eq_true, decide_eq_true_eq] at h
    have := h.1.1
    simp only [Nd.kids]
    omega

theorem Is_step (A : Nat → Option Addr) (C : Nat → Nat) (d : Nat) (ih : IsS A C d) : IsS A C (d + 1) := by
  intro w cs t r hin hs hx hF hO
  obtain ⟨k, s, num, pos, K⟩ := t
  have hin0 := hin
  have hs0 := hs
  have hx0 := hx
  obtain ⟨a, c, rfl, hK, hc1, hc2⟩ := hin
  simp only [nsz] at hs
  have hxx : nxzs K ≤ 140737488355328 := by simp only [nxz] at hx; omega
  have hl : K.length ≤ 2199023255488 := Nat.le_trans (nszs_len K) hs
  rw [isB]
  cases hf : formAt k r with
  | none => exact is_no a K.length c k s num pos r w (fun W hu => fo_none A C k r W (hF.mono hu) (formAt_none hf))
  | some f =>
    obtain ⟨i, hi, rfl, h1, h2, h3⟩ := formAt_some hf
    have hm := fm_mem hi
    have ⟨t1, t2⟩ := tab_le _ hm
    have HFo := fun W hu => fo_some A C k r W (hF.mono hu) hi h1 h2 h3
    show Calls _ _ _ w fun e w' => e = .returned (.bool (kidsN (fm i) K.length && (isR (fm i).ks K && fldB (.mk k s num pos K)))) ∧ Upd [] w w'
    by_cases hle : K.length < (fm i).le
    · have e0 : kidsN (fm i) K.length = false := by simp [kidsN]; omega
      rw [e0, Bool.false_and]
      exact is_kids a K.length c k s num pos r _ _ _ _ _ _ _ w HFo (fun W hu => rk_few a _ K.length c _ _ _ _ _ _ W hl t1 (by omega) hle)
    by_cases hmany : (fm i).ks.length < K.length ∧ (fm i).mo = false
    · have e0 : kidsN (fm i) K.length = false := by simp [kidsN, hmany.2]; omega
      rw [e0, Bool.false_and]
      rw [hmany.2] at HFo
      exact is_kids a K.length c k s num pos r _ _ _ _ _ _ _ w HFo (fun W hu => rk_many a _ K.length c _ _ _ _ _ W hl t1 (by omega) (by omega) hmany.1)
    have e0 : kidsN (fm i) K.length = true := by
      simp only [kidsN, Bool.and_eq_true, decide_eq_true_eq, Bool.or_eq_true]
      refine ⟨by omega, ?_⟩
      by_cases hq : K.length ≤ (fm i).ks.length
      · exact Or.inl hq
      · exact Or.inr (by cases hmo : (fm i).mo with | true => rfl | false => exact absurd ⟨by omega, hmo⟩ hmany)
    rw [e0, Bool.true_and]
    have hAll : ∀ W, Upd [] w W → ∀ w0 g, Upd [] W w0 → W.heap.size ≤ g → RolB w0 g (.slice (A i) (fm i).ks.length (C i)) → Calls Tryd.prog 42 #[.slice a K.length c, .func (.func 63) #[] #[.pointer (some ⟨g, 0, none⟩)]] w0 fun e w' => e = .returned (.bool (isR (fm i).ks K)) ∧ Upd [] W w' := fun W hu w0 g hu0 hg hR => by
      by_cases hK0 : K = []
      · subst hK0
        refine (all_gen a c d [] 63 #[.pointer (some ⟨g, 0, none⟩)] (fun _ V => Upd [] W V) (fun _ => False) w0 (by simp) Tryd.call63 hu0 (fun _ _ _ => Or.inl rfl) (fun _ _ _ h h' => h.trans h') (fun j hj => absurd hj (by simp))).mono ?_
        rintro e w' ⟨bb, rfl, hy, hn⟩
        cases bb with
        | true => exact ⟨by rw [isR], hy rfl⟩
        | false => exact (hn rfl).elim
      · have hpos : 0 < K.length := by cases K with | nil => exact absurd rfl hK0 | cons x t => simp
        have hks : 0 < (fm i).ks.length := by
          by_cases hq : K.length ≤ (fm i).ks.length
          · omega
          · exact tab_more _ hm (by cases hmo : (fm i).mo with | true => rfl | false => exact absurd ⟨by omega, hmo⟩ hmany)
        have hFW := hF.mono hu
        obtain ⟨b, o, hA, hb, _⟩ := hFW.row i hi 0 hks
        rw [hA] at hR
        refine kids_all A C d ih W w0 a c g b o (C i) (fm i).ks K (hK.imp hu (NIn.mono hu d)) hs hxx hFW (hO.mono hu) hu0 hg hR hks (hF.cap i hi).1 (hF.cap i hi).2 hb (fun j hj => ?_)
        obtain ⟨b', o', hA', _, hc'⟩ := hFW.row i hi j hj
        rw [hA] at hA'
        cases hA'
        exact hc'
    have hKids : ∀ W, Upd [] w W → Calls Tryd.prog 44 #[.slice a K.length c, .agg #[.int .u8 (fm i).ro, .int .u8 (fm i).kd, .int .u8 (fm i).le, .slice (A i) (fm i).ks.length (C i), .bool (fm i).mo]] W fun e w' => e = .returned (.bool (isR (fm i).ks K)) ∧ Upd [] W w' := fun W hu => by
      by_cases hq : K.length ≤ (fm i).ks.length
      · exact rk_fit a _ K.length c _ _ _ _ _ _ W hl t1 (by omega) (by omega) hq _ (hAll W hu)
      · have hmo : (fm i).mo = true := by cases hmo : (fm i).mo with | true => rfl | false => exact absurd ⟨by omega, hmo⟩ hmany
        rw [hmo]
        exact rk_more a _ K.length c _ _ _ _ _ W hl t1 (by omega) (by omega) (by omega) _ (hAll W hu)
    cases hr : isR (fm i).ks K with
    | false =>
      rw [Bool.false_and]
      rw [hr] at hKids
      exact is_kids a K.length c k s num pos r _ _ _ _ _ _ _ w HFo hKids
    | true =>
      rw [Bool.true_and]
      rw [hr] at hKids
      have hok : nmOk (.mk k s num pos K) := by
        refine ⟨fun hk => ?_, fun hk => ?_⟩
        · have := tab_recv _ hm (by rw [h2]; exact hk); omega
        · have ⟨g1, g2⟩ := tab_fun _ hm (by rw [h2]; exact hk)
          cases K with
          | nil => simp at hle; omega
          | cons n0 K' =>
            have := (isR_iff _ _).1 hr 0 (by simp)
            rw [g2] at this
            have h3 := isB_clause this
            obtain ⟨k1, s1, m1, p1, Q⟩ := n0
            cases Q with
            | nil => simp [Nd.kids] at h3
            | cons q rest => exact ⟨k1, s1, m1, p1, q, rest, K', rfl⟩
      exact is_go a K.length c k s num pos r _ _ _ _ _ _ _ _ w HFo hKids (fun W hu => rightFields_in (d + 1) W _ (.mk k s num pos K) (NIn.mono hu _ _ _ hin0) hs0 hx0 hok (hO.mono hu))

theorem Is_all (A : Nat → Option Addr) (C : Nat → Nat) : ∀ d, IsS A C d
  | 0 => fun _ _ _ _ h => h.elim
  | d + 1 => Is_step A C d (Is_all A C d)

end Go.Proofs.YtehfoblfmehbdaaDoor

/- rightItem, Right, Pattern and Guard of package node, by their contracts. -/
namespace Go.Proofs.YtehfoblfmehbdaaDoor
open Go.RowKit

theorem tab_call : ∀ f ∈ formsL, f.kd = 9 → 1 ≤ f.le := by decide
mutual
theorem isB_call (r : Int) : ∀ t : Nd, isB r t = true → thru callOk t = true
  | .mk k s num pos K => fun h => by
    rw [isB] at h
    cases hf : formAt k r with
    | none => rw [hf] at h; simp at h
    | some f =>
      rw [hf] at h
      simp only [Bool.and_eq_true] at h
      obtain ⟨i, hi, e, h1, h2, _⟩ := formAt_some hf
      rw [thru, Bool.and_eq_true]
      refine ⟨?_, isR_call f.ks K h.2.1⟩
      unfold callOk
      rw [Bool.or_eq_true]
      by_cases hk : k = 9
      · have := tab_call f (e ▸ fm_mem hi) (h2.trans hk)
        have hn := h.1
        simp only [kidsN, Bool.and_eq_true, decide_eq_true_eq] at hn
        exact Or.inr (decide_eq_true (by simp only [Nd.kids]; omega))
      · exact Or.inl (decide_eq_true hk)
theorem isR_call (rs : List Int) : ∀ K : List Nd, isR rs K = true → thrus callOk K = true
  | [] => fun _ => by rw [thrus]
  | n :: K => fun h => by
    rw [isR, Bool.and_eq_true] at h
    rw [thrus, Bool.and_eq_true]
    exact ⟨isB_call _ n h.1, isR_call _ K h.2⟩
end

set_option maxHeartbeats 1000000 in
set_option maxRecDepth 100000 in
theorem ri_no (cs : Array Value) (w : World) (hsev : cs.size = 5) (h0 : ∀ W, Upd [] w W → Calls Tryd.prog 23 #[.agg cs] W fun e w' => e = .returned (.bool false) ∧ Upd [] W w') : Calls Tryd.prog 28 #[.agg cs] w fun e w' => e = .returned (.bool false) ∧ Upd [] w w' := by
  have HU0 : Hid (Upd [] w (w.alloc (.cells cs 25))) := (Upd.refl [] w).alloc _
  have tb0 : Tb (w.alloc (.cells cs 25)) w.heap.size cs := Tb.new _ _ _ rfl
  have H0 : Hid (∀ W, Upd [] w W → Calls Tryd.prog 23 #[.agg cs] W fun e w' => e = .returned (.bool false) ∧ Upd [] W w') := h0
  clear h0
  go_enter Tryd.func28, Tryd.ntmps28
  go_wp2_with (first | (refine load_G _ _ rfl _ _ rfl tb0 hsev rfl ?_) | fail)
  refine (H0.out _ HU0.out).mono ?_
  rintro e v0 ⟨rfl, hu⟩
  have HV0 : Hid (Upd [] w v0) := HU0.out.trans hu
  have tb1 := tb0.mono hu (by simp)
  clear hu tb0
  clear tb1
  go_wp2
  go_ret
  exact ⟨rfl, HV0.out⟩
set_option maxHeartbeats 1000000 in
set_option maxRecDepth 100000 in
theorem ri_go (cs : Array Value) (z : Bool) (w : World) (hsev : cs.size = 5) (h0 : ∀ W, Upd [] w W → Calls Tryd.prog 23 #[.agg cs] W fun e w' => e = .returned (.bool true) ∧ Upd [] W w') (h1 : ∀ W, Upd [] w W → Calls Tryd.prog 24 #[.agg cs, .int .u8 0] W fun e w' => e = .returned (.bool z) ∧ Upd [] W w') : Calls Tryd.prog 28 #[.agg cs] w fun e w' => e = .returned (.bool z) ∧ Upd [] w w' := by
  have HU0 : Hid (Upd [] w (w.alloc (.cells cs 25))) := (Upd.refl [] w).alloc _
  have tb0 : Tb (w.alloc (.cells cs 25)) w.heap.size cs := Tb.new _ _ _ rfl
  have H0 : Hid (∀ W, Upd [] w W → Calls Tryd.prog 23 #[.agg cs] W fun e w' => e = .returned (.bool true) ∧ Upd [] W w') := h0
  clear h0
  have H1 : Hid (∀ W, Upd [] w W → Calls Tryd.prog 24 #[.agg cs, .int .u8 0] W fun e w' => e = .returned (.bool z) ∧ Upd [] W w') := h1
  clear h1
  go_enter Tryd.func28, Tryd.ntmps28
  go_wp2_with (first | (refine load_G _ _ rfl _ _ rfl tb0 hsev rfl ?_) | fail)
  refine (H0.out _ HU0.out).mono ?_
  rintro e v0 ⟨rfl, hu⟩
  have HV0 : Hid (Upd [] w v0) := HU0.out.trans hu
  have tb1 := tb0.mono hu (by simp)
  clear hu tb0
  go_wp2_with (first | (refine load_G _ _ rfl _ _ rfl tb1 hsev rfl ?_) | fail)
  refine (H1.out _ HV0.out).mono ?_
  rintro e v1 ⟨rfl, hu⟩
  have HV1 : Hid (Upd [] w v1) := HV0.out.trans hu
  have tb2 := tb1.mono hu (by simp)
  clear hu tb1
  clear tb2
  go_wp2
  go_ret
  exact ⟨rfl, HV1.out⟩
set_option maxHeartbeats 1000000 in
set_option maxRecDepth 100000 in
theorem rt_no (cs : Array Value) (w : World) (hsev : cs.size = 5) (h0 : ∀ W, Upd [] w W → Calls Tryd.prog 23 #[.agg cs] W fun e w' => e = .returned (.bool false) ∧ Upd [] W w') : Calls Tryd.prog 7 #[.agg cs] w fun e w' => e = .returned (.bool false) ∧ Upd [] w w' := by
  have HU0 : Hid (Upd [] w (w.alloc (.cells cs 25))) := (Upd.refl [] w).alloc _
  have tb0 : Tb (w.alloc (.cells cs 25)) w.heap.size cs := Tb.new _ _ _ rfl
  have H0 : Hid (∀ W, Upd [] w W → Calls Tryd.prog 23 #[.agg cs] W fun e w' => e = .returned (.bool false) ∧ Upd [] W w') := h0
  clear h0
  go_enter Tryd.func7, Tryd.ntmps7
  go_wp2_with (first | (refine load_G _ _ rfl _ _ rfl tb0 hsev rfl ?_) | fail)
  refine (H0.out _ HU0.out).mono ?_
  rintro e v0 ⟨rfl, hu⟩
  have HV0 : Hid (Upd [] w v0) := HU0.out.trans hu
  have tb1 := tb0.mono hu (by simp)
  clear hu tb0
  clear tb1
  go_wp2
  go_ret
  exact ⟨rfl, HV0.out⟩
set_option maxHeartbeats 1000000 in
set_option maxRecDepth 100000 in
theorem rt_it (cs : Array Value) (w : World) (hsev : cs.size = 5) (h0 : ∀ W, Upd [] w W → Calls Tryd.prog 23 #[.agg cs] W fun e w' => e = .returned (.bool true) ∧ Upd [] W w') (h1 : ∀ W, Upd [] w W → Calls Tryd.prog 24 #[.agg cs, .int .u8 0] W fun e w' => e = .returned (.bool true) ∧ Upd [] W w') : Calls Tryd.prog 7 #[.agg cs] w fun e w' => e = .returned (.bool true) ∧ Upd [] w w' := by
  have HU0 : Hid (Upd [] w (w.alloc (.cells cs 25))) := (Upd.refl [] w).alloc _
  have tb0 : Tb (w.alloc (.cells cs 25)) w.heap.size cs := Tb.new _ _ _ rfl
  have H0 : Hid (∀ W, Upd [] w W → Calls Tryd.prog 23 #[.agg cs] W fun e w' => e = .returned (.bool true) ∧ Upd [] W w') := h0
  clear h0
  have H1 : Hid (∀ W, Upd [] w W → Calls Tryd.prog 24 #[.agg cs, .int .u8 0] W fun e w' => e = .returned (.bool true) ∧ Upd [] W w') := h1
  clear h1
  go_enter Tryd.func7, Tryd.ntmps7
  go_wp2_with (first | (refine load_G _ _ rfl _ _ rfl tb0 hsev rfl ?_) | fail)
  refine (H0.out _ HU0.out).mono ?_
  rintro e v0 ⟨rfl, hu⟩
  have HV0 : Hid (Upd [] w v0) := HU0.out.trans hu
  have tb1 := tb0.mono hu (by simp)
  clear hu tb0
  go_wp2_with (first | (refine load_G _ _ rfl _ _ rfl tb1 hsev rfl ?_) | fail)
  refine (H1.out _ HV0.out).mono ?_
  rintro e v1 ⟨rfl, hu⟩
  have HV1 : Hid (Upd [] w v1) := HV0.out.trans hu
  have tb2 := tb1.mono hu (by simp)
  clear hu tb1
  clear tb2
  go_wp2
  go_ret
  exact ⟨rfl, HV1.out⟩
set_option maxHeartbeats 1000000 in
set_option maxRecDepth 100000 in
theorem rt_mo (cs : Array Value) (z : Bool) (w : World) (hsev : cs.size = 5) (h0 : ∀ W, Upd [] w W → Calls Tryd.prog 23 #[.agg cs] W fun e w' => e = .returned (.bool true) ∧ Upd [] W w') (h1 : ∀ W, Upd [] w W → Calls Tryd.prog 24 #[.agg cs, .int .u8 0] W fun e w' => e = .returned (.bool false) ∧ Upd [] W w') (h2 : ∀ W, Upd [] w W → Calls Tryd.prog 24 #[.agg cs, .int .u8 1] W fun e w' => e = .returned (.bool z) ∧ Upd [] W w') : Calls Tryd.prog 7 #[.agg cs] w fun e w' => e = .returned (.bool z) ∧ Upd [] w w' := by
  have HU0 : Hid (Upd [] w (w.alloc (.cells cs 25))) := (Upd.refl [] w).alloc _
  have tb0 : Tb (w.alloc (.cells cs 25)) w.heap.size cs := Tb.new _ _ _ rfl
  have H0 : Hid (∀ W, Upd [] w W → Calls Tryd.prog 23 #[.agg cs] W fun e w' => e = .returned (.bool true) ∧ Upd [] W w') := h0
  clear h0
  have H1 : Hid (∀ W, Upd [] w W → Calls Tryd.prog 24 #[.agg cs, .int .u8 0] W fun e w' => e = .returned (.bool false) ∧ Upd [] W w') := h1
  clear h1
  have H2 : Hid (∀ W, Upd [] w W → Calls Tryd.prog 24 #[.agg cs, .int .u8 1] W fun e w' => e = .returned (.bool z) ∧ Upd [] W w') := h2
  clear h2
  go_enter Tryd.func7, Tryd.ntmps7
  go_wp2_with (first | (refine load_G _ _ rfl _ _ rfl tb0 hsev rfl ?_) | fail)
  refine (H0.out _ HU0.out).mono ?_
  rintro e v0 ⟨rfl, hu⟩
  have HV0 : Hid (Upd [] w v0) := HU0.out.trans hu
  have tb1 := tb0.mono hu (by simp)
  clear hu tb0
  go_wp2_with (first | (refine load_G _ _ rfl _ _ rfl tb1 hsev rfl ?_) | fail)
  refine (H1.out _ HV0.out).mono ?_
  rintro e v1 ⟨rfl, hu⟩
  have HV1 : Hid (Upd [] w v1) := HV0.out.trans hu
  have tb2 := tb1.mono hu (by simp)
  clear hu tb1
  go_wp2_with (first | (refine load_G _ _ rfl _ _ rfl tb2 hsev rfl ?_) | fail)
  refine (H2.out _ HV1.out).mono ?_
  rintro e v2 ⟨rfl, hu⟩
  have HV2 : Hid (Upd [] w v2) := HV1.out.trans hu
  have tb3 := tb2.mono hu (by simp)
  clear hu tb2
  clear tb3
  go_wp2
  go_ret
  exact ⟨rfl, HV2.out⟩
set_option maxHeartbeats 1000000 in
set_option maxRecDepth 100000 in
theorem pt_no (cs : Array Value) (w : World) (hsev : cs.size = 5) (h0 : ∀ W, Upd [] w W → Calls Tryd.prog 28 #[.agg cs] W fun e w' => e = .returned (.bool false) ∧ Upd [] W w') : Calls Tryd.prog 9 #[.agg cs] w fun e w' => e = .returned (.bool false) ∧ Upd [] w w' := by
  have HU0 : Hid (Upd [] w (w.alloc (.cells cs 25))) := (Upd.refl [] w).alloc _
  have tb0 : Tb (w.alloc (.cells cs 25)) w.heap.size cs := Tb.new _ _ _ rfl
  have H0 : Hid (∀ W, Upd [] w W → Calls Tryd.prog 28 #[.agg cs] W fun e w' => e = .returned (.bool false) ∧ Upd [] W w') := h0
  clear h0
  go_enter Tryd.func9, Tryd.ntmps9
  go_wp2_with (first | (refine load_G _ _ rfl _ _ rfl tb0 hsev rfl ?_) | fail)
  refine (H0.out _ HU0.out).mono ?_
  rintro e v0 ⟨rfl, hu⟩
  have HV0 : Hid (Upd [] w v0) := HU0.out.trans hu
  have tb1 := tb0.mono hu (by simp)
  clear hu tb0
  clear tb1
  go_wp2
  go_ret
  exact ⟨rfl, HV0.out⟩
set_option maxHeartbeats 1000000 in
set_option maxRecDepth 100000 in
theorem pt_go (cs : Array Value) (z : Bool) (w : World) (hsev : cs.size = 5) (h0 : ∀ W, Upd [] w W → Calls Tryd.prog 28 #[.agg cs] W fun e w' => e = .returned (.bool true) ∧ Upd [] W w') (h1 : ∀ W, Upd [] w W → Calls Tryd.prog 29 #[.agg cs, .func (.func 30) #[] #[]] W fun e w' => e = .returned (.bool z) ∧ Upd [] W w') : Calls Tryd.prog 9 #[.agg cs] w fun e w' => e = .returned (.bool z) ∧ Upd [] w w' := by
  have HU0 : Hid (Upd [] w (w.alloc (.cells cs 25))) := (Upd.refl [] w).alloc _
  have tb0 : Tb (w.alloc (.cells cs 25)) w.heap.size cs := Tb.new _ _ _ rfl
  have H0 : Hid (∀ W, Upd [] w W → Calls Tryd.prog 28 #[.agg cs] W fun e w' => e = .returned (.bool true) ∧ Upd [] W w') := h0
  clear h0
  have H1 : Hid (∀ W, Upd [] w W → Calls Tryd.prog 29 #[.agg cs, .func (.func 30) #[] #[]] W fun e w' => e = .returned (.bool z) ∧ Upd [] W w') := h1
  clear h1
  go_enter Tryd.func9, Tryd.ntmps9
  go_wp2_with (first | (refine load_G _ _ rfl _ _ rfl tb0 hsev rfl ?_) | fail)
  refine (H0.out _ HU0.out).mono ?_
  rintro e v0 ⟨rfl, hu⟩
  have HV0 : Hid (Upd [] w v0) := HU0.out.trans hu
  have tb1 := tb0.mono hu (by simp)
  clear hu tb0
  go_wp2_with (first | (refine load_G _ _ rfl _ _ rfl tb1 hsev rfl ?_) | fail)
  refine (H1.out _ HV0.out).mono ?_
  rintro e v1 ⟨rfl, hu⟩
  have HV1 : Hid (Upd [] w v1) := HV0.out.trans hu
  have tb2 := tb1.mono hu (by simp)
  clear hu tb1
  clear tb2
  go_wp2
  go_ret
  exact ⟨rfl, HV1.out⟩
set_option maxHeartbeats 1000000 in
set_option maxRecDepth 100000 in
theorem gd_no (cs : Array Value) (w : World) (hsev : cs.size = 5) (h0 : ∀ W, Upd [] w W → Calls Tryd.prog 28 #[.agg cs] W fun e w' => e = .returned (.bool false) ∧ Upd [] W w') : Calls Tryd.prog 11 #[.agg cs] w fun e w' => e = .returned (.bool false) ∧ Upd [] w w' := by
  have HU0 : Hid (Upd [] w (w.alloc (.cells cs 25))) := (Upd.refl [] w).alloc _
  have tb0 : Tb (w.alloc (.cells cs 25)) w.heap.size cs := Tb.new _ _ _ rfl
  have H0 : Hid (∀ W, Upd [] w W → Calls Tryd.prog 28 #[.agg cs] W fun e w' => e = .returned (.bool false) ∧ Upd [] W w') := h0
  clear h0
  go_enter Tryd.func11, Tryd.ntmps11
  go_wp2_with (first | (refine load_G _ _ rfl _ _ rfl tb0 hsev rfl ?_) | fail)
  refine (H0.out _ HU0.out).mono ?_
  rintro e v0 ⟨rfl, hu⟩
  have HV0 : Hid (Upd [] w v0) := HU0.out.trans hu
  have tb1 := tb0.mono hu (by simp)
  clear hu tb0
  clear tb1
  go_wp2
  go_ret
  exact ⟨rfl, HV0.out⟩
set_option maxHeartbeats 1000000 in
set_option maxRecDepth 100000 in
theorem gd_go (cs : Array Value) (z : Bool) (w : World) (hsev : cs.size = 5) (h0 : ∀ W, Upd [] w W → Calls Tryd.prog 28 #[.agg cs] W fun e w' => e = .returned (.bool true) ∧ Upd [] W w') (h1 : ∀ W, Upd [] w W → Calls Tryd.prog 29 #[.agg cs, .func (.func 32) #[] #[]] W fun e w' => e = .returned (.bool z) ∧ Upd [] W w') : Calls Tryd.prog 11 #[.agg cs] w fun e w' => e = .returned (.bool z) ∧ Upd [] w w' := by
  have HU0 : Hid (Upd [] w (w.alloc (.cells cs 25))) := (Upd.refl [] w).alloc _
  have tb0 : Tb (w.alloc (.cells cs 25)) w.heap.size cs := Tb.new _ _ _ rfl
  have H0 : Hid (∀ W, Upd [] w W → Calls Tryd.prog 28 #[.agg cs] W fun e w' => e = .returned (.bool true) ∧ Upd [] W w') := h0
  clear h0
  have H1 : Hid (∀ W, Upd [] w W → Calls Tryd.prog 29 #[.agg cs, .func (.func 32) #[] #[]] W fun e w' => e = .returned (.bool z) ∧ Upd [] W w') := h1
  clear h1
  go_enter Tryd.func11, Tryd.ntmps11
  go_wp2_with (first | (refine load_G _ _ rfl _ _ rfl tb0 hsev rfl ?_) | fail)
  refine (H0.out _ HU0.out).mono ?_
  rintro e v0 ⟨rfl, hu⟩
  have HV0 : Hid (Upd [] w v0) := HU0.out.trans hu
  have tb1 := tb0.mono hu (by simp)
  clear hu tb0
  go_wp2_with (first | (refine load_G _ _ rfl _ _ rfl tb1 hsev rfl ?_) | fail)
  refine (H1.out _ HV0.out).mono ?_
  rintro e v1 ⟨rfl, hu⟩
  have HV1 : Hid (Upd [] w v1) := HV0.out.trans hu
  have tb2 := tb1.mono hu (by simp)
  clear hu tb1
  clear tb2
  go_wp2
  go_ret
  exact ⟨rfl, HV1.out⟩

def itmB (t : Nd) : Bool := fitsN t && isB 0 t
def rgtB (t : Nd) : Bool := fitsN t && (isB 0 t || isB 1 t)
variable (A : Nat → Option Addr) (C : Nat → Nat)
theorem rightItem_in (d : Nat) (w : World) (cs : List Value) (t : Nd) (h : NIn w d cs t) (hs : nsz t ≤ 2199023255488) (hx : nxz t ≤ 140737488355328) (hF : Frm A C w) (hO : Ops w) :
    Calls Tryd.prog 28 #[.agg cs.toArray] w fun e w' => e = .returned (.bool (itmB t)) ∧ Upd [] w w' := by
  have hf := fun W (hu : Upd [] w W) => fits_in d W cs t (NIn.mono hu _ _ _ h) hs
  unfold itmB
  cases hz : fitsN t with
  | false => rw [hz] at hf; exact ri_no _ w h.five hf
  | true => rw [hz] at hf; exact ri_go _ _ w h.five hf (fun W hu => Is_all A C d W cs t 0 (NIn.mono hu _ _ _ h) hs hx (hF.mono hu) (hO.mono hu))
theorem Right_in (d : Nat) (w : World) (cs : List Value) (t : Nd) (h : NIn w d cs t) (hs : nsz t ≤ 2199023255488) (hx : nxz t ≤ 140737488355328) (hF : Frm A C w) (hO : Ops w) :
    Calls Tryd.prog 7 #[.agg cs.toArray] w fun e w' => e = .returned (.bool (rgtB t)) ∧ Upd [] w w' := by
  have hf := fun W (hu : Upd [] w W) => fits_in d W cs t (NIn.mono hu _ _ _ h) hs
  have hi := fun r W (hu : Upd [] w W) => Is_all A C d W cs t r (NIn.mono hu _ _ _ h) hs hx (hF.mono hu) (hO.mono hu)
  unfold rgtB
  cases hz : fitsN t with
  | false => rw [hz] at hf; exact rt_no _ w h.five hf
  | true =>
    rw [hz] at hf
    have h0 := hi 0
    cases hb : isB 0 t with
    | true => rw [hb] at h0; exact rt_it _ w h.five hf h0
    | false => rw [hb] at h0; exact rt_mo _ _ w h.five hf h0 (hi 1)
theorem Pattern_in (d : Nat) (w : World) (cs : List Value) (t : Nd) (h : NIn w d cs t) (hs : nsz t ≤ 2199023255488) (hx : nxz t ≤ 140737488355328) (hF : Frm A C w) (hO : Ops w) :
    Calls Tryd.prog 9 #[.agg cs.toArray] w fun e w' => e = .returned (.bool (itmB t && thru patB t)) ∧ Upd [] w w' := by
  have hr := fun W (hu : Upd [] w W) => rightItem_in A C d W cs t (NIn.mono hu _ _ _ h) hs hx (hF.mono hu) (hO.mono hu)
  cases hz : itmB t with
  | false => rw [hz] at hr; exact pt_no _ w h.five hr
  | true =>
    rw [hz] at hr
    have hc : thru callOk t = true := isB_call 0 t (by unfold itmB at hz; exact (Bool.and_eq_true _ _ ▸ hz).2)
    exact pt_go _ _ w h.five hr (fun W hu => thr_in _ patB Tryd.call30 pat_asks d W cs t (NIn.mono hu _ _ _ h) hs hc)
theorem Guard_in (d : Nat) (w : World) (cs : List Value) (t : Nd) (h : NIn w d cs t) (hs : nsz t ≤ 2199023255488) (hx : nxz t ≤ 140737488355328) (hF : Frm A C w) (hO : Ops w) :
    Calls Tryd.prog 11 #[.agg cs.toArray] w fun e w' => e = .returned (.bool (itmB t && thru grdB t)) ∧ Upd [] w w' := by
  have hr := fun W (hu : Upd [] w W) => rightItem_in A C d W cs t (NIn.mono hu _ _ _ h) hs hx (hF.mono hu) (hO.mono hu)
  cases hz : itmB t with
  | false => rw [hz] at hr; exact gd_no _ w h.five hr
  | true =>
    rw [hz] at hr
    have hc : thru callOk t = true := isB_call 0 t (by unfold itmB at hz; exact (Bool.and_eq_true _ _ ▸ hz).2)
    exact gd_go _ _ w h.five hr (fun W hu => thr_in _ grdB Tryd.call32 grd_asks d W cs t (NIn.mono hu _ _ _ h) hs hc)

end Go.Proofs.YtehfoblfmehbdaaDoor
