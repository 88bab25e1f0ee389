/- is of package node, by its contract. -/
import Derived.Test.YtejcppnleckmfaaDoorNdKd
namespace Go.Proofs.YtejcppnleckmfaaDoor
open Go.RowKit

theorem tab_more : ∀ f ∈ formsL, f.mo = true → 0 < f.ks.length := by decide
theorem tab_le : ∀ f ∈ formsL, f.le ≤ 255 ∧ f.ks.length ≤ 255 := by decide
theorem tab_recv : ∀ f ∈ formsL, f.kd = 14 → 1 ≤ f.le := by decide
theorem tab_fun : ∀ f ∈ formsL, f.kd = 21 → 1 ≤ f.le ∧ rol f.ks 0 = 9 := by decide
theorem tab_clause : ∀ f ∈ formsL, f.ro = 9 → f.le = 3 := by decide

theorem fm_eq {i : Nat} (h : i < 36) : ∃ h' : i < formsL.length, fm i = formsL[i]'h' := ⟨by rw [forms_len]; exact h, by
  simp only [fm, List.getD_eq_getElem?_getD, List.getElem?_eq_getElem (show i < formsL.length by rw [forms_len]; exact h), Option.getD_some]⟩
theorem fm_mem {i : Nat} (h : i < 36) : fm i ∈ formsL := by
  obtain ⟨h', e⟩ := fm_eq h
  rw [e]; exact List.getElem_mem h'

def rr (k r : Int) : Int := if r = 17 ∧ k ≠ 18 then 0 else r
theorem formAt_some {k r : Int} {f : Fm} (h : formAt k r = some f) : ∃ i, i < 36 ∧ fm i = f ∧ f.ro = rr k r ∧ f.kd = k ∧ ∀ j, j < i → ¬ ((fm j).ro = rr k r ∧ (fm j).kd = k) := by
  obtain ⟨hp, i, hi, e, hj⟩ := List.find?_eq_some_iff_getElem.1 h
  have hi36 : i < 36 := by rw [← forms_len]; exact hi
  obtain ⟨_, e'⟩ := fm_eq hi36
  have hp' : f.ro = rr k r ∧ f.kd = k := by simpa [rr] using hp
  refine ⟨i, hi36, e'.trans e, hp'.1, hp'.2, fun j hji hh => ?_⟩
  obtain ⟨_, e2⟩ := fm_eq (show j < 36 by omega)
  have := hj j hji
  rw [← e2] at this
  simp [rr] at hh
  simp [hh] at this
theorem formAt_none {k r : Int} (h : formAt k r = none) : ∀ j, j < 36 → ¬ ((fm j).ro = rr k r ∧ (fm j).kd = k) := by
  intro j hj hh
  have := List.find?_eq_none.1 h _ (fm_mem hj)
  simp [rr] at hh
  simp [hh] at this

theorem fo_any (A : Nat → Option Addr) (C : Nat → Nat) (k r : Int) (w : World) (hF : Frm A C w) : Calls Tryd.prog 42 #[.int .u8 k, .int .u8 r] w (FoP A C w k (rr k r)) := by
  unfold rr
  by_cases h : r = 17
  · subst h
    by_cases hk : k = 18
    · subst hk; rw [if_neg (by simp)]; exact fo_b A C w hF
    · rw [if_pos ⟨rfl, hk⟩]; exact fo_c A C k w hF hk
  · rw [if_neg (fun hh => h hh.1)]; exact fo_a A C k r w hF h
theorem fo_some (A : Nat → Option Addr) (C : Nat → Nat) (k r : Int) (w : World) (hF : Frm A C w) {i : Nat} (hi : i < 36) (h1 : (fm i).ro = rr k r) (h2 : (fm i).kd = k) (h3 : ∀ j, j < i → ¬ ((fm j).ro = rr k r ∧ (fm j).kd = k)) :
    Calls Tryd.prog 42 #[.int .u8 k, .int .u8 r] w fun e w' => e = .returned (.tuple #[.agg #[.int .u8 (fm i).ro, .int .u8 (fm i).kd, .int .u8 (fm i).le, .slice (A i) (fm i).ks.length (C i), .bool (fm i).mo], .bool true]) ∧ Upd [] w w' := by
  refine (fo_any A C k r w hF).mono ?_
  rintro e w' ⟨hu, ⟨j, hj, g1, g2, g3, rfl⟩ | ⟨g, rfl⟩⟩
  · have : j = i := by
      rcases Nat.lt_trichotomy j i with hlt | he | hgt
      · exact absurd ⟨g1, g2⟩ (h3 j hlt)
      · exact he
      · exact absurd ⟨h1, h2⟩ (g3 i hgt)
    subst this
    exact ⟨rfl, hu⟩
  · exact absurd ⟨h1, h2⟩ (g i hi)
theorem fo_none (A : Nat → Option Addr) (C : Nat → Nat) (k r : Int) (w : World) (hF : Frm A C w) (h : ∀ j, j < 36 → ¬ ((fm j).ro = rr k r ∧ (fm j).kd = k)) :
    Calls Tryd.prog 42 #[.int .u8 k, .int .u8 r] w fun e w' => e = .returned (.tuple #[.agg #[.int .u8 0, .int .u8 0, .int .u8 0, .slice none 0 0, .bool false], .bool false]) ∧ Upd [] w w' := by
  refine (fo_any A C k r w hF).mono ?_
  rintro e w' ⟨hu, ⟨j, hj, g1, g2, g3, rfl⟩ | ⟨g, rfl⟩⟩
  · exact absurd ⟨g1, g2⟩ (h j hj)
  · exact ⟨rfl, hu⟩

theorem isB_clause {n : Nd} (h : isB 9 n = true) : 3 ≤ n.kids.length := by
  obtain ⟨k, s, num, pos, K⟩ := n
  rw [isB] at h
  cases hf : formAt k 9 with
  | none => rw [hf] at h; simp at h
  | some f =>
    rw [hf] at h
    obtain ⟨i, hi, e, h1, h2, _⟩ := formAt_some hf
    have hle := tab_clause f (e ▸ fm_mem hi) (by rw [h1]; simp [rr])
    simp only [kidsN, Bool.and_eq_true, decide_eq_true_eq] at h
    have := h.1.1
    simp only [Nd.kids]
    omega

theorem Is_step (A : Nat → Option Addr) (C : Nat → Nat) (d : Nat) (ih : IsS A C d) : IsS A C (d + 1) := by
  intro w cs t r hin hs hx hF hO
  obtain ⟨k, s, num, pos, K⟩ := t
  have hin0 := hin
  have hs0 := hs
  have hx0 := hx
  obtain ⟨a, c, rfl, hK, hc1, hc2⟩ := hin
  simp only [nsz] at hs
  have hxx : nxzs K ≤ 140737488355328 := by simp only [nxz] at hx; omega
  have hl : K.length ≤ 2199023255488 := Nat.le_trans (nszs_len K) hs
  rw [isB]
  cases hf : formAt k r with
  | none => exact is_no a K.length c k s num pos r w (fun W hu => fo_none A C k r W (hF.mono hu) (formAt_none hf))
  | some f =>
    obtain ⟨i, hi, rfl, h1, h2, h3⟩ := formAt_some hf
    have hm := fm_mem hi
    have ⟨t1, t2⟩ := tab_le _ hm
    have HFo := fun W hu => fo_some A C k r W (hF.mono hu) hi h1 h2 h3
    show Calls _ _ _ w fun e w' => e = .returned (.bool (kidsN (fm i) K.length && (isR (fm i).ks K && fldB (.mk k s num pos K)))) ∧ Upd [] w w'
    by_cases hle : K.length < (fm i).le
    · have e0 : kidsN (fm i) K.length = false := by simp [kidsN]; omega
      rw [e0, Bool.false_and]
      exact is_kids a K.length c k s num pos r _ _ _ _ _ _ _ w HFo (fun W hu => rk_few a _ K.length c _ _ _ _ _ _ W hl t1 (by omega) hle)
    by_cases hmany : (fm i).ks.length < K.length ∧ (fm i).mo = false
    · have e0 : kidsN (fm i) K.length = false := by simp [kidsN, hmany.2]; omega
      rw [e0, Bool.false_and]
      rw [hmany.2] at HFo
      exact is_kids a K.length c k s num pos r _ _ _ _ _ _ _ w HFo (fun W hu => rk_many a _ K.length c _ _ _ _ _ W hl t1 (by omega) (by omega) hmany.1)
    have e0 : kidsN (fm i) K.length = true := by
      simp only [kidsN, Bool.and_eq_true, decide_eq_true_eq, Bool.or_eq_true]
      refine ⟨by omega, ?_⟩
      by_cases hq : K.length ≤ (fm i).ks.length
      · exact Or.inl hq
      · exact Or.inr (by cases hmo : (fm i).mo with | true => rfl | false => exact absurd ⟨by omega, hmo⟩ hmany)
    rw [e0, Bool.true_and]
    have hAll : ∀ W, Upd [] w W → ∀ w0 g, Upd [] W w0 → W.heap.size ≤ g → RolB w0 g (.slice (A i) (fm i).ks.length (C i)) → Calls Tryd.prog 41 #[.slice a K.length c, .func (.func 48) #[] #[.pointer (some ⟨g, 0, none⟩)]] w0 fun e w' => e = .returned (.bool (isR (fm i).ks K)) ∧ Upd [] W w' := fun W hu w0 g hu0 hg hR => by
      by_cases hK0 : K = []
      · subst hK0
        refine (all_gen a c d [] 48 #[.pointer (some ⟨g, 0, none⟩)] (fun _ V => Upd [] W V) (fun _ => False) w0 (by simp) Tryd.call48 hu0 (fun _ _ _ => Or.inl rfl) (fun _ _ _ h h' => h.trans h') (fun j hj => absurd hj (by simp))).mono ?_
        rintro e w' ⟨bb, rfl, hy, hn⟩
        cases bb with
        | true => exact ⟨by rw [isR], hy rfl⟩
        | false => exact (hn rfl).elim
      · have hpos : 0 < K.length := by cases K with | nil => exact absurd rfl hK0 | cons x t => simp
        have hks : 0 < (fm i).ks.length := by
          by_cases hq : K.length ≤ (fm i).ks.length
          · omega
          · exact tab_more _ hm (by cases hmo : (fm i).mo with | true => rfl | false => exact absurd ⟨by omega, hmo⟩ hmany)
        have hFW := hF.mono hu
        obtain ⟨b, o, hA, hb, _⟩ := hFW.row i hi 0 hks
        rw [hA] at hR
        refine kids_all A C d ih W w0 a c g b o (C i) (fm i).ks K (hK.imp hu (NIn.mono hu d)) hs hxx hFW (hO.mono hu) hu0 hg hR hks (hF.cap i hi).1 (hF.cap i hi).2 hb (fun j hj => ?_)
        obtain ⟨b', o', hA', _, hc'⟩ := hFW.row i hi j hj
        rw [hA] at hA'
        cases hA'
        exact hc'
    have hKids : ∀ W, Upd [] w W → Calls Tryd.prog 43 #[.slice a K.length c, .agg #[.int .u8 (fm i).ro, .int .u8 (fm i).kd, .int .u8 (fm i).le, .slice (A i) (fm i).ks.length (C i), .bool (fm i).mo]] W fun e w' => e = .returned (.bool (isR (fm i).ks K)) ∧ Upd [] W w' := fun W hu => by
      by_cases hq : K.length ≤ (fm i).ks.length
      · exact rk_fit a _ K.length c _ _ _ _ _ _ W hl t1 (by omega) (by omega) hq _ (hAll W hu)
      · have hmo : (fm i).mo = true := by cases hmo : (fm i).mo with | true => rfl | false => exact absurd ⟨by omega, hmo⟩ hmany
        rw [hmo]
        exact rk_more a _ K.length c _ _ _ _ _ W hl t1 (by omega) (by omega) (by omega) _ (hAll W hu)
    cases hr : isR (fm i).ks K with
    | false =>
      rw [Bool.false_and]
      rw [hr] at hKids
      exact is_kids a K.length c k s num pos r _ _ _ _ _ _ _ w HFo hKids
    | true =>
      rw [Bool.true_and]
      rw [hr] at hKids
      have hok : nmOk (.mk k s num pos K) := by
        refine ⟨fun hk => ?_, fun hk => ?_⟩
        · have := tab_recv _ hm (by rw [h2]; exact hk); omega
        · have ⟨g1, g2⟩ := tab_fun _ hm (by rw [h2]; exact hk)
          cases K with
          | nil => simp at hle; omega
          | cons n0 K' =>
            have := (isR_iff _ _).1 hr 0 (by simp)
            rw [g2] at this
            have h3 := isB_clause this
            obtain ⟨k1, s1, m1, p1, Q⟩ := n0
            cases Q with
            | nil => simp [Nd.kids] at h3
            | cons q rest => exact ⟨k1, s1, m1, p1, q, rest, K', rfl⟩
      exact is_go a K.length c k s num pos r _ _ _ _ _ _ _ _ w HFo hKids (fun W hu => rightFields_in (d + 1) W _ (.mk k s num pos K) (NIn.mono hu _ _ _ hin0) hs0 hx0 hok (hO.mono hu))

theorem Is_all (A : Nat → Option Addr) (C : Nat → Nat) : ∀ d, IsS A C d
  | 0 => fun _ _ _ _ h => h.elim
  | d + 1 => Is_step A C d (Is_all A C d)

end Go.Proofs.YtejcppnleckmfaaDoor
