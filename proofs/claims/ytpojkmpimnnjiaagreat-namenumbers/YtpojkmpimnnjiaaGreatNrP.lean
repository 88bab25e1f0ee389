/- The document's Put. -/
import Derived.Test.YtpojkmpimnnjiaaGreatNrE
namespace Go.Proofs.YtpojkmpimnnjiaaGreat
open Go.RowKit Go.Maps

theorem bytesLess_eq : ∀ a b : BS, Op.bytesLess a b = decide (a < b)
  | [], [] => by simp [Op.bytesLess, List.lt_irrefl]
  | [], _ :: _ => by simp [Op.bytesLess]
  | _ :: _, [] => by simp [Op.bytesLess]
  | x :: r, y :: s => by
    unfold Op.bytesLess
    rw [bytesLess_eq r s]
    rw [Bool.eq_iff_iff]
    simp [List.cons_lt_cons_iff]

theorem mr_cases {w : World} {B c n : Nat} {p : Option Addr} {L : List Nd} (h : MR w B (.slice p n c) L) : (p = none ∧ c = 0 ∧ L = []) ∨ ∃ g, p = some ⟨g, 0, none⟩ ∧ L.length ≤ c := by
  rcases h.2 with ⟨h1, h2⟩ | ⟨g, cap, cur, h1, _, _, h4, _⟩
  · simp only [Value.slice.injEq] at h1
    exact Or.inl ⟨h1.1, h1.2.2, List.eq_nil_of_length_eq_zero h2⟩
  · simp only [Value.slice.injEq] at h1
    obtain ⟨rfl, _, rfl⟩ := h1
    exact Or.inr ⟨g, rfl, h4⟩
/-- What Put does and tells. -/
def PutP (w : World) (b : Nat) (L : List Nd) (s : BS) (p : Int) (e : Ending) (w' : World) : Prop :=
  ((∃ m ∈ L, m.1 = s ∨ m.2 = p) ∧ e = .returned (.bool false) ∧ w' = w) ∨
    ((∀ m ∈ L, m.1 ≠ s ∧ m.2 ≠ p) ∧ e = .returned (.bool true) ∧ ∃ a v', AtN L s L.length a ∧ Cl w' b #[v'] 30 ∧ MR w' w.heap.size v' (L.take a ++ (s, p) :: L.drop a) ∧ Upd [b] w w')

set_option maxHeartbeats 8000000 in
set_option maxRecDepth 100000 in
theorem putRef_any (w : World) (B b : Nat) (v : Value) (L : List Nd) (s : BS) (x : Int) (hb : Cl w b #[v] 30) (hr : MR w B v L) (hp : L.Pairwise (fun a b => a.1 < b.1)) (hn : L.length ≤ 1000) :
    Calls Tryz.prog 21 #[.pointer (some ⟨b, 0, none⟩), encStr s, .int .i64 x] w fun e w' => PutP w b L s x e w' := by
  obtain ⟨p, c, hv⟩ := hr.form
  subst hv
  have HB : Hid (Cl w b #[.slice p L.length c] 30 ∧ MR w B (.slice p L.length c) L ∧ L.Pairwise (fun a b => a.1 < b.1)) := ⟨hb, hr, hp⟩
  have cb2 : w.cell? ⟨b, 0, none⟩ = some (.slice p L.length c) := by rw [hb.cell]; rfl
  clear hb hr hp
  go_enter Tryz.func21, Tryz.ntmps21
  go_wp2_with fail
  go_loopw [7, 8] (fun s7 s8 wr => ∃ k a : Nat, k ≤ L.length ∧ s8 = .int .i64 (k : Nat) ∧ s7 = .int .i64 (a : Nat) ∧ AtN L s k a ∧ (∀ m ∈ L.take k, m.1 ≠ s ∧ m.2 ≠ x) ∧ wr = w) (fun _ s8 _ => L.length - (intOf s8).toNat)
  case atStart => exact ⟨0, 0, Nat.zero_le _, rfl, rfl, AtN.start L s, by simp, rfl⟩
  case round =>
    obtain ⟨k, a, hk', rfl, rfl, ha, hno, hw⟩ := hrel
    rw [hw]
    have HNo : Hid ((∀ m ∈ L.take k, m.1 ≠ s ∧ m.2 ≠ x) ∧ AtN L s k a) := ⟨hno, ha⟩
    have hak : a ≤ k := ha.le
    clear hno hw ha
    by_cases hk : k < L.length
    · have hkl : (k : Int) < (L.length : Int) := by omega
      obtain ⟨g, c', hv, d0, d1⟩ := HB.out.2.1.cells hk
      simp only [Value.slice.injEq] at hv
      obtain ⟨rfl, _, rfl⟩ := hv
      obtain ⟨y, hy⟩ : ∃ y, L[k].2 = y := ⟨_, rfl⟩
      obtain ⟨t, ht⟩ : ∃ t, L[k].1 = t := ⟨_, rfl⟩
      have HY : Hid (L[k].2 = y ∧ L[k].1 = t) := ⟨hy, ht⟩
      rw [hy] at d1
      rw [ht] at d0
      clear hy ht
      by_cases hts : t = s
      · have HP : Hid (∃ m ∈ L, m.1 = s ∨ m.2 = x) := ⟨L[k], List.getElem_mem hk, Or.inl (HY.out.2.trans hts)⟩
        have heq : (t == s) = true := by simpa using hts
        clear hts
        go_wp2_with fail
        go_ret
        exact Or.inl ⟨HP.out, rfl, rfl⟩
      · have heq : (t == s) = false := by simpa using hts
        by_cases hyx : y = x
        · have HP : Hid (∃ m ∈ L, m.1 = s ∨ m.2 = x) := ⟨L[k], List.getElem_mem hk, Or.inr (HY.out.1.trans hyx)⟩
          have heq2 : (y == x) = true := by simpa using hyx
          clear hts hyx
          go_wp2_with fail
          go_ret
          exact Or.inl ⟨HP.out, rfl, rfl⟩
        · have heq2 : (y == x) = false := by simpa using hyx
          have HX : Hid (t ≠ s ∧ y ≠ x) := ⟨hts, hyx⟩
          have hkm : (k : Int) + 1 ≤ 9223372036854775807 := by omega
          have HNx : Hid (∀ m ∈ L.take (k + 1), m.1 ≠ s ∧ m.2 ≠ x) := fun q hq => by
            rw [List.take_succ_eq_append_getElem hk] at hq
            rcases List.mem_append.1 hq with hq | hq
            · exact HNo.out.1 q hq
            · obtain rfl : q = L[k] := by simpa using hq
              rw [HY.out.1, HY.out.2]; exact HX.out
          clear hts hyx
          by_cases hl : t < s
          · have hbl : Op.bytesLess t s = true := by rw [bytesLess_eq]; exact decide_eq_true hl
            have HA : Hid (AtN L s (k + 1) (k + 1)) := HNo.out.2.less HB.out.2.2 hk (by rw [HY.out.2]; exact hl)
            clear hl
            go_wp2_with fail
            go_roundw
            case rel => exact ⟨k + 1, k + 1, hk, by go_num, by go_num, HA.out, HNx.out, trivial⟩
            case measure => simp [intOf]; omega
          · have hbl : Op.bytesLess t s = false := by rw [bytesLess_eq]; exact decide_eq_false hl
            have HA : Hid (AtN L s (k + 1) a) := HNo.out.2.more hk (by rw [HY.out.2]; exact hl) (by rw [HY.out.2]; exact HX.out.1)
            clear hl
            go_wp2_with fail
            go_roundw
            case rel => exact ⟨k + 1, a, hk, by go_num, rfl, HA.out, HNx.out, trivial⟩
            case measure => simp [intOf]; omega
    · obtain rfl : k = L.length := by omega
      have HN2 : Hid ((∀ m ∈ L, m.1 ≠ s ∧ m.2 ≠ x) ∧ AtN L s L.length a) := ⟨fun q hq => HNo.out.1 q (by rw [List.take_length]; exact hq), HNo.out.2⟩
      have hd : decide ((L.length : Int) < (L.length : Int)) = false := decide_eq_false (by omega)
      clear HNo hk hk' hd
      have hll : decide ((L.length : Int) < (L.length : Int)) = false := decide_eq_false (by omega)
      have hal : (a : Int) ≤ (L.length : Int) := by omega
      have han : decide ((a : Int) < 0) = false := decide_eq_false (by omega)
      rcases mr_cases HB.out.2.1 with ⟨rfl, rfl, hL⟩ | ⟨g, rfl, hlc⟩
      · subst hL
        have ha0 : a = 0 := by simpa using hak
        subst ha0
        have HL0 : Hid (([] : List Nd).take 0 = [] ∧ ([] : List Nd).drop 0 = []) := ⟨rfl, rfl⟩
        have cb2 : w.cell? ⟨b, 0, none⟩ = some (.slice none 0 0) := cb2
        have HS1 : Hid (∀ W, Upd [] w W → SrcP W (.slice none 0 0) (([] : List Nd).take 0)) := fun W hW => Or.inl ⟨0, rfl, HL0.out.1⟩
        have HS3 : Hid (∀ W, Upd [] w W → SrcP W (.slice none 0 0) (([] : List Nd).drop 0)) := fun W hW => Or.inl ⟨0, rfl, HL0.out.2⟩
        have HLn : Hid ((([] : List Nd).take 0).length = 0 ∧ (([] : List Nd).take 0 ++ [(s, x)]).length = 1 ∧ (([] : List Nd).take 0 ++ (s, x) :: ([] : List Nd).drop 0).length = 1) := ⟨by first | (simp; done) | (simp; omega), by first | (simp; done) | (simp; omega), by first | (simp; done) | (simp; omega)⟩
        have cb0 : (w.alloc (.cells #[] 42)).cell? ⟨b, 0, none⟩ = some (.slice none 0 0) := (((Upd.refl [] w).alloc (.cells #[] 42)).cell (p := ⟨b, 0, none⟩) HB.out.1.lt (by simp)).trans cb2
        go_wp2_with (first
          | (at_builtin; refine wp_appP rfl _ _ rfl w.heap.size _ _ _ _ [] (([] : List Nd).take 0) (([] : List Nd).take 0) 0 rfl rfl (mr_lit0 w) rfl (HS1.out _ ((Upd.refl [] w).alloc _)) rfl HLn.out.1.symm (by omega) (by simp) ?_; intro g1 c1 w1 hI1 hg1; clear cb0; have hu1 : Upd [] w w1 := ((((Upd.refl [] w).alloc _).toN (P := fun x => some w.heap.size = some x)).trans (upP_grown hg1)).upd (fun x hx => by cases hx; exact Nat.le_refl _); have H1 : Hid (MR w1 w.heap.size (.slice (some ⟨g1, 0, none⟩) 0 c1) (([] : List Nd).take 0) ∧ Upd [] w w1) := ⟨hI1, hu1⟩; clear hI1 hg1 hu1; have z1 : w1.cell? ⟨b, 0, none⟩ = some (.slice none 0 0) := (H1.out.2.cell (p := ⟨b, 0, none⟩) HB.out.1.lt (by simp)).trans cb2)
          | (at_builtin; refine wp_appP rfl _ _ rfl w.heap.size _ _ _ _ (([] : List Nd).take 0) [(s, x)] (([] : List Nd).take 0 ++ [(s, x)]) 1 rfl rfl (H1.out.1.upd ((Upd.refl [] w1).alloc _)) HLn.out.1.symm (srcP_one w1 s x) rfl HLn.out.2.1.symm (by omega) (Nat.le_trans H1.out.2.size (by simp)) ?_; intro g2 c2 w2 hI2 hg2; have hu2 : Upd [] w w2 := (((H1.out.2.alloc _).toN (P := fun x => some g1 = some x)).trans (upP_grown hg2)).upd (fun x hx => by cases hx; exact (H1.out.1.own rfl).1); have H2 : Hid (MR w2 w.heap.size (.slice (some ⟨g2, 0, none⟩) 1 c2) (([] : List Nd).take 0 ++ [(s, x)]) ∧ Upd [] w w2) := ⟨hI2, hu2⟩; clear hI2 hg2 hu2 H1 z1; have z2 : w2.cell? ⟨b, 0, none⟩ = some (.slice none 0 0) := (H2.out.2.cell (p := ⟨b, 0, none⟩) HB.out.1.lt (by simp)).trans cb2)
          | (at_builtin; refine wp_appP rfl _ _ rfl w.heap.size _ _ _ _ (([] : List Nd).take 0 ++ [(s, x)]) (([] : List Nd).drop 0) (([] : List Nd).take 0 ++ (s, x) :: ([] : List Nd).drop 0) 1 rfl rfl H2.out.1 HLn.out.2.1.symm (HS3.out _ H2.out.2) (by simp) HLn.out.2.2.symm (by omega) H2.out.2.size ?_; intro g3 c3 w3 hI3 hg3; have hu3 : Upd [] w w3 := ((H2.out.2.toN (P := fun x => some g2 = some x)).trans (upP_grown hg3)).upd (fun x hx => by cases hx; exact (H2.out.1.own rfl).1); have H3 : Hid (MR w3 w.heap.size (.slice (some ⟨g3, 0, none⟩) 1 c3) (([] : List Nd).take 0 ++ (s, x) :: ([] : List Nd).drop 0) ∧ Upd [] w w3) := ⟨hI3, hu3⟩; clear hI3 hg3 hu3 H2 z2; have z3 : w3.cell? ⟨b, 0, none⟩ = some (.slice none 0 0) := (H3.out.2.cell (p := ⟨b, 0, none⟩) HB.out.1.lt (by simp)).trans cb2; have f3 : w3.frozen? ⟨b, 0, none⟩ = false := (HB.out.1.upd H3.out.2 (by simp)).free 0)
          | fail)
        go_ret
        have hput := put_pairs HB.out.1 H3.out.2 H3.out.1 (Nat.le_refl _)
        exact Or.inr ⟨HN2.out.1, rfl, 0, _, HN2.out.2, hput.1, hput.2.1, hput.2.2⟩
      · have hac : a ≤ c := by omega
        have hac2 : (a : Int) ≤ (c : Int) := by omega
        by_cases hct : a = c
        · subst hct
          have HL0 : Hid (L.length - a = 0 ∧ L.drop a = []) := ⟨by omega, List.drop_eq_nil_of_le (by omega)⟩
          clear hlc
          have HS1 : Hid (∀ W, Upd [] w W → SrcP W (.slice (some ⟨g, 0, none⟩) a a) (L.take a)) := fun W hW => srcP_head (HB.out.2.1.upd hW) hak _
          have HS3 : Hid (∀ W, Upd [] w W → SrcP W (.slice (some ⟨g, 0, none⟩) (L.length - a) 0) (L.drop a)) := fun W hW => srcP_empty _ _ _ _ _ HL0.out.1 HL0.out.2
          have HLn : Hid ((L.take a).length = a ∧ (L.take a ++ [(s, x)]).length = a + 1 ∧ (L.take a ++ (s, x) :: L.drop a).length = L.length + 1) := ⟨by first | (simp; done) | (simp; omega), by first | (simp; done) | (simp; omega), by first | (simp; done) | (simp; omega)⟩
          have cb0 : (w.alloc (.cells #[] 42)).cell? ⟨b, 0, none⟩ = some (.slice (some ⟨g, 0, none⟩) L.length a) := (((Upd.refl [] w).alloc (.cells #[] 42)).cell (p := ⟨b, 0, none⟩) HB.out.1.lt (by simp)).trans cb2
          go_wp2_with (first
            | (at_builtin; refine wp_appP rfl _ _ rfl w.heap.size _ _ _ _ [] (L.take a) (L.take a) a rfl rfl (mr_lit0 w) rfl (HS1.out _ ((Upd.refl [] w).alloc _)) rfl HLn.out.1.symm (by omega) (by simp) ?_; intro g1 c1 w1 hI1 hg1; clear cb0; have hu1 : Upd [] w w1 := ((((Upd.refl [] w).alloc _).toN (P := fun x => some w.heap.size = some x)).trans (upP_grown hg1)).upd (fun x hx => by cases hx; exact Nat.le_refl _); have H1 : Hid (MR w1 w.heap.size (.slice (some ⟨g1, 0, none⟩) a c1) (L.take a) ∧ Upd [] w w1) := ⟨hI1, hu1⟩; clear hI1 hg1 hu1; have z1 : w1.cell? ⟨b, 0, none⟩ = some (.slice (some ⟨g, 0, none⟩) L.length a) := (H1.out.2.cell (p := ⟨b, 0, none⟩) HB.out.1.lt (by simp)).trans cb2)
            | (at_builtin; refine wp_appP rfl _ _ rfl w.heap.size _ _ _ _ (L.take a) [(s, x)] (L.take a ++ [(s, x)]) (a + 1) rfl rfl (H1.out.1.upd ((Upd.refl [] w1).alloc _)) HLn.out.1.symm (srcP_one w1 s x) rfl HLn.out.2.1.symm (by omega) (Nat.le_trans H1.out.2.size (by simp)) ?_; intro g2 c2 w2 hI2 hg2; have hu2 : Upd [] w w2 := (((H1.out.2.alloc _).toN (P := fun x => some g1 = some x)).trans (upP_grown hg2)).upd (fun x hx => by cases hx; exact (H1.out.1.own rfl).1); have H2 : Hid (MR w2 w.heap.size (.slice (some ⟨g2, 0, none⟩) (a + 1) c2) (L.take a ++ [(s, x)]) ∧ Upd [] w w2) := ⟨hI2, hu2⟩; clear hI2 hg2 hu2 H1 z1; have z2 : w2.cell? ⟨b, 0, none⟩ = some (.slice (some ⟨g, 0, none⟩) L.length a) := (H2.out.2.cell (p := ⟨b, 0, none⟩) HB.out.1.lt (by simp)).trans cb2)
            | (at_builtin; refine wp_appP rfl _ _ rfl w.heap.size _ _ _ _ (L.take a ++ [(s, x)]) (L.drop a) (L.take a ++ (s, x) :: L.drop a) (L.length + 1) rfl rfl H2.out.1 HLn.out.2.1.symm (HS3.out _ H2.out.2) (by simp) HLn.out.2.2.symm (by omega) H2.out.2.size ?_; intro g3 c3 w3 hI3 hg3; have hu3 : Upd [] w w3 := ((H2.out.2.toN (P := fun x => some g2 = some x)).trans (upP_grown hg3)).upd (fun x hx => by cases hx; exact (H2.out.1.own rfl).1); have H3 : Hid (MR w3 w.heap.size (.slice (some ⟨g3, 0, none⟩) (L.length + 1) c3) (L.take a ++ (s, x) :: L.drop a) ∧ Upd [] w w3) := ⟨hI3, hu3⟩; clear hI3 hg3 hu3 H2 z2; have z3 : w3.cell? ⟨b, 0, none⟩ = some (.slice (some ⟨g, 0, none⟩) L.length a) := (H3.out.2.cell (p := ⟨b, 0, none⟩) HB.out.1.lt (by simp)).trans cb2; have f3 : w3.frozen? ⟨b, 0, none⟩ = false := (HB.out.1.upd H3.out.2 (by simp)).free 0)
            | fail)
          go_ret
          have hput := put_pairs HB.out.1 H3.out.2 H3.out.1 (Nat.le_refl _)
          exact Or.inr ⟨HN2.out.1, rfl, a, _, HN2.out.2, hput.1, hput.2.1, hput.2.2⟩
        · have hac3 : a < c := by omega
          have HS1 : Hid (∀ W, Upd [] w W → SrcP W (.slice (some ⟨g, 0, none⟩) a c) (L.take a)) := fun W hW => srcP_head (HB.out.2.1.upd hW) hak _
          have HS3 : Hid (∀ W, Upd [] w W → SrcP W (.slice (some ⟨g, a * 2, none⟩) (L.length - a) (c - a)) (L.drop a)) := fun W hW => srcP_tail (HB.out.2.1.upd hW) hak _
          have HLn : Hid ((L.take a).length = a ∧ (L.take a ++ [(s, x)]).length = a + 1 ∧ (L.take a ++ (s, x) :: L.drop a).length = L.length + 1) := ⟨by first | (simp; done) | (simp; omega), by first | (simp; done) | (simp; omega), by first | (simp; done) | (simp; omega)⟩
          have cb0 : (w.alloc (.cells #[] 42)).cell? ⟨b, 0, none⟩ = some (.slice (some ⟨g, 0, none⟩) L.length c) := (((Upd.refl [] w).alloc (.cells #[] 42)).cell (p := ⟨b, 0, none⟩) HB.out.1.lt (by simp)).trans cb2
          go_wp2_with (first
            | (at_builtin; refine wp_appP rfl _ _ rfl w.heap.size _ _ _ _ [] (L.take a) (L.take a) a rfl rfl (mr_lit0 w) rfl (HS1.out _ ((Upd.refl [] w).alloc _)) rfl HLn.out.1.symm (by omega) (by simp) ?_; intro g1 c1 w1 hI1 hg1; clear cb0; have hu1 : Upd [] w w1 := ((((Upd.refl [] w).alloc _).toN (P := fun x => some w.heap.size = some x)).trans (upP_grown hg1)).upd (fun x hx => by cases hx; exact Nat.le_refl _); have H1 : Hid (MR w1 w.heap.size (.slice (some ⟨g1, 0, none⟩) a c1) (L.take a) ∧ Upd [] w w1) := ⟨hI1, hu1⟩; clear hI1 hg1 hu1; have z1 : w1.cell? ⟨b, 0, none⟩ = some (.slice (some ⟨g, 0, none⟩) L.length c) := (H1.out.2.cell (p := ⟨b, 0, none⟩) HB.out.1.lt (by simp)).trans cb2)
            | (at_builtin; refine wp_appP rfl _ _ rfl w.heap.size _ _ _ _ (L.take a) [(s, x)] (L.take a ++ [(s, x)]) (a + 1) rfl rfl (H1.out.1.upd ((Upd.refl [] w1).alloc _)) HLn.out.1.symm (srcP_one w1 s x) rfl HLn.out.2.1.symm (by omega) (Nat.le_trans H1.out.2.size (by simp)) ?_; intro g2 c2 w2 hI2 hg2; have hu2 : Upd [] w w2 := (((H1.out.2.alloc _).toN (P := fun x => some g1 = some x)).trans (upP_grown hg2)).upd (fun x hx => by cases hx; exact (H1.out.1.own rfl).1); have H2 : Hid (MR w2 w.heap.size (.slice (some ⟨g2, 0, none⟩) (a + 1) c2) (L.take a ++ [(s, x)]) ∧ Upd [] w w2) := ⟨hI2, hu2⟩; clear hI2 hg2 hu2 H1 z1; have z2 : w2.cell? ⟨b, 0, none⟩ = some (.slice (some ⟨g, 0, none⟩) L.length c) := (H2.out.2.cell (p := ⟨b, 0, none⟩) HB.out.1.lt (by simp)).trans cb2)
            | (at_builtin; refine wp_appP rfl _ _ rfl w.heap.size _ _ _ _ (L.take a ++ [(s, x)]) (L.drop a) (L.take a ++ (s, x) :: L.drop a) (L.length + 1) rfl rfl H2.out.1 HLn.out.2.1.symm (HS3.out _ H2.out.2) (by simp) HLn.out.2.2.symm (by omega) H2.out.2.size ?_; intro g3 c3 w3 hI3 hg3; have hu3 : Upd [] w w3 := ((H2.out.2.toN (P := fun x => some g2 = some x)).trans (upP_grown hg3)).upd (fun x hx => by cases hx; exact (H2.out.1.own rfl).1); have H3 : Hid (MR w3 w.heap.size (.slice (some ⟨g3, 0, none⟩) (L.length + 1) c3) (L.take a ++ (s, x) :: L.drop a) ∧ Upd [] w w3) := ⟨hI3, hu3⟩; clear hI3 hg3 hu3 H2 z2; have z3 : w3.cell? ⟨b, 0, none⟩ = some (.slice (some ⟨g, 0, none⟩) L.length c) := (H3.out.2.cell (p := ⟨b, 0, none⟩) HB.out.1.lt (by simp)).trans cb2; have f3 : w3.frozen? ⟨b, 0, none⟩ = false := (HB.out.1.upd H3.out.2 (by simp)).free 0)
            | fail)
          go_ret
          have hput := put_pairs HB.out.1 H3.out.2 H3.out.1 (Nat.le_refl _)
          exact Or.inr ⟨HN2.out.1, rfl, a, _, HN2.out.2, hput.1, hput.2.1, hput.2.2⟩

end Go.Proofs.YtpojkmpimnnjiaaGreat
