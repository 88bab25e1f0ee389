/- Links: End, walked. -/
import Derived.Test.YtofcniodobjopaaGreatLkN
namespace Go.Proofs.YtofcniodobjopaaGreat
open Go.RowKit Go.Maps

set_option maxHeartbeats 4000000 in
set_option maxRecDepth 100000 in
theorem end_any {w : World} {l n : Nat} {P : Nat → Prop} {L : LF} {M : MF} (o : Lk w l n P L M) (hn : n ≤ 1073741824) {a : Int} (ha : I64 a) :
    Calls Tryz.prog 22 #[.pointer (some ⟨l, 0, none⟩), .int .i64 a] w fun e w' => ∃ v xs u rs, e = .returned (.tuple #[v, u]) ∧ IR w' w.heap.size v xs ∧ xs.Pairwise (· < ·) ∧ (∀ x, x ∈ xs ↔ L a x = true) ∧ MR w' w.heap.size u (selM M a rs) ∧ rs.Pairwise (· < ·) ∧ (∀ x, x ∈ rs ↔ nam M a x = true) ∧ (∃ P', Lk w' l n P' (endL L a xs) (endM M rs) ∧ (∀ x, P' x → P x ∨ (w.heap.size ≤ x ∧ x < w'.heap.size)) ∧ UpP P w w' ∧ Off P' v ∧ Off P' u) := by
  have hmade := o.made
  obtain ⟨g, m, h, c1, _, _, hr, _, _⟩ := o.cells
  have hr1 := hr hn a ha
  have O : Hid (Lk w l n P L M) := o
  have HA : Hid (I64 a ∧ n ≤ 1073741824) := ⟨ha, hn⟩
  clear hr o ha hn
  go_enter Tryz.func22, Tryz.ntmps22
  go_wp2_with fail
  refine Calls.mono hmade ?_
  rintro e w' ⟨rfl, rfl⟩
  clear hmade
  go_wp2_with fail
  refine Calls.mono hr1 ?_
  rintro e w1 ⟨v, xs, rfl, h1, h2, h3, hxn, _, hu1⟩
  have hxl : xs.length ≤ 1073741824 := Nat.le_trans hxn HA.out.2
  clear hxn
  have O1 : Hid (Lk w1 l n P L M) := O.out.upd hu1
  have X1 : Hid (xs.Pairwise (· < ·) ∧ ∀ x, x ∈ xs ↔ L a x = true) := ⟨h2, h3⟩
  have R1 : Hid (IR w1 w'.heap.size v xs ∧ Off P v) := ⟨h1, fun q hq hx => by
    have := (h1.own hq).1
    have := O.out.bnd q hx
    omega⟩
  have U1 : Hid (Upd [] w' w1) := hu1
  obtain ⟨pv, cv, hv⟩ := h1.form
  subst hv
  clear hr1 c1 h1 h2 h3 hu1
  go_wp2_with fail
  go_loopw [22] (fun i wr => ∃ k : Nat, k ≤ xs.length ∧ i = .int .i64 k ∧ ∃ P', Lk wr l n P' (endL L a (xs.take k)) M ∧ UpP P w1 wr ∧ (∀ x, P' x → P x ∨ w1.heap.size ≤ x) ∧ IR wr w'.heap.size (.slice pv xs.length cv) xs ∧ Off P' (.slice pv xs.length cv)) (fun i _ => xs.length - (intOf i).toNat)
  case atStart => exact ⟨0, Nat.zero_le _, rfl, P, by rw [List.take_zero, endL_nil]; exact O1.out, UpP.refl _ _, fun x hx => Or.inl hx, R1.out.1, R1.out.2⟩
  case round =>
    obtain ⟨k, hk, rfl, P', hO, hU, hP, hR, hV⟩ := hrel
    by_cases hlt : k < xs.length
    · have i1 : (k : Int) < (xs.length : Int) := by omega
      obtain ⟨q, c', hvq, hc⟩ := hR.cell hlt
      simp only [Value.slice.injEq] at hvq
      obtain ⟨rfl, _, rfl⟩ := hvq
      have hxk : Hid (I64 xs[k]) := (O.out.keys ((X1.out.2 xs[k]).1 (List.getElem_mem hlt))).2
      have HS : Hid (Lk wr l n P' (endL L a (xs.take k)) M ∧ UpP P w1 wr ∧ (∀ x, P' x → P x ∨ w1.heap.size ≤ x) ∧ IR wr w'.heap.size (.slice (some ⟨q, 0, none⟩) xs.length cv) xs ∧ Off P' (.slice (some ⟨q, 0, none⟩) xs.length cv)) := ⟨hO, hU, hP, hR, hV⟩
      have HT : Hid (xs.take k ++ [xs[k]] = xs.take (k + 1)) := (List.take_succ_eq_append_getElem hlt).symm
      obtain ⟨b, hb⟩ : ∃ b, b = xs[k] := ⟨_, rfl⟩
      rw [← hb] at hc hxk HT
      clear hO hU hP hR hV hb
      go_wp2_with fail
      refine Calls.mono (unlink_any HS.out.1 HA.out.1 hxk.out) ?_
      rintro e w2 ⟨rfl, P2, ho2, hP2, hu2⟩
      have HN := unlink_loop_step HS.out.2.1 HS.out.2.2.1 HS.out.2.2.2.1 HS.out.2.2.2.2 ho2 hP2 hu2
      rw [HT.out] at HN
      have HN' : Hid _ := HN
      clear HN ho2 hP2 hu2 HS hc hxk
      go_wp2
      go_roundw
      case rel => exact ⟨k + 1, by omega, by go_num, P2, HN'.out⟩
      case measure => simp [intOf]; omega
    · have hd : decide ((k : Int) < (xs.length : Int)) = false := by simp; omega
      have hkk : k = xs.length := by omega
      have HS : Hid (Lk wr l n P' (endL L a xs) M ∧ UpP P w1 wr ∧ (∀ x, P' x → P x ∨ w1.heap.size ≤ x) ∧ IR wr w'.heap.size (.slice pv xs.length cv) xs ∧ Off P' (.slice pv xs.length cv)) := ⟨by rw [hkk, List.take_length] at hO; exact hO, hU, hP, hR, hV⟩
      clear hO hU hP hR hV hkk
      obtain ⟨g2, m2, h2', _, _, c3, _, hr2, _⟩ := HS.out.1.cells
      have hr3 := hr2 HA.out.2 a HA.out.1
      clear hr2
      go_wp2_with fail
      refine Calls.mono hr3 ?_
      rintro e w3 ⟨z, rs, rfl, h1, h2, h3, hrn, _, hu3⟩
      have hrl : rs.length ≤ 1073741824 := Nat.le_trans hrn HA.out.2
      have Z : Hid (rs.Pairwise (· < ·) ∧ ∀ x, x ∈ rs ↔ nam M a x = true) := ⟨h2, h3⟩
      have hsz : w'.heap.size ≤ wr.heap.size := Nat.le_trans U1.out.size HS.out.2.1.size
      have E0 : Hid (EndI w' w3 l n a xs rs (.slice pv xs.length cv) z (.slice none 0 0) (endL L a xs) M [] P P') := ⟨HS.out.1.upd hu3, (U1.out.toN.trans HS.out.2.1).trans hu3.toN, fun x hx => by
          rcases HS.out.2.2.1 x hx with h4 | h4
          · exact Or.inl h4
          · exact Or.inr (Nat.le_trans U1.out.size h4), HS.out.2.2.2.1.upd hu3, HS.out.2.2.2.2, h1.base hsz, fun q hq hx => by
          have := (h1.own hq).1
          have := HS.out.1.bnd q hx
          omega, ⟨rfl, Or.inl ⟨rfl, rfl⟩⟩, fun q hq => (nomatch hq), fun q hq => (nomatch hq), fun q hq => (nomatch hq)⟩
      obtain ⟨pz, cz, hz⟩ := h1.form
      subst hz
      clear h1 h2 h3 hrn hu3 hr3 c3 HS hsz
      obtain ⟨i0, hi, hz0, hz1, hz2⟩ := info_parts info_mon
      have HI : Hid (Tryz.prog.info? 33 = some i0 ∧ i0.zero = some (.agg #[.int .i64 0, .int .i64 0, .int .i64 0]) ∧ i0.size = 3 ∧ i0.bytes = 24) := ⟨hi, hz0, hz1, hz2⟩
      clear hi hz0 hz1 hz2
      go_wp2_with fail
      go_loopw [38, 5] (fun i u wq => ∃ k : Nat, k ≤ rs.length ∧ i = .int .i64 k ∧ ∃ P2, EndI w' wq l n a xs rs (.slice pv xs.length cv) (.slice pz rs.length cz) u (endL L a xs) (endM M (rs.take k)) (selM M a (rs.take k)) P P2) (fun i _ _ => rs.length - (intOf i).toNat)
      case atStart => exact ⟨0, Nat.zero_le _, rfl, P', by rw [List.take_zero, endM_nil]; exact E0.out⟩
      case round =>
        obtain ⟨k, hk, rfl, P2, hE⟩ := hrel
        by_cases hlt : k < rs.length
        · have i1 : (k : Int) < (rs.length : Int) := by omega
          obtain ⟨q, c', hvq, hc⟩ := hE.rz.cell hlt
          simp only [Value.slice.injEq] at hvq
          obtain ⟨rfl, _, rfl⟩ := hvq
          obtain ⟨g4, m4, h4, _, c5, _, _, _, hlook⟩ := hE.lk.cells
          have hmem : nam M a rs[k] = true := (Z.out.2 rs[k]).1 (List.getElem_mem hlt)
          have hnk : (rs.take k).contains rs[k] = false := sorted_fresh Z.out.1 hlt
          obtain ⟨x, y, hxy⟩ : ∃ x y, M rs[k] = some (x, y) := by
            cases hq : M rs[k] with
            | none => unfold nam at hmem; rw [hq] at hmem; cases hmem
            | some p => exact ⟨p.1, p.2, rfl⟩
          have hI : I64 rs[k] ∧ I64 x ∧ I64 y := O.out.num hxy
          have hxy' : endM M (rs.take k) rs[k] = some (x, y) := by unfold endM; rw [hnk]; exact hxy
          have e5 := hlook rs[k] hI.1
          rw [(monF_some _ _ _ _).2 hxy'] at e5
          have e6 : (Instr.lookup 47 (.map (some m4)) (.int .i64 rs[k]) false).run Tryz.prog wr = .ok (.agg #[.int .i64 rs[k], .int .i64 x, .int .i64 y]) wr := e5
          have HT : Hid (rs.take k ++ [rs[k]] = rs.take (k + 1)) := (List.take_succ_eq_append_getElem hlt).symm
          have HM : Hid (M rs[k] = some (x, y) ∧ endM M (rs.take k) rs[k] = some (x, y)) := ⟨hxy, hxy'⟩
          obtain ⟨r, hr⟩ : ∃ r, r = rs[k] := ⟨_, rfl⟩
          rw [← hr] at hc e6 HT HM
          have HE : Hid (EndI w' wr l n a xs rs (.slice pv xs.length cv) (.slice (some ⟨q, 0, none⟩) rs.length cz) u5 (endL L a xs) (endM M (rs.take k)) (selM M a (rs.take k)) P P2) := hE
          obtain ⟨W2, hW2⟩ : ∃ W2, W2 = wr.alloc (.cells #[.int .i64 r, .int .i64 x, .int .i64 y] 33) := ⟨_, rfl⟩
          have U2 : Hid (Upd [] wr W2 ∧ W2.heap.size = wr.heap.size + 1) := by rw [hW2]; exact ⟨(Upd.refl [] wr).alloc _, by simp⟩
          have C2 : Hid (Cl W2 wr.heap.size #[.int .i64 r, .int .i64 x, .int .i64 y] 33) := by rw [hW2]; exact Cl.new _ _ _ _ rfl
          have d0 : W2.cell? ⟨wr.heap.size, 0, none⟩ = some (.int .i64 r) := by rw [C2.out.cell]; rfl
          have d1 : W2.cell? ⟨wr.heap.size, 1, none⟩ = some (.int .i64 x) := by rw [C2.out.cell]; rfl
          have d2 : W2.cell? ⟨wr.heap.size, 2, none⟩ = some (.int .i64 y) := by rw [C2.out.cell]; rfl
          have E2 : Hid (EndI w' W2 l n a xs rs (.slice pv xs.length cv) (.slice (some ⟨q, 0, none⟩) rs.length cz) u5 (endL L a xs) (endM M (rs.take k)) (selM M a (rs.take k)) P P2) := HE.out.upd U2.out.1
          have hbse : w'.heap.size ≤ wr.heap.size := HE.out.up.size
          have hown5 : ∀ q5, u5.ownBlock = some q5 → q5 < wr.heap.size := fun q5 hq => (HE.out.ru.own hq).2
          clear hE hlook hmem hnk hxy hxy' hI e5 hr HE
          cases hya : y == a with
          | false =>
            have HF := forget_lk E2.out.lk HM.out.2
            subst hW2
            go_wp2_with fail
            refine Calls.mono HF ?_
            rintro e w5 ⟨rfl, P5, ho5, hP5, hu5⟩
            have E5 := E2.out.step ho5 hP5 hu5
            rw [endM_snoc, HT.out] at E5
            have e7 := selM_snoc_no M a (rs.take k) HM.out.1 hya
            rw [HT.out] at e7
            rw [← e7] at E5
            have E5' : Hid _ := E5
            clear E5 e7 ho5 hP5 hu5 HF hc e6 d0 d1 d2 C2 U2 E2 c5
            go_wp2
            go_roundw
            case rel => exact ⟨k + 1, by omega, by go_num, P5, E5'.out⟩
            case measure => simp [intOf]; omega
          | true =>
            have hya' : a = y := by have : y = a := by simpa using hya
                                    exact this.symm
            subst hya'
            have HC4 : Hid (∀ w4, (W2.alloc (.cells #[.int .i64 r, .int .i64 x, .int .i64 a] 33)).grownBy w4 u5.ownBlock → w4.cell? ⟨wr.heap.size, 0, none⟩ = some (.int .i64 r) ∧ w4.cell? ⟨wr.heap.size, 1, none⟩ = some (.int .i64 x) ∧ w4.cell? ⟨wr.heap.size, 2, none⟩ = some (.int .i64 a)) := fun w4 hg => by
              have hu4 := grownBy_upP hg
              have hlt2 : wr.heap.size < (W2.alloc (.cells #[.int .i64 r, .int .i64 x, .int .i64 a] 33)).heap.size := by rw [World.size_alloc]; have := U2.out.2; omega
              have C3 := C2.out.old (.cells #[.int .i64 r, .int .i64 x, .int .i64 a] 33)
              have hn : ¬ u5.ownBlock = some wr.heap.size := fun e => absurd (hown5 _ e) (Nat.lt_irrefl _)
              refine ⟨(hu4.cell (p := ⟨wr.heap.size, 0, none⟩) hlt2 hn).trans ?_, (hu4.cell (p := ⟨wr.heap.size, 1, none⟩) hlt2 hn).trans ?_, (hu4.cell (p := ⟨wr.heap.size, 2, none⟩) hlt2 hn).trans ?_⟩ <;> (rw [C3.cell]; rfl)
            have E3 : Hid (EndI w' (W2.alloc (.cells #[.int .i64 r, .int .i64 x, .int .i64 a] 33)) l n a xs rs (.slice pv xs.length cv) (.slice (some ⟨q, 0, none⟩) rs.length cz) u5 (endL L a xs) (endM M (rs.take k)) (selM M a (rs.take k)) P P2) := E2.out.upd ((Upd.refl [] W2).alloc _)
            have hsz3' : (W2.alloc (.cells #[.int .i64 r, .int .i64 x, .int .i64 a] 33)).heap.size = wr.heap.size + 2 := by rw [World.size_alloc]; have := U2.out.2; omega
            have hsz3 : Hid ((W2.alloc (.cells #[.int .i64 r, .int .i64 x, .int .i64 a] 33)).heap.size = wr.heap.size + 2) := hsz3'
            clear hsz3'
            subst hW2
            obtain ⟨i9, hi, hz0, hz1, hz2⟩ := info_parts info_mon
            have hkl : (selM M a (rs.take k)).length ≤ 1073741824 := by
              have := selM_len M a (rs.take k)
              rw [List.length_take] at this
              omega
            clear hown5
            go_wp2_with (first
              | (at_builtin; refine wpList_append_own_at _ rfl _ _ 27 rfl w'.heap.size 33 i9 (.agg #[.int .i64 0, .int .i64 0, .int .i64 0]) 3 24 und_monrow hi hz0 hz1 hz2 rfl (by decide) _ _ _ rfl (World.ownsRow.alloc E2.out.ru _) ⟨wr.heap.size + 1, 0, none⟩ 1 1 [.int .i64 r, .int .i64 x, .int .i64 a] rfl rfl (cell_new3' _ _ _ _ _ (by simp)) (by simp [Value.oneCell']) (by unfold maxLen; omega) (by omega) (by simp; omega) ?_; intro v4 w4 hown4 hg4 hnil4 hat4; obtain ⟨p0, p1, p2⟩ := HC4.out w4 hg4)
              | fail)
            have hr4 : MR w4 w'.heap.size v4 (selM M a (rs.take (k + 1))) := by
              rw [← HT.out, selM_snoc_yes M a (rs.take k) HM.out.1]
              unfold MR
              rw [List.flatMap_append, List.length_append]
              simpa using hown4
            have E4 : Hid (EndI w' w4 l n a xs rs (.slice pv xs.length cv) (.slice (some ⟨q, 0, none⟩) rs.length cz) v4 (endL L a xs) (endM M (rs.take k)) (selM M a (rs.take (k + 1))) P P2) := E3.out.app hg4 hr4 (by
              rw [hsz3.out]
              exact hat4.imp (fun h => h) (fun h => by simpa using h))
            have HF := forget_lk E4.out.lk HM.out.2
            refine Calls.mono HF ?_
            rintro e w5 ⟨rfl, P5, ho5, hP5, hu5⟩
            have E5 := E4.out.step ho5 hP5 hu5
            rw [endM_snoc, HT.out] at E5
            have E5' : Hid _ := E5
            clear E5 ho5 hP5 hu5 HF hc e6 d0 d1 d2 C2 U2 E2 c5 E3 E4 hr4 HC4 hown4 hg4 hnil4 hat4 p0 p1 p2 hi hz0 hz1 hz2 hkl hsz3
            go_wp2
            go_roundw
            case rel => exact ⟨k + 1, by omega, by go_num, P5, E5'.out⟩
            case measure => simp [intOf]; omega
        · have hd2 : decide ((k : Int) < (rs.length : Int)) = false := by simp; omega
          have hkk : k = rs.length := by omega
          rw [hkk, List.take_length] at hE
          have HE : Hid (EndI w' wr l n a xs rs (.slice pv xs.length cv) (.slice pz rs.length cz) u5 (endL L a xs) (endM M rs) (selM M a rs) P P2) := hE
          clear hE
          go_wp2
          have e9 := HE.out
          refine bodyPost_ret (results_tmp2 rfl _ _ _) rfl ?_
          exact ⟨_, xs, u5, rs, rfl, e9.rv, X1.out.1, X1.out.2, e9.ru, Z.out.1, Z.out.2, P2, e9.lk, fun x hx => (e9.low x hx).imp id (fun h => ⟨h, e9.lk.bnd x hx⟩), e9.up, e9.ov, e9.ou⟩

end Go.Proofs.YtofcniodobjopaaGreat
