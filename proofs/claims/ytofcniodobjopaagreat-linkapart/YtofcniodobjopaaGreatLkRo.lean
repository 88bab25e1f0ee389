/- The reference's Of. -/
import Derived.Test.YtofcniodobjopaaGreatLkRb
import Derived.Deep.DeepCutAuto
import Derived.Deep.CutBlock
namespace Go.Proofs.YtofcniodobjopaaGreat
open Go.RowKit Go.Maps

theorem srcI_row {w : World} {B : Nat} {v : Value} {xs : List Int} (h : IR w B v xs) {g c : Nat} (hv : v = .slice (some ⟨g, 0, none⟩) xs.length c) {t n : Nat} (htn : t + n ≤ xs.length) (c2 : Nat) : SrcI w (.slice (some ⟨g, t, none⟩) n c2) ((xs.drop t).take n) := by
  have hl : ((xs.drop t).take n).length = n := by simp; omega
  refine Or.inr ⟨⟨g, t, none⟩, c2, by rw [hl], fun j u hj => ?_⟩
  rw [List.getElem?_map] at hj
  obtain ⟨x, hx, rfl⟩ := Option.map_eq_some_iff.1 hj
  obtain ⟨hjl, rfl⟩ := List.getElem?_eq_some_iff.1 hx
  rw [hl] at hjl
  obtain ⟨g2, c3, e, hc⟩ := h.cell (k := t + j) (by omega)
  rw [hv] at e
  simp only [Value.slice.injEq, Option.some.injEq, Addr.mk.injEq, and_true] at e
  obtain ⟨rfl, _⟩ := e
  rw [List.getElem_take, List.getElem_drop]
  cases j with
  | zero => exact hc
  | succ j => exact hc
theorem srcI_head {w : World} {B : Nat} {xs : List Int} {g c : Nat} (h : IR w B (.slice (some ⟨g, 0, none⟩) xs.length c) xs) {t : Nat} (ht : t ≤ xs.length) (c2 : Nat) : SrcI w (.slice (some ⟨g, 0, none⟩) t c2) (xs.take t) := by
  have := srcI_row h rfl (t := 0) (n := t) (by omega) c2
  rw [List.drop_zero] at this
  exact this
theorem srcI_tail {w : World} {B : Nat} {xs : List Int} {g c : Nat} (h : IR w B (.slice (some ⟨g, 0, none⟩) xs.length c) xs) {t : Nat} (ht : t ≤ xs.length) (c2 : Nat) : SrcI w (.slice (some ⟨g, t, none⟩) (xs.length - t) c2) (xs.drop t) := by
  have := srcI_row h rfl (t := t) (n := xs.length - t) (by omega) c2
  rw [List.take_of_length_le (by simp)] at this
  exact this
theorem ir_lit0 (w : World) : IR (w.alloc (.cells #[] 3)) w.heap.size (.slice (some ⟨w.heap.size, 0, none⟩) 0 0) [] :=
  ⟨rfl, Or.inr ⟨w.heap.size, 0, #[], rfl, Nat.le_refl _, Cl.new _ _ _ _ rfl, by simp, by decide, rfl, rfl⟩⟩
theorem srcI_one (w : World) (o : Int) : SrcI (w.alloc (.cells #[.int .i64 o] 3)) (.slice (some ⟨w.heap.size, 0, none⟩) 1 1) [o] :=
  Or.inr ⟨⟨w.heap.size, 0, none⟩, 1, rfl, fun j u hj => by have := cell_one_new w (.int .i64 o) 3 j u (by simpa [encZ] using hj); exact this⟩
theorem wp_app2 {ops : Array Oper} {rest : List Oper} {o : Oper} {a : Act} {w : World} {Q : Exit → Act → World → Prop} (hgd : o.guard = none) (s x : Operand) (ho : o.op = .call { callee := .builtin .append, args := #[s, x], argTypes := #[25, 25] })
    (B g0 n0 c0 : Nat) (u : Value) (xs ys zs : List Int) (n : Nat) (hsv : a.eval s = .slice (some ⟨g0, 0, none⟩) n0 c0) (hxu : a.eval x = u) (hown : IR w B (.slice (some ⟨g0, 0, none⟩) n0 c0) xs) (hn0 : n0 = xs.length) (hs : SrcI w u ys) (hz : xs ++ ys = zs) (hn : n = zs.length) (hlen : n ≤ 100000) (hB : B ≤ w.heap.size)
    (h : ∀ g c w', IR w' B (.slice (some ⟨g, 0, none⟩) n c) zs → w.grownBy w' (some g0) → wpList Tryz.prog ops Q rest (a.put o.dst (.slice (some ⟨g, 0, none⟩) n c)) w') : wpList Tryz.prog ops Q (o :: rest) a w := by
  subst hz
  subst hn
  subst hn0
  exact wp_app hgd s x ho B _ u xs ys hsv hxu hown ⟨_, _, rfl⟩ hs (by rw [List.length_append] at hlen; exact hlen) hB h
theorem IR.cap {w : World} {B g n c : Nat} {xs : List Int} (h : IR w B (.slice (some ⟨g, 0, none⟩) n c) xs) : xs.length ≤ c := by
  rcases h.2 with ⟨h1, _⟩ | ⟨g2, cap, cur, h1, _, _, h4, _⟩
  · cases h1
  · simp only [Value.slice.injEq] at h1
    obtain ⟨_, _, rfl⟩ := h1
    exact h4
theorem srcI_empty (w : World) (ad : Addr) (n c : Nat) (ys : List Int) (hn : n = 0) (hy : ys = []) : SrcI w (.slice (some ad) n c) ys := by
  subst hn
  subst hy
  exact Or.inr ⟨ad, c, rfl, fun j v hj => by simp at hj⟩

set_option maxHeartbeats 8000000 in
set_option maxRecDepth 100000 in
theorem ofRef_any (w : World) (B b : Nat) (v u : Value) (ps : List (Int × Int)) (a : Int) (hb : Cl w b #[v, u] 41) (hr : PR w B v ps) (hps : PsOk ps) (hn : ps.length ≤ 1000) :
    Calls Tryz.prog 63 #[.pointer (some ⟨b, 0, none⟩), .int .i64 a] w fun e w' => ∃ v xs, e = .returned v ∧ IR w' w.heap.size v xs ∧ OutK ps a ps.length xs ∧ Upd [] w w' := by
  obtain ⟨p, c, hv⟩ := hr.form
  subst hv
  have HR : Hid (PR w B (.slice p ps.length c) ps ∧ PsOk ps ∧ ps.length ≤ 1000 ∧ b < w.heap.size ∧ w.cell? ⟨b, 0, none⟩ = some (.slice p ps.length c)) := ⟨hr, hps, hn, hb.lt, by rw [hb.cell]; rfl⟩
  clear hr hb hps
  go_enter Tryz.func63, Tryz.ntmps63
  go_wp2_with fail
  go_loopw [5, 6] (fun s5 s6 wx => ∃ (k : Nat) (xs : List Int), s6 = .int .i64 (k : Nat) ∧ k ≤ ps.length ∧ IR wx w.heap.size s5 xs ∧ Upd [] w wx ∧ OutK ps a k xs) (fun _ s6 _ => ps.length - (intOf s6).toNat)
  case atStart => exact ⟨0, [], rfl, Nat.zero_le _, ⟨rfl, Or.inl ⟨rfl, rfl⟩⟩, Upd.refl [] w, List.Pairwise.nil, Nat.le_refl _, by simp⟩
  case round =>
    obtain ⟨k, xs, rfl, hk, hx, hu, hO⟩ := hrel
    obtain ⟨px, cx, hxf⟩ := hx.form
    subst hxf
    have HO : Hid (IR wr w.heap.size (.slice px xs.length cx) xs ∧ Upd [] w wr ∧ OutK ps a k xs) := ⟨hx, hu, hO⟩
    have cb : wr.cell? ⟨b, 0, none⟩ = some (.slice p ps.length c) := (hu.cell (p := ⟨b, 0, none⟩) HR.out.2.2.2.1 (by simp)).trans HR.out.2.2.2.2
    have hxl : xs.length ≤ k := hO.2.1
    clear hx hu hO
    by_cases hlk : k < ps.length
    · have j1 : (k : Int) < (ps.length : Int) := by omega
      obtain ⟨g, c9, e1, d0, d1⟩ := HR.out.1.cells hlk
      simp only [Value.slice.injEq] at e1
      obtain ⟨rfl, _, rfl⟩ := e1
      obtain ⟨y0, y1, hy⟩ : ∃ y0 y1, ps[k] = (y0, y1) := ⟨_, _, rfl⟩
      rw [hy] at d0 d1
      simp only at d0 d1
      have HY : Hid (ps[k] = (y0, y1)) := hy
      have t0 : wr.cell? ⟨g, k * 2, none⟩ = some (.int .i64 y0) := (HO.out.2.1.cell (World.block_lt_of_cell? _ _ d0) (by simp)).trans d0
      have t1 : wr.cell? ⟨g, k * 2 + 1, none⟩ = some (.int .i64 y1) := (HO.out.2.1.cell (p := ⟨g, k * 2 + 1, none⟩) (World.block_lt_of_cell? _ _ d1) (by simp)).trans d1
      clear hy d0 d1
      go_upto_region 6 with fail
      generalize hwp : World.alloc _ _ = wp
      have hup : Upd [] wr wp := by rw [← hwp]; exact (Upd.refl [] wr).alloc _
      have hC : Cl wp wr.heap.size #[.int .i64 y0, .int .i64 y1] 115 := by rw [← hwp]; exact Cl.new _ _ _ _ rfl
      obtain ⟨x, hx⟩ : ∃ x, x = wr.heap.size := ⟨_, rfl⟩
      rw [← hx] at hC ⊢
      have q0 : wp.cell? ⟨x, 0, none⟩ = some (.int .i64 y0) := by rw [hC.cell]; rfl
      have q1 : wp.cell? ⟨x, 1, none⟩ = some (.int .i64 y1) := by rw [hC.cell]; rfl
      have HP : Hid (IR wp w.heap.size (.slice px xs.length cx) xs ∧ Upd [] w wp ∧ OutK ps a k xs) := ⟨HO.out.1.upd hup, HO.out.2.1.trans hup, HO.out.2.2⟩
      clear hup hC hx hwp HO t0 t1 cb
      cases h0 : y0 == a with
      | true =>
        have HOt : Hid (oth a ps[k] = some y1) := by show _ = _; rw [HY.out]; unfold oth; simp only; rw [h0]; rfl
        have HF : Hid (y1 ∉ xs) := HP.out.2.2.fresh HR.out.2.1 hlk HOt.out
        have hxm : xs.length ≤ 1000 := by have := HR.out.2.2.1; omega
        go_wp2_with fail
        go_loopw [9] (fun s9 wx => ∃ t : Nat, s9 = .int .i64 (t : Nat) ∧ t ≤ xs.length ∧ wx = wp ∧ ∀ j (hj : j < xs.length), t ≤ j → y1 < xs[j]) (fun s9 _ => (intOf s9).toNat)
        case atStart => exact ⟨xs.length, rfl, Nat.le_refl _, rfl, fun j hj h => by omega⟩
        case round =>
          obtain ⟨t, rfl, ht, hw, hhi⟩ := hrel
          rw [hw]
          clear hw
          by_cases h0t : t = 0
          · have hd0 : decide ((0 : Int) < (t : Int)) = false := decide_eq_false (by omega)
            have hd0n : ¬ 0 < t := by omega
            have HI : Hid ((∀ j (hj : j < xs.length), j < t → xs[j] < y1) ∧ (∀ j (hj : j < xs.length), t ≤ j → y1 < xs[j])) := ⟨fun j hj h => by omega, hhi⟩
            clear hhi h0t
            rcases HP.out.1.2 with ⟨hnil, hx0⟩ | ⟨gx, cap, cur, hform, _⟩
            · simp only [Value.slice.injEq] at hnil
              obtain ⟨rfl, _, rfl⟩ := hnil
              obtain rfl : xs = [] := List.eq_nil_of_length_eq_zero hx0
              obtain rfl : t = 0 := by simpa using ht
              go_wp2_with (first
                | (at_builtin; refine wp_app rfl _ _ rfl wp.heap.size _ _ [] ([] : List Int) rfl rfl (ir_lit0 wp) ⟨_, _, rfl⟩ (Or.inl ⟨_, rfl, rfl⟩) (by simp <;> omega) (by simp) ?_; intro g1 c1 w1 hI1 hg1
                   have hu1 : Upd [] wp w1 := (((Upd.refl [] wp).alloc (.cells #[] 3)).toN.trans (upP_grown hg1)).upd (fun x hx => by cases hx; exact Nat.le_refl _)
                   rw [List.nil_append] at hI1
                   have H1 : Hid (IR w1 wp.heap.size (.slice (some ⟨g1, 0, none⟩) (([] : List Int)).length c1) ([] : List Int) ∧ Upd [] wp w1) := ⟨hI1, hu1⟩
                   clear hI1 hg1 hu1)
                | (at_builtin; refine wp_app rfl _ _ rfl wp.heap.size _ _ ([] : List Int) [y1] rfl rfl (H1.out.1.upd ((Upd.refl [] w1).alloc _)) ⟨_, _, rfl⟩ (srcI_one w1 y1) (by simp <;> omega) (by have := H1.out.2.size; simp; omega) ?_; intro g2 c2 w2 hI2 hg2
                   have hu2 : Upd [] wp w2 := (((H1.out.2.alloc (.cells #[.int .i64 y1] 3)).toN (P := fun x => some g1 = some x)).trans (upP_grown hg2)).upd (fun x hx => by cases hx; exact (H1.out.1.own rfl).1)
                   have H2 : Hid (IR w2 wp.heap.size (.slice (some ⟨g2, 0, none⟩) (([] : List Int) ++ [y1]).length c2) (([] : List Int) ++ [y1]) ∧ Upd [] wp w2) := ⟨hI2, hu2⟩
                   clear hI2 hg2 hu2)
                | (at_builtin; refine wp_app rfl _ _ rfl wp.heap.size _ _ (([] : List Int) ++ [y1]) ([] : List Int) rfl rfl H2.out.1 ⟨_, _, rfl⟩ (Or.inl ⟨_, rfl, rfl⟩) (by simp <;> omega) H2.out.2.size ?_; intro g3 c3 w3 hI3 hg3
                   have hu3 : Upd [] wp w3 := ((H2.out.2.toN (P := fun x => some g2 = some x)).trans (upP_grown hg3)).upd (fun x hx => by cases hx; exact (H2.out.1.own rfl).1)
                   have H3 : Hid (IR w3 wp.heap.size (.slice (some ⟨g3, 0, none⟩) (([] : List Int) ++ [y1] ++ ([] : List Int)).length c3) (([] : List Int) ++ [y1] ++ ([] : List Int)) ∧ Upd [] wp w3) := ⟨hI3, hu3⟩
                   clear hI3 hg3 hu3)
                | fail)
              go_roundw
              case rel => exact ⟨k + 1, _, by go_num, hlk, H3.out.1.base HP.out.2.1.size, HP.out.2.1.trans H3.out.2, by have h9 := HP.out.2.2.step hlk HOt.out (t := 0) (Nat.zero_le _) HI.out.1 HI.out.2; exact h9⟩
              case measure => simp [intOf]; omega
            · simp only [Value.slice.injEq] at hform
              obtain ⟨rfl, _, rfl⟩ := hform
              have hcap := HP.out.1.cap
              have htc : t ≤ cx := by omega
              have htc2 : (t : Int) ≤ (cx : Int) := by omega
              by_cases hct : cx = t
              · subst hct
                have hlx : xs.length - cx = 0 := by omega
                have hdx : xs.drop cx = [] := List.drop_eq_nil_of_le (by omega)
                have HDX : Hid (xs.drop cx = []) := hdx
                clear hdx
                go_wp2_with (first
                  | (at_builtin; refine wp_app2 rfl _ _ rfl wp.heap.size _ _ _ _ [] (xs.take cx) (xs.take cx) cx rfl rfl (ir_lit0 wp) rfl (srcI_head (HP.out.1.upd ((Upd.refl [] wp).alloc (.cells #[] 3))) ht _) rfl (by simp <;> omega) (by omega) (by simp) ?_; intro g1 c1 w1 hI1 hg1
                     have hu1 : Upd [] wp w1 := (((Upd.refl [] wp).alloc (.cells #[] 3)).toN.trans (upP_grown hg1)).upd (fun x hx => by cases hx; exact Nat.le_refl _)
                     have H1 : Hid (IR w1 wp.heap.size (.slice (some ⟨g1, 0, none⟩) cx c1) (xs.take cx) ∧ Upd [] wp w1) := ⟨hI1, hu1⟩
                     clear hI1 hg1 hu1)
                  | (at_builtin; refine wp_app2 rfl _ _ rfl wp.heap.size _ _ _ _ (xs.take cx) [y1] (xs.take cx ++ [y1]) (cx + 1) rfl rfl (H1.out.1.upd ((Upd.refl [] w1).alloc _)) (by simp <;> omega) (srcI_one w1 y1) rfl (by simp <;> omega) (by omega) (by have := H1.out.2.size; simp; omega) ?_; intro g2 c2 w2 hI2 hg2
                     have hu2 : Upd [] wp w2 := (((H1.out.2.alloc (.cells #[.int .i64 y1] 3)).toN (P := fun x => some g1 = some x)).trans (upP_grown hg2)).upd (fun x hx => by cases hx; exact (H1.out.1.own rfl).1)
                     have H2 : Hid (IR w2 wp.heap.size (.slice (some ⟨g2, 0, none⟩) (cx + 1) c2) (xs.take cx ++ [y1]) ∧ Upd [] wp w2) := ⟨hI2, hu2⟩
                     clear hI2 hg2 hu2)
                  | (at_builtin; refine wp_app2 rfl _ _ rfl wp.heap.size _ _ _ _ (xs.take cx ++ [y1]) (xs.drop cx) (xs.take cx ++ [y1] ++ xs.drop cx) (xs.length + 1) rfl rfl H2.out.1 (by simp <;> omega) (srcI_empty _ _ _ _ _ (by omega) HDX.out) rfl (by simp <;> omega) (by simp <;> omega) H2.out.2.size ?_; intro g3 c3 w3 hI3 hg3
                     have hu3 : Upd [] wp w3 := ((H2.out.2.toN (P := fun x => some g2 = some x)).trans (upP_grown hg3)).upd (fun x hx => by cases hx; exact (H2.out.1.own rfl).1)
                     have H3 : Hid (IR w3 wp.heap.size (.slice (some ⟨g3, 0, none⟩) (xs.length + 1) c3) (xs.take cx ++ [y1] ++ xs.drop cx) ∧ Upd [] wp w3) := ⟨hI3, hu3⟩
                     clear hI3 hg3 hu3)
                  | fail)
                go_roundw
                case rel => exact ⟨k + 1, _, by go_num, hlk, H3.out.1.base HP.out.2.1.size, HP.out.2.1.trans H3.out.2, HP.out.2.2.step hlk HOt.out ht HI.out.1 HI.out.2⟩
                case measure => simp [intOf]; omega
              · go_wp2_with (first
                  | (at_builtin; refine wp_app2 rfl _ _ rfl wp.heap.size _ _ _ _ [] (xs.take t) (xs.take t) t rfl rfl (ir_lit0 wp) rfl (srcI_head (HP.out.1.upd ((Upd.refl [] wp).alloc (.cells #[] 3))) ht _) rfl (by simp <;> omega) (by omega) (by simp) ?_; intro g1 c1 w1 hI1 hg1
                     have hu1 : Upd [] wp w1 := (((Upd.refl [] wp).alloc (.cells #[] 3)).toN.trans (upP_grown hg1)).upd (fun x hx => by cases hx; exact Nat.le_refl _)
                     have H1 : Hid (IR w1 wp.heap.size (.slice (some ⟨g1, 0, none⟩) t c1) (xs.take t) ∧ Upd [] wp w1) := ⟨hI1, hu1⟩
                     clear hI1 hg1 hu1)
                  | (at_builtin; refine wp_app2 rfl _ _ rfl wp.heap.size _ _ _ _ (xs.take t) [y1] (xs.take t ++ [y1]) (t + 1) rfl rfl (H1.out.1.upd ((Upd.refl [] w1).alloc _)) (by simp <;> omega) (srcI_one w1 y1) rfl (by simp <;> omega) (by omega) (by have := H1.out.2.size; simp; omega) ?_; intro g2 c2 w2 hI2 hg2
                     have hu2 : Upd [] wp w2 := (((H1.out.2.alloc (.cells #[.int .i64 y1] 3)).toN (P := fun x => some g1 = some x)).trans (upP_grown hg2)).upd (fun x hx => by cases hx; exact (H1.out.1.own rfl).1)
                     have H2 : Hid (IR w2 wp.heap.size (.slice (some ⟨g2, 0, none⟩) (t + 1) c2) (xs.take t ++ [y1]) ∧ Upd [] wp w2) := ⟨hI2, hu2⟩
                     clear hI2 hg2 hu2)
                  | (at_builtin; refine wp_app2 rfl _ _ rfl wp.heap.size _ _ _ _ (xs.take t ++ [y1]) (xs.drop t) (xs.take t ++ [y1] ++ xs.drop t) (xs.length + 1) rfl rfl H2.out.1 (by simp <;> omega) (srcI_tail (HP.out.1.upd H2.out.2) ht _) rfl (by simp <;> omega) (by simp <;> omega) H2.out.2.size ?_; intro g3 c3 w3 hI3 hg3
                     have hu3 : Upd [] wp w3 := ((H2.out.2.toN (P := fun x => some g2 = some x)).trans (upP_grown hg3)).upd (fun x hx => by cases hx; exact (H2.out.1.own rfl).1)
                     have H3 : Hid (IR w3 wp.heap.size (.slice (some ⟨g3, 0, none⟩) (xs.length + 1) c3) (xs.take t ++ [y1] ++ xs.drop t) ∧ Upd [] wp w3) := ⟨hI3, hu3⟩
                     clear hI3 hg3 hu3)
                  | fail)
                go_roundw
                case rel => exact ⟨k + 1, _, by go_num, hlk, H3.out.1.base HP.out.2.1.size, HP.out.2.1.trans H3.out.2, HP.out.2.2.step hlk HOt.out ht HI.out.1 HI.out.2⟩
                case measure => simp [intOf]; omega
          · obtain ⟨t1, ht1⟩ : ∃ t1, t = t1 + 1 := ⟨t - 1, by omega⟩
            have HT : Hid (t = t1 + 1) := ht1
            have jt : 0 < t := by omega
            have jt1 : (t1 : Int) < (xs.length : Int) := by omega
            obtain ⟨gx, c8, e8, dz⟩ := HP.out.1.cell (k := t1) (by omega)
            simp only [Value.slice.injEq] at e8
            obtain ⟨rfl, _, rfl⟩ := e8
            obtain ⟨z, hz⟩ : ∃ z, z = xs[t1] := ⟨_, rfl⟩
            rw [← hz] at dz
            have e4 : (t : Int) - 1 = (t1 : Int) := by omega
            have e5 : IntKind.i64.wrap (t1 : Int) = (t1 : Int) := IntWalk.i64_in _ ⟨by omega, by omega⟩
            have hzo : z ≠ y1 := fun e => HF.out (by rw [← e, hz]; exact List.getElem_mem _)
            cases hzd : decide (y1 < z) with
            | true =>
              have hzo2 : y1 < z := by simpa using hzd
              have HI : Hid (∀ j (hj : j < xs.length), t1 ≤ j → y1 < xs[j]) := fun j hj h => by
                rcases Nat.lt_or_ge t1 j with h5 | h5
                · exact hhi j hj (by omega)
                · obtain rfl : j = t1 := by omega
                  rw [← hz]
                  exact hzo2
              clear hhi hz ht1 h0t
              go_wp2_with fail
              go_roundw
              case rel => exact ⟨t1, by go_num, by have := HT.out; omega, trivial, HI.out⟩
              case measure => have := HT.out; simp [intOf]; omega
            | false =>
              have HI : Hid ((∀ j (hj : j < xs.length), j < t → xs[j] < y1) ∧ (∀ j (hj : j < xs.length), t ≤ j → y1 < xs[j])) := by
                refine ⟨fun j hj h => ?_, hhi⟩
                have hle : z ≤ y1 := by have : ¬ y1 < z := by simpa using hzd
                                        omega
                rcases Nat.lt_or_ge j t1 with h5 | h5
                · have := List.pairwise_iff_getElem.1 HP.out.2.2.1 j t1 hj (by omega) h5
                  rw [← hz] at this
                  omega
                · obtain rfl : j = t1 := by omega
                  rw [← hz]
                  omega
              clear hhi hz ht1 h0t hzo
              have hcap := HP.out.1.cap
              have htc : t ≤ cx := by omega
              have htc2 : (t : Int) ≤ (cx : Int) := by omega
              by_cases hct : cx = t
              · subst hct
                have hlx : xs.length - cx = 0 := by omega
                have hdx : xs.drop cx = [] := List.drop_eq_nil_of_le (by omega)
                have HDX : Hid (xs.drop cx = []) := hdx
                clear hdx
                go_wp2_with (first
                  | (at_builtin; refine wp_app2 rfl _ _ rfl wp.heap.size _ _ _ _ [] (xs.take cx) (xs.take cx) cx rfl rfl (ir_lit0 wp) rfl (srcI_head (HP.out.1.upd ((Upd.refl [] wp).alloc (.cells #[] 3))) ht _) rfl (by simp <;> omega) (by omega) (by simp) ?_; intro g1 c1 w1 hI1 hg1
                     have hu1 : Upd [] wp w1 := (((Upd.refl [] wp).alloc (.cells #[] 3)).toN.trans (upP_grown hg1)).upd (fun x hx => by cases hx; exact Nat.le_refl _)
                     have H1 : Hid (IR w1 wp.heap.size (.slice (some ⟨g1, 0, none⟩) cx c1) (xs.take cx) ∧ Upd [] wp w1) := ⟨hI1, hu1⟩
                     clear hI1 hg1 hu1)
                  | (at_builtin; refine wp_app2 rfl _ _ rfl wp.heap.size _ _ _ _ (xs.take cx) [y1] (xs.take cx ++ [y1]) (cx + 1) rfl rfl (H1.out.1.upd ((Upd.refl [] w1).alloc _)) (by simp <;> omega) (srcI_one w1 y1) rfl (by simp <;> omega) (by omega) (by have := H1.out.2.size; simp; omega) ?_; intro g2 c2 w2 hI2 hg2
                     have hu2 : Upd [] wp w2 := (((H1.out.2.alloc (.cells #[.int .i64 y1] 3)).toN (P := fun x => some g1 = some x)).trans (upP_grown hg2)).upd (fun x hx => by cases hx; exact (H1.out.1.own rfl).1)
                     have H2 : Hid (IR w2 wp.heap.size (.slice (some ⟨g2, 0, none⟩) (cx + 1) c2) (xs.take cx ++ [y1]) ∧ Upd [] wp w2) := ⟨hI2, hu2⟩
                     clear hI2 hg2 hu2)
                  | (at_builtin; refine wp_app2 rfl _ _ rfl wp.heap.size _ _ _ _ (xs.take cx ++ [y1]) (xs.drop cx) (xs.take cx ++ [y1] ++ xs.drop cx) (xs.length + 1) rfl rfl H2.out.1 (by simp <;> omega) (srcI_empty _ _ _ _ _ (by omega) HDX.out) rfl (by simp <;> omega) (by simp <;> omega) H2.out.2.size ?_; intro g3 c3 w3 hI3 hg3
                     have hu3 : Upd [] wp w3 := ((H2.out.2.toN (P := fun x => some g2 = some x)).trans (upP_grown hg3)).upd (fun x hx => by cases hx; exact (H2.out.1.own rfl).1)
                     have H3 : Hid (IR w3 wp.heap.size (.slice (some ⟨g3, 0, none⟩) (xs.length + 1) c3) (xs.take cx ++ [y1] ++ xs.drop cx) ∧ Upd [] wp w3) := ⟨hI3, hu3⟩
                     clear hI3 hg3 hu3)
                  | fail)
                go_roundw
                case rel => exact ⟨k + 1, _, by go_num, hlk, H3.out.1.base HP.out.2.1.size, HP.out.2.1.trans H3.out.2, HP.out.2.2.step hlk HOt.out ht HI.out.1 HI.out.2⟩
                case measure => simp [intOf]; omega
              · go_wp2_with (first
                  | (at_builtin; refine wp_app2 rfl _ _ rfl wp.heap.size _ _ _ _ [] (xs.take t) (xs.take t) t rfl rfl (ir_lit0 wp) rfl (srcI_head (HP.out.1.upd ((Upd.refl [] wp).alloc (.cells #[] 3))) ht _) rfl (by simp <;> omega) (by omega) (by simp) ?_; intro g1 c1 w1 hI1 hg1
                     have hu1 : Upd [] wp w1 := (((Upd.refl [] wp).alloc (.cells #[] 3)).toN.trans (upP_grown hg1)).upd (fun x hx => by cases hx; exact Nat.le_refl _)
                     have H1 : Hid (IR w1 wp.heap.size (.slice (some ⟨g1, 0, none⟩) t c1) (xs.take t) ∧ Upd [] wp w1) := ⟨hI1, hu1⟩
                     clear hI1 hg1 hu1)
                  | (at_builtin; refine wp_app2 rfl _ _ rfl wp.heap.size _ _ _ _ (xs.take t) [y1] (xs.take t ++ [y1]) (t + 1) rfl rfl (H1.out.1.upd ((Upd.refl [] w1).alloc _)) (by simp <;> omega) (srcI_one w1 y1) rfl (by simp <;> omega) (by omega) (by have := H1.out.2.size; simp; omega) ?_; intro g2 c2 w2 hI2 hg2
                     have hu2 : Upd [] wp w2 := (((H1.out.2.alloc (.cells #[.int .i64 y1] 3)).toN (P := fun x => some g1 = some x)).trans (upP_grown hg2)).upd (fun x hx => by cases hx; exact (H1.out.1.own rfl).1)
                     have H2 : Hid (IR w2 wp.heap.size (.slice (some ⟨g2, 0, none⟩) (t + 1) c2) (xs.take t ++ [y1]) ∧ Upd [] wp w2) := ⟨hI2, hu2⟩
                     clear hI2 hg2 hu2)
                  | (at_builtin; refine wp_app2 rfl _ _ rfl wp.heap.size _ _ _ _ (xs.take t ++ [y1]) (xs.drop t) (xs.take t ++ [y1] ++ xs.drop t) (xs.length + 1) rfl rfl H2.out.1 (by simp <;> omega) (srcI_tail (HP.out.1.upd H2.out.2) ht _) rfl (by simp <;> omega) (by simp <;> omega) H2.out.2.size ?_; intro g3 c3 w3 hI3 hg3
                     have hu3 : Upd [] wp w3 := ((H2.out.2.toN (P := fun x => some g2 = some x)).trans (upP_grown hg3)).upd (fun x hx => by cases hx; exact (H2.out.1.own rfl).1)
                     have H3 : Hid (IR w3 wp.heap.size (.slice (some ⟨g3, 0, none⟩) (xs.length + 1) c3) (xs.take t ++ [y1] ++ xs.drop t) ∧ Upd [] wp w3) := ⟨hI3, hu3⟩
                     clear hI3 hg3 hu3)
                  | fail)
                go_roundw
                case rel => exact ⟨k + 1, _, by go_num, hlk, H3.out.1.base HP.out.2.1.size, HP.out.2.1.trans H3.out.2, HP.out.2.2.step hlk HOt.out ht HI.out.1 HI.out.2⟩
                case measure => simp [intOf]; omega
      | false =>
        cases h1 : y1 == a with
        | true =>
          have HOt : Hid (oth a ps[k] = some y0) := by show _ = _; rw [HY.out]; unfold oth; simp only; rw [h0, h1]; rfl
          have HF : Hid (y0 ∉ xs) := HP.out.2.2.fresh HR.out.2.1 hlk HOt.out
          have hxm : xs.length ≤ 1000 := by have := HR.out.2.2.1; omega
          go_wp2_with fail
          go_loopw [9] (fun s9 wx => ∃ t : Nat, s9 = .int .i64 (t : Nat) ∧ t ≤ xs.length ∧ wx = wp ∧ ∀ j (hj : j < xs.length), t ≤ j → y0 < xs[j]) (fun s9 _ => (intOf s9).toNat)
          case atStart => exact ⟨xs.length, rfl, Nat.le_refl _, rfl, fun j hj h => by omega⟩
          case round =>
            obtain ⟨t, rfl, ht, hw, hhi⟩ := hrel
            rw [hw]
            clear hw
            by_cases h0t : t = 0
            · have hd0 : decide ((0 : Int) < (t : Int)) = false := decide_eq_false (by omega)
              have hd0n : ¬ 0 < t := by omega
              have HI : Hid ((∀ j (hj : j < xs.length), j < t → xs[j] < y0) ∧ (∀ j (hj : j < xs.length), t ≤ j → y0 < xs[j])) := ⟨fun j hj h => by omega, hhi⟩
              clear hhi h0t
              rcases HP.out.1.2 with ⟨hnil, hx0⟩ | ⟨gx, cap, cur, hform, _⟩
              · simp only [Value.slice.injEq] at hnil
                obtain ⟨rfl, _, rfl⟩ := hnil
                obtain rfl : xs = [] := List.eq_nil_of_length_eq_zero hx0
                obtain rfl : t = 0 := by simpa using ht
                go_wp2_with (first
                  | (at_builtin; refine wp_app rfl _ _ rfl wp.heap.size _ _ [] ([] : List Int) rfl rfl (ir_lit0 wp) ⟨_, _, rfl⟩ (Or.inl ⟨_, rfl, rfl⟩) (by simp <;> omega) (by simp) ?_; intro g1 c1 w1 hI1 hg1
                     have hu1 : Upd [] wp w1 := (((Upd.refl [] wp).alloc (.cells #[] 3)).toN.trans (upP_grown hg1)).upd (fun x hx => by cases hx; exact Nat.le_refl _)
                     rw [List.nil_append] at hI1
                     have H1 : Hid (IR w1 wp.heap.size (.slice (some ⟨g1, 0, none⟩) (([] : List Int)).length c1) ([] : List Int) ∧ Upd [] wp w1) := ⟨hI1, hu1⟩
                     clear hI1 hg1 hu1)
                  | (at_builtin; refine wp_app rfl _ _ rfl wp.heap.size _ _ ([] : List Int) [y0] rfl rfl (H1.out.1.upd ((Upd.refl [] w1).alloc _)) ⟨_, _, rfl⟩ (srcI_one w1 y0) (by simp <;> omega) (by have := H1.out.2.size; simp; omega) ?_; intro g2 c2 w2 hI2 hg2
                     have hu2 : Upd [] wp w2 := (((H1.out.2.alloc (.cells #[.int .i64 y0] 3)).toN (P := fun x => some g1 = some x)).trans (upP_grown hg2)).upd (fun x hx => by cases hx; exact (H1.out.1.own rfl).1)
                     have H2 : Hid (IR w2 wp.heap.size (.slice (some ⟨g2, 0, none⟩) (([] : List Int) ++ [y0]).length c2) (([] : List Int) ++ [y0]) ∧ Upd [] wp w2) := ⟨hI2, hu2⟩
                     clear hI2 hg2 hu2)
                  | (at_builtin; refine wp_app rfl _ _ rfl wp.heap.size _ _ (([] : List Int) ++ [y0]) ([] : List Int) rfl rfl H2.out.1 ⟨_, _, rfl⟩ (Or.inl ⟨_, rfl, rfl⟩) (by simp <;> omega) H2.out.2.size ?_; intro g3 c3 w3 hI3 hg3
                     have hu3 : Upd [] wp w3 := ((H2.out.2.toN (P := fun x => some g2 = some x)).trans (upP_grown hg3)).upd (fun x hx => by cases hx; exact (H2.out.1.own rfl).1)
                     have H3 : Hid (IR w3 wp.heap.size (.slice (some ⟨g3, 0, none⟩) (([] : List Int) ++ [y0] ++ ([] : List Int)).length c3) (([] : List Int) ++ [y0] ++ ([] : List Int)) ∧ Upd [] wp w3) := ⟨hI3, hu3⟩
                     clear hI3 hg3 hu3)
                  | fail)
                go_roundw
                case rel => exact ⟨k + 1, _, by go_num, hlk, H3.out.1.base HP.out.2.1.size, HP.out.2.1.trans H3.out.2, by have h9 := HP.out.2.2.step hlk HOt.out (t := 0) (Nat.zero_le _) HI.out.1 HI.out.2; exact h9⟩
                case measure => simp [intOf]; omega
              · simp only [Value.slice.injEq] at hform
                obtain ⟨rfl, _, rfl⟩ := hform
                have hcap := HP.out.1.cap
                have htc : t ≤ cx := by omega
                have htc2 : (t : Int) ≤ (cx : Int) := by omega
                by_cases hct : cx = t
                · subst hct
                  have hlx : xs.length - cx = 0 := by omega
                  have hdx : xs.drop cx = [] := List.drop_eq_nil_of_le (by omega)
                  have HDX : Hid (xs.drop cx = []) := hdx
                  clear hdx
                  go_wp2_with (first
                    | (at_builtin; refine wp_app2 rfl _ _ rfl wp.heap.size _ _ _ _ [] (xs.take cx) (xs.take cx) cx rfl rfl (ir_lit0 wp) rfl (srcI_head (HP.out.1.upd ((Upd.refl [] wp).alloc (.cells #[] 3))) ht _) rfl (by simp <;> omega) (by omega) (by simp) ?_; intro g1 c1 w1 hI1 hg1
                       have hu1 : Upd [] wp w1 := (((Upd.refl [] wp).alloc (.cells #[] 3)).toN.trans (upP_grown hg1)).upd (fun x hx => by cases hx; exact Nat.le_refl _)
                       have H1 : Hid (IR w1 wp.heap.size (.slice (some ⟨g1, 0, none⟩) cx c1) (xs.take cx) ∧ Upd [] wp w1) := ⟨hI1, hu1⟩
                       clear hI1 hg1 hu1)
                    | (at_builtin; refine wp_app2 rfl _ _ rfl wp.heap.size _ _ _ _ (xs.take cx) [y0] (xs.take cx ++ [y0]) (cx + 1) rfl rfl (H1.out.1.upd ((Upd.refl [] w1).alloc _)) (by simp <;> omega) (srcI_one w1 y0) rfl (by simp <;> omega) (by omega) (by have := H1.out.2.size; simp; omega) ?_; intro g2 c2 w2 hI2 hg2
                       have hu2 : Upd [] wp w2 := (((H1.out.2.alloc (.cells #[.int .i64 y0] 3)).toN (P := fun x => some g1 = some x)).trans (upP_grown hg2)).upd (fun x hx => by cases hx; exact (H1.out.1.own rfl).1)
                       have H2 : Hid (IR w2 wp.heap.size (.slice (some ⟨g2, 0, none⟩) (cx + 1) c2) (xs.take cx ++ [y0]) ∧ Upd [] wp w2) := ⟨hI2, hu2⟩
                       clear hI2 hg2 hu2)
                    | (at_builtin; refine wp_app2 rfl _ _ rfl wp.heap.size _ _ _ _ (xs.take cx ++ [y0]) (xs.drop cx) (xs.take cx ++ [y0] ++ xs.drop cx) (xs.length + 1) rfl rfl H2.out.1 (by simp <;> omega) (srcI_empty _ _ _ _ _ (by omega) HDX.out) rfl (by simp <;> omega) (by simp <;> omega) H2.out.2.size ?_; intro g3 c3 w3 hI3 hg3
                       have hu3 : Upd [] wp w3 := ((H2.out.2.toN (P := fun x => some g2 = some x)).trans (upP_grown hg3)).upd (fun x hx => by cases hx; exact (H2.out.1.own rfl).1)
                       have H3 : Hid (IR w3 wp.heap.size (.slice (some ⟨g3, 0, none⟩) (xs.length + 1) c3) (xs.take cx ++ [y0] ++ xs.drop cx) ∧ Upd [] wp w3) := ⟨hI3, hu3⟩
                       clear hI3 hg3 hu3)
                    | fail)
                  go_roundw
                  case rel => exact ⟨k + 1, _, by go_num, hlk, H3.out.1.base HP.out.2.1.size, HP.out.2.1.trans H3.out.2, HP.out.2.2.step hlk HOt.out ht HI.out.1 HI.out.2⟩
                  case measure => simp [intOf]; omega
                · go_wp2_with (first
                    | (at_builtin; refine wp_app2 rfl _ _ rfl wp.heap.size _ _ _ _ [] (xs.take t) (xs.take t) t rfl rfl (ir_lit0 wp) rfl (srcI_head (HP.out.1.upd ((Upd.refl [] wp).alloc (.cells #[] 3))) ht _) rfl (by simp <;> omega) (by omega) (by simp) ?_; intro g1 c1 w1 hI1 hg1
                       have hu1 : Upd [] wp w1 := (((Upd.refl [] wp).alloc (.cells #[] 3)).toN.trans (upP_grown hg1)).upd (fun x hx => by cases hx; exact Nat.le_refl _)
                       have H1 : Hid (IR w1 wp.heap.size (.slice (some ⟨g1, 0, none⟩) t c1) (xs.take t) ∧ Upd [] wp w1) := ⟨hI1, hu1⟩
                       clear hI1 hg1 hu1)
                    | (at_builtin; refine wp_app2 rfl _ _ rfl wp.heap.size _ _ _ _ (xs.take t) [y0] (xs.take t ++ [y0]) (t + 1) rfl rfl (H1.out.1.upd ((Upd.refl [] w1).alloc _)) (by simp <;> omega) (srcI_one w1 y0) rfl (by simp <;> omega) (by omega) (by have := H1.out.2.size; simp; omega) ?_; intro g2 c2 w2 hI2 hg2
                       have hu2 : Upd [] wp w2 := (((H1.out.2.alloc (.cells #[.int .i64 y0] 3)).toN (P := fun x => some g1 = some x)).trans (upP_grown hg2)).upd (fun x hx => by cases hx; exact (H1.out.1.own rfl).1)
                       have H2 : Hid (IR w2 wp.heap.size (.slice (some ⟨g2, 0, none⟩) (t + 1) c2) (xs.take t ++ [y0]) ∧ Upd [] wp w2) := ⟨hI2, hu2⟩
                       clear hI2 hg2 hu2)
                    | (at_builtin; refine wp_app2 rfl _ _ rfl wp.heap.size _ _ _ _ (xs.take t ++ [y0]) (xs.drop t) (xs.take t ++ [y0] ++ xs.drop t) (xs.length + 1) rfl rfl H2.out.1 (by simp <;> omega) (srcI_tail (HP.out.1.upd H2.out.2) ht _) rfl (by simp <;> omega) (by simp <;> omega) H2.out.2.size ?_; intro g3 c3 w3 hI3 hg3
                       have hu3 : Upd [] wp w3 := ((H2.out.2.toN (P := fun x => some g2 = some x)).trans (upP_grown hg3)).upd (fun x hx => by cases hx; exact (H2.out.1.own rfl).1)
                       have H3 : Hid (IR w3 wp.heap.size (.slice (some ⟨g3, 0, none⟩) (xs.length + 1) c3) (xs.take t ++ [y0] ++ xs.drop t) ∧ Upd [] wp w3) := ⟨hI3, hu3⟩
                       clear hI3 hg3 hu3)
                    | fail)
                  go_roundw
                  case rel => exact ⟨k + 1, _, by go_num, hlk, H3.out.1.base HP.out.2.1.size, HP.out.2.1.trans H3.out.2, HP.out.2.2.step hlk HOt.out ht HI.out.1 HI.out.2⟩
                  case measure => simp [intOf]; omega
            · obtain ⟨t1, ht1⟩ : ∃ t1, t = t1 + 1 := ⟨t - 1, by omega⟩
              have HT : Hid (t = t1 + 1) := ht1
              have jt : 0 < t := by omega
              have jt1 : (t1 : Int) < (xs.length : Int) := by omega
              obtain ⟨gx, c8, e8, dz⟩ := HP.out.1.cell (k := t1) (by omega)
              simp only [Value.slice.injEq] at e8
              obtain ⟨rfl, _, rfl⟩ := e8
              obtain ⟨z, hz⟩ : ∃ z, z = xs[t1] := ⟨_, rfl⟩
              rw [← hz] at dz
              have e4 : (t : Int) - 1 = (t1 : Int) := by omega
              have e5 : IntKind.i64.wrap (t1 : Int) = (t1 : Int) := IntWalk.i64_in _ ⟨by omega, by omega⟩
              have hzo : z ≠ y0 := fun e => HF.out (by rw [← e, hz]; exact List.getElem_mem _)
              cases hzd : decide (y0 < z) with
              | true =>
                have hzo2 : y0 < z := by simpa using hzd
                have HI : Hid (∀ j (hj : j < xs.length), t1 ≤ j → y0 < xs[j]) := fun j hj h => by
                  rcases Nat.lt_or_ge t1 j with h5 | h5
                  · exact hhi j hj (by omega)
                  · obtain rfl : j = t1 := by omega
                    rw [← hz]
                    exact hzo2
                clear hhi hz ht1 h0t
                go_wp2_with fail
                go_roundw
                case rel => exact ⟨t1, by go_num, by have := HT.out; omega, trivial, HI.out⟩
                case measure => have := HT.out; simp [intOf]; omega
              | false =>
                have HI : Hid ((∀ j (hj : j < xs.length), j < t → xs[j] < y0) ∧ (∀ j (hj : j < xs.length), t ≤ j → y0 < xs[j])) := by
                  refine ⟨fun j hj h => ?_, hhi⟩
                  have hle : z ≤ y0 := by have : ¬ y0 < z := by simpa using hzd
                                          omega
                  rcases Nat.lt_or_ge j t1 with h5 | h5
                  · have := List.pairwise_iff_getElem.1 HP.out.2.2.1 j t1 hj (by omega) h5
                    rw [← hz] at this
                    omega
                  · obtain rfl : j = t1 := by omega
                    rw [← hz]
                    omega
                clear hhi hz ht1 h0t hzo
                have hcap := HP.out.1.cap
                have htc : t ≤ cx := by omega
                have htc2 : (t : Int) ≤ (cx : Int) := by omega
                by_cases hct : cx = t
                · subst hct
                  have hlx : xs.length - cx = 0 := by omega
                  have hdx : xs.drop cx = [] := List.drop_eq_nil_of_le (by omega)
                  have HDX : Hid (xs.drop cx = []) := hdx
                  clear hdx
                  go_wp2_with (first
                    | (at_builtin; refine wp_app2 rfl _ _ rfl wp.heap.size _ _ _ _ [] (xs.take cx) (xs.take cx) cx rfl rfl (ir_lit0 wp) rfl (srcI_head (HP.out.1.upd ((Upd.refl [] wp).alloc (.cells #[] 3))) ht _) rfl (by simp <;> omega) (by omega) (by simp) ?_; intro g1 c1 w1 hI1 hg1
                       have hu1 : Upd [] wp w1 := (((Upd.refl [] wp).alloc (.cells #[] 3)).toN.trans (upP_grown hg1)).upd (fun x hx => by cases hx; exact Nat.le_refl _)
                       have H1 : Hid (IR w1 wp.heap.size (.slice (some ⟨g1, 0, none⟩) cx c1) (xs.take cx) ∧ Upd [] wp w1) := ⟨hI1, hu1⟩
                       clear hI1 hg1 hu1)
                    | (at_builtin; refine wp_app2 rfl _ _ rfl wp.heap.size _ _ _ _ (xs.take cx) [y0] (xs.take cx ++ [y0]) (cx + 1) rfl rfl (H1.out.1.upd ((Upd.refl [] w1).alloc _)) (by simp <;> omega) (srcI_one w1 y0) rfl (by simp <;> omega) (by omega) (by have := H1.out.2.size; simp; omega) ?_; intro g2 c2 w2 hI2 hg2
                       have hu2 : Upd [] wp w2 := (((H1.out.2.alloc (.cells #[.int .i64 y0] 3)).toN (P := fun x => some g1 = some x)).trans (upP_grown hg2)).upd (fun x hx => by cases hx; exact (H1.out.1.own rfl).1)
                       have H2 : Hid (IR w2 wp.heap.size (.slice (some ⟨g2, 0, none⟩) (cx + 1) c2) (xs.take cx ++ [y0]) ∧ Upd [] wp w2) := ⟨hI2, hu2⟩
                       clear hI2 hg2 hu2)
                    | (at_builtin; refine wp_app2 rfl _ _ rfl wp.heap.size _ _ _ _ (xs.take cx ++ [y0]) (xs.drop cx) (xs.take cx ++ [y0] ++ xs.drop cx) (xs.length + 1) rfl rfl H2.out.1 (by simp <;> omega) (srcI_empty _ _ _ _ _ (by omega) HDX.out) rfl (by simp <;> omega) (by simp <;> omega) H2.out.2.size ?_; intro g3 c3 w3 hI3 hg3
                       have hu3 : Upd [] wp w3 := ((H2.out.2.toN (P := fun x => some g2 = some x)).trans (upP_grown hg3)).upd (fun x hx => by cases hx; exact (H2.out.1.own rfl).1)
                       have H3 : Hid (IR w3 wp.heap.size (.slice (some ⟨g3, 0, none⟩) (xs.length + 1) c3) (xs.take cx ++ [y0] ++ xs.drop cx) ∧ Upd [] wp w3) := ⟨hI3, hu3⟩
                       clear hI3 hg3 hu3)
                    | fail)
                  go_roundw
                  case rel => exact ⟨k + 1, _, by go_num, hlk, H3.out.1.base HP.out.2.1.size, HP.out.2.1.trans H3.out.2, HP.out.2.2.step hlk HOt.out ht HI.out.1 HI.out.2⟩
                  case measure => simp [intOf]; omega
                · go_wp2_with (first
                    | (at_builtin; refine wp_app2 rfl _ _ rfl wp.heap.size _ _ _ _ [] (xs.take t) (xs.take t) t rfl rfl (ir_lit0 wp) rfl (srcI_head (HP.out.1.upd ((Upd.refl [] wp).alloc (.cells #[] 3))) ht _) rfl (by simp <;> omega) (by omega) (by simp) ?_; intro g1 c1 w1 hI1 hg1
                       have hu1 : Upd [] wp w1 := (((Upd.refl [] wp).alloc (.cells #[] 3)).toN.trans (upP_grown hg1)).upd (fun x hx => by cases hx; exact Nat.le_refl _)
                       have H1 : Hid (IR w1 wp.heap.size (.slice (some ⟨g1, 0, none⟩) t c1) (xs.take t) ∧ Upd [] wp w1) := ⟨hI1, hu1⟩
                       clear hI1 hg1 hu1)
                    | (at_builtin; refine wp_app2 rfl _ _ rfl wp.heap.size _ _ _ _ (xs.take t) [y0] (xs.take t ++ [y0]) (t + 1) rfl rfl (H1.out.1.upd ((Upd.refl [] w1).alloc _)) (by simp <;> omega) (srcI_one w1 y0) rfl (by simp <;> omega) (by omega) (by have := H1.out.2.size; simp; omega) ?_; intro g2 c2 w2 hI2 hg2
                       have hu2 : Upd [] wp w2 := (((H1.out.2.alloc (.cells #[.int .i64 y0] 3)).toN (P := fun x => some g1 = some x)).trans (upP_grown hg2)).upd (fun x hx => by cases hx; exact (H1.out.1.own rfl).1)
                       have H2 : Hid (IR w2 wp.heap.size (.slice (some ⟨g2, 0, none⟩) (t + 1) c2) (xs.take t ++ [y0]) ∧ Upd [] wp w2) := ⟨hI2, hu2⟩
                       clear hI2 hg2 hu2)
                    | (at_builtin; refine wp_app2 rfl _ _ rfl wp.heap.size _ _ _ _ (xs.take t ++ [y0]) (xs.drop t) (xs.take t ++ [y0] ++ xs.drop t) (xs.length + 1) rfl rfl H2.out.1 (by simp <;> omega) (srcI_tail (HP.out.1.upd H2.out.2) ht _) rfl (by simp <;> omega) (by simp <;> omega) H2.out.2.size ?_; intro g3 c3 w3 hI3 hg3
                       have hu3 : Upd [] wp w3 := ((H2.out.2.toN (P := fun x => some g2 = some x)).trans (upP_grown hg3)).upd (fun x hx => by cases hx; exact (H2.out.1.own rfl).1)
                       have H3 : Hid (IR w3 wp.heap.size (.slice (some ⟨g3, 0, none⟩) (xs.length + 1) c3) (xs.take t ++ [y0] ++ xs.drop t) ∧ Upd [] wp w3) := ⟨hI3, hu3⟩
                       clear hI3 hg3 hu3)
                    | fail)
                  go_roundw
                  case rel => exact ⟨k + 1, _, by go_num, hlk, H3.out.1.base HP.out.2.1.size, HP.out.2.1.trans H3.out.2, HP.out.2.2.step hlk HOt.out ht HI.out.1 HI.out.2⟩
                  case measure => simp [intOf]; omega
        | false =>
          have HOt : Hid (oth a ps[k] = none) := by show _ = _; rw [HY.out]; unfold oth; simp only; rw [h0, h1]; rfl
          go_wp2_with fail
          go_roundw
          case rel => exact ⟨k + 1, xs, by go_num, hlk, HP.out.1, HP.out.2.1, HP.out.2.2.skip hlk HOt.out⟩
          case measure => simp [intOf]; omega
    · obtain rfl : k = ps.length := by omega
      go_wp2_with fail
      go_ret
      exact ⟨_, xs, rfl, HO.out.1, HO.out.2.2, HO.out.2.1⟩

end Go.Proofs.YtofcniodobjopaaGreat
