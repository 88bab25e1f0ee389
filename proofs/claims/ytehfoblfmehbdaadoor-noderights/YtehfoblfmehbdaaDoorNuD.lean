/- The reference's module. -/
import Derived.Test.YtehfoblfmehbdaaDoorNuM
namespace Go.Proofs.YtehfoblfmehbdaaDoor
open Go.RowKit

/-- The first pattern block of the first clause. -/
theorem first_of {w : World} {d : Nat} {a : Option Addr} {K : List Nd} (h : RowN (NIn w d) w a K) (hc : (allF (clB (-1)) 0 K && decide (0 < K.length)) = true) :
    ∃ b1 o1 b2 o2 c2 a3 n3 c3, a = some ⟨b1, o1, none⟩ ∧ (n3 = parB K ∧ 0 < K.length) ∧ (∀ W, Upd [] w W → W.cell? ⟨b1, o1 + 4, none⟩ = some (.slice (some ⟨b2, o2, none⟩) 3 c2)) ∧ (∀ W, Upd [] w W → W.cell? ⟨b2, o2 + 4, none⟩ = some (.slice a3 n3 c3)) := by
  rw [Bool.and_eq_true] at hc
  have h0 := of_decide_eq_true hc.2
  have hcl : clB (-1) K[0] = true := by
    have h1 := hc.1
    unfold allF at h1
    exact List.all_eq_true.1 h1 _ (by simp)
  obtain ⟨b1, o1, rfl, hb1, cs1, hl1, hc1, hin1⟩ := h.at0 h0
  obtain ⟨t0, ht0⟩ : ∃ t0, K[0] = t0 := ⟨_, rfl⟩
  rw [ht0] at hcl hin1
  obtain ⟨k1, s1, n1, p1, K1⟩ := t0
  rw [clB, Bool.and_eq_true, Bool.and_eq_true] at hcl
  match K1, hcl.2.2, hin1, ht0 with
  | [pa, pg, pb], _, hin1, ht0 =>
    cases d with
    | zero => exact hin1.elim
    | succ d =>
      obtain ⟨a2, c2, rfl, hK2, -⟩ := hin1
      obtain ⟨b2, o2, rfl, hb2, cs2, hl2, hc2, hin2⟩ := hK2.at0 (by simp)
      obtain ⟨k3, s3, n3, p3, K3⟩ := pa
      cases d with
      | zero => exact hin2.elim
      | succ d =>
        obtain ⟨a3, c3, rfl, -, -⟩ := hin2
        refine ⟨b1, o1, b2, o2, c2, a3, K3.length, c3, rfl, ⟨?_, h0⟩, fun W hW => ?_, fun W hW => ?_⟩
        · match K, h0, ht0 with
          | q :: r, _, ht0 =>
            simp only [List.getElem_cons_zero] at ht0
            subst ht0
            rfl
        · rw [hW.cell (p := ⟨b1, o1 + 4, none⟩) hb1 (by simp)]; exact hc1 4 (by omega)
        · rw [hW.cell (p := ⟨b2, o2 + 4, none⟩) hb2 (by simp)]; exact hc2 4 (by omega)
theorem all_take (K : List Nd) (i : Nat) (hi : i < K.length) : (K.take (i + 1)).all fnB = ((K.take i).all fnB && fnB K[i]) := by
  rw [List.take_succ_eq_append_getElem hi, List.all_append]
  simp
theorem all_no (K : List Nd) (i : Nat) (hi : i < K.length) (h : fnB K[i] = false) : K.all fnB = false := by
  cases hh : K.all fnB with
  | false => rfl
  | true => rw [List.all_eq_true.1 hh _ (List.getElem_mem hi)] at h; cases h

set_option maxHeartbeats 8000000 in
set_option maxRecDepth 100000 in
theorem rmodule (d : Nat) (w : World) (cs : List Value) (t : Nd) (h : NIn w (d + 1) cs t) (hz : nsz t ≤ 20000) (hx : nxz t ≤ 1000000) :
    Calls Tryd.prog 26 #[.agg cs.toArray] w fun e w' => e = .returned (.bool (isB 1 t)) ∧ Upd [] w w' := by
  obtain ⟨k, s, num, pos, K⟩ := t
  obtain ⟨a, c, rfl, hK, -⟩ := h
  simp only [nsz] at hz
  simp only [nxz] at hx
  have hl : K.length ≤ 20000 := Nat.le_trans (nszs_len K) hz
  have hx1 : nxzs K ≤ 1000000 := by omega
  obtain ⟨R, hR⟩ : ∃ R, R = isB 1 (.mk k s num pos K) := ⟨_, rfl⟩
  rw [← hR]
  have HRR : Hid (R = (k == 22 && (plB s num pos && K.all fnB))) := by show _ = _; rw [hR, is1]
  have HK : Hid (RowN (NIn w d) w a K ∧ nszs K ≤ 20000 ∧ nxzs K ≤ 1000000) := ⟨hK, hz, hx1⟩
  have HTB0 : Hid (Tb (w.alloc (.cells #[.int .u8 k, .string s, .int .i64 num, .int .i64 pos, .slice a K.length c] 25)) w.heap.size #[.int .u8 k, .string s, .int .i64 num, .int .i64 pos, .slice a K.length c]) := Tb.new _ _ _ rfl
  have HU0 : Hid (Upd [] w (w.alloc (.cells #[.int .u8 k, .string s, .int .i64 num, .int .i64 pos, .slice a K.length c] 25))) := (Upd.refl [] w).alloc _
  clear hK hz hx hx1 hR
  go_enter Tryd.func26, Tryd.ntmps26
  cases hk : (k == 22) with
  | false =>
    have hk2 : (k != 22) = true := by rw [bne, hk]; rfl
    go_wp2_with fail
    go_ret
    exact ⟨ret_boolN (by rw [HRR.out, hk]; rfl), HU0.out⟩
  | true =>
    have hk2 : (k != 22) = false := by rw [bne, hk]; rfl
    go_wp2_with (first | (refine load_G _ _ rfl _ _ rfl HTB0.out rfl rfl ?_) | fail)
    refine Calls.mono (rplain _ k s num pos _) ?_
    obtain ⟨pb, hpb⟩ : ∃ pb, pb = plB s num pos := ⟨_, rfl⟩
    rw [← hpb]
    have HP : Hid (pb = plB s num pos) := hpb
    rintro e w1 ⟨rfl, hu⟩
    have U1 : Hid (Upd [] w w1) := HU0.out.trans hu
    have T1 : Hid (Tb w1 w.heap.size #[.int .u8 k, .string s, .int .i64 num, .int .i64 pos, .slice a K.length c]) := HTB0.out.mono hu (by simp)
    clear hu HU0 HTB0 hpb
    cases pb with
    | false =>
      go_wp2_with fail
      go_ret
      exact ⟨ret_boolN (by rw [HRR.out, hk, ← HP.out]; rfl), U1.out⟩
    | true =>
      go_wp2_with fail
      go_loopw [3] (fun i wr => ∃ j : Nat, j ≤ K.length ∧ i = .int .i64 j ∧ (K.take j).all fnB = true ∧ Upd [] w wr ∧ Tb wr w.heap.size #[.int .u8 k, .string s, .int .i64 num, .int .i64 pos, .slice a K.length c]) (fun i _ => K.length - (intOf i).toNat)
      case atStart => exact ⟨0, Nat.zero_le _, rfl, rfl, U1.out, T1.out⟩
      case round =>
        obtain ⟨i, hi, rfl, hth, hU, htb⟩ := hrel
        have HTH : Hid ((K.take i).all fnB = true) := hth
        have y4 : wr.cell? ⟨w.heap.size, 4, none⟩ = some (.slice a K.length c) := htb.cell 4
        have HU : Hid (Upd [] w wr ∧ Tb wr w.heap.size #[.int .u8 k, .string s, .int .i64 num, .int .i64 pos, .slice a K.length c]) := ⟨hU, htb⟩
        clear hU htb hth
        by_cases hlt2 : i < K.length
        · have i1 : (i : Int) < (K.length : Int) := by omega
          rcases HK.out.1 with h0 | ⟨b, o, rfl, hlt, hc⟩
          · rw [h0] at hlt2; simp at hlt2
          · obtain ⟨cs, hl5, hcell, hin⟩ := hc i hlt2
            have hzi : nsz K[i] ≤ 20000 := Nat.le_trans (nszs_get K i hlt2) HK.out.2.1
            have hxi : nxz K[i] ≤ 1000000 := Nat.le_trans (nxzs_get K i hlt2) HK.out.2.2
            obtain ⟨f, hf⟩ : ∃ f, K[i] = f := ⟨_, rfl⟩
            rw [hf] at hzi hxi hin
            obtain ⟨fk, fs, fn, fp, FK⟩ := f
            have hKi : Hid (K[i] = .mk fk fs fn fp FK) := hf
            cases d with
            | zero => exact hin.elim
            | succ d' =>
            obtain ⟨fa, fc, rfl, hFK, -⟩ := hin
            simp only [nsz] at hzi
            simp only [nxz] at hxi
            have hfl : FK.length ≤ 20000 := Nat.le_trans (nszs_len FK) hzi
            have hfs : fs.size ≤ 1000000 := by omega
            have HF : Hid (RowN (NIn w d') w fa FK ∧ nszs FK ≤ 20000 ∧ nxzs FK ≤ 1000000) := ⟨hFK, hzi, by omega⟩
            have x0 : wr.cell? ⟨b, o + i * 5, none⟩ = some (.int .u8 fk) := (HU.out.1.cell (p := ⟨b, o + (i * 5 + 0), none⟩) hlt (by simp)).trans (hcell 0 (by omega))
            have x1 : wr.cell? ⟨b, o + i * 5 + 1, none⟩ = some (.string fs) := (HU.out.1.cell (p := ⟨b, o + (i * 5 + 1), none⟩) hlt (by simp)).trans (hcell 1 (by omega))
            have x2 : wr.cell? ⟨b, o + i * 5 + 2, none⟩ = some (.int .i64 fn) := (HU.out.1.cell (p := ⟨b, o + (i * 5 + 2), none⟩) hlt (by simp)).trans (hcell 2 (by omega))
            have x3 : wr.cell? ⟨b, o + i * 5 + 3, none⟩ = some (.int .i64 fp) := (HU.out.1.cell (p := ⟨b, o + (i * 5 + 3), none⟩) hlt (by simp)).trans (hcell 3 (by omega))
            have x4 : wr.cell? ⟨b, o + i * 5 + 4, none⟩ = some (.slice fa FK.length fc) := (HU.out.1.cell (p := ⟨b, o + (i * 5 + 4), none⟩) hlt (by simp)).trans (hcell 4 (by omega))
            have HX : Hid (Tb (wr.alloc (.cells #[.int .u8 0, .string ⟨#[]⟩, .int .i64 0, .int .i64 0, .slice none 0 0] 25)) wr.heap.size #[.int .u8 0, .string ⟨#[]⟩, .int .i64 0, .int .i64 0, .slice none 0 0] ∧ Upd [] wr (wr.alloc (.cells #[.int .u8 0, .string ⟨#[]⟩, .int .i64 0, .int .i64 0, .slice none 0 0] 25))) := ⟨Tb.new _ _ _ rfl, (Upd.refl [] _).alloc _⟩
            clear hc hcell hf hFK hzi hxi
            have hone : Hid (Array.all (#[.int .u8 fk, .string fs, .int .i64 fn, .int .i64 fp, .slice fa FK.length fc] : Array Value) (fun v => v.oneCell') = true) := by show _ = _; simp [Value.oneCell']
            go_wp2_with (first | (refine store_T _ rfl _ _ rfl _ #[.int .u8 fk, .string fs, .int .i64 fn, .int .i64 fp, .slice fa FK.length fc] _ rfl rfl HX.out.1 rfl rfl hone.out ?_; intro w3 hT3 hU3) | fail)
            obtain ⟨x, hx⟩ : ∃ x, x = wr.heap.size := ⟨_, rfl⟩
            have H3 : Hid (Upd [] w w3 ∧ Tb w3 w.heap.size #[.int .u8 k, .string s, .int .i64 num, .int .i64 pos, .slice (some ⟨b, o, none⟩) K.length c]) := ⟨(HU.out.1.trans HX.out.2).then hU3 (fun y hy => Or.inl (by simp only [List.mem_singleton] at hy; have := HU.out.1.size; omega)), (HU.out.2.mono HX.out.2 (by simp)).mono hU3 (by simp only [List.mem_singleton]; have := HU.out.2.lt; omega)⟩
            rw [← hx] at hT3 ⊢
            have x1 : Tb w3 x #[.int .u8 fk, .string fs, .int .i64 fn, .int .i64 fp, .slice fa FK.length fc] := hT3
            have hcl0 := fun W (hW : Upd [] w3 W) => rclauses d' (ItS_all d') W fa fc 0 (-1) FK (by omega) (HF.out.1.imp (H3.out.1.trans hW) (NIn.mono (H3.out.1.trans hW) d')) HF.out.2.1 HF.out.2.2
            obtain ⟨cb, hcb⟩ : ∃ cb, cb = (allF (clB (-1)) 0 FK && decide (0 < FK.length)) := ⟨_, rfl⟩
            rw [← hcb] at hcl0
            have HCL : Hid (∀ W, Upd [] w3 W → Calls Tryd.prog 51 #[.slice fa FK.length fc, .int .i64 0, .int .i64 (-1)] W fun e w' => e = .returned (.bool cb) ∧ Upd [] W w') := hcl0
            have HCB : Hid (cb = (allF (clB (-1)) 0 FK && decide (0 < FK.length))) := hcb
            clear hT3 hU3 hx HX hcl0 hcb x0 x2 x3 x4 y4
            cases hf1 : (fk == 21)
            · have hf1' : (fk != 21) = true := by rw [bne, hf1]; rfl
              refine wp_region_held_drew (S := fun W => Upd [] w3 W) (by kernel_rfl) (Upd.refl [] w3).drew (fun hS => ?_)
              generalize World.drew _ = w4 at hS ⊢
              refine wpAnyH_take (i := 0) (v := .pointer (some ⟨x, 0, none⟩)) rfl (by kernel_rfl) (by kernel_rfl) (by kernel_rfl) (fun _ _ _ h => h) (Or.inl ⟨by rfl, ?_⟩) hS ?_
              · intro W hW; have hx := x1.mono hW (by simp); have e0 : W.cell? ⟨x, 0, none⟩ = some (.int .u8 fk) := hx.cell 0; have e1 : W.cell? ⟨x, 1, none⟩ = some (.string fs) := hx.cell 1; have e2 : W.cell? ⟨x, 2, none⟩ = some (.int .i64 fn) := hx.cell 2; have e3 : W.cell? ⟨x, 3, none⟩ = some (.int .i64 fp) := hx.cell 3; have e4 : W.cell? ⟨x, 4, none⟩ = some (.slice fa FK.length fc) := hx.cell 4; go_simp
              refine wpAnyH_take (i := 1) (v := .int .u8 fk) rfl (by kernel_rfl) (by kernel_rfl) (by kernel_rfl) (fun _ _ _ h => h) (Or.inl ⟨by rfl, ?_⟩) hS ?_
              · intro W hW; have hx := x1.mono hW (by simp); have e0 : W.cell? ⟨x, 0, none⟩ = some (.int .u8 fk) := hx.cell 0; have e1 : W.cell? ⟨x, 1, none⟩ = some (.string fs) := hx.cell 1; have e2 : W.cell? ⟨x, 2, none⟩ = some (.int .i64 fn) := hx.cell 2; have e3 : W.cell? ⟨x, 3, none⟩ = some (.int .i64 fp) := hx.cell 3; have e4 : W.cell? ⟨x, 4, none⟩ = some (.slice fa FK.length fc) := hx.cell 4; go_simp
              refine wpAnyH_take (i := 2) (v := .bool true) rfl (by kernel_rfl) (by kernel_rfl) (by kernel_rfl) (fun _ _ _ h => h) (Or.inl ⟨by rfl, ?_⟩) hS ?_
              · intro W hW; have hx := x1.mono hW (by simp); have e0 : W.cell? ⟨x, 0, none⟩ = some (.int .u8 fk) := hx.cell 0; have e1 : W.cell? ⟨x, 1, none⟩ = some (.string fs) := hx.cell 1; have e2 : W.cell? ⟨x, 2, none⟩ = some (.int .i64 fn) := hx.cell 2; have e3 : W.cell? ⟨x, 3, none⟩ = some (.int .i64 fp) := hx.cell 3; have e4 : W.cell? ⟨x, 4, none⟩ = some (.slice fa FK.length fc) := hx.cell 4; go_simp
              refine wpAnyH_take (i := 3) (v := .bool true) rfl (by kernel_rfl) (by kernel_rfl) (by kernel_rfl) (fun _ _ _ h => h) (Or.inl ⟨by rfl, ?_⟩) hS ?_
              · intro W hW; have hx := x1.mono hW (by simp); have e0 : W.cell? ⟨x, 0, none⟩ = some (.int .u8 fk) := hx.cell 0; have e1 : W.cell? ⟨x, 1, none⟩ = some (.string fs) := hx.cell 1; have e2 : W.cell? ⟨x, 2, none⟩ = some (.int .i64 fn) := hx.cell 2; have e3 : W.cell? ⟨x, 3, none⟩ = some (.int .i64 fp) := hx.cell 3; have e4 : W.cell? ⟨x, 4, none⟩ = some (.slice fa FK.length fc) := hx.cell 4; go_simp
              simp only [Act.put, List.getElem_toArray, List.getElem_cons_succ, List.getElem_cons_zero, List.setIfInBounds_toArray, List.set_cons_succ, List.set_cons_zero]
              refine wpAnyH_take (i := 4) (v := undef) rfl (by kernel_rfl) (by kernel_rfl) (by kernel_rfl) (fun _ _ _ h => h) (Or.inr ⟨by rfl, rfl⟩) hS ?_
              refine wpAnyH_take (i := 5) (v := undef) rfl (by kernel_rfl) (by kernel_rfl) (by kernel_rfl) (fun _ _ _ h => h) (Or.inr ⟨by rfl, rfl⟩) hS ?_
              refine wpAnyH_take (i := 6) (v := undef) rfl (by kernel_rfl) (by kernel_rfl) (by kernel_rfl) (fun _ _ _ h => h) (Or.inr ⟨by rfl, rfl⟩) hS ?_
              refine wpAnyH_take (i := 7) (v := .bool true) rfl (by kernel_rfl) (by kernel_rfl) (by kernel_rfl) (fun _ _ _ h => h) (Or.inl ⟨by rfl, ?_⟩) hS ?_
              · intro W hW; have hx := x1.mono hW (by simp); have e0 : W.cell? ⟨x, 0, none⟩ = some (.int .u8 fk) := hx.cell 0; have e1 : W.cell? ⟨x, 1, none⟩ = some (.string fs) := hx.cell 1; have e2 : W.cell? ⟨x, 2, none⟩ = some (.int .i64 fn) := hx.cell 2; have e3 : W.cell? ⟨x, 3, none⟩ = some (.int .i64 fp) := hx.cell 3; have e4 : W.cell? ⟨x, 4, none⟩ = some (.slice fa FK.length fc) := hx.cell 4; go_simp
              refine wpAnyH_take (i := 8) (v := .bool true) rfl (by kernel_rfl) (by kernel_rfl) (by kernel_rfl) (fun _ _ _ h => h) (Or.inl ⟨by rfl, ?_⟩) hS ?_
              · intro W hW; have hx := x1.mono hW (by simp); have e0 : W.cell? ⟨x, 0, none⟩ = some (.int .u8 fk) := hx.cell 0; have e1 : W.cell? ⟨x, 1, none⟩ = some (.string fs) := hx.cell 1; have e2 : W.cell? ⟨x, 2, none⟩ = some (.int .i64 fn) := hx.cell 2; have e3 : W.cell? ⟨x, 3, none⟩ = some (.int .i64 fp) := hx.cell 3; have e4 : W.cell? ⟨x, 4, none⟩ = some (.slice fa FK.length fc) := hx.cell 4; go_simp
              simp only [Act.put, List.getElem_toArray, List.getElem_cons_succ, List.getElem_cons_zero, List.setIfInBounds_toArray, List.set_cons_succ, List.set_cons_zero]
              refine wpAnyH_take (i := 9) (v := undef) rfl (by kernel_rfl) (by kernel_rfl) (by kernel_rfl) (fun _ _ _ h => h) (Or.inr ⟨by rfl, rfl⟩) hS ?_
              refine wpAnyH_take (i := 10) (v := undef) rfl (by kernel_rfl) (by kernel_rfl) (by kernel_rfl) (fun _ _ _ h => h) (Or.inr ⟨by rfl, rfl⟩) hS ?_
              refine wpAnyH_take (i := 11) (v := undef) rfl (by kernel_rfl) (by kernel_rfl) (by kernel_rfl) (fun _ _ _ h => h) (Or.inr ⟨by rfl, rfl⟩) hS ?_
              refine wpAnyH_take (i := 12) (v := undef) rfl (by kernel_rfl) (by kernel_rfl) (by kernel_rfl) (fun _ _ _ h => h) (Or.inr ⟨by rfl, rfl⟩) hS ?_
              simp only [Act.put, List.getElem_toArray, List.getElem_cons_succ, List.getElem_cons_zero, List.setIfInBounds_toArray, List.set_cons_succ, List.set_cons_zero]
              refine wpAnyH_take (i := 13) (v := .bool true) rfl (by kernel_rfl) (by kernel_rfl) (by kernel_rfl) (fun _ _ _ h => h) (Or.inl ⟨by rfl, ?_⟩) hS ?_
              · intro W hW; have hx := x1.mono hW (by simp); have e0 : W.cell? ⟨x, 0, none⟩ = some (.int .u8 fk) := hx.cell 0; have e1 : W.cell? ⟨x, 1, none⟩ = some (.string fs) := hx.cell 1; have e2 : W.cell? ⟨x, 2, none⟩ = some (.int .i64 fn) := hx.cell 2; have e3 : W.cell? ⟨x, 3, none⟩ = some (.int .i64 fp) := hx.cell 3; have e4 : W.cell? ⟨x, 4, none⟩ = some (.slice fa FK.length fc) := hx.cell 4; go_simp
              refine wpAnyH_take (i := 14) (v := .bool true) rfl (by kernel_rfl) (by kernel_rfl) (by kernel_rfl) (fun _ _ _ h => h) (Or.inl ⟨by rfl, ?_⟩) hS ?_
              · intro W hW; have hx := x1.mono hW (by simp); have e0 : W.cell? ⟨x, 0, none⟩ = some (.int .u8 fk) := hx.cell 0; have e1 : W.cell? ⟨x, 1, none⟩ = some (.string fs) := hx.cell 1; have e2 : W.cell? ⟨x, 2, none⟩ = some (.int .i64 fn) := hx.cell 2; have e3 : W.cell? ⟨x, 3, none⟩ = some (.int .i64 fp) := hx.cell 3; have e4 : W.cell? ⟨x, 4, none⟩ = some (.slice fa FK.length fc) := hx.cell 4; go_simp
              simp only [Act.put, List.getElem_toArray, List.getElem_cons_succ, List.getElem_cons_zero, List.setIfInBounds_toArray, List.set_cons_succ, List.set_cons_zero]
              refine wpAnyH_take (i := 15) (v := undef) rfl (by kernel_rfl) (by kernel_rfl) (by kernel_rfl) (fun _ _ _ h => h) (Or.inr ⟨by rfl, rfl⟩) hS ?_
              refine wpAnyH_take (i := 16) (v := undef) rfl (by kernel_rfl) (by kernel_rfl) (by kernel_rfl) (fun _ _ _ h => h) (Or.inr ⟨by rfl, rfl⟩) hS ?_
              refine wpAnyH_take (i := 17) (v := undef) rfl (by kernel_rfl) (by kernel_rfl) (by kernel_rfl) (fun _ _ _ h => h) (Or.inr ⟨by rfl, rfl⟩) hS ?_
              refine wpAnyH_take (i := 18) (v := undef) rfl (by kernel_rfl) (by kernel_rfl) (by kernel_rfl) (fun _ _ _ h => h) (Or.inr ⟨by rfl, rfl⟩) hS ?_
              simp only [Act.put, List.getElem_toArray, List.getElem_cons_succ, List.getElem_cons_zero, List.setIfInBounds_toArray, List.set_cons_succ, List.set_cons_zero]
              refine wpAnyH_take (i := 19) (v := .bool true) rfl (by kernel_rfl) (by kernel_rfl) (by kernel_rfl) (fun _ _ _ h => h) (Or.inl ⟨by rfl, ?_⟩) hS ?_
              · intro W hW; have hx := x1.mono hW (by simp); have e0 : W.cell? ⟨x, 0, none⟩ = some (.int .u8 fk) := hx.cell 0; have e1 : W.cell? ⟨x, 1, none⟩ = some (.string fs) := hx.cell 1; have e2 : W.cell? ⟨x, 2, none⟩ = some (.int .i64 fn) := hx.cell 2; have e3 : W.cell? ⟨x, 3, none⟩ = some (.int .i64 fp) := hx.cell 3; have e4 : W.cell? ⟨x, 4, none⟩ = some (.slice fa FK.length fc) := hx.cell 4; go_simp
              refine wpAnyH_take (i := 20) (v := .bool true) rfl (by kernel_rfl) (by kernel_rfl) (by kernel_rfl) (fun _ _ _ h => h) (Or.inl ⟨by rfl, ?_⟩) hS ?_
              · intro W hW; have hx := x1.mono hW (by simp); have e0 : W.cell? ⟨x, 0, none⟩ = some (.int .u8 fk) := hx.cell 0; have e1 : W.cell? ⟨x, 1, none⟩ = some (.string fs) := hx.cell 1; have e2 : W.cell? ⟨x, 2, none⟩ = some (.int .i64 fn) := hx.cell 2; have e3 : W.cell? ⟨x, 3, none⟩ = some (.int .i64 fp) := hx.cell 3; have e4 : W.cell? ⟨x, 4, none⟩ = some (.slice fa FK.length fc) := hx.cell 4; go_simp
              simp only [Act.put, List.getElem_toArray, List.getElem_cons_succ, List.getElem_cons_zero, List.setIfInBounds_toArray, List.set_cons_succ, List.set_cons_zero]
              refine wpAnyH_take (i := 21) (v := undef) rfl (by kernel_rfl) (by kernel_rfl) (by kernel_rfl) (fun _ _ _ h => h) (Or.inr ⟨by rfl, rfl⟩) hS ?_
              refine wpAnyH_take (i := 22) (v := undef) rfl (by kernel_rfl) (by kernel_rfl) (by kernel_rfl) (fun _ _ _ h => h) (Or.inr ⟨by rfl, rfl⟩) hS ?_
              refine wpAnyH_take (i := 23) (v := undef) rfl (by kernel_rfl) (by kernel_rfl) (by kernel_rfl) (fun _ _ _ h => h) (Or.inr ⟨by rfl, rfl⟩) hS ?_
              refine wpAnyH_take (i := 24) (v := undef) rfl (by kernel_rfl) (by kernel_rfl) (by kernel_rfl) (fun _ _ _ h => h) (Or.inr ⟨by rfl, rfl⟩) hS ?_
              simp only [Act.put, List.getElem_toArray, List.getElem_cons_succ, List.getElem_cons_zero, List.setIfInBounds_toArray, List.set_cons_succ, List.set_cons_zero]
              refine wpAnyH_take (i := 25) (v := undef) rfl (by kernel_rfl) (by kernel_rfl) (by kernel_rfl) (fun _ _ _ h => h) (Or.inr ⟨by rfl, rfl⟩) hS ?_
              refine wpAnyH_take (i := 26) (v := undef) rfl (by kernel_rfl) (by kernel_rfl) (by kernel_rfl) (fun _ _ _ h => h) (Or.inr ⟨by rfl, rfl⟩) hS ?_
              refine wpAnyH_take (i := 27) (v := undef) rfl (by kernel_rfl) (by kernel_rfl) (by kernel_rfl) (fun _ _ _ h => h) (Or.inr ⟨by rfl, rfl⟩) hS ?_
              refine wpAnyH_take (i := 28) (v := undef) rfl (by kernel_rfl) (by kernel_rfl) (by kernel_rfl) (fun _ _ _ h => h) (Or.inr ⟨by rfl, rfl⟩) hS ?_
              simp only [Act.put, List.getElem_toArray, List.getElem_cons_succ, List.getElem_cons_zero, List.setIfInBounds_toArray, List.set_cons_succ, List.set_cons_zero]
              refine wpAnyH_take (i := 29) (v := undef) rfl (by kernel_rfl) (by kernel_rfl) (by kernel_rfl) (fun _ _ _ h => h) (Or.inr ⟨by rfl, rfl⟩) hS ?_
              refine wpAnyH_take (i := 30) (v := undef) rfl (by kernel_rfl) (by kernel_rfl) (by kernel_rfl) (fun _ _ _ h => h) (Or.inr ⟨by rfl, rfl⟩) hS ?_
              refine wpAnyH_take (i := 31) (v := undef) rfl (by kernel_rfl) (by kernel_rfl) (by kernel_rfl) (fun _ _ _ h => h) (Or.inr ⟨by rfl, rfl⟩) hS ?_
              refine wpAnyH_take (i := 32) (v := undef) rfl (by kernel_rfl) (by kernel_rfl) (by kernel_rfl) (fun _ _ _ h => h) (Or.inr ⟨by rfl, rfl⟩) hS ?_
              simp only [Act.put, List.getElem_toArray, List.getElem_cons_succ, List.getElem_cons_zero, List.setIfInBounds_toArray, List.set_cons_succ, List.set_cons_zero]
              refine wpAnyH_take (i := 33) (v := .bool true) rfl (by kernel_rfl) (by kernel_rfl) (by kernel_rfl) (fun _ _ _ h => h) (Or.inl ⟨by rfl, ?_⟩) hS ?_
              · intro W hW; have hx := x1.mono hW (by simp); have e0 : W.cell? ⟨x, 0, none⟩ = some (.int .u8 fk) := hx.cell 0; have e1 : W.cell? ⟨x, 1, none⟩ = some (.string fs) := hx.cell 1; have e2 : W.cell? ⟨x, 2, none⟩ = some (.int .i64 fn) := hx.cell 2; have e3 : W.cell? ⟨x, 3, none⟩ = some (.int .i64 fp) := hx.cell 3; have e4 : W.cell? ⟨x, 4, none⟩ = some (.slice fa FK.length fc) := hx.cell 4; go_simp
              simp only [Act.put, List.getElem_toArray, List.getElem_cons_succ, List.getElem_cons_zero, List.setIfInBounds_toArray, List.set_cons_succ, List.set_cons_zero]
              refine wpAnyH_done (by kernel_rfl) ?_ _
              have U5 : Hid (Upd [] w w4) := H3.out.1.trans hS
              clear hS
              go_wp2_with fail
              go_ret
              refine ⟨ret_boolN ?_, U5.out⟩
              rw [HRR.out, all_no K i hlt2 (by rw [hKi.out, fnB]; simp [hf1]), Bool.and_false, Bool.and_false]
            · have hf1' : (fk != 21) = false := by rw [bne, hf1]; rfl
              by_cases hf2 : fp < 0
              · have hf2' : decide (fp < 0) = true := decide_eq_true hf2
                refine wp_region_held_drew (S := fun W => Upd [] w3 W) (by kernel_rfl) (Upd.refl [] w3).drew (fun hS => ?_)
                generalize World.drew _ = w4 at hS ⊢
                refine wpAnyH_take (i := 0) (v := .pointer (some ⟨x, 0, none⟩)) rfl (by kernel_rfl) (by kernel_rfl) (by kernel_rfl) (fun _ _ _ h => h) (Or.inl ⟨by rfl, ?_⟩) hS ?_
                · intro W hW; have hx := x1.mono hW (by simp); have e0 : W.cell? ⟨x, 0, none⟩ = some (.int .u8 fk) := hx.cell 0; have e1 : W.cell? ⟨x, 1, none⟩ = some (.string fs) := hx.cell 1; have e2 : W.cell? ⟨x, 2, none⟩ = some (.int .i64 fn) := hx.cell 2; have e3 : W.cell? ⟨x, 3, none⟩ = some (.int .i64 fp) := hx.cell 3; have e4 : W.cell? ⟨x, 4, none⟩ = some (.slice fa FK.length fc) := hx.cell 4; go_simp
                refine wpAnyH_take (i := 1) (v := .int .u8 fk) rfl (by kernel_rfl) (by kernel_rfl) (by kernel_rfl) (fun _ _ _ h => h) (Or.inl ⟨by rfl, ?_⟩) hS ?_
                · intro W hW; have hx := x1.mono hW (by simp); have e0 : W.cell? ⟨x, 0, none⟩ = some (.int .u8 fk) := hx.cell 0; have e1 : W.cell? ⟨x, 1, none⟩ = some (.string fs) := hx.cell 1; have e2 : W.cell? ⟨x, 2, none⟩ = some (.int .i64 fn) := hx.cell 2; have e3 : W.cell? ⟨x, 3, none⟩ = some (.int .i64 fp) := hx.cell 3; have e4 : W.cell? ⟨x, 4, none⟩ = some (.slice fa FK.length fc) := hx.cell 4; go_simp
                refine wpAnyH_take (i := 2) (v := .bool false) rfl (by kernel_rfl) (by kernel_rfl) (by kernel_rfl) (fun _ _ _ h => h) (Or.inl ⟨by rfl, ?_⟩) hS ?_
                · intro W hW; have hx := x1.mono hW (by simp); have e0 : W.cell? ⟨x, 0, none⟩ = some (.int .u8 fk) := hx.cell 0; have e1 : W.cell? ⟨x, 1, none⟩ = some (.string fs) := hx.cell 1; have e2 : W.cell? ⟨x, 2, none⟩ = some (.int .i64 fn) := hx.cell 2; have e3 : W.cell? ⟨x, 3, none⟩ = some (.int .i64 fp) := hx.cell 3; have e4 : W.cell? ⟨x, 4, none⟩ = some (.slice fa FK.length fc) := hx.cell 4; go_simp
                refine wpAnyH_take (i := 3) (v := .bool false) rfl (by kernel_rfl) (by kernel_rfl) (by kernel_rfl) (fun _ _ _ h => h) (Or.inl ⟨by rfl, ?_⟩) hS ?_
                · intro W hW; have hx := x1.mono hW (by simp); have e0 : W.cell? ⟨x, 0, none⟩ = some (.int .u8 fk) := hx.cell 0; have e1 : W.cell? ⟨x, 1, none⟩ = some (.string fs) := hx.cell 1; have e2 : W.cell? ⟨x, 2, none⟩ = some (.int .i64 fn) := hx.cell 2; have e3 : W.cell? ⟨x, 3, none⟩ = some (.int .i64 fp) := hx.cell 3; have e4 : W.cell? ⟨x, 4, none⟩ = some (.slice fa FK.length fc) := hx.cell 4; go_simp
                simp only [Act.put, List.getElem_toArray, List.getElem_cons_succ, List.getElem_cons_zero, List.setIfInBounds_toArray, List.set_cons_succ, List.set_cons_zero]
                refine wpAnyH_take (i := 4) (v := .pointer (some ⟨x, 3, none⟩)) rfl (by kernel_rfl) (by kernel_rfl) (by kernel_rfl) (fun _ _ _ h => h) (Or.inl ⟨by rfl, ?_⟩) hS ?_
                · intro W hW; have hx := x1.mono hW (by simp); have e0 : W.cell? ⟨x, 0, none⟩ = some (.int .u8 fk) := hx.cell 0; have e1 : W.cell? ⟨x, 1, none⟩ = some (.string fs) := hx.cell 1; have e2 : W.cell? ⟨x, 2, none⟩ = some (.int .i64 fn) := hx.cell 2; have e3 : W.cell? ⟨x, 3, none⟩ = some (.int .i64 fp) := hx.cell 3; have e4 : W.cell? ⟨x, 4, none⟩ = some (.slice fa FK.length fc) := hx.cell 4; go_simp
                refine wpAnyH_take (i := 5) (v := .int .i64 fp) rfl (by kernel_rfl) (by kernel_rfl) (by kernel_rfl) (fun _ _ _ h => h) (Or.inl ⟨by rfl, ?_⟩) hS ?_
                · intro W hW; have hx := x1.mono hW (by simp); have e0 : W.cell? ⟨x, 0, none⟩ = some (.int .u8 fk) := hx.cell 0; have e1 : W.cell? ⟨x, 1, none⟩ = some (.string fs) := hx.cell 1; have e2 : W.cell? ⟨x, 2, none⟩ = some (.int .i64 fn) := hx.cell 2; have e3 : W.cell? ⟨x, 3, none⟩ = some (.int .i64 fp) := hx.cell 3; have e4 : W.cell? ⟨x, 4, none⟩ = some (.slice fa FK.length fc) := hx.cell 4; go_simp
                refine wpAnyH_take (i := 6) (v := .bool true) rfl (by kernel_rfl) (by kernel_rfl) (by kernel_rfl) (fun _ _ _ h => h) (Or.inl ⟨by rfl, ?_⟩) hS ?_
                · intro W hW; have hx := x1.mono hW (by simp); have e0 : W.cell? ⟨x, 0, none⟩ = some (.int .u8 fk) := hx.cell 0; have e1 : W.cell? ⟨x, 1, none⟩ = some (.string fs) := hx.cell 1; have e2 : W.cell? ⟨x, 2, none⟩ = some (.int .i64 fn) := hx.cell 2; have e3 : W.cell? ⟨x, 3, none⟩ = some (.int .i64 fp) := hx.cell 3; have e4 : W.cell? ⟨x, 4, none⟩ = some (.slice fa FK.length fc) := hx.cell 4; go_simp
                refine wpAnyH_take (i := 7) (v := .bool true) rfl (by kernel_rfl) (by kernel_rfl) (by kernel_rfl) (fun _ _ _ h => h) (Or.inl ⟨by rfl, ?_⟩) hS ?_
                · intro W hW; have hx := x1.mono hW (by simp); have e0 : W.cell? ⟨x, 0, none⟩ = some (.int .u8 fk) := hx.cell 0; have e1 : W.cell? ⟨x, 1, none⟩ = some (.string fs) := hx.cell 1; have e2 : W.cell? ⟨x, 2, none⟩ = some (.int .i64 fn) := hx.cell 2; have e3 : W.cell? ⟨x, 3, none⟩ = some (.int .i64 fp) := hx.cell 3; have e4 : W.cell? ⟨x, 4, none⟩ = some (.slice fa FK.length fc) := hx.cell 4; go_simp
                refine wpAnyH_take (i := 8) (v := .bool true) rfl (by kernel_rfl) (by kernel_rfl) (by kernel_rfl) (fun _ _ _ h => h) (Or.inl ⟨by rfl, ?_⟩) hS ?_
                · intro W hW; have hx := x1.mono hW (by simp); have e0 : W.cell? ⟨x, 0, none⟩ = some (.int .u8 fk) := hx.cell 0; have e1 : W.cell? ⟨x, 1, none⟩ = some (.string fs) := hx.cell 1; have e2 : W.cell? ⟨x, 2, none⟩ = some (.int .i64 fn) := hx.cell 2; have e3 : W.cell? ⟨x, 3, none⟩ = some (.int .i64 fp) := hx.cell 3; have e4 : W.cell? ⟨x, 4, none⟩ = some (.slice fa FK.length fc) := hx.cell 4; go_simp
                simp only [Act.put, List.getElem_toArray, List.getElem_cons_succ, List.getElem_cons_zero, List.setIfInBounds_toArray, List.set_cons_succ, List.set_cons_zero]
                refine wpAnyH_take (i := 9) (v := undef) rfl (by kernel_rfl) (by kernel_rfl) (by kernel_rfl) (fun _ _ _ h => h) (Or.inr ⟨by rfl, rfl⟩) hS ?_
                refine wpAnyH_take (i := 10) (v := undef) rfl (by kernel_rfl) (by kernel_rfl) (by kernel_rfl) (fun _ _ _ h => h) (Or.inr ⟨by rfl, rfl⟩) hS ?_
                refine wpAnyH_take (i := 11) (v := undef) rfl (by kernel_rfl) (by kernel_rfl) (by kernel_rfl) (fun _ _ _ h => h) (Or.inr ⟨by rfl, rfl⟩) hS ?_
                refine wpAnyH_take (i := 12) (v := undef) rfl (by kernel_rfl) (by kernel_rfl) (by kernel_rfl) (fun _ _ _ h => h) (Or.inr ⟨by rfl, rfl⟩) hS ?_
                simp only [Act.put, List.getElem_toArray, List.getElem_cons_succ, List.getElem_cons_zero, List.setIfInBounds_toArray, List.set_cons_succ, List.set_cons_zero]
                refine wpAnyH_take (i := 13) (v := .bool true) rfl (by kernel_rfl) (by kernel_rfl) (by kernel_rfl) (fun _ _ _ h => h) (Or.inl ⟨by rfl, ?_⟩) hS ?_
                · intro W hW; have hx := x1.mono hW (by simp); have e0 : W.cell? ⟨x, 0, none⟩ = some (.int .u8 fk) := hx.cell 0; have e1 : W.cell? ⟨x, 1, none⟩ = some (.string fs) := hx.cell 1; have e2 : W.cell? ⟨x, 2, none⟩ = some (.int .i64 fn) := hx.cell 2; have e3 : W.cell? ⟨x, 3, none⟩ = some (.int .i64 fp) := hx.cell 3; have e4 : W.cell? ⟨x, 4, none⟩ = some (.slice fa FK.length fc) := hx.cell 4; go_simp
                refine wpAnyH_take (i := 14) (v := .bool true) rfl (by kernel_rfl) (by kernel_rfl) (by kernel_rfl) (fun _ _ _ h => h) (Or.inl ⟨by rfl, ?_⟩) hS ?_
                · intro W hW; have hx := x1.mono hW (by simp); have e0 : W.cell? ⟨x, 0, none⟩ = some (.int .u8 fk) := hx.cell 0; have e1 : W.cell? ⟨x, 1, none⟩ = some (.string fs) := hx.cell 1; have e2 : W.cell? ⟨x, 2, none⟩ = some (.int .i64 fn) := hx.cell 2; have e3 : W.cell? ⟨x, 3, none⟩ = some (.int .i64 fp) := hx.cell 3; have e4 : W.cell? ⟨x, 4, none⟩ = some (.slice fa FK.length fc) := hx.cell 4; go_simp
                simp only [Act.put, List.getElem_toArray, List.getElem_cons_succ, List.getElem_cons_zero, List.setIfInBounds_toArray, List.set_cons_succ, List.set_cons_zero]
                refine wpAnyH_take (i := 15) (v := undef) rfl (by kernel_rfl) (by kernel_rfl) (by kernel_rfl) (fun _ _ _ h => h) (Or.inr ⟨by rfl, rfl⟩) hS ?_
                refine wpAnyH_take (i := 16) (v := undef) rfl (by kernel_rfl) (by kernel_rfl) (by kernel_rfl) (fun _ _ _ h => h) (Or.inr ⟨by rfl, rfl⟩) hS ?_
                refine wpAnyH_take (i := 17) (v := undef) rfl (by kernel_rfl) (by kernel_rfl) (by kernel_rfl) (fun _ _ _ h => h) (Or.inr ⟨by rfl, rfl⟩) hS ?_
                refine wpAnyH_take (i := 18) (v := undef) rfl (by kernel_rfl) (by kernel_rfl) (by kernel_rfl) (fun _ _ _ h => h) (Or.inr ⟨by rfl, rfl⟩) hS ?_
                simp only [Act.put, List.getElem_toArray, List.getElem_cons_succ, List.getElem_cons_zero, List.setIfInBounds_toArray, List.set_cons_succ, List.set_cons_zero]
                refine wpAnyH_take (i := 19) (v := .bool true) rfl (by kernel_rfl) (by kernel_rfl) (by kernel_rfl) (fun _ _ _ h => h) (Or.inl ⟨by rfl, ?_⟩) hS ?_
                · intro W hW; have hx := x1.mono hW (by simp); have e0 : W.cell? ⟨x, 0, none⟩ = some (.int .u8 fk) := hx.cell 0; have e1 : W.cell? ⟨x, 1, none⟩ = some (.string fs) := hx.cell 1; have e2 : W.cell? ⟨x, 2, none⟩ = some (.int .i64 fn) := hx.cell 2; have e3 : W.cell? ⟨x, 3, none⟩ = some (.int .i64 fp) := hx.cell 3; have e4 : W.cell? ⟨x, 4, none⟩ = some (.slice fa FK.length fc) := hx.cell 4; go_simp
                refine wpAnyH_take (i := 20) (v := .bool true) rfl (by kernel_rfl) (by kernel_rfl) (by kernel_rfl) (fun _ _ _ h => h) (Or.inl ⟨by rfl, ?_⟩) hS ?_
                · intro W hW; have hx := x1.mono hW (by simp); have e0 : W.cell? ⟨x, 0, none⟩ = some (.int .u8 fk) := hx.cell 0; have e1 : W.cell? ⟨x, 1, none⟩ = some (.string fs) := hx.cell 1; have e2 : W.cell? ⟨x, 2, none⟩ = some (.int .i64 fn) := hx.cell 2; have e3 : W.cell? ⟨x, 3, none⟩ = some (.int .i64 fp) := hx.cell 3; have e4 : W.cell? ⟨x, 4, none⟩ = some (.slice fa FK.length fc) := hx.cell 4; go_simp
                simp only [Act.put, List.getElem_toArray, List.getElem_cons_succ, List.getElem_cons_zero, List.setIfInBounds_toArray, List.set_cons_succ, List.set_cons_zero]
                refine wpAnyH_take (i := 21) (v := undef) rfl (by kernel_rfl) (by kernel_rfl) (by kernel_rfl) (fun _ _ _ h => h) (Or.inr ⟨by rfl, rfl⟩) hS ?_
                refine wpAnyH_take (i := 22) (v := undef) rfl (by kernel_rfl) (by kernel_rfl) (by kernel_rfl) (fun _ _ _ h => h) (Or.inr ⟨by rfl, rfl⟩) hS ?_
                refine wpAnyH_take (i := 23) (v := undef) rfl (by kernel_rfl) (by kernel_rfl) (by kernel_rfl) (fun _ _ _ h => h) (Or.inr ⟨by rfl, rfl⟩) hS ?_
                refine wpAnyH_take (i := 24) (v := undef) rfl (by kernel_rfl) (by kernel_rfl) (by kernel_rfl) (fun _ _ _ h => h) (Or.inr ⟨by rfl, rfl⟩) hS ?_
                simp only [Act.put, List.getElem_toArray, List.getElem_cons_succ, List.getElem_cons_zero, List.setIfInBounds_toArray, List.set_cons_succ, List.set_cons_zero]
                refine wpAnyH_take (i := 25) (v := undef) rfl (by kernel_rfl) (by kernel_rfl) (by kernel_rfl) (fun _ _ _ h => h) (Or.inr ⟨by rfl, rfl⟩) hS ?_
                refine wpAnyH_take (i := 26) (v := undef) rfl (by kernel_rfl) (by kernel_rfl) (by kernel_rfl) (fun _ _ _ h => h) (Or.inr ⟨by rfl, rfl⟩) hS ?_
                refine wpAnyH_take (i := 27) (v := undef) rfl (by kernel_rfl) (by kernel_rfl) (by kernel_rfl) (fun _ _ _ h => h) (Or.inr ⟨by rfl, rfl⟩) hS ?_
                refine wpAnyH_take (i := 28) (v := undef) rfl (by kernel_rfl) (by kernel_rfl) (by kernel_rfl) (fun _ _ _ h => h) (Or.inr ⟨by rfl, rfl⟩) hS ?_
                simp only [Act.put, List.getElem_toArray, List.getElem_cons_succ, List.getElem_cons_zero, List.setIfInBounds_toArray, List.set_cons_succ, List.set_cons_zero]
                refine wpAnyH_take (i := 29) (v := undef) rfl (by kernel_rfl) (by kernel_rfl) (by kernel_rfl) (fun _ _ _ h => h) (Or.inr ⟨by rfl, rfl⟩) hS ?_
                refine wpAnyH_take (i := 30) (v := undef) rfl (by kernel_rfl) (by kernel_rfl) (by kernel_rfl) (fun _ _ _ h => h) (Or.inr ⟨by rfl, rfl⟩) hS ?_
                refine wpAnyH_take (i := 31) (v := undef) rfl (by kernel_rfl) (by kernel_rfl) (by kernel_rfl) (fun _ _ _ h => h) (Or.inr ⟨by rfl, rfl⟩) hS ?_
                refine wpAnyH_take (i := 32) (v := undef) rfl (by kernel_rfl) (by kernel_rfl) (by kernel_rfl) (fun _ _ _ h => h) (Or.inr ⟨by rfl, rfl⟩) hS ?_
                simp only [Act.put, List.getElem_toArray, List.getElem_cons_succ, List.getElem_cons_zero, List.setIfInBounds_toArray, List.set_cons_succ, List.set_cons_zero]
                refine wpAnyH_take (i := 33) (v := .bool true) rfl (by kernel_rfl) (by kernel_rfl) (by kernel_rfl) (fun _ _ _ h => h) (Or.inl ⟨by rfl, ?_⟩) hS ?_
                · intro W hW; have hx := x1.mono hW (by simp); have e0 : W.cell? ⟨x, 0, none⟩ = some (.int .u8 fk) := hx.cell 0; have e1 : W.cell? ⟨x, 1, none⟩ = some (.string fs) := hx.cell 1; have e2 : W.cell? ⟨x, 2, none⟩ = some (.int .i64 fn) := hx.cell 2; have e3 : W.cell? ⟨x, 3, none⟩ = some (.int .i64 fp) := hx.cell 3; have e4 : W.cell? ⟨x, 4, none⟩ = some (.slice fa FK.length fc) := hx.cell 4; go_simp
                simp only [Act.put, List.getElem_toArray, List.getElem_cons_succ, List.getElem_cons_zero, List.setIfInBounds_toArray, List.set_cons_succ, List.set_cons_zero]
                refine wpAnyH_done (by kernel_rfl) ?_ _
                have U5 : Hid (Upd [] w w4) := H3.out.1.trans hS
                clear hS
                go_wp2_with fail
                go_ret
                refine ⟨ret_boolN ?_, U5.out⟩
                rw [HRR.out, all_no K i hlt2 (by rw [hKi.out, fnB]; rw [decide_eq_false (by omega : ¬ 0 ≤ fp)]; simp), Bool.and_false, Bool.and_false]
              · have hf2' : decide (fp < 0) = false := decide_eq_false hf2
                by_cases hf3 : 40 < fs.size
                · have hf3' : decide (40 < fs.size) = true := decide_eq_true hf3
                  have hf3'' : decide ((40 : Int) < (fs.size : Int)) = true := decide_eq_true (by omega)
                  refine wp_region_held_drew (S := fun W => Upd [] w3 W) (by kernel_rfl) (Upd.refl [] w3).drew (fun hS => ?_)
                  generalize World.drew _ = w4 at hS ⊢
                  refine wpAnyH_take (i := 0) (v := .pointer (some ⟨x, 0, none⟩)) rfl (by kernel_rfl) (by kernel_rfl) (by kernel_rfl) (fun _ _ _ h => h) (Or.inl ⟨by rfl, ?_⟩) hS ?_
                  · intro W hW; have hx := x1.mono hW (by simp); have e0 : W.cell? ⟨x, 0, none⟩ = some (.int .u8 fk) := hx.cell 0; have e1 : W.cell? ⟨x, 1, none⟩ = some (.string fs) := hx.cell 1; have e2 : W.cell? ⟨x, 2, none⟩ = some (.int .i64 fn) := hx.cell 2; have e3 : W.cell? ⟨x, 3, none⟩ = some (.int .i64 fp) := hx.cell 3; have e4 : W.cell? ⟨x, 4, none⟩ = some (.slice fa FK.length fc) := hx.cell 4; go_simp
                  refine wpAnyH_take (i := 1) (v := .int .u8 fk) rfl (by kernel_rfl) (by kernel_rfl) (by kernel_rfl) (fun _ _ _ h => h) (Or.inl ⟨by rfl, ?_⟩) hS ?_
                  · intro W hW; have hx := x1.mono hW (by simp); have e0 : W.cell? ⟨x, 0, none⟩ = some (.int .u8 fk) := hx.cell 0; have e1 : W.cell? ⟨x, 1, none⟩ = some (.string fs) := hx.cell 1; have e2 : W.cell? ⟨x, 2, none⟩ = some (.int .i64 fn) := hx.cell 2; have e3 : W.cell? ⟨x, 3, none⟩ = some (.int .i64 fp) := hx.cell 3; have e4 : W.cell? ⟨x, 4, none⟩ = some (.slice fa FK.length fc) := hx.cell 4; go_simp
                  refine wpAnyH_take (i := 2) (v := .bool false) rfl (by kernel_rfl) (by kernel_rfl) (by kernel_rfl) (fun _ _ _ h => h) (Or.inl ⟨by rfl, ?_⟩) hS ?_
                  · intro W hW; have hx := x1.mono hW (by simp); have e0 : W.cell? ⟨x, 0, none⟩ = some (.int .u8 fk) := hx.cell 0; have e1 : W.cell? ⟨x, 1, none⟩ = some (.string fs) := hx.cell 1; have e2 : W.cell? ⟨x, 2, none⟩ = some (.int .i64 fn) := hx.cell 2; have e3 : W.cell? ⟨x, 3, none⟩ = some (.int .i64 fp) := hx.cell 3; have e4 : W.cell? ⟨x, 4, none⟩ = some (.slice fa FK.length fc) := hx.cell 4; go_simp
                  refine wpAnyH_take (i := 3) (v := .bool false) rfl (by kernel_rfl) (by kernel_rfl) (by kernel_rfl) (fun _ _ _ h => h) (Or.inl ⟨by rfl, ?_⟩) hS ?_
                  · intro W hW; have hx := x1.mono hW (by simp); have e0 : W.cell? ⟨x, 0, none⟩ = some (.int .u8 fk) := hx.cell 0; have e1 : W.cell? ⟨x, 1, none⟩ = some (.string fs) := hx.cell 1; have e2 : W.cell? ⟨x, 2, none⟩ = some (.int .i64 fn) := hx.cell 2; have e3 : W.cell? ⟨x, 3, none⟩ = some (.int .i64 fp) := hx.cell 3; have e4 : W.cell? ⟨x, 4, none⟩ = some (.slice fa FK.length fc) := hx.cell 4; go_simp
                  simp only [Act.put, List.getElem_toArray, List.getElem_cons_succ, List.getElem_cons_zero, List.setIfInBounds_toArray, List.set_cons_succ, List.set_cons_zero]
                  refine wpAnyH_take (i := 4) (v := .pointer (some ⟨x, 3, none⟩)) rfl (by kernel_rfl) (by kernel_rfl) (by kernel_rfl) (fun _ _ _ h => h) (Or.inl ⟨by rfl, ?_⟩) hS ?_
                  · intro W hW; have hx := x1.mono hW (by simp); have e0 : W.cell? ⟨x, 0, none⟩ = some (.int .u8 fk) := hx.cell 0; have e1 : W.cell? ⟨x, 1, none⟩ = some (.string fs) := hx.cell 1; have e2 : W.cell? ⟨x, 2, none⟩ = some (.int .i64 fn) := hx.cell 2; have e3 : W.cell? ⟨x, 3, none⟩ = some (.int .i64 fp) := hx.cell 3; have e4 : W.cell? ⟨x, 4, none⟩ = some (.slice fa FK.length fc) := hx.cell 4; go_simp
                  refine wpAnyH_take (i := 5) (v := .int .i64 fp) rfl (by kernel_rfl) (by kernel_rfl) (by kernel_rfl) (fun _ _ _ h => h) (Or.inl ⟨by rfl, ?_⟩) hS ?_
                  · intro W hW; have hx := x1.mono hW (by simp); have e0 : W.cell? ⟨x, 0, none⟩ = some (.int .u8 fk) := hx.cell 0; have e1 : W.cell? ⟨x, 1, none⟩ = some (.string fs) := hx.cell 1; have e2 : W.cell? ⟨x, 2, none⟩ = some (.int .i64 fn) := hx.cell 2; have e3 : W.cell? ⟨x, 3, none⟩ = some (.int .i64 fp) := hx.cell 3; have e4 : W.cell? ⟨x, 4, none⟩ = some (.slice fa FK.length fc) := hx.cell 4; go_simp
                  refine wpAnyH_take (i := 6) (v := .bool false) rfl (by kernel_rfl) (by kernel_rfl) (by kernel_rfl) (fun _ _ _ h => h) (Or.inl ⟨by rfl, ?_⟩) hS ?_
                  · intro W hW; have hx := x1.mono hW (by simp); have e0 : W.cell? ⟨x, 0, none⟩ = some (.int .u8 fk) := hx.cell 0; have e1 : W.cell? ⟨x, 1, none⟩ = some (.string fs) := hx.cell 1; have e2 : W.cell? ⟨x, 2, none⟩ = some (.int .i64 fn) := hx.cell 2; have e3 : W.cell? ⟨x, 3, none⟩ = some (.int .i64 fp) := hx.cell 3; have e4 : W.cell? ⟨x, 4, none⟩ = some (.slice fa FK.length fc) := hx.cell 4; go_simp
                  refine wpAnyH_take (i := 7) (v := .bool false) rfl (by kernel_rfl) (by kernel_rfl) (by kernel_rfl) (fun _ _ _ h => h) (Or.inl ⟨by rfl, ?_⟩) hS ?_
                  · intro W hW; have hx := x1.mono hW (by simp); have e0 : W.cell? ⟨x, 0, none⟩ = some (.int .u8 fk) := hx.cell 0; have e1 : W.cell? ⟨x, 1, none⟩ = some (.string fs) := hx.cell 1; have e2 : W.cell? ⟨x, 2, none⟩ = some (.int .i64 fn) := hx.cell 2; have e3 : W.cell? ⟨x, 3, none⟩ = some (.int .i64 fp) := hx.cell 3; have e4 : W.cell? ⟨x, 4, none⟩ = some (.slice fa FK.length fc) := hx.cell 4; go_simp
                  refine wpAnyH_take (i := 8) (v := .bool false) rfl (by kernel_rfl) (by kernel_rfl) (by kernel_rfl) (fun _ _ _ h => h) (Or.inl ⟨by rfl, ?_⟩) hS ?_
                  · intro W hW; have hx := x1.mono hW (by simp); have e0 : W.cell? ⟨x, 0, none⟩ = some (.int .u8 fk) := hx.cell 0; have e1 : W.cell? ⟨x, 1, none⟩ = some (.string fs) := hx.cell 1; have e2 : W.cell? ⟨x, 2, none⟩ = some (.int .i64 fn) := hx.cell 2; have e3 : W.cell? ⟨x, 3, none⟩ = some (.int .i64 fp) := hx.cell 3; have e4 : W.cell? ⟨x, 4, none⟩ = some (.slice fa FK.length fc) := hx.cell 4; go_simp
                  simp only [Act.put, List.getElem_toArray, List.getElem_cons_succ, List.getElem_cons_zero, List.setIfInBounds_toArray, List.set_cons_succ, List.set_cons_zero]
                  refine wpAnyH_take (i := 9) (v := .pointer (some ⟨x, 1, none⟩)) rfl (by kernel_rfl) (by kernel_rfl) (by kernel_rfl) (fun _ _ _ h => h) (Or.inl ⟨by rfl, ?_⟩) hS ?_
                  · intro W hW; have hx := x1.mono hW (by simp); have e0 : W.cell? ⟨x, 0, none⟩ = some (.int .u8 fk) := hx.cell 0; have e1 : W.cell? ⟨x, 1, none⟩ = some (.string fs) := hx.cell 1; have e2 : W.cell? ⟨x, 2, none⟩ = some (.int .i64 fn) := hx.cell 2; have e3 : W.cell? ⟨x, 3, none⟩ = some (.int .i64 fp) := hx.cell 3; have e4 : W.cell? ⟨x, 4, none⟩ = some (.slice fa FK.length fc) := hx.cell 4; go_simp
                  refine wpAnyH_take (i := 10) (v := .string fs) rfl (by kernel_rfl) (by kernel_rfl) (by kernel_rfl) (fun _ _ _ h => h) (Or.inl ⟨by rfl, ?_⟩) hS ?_
                  · intro W hW; have hx := x1.mono hW (by simp); have e0 : W.cell? ⟨x, 0, none⟩ = some (.int .u8 fk) := hx.cell 0; have e1 : W.cell? ⟨x, 1, none⟩ = some (.string fs) := hx.cell 1; have e2 : W.cell? ⟨x, 2, none⟩ = some (.int .i64 fn) := hx.cell 2; have e3 : W.cell? ⟨x, 3, none⟩ = some (.int .i64 fp) := hx.cell 3; have e4 : W.cell? ⟨x, 4, none⟩ = some (.slice fa FK.length fc) := hx.cell 4; go_simp
                  refine wpAnyH_take (i := 11) (v := .int .i64 fs.size) rfl (by kernel_rfl) (by kernel_rfl) (by kernel_rfl) (fun _ _ _ h => h) (Or.inl ⟨by rfl, ?_⟩) hS ?_
                  · intro W hW; have hx := x1.mono hW (by simp); have e0 : W.cell? ⟨x, 0, none⟩ = some (.int .u8 fk) := hx.cell 0; have e1 : W.cell? ⟨x, 1, none⟩ = some (.string fs) := hx.cell 1; have e2 : W.cell? ⟨x, 2, none⟩ = some (.int .i64 fn) := hx.cell 2; have e3 : W.cell? ⟨x, 3, none⟩ = some (.int .i64 fp) := hx.cell 3; have e4 : W.cell? ⟨x, 4, none⟩ = some (.slice fa FK.length fc) := hx.cell 4; go_simp
                  refine wpAnyH_take (i := 12) (v := .bool true) rfl (by kernel_rfl) (by kernel_rfl) (by kernel_rfl) (fun _ _ _ h => h) (Or.inl ⟨by rfl, ?_⟩) hS ?_
                  · intro W hW; have hx := x1.mono hW (by simp); have e0 : W.cell? ⟨x, 0, none⟩ = some (.int .u8 fk) := hx.cell 0; have e1 : W.cell? ⟨x, 1, none⟩ = some (.string fs) := hx.cell 1; have e2 : W.cell? ⟨x, 2, none⟩ = some (.int .i64 fn) := hx.cell 2; have e3 : W.cell? ⟨x, 3, none⟩ = some (.int .i64 fp) := hx.cell 3; have e4 : W.cell? ⟨x, 4, none⟩ = some (.slice fa FK.length fc) := hx.cell 4; go_simp
                  refine wpAnyH_take (i := 13) (v := .bool true) rfl (by kernel_rfl) (by kernel_rfl) (by kernel_rfl) (fun _ _ _ h => h) (Or.inl ⟨by rfl, ?_⟩) hS ?_
                  · intro W hW; have hx := x1.mono hW (by simp); have e0 : W.cell? ⟨x, 0, none⟩ = some (.int .u8 fk) := hx.cell 0; have e1 : W.cell? ⟨x, 1, none⟩ = some (.string fs) := hx.cell 1; have e2 : W.cell? ⟨x, 2, none⟩ = some (.int .i64 fn) := hx.cell 2; have e3 : W.cell? ⟨x, 3, none⟩ = some (.int .i64 fp) := hx.cell 3; have e4 : W.cell? ⟨x, 4, none⟩ = some (.slice fa FK.length fc) := hx.cell 4; go_simp
                  refine wpAnyH_take (i := 14) (v := .bool true) rfl (by kernel_rfl) (by kernel_rfl) (by kernel_rfl) (fun _ _ _ h => h) (Or.inl ⟨by rfl, ?_⟩) hS ?_
                  · intro W hW; have hx := x1.mono hW (by simp); have e0 : W.cell? ⟨x, 0, none⟩ = some (.int .u8 fk) := hx.cell 0; have e1 : W.cell? ⟨x, 1, none⟩ = some (.string fs) := hx.cell 1; have e2 : W.cell? ⟨x, 2, none⟩ = some (.int .i64 fn) := hx.cell 2; have e3 : W.cell? ⟨x, 3, none⟩ = some (.int .i64 fp) := hx.cell 3; have e4 : W.cell? ⟨x, 4, none⟩ = some (.slice fa FK.length fc) := hx.cell 4; go_simp
                  simp only [Act.put, List.getElem_toArray, List.getElem_cons_succ, List.getElem_cons_zero, List.setIfInBounds_toArray, List.set_cons_succ, List.set_cons_zero]
                  refine wpAnyH_take (i := 15) (v := undef) rfl (by kernel_rfl) (by kernel_rfl) (by kernel_rfl) (fun _ _ _ h => h) (Or.inr ⟨by rfl, rfl⟩) hS ?_
                  refine wpAnyH_take (i := 16) (v := undef) rfl (by kernel_rfl) (by kernel_rfl) (by kernel_rfl) (fun _ _ _ h => h) (Or.inr ⟨by rfl, rfl⟩) hS ?_
                  refine wpAnyH_take (i := 17) (v := undef) rfl (by kernel_rfl) (by kernel_rfl) (by kernel_rfl) (fun _ _ _ h => h) (Or.inr ⟨by rfl, rfl⟩) hS ?_
                  refine wpAnyH_take (i := 18) (v := undef) rfl (by kernel_rfl) (by kernel_rfl) (by kernel_rfl) (fun _ _ _ h => h) (Or.inr ⟨by rfl, rfl⟩) hS ?_
                  simp only [Act.put, List.getElem_toArray, List.getElem_cons_succ, List.getElem_cons_zero, List.setIfInBounds_toArray, List.set_cons_succ, List.set_cons_zero]
                  refine wpAnyH_take (i := 19) (v := .bool true) rfl (by kernel_rfl) (by kernel_rfl) (by kernel_rfl) (fun _ _ _ h => h) (Or.inl ⟨by rfl, ?_⟩) hS ?_
                  · intro W hW; have hx := x1.mono hW (by simp); have e0 : W.cell? ⟨x, 0, none⟩ = some (.int .u8 fk) := hx.cell 0; have e1 : W.cell? ⟨x, 1, none⟩ = some (.string fs) := hx.cell 1; have e2 : W.cell? ⟨x, 2, none⟩ = some (.int .i64 fn) := hx.cell 2; have e3 : W.cell? ⟨x, 3, none⟩ = some (.int .i64 fp) := hx.cell 3; have e4 : W.cell? ⟨x, 4, none⟩ = some (.slice fa FK.length fc) := hx.cell 4; go_simp
                  refine wpAnyH_take (i := 20) (v := .bool true) rfl (by kernel_rfl) (by kernel_rfl) (by kernel_rfl) (fun _ _ _ h => h) (Or.inl ⟨by rfl, ?_⟩) hS ?_
                  · intro W hW; have hx := x1.mono hW (by simp); have e0 : W.cell? ⟨x, 0, none⟩ = some (.int .u8 fk) := hx.cell 0; have e1 : W.cell? ⟨x, 1, none⟩ = some (.string fs) := hx.cell 1; have e2 : W.cell? ⟨x, 2, none⟩ = some (.int .i64 fn) := hx.cell 2; have e3 : W.cell? ⟨x, 3, none⟩ = some (.int .i64 fp) := hx.cell 3; have e4 : W.cell? ⟨x, 4, none⟩ = some (.slice fa FK.length fc) := hx.cell 4; go_simp
                  simp only [Act.put, List.getElem_toArray, List.getElem_cons_succ, List.getElem_cons_zero, List.setIfInBounds_toArray, List.set_cons_succ, List.set_cons_zero]
                  refine wpAnyH_take (i := 21) (v := undef) rfl (by kernel_rfl) (by kernel_rfl) (by kernel_rfl) (fun _ _ _ h => h) (Or.inr ⟨by rfl, rfl⟩) hS ?_
                  refine wpAnyH_take (i := 22) (v := undef) rfl (by kernel_rfl) (by kernel_rfl) (by kernel_rfl) (fun _ _ _ h => h) (Or.inr ⟨by rfl, rfl⟩) hS ?_
                  refine wpAnyH_take (i := 23) (v := undef) rfl (by kernel_rfl) (by kernel_rfl) (by kernel_rfl) (fun _ _ _ h => h) (Or.inr ⟨by rfl, rfl⟩) hS ?_
                  refine wpAnyH_take (i := 24) (v := undef) rfl (by kernel_rfl) (by kernel_rfl) (by kernel_rfl) (fun _ _ _ h => h) (Or.inr ⟨by rfl, rfl⟩) hS ?_
                  simp only [Act.put, List.getElem_toArray, List.getElem_cons_succ, List.getElem_cons_zero, List.setIfInBounds_toArray, List.set_cons_succ, List.set_cons_zero]
                  refine wpAnyH_take (i := 25) (v := undef) rfl (by kernel_rfl) (by kernel_rfl) (by kernel_rfl) (fun _ _ _ h => h) (Or.inr ⟨by rfl, rfl⟩) hS ?_
                  refine wpAnyH_take (i := 26) (v := undef) rfl (by kernel_rfl) (by kernel_rfl) (by kernel_rfl) (fun _ _ _ h => h) (Or.inr ⟨by rfl, rfl⟩) hS ?_
                  refine wpAnyH_take (i := 27) (v := undef) rfl (by kernel_rfl) (by kernel_rfl) (by kernel_rfl) (fun _ _ _ h => h) (Or.inr ⟨by rfl, rfl⟩) hS ?_
                  refine wpAnyH_take (i := 28) (v := undef) rfl (by kernel_rfl) (by kernel_rfl) (by kernel_rfl) (fun _ _ _ h => h) (Or.inr ⟨by rfl, rfl⟩) hS ?_
                  simp only [Act.put, List.getElem_toArray, List.getElem_cons_succ, List.getElem_cons_zero, List.setIfInBounds_toArray, List.set_cons_succ, List.set_cons_zero]
                  refine wpAnyH_take (i := 29) (v := undef) rfl (by kernel_rfl) (by kernel_rfl) (by kernel_rfl) (fun _ _ _ h => h) (Or.inr ⟨by rfl, rfl⟩) hS ?_
                  refine wpAnyH_take (i := 30) (v := undef) rfl (by kernel_rfl) (by kernel_rfl) (by kernel_rfl) (fun _ _ _ h => h) (Or.inr ⟨by rfl, rfl⟩) hS ?_
                  refine wpAnyH_take (i := 31) (v := undef) rfl (by kernel_rfl) (by kernel_rfl) (by kernel_rfl) (fun _ _ _ h => h) (Or.inr ⟨by rfl, rfl⟩) hS ?_
                  refine wpAnyH_take (i := 32) (v := undef) rfl (by kernel_rfl) (by kernel_rfl) (by kernel_rfl) (fun _ _ _ h => h) (Or.inr ⟨by rfl, rfl⟩) hS ?_
                  simp only [Act.put, List.getElem_toArray, List.getElem_cons_succ, List.getElem_cons_zero, List.setIfInBounds_toArray, List.set_cons_succ, List.set_cons_zero]
                  refine wpAnyH_take (i := 33) (v := .bool true) rfl (by kernel_rfl) (by kernel_rfl) (by kernel_rfl) (fun _ _ _ h => h) (Or.inl ⟨by rfl, ?_⟩) hS ?_
                  · intro W hW; have hx := x1.mono hW (by simp); have e0 : W.cell? ⟨x, 0, none⟩ = some (.int .u8 fk) := hx.cell 0; have e1 : W.cell? ⟨x, 1, none⟩ = some (.string fs) := hx.cell 1; have e2 : W.cell? ⟨x, 2, none⟩ = some (.int .i64 fn) := hx.cell 2; have e3 : W.cell? ⟨x, 3, none⟩ = some (.int .i64 fp) := hx.cell 3; have e4 : W.cell? ⟨x, 4, none⟩ = some (.slice fa FK.length fc) := hx.cell 4; go_simp
                  simp only [Act.put, List.getElem_toArray, List.getElem_cons_succ, List.getElem_cons_zero, List.setIfInBounds_toArray, List.set_cons_succ, List.set_cons_zero]
                  refine wpAnyH_done (by kernel_rfl) ?_ _
                  have U5 : Hid (Upd [] w w4) := H3.out.1.trans hS
                  clear hS
                  go_wp2_with fail
                  go_ret
                  refine ⟨ret_boolN ?_, U5.out⟩
                  rw [HRR.out, all_no K i hlt2 (by rw [hKi.out, fnB]; rw [decide_eq_false (by omega : ¬ fs.size ≤ 40)]; simp), Bool.and_false, Bool.and_false]
                · have hf3' : decide (40 < fs.size) = false := decide_eq_false hf3
                  have hf3'' : decide ((40 : Int) < (fs.size : Int)) = false := decide_eq_false (by omega)
                  cases cb
                  · skip
                    refine wp_region_held_drew (S := fun W => Upd [] w3 W) (by kernel_rfl) (Upd.refl [] w3).drew (fun hS => ?_)
                    generalize World.drew _ = w4 at hS ⊢
                    refine wpAnyH_take (i := 0) (v := .pointer (some ⟨x, 0, none⟩)) rfl (by kernel_rfl) (by kernel_rfl) (by kernel_rfl) (fun _ _ _ h => h) (Or.inl ⟨by rfl, ?_⟩) hS ?_
                    · intro W hW; have hx := x1.mono hW (by simp); have e0 : W.cell? ⟨x, 0, none⟩ = some (.int .u8 fk) := hx.cell 0; have e1 : W.cell? ⟨x, 1, none⟩ = some (.string fs) := hx.cell 1; have e2 : W.cell? ⟨x, 2, none⟩ = some (.int .i64 fn) := hx.cell 2; have e3 : W.cell? ⟨x, 3, none⟩ = some (.int .i64 fp) := hx.cell 3; have e4 : W.cell? ⟨x, 4, none⟩ = some (.slice fa FK.length fc) := hx.cell 4; go_simp
                    refine wpAnyH_take (i := 1) (v := .int .u8 fk) rfl (by kernel_rfl) (by kernel_rfl) (by kernel_rfl) (fun _ _ _ h => h) (Or.inl ⟨by rfl, ?_⟩) hS ?_
                    · intro W hW; have hx := x1.mono hW (by simp); have e0 : W.cell? ⟨x, 0, none⟩ = some (.int .u8 fk) := hx.cell 0; have e1 : W.cell? ⟨x, 1, none⟩ = some (.string fs) := hx.cell 1; have e2 : W.cell? ⟨x, 2, none⟩ = some (.int .i64 fn) := hx.cell 2; have e3 : W.cell? ⟨x, 3, none⟩ = some (.int .i64 fp) := hx.cell 3; have e4 : W.cell? ⟨x, 4, none⟩ = some (.slice fa FK.length fc) := hx.cell 4; go_simp
                    refine wpAnyH_take (i := 2) (v := .bool false) rfl (by kernel_rfl) (by kernel_rfl) (by kernel_rfl) (fun _ _ _ h => h) (Or.inl ⟨by rfl, ?_⟩) hS ?_
                    · intro W hW; have hx := x1.mono hW (by simp); have e0 : W.cell? ⟨x, 0, none⟩ = some (.int .u8 fk) := hx.cell 0; have e1 : W.cell? ⟨x, 1, none⟩ = some (.string fs) := hx.cell 1; have e2 : W.cell? ⟨x, 2, none⟩ = some (.int .i64 fn) := hx.cell 2; have e3 : W.cell? ⟨x, 3, none⟩ = some (.int .i64 fp) := hx.cell 3; have e4 : W.cell? ⟨x, 4, none⟩ = some (.slice fa FK.length fc) := hx.cell 4; go_simp
                    refine wpAnyH_take (i := 3) (v := .bool false) rfl (by kernel_rfl) (by kernel_rfl) (by kernel_rfl) (fun _ _ _ h => h) (Or.inl ⟨by rfl, ?_⟩) hS ?_
                    · intro W hW; have hx := x1.mono hW (by simp); have e0 : W.cell? ⟨x, 0, none⟩ = some (.int .u8 fk) := hx.cell 0; have e1 : W.cell? ⟨x, 1, none⟩ = some (.string fs) := hx.cell 1; have e2 : W.cell? ⟨x, 2, none⟩ = some (.int .i64 fn) := hx.cell 2; have e3 : W.cell? ⟨x, 3, none⟩ = some (.int .i64 fp) := hx.cell 3; have e4 : W.cell? ⟨x, 4, none⟩ = some (.slice fa FK.length fc) := hx.cell 4; go_simp
                    simp only [Act.put, List.getElem_toArray, List.getElem_cons_succ, List.getElem_cons_zero, List.setIfInBounds_toArray, List.set_cons_succ, List.set_cons_zero]
                    refine wpAnyH_take (i := 4) (v := .pointer (some ⟨x, 3, none⟩)) rfl (by kernel_rfl) (by kernel_rfl) (by kernel_rfl) (fun _ _ _ h => h) (Or.inl ⟨by rfl, ?_⟩) hS ?_
                    · intro W hW; have hx := x1.mono hW (by simp); have e0 : W.cell? ⟨x, 0, none⟩ = some (.int .u8 fk) := hx.cell 0; have e1 : W.cell? ⟨x, 1, none⟩ = some (.string fs) := hx.cell 1; have e2 : W.cell? ⟨x, 2, none⟩ = some (.int .i64 fn) := hx.cell 2; have e3 : W.cell? ⟨x, 3, none⟩ = some (.int .i64 fp) := hx.cell 3; have e4 : W.cell? ⟨x, 4, none⟩ = some (.slice fa FK.length fc) := hx.cell 4; go_simp
                    refine wpAnyH_take (i := 5) (v := .int .i64 fp) rfl (by kernel_rfl) (by kernel_rfl) (by kernel_rfl) (fun _ _ _ h => h) (Or.inl ⟨by rfl, ?_⟩) hS ?_
                    · intro W hW; have hx := x1.mono hW (by simp); have e0 : W.cell? ⟨x, 0, none⟩ = some (.int .u8 fk) := hx.cell 0; have e1 : W.cell? ⟨x, 1, none⟩ = some (.string fs) := hx.cell 1; have e2 : W.cell? ⟨x, 2, none⟩ = some (.int .i64 fn) := hx.cell 2; have e3 : W.cell? ⟨x, 3, none⟩ = some (.int .i64 fp) := hx.cell 3; have e4 : W.cell? ⟨x, 4, none⟩ = some (.slice fa FK.length fc) := hx.cell 4; go_simp
                    refine wpAnyH_take (i := 6) (v := .bool false) rfl (by kernel_rfl) (by kernel_rfl) (by kernel_rfl) (fun _ _ _ h => h) (Or.inl ⟨by rfl, ?_⟩) hS ?_
                    · intro W hW; have hx := x1.mono hW (by simp); have e0 : W.cell? ⟨x, 0, none⟩ = some (.int .u8 fk) := hx.cell 0; have e1 : W.cell? ⟨x, 1, none⟩ = some (.string fs) := hx.cell 1; have e2 : W.cell? ⟨x, 2, none⟩ = some (.int .i64 fn) := hx.cell 2; have e3 : W.cell? ⟨x, 3, none⟩ = some (.int .i64 fp) := hx.cell 3; have e4 : W.cell? ⟨x, 4, none⟩ = some (.slice fa FK.length fc) := hx.cell 4; go_simp
                    refine wpAnyH_take (i := 7) (v := .bool false) rfl (by kernel_rfl) (by kernel_rfl) (by kernel_rfl) (fun _ _ _ h => h) (Or.inl ⟨by rfl, ?_⟩) hS ?_
                    · intro W hW; have hx := x1.mono hW (by simp); have e0 : W.cell? ⟨x, 0, none⟩ = some (.int .u8 fk) := hx.cell 0; have e1 : W.cell? ⟨x, 1, none⟩ = some (.string fs) := hx.cell 1; have e2 : W.cell? ⟨x, 2, none⟩ = some (.int .i64 fn) := hx.cell 2; have e3 : W.cell? ⟨x, 3, none⟩ = some (.int .i64 fp) := hx.cell 3; have e4 : W.cell? ⟨x, 4, none⟩ = some (.slice fa FK.length fc) := hx.cell 4; go_simp
                    refine wpAnyH_take (i := 8) (v := .bool false) rfl (by kernel_rfl) (by kernel_rfl) (by kernel_rfl) (fun _ _ _ h => h) (Or.inl ⟨by rfl, ?_⟩) hS ?_
                    · intro W hW; have hx := x1.mono hW (by simp); have e0 : W.cell? ⟨x, 0, none⟩ = some (.int .u8 fk) := hx.cell 0; have e1 : W.cell? ⟨x, 1, none⟩ = some (.string fs) := hx.cell 1; have e2 : W.cell? ⟨x, 2, none⟩ = some (.int .i64 fn) := hx.cell 2; have e3 : W.cell? ⟨x, 3, none⟩ = some (.int .i64 fp) := hx.cell 3; have e4 : W.cell? ⟨x, 4, none⟩ = some (.slice fa FK.length fc) := hx.cell 4; go_simp
                    simp only [Act.put, List.getElem_toArray, List.getElem_cons_succ, List.getElem_cons_zero, List.setIfInBounds_toArray, List.set_cons_succ, List.set_cons_zero]
                    refine wpAnyH_take (i := 9) (v := .pointer (some ⟨x, 1, none⟩)) rfl (by kernel_rfl) (by kernel_rfl) (by kernel_rfl) (fun _ _ _ h => h) (Or.inl ⟨by rfl, ?_⟩) hS ?_
                    · intro W hW; have hx := x1.mono hW (by simp); have e0 : W.cell? ⟨x, 0, none⟩ = some (.int .u8 fk) := hx.cell 0; have e1 : W.cell? ⟨x, 1, none⟩ = some (.string fs) := hx.cell 1; have e2 : W.cell? ⟨x, 2, none⟩ = some (.int .i64 fn) := hx.cell 2; have e3 : W.cell? ⟨x, 3, none⟩ = some (.int .i64 fp) := hx.cell 3; have e4 : W.cell? ⟨x, 4, none⟩ = some (.slice fa FK.length fc) := hx.cell 4; go_simp
                    refine wpAnyH_take (i := 10) (v := .string fs) rfl (by kernel_rfl) (by kernel_rfl) (by kernel_rfl) (fun _ _ _ h => h) (Or.inl ⟨by rfl, ?_⟩) hS ?_
                    · intro W hW; have hx := x1.mono hW (by simp); have e0 : W.cell? ⟨x, 0, none⟩ = some (.int .u8 fk) := hx.cell 0; have e1 : W.cell? ⟨x, 1, none⟩ = some (.string fs) := hx.cell 1; have e2 : W.cell? ⟨x, 2, none⟩ = some (.int .i64 fn) := hx.cell 2; have e3 : W.cell? ⟨x, 3, none⟩ = some (.int .i64 fp) := hx.cell 3; have e4 : W.cell? ⟨x, 4, none⟩ = some (.slice fa FK.length fc) := hx.cell 4; go_simp
                    refine wpAnyH_take (i := 11) (v := .int .i64 fs.size) rfl (by kernel_rfl) (by kernel_rfl) (by kernel_rfl) (fun _ _ _ h => h) (Or.inl ⟨by rfl, ?_⟩) hS ?_
                    · intro W hW; have hx := x1.mono hW (by simp); have e0 : W.cell? ⟨x, 0, none⟩ = some (.int .u8 fk) := hx.cell 0; have e1 : W.cell? ⟨x, 1, none⟩ = some (.string fs) := hx.cell 1; have e2 : W.cell? ⟨x, 2, none⟩ = some (.int .i64 fn) := hx.cell 2; have e3 : W.cell? ⟨x, 3, none⟩ = some (.int .i64 fp) := hx.cell 3; have e4 : W.cell? ⟨x, 4, none⟩ = some (.slice fa FK.length fc) := hx.cell 4; go_simp
                    refine wpAnyH_take (i := 12) (v := .bool false) rfl (by kernel_rfl) (by kernel_rfl) (by kernel_rfl) (fun _ _ _ h => h) (Or.inl ⟨by rfl, ?_⟩) hS ?_
                    · intro W hW; have hx := x1.mono hW (by simp); have e0 : W.cell? ⟨x, 0, none⟩ = some (.int .u8 fk) := hx.cell 0; have e1 : W.cell? ⟨x, 1, none⟩ = some (.string fs) := hx.cell 1; have e2 : W.cell? ⟨x, 2, none⟩ = some (.int .i64 fn) := hx.cell 2; have e3 : W.cell? ⟨x, 3, none⟩ = some (.int .i64 fp) := hx.cell 3; have e4 : W.cell? ⟨x, 4, none⟩ = some (.slice fa FK.length fc) := hx.cell 4; go_simp
                    refine wpAnyH_take (i := 13) (v := .bool false) rfl (by kernel_rfl) (by kernel_rfl) (by kernel_rfl) (fun _ _ _ h => h) (Or.inl ⟨by rfl, ?_⟩) hS ?_
                    · intro W hW; have hx := x1.mono hW (by simp); have e0 : W.cell? ⟨x, 0, none⟩ = some (.int .u8 fk) := hx.cell 0; have e1 : W.cell? ⟨x, 1, none⟩ = some (.string fs) := hx.cell 1; have e2 : W.cell? ⟨x, 2, none⟩ = some (.int .i64 fn) := hx.cell 2; have e3 : W.cell? ⟨x, 3, none⟩ = some (.int .i64 fp) := hx.cell 3; have e4 : W.cell? ⟨x, 4, none⟩ = some (.slice fa FK.length fc) := hx.cell 4; go_simp
                    refine wpAnyH_take (i := 14) (v := .bool false) rfl (by kernel_rfl) (by kernel_rfl) (by kernel_rfl) (fun _ _ _ h => h) (Or.inl ⟨by rfl, ?_⟩) hS ?_
                    · intro W hW; have hx := x1.mono hW (by simp); have e0 : W.cell? ⟨x, 0, none⟩ = some (.int .u8 fk) := hx.cell 0; have e1 : W.cell? ⟨x, 1, none⟩ = some (.string fs) := hx.cell 1; have e2 : W.cell? ⟨x, 2, none⟩ = some (.int .i64 fn) := hx.cell 2; have e3 : W.cell? ⟨x, 3, none⟩ = some (.int .i64 fp) := hx.cell 3; have e4 : W.cell? ⟨x, 4, none⟩ = some (.slice fa FK.length fc) := hx.cell 4; go_simp
                    simp only [Act.put, List.getElem_toArray, List.getElem_cons_succ, List.getElem_cons_zero, List.setIfInBounds_toArray, List.set_cons_succ, List.set_cons_zero]
                    refine wpAnyH_take (i := 15) (v := .pointer (some ⟨x, 4, none⟩)) rfl (by kernel_rfl) (by kernel_rfl) (by kernel_rfl) (fun _ _ _ h => h) (Or.inl ⟨by rfl, ?_⟩) hS ?_
                    · intro W hW; have hx := x1.mono hW (by simp); have e0 : W.cell? ⟨x, 0, none⟩ = some (.int .u8 fk) := hx.cell 0; have e1 : W.cell? ⟨x, 1, none⟩ = some (.string fs) := hx.cell 1; have e2 : W.cell? ⟨x, 2, none⟩ = some (.int .i64 fn) := hx.cell 2; have e3 : W.cell? ⟨x, 3, none⟩ = some (.int .i64 fp) := hx.cell 3; have e4 : W.cell? ⟨x, 4, none⟩ = some (.slice fa FK.length fc) := hx.cell 4; go_simp
                    refine wpAnyH_take (i := 16) (v := .slice fa FK.length fc) rfl (by kernel_rfl) (by kernel_rfl) (by kernel_rfl) (fun _ _ _ h => h) (Or.inl ⟨by rfl, ?_⟩) hS ?_
                    · intro W hW; have hx := x1.mono hW (by simp); have e0 : W.cell? ⟨x, 0, none⟩ = some (.int .u8 fk) := hx.cell 0; have e1 : W.cell? ⟨x, 1, none⟩ = some (.string fs) := hx.cell 1; have e2 : W.cell? ⟨x, 2, none⟩ = some (.int .i64 fn) := hx.cell 2; have e3 : W.cell? ⟨x, 3, none⟩ = some (.int .i64 fp) := hx.cell 3; have e4 : W.cell? ⟨x, 4, none⟩ = some (.slice fa FK.length fc) := hx.cell 4; go_simp
                    simp only [Act.put, List.getElem_toArray, List.getElem_cons_succ, List.getElem_cons_zero, List.setIfInBounds_toArray, List.set_cons_succ, List.set_cons_zero]
                    refine wpAnyH_ready (rs := [17]) (by kernel_rfl) (by simp) (AllReadyH.cons rfl (fun K' hK' => ?_) AllReadyH.nil)
                    go_simp
                    refine Calls.mono (HCL.out _ hS) ?_
                    rintro en w5 ⟨rfl, hu5⟩
                    have hS5 : Upd [] w3 w5 := hS.trans hu5
                    refine hK'.out _ _ hS5 (fun _ => ?_)
                    clear hK' K' hu5 hS
                    have hS : Upd [] w3 w5 := hS5
                    clear hS5
                    refine wpAnyH_take (i := 18) (v := .bool true) rfl (by kernel_rfl) (by kernel_rfl) (by kernel_rfl) (fun _ _ _ h => h) (Or.inl ⟨by rfl, ?_⟩) hS ?_
                    · intro W hW; have hx := x1.mono hW (by simp); have e0 : W.cell? ⟨x, 0, none⟩ = some (.int .u8 fk) := hx.cell 0; have e1 : W.cell? ⟨x, 1, none⟩ = some (.string fs) := hx.cell 1; have e2 : W.cell? ⟨x, 2, none⟩ = some (.int .i64 fn) := hx.cell 2; have e3 : W.cell? ⟨x, 3, none⟩ = some (.int .i64 fp) := hx.cell 3; have e4 : W.cell? ⟨x, 4, none⟩ = some (.slice fa FK.length fc) := hx.cell 4; go_simp
                    refine wpAnyH_take (i := 19) (v := .bool true) rfl (by kernel_rfl) (by kernel_rfl) (by kernel_rfl) (fun _ _ _ h => h) (Or.inl ⟨by rfl, ?_⟩) hS ?_
                    · intro W hW; have hx := x1.mono hW (by simp); have e0 : W.cell? ⟨x, 0, none⟩ = some (.int .u8 fk) := hx.cell 0; have e1 : W.cell? ⟨x, 1, none⟩ = some (.string fs) := hx.cell 1; have e2 : W.cell? ⟨x, 2, none⟩ = some (.int .i64 fn) := hx.cell 2; have e3 : W.cell? ⟨x, 3, none⟩ = some (.int .i64 fp) := hx.cell 3; have e4 : W.cell? ⟨x, 4, none⟩ = some (.slice fa FK.length fc) := hx.cell 4; go_simp
                    refine wpAnyH_take (i := 20) (v := .bool true) rfl (by kernel_rfl) (by kernel_rfl) (by kernel_rfl) (fun _ _ _ h => h) (Or.inl ⟨by rfl, ?_⟩) hS ?_
                    · intro W hW; have hx := x1.mono hW (by simp); have e0 : W.cell? ⟨x, 0, none⟩ = some (.int .u8 fk) := hx.cell 0; have e1 : W.cell? ⟨x, 1, none⟩ = some (.string fs) := hx.cell 1; have e2 : W.cell? ⟨x, 2, none⟩ = some (.int .i64 fn) := hx.cell 2; have e3 : W.cell? ⟨x, 3, none⟩ = some (.int .i64 fp) := hx.cell 3; have e4 : W.cell? ⟨x, 4, none⟩ = some (.slice fa FK.length fc) := hx.cell 4; go_simp
                    simp only [Act.put, List.getElem_toArray, List.getElem_cons_succ, List.getElem_cons_zero, List.setIfInBounds_toArray, List.set_cons_succ, List.set_cons_zero]
                    refine wpAnyH_take (i := 21) (v := undef) rfl (by kernel_rfl) (by kernel_rfl) (by kernel_rfl) (fun _ _ _ h => h) (Or.inr ⟨by rfl, rfl⟩) hS ?_
                    refine wpAnyH_take (i := 22) (v := undef) rfl (by kernel_rfl) (by kernel_rfl) (by kernel_rfl) (fun _ _ _ h => h) (Or.inr ⟨by rfl, rfl⟩) hS ?_
                    refine wpAnyH_take (i := 23) (v := undef) rfl (by kernel_rfl) (by kernel_rfl) (by kernel_rfl) (fun _ _ _ h => h) (Or.inr ⟨by rfl, rfl⟩) hS ?_
                    refine wpAnyH_take (i := 24) (v := undef) rfl (by kernel_rfl) (by kernel_rfl) (by kernel_rfl) (fun _ _ _ h => h) (Or.inr ⟨by rfl, rfl⟩) hS ?_
                    simp only [Act.put, List.getElem_toArray, List.getElem_cons_succ, List.getElem_cons_zero, List.setIfInBounds_toArray, List.set_cons_succ, List.set_cons_zero]
                    refine wpAnyH_take (i := 25) (v := undef) rfl (by kernel_rfl) (by kernel_rfl) (by kernel_rfl) (fun _ _ _ h => h) (Or.inr ⟨by rfl, rfl⟩) hS ?_
                    refine wpAnyH_take (i := 26) (v := undef) rfl (by kernel_rfl) (by kernel_rfl) (by kernel_rfl) (fun _ _ _ h => h) (Or.inr ⟨by rfl, rfl⟩) hS ?_
                    refine wpAnyH_take (i := 27) (v := undef) rfl (by kernel_rfl) (by kernel_rfl) (by kernel_rfl) (fun _ _ _ h => h) (Or.inr ⟨by rfl, rfl⟩) hS ?_
                    refine wpAnyH_take (i := 28) (v := undef) rfl (by kernel_rfl) (by kernel_rfl) (by kernel_rfl) (fun _ _ _ h => h) (Or.inr ⟨by rfl, rfl⟩) hS ?_
                    simp only [Act.put, List.getElem_toArray, List.getElem_cons_succ, List.getElem_cons_zero, List.setIfInBounds_toArray, List.set_cons_succ, List.set_cons_zero]
                    refine wpAnyH_take (i := 29) (v := undef) rfl (by kernel_rfl) (by kernel_rfl) (by kernel_rfl) (fun _ _ _ h => h) (Or.inr ⟨by rfl, rfl⟩) hS ?_
                    refine wpAnyH_take (i := 30) (v := undef) rfl (by kernel_rfl) (by kernel_rfl) (by kernel_rfl) (fun _ _ _ h => h) (Or.inr ⟨by rfl, rfl⟩) hS ?_
                    refine wpAnyH_take (i := 31) (v := undef) rfl (by kernel_rfl) (by kernel_rfl) (by kernel_rfl) (fun _ _ _ h => h) (Or.inr ⟨by rfl, rfl⟩) hS ?_
                    refine wpAnyH_take (i := 32) (v := undef) rfl (by kernel_rfl) (by kernel_rfl) (by kernel_rfl) (fun _ _ _ h => h) (Or.inr ⟨by rfl, rfl⟩) hS ?_
                    simp only [Act.put, List.getElem_toArray, List.getElem_cons_succ, List.getElem_cons_zero, List.setIfInBounds_toArray, List.set_cons_succ, List.set_cons_zero]
                    refine wpAnyH_take (i := 33) (v := .bool true) rfl (by kernel_rfl) (by kernel_rfl) (by kernel_rfl) (fun _ _ _ h => h) (Or.inl ⟨by rfl, ?_⟩) hS ?_
                    · intro W hW; have hx := x1.mono hW (by simp); have e0 : W.cell? ⟨x, 0, none⟩ = some (.int .u8 fk) := hx.cell 0; have e1 : W.cell? ⟨x, 1, none⟩ = some (.string fs) := hx.cell 1; have e2 : W.cell? ⟨x, 2, none⟩ = some (.int .i64 fn) := hx.cell 2; have e3 : W.cell? ⟨x, 3, none⟩ = some (.int .i64 fp) := hx.cell 3; have e4 : W.cell? ⟨x, 4, none⟩ = some (.slice fa FK.length fc) := hx.cell 4; go_simp
                    simp only [Act.put, List.getElem_toArray, List.getElem_cons_succ, List.getElem_cons_zero, List.setIfInBounds_toArray, List.set_cons_succ, List.set_cons_zero]
                    refine wpAnyH_done (by kernel_rfl) ?_ _
                    have U5 : Hid (Upd [] w w5) := H3.out.1.trans hS
                    clear hS
                    go_wp2_with fail
                    go_ret
                    refine ⟨ret_boolN ?_, U5.out⟩
                    rw [HRR.out, all_no K i hlt2 (by rw [hKi.out, fnB]; rw [← HCB.out]; simp), Bool.and_false, Bool.and_false]
                  · obtain ⟨b1, o1, b2, o2, c2, a3, n3, c3, hfa, hn3, hc1, hc2⟩ := first_of HF.out.1 HCB.out.symm
                    subst hfa
                    have HC1 : Hid (∀ W, Upd [] w3 W → W.cell? ⟨b1, o1 + 4, none⟩ = some (.slice (some ⟨b2, o2, none⟩) 3 c2)) := fun W hW => hc1 W (H3.out.1.trans hW)
                    have HC2 : Hid (∀ W, Upd [] w3 W → W.cell? ⟨b2, o2 + 4, none⟩ = some (.slice a3 n3 c3)) := fun W hW => hc2 W (H3.out.1.trans hW)
                    have HN3 : Hid (n3 = parB FK ∧ 0 < FK.length) := hn3
                    have hfl0 : (0 : Int) < (FK.length : Int) := by have := HN3.out.2; omega
                    clear hc1 hc2 hn3
                    cases hf5 : (fn == (n3 : Int))
                    · have hf5' : (fn != (n3 : Int)) = true := by rw [bne, hf5]; rfl
                      refine wp_region_held_drew (S := fun W => Upd [] w3 W) (by kernel_rfl) (Upd.refl [] w3).drew (fun hS => ?_)
                      generalize World.drew _ = w4 at hS ⊢
                      refine wpAnyH_take (i := 0) (v := .pointer (some ⟨x, 0, none⟩)) rfl (by kernel_rfl) (by kernel_rfl) (by kernel_rfl) (fun _ _ _ h => h) (Or.inl ⟨by rfl, ?_⟩) hS ?_
                      · intro W hW; have hx := x1.mono hW (by simp); have e0 : W.cell? ⟨x, 0, none⟩ = some (.int .u8 fk) := hx.cell 0; have e1 : W.cell? ⟨x, 1, none⟩ = some (.string fs) := hx.cell 1; have e2 : W.cell? ⟨x, 2, none⟩ = some (.int .i64 fn) := hx.cell 2; have e3 : W.cell? ⟨x, 3, none⟩ = some (.int .i64 fp) := hx.cell 3; have e4 : W.cell? ⟨x, 4, none⟩ = some (.slice (some ⟨b1, o1, none⟩) FK.length fc) := hx.cell 4; go_simp
                      refine wpAnyH_take (i := 1) (v := .int .u8 fk) rfl (by kernel_rfl) (by kernel_rfl) (by kernel_rfl) (fun _ _ _ h => h) (Or.inl ⟨by rfl, ?_⟩) hS ?_
                      · intro W hW; have hx := x1.mono hW (by simp); have e0 : W.cell? ⟨x, 0, none⟩ = some (.int .u8 fk) := hx.cell 0; have e1 : W.cell? ⟨x, 1, none⟩ = some (.string fs) := hx.cell 1; have e2 : W.cell? ⟨x, 2, none⟩ = some (.int .i64 fn) := hx.cell 2; have e3 : W.cell? ⟨x, 3, none⟩ = some (.int .i64 fp) := hx.cell 3; have e4 : W.cell? ⟨x, 4, none⟩ = some (.slice (some ⟨b1, o1, none⟩) FK.length fc) := hx.cell 4; go_simp
                      refine wpAnyH_take (i := 2) (v := .bool false) rfl (by kernel_rfl) (by kernel_rfl) (by kernel_rfl) (fun _ _ _ h => h) (Or.inl ⟨by rfl, ?_⟩) hS ?_
                      · intro W hW; have hx := x1.mono hW (by simp); have e0 : W.cell? ⟨x, 0, none⟩ = some (.int .u8 fk) := hx.cell 0; have e1 : W.cell? ⟨x, 1, none⟩ = some (.string fs) := hx.cell 1; have e2 : W.cell? ⟨x, 2, none⟩ = some (.int .i64 fn) := hx.cell 2; have e3 : W.cell? ⟨x, 3, none⟩ = some (.int .i64 fp) := hx.cell 3; have e4 : W.cell? ⟨x, 4, none⟩ = some (.slice (some ⟨b1, o1, none⟩) FK.length fc) := hx.cell 4; go_simp
                      refine wpAnyH_take (i := 3) (v := .bool false) rfl (by kernel_rfl) (by kernel_rfl) (by kernel_rfl) (fun _ _ _ h => h) (Or.inl ⟨by rfl, ?_⟩) hS ?_
                      · intro W hW; have hx := x1.mono hW (by simp); have e0 : W.cell? ⟨x, 0, none⟩ = some (.int .u8 fk) := hx.cell 0; have e1 : W.cell? ⟨x, 1, none⟩ = some (.string fs) := hx.cell 1; have e2 : W.cell? ⟨x, 2, none⟩ = some (.int .i64 fn) := hx.cell 2; have e3 : W.cell? ⟨x, 3, none⟩ = some (.int .i64 fp) := hx.cell 3; have e4 : W.cell? ⟨x, 4, none⟩ = some (.slice (some ⟨b1, o1, none⟩) FK.length fc) := hx.cell 4; go_simp
                      simp only [Act.put, List.getElem_toArray, List.getElem_cons_succ, List.getElem_cons_zero, List.setIfInBounds_toArray, List.set_cons_succ, List.set_cons_zero]
                      refine wpAnyH_take (i := 4) (v := .pointer (some ⟨x, 3, none⟩)) rfl (by kernel_rfl) (by kernel_rfl) (by kernel_rfl) (fun _ _ _ h => h) (Or.inl ⟨by rfl, ?_⟩) hS ?_
                      · intro W hW; have hx := x1.mono hW (by simp); have e0 : W.cell? ⟨x, 0, none⟩ = some (.int .u8 fk) := hx.cell 0; have e1 : W.cell? ⟨x, 1, none⟩ = some (.string fs) := hx.cell 1; have e2 : W.cell? ⟨x, 2, none⟩ = some (.int .i64 fn) := hx.cell 2; have e3 : W.cell? ⟨x, 3, none⟩ = some (.int .i64 fp) := hx.cell 3; have e4 : W.cell? ⟨x, 4, none⟩ = some (.slice (some ⟨b1, o1, none⟩) FK.length fc) := hx.cell 4; go_simp
                      refine wpAnyH_take (i := 5) (v := .int .i64 fp) rfl (by kernel_rfl) (by kernel_rfl) (by kernel_rfl) (fun _ _ _ h => h) (Or.inl ⟨by rfl, ?_⟩) hS ?_
                      · intro W hW; have hx := x1.mono hW (by simp); have e0 : W.cell? ⟨x, 0, none⟩ = some (.int .u8 fk) := hx.cell 0; have e1 : W.cell? ⟨x, 1, none⟩ = some (.string fs) := hx.cell 1; have e2 : W.cell? ⟨x, 2, none⟩ = some (.int .i64 fn) := hx.cell 2; have e3 : W.cell? ⟨x, 3, none⟩ = some (.int .i64 fp) := hx.cell 3; have e4 : W.cell? ⟨x, 4, none⟩ = some (.slice (some ⟨b1, o1, none⟩) FK.length fc) := hx.cell 4; go_simp
                      refine wpAnyH_take (i := 6) (v := .bool false) rfl (by kernel_rfl) (by kernel_rfl) (by kernel_rfl) (fun _ _ _ h => h) (Or.inl ⟨by rfl, ?_⟩) hS ?_
                      · intro W hW; have hx := x1.mono hW (by simp); have e0 : W.cell? ⟨x, 0, none⟩ = some (.int .u8 fk) := hx.cell 0; have e1 : W.cell? ⟨x, 1, none⟩ = some (.string fs) := hx.cell 1; have e2 : W.cell? ⟨x, 2, none⟩ = some (.int .i64 fn) := hx.cell 2; have e3 : W.cell? ⟨x, 3, none⟩ = some (.int .i64 fp) := hx.cell 3; have e4 : W.cell? ⟨x, 4, none⟩ = some (.slice (some ⟨b1, o1, none⟩) FK.length fc) := hx.cell 4; go_simp
                      refine wpAnyH_take (i := 7) (v := .bool false) rfl (by kernel_rfl) (by kernel_rfl) (by kernel_rfl) (fun _ _ _ h => h) (Or.inl ⟨by rfl, ?_⟩) hS ?_
                      · intro W hW; have hx := x1.mono hW (by simp); have e0 : W.cell? ⟨x, 0, none⟩ = some (.int .u8 fk) := hx.cell 0; have e1 : W.cell? ⟨x, 1, none⟩ = some (.string fs) := hx.cell 1; have e2 : W.cell? ⟨x, 2, none⟩ = some (.int .i64 fn) := hx.cell 2; have e3 : W.cell? ⟨x, 3, none⟩ = some (.int .i64 fp) := hx.cell 3; have e4 : W.cell? ⟨x, 4, none⟩ = some (.slice (some ⟨b1, o1, none⟩) FK.length fc) := hx.cell 4; go_simp
                      refine wpAnyH_take (i := 8) (v := .bool false) rfl (by kernel_rfl) (by kernel_rfl) (by kernel_rfl) (fun _ _ _ h => h) (Or.inl ⟨by rfl, ?_⟩) hS ?_
                      · intro W hW; have hx := x1.mono hW (by simp); have e0 : W.cell? ⟨x, 0, none⟩ = some (.int .u8 fk) := hx.cell 0; have e1 : W.cell? ⟨x, 1, none⟩ = some (.string fs) := hx.cell 1; have e2 : W.cell? ⟨x, 2, none⟩ = some (.int .i64 fn) := hx.cell 2; have e3 : W.cell? ⟨x, 3, none⟩ = some (.int .i64 fp) := hx.cell 3; have e4 : W.cell? ⟨x, 4, none⟩ = some (.slice (some ⟨b1, o1, none⟩) FK.length fc) := hx.cell 4; go_simp
                      simp only [Act.put, List.getElem_toArray, List.getElem_cons_succ, List.getElem_cons_zero, List.setIfInBounds_toArray, List.set_cons_succ, List.set_cons_zero]
                      refine wpAnyH_take (i := 9) (v := .pointer (some ⟨x, 1, none⟩)) rfl (by kernel_rfl) (by kernel_rfl) (by kernel_rfl) (fun _ _ _ h => h) (Or.inl ⟨by rfl, ?_⟩) hS ?_
                      · intro W hW; have hx := x1.mono hW (by simp); have e0 : W.cell? ⟨x, 0, none⟩ = some (.int .u8 fk) := hx.cell 0; have e1 : W.cell? ⟨x, 1, none⟩ = some (.string fs) := hx.cell 1; have e2 : W.cell? ⟨x, 2, none⟩ = some (.int .i64 fn) := hx.cell 2; have e3 : W.cell? ⟨x, 3, none⟩ = some (.int .i64 fp) := hx.cell 3; have e4 : W.cell? ⟨x, 4, none⟩ = some (.slice (some ⟨b1, o1, none⟩) FK.length fc) := hx.cell 4; go_simp
                      refine wpAnyH_take (i := 10) (v := .string fs) rfl (by kernel_rfl) (by kernel_rfl) (by kernel_rfl) (fun _ _ _ h => h) (Or.inl ⟨by rfl, ?_⟩) hS ?_
                      · intro W hW; have hx := x1.mono hW (by simp); have e0 : W.cell? ⟨x, 0, none⟩ = some (.int .u8 fk) := hx.cell 0; have e1 : W.cell? ⟨x, 1, none⟩ = some (.string fs) := hx.cell 1; have e2 : W.cell? ⟨x, 2, none⟩ = some (.int .i64 fn) := hx.cell 2; have e3 : W.cell? ⟨x, 3, none⟩ = some (.int .i64 fp) := hx.cell 3; have e4 : W.cell? ⟨x, 4, none⟩ = some (.slice (some ⟨b1, o1, none⟩) FK.length fc) := hx.cell 4; go_simp
                      refine wpAnyH_take (i := 11) (v := .int .i64 fs.size) rfl (by kernel_rfl) (by kernel_rfl) (by kernel_rfl) (fun _ _ _ h => h) (Or.inl ⟨by rfl, ?_⟩) hS ?_
                      · intro W hW; have hx := x1.mono hW (by simp); have e0 : W.cell? ⟨x, 0, none⟩ = some (.int .u8 fk) := hx.cell 0; have e1 : W.cell? ⟨x, 1, none⟩ = some (.string fs) := hx.cell 1; have e2 : W.cell? ⟨x, 2, none⟩ = some (.int .i64 fn) := hx.cell 2; have e3 : W.cell? ⟨x, 3, none⟩ = some (.int .i64 fp) := hx.cell 3; have e4 : W.cell? ⟨x, 4, none⟩ = some (.slice (some ⟨b1, o1, none⟩) FK.length fc) := hx.cell 4; go_simp
                      refine wpAnyH_take (i := 12) (v := .bool false) rfl (by kernel_rfl) (by kernel_rfl) (by kernel_rfl) (fun _ _ _ h => h) (Or.inl ⟨by rfl, ?_⟩) hS ?_
                      · intro W hW; have hx := x1.mono hW (by simp); have e0 : W.cell? ⟨x, 0, none⟩ = some (.int .u8 fk) := hx.cell 0; have e1 : W.cell? ⟨x, 1, none⟩ = some (.string fs) := hx.cell 1; have e2 : W.cell? ⟨x, 2, none⟩ = some (.int .i64 fn) := hx.cell 2; have e3 : W.cell? ⟨x, 3, none⟩ = some (.int .i64 fp) := hx.cell 3; have e4 : W.cell? ⟨x, 4, none⟩ = some (.slice (some ⟨b1, o1, none⟩) FK.length fc) := hx.cell 4; go_simp
                      refine wpAnyH_take (i := 13) (v := .bool false) rfl (by kernel_rfl) (by kernel_rfl) (by kernel_rfl) (fun _ _ _ h => h) (Or.inl ⟨by rfl, ?_⟩) hS ?_
                      · intro W hW; have hx := x1.mono hW (by simp); have e0 : W.cell? ⟨x, 0, none⟩ = some (.int .u8 fk) := hx.cell 0; have e1 : W.cell? ⟨x, 1, none⟩ = some (.string fs) := hx.cell 1; have e2 : W.cell? ⟨x, 2, none⟩ = some (.int .i64 fn) := hx.cell 2; have e3 : W.cell? ⟨x, 3, none⟩ = some (.int .i64 fp) := hx.cell 3; have e4 : W.cell? ⟨x, 4, none⟩ = some (.slice (some ⟨b1, o1, none⟩) FK.length fc) := hx.cell 4; go_simp
                      refine wpAnyH_take (i := 14) (v := .bool false) rfl (by kernel_rfl) (by kernel_rfl) (by kernel_rfl) (fun _ _ _ h => h) (Or.inl ⟨by rfl, ?_⟩) hS ?_
                      · intro W hW; have hx := x1.mono hW (by simp); have e0 : W.cell? ⟨x, 0, none⟩ = some (.int .u8 fk) := hx.cell 0; have e1 : W.cell? ⟨x, 1, none⟩ = some (.string fs) := hx.cell 1; have e2 : W.cell? ⟨x, 2, none⟩ = some (.int .i64 fn) := hx.cell 2; have e3 : W.cell? ⟨x, 3, none⟩ = some (.int .i64 fp) := hx.cell 3; have e4 : W.cell? ⟨x, 4, none⟩ = some (.slice (some ⟨b1, o1, none⟩) FK.length fc) := hx.cell 4; go_simp
                      simp only [Act.put, List.getElem_toArray, List.getElem_cons_succ, List.getElem_cons_zero, List.setIfInBounds_toArray, List.set_cons_succ, List.set_cons_zero]
                      refine wpAnyH_take (i := 15) (v := .pointer (some ⟨x, 4, none⟩)) rfl (by kernel_rfl) (by kernel_rfl) (by kernel_rfl) (fun _ _ _ h => h) (Or.inl ⟨by rfl, ?_⟩) hS ?_
                      · intro W hW; have hx := x1.mono hW (by simp); have e0 : W.cell? ⟨x, 0, none⟩ = some (.int .u8 fk) := hx.cell 0; have e1 : W.cell? ⟨x, 1, none⟩ = some (.string fs) := hx.cell 1; have e2 : W.cell? ⟨x, 2, none⟩ = some (.int .i64 fn) := hx.cell 2; have e3 : W.cell? ⟨x, 3, none⟩ = some (.int .i64 fp) := hx.cell 3; have e4 : W.cell? ⟨x, 4, none⟩ = some (.slice (some ⟨b1, o1, none⟩) FK.length fc) := hx.cell 4; go_simp
                      refine wpAnyH_take (i := 16) (v := .slice (some ⟨b1, o1, none⟩) FK.length fc) rfl (by kernel_rfl) (by kernel_rfl) (by kernel_rfl) (fun _ _ _ h => h) (Or.inl ⟨by rfl, ?_⟩) hS ?_
                      · intro W hW; have hx := x1.mono hW (by simp); have e0 : W.cell? ⟨x, 0, none⟩ = some (.int .u8 fk) := hx.cell 0; have e1 : W.cell? ⟨x, 1, none⟩ = some (.string fs) := hx.cell 1; have e2 : W.cell? ⟨x, 2, none⟩ = some (.int .i64 fn) := hx.cell 2; have e3 : W.cell? ⟨x, 3, none⟩ = some (.int .i64 fp) := hx.cell 3; have e4 : W.cell? ⟨x, 4, none⟩ = some (.slice (some ⟨b1, o1, none⟩) FK.length fc) := hx.cell 4; go_simp
                      simp only [Act.put, List.getElem_toArray, List.getElem_cons_succ, List.getElem_cons_zero, List.setIfInBounds_toArray, List.set_cons_succ, List.set_cons_zero]
                      refine wpAnyH_ready (rs := [17]) (by kernel_rfl) (by simp) (AllReadyH.cons rfl (fun K' hK' => ?_) AllReadyH.nil)
                      go_simp
                      refine Calls.mono (HCL.out _ hS) ?_
                      rintro en w5 ⟨rfl, hu5⟩
                      have hS5 : Upd [] w3 w5 := hS.trans hu5
                      refine hK'.out _ _ hS5 (fun _ => ?_)
                      clear hK' K' hu5 hS
                      have hS : Upd [] w3 w5 := hS5
                      clear hS5
                      refine wpAnyH_take (i := 18) (v := .bool false) rfl (by kernel_rfl) (by kernel_rfl) (by kernel_rfl) (fun _ _ _ h => h) (Or.inl ⟨by rfl, ?_⟩) hS ?_
                      · intro W hW; have hx := x1.mono hW (by simp); have e0 : W.cell? ⟨x, 0, none⟩ = some (.int .u8 fk) := hx.cell 0; have e1 : W.cell? ⟨x, 1, none⟩ = some (.string fs) := hx.cell 1; have e2 : W.cell? ⟨x, 2, none⟩ = some (.int .i64 fn) := hx.cell 2; have e3 : W.cell? ⟨x, 3, none⟩ = some (.int .i64 fp) := hx.cell 3; have e4 : W.cell? ⟨x, 4, none⟩ = some (.slice (some ⟨b1, o1, none⟩) FK.length fc) := hx.cell 4; go_simp
                      refine wpAnyH_take (i := 19) (v := .bool false) rfl (by kernel_rfl) (by kernel_rfl) (by kernel_rfl) (fun _ _ _ h => h) (Or.inl ⟨by rfl, ?_⟩) hS ?_
                      · intro W hW; have hx := x1.mono hW (by simp); have e0 : W.cell? ⟨x, 0, none⟩ = some (.int .u8 fk) := hx.cell 0; have e1 : W.cell? ⟨x, 1, none⟩ = some (.string fs) := hx.cell 1; have e2 : W.cell? ⟨x, 2, none⟩ = some (.int .i64 fn) := hx.cell 2; have e3 : W.cell? ⟨x, 3, none⟩ = some (.int .i64 fp) := hx.cell 3; have e4 : W.cell? ⟨x, 4, none⟩ = some (.slice (some ⟨b1, o1, none⟩) FK.length fc) := hx.cell 4; go_simp
                      refine wpAnyH_take (i := 20) (v := .bool false) rfl (by kernel_rfl) (by kernel_rfl) (by kernel_rfl) (fun _ _ _ h => h) (Or.inl ⟨by rfl, ?_⟩) hS ?_
                      · intro W hW; have hx := x1.mono hW (by simp); have e0 : W.cell? ⟨x, 0, none⟩ = some (.int .u8 fk) := hx.cell 0; have e1 : W.cell? ⟨x, 1, none⟩ = some (.string fs) := hx.cell 1; have e2 : W.cell? ⟨x, 2, none⟩ = some (.int .i64 fn) := hx.cell 2; have e3 : W.cell? ⟨x, 3, none⟩ = some (.int .i64 fp) := hx.cell 3; have e4 : W.cell? ⟨x, 4, none⟩ = some (.slice (some ⟨b1, o1, none⟩) FK.length fc) := hx.cell 4; go_simp
                      simp only [Act.put, List.getElem_toArray, List.getElem_cons_succ, List.getElem_cons_zero, List.setIfInBounds_toArray, List.set_cons_succ, List.set_cons_zero]
                      refine wpAnyH_take (i := 21) (v := .pointer (some ⟨x, 2, none⟩)) rfl (by kernel_rfl) (by kernel_rfl) (by kernel_rfl) (fun _ _ _ h => h) (Or.inl ⟨by rfl, ?_⟩) hS ?_
                      · intro W hW; have hx := x1.mono hW (by simp); have e0 : W.cell? ⟨x, 0, none⟩ = some (.int .u8 fk) := hx.cell 0; have e1 : W.cell? ⟨x, 1, none⟩ = some (.string fs) := hx.cell 1; have e2 : W.cell? ⟨x, 2, none⟩ = some (.int .i64 fn) := hx.cell 2; have e3 : W.cell? ⟨x, 3, none⟩ = some (.int .i64 fp) := hx.cell 3; have e4 : W.cell? ⟨x, 4, none⟩ = some (.slice (some ⟨b1, o1, none⟩) FK.length fc) := hx.cell 4; go_simp
                      refine wpAnyH_take (i := 22) (v := .int .i64 fn) rfl (by kernel_rfl) (by kernel_rfl) (by kernel_rfl) (fun _ _ _ h => h) (Or.inl ⟨by rfl, ?_⟩) hS ?_
                      · intro W hW; have hx := x1.mono hW (by simp); have e0 : W.cell? ⟨x, 0, none⟩ = some (.int .u8 fk) := hx.cell 0; have e1 : W.cell? ⟨x, 1, none⟩ = some (.string fs) := hx.cell 1; have e2 : W.cell? ⟨x, 2, none⟩ = some (.int .i64 fn) := hx.cell 2; have e3 : W.cell? ⟨x, 3, none⟩ = some (.int .i64 fp) := hx.cell 3; have e4 : W.cell? ⟨x, 4, none⟩ = some (.slice (some ⟨b1, o1, none⟩) FK.length fc) := hx.cell 4; go_simp
                      simp only [Act.put, List.getElem_toArray, List.getElem_cons_succ, List.getElem_cons_zero, List.setIfInBounds_toArray, List.set_cons_succ, List.set_cons_zero]
                      refine wpAnyH_take (i := 23) (v := .pointer (some ⟨x, 4, none⟩)) rfl (by kernel_rfl) (by kernel_rfl) (by kernel_rfl) (fun _ _ _ h => h) (Or.inl ⟨by rfl, ?_⟩) hS ?_
                      · intro W hW; have hx := x1.mono hW (by simp); have e0 : W.cell? ⟨x, 0, none⟩ = some (.int .u8 fk) := hx.cell 0; have e1 : W.cell? ⟨x, 1, none⟩ = some (.string fs) := hx.cell 1; have e2 : W.cell? ⟨x, 2, none⟩ = some (.int .i64 fn) := hx.cell 2; have e3 : W.cell? ⟨x, 3, none⟩ = some (.int .i64 fp) := hx.cell 3; have e4 : W.cell? ⟨x, 4, none⟩ = some (.slice (some ⟨b1, o1, none⟩) FK.length fc) := hx.cell 4; go_simp
                      refine wpAnyH_take (i := 24) (v := .slice (some ⟨b1, o1, none⟩) FK.length fc) rfl (by kernel_rfl) (by kernel_rfl) (by kernel_rfl) (fun _ _ _ h => h) (Or.inl ⟨by rfl, ?_⟩) hS ?_
                      · intro W hW; have hx := x1.mono hW (by simp); have e0 : W.cell? ⟨x, 0, none⟩ = some (.int .u8 fk) := hx.cell 0; have e1 : W.cell? ⟨x, 1, none⟩ = some (.string fs) := hx.cell 1; have e2 : W.cell? ⟨x, 2, none⟩ = some (.int .i64 fn) := hx.cell 2; have e3 : W.cell? ⟨x, 3, none⟩ = some (.int .i64 fp) := hx.cell 3; have e4 : W.cell? ⟨x, 4, none⟩ = some (.slice (some ⟨b1, o1, none⟩) FK.length fc) := hx.cell 4; go_simp
                      simp only [Act.put, List.getElem_toArray, List.getElem_cons_succ, List.getElem_cons_zero, List.setIfInBounds_toArray, List.set_cons_succ, List.set_cons_zero]
                      refine wpAnyH_take (i := 25) (v := .pointer (some ⟨b1, o1, none⟩)) rfl (by kernel_rfl) (by kernel_rfl) (by kernel_rfl) (fun _ _ _ h => h) (Or.inl ⟨by rfl, ?_⟩) hS ?_
                      · intro W hW; skip; go_simp; intro h0; have h9 := HN3.out.2; rw [h0] at h9; simp at h9
                      refine wpAnyH_take (i := 26) (v := .pointer (some ⟨b1, o1 + 4, none⟩)) rfl (by kernel_rfl) (by kernel_rfl) (by kernel_rfl) (fun _ _ _ h => h) (Or.inl ⟨by rfl, ?_⟩) hS ?_
                      · intro W hW; skip; go_simp
                      simp only [Act.put, List.getElem_toArray, List.getElem_cons_succ, List.getElem_cons_zero, List.setIfInBounds_toArray, List.set_cons_succ, List.set_cons_zero]
                      refine wpAnyH_take (i := 27) (v := .slice (some ⟨b2, o2, none⟩) 3 c2) rfl (by kernel_rfl) (by kernel_rfl) (by kernel_rfl) (fun _ _ _ h => h) (Or.inl ⟨by rfl, ?_⟩) hS ?_
                      · intro W hW; have r1 := HC1.out W hW; go_simp
                      refine wpAnyH_take (i := 28) (v := .pointer (some ⟨b2, o2, none⟩)) rfl (by kernel_rfl) (by kernel_rfl) (by kernel_rfl) (fun _ _ _ h => h) (Or.inl ⟨by rfl, ?_⟩) hS ?_
                      · intro W hW; skip; go_simp
                      simp only [Act.put, List.getElem_toArray, List.getElem_cons_succ, List.getElem_cons_zero, List.setIfInBounds_toArray, List.set_cons_succ, List.set_cons_zero]
                      refine wpAnyH_take (i := 29) (v := .pointer (some ⟨b2, o2 + 4, none⟩)) rfl (by kernel_rfl) (by kernel_rfl) (by kernel_rfl) (fun _ _ _ h => h) (Or.inl ⟨by rfl, ?_⟩) hS ?_
                      · intro W hW; skip; go_simp
                      refine wpAnyH_take (i := 30) (v := .slice a3 n3 c3) rfl (by kernel_rfl) (by kernel_rfl) (by kernel_rfl) (fun _ _ _ h => h) (Or.inl ⟨by rfl, ?_⟩) hS ?_
                      · intro W hW; have r2 := HC2.out W hW; go_simp
                      simp only [Act.put, List.getElem_toArray, List.getElem_cons_succ, List.getElem_cons_zero, List.setIfInBounds_toArray, List.set_cons_succ, List.set_cons_zero]
                      refine wpAnyH_take (i := 31) (v := .int .i64 n3) rfl (by kernel_rfl) (by kernel_rfl) (by kernel_rfl) (fun _ _ _ h => h) (Or.inl ⟨by rfl, ?_⟩) hS ?_
                      · intro W hW; skip; go_simp
                      refine wpAnyH_take (i := 32) (v := .bool true) rfl (by kernel_rfl) (by kernel_rfl) (by kernel_rfl) (fun _ _ _ h => h) (Or.inl ⟨by rfl, ?_⟩) hS ?_
                      · intro W hW; skip; go_simp
                      simp only [Act.put, List.getElem_toArray, List.getElem_cons_succ, List.getElem_cons_zero, List.setIfInBounds_toArray, List.set_cons_succ, List.set_cons_zero]
                      refine wpAnyH_take (i := 33) (v := .bool true) rfl (by kernel_rfl) (by kernel_rfl) (by kernel_rfl) (fun _ _ _ h => h) (Or.inl ⟨by rfl, ?_⟩) hS ?_
                      · intro W hW; skip; go_simp
                      simp only [Act.put, List.getElem_toArray, List.getElem_cons_succ, List.getElem_cons_zero, List.setIfInBounds_toArray, List.set_cons_succ, List.set_cons_zero]
                      refine wpAnyH_done (by kernel_rfl) ?_ _
                      have U5 : Hid (Upd [] w w5) := H3.out.1.trans hS
                      clear hS
                      go_wp2_with fail
                      go_ret
                      refine ⟨ret_boolN ?_, U5.out⟩
                      rw [HRR.out, all_no K i hlt2 (by rw [hKi.out, fnB]; rw [← HN3.out.1, hf5]; simp), Bool.and_false, Bool.and_false]
                    · have hf5' : (fn != (n3 : Int)) = false := by rw [bne, hf5]; rfl
                      refine wp_region_held_drew (S := fun W => Upd [] w3 W) (by kernel_rfl) (Upd.refl [] w3).drew (fun hS => ?_)
                      generalize World.drew _ = w4 at hS ⊢
                      refine wpAnyH_take (i := 0) (v := .pointer (some ⟨x, 0, none⟩)) rfl (by kernel_rfl) (by kernel_rfl) (by kernel_rfl) (fun _ _ _ h => h) (Or.inl ⟨by rfl, ?_⟩) hS ?_
                      · intro W hW; have hx := x1.mono hW (by simp); have e0 : W.cell? ⟨x, 0, none⟩ = some (.int .u8 fk) := hx.cell 0; have e1 : W.cell? ⟨x, 1, none⟩ = some (.string fs) := hx.cell 1; have e2 : W.cell? ⟨x, 2, none⟩ = some (.int .i64 fn) := hx.cell 2; have e3 : W.cell? ⟨x, 3, none⟩ = some (.int .i64 fp) := hx.cell 3; have e4 : W.cell? ⟨x, 4, none⟩ = some (.slice (some ⟨b1, o1, none⟩) FK.length fc) := hx.cell 4; go_simp
                      refine wpAnyH_take (i := 1) (v := .int .u8 fk) rfl (by kernel_rfl) (by kernel_rfl) (by kernel_rfl) (fun _ _ _ h => h) (Or.inl ⟨by rfl, ?_⟩) hS ?_
                      · intro W hW; have hx := x1.mono hW (by simp); have e0 : W.cell? ⟨x, 0, none⟩ = some (.int .u8 fk) := hx.cell 0; have e1 : W.cell? ⟨x, 1, none⟩ = some (.string fs) := hx.cell 1; have e2 : W.cell? ⟨x, 2, none⟩ = some (.int .i64 fn) := hx.cell 2; have e3 : W.cell? ⟨x, 3, none⟩ = some (.int .i64 fp) := hx.cell 3; have e4 : W.cell? ⟨x, 4, none⟩ = some (.slice (some ⟨b1, o1, none⟩) FK.length fc) := hx.cell 4; go_simp
                      refine wpAnyH_take (i := 2) (v := .bool false) rfl (by kernel_rfl) (by kernel_rfl) (by kernel_rfl) (fun _ _ _ h => h) (Or.inl ⟨by rfl, ?_⟩) hS ?_
                      · intro W hW; have hx := x1.mono hW (by simp); have e0 : W.cell? ⟨x, 0, none⟩ = some (.int .u8 fk) := hx.cell 0; have e1 : W.cell? ⟨x, 1, none⟩ = some (.string fs) := hx.cell 1; have e2 : W.cell? ⟨x, 2, none⟩ = some (.int .i64 fn) := hx.cell 2; have e3 : W.cell? ⟨x, 3, none⟩ = some (.int .i64 fp) := hx.cell 3; have e4 : W.cell? ⟨x, 4, none⟩ = some (.slice (some ⟨b1, o1, none⟩) FK.length fc) := hx.cell 4; go_simp
                      refine wpAnyH_take (i := 3) (v := .bool false) rfl (by kernel_rfl) (by kernel_rfl) (by kernel_rfl) (fun _ _ _ h => h) (Or.inl ⟨by rfl, ?_⟩) hS ?_
                      · intro W hW; have hx := x1.mono hW (by simp); have e0 : W.cell? ⟨x, 0, none⟩ = some (.int .u8 fk) := hx.cell 0; have e1 : W.cell? ⟨x, 1, none⟩ = some (.string fs) := hx.cell 1; have e2 : W.cell? ⟨x, 2, none⟩ = some (.int .i64 fn) := hx.cell 2; have e3 : W.cell? ⟨x, 3, none⟩ = some (.int .i64 fp) := hx.cell 3; have e4 : W.cell? ⟨x, 4, none⟩ = some (.slice (some ⟨b1, o1, none⟩) FK.length fc) := hx.cell 4; go_simp
                      simp only [Act.put, List.getElem_toArray, List.getElem_cons_succ, List.getElem_cons_zero, List.setIfInBounds_toArray, List.set_cons_succ, List.set_cons_zero]
                      refine wpAnyH_take (i := 4) (v := .pointer (some ⟨x, 3, none⟩)) rfl (by kernel_rfl) (by kernel_rfl) (by kernel_rfl) (fun _ _ _ h => h) (Or.inl ⟨by rfl, ?_⟩) hS ?_
                      · intro W hW; have hx := x1.mono hW (by simp); have e0 : W.cell? ⟨x, 0, none⟩ = some (.int .u8 fk) := hx.cell 0; have e1 : W.cell? ⟨x, 1, none⟩ = some (.string fs) := hx.cell 1; have e2 : W.cell? ⟨x, 2, none⟩ = some (.int .i64 fn) := hx.cell 2; have e3 : W.cell? ⟨x, 3, none⟩ = some (.int .i64 fp) := hx.cell 3; have e4 : W.cell? ⟨x, 4, none⟩ = some (.slice (some ⟨b1, o1, none⟩) FK.length fc) := hx.cell 4; go_simp
                      refine wpAnyH_take (i := 5) (v := .int .i64 fp) rfl (by kernel_rfl) (by kernel_rfl) (by kernel_rfl) (fun _ _ _ h => h) (Or.inl ⟨by rfl, ?_⟩) hS ?_
                      · intro W hW; have hx := x1.mono hW (by simp); have e0 : W.cell? ⟨x, 0, none⟩ = some (.int .u8 fk) := hx.cell 0; have e1 : W.cell? ⟨x, 1, none⟩ = some (.string fs) := hx.cell 1; have e2 : W.cell? ⟨x, 2, none⟩ = some (.int .i64 fn) := hx.cell 2; have e3 : W.cell? ⟨x, 3, none⟩ = some (.int .i64 fp) := hx.cell 3; have e4 : W.cell? ⟨x, 4, none⟩ = some (.slice (some ⟨b1, o1, none⟩) FK.length fc) := hx.cell 4; go_simp
                      refine wpAnyH_take (i := 6) (v := .bool false) rfl (by kernel_rfl) (by kernel_rfl) (by kernel_rfl) (fun _ _ _ h => h) (Or.inl ⟨by rfl, ?_⟩) hS ?_
                      · intro W hW; have hx := x1.mono hW (by simp); have e0 : W.cell? ⟨x, 0, none⟩ = some (.int .u8 fk) := hx.cell 0; have e1 : W.cell? ⟨x, 1, none⟩ = some (.string fs) := hx.cell 1; have e2 : W.cell? ⟨x, 2, none⟩ = some (.int .i64 fn) := hx.cell 2; have e3 : W.cell? ⟨x, 3, none⟩ = some (.int .i64 fp) := hx.cell 3; have e4 : W.cell? ⟨x, 4, none⟩ = some (.slice (some ⟨b1, o1, none⟩) FK.length fc) := hx.cell 4; go_simp
                      refine wpAnyH_take (i := 7) (v := .bool false) rfl (by kernel_rfl) (by kernel_rfl) (by kernel_rfl) (fun _ _ _ h => h) (Or.inl ⟨by rfl, ?_⟩) hS ?_
                      · intro W hW; have hx := x1.mono hW (by simp); have e0 : W.cell? ⟨x, 0, none⟩ = some (.int .u8 fk) := hx.cell 0; have e1 : W.cell? ⟨x, 1, none⟩ = some (.string fs) := hx.cell 1; have e2 : W.cell? ⟨x, 2, none⟩ = some (.int .i64 fn) := hx.cell 2; have e3 : W.cell? ⟨x, 3, none⟩ = some (.int .i64 fp) := hx.cell 3; have e4 : W.cell? ⟨x, 4, none⟩ = some (.slice (some ⟨b1, o1, none⟩) FK.length fc) := hx.cell 4; go_simp
                      refine wpAnyH_take (i := 8) (v := .bool false) rfl (by kernel_rfl) (by kernel_rfl) (by kernel_rfl) (fun _ _ _ h => h) (Or.inl ⟨by rfl, ?_⟩) hS ?_
                      · intro W hW; have hx := x1.mono hW (by simp); have e0 : W.cell? ⟨x, 0, none⟩ = some (.int .u8 fk) := hx.cell 0; have e1 : W.cell? ⟨x, 1, none⟩ = some (.string fs) := hx.cell 1; have e2 : W.cell? ⟨x, 2, none⟩ = some (.int .i64 fn) := hx.cell 2; have e3 : W.cell? ⟨x, 3, none⟩ = some (.int .i64 fp) := hx.cell 3; have e4 : W.cell? ⟨x, 4, none⟩ = some (.slice (some ⟨b1, o1, none⟩) FK.length fc) := hx.cell 4; go_simp
                      simp only [Act.put, List.getElem_toArray, List.getElem_cons_succ, List.getElem_cons_zero, List.setIfInBounds_toArray, List.set_cons_succ, List.set_cons_zero]
                      refine wpAnyH_take (i := 9) (v := .pointer (some ⟨x, 1, none⟩)) rfl (by kernel_rfl) (by kernel_rfl) (by kernel_rfl) (fun _ _ _ h => h) (Or.inl ⟨by rfl, ?_⟩) hS ?_
                      · intro W hW; have hx := x1.mono hW (by simp); have e0 : W.cell? ⟨x, 0, none⟩ = some (.int .u8 fk) := hx.cell 0; have e1 : W.cell? ⟨x, 1, none⟩ = some (.string fs) := hx.cell 1; have e2 : W.cell? ⟨x, 2, none⟩ = some (.int .i64 fn) := hx.cell 2; have e3 : W.cell? ⟨x, 3, none⟩ = some (.int .i64 fp) := hx.cell 3; have e4 : W.cell? ⟨x, 4, none⟩ = some (.slice (some ⟨b1, o1, none⟩) FK.length fc) := hx.cell 4; go_simp
                      refine wpAnyH_take (i := 10) (v := .string fs) rfl (by kernel_rfl) (by kernel_rfl) (by kernel_rfl) (fun _ _ _ h => h) (Or.inl ⟨by rfl, ?_⟩) hS ?_
                      · intro W hW; have hx := x1.mono hW (by simp); have e0 : W.cell? ⟨x, 0, none⟩ = some (.int .u8 fk) := hx.cell 0; have e1 : W.cell? ⟨x, 1, none⟩ = some (.string fs) := hx.cell 1; have e2 : W.cell? ⟨x, 2, none⟩ = some (.int .i64 fn) := hx.cell 2; have e3 : W.cell? ⟨x, 3, none⟩ = some (.int .i64 fp) := hx.cell 3; have e4 : W.cell? ⟨x, 4, none⟩ = some (.slice (some ⟨b1, o1, none⟩) FK.length fc) := hx.cell 4; go_simp
                      refine wpAnyH_take (i := 11) (v := .int .i64 fs.size) rfl (by kernel_rfl) (by kernel_rfl) (by kernel_rfl) (fun _ _ _ h => h) (Or.inl ⟨by rfl, ?_⟩) hS ?_
                      · intro W hW; have hx := x1.mono hW (by simp); have e0 : W.cell? ⟨x, 0, none⟩ = some (.int .u8 fk) := hx.cell 0; have e1 : W.cell? ⟨x, 1, none⟩ = some (.string fs) := hx.cell 1; have e2 : W.cell? ⟨x, 2, none⟩ = some (.int .i64 fn) := hx.cell 2; have e3 : W.cell? ⟨x, 3, none⟩ = some (.int .i64 fp) := hx.cell 3; have e4 : W.cell? ⟨x, 4, none⟩ = some (.slice (some ⟨b1, o1, none⟩) FK.length fc) := hx.cell 4; go_simp
                      refine wpAnyH_take (i := 12) (v := .bool false) rfl (by kernel_rfl) (by kernel_rfl) (by kernel_rfl) (fun _ _ _ h => h) (Or.inl ⟨by rfl, ?_⟩) hS ?_
                      · intro W hW; have hx := x1.mono hW (by simp); have e0 : W.cell? ⟨x, 0, none⟩ = some (.int .u8 fk) := hx.cell 0; have e1 : W.cell? ⟨x, 1, none⟩ = some (.string fs) := hx.cell 1; have e2 : W.cell? ⟨x, 2, none⟩ = some (.int .i64 fn) := hx.cell 2; have e3 : W.cell? ⟨x, 3, none⟩ = some (.int .i64 fp) := hx.cell 3; have e4 : W.cell? ⟨x, 4, none⟩ = some (.slice (some ⟨b1, o1, none⟩) FK.length fc) := hx.cell 4; go_simp
                      refine wpAnyH_take (i := 13) (v := .bool false) rfl (by kernel_rfl) (by kernel_rfl) (by kernel_rfl) (fun _ _ _ h => h) (Or.inl ⟨by rfl, ?_⟩) hS ?_
                      · intro W hW; have hx := x1.mono hW (by simp); have e0 : W.cell? ⟨x, 0, none⟩ = some (.int .u8 fk) := hx.cell 0; have e1 : W.cell? ⟨x, 1, none⟩ = some (.string fs) := hx.cell 1; have e2 : W.cell? ⟨x, 2, none⟩ = some (.int .i64 fn) := hx.cell 2; have e3 : W.cell? ⟨x, 3, none⟩ = some (.int .i64 fp) := hx.cell 3; have e4 : W.cell? ⟨x, 4, none⟩ = some (.slice (some ⟨b1, o1, none⟩) FK.length fc) := hx.cell 4; go_simp
                      refine wpAnyH_take (i := 14) (v := .bool false) rfl (by kernel_rfl) (by kernel_rfl) (by kernel_rfl) (fun _ _ _ h => h) (Or.inl ⟨by rfl, ?_⟩) hS ?_
                      · intro W hW; have hx := x1.mono hW (by simp); have e0 : W.cell? ⟨x, 0, none⟩ = some (.int .u8 fk) := hx.cell 0; have e1 : W.cell? ⟨x, 1, none⟩ = some (.string fs) := hx.cell 1; have e2 : W.cell? ⟨x, 2, none⟩ = some (.int .i64 fn) := hx.cell 2; have e3 : W.cell? ⟨x, 3, none⟩ = some (.int .i64 fp) := hx.cell 3; have e4 : W.cell? ⟨x, 4, none⟩ = some (.slice (some ⟨b1, o1, none⟩) FK.length fc) := hx.cell 4; go_simp
                      simp only [Act.put, List.getElem_toArray, List.getElem_cons_succ, List.getElem_cons_zero, List.setIfInBounds_toArray, List.set_cons_succ, List.set_cons_zero]
                      refine wpAnyH_take (i := 15) (v := .pointer (some ⟨x, 4, none⟩)) rfl (by kernel_rfl) (by kernel_rfl) (by kernel_rfl) (fun _ _ _ h => h) (Or.inl ⟨by rfl, ?_⟩) hS ?_
                      · intro W hW; have hx := x1.mono hW (by simp); have e0 : W.cell? ⟨x, 0, none⟩ = some (.int .u8 fk) := hx.cell 0; have e1 : W.cell? ⟨x, 1, none⟩ = some (.string fs) := hx.cell 1; have e2 : W.cell? ⟨x, 2, none⟩ = some (.int .i64 fn) := hx.cell 2; have e3 : W.cell? ⟨x, 3, none⟩ = some (.int .i64 fp) := hx.cell 3; have e4 : W.cell? ⟨x, 4, none⟩ = some (.slice (some ⟨b1, o1, none⟩) FK.length fc) := hx.cell 4; go_simp
                      refine wpAnyH_take (i := 16) (v := .slice (some ⟨b1, o1, none⟩) FK.length fc) rfl (by kernel_rfl) (by kernel_rfl) (by kernel_rfl) (fun _ _ _ h => h) (Or.inl ⟨by rfl, ?_⟩) hS ?_
                      · intro W hW; have hx := x1.mono hW (by simp); have e0 : W.cell? ⟨x, 0, none⟩ = some (.int .u8 fk) := hx.cell 0; have e1 : W.cell? ⟨x, 1, none⟩ = some (.string fs) := hx.cell 1; have e2 : W.cell? ⟨x, 2, none⟩ = some (.int .i64 fn) := hx.cell 2; have e3 : W.cell? ⟨x, 3, none⟩ = some (.int .i64 fp) := hx.cell 3; have e4 : W.cell? ⟨x, 4, none⟩ = some (.slice (some ⟨b1, o1, none⟩) FK.length fc) := hx.cell 4; go_simp
                      simp only [Act.put, List.getElem_toArray, List.getElem_cons_succ, List.getElem_cons_zero, List.setIfInBounds_toArray, List.set_cons_succ, List.set_cons_zero]
                      refine wpAnyH_ready (rs := [17]) (by kernel_rfl) (by simp) (AllReadyH.cons rfl (fun K' hK' => ?_) AllReadyH.nil)
                      go_simp
                      refine Calls.mono (HCL.out _ hS) ?_
                      rintro en w5 ⟨rfl, hu5⟩
                      have hS5 : Upd [] w3 w5 := hS.trans hu5
                      refine hK'.out _ _ hS5 (fun _ => ?_)
                      clear hK' K' hu5 hS
                      have hS : Upd [] w3 w5 := hS5
                      clear hS5
                      refine wpAnyH_take (i := 18) (v := .bool false) rfl (by kernel_rfl) (by kernel_rfl) (by kernel_rfl) (fun _ _ _ h => h) (Or.inl ⟨by rfl, ?_⟩) hS ?_
                      · intro W hW; have hx := x1.mono hW (by simp); have e0 : W.cell? ⟨x, 0, none⟩ = some (.int .u8 fk) := hx.cell 0; have e1 : W.cell? ⟨x, 1, none⟩ = some (.string fs) := hx.cell 1; have e2 : W.cell? ⟨x, 2, none⟩ = some (.int .i64 fn) := hx.cell 2; have e3 : W.cell? ⟨x, 3, none⟩ = some (.int .i64 fp) := hx.cell 3; have e4 : W.cell? ⟨x, 4, none⟩ = some (.slice (some ⟨b1, o1, none⟩) FK.length fc) := hx.cell 4; go_simp
                      refine wpAnyH_take (i := 19) (v := .bool false) rfl (by kernel_rfl) (by kernel_rfl) (by kernel_rfl) (fun _ _ _ h => h) (Or.inl ⟨by rfl, ?_⟩) hS ?_
                      · intro W hW; have hx := x1.mono hW (by simp); have e0 : W.cell? ⟨x, 0, none⟩ = some (.int .u8 fk) := hx.cell 0; have e1 : W.cell? ⟨x, 1, none⟩ = some (.string fs) := hx.cell 1; have e2 : W.cell? ⟨x, 2, none⟩ = some (.int .i64 fn) := hx.cell 2; have e3 : W.cell? ⟨x, 3, none⟩ = some (.int .i64 fp) := hx.cell 3; have e4 : W.cell? ⟨x, 4, none⟩ = some (.slice (some ⟨b1, o1, none⟩) FK.length fc) := hx.cell 4; go_simp
                      refine wpAnyH_take (i := 20) (v := .bool false) rfl (by kernel_rfl) (by kernel_rfl) (by kernel_rfl) (fun _ _ _ h => h) (Or.inl ⟨by rfl, ?_⟩) hS ?_
                      · intro W hW; have hx := x1.mono hW (by simp); have e0 : W.cell? ⟨x, 0, none⟩ = some (.int .u8 fk) := hx.cell 0; have e1 : W.cell? ⟨x, 1, none⟩ = some (.string fs) := hx.cell 1; have e2 : W.cell? ⟨x, 2, none⟩ = some (.int .i64 fn) := hx.cell 2; have e3 : W.cell? ⟨x, 3, none⟩ = some (.int .i64 fp) := hx.cell 3; have e4 : W.cell? ⟨x, 4, none⟩ = some (.slice (some ⟨b1, o1, none⟩) FK.length fc) := hx.cell 4; go_simp
                      simp only [Act.put, List.getElem_toArray, List.getElem_cons_succ, List.getElem_cons_zero, List.setIfInBounds_toArray, List.set_cons_succ, List.set_cons_zero]
                      refine wpAnyH_take (i := 21) (v := .pointer (some ⟨x, 2, none⟩)) rfl (by kernel_rfl) (by kernel_rfl) (by kernel_rfl) (fun _ _ _ h => h) (Or.inl ⟨by rfl, ?_⟩) hS ?_
                      · intro W hW; have hx := x1.mono hW (by simp); have e0 : W.cell? ⟨x, 0, none⟩ = some (.int .u8 fk) := hx.cell 0; have e1 : W.cell? ⟨x, 1, none⟩ = some (.string fs) := hx.cell 1; have e2 : W.cell? ⟨x, 2, none⟩ = some (.int .i64 fn) := hx.cell 2; have e3 : W.cell? ⟨x, 3, none⟩ = some (.int .i64 fp) := hx.cell 3; have e4 : W.cell? ⟨x, 4, none⟩ = some (.slice (some ⟨b1, o1, none⟩) FK.length fc) := hx.cell 4; go_simp
                      refine wpAnyH_take (i := 22) (v := .int .i64 fn) rfl (by kernel_rfl) (by kernel_rfl) (by kernel_rfl) (fun _ _ _ h => h) (Or.inl ⟨by rfl, ?_⟩) hS ?_
                      · intro W hW; have hx := x1.mono hW (by simp); have e0 : W.cell? ⟨x, 0, none⟩ = some (.int .u8 fk) := hx.cell 0; have e1 : W.cell? ⟨x, 1, none⟩ = some (.string fs) := hx.cell 1; have e2 : W.cell? ⟨x, 2, none⟩ = some (.int .i64 fn) := hx.cell 2; have e3 : W.cell? ⟨x, 3, none⟩ = some (.int .i64 fp) := hx.cell 3; have e4 : W.cell? ⟨x, 4, none⟩ = some (.slice (some ⟨b1, o1, none⟩) FK.length fc) := hx.cell 4; go_simp
                      simp only [Act.put, List.getElem_toArray, List.getElem_cons_succ, List.getElem_cons_zero, List.setIfInBounds_toArray, List.set_cons_succ, List.set_cons_zero]
                      refine wpAnyH_take (i := 23) (v := .pointer (some ⟨x, 4, none⟩)) rfl (by kernel_rfl) (by kernel_rfl) (by kernel_rfl) (fun _ _ _ h => h) (Or.inl ⟨by rfl, ?_⟩) hS ?_
                      · intro W hW; have hx := x1.mono hW (by simp); have e0 : W.cell? ⟨x, 0, none⟩ = some (.int .u8 fk) := hx.cell 0; have e1 : W.cell? ⟨x, 1, none⟩ = some (.string fs) := hx.cell 1; have e2 : W.cell? ⟨x, 2, none⟩ = some (.int .i64 fn) := hx.cell 2; have e3 : W.cell? ⟨x, 3, none⟩ = some (.int .i64 fp) := hx.cell 3; have e4 : W.cell? ⟨x, 4, none⟩ = some (.slice (some ⟨b1, o1, none⟩) FK.length fc) := hx.cell 4; go_simp
                      refine wpAnyH_take (i := 24) (v := .slice (some ⟨b1, o1, none⟩) FK.length fc) rfl (by kernel_rfl) (by kernel_rfl) (by kernel_rfl) (fun _ _ _ h => h) (Or.inl ⟨by rfl, ?_⟩) hS ?_
                      · intro W hW; have hx := x1.mono hW (by simp); have e0 : W.cell? ⟨x, 0, none⟩ = some (.int .u8 fk) := hx.cell 0; have e1 : W.cell? ⟨x, 1, none⟩ = some (.string fs) := hx.cell 1; have e2 : W.cell? ⟨x, 2, none⟩ = some (.int .i64 fn) := hx.cell 2; have e3 : W.cell? ⟨x, 3, none⟩ = some (.int .i64 fp) := hx.cell 3; have e4 : W.cell? ⟨x, 4, none⟩ = some (.slice (some ⟨b1, o1, none⟩) FK.length fc) := hx.cell 4; go_simp
                      simp only [Act.put, List.getElem_toArray, List.getElem_cons_succ, List.getElem_cons_zero, List.setIfInBounds_toArray, List.set_cons_succ, List.set_cons_zero]
                      refine wpAnyH_take (i := 25) (v := .pointer (some ⟨b1, o1, none⟩)) rfl (by kernel_rfl) (by kernel_rfl) (by kernel_rfl) (fun _ _ _ h => h) (Or.inl ⟨by rfl, ?_⟩) hS ?_
                      · intro W hW; skip; go_simp; intro h0; have h9 := HN3.out.2; rw [h0] at h9; simp at h9
                      refine wpAnyH_take (i := 26) (v := .pointer (some ⟨b1, o1 + 4, none⟩)) rfl (by kernel_rfl) (by kernel_rfl) (by kernel_rfl) (fun _ _ _ h => h) (Or.inl ⟨by rfl, ?_⟩) hS ?_
                      · intro W hW; skip; go_simp
                      simp only [Act.put, List.getElem_toArray, List.getElem_cons_succ, List.getElem_cons_zero, List.setIfInBounds_toArray, List.set_cons_succ, List.set_cons_zero]
                      refine wpAnyH_take (i := 27) (v := .slice (some ⟨b2, o2, none⟩) 3 c2) rfl (by kernel_rfl) (by kernel_rfl) (by kernel_rfl) (fun _ _ _ h => h) (Or.inl ⟨by rfl, ?_⟩) hS ?_
                      · intro W hW; have r1 := HC1.out W hW; go_simp
                      refine wpAnyH_take (i := 28) (v := .pointer (some ⟨b2, o2, none⟩)) rfl (by kernel_rfl) (by kernel_rfl) (by kernel_rfl) (fun _ _ _ h => h) (Or.inl ⟨by rfl, ?_⟩) hS ?_
                      · intro W hW; skip; go_simp
                      simp only [Act.put, List.getElem_toArray, List.getElem_cons_succ, List.getElem_cons_zero, List.setIfInBounds_toArray, List.set_cons_succ, List.set_cons_zero]
                      refine wpAnyH_take (i := 29) (v := .pointer (some ⟨b2, o2 + 4, none⟩)) rfl (by kernel_rfl) (by kernel_rfl) (by kernel_rfl) (fun _ _ _ h => h) (Or.inl ⟨by rfl, ?_⟩) hS ?_
                      · intro W hW; skip; go_simp
                      refine wpAnyH_take (i := 30) (v := .slice a3 n3 c3) rfl (by kernel_rfl) (by kernel_rfl) (by kernel_rfl) (fun _ _ _ h => h) (Or.inl ⟨by rfl, ?_⟩) hS ?_
                      · intro W hW; have r2 := HC2.out W hW; go_simp
                      simp only [Act.put, List.getElem_toArray, List.getElem_cons_succ, List.getElem_cons_zero, List.setIfInBounds_toArray, List.set_cons_succ, List.set_cons_zero]
                      refine wpAnyH_take (i := 31) (v := .int .i64 n3) rfl (by kernel_rfl) (by kernel_rfl) (by kernel_rfl) (fun _ _ _ h => h) (Or.inl ⟨by rfl, ?_⟩) hS ?_
                      · intro W hW; skip; go_simp
                      refine wpAnyH_take (i := 32) (v := .bool false) rfl (by kernel_rfl) (by kernel_rfl) (by kernel_rfl) (fun _ _ _ h => h) (Or.inl ⟨by rfl, ?_⟩) hS ?_
                      · intro W hW; skip; go_simp
                      simp only [Act.put, List.getElem_toArray, List.getElem_cons_succ, List.getElem_cons_zero, List.setIfInBounds_toArray, List.set_cons_succ, List.set_cons_zero]
                      refine wpAnyH_take (i := 33) (v := .bool false) rfl (by kernel_rfl) (by kernel_rfl) (by kernel_rfl) (fun _ _ _ h => h) (Or.inl ⟨by rfl, ?_⟩) hS ?_
                      · intro W hW; skip; go_simp
                      simp only [Act.put, List.getElem_toArray, List.getElem_cons_succ, List.getElem_cons_zero, List.setIfInBounds_toArray, List.set_cons_succ, List.set_cons_zero]
                      refine wpAnyH_done (by kernel_rfl) ?_ _
                      have U5 : Hid (Upd [] w w5) := H3.out.1.trans hS
                      have T5 : Hid (Tb w5 w.heap.size #[.int .u8 k, .string s, .int .i64 num, .int .i64 pos, .slice (some ⟨b, o, none⟩) K.length c]) := H3.out.2.mono hS (by simp)
                      clear hS
                      go_wp2_with fail
                      go_roundw
                      case rel => exact ⟨i + 1, by omega, by go_num, by rw [all_take K i hlt2, HTH.out, hKi.out, fnB]; rw [← HN3.out.1, hf5, hf1, ← HCB.out, decide_eq_true (by omega : 0 ≤ fp), decide_eq_true (by omega : fs.size ≤ 40)]; rfl, U5.out, T5.out⟩
                      case measure => simp [intOf]; omega
        · obtain rfl : i = K.length := by omega
          go_wp2_with fail
          go_ret
          refine ⟨ret_boolN ?_, HU.out.1⟩
          have h9 := HTH.out
          rw [List.take_length] at h9
          rw [HRR.out, hk, h9, ← HP.out]
          rfl

end Go.Proofs.YtehfoblfmehbdaaDoor
