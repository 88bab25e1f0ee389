/- NameNumbers, walked. -/
import Derived.Test.YtpojkmpimnnjiaaGreatNbA
import Derived.Test.YtpojkmpimnnjiaaGreatNmF
import Derived.Test.YtpojkmpimnnjiaaGreatNnB
import Derived.Test.YtpojkmpimnnjiaaGreatNnM
import Derived.Deep.RegionHeld3
namespace Go.Proofs.YtpojkmpimnnjiaaGreat
open Go.RowKit Go.Maps

def nmV : Array Value := #[.string ⟨#[]⟩, .string ⟨#[97]⟩, .string ⟨#[97, 0]⟩, .string ⟨#[97, 98]⟩, .string ⟨#[98]⟩, .string ⟨#[255]⟩]
def pdV : Array Value := #[.int .i64 (-9223372036854775808), .int .i64 (-1), .int .i64 0, .int .i64 1, .int .i64 9223372036854775807, .int .i64 7]
theorem nmV_at {i : Nat} (hi : i < 6) : nmV[i]? = some (encStr (nm i)) := by
  rcases (by omega : i = 0 ∨ i = 1 ∨ i = 2 ∨ i = 3 ∨ i = 4 ∨ i = 5) with rfl | rfl | rfl | rfl | rfl | rfl <;> rfl
theorem pdV_at {i : Nat} (hi : i < 6) : pdV[i]? = some (.int .i64 (pd i)) := by
  rcases (by omega : i = 0 ∨ i = 1 ∨ i = 2 ∨ i = 3 ∨ i = 4 ∨ i = 5) with rfl | rfl | rfl | rfl | rfl | rfl <;> rfl
theorem news_at {w : World} {cs : List Value} {t : TypeId} {W : World} (hW : W = (w.alloc (.cells cs.toArray t)).drew) : ∀ j u, cs[j]? = some u → W.cell? ((⟨w.heap.size, 0, none⟩ : Addr).add j) = some u := fun j u hj => by
  have h : Cl W w.heap.size cs.toArray t := by
    rw [hW]
    exact Cl.new w cs.toArray t _ rfl
  have e : ((⟨w.heap.size, 0, none⟩ : Addr).add j) = ⟨w.heap.size, j, none⟩ := by cases j <;> simp [Addr.add]
  rw [e]
  exact (h.cell j).trans (by simpa using hj)
theorem three_do {a b c : Sp} (ha : okD a) (hb : okD b) (hc : okD c) : ∀ i, i < 3 → ∃ d : Sp, okD d ∧ ([.int .i64 a.1, .int .i64 a.2.1, encStr a.2.2, .int .i64 b.1, .int .i64 b.2.1, encStr b.2.2, .int .i64 c.1, .int .i64 c.2.1, encStr c.2.2] : List Value)[i * 3]? = some (.int .i64 d.1) ∧ ([.int .i64 a.1, .int .i64 a.2.1, encStr a.2.2, .int .i64 b.1, .int .i64 b.2.1, encStr b.2.2, .int .i64 c.1, .int .i64 c.2.1, encStr c.2.2] : List Value)[i * 3 + 1]? = some (.int .i64 d.2.1) ∧ ([.int .i64 a.1, .int .i64 a.2.1, encStr a.2.2, .int .i64 b.1, .int .i64 b.2.1, encStr b.2.2, .int .i64 c.1, .int .i64 c.2.1, encStr c.2.2] : List Value)[i * 3 + 2]? = some (encStr d.2.2) := fun i hi => by
  rcases (by omega : i = 0 ∨ i = 1 ∨ i = 2) with rfl | rfl | rfl
  · exact ⟨a, ha, rfl, rfl, rfl⟩
  · exact ⟨b, hb, rfl, rfl, rfl⟩
  · exact ⟨c, hc, rfl, rfl, rfl⟩

set_option maxHeartbeats 16000000 in
set_option maxRecDepth 100000 in
theorem Numbers_walk (w : World) : Calls Tryz.prog 4 #[] w fun e w' => e = .returned (.bool true) ∧ Upd [] w w' := by
  obtain ⟨Wa, hWa⟩ : ∃ Wa, Wa = w.alloc (.cells nmV 9) := ⟨_, rfl⟩
  obtain ⟨R, hR⟩ : ∃ R, R = w.heap.size := ⟨_, rfl⟩
  obtain ⟨W1, hW1⟩ : ∃ W1, W1 = Wa.alloc (.cells pdV 3) := ⟨_, rfl⟩
  obtain ⟨P, hP⟩ : ∃ P, P = Wa.heap.size := ⟨_, rfl⟩
  have hua : Upd [] w Wa := by rw [hWa]; exact (Upd.refl [] w).alloc _
  have hu1 : Upd [] Wa W1 := by rw [hW1]; exact (Upd.refl [] Wa).alloc _
  have hca : Cl Wa R nmV 9 := by rw [hWa, hR]; exact Cl.new _ _ _ _ rfl
  have hc1 : Cl W1 P pdV 3 := by rw [hW1, hP]; exact Cl.new _ _ _ _ rfl
  have HN : Hid ((∀ W, Upd [] W1 W → ∀ k, k < 6 → W.cell? ⟨R, k, none⟩ = some (encStr (nm k))) ∧ (∀ W, Upd [] W1 W → ∀ k, k < 6 → W.cell? ⟨P, k, none⟩ = some (.int .i64 (pd k)))) :=
    ⟨fun W hW k hk => by
      rw [(hca.upd (hu1.trans hW) (by simp)).cell]
      exact nmV_at hk, fun W hW k hk => by
      rw [(hc1.upd hW (by simp)).cell]
      exact pdV_at hk⟩
  have H1 : Hid (Upd [] w W1) := hua.trans hu1
  have HL : Hid (R < W1.heap.size ∧ P < W1.heap.size) := ⟨Nat.lt_of_lt_of_le hca.lt hu1.size, hc1.lt⟩
  have HWa : Hid (Wa = w.alloc (.cells #[.string ⟨#[]⟩, .string ⟨#[97]⟩, .string ⟨#[97, 0]⟩, .string ⟨#[97, 98]⟩, .string ⟨#[98]⟩, .string ⟨#[255]⟩] 9)) := hWa
  have HW : Hid (W1 = Wa.alloc (.cells #[.int .i64 (-9223372036854775808), .int .i64 (-1), .int .i64 0, .int .i64 1, .int .i64 9223372036854775807, .int .i64 7] 3)) := hW1
  have HR : Hid (R = w.heap.size) := hR
  have HP : Hid (P = R + 1) := by show P = R + 1; rw [hP, hWa, hR]; simp
  clear hWa hR hW1 hP hua hu1 hca hc1
  go_enter Tryz.func4, Tryz.ntmps4
  go_wp2_with fail
  rw [← HWa.out, ← HR.out, ← HW.out, ← HP.out]
  clear HWa HW HR HP
  go_loopw [3, 4] (fun s3 s4 wr => ∃ (i : Nat), i ≤ 6 ∧ s4 = .int .i64 (i : Nat) ∧ DQ wr s3 (3 * i) ∧ (∀ g, oB s3 = some g → W1.heap.size ≤ g) ∧ Upd [] W1 wr) (fun _ s4 _ => 6 - (intOf s4).toNat)
  case atStart => exact ⟨0, by omega, rfl, DQ.nil _, (fun g hg => by cases hg), Upd.refl [] W1⟩
  case round =>
    obtain ⟨i, hi, rfl, hd, ho, hu⟩ := hrel
    obtain ⟨qa, qc, hvf⟩ := hd.form
    subst hvf
    have HD : Hid (DQ wr (.slice qa (3 * i) qc) (3 * i) ∧ (∀ g, oB (.slice qa (3 * i) qc) = some g → W1.heap.size ≤ g) ∧ Upd [] W1 wr) := ⟨hd, ho, hu⟩
    obtain ⟨n, hn⟩ : ∃ n, n = 3 * i := ⟨_, rfl⟩
    rw [← hn] at HD ⊢
    clear hd ho hu
    by_cases hi6 : i < 6
    · have i6 : (i : Int) < 6 := by omega
      have HI : Hid (n = 3 * i) := hn
      have hn60 : n ≤ 60 := by omega
      obtain ⟨S1, hS1⟩ : ∃ S1, S1 = nm (5 - i) := ⟨_, rfl⟩
      obtain ⟨S2, hS2⟩ : ∃ S2, S2 = nm i := ⟨_, rfl⟩
      obtain ⟨A, hA⟩ : ∃ A, A = pd i := ⟨_, rfl⟩
      have HX : Hid (I64 A ∧ okB S1 ∧ okB S2) := ⟨by rw [hA]; exact pd_i64 _, by rw [hS1]; exact nm_ok _, by rw [hS2]; exact nm_ok _⟩
      have hR : R < wr.heap.size := Nat.lt_of_lt_of_le HL.out.1 HD.out.2.2.size
      have hP : P < wr.heap.size := Nat.lt_of_lt_of_le HL.out.2 HD.out.2.2.size
      have hRv : ¬ oB (.slice qa n qc) = some R := fun e => by have := HD.out.2.1 R e; have := HL.out.1; omega
      have hPv : ¬ oB (.slice qa n qc) = some P := fun e => by have := HD.out.2.1 P e; have := HL.out.2; omega
      have cs : wr.cell? ⟨R, i, none⟩ = some (encStr S2) := by rw [hS2]; exact HN.out.1 wr HD.out.2.2 i hi6
      have ca : wr.cell? ⟨P, i, none⟩ = some (.int .i64 A) := by rw [hA]; exact HN.out.2 wr HD.out.2.2 i hi6
      obtain ⟨q, hq⟩ : ∃ q : Nat, q = 5 - i := ⟨_, rfl⟩
      have q6 : (q : Int) < 6 := by omega
      have hqi : (5 : Int) - (i : Int) = (q : Int) := by omega
      have cq : wr.cell? ⟨R, q, none⟩ = some (encStr S1) := by rw [hS1, hq]; exact HN.out.1 wr HD.out.2.2 _ (by omega)
      clear hq hS1 hS2 hA hn
      go_upto_region 7 with fail
      refine wp_region_held_drew (S := fun W => UpP (fun z => oB (.slice qa n qc) = some z) wr W) (by kernel_rfl) (UpP.refl _ wr).drew (fun hS => ?_)
      refine wpAnyH_take (i := 0) (v := .slice qa n qc) rfl (by kernel_rfl) (by kernel_rfl) (by kernel_rfl) (fun _ _ _ h => h) (Or.inl ⟨by rfl, ?_⟩) hS ?_
      · intro W hW; go_simp
      refine wpAnyH_take (i := 1) (v := .slice (some ⟨R, 0, none⟩) 6 6) rfl (by kernel_rfl) (by kernel_rfl) (by kernel_rfl) (fun _ _ _ h => h) (Or.inl ⟨by rfl, ?_⟩) hS ?_
      · intro W hW; go_simp
      refine wpAnyH_take (i := 2) (v := .int .i64 (i : Nat)) rfl (by kernel_rfl) (by kernel_rfl) (by kernel_rfl) (fun _ _ _ h => h) (Or.inl ⟨by rfl, ?_⟩) hS ?_
      · intro W hW; go_simp
      simp only [Act.put, List.getElem_toArray, List.getElem_cons_succ, List.getElem_cons_zero, List.setIfInBounds_toArray, List.set_cons_succ, List.set_cons_zero]
      refine wpAnyH_take (i := 3) (v := .int .i64 (q : Nat)) rfl (by kernel_rfl) (by kernel_rfl) (by kernel_rfl) (fun _ _ _ h => h) (Or.inl ⟨by rfl, ?_⟩) hS ?_
      · intro W hW; have e2 : (5 : Int) - (i : Int) = (q : Int) := hqi; have e3 : IntKind.i64.wrap (q : Int) = (q : Int) := IntWalk.i64_in _ ⟨by omega, by omega⟩; go_simp
      simp only [Act.put, List.getElem_toArray, List.getElem_cons_succ, List.getElem_cons_zero, List.setIfInBounds_toArray, List.set_cons_succ, List.set_cons_zero]
      refine wpAnyH_take (i := 4) (v := .pointer (some ⟨R, q, none⟩)) rfl (by kernel_rfl) (by kernel_rfl) (by kernel_rfl) (fun _ _ _ h => h) (Or.inl ⟨by rfl, ?_⟩) hS ?_
      · intro W hW; go_simp
      refine wpAnyH_take (i := 5) (v := encStr S1) rfl (by kernel_rfl) (by kernel_rfl) (by kernel_rfl) (fun _ _ _ h => h) (Or.inl ⟨by rfl, ?_⟩) hS ?_
      · intro W hW; have e1 : W.cell? ⟨R, q, none⟩ = some (encStr S1) := (hW.cell (p := ⟨R, q, none⟩) hR hRv).trans cq; go_simp
      simp only [Act.put, List.getElem_toArray, List.getElem_cons_succ, List.getElem_cons_zero, List.setIfInBounds_toArray, List.set_cons_succ, List.set_cons_zero]
      refine wpAnyH_take (i := 6) (v := .slice (some ⟨P, 0, none⟩) 6 6) rfl (by kernel_rfl) (by kernel_rfl) (by kernel_rfl) (fun _ _ _ h => h) (Or.inl ⟨by rfl, ?_⟩) hS ?_
      · intro W hW; go_simp
      refine wpAnyH_take (i := 7) (v := .int .i64 (i : Nat)) rfl (by kernel_rfl) (by kernel_rfl) (by kernel_rfl) (fun _ _ _ h => h) (Or.inl ⟨by rfl, ?_⟩) hS ?_
      · intro W hW; go_simp
      simp only [Act.put, List.getElem_toArray, List.getElem_cons_succ, List.getElem_cons_zero, List.setIfInBounds_toArray, List.set_cons_succ, List.set_cons_zero]
      refine wpAnyH_take (i := 8) (v := .pointer (some ⟨P, i, none⟩)) rfl (by kernel_rfl) (by kernel_rfl) (by kernel_rfl) (fun _ _ _ h => h) (Or.inl ⟨by rfl, ?_⟩) hS ?_
      · intro W hW; go_simp
      refine wpAnyH_take (i := 9) (v := .int .i64 A) rfl (by kernel_rfl) (by kernel_rfl) (by kernel_rfl) (fun _ _ _ h => h) (Or.inl ⟨by rfl, ?_⟩) hS ?_
      · intro W hW; have e1 : W.cell? ⟨P, i, none⟩ = some (.int .i64 A) := (hW.cell (p := ⟨P, i, none⟩) hP hPv).trans ca; go_simp
      simp only [Act.put, List.getElem_toArray, List.getElem_cons_succ, List.getElem_cons_zero, List.setIfInBounds_toArray, List.set_cons_succ, List.set_cons_zero]
      refine wpAnyH_take (i := 10) (v := .agg #[.int .i64 7, .int .i64 A, encStr S1]) rfl (by kernel_rfl) (by kernel_rfl) (by kernel_rfl) (fun _ _ _ h => h) (Or.inl ⟨by rfl, ?_⟩) hS ?_
      · intro W hW; go_simp
      refine wpAnyH_take (i := 11) (v := .slice (some ⟨R, 0, none⟩) 6 6) rfl (by kernel_rfl) (by kernel_rfl) (by kernel_rfl) (fun _ _ _ h => h) (Or.inl ⟨by rfl, ?_⟩) hS ?_
      · intro W hW; go_simp
      refine wpAnyH_take (i := 12) (v := .int .i64 (i : Nat)) rfl (by kernel_rfl) (by kernel_rfl) (by kernel_rfl) (fun _ _ _ h => h) (Or.inl ⟨by rfl, ?_⟩) hS ?_
      · intro W hW; go_simp
      simp only [Act.put, List.getElem_toArray, List.getElem_cons_succ, List.getElem_cons_zero, List.setIfInBounds_toArray, List.set_cons_succ, List.set_cons_zero]
      refine wpAnyH_take (i := 13) (v := .pointer (some ⟨R, i, none⟩)) rfl (by kernel_rfl) (by kernel_rfl) (by kernel_rfl) (fun _ _ _ h => h) (Or.inl ⟨by rfl, ?_⟩) hS ?_
      · intro W hW; go_simp
      refine wpAnyH_take (i := 14) (v := encStr S2) rfl (by kernel_rfl) (by kernel_rfl) (by kernel_rfl) (fun _ _ _ h => h) (Or.inl ⟨by rfl, ?_⟩) hS ?_
      · intro W hW; have e1 : W.cell? ⟨R, i, none⟩ = some (encStr S2) := (hW.cell (p := ⟨R, i, none⟩) hR hRv).trans cs; go_simp
      simp only [Act.put, List.getElem_toArray, List.getElem_cons_succ, List.getElem_cons_zero, List.setIfInBounds_toArray, List.set_cons_succ, List.set_cons_zero]
      refine wpAnyH_take (i := 15) (v := .slice (some ⟨P, 0, none⟩) 6 6) rfl (by kernel_rfl) (by kernel_rfl) (by kernel_rfl) (fun _ _ _ h => h) (Or.inl ⟨by rfl, ?_⟩) hS ?_
      · intro W hW; go_simp
      refine wpAnyH_take (i := 16) (v := .int .i64 (i : Nat)) rfl (by kernel_rfl) (by kernel_rfl) (by kernel_rfl) (fun _ _ _ h => h) (Or.inl ⟨by rfl, ?_⟩) hS ?_
      · intro W hW; go_simp
      simp only [Act.put, List.getElem_toArray, List.getElem_cons_succ, List.getElem_cons_zero, List.setIfInBounds_toArray, List.set_cons_succ, List.set_cons_zero]
      refine wpAnyH_take (i := 17) (v := .pointer (some ⟨P, i, none⟩)) rfl (by kernel_rfl) (by kernel_rfl) (by kernel_rfl) (fun _ _ _ h => h) (Or.inl ⟨by rfl, ?_⟩) hS ?_
      · intro W hW; go_simp
      refine wpAnyH_take (i := 18) (v := .int .i64 A) rfl (by kernel_rfl) (by kernel_rfl) (by kernel_rfl) (fun _ _ _ h => h) (Or.inl ⟨by rfl, ?_⟩) hS ?_
      · intro W hW; have e1 : W.cell? ⟨P, i, none⟩ = some (.int .i64 A) := (hW.cell (p := ⟨P, i, none⟩) hP hPv).trans ca; go_simp
      simp only [Act.put, List.getElem_toArray, List.getElem_cons_succ, List.getElem_cons_zero, List.setIfInBounds_toArray, List.set_cons_succ, List.set_cons_zero]
      refine wpAnyH_take (i := 19) (v := .agg #[.int .i64 7, .int .i64 A, encStr S2]) rfl (by kernel_rfl) (by kernel_rfl) (by kernel_rfl) (fun _ _ _ h => h) (Or.inl ⟨by rfl, ?_⟩) hS ?_
      · intro W hW; go_simp
      refine wpAnyH_take (i := 20) (v := .slice (some ⟨R, 0, none⟩) 6 6) rfl (by kernel_rfl) (by kernel_rfl) (by kernel_rfl) (fun _ _ _ h => h) (Or.inl ⟨by rfl, ?_⟩) hS ?_
      · intro W hW; go_simp
      refine wpAnyH_take (i := 21) (v := .int .i64 (i : Nat)) rfl (by kernel_rfl) (by kernel_rfl) (by kernel_rfl) (fun _ _ _ h => h) (Or.inl ⟨by rfl, ?_⟩) hS ?_
      · intro W hW; go_simp
      simp only [Act.put, List.getElem_toArray, List.getElem_cons_succ, List.getElem_cons_zero, List.setIfInBounds_toArray, List.set_cons_succ, List.set_cons_zero]
      refine wpAnyH_take (i := 22) (v := .pointer (some ⟨R, i, none⟩)) rfl (by kernel_rfl) (by kernel_rfl) (by kernel_rfl) (fun _ _ _ h => h) (Or.inl ⟨by rfl, ?_⟩) hS ?_
      · intro W hW; go_simp
      refine wpAnyH_take (i := 23) (v := encStr S2) rfl (by kernel_rfl) (by kernel_rfl) (by kernel_rfl) (fun _ _ _ h => h) (Or.inl ⟨by rfl, ?_⟩) hS ?_
      · intro W hW; have e1 : W.cell? ⟨R, i, none⟩ = some (encStr S2) := (hW.cell (p := ⟨R, i, none⟩) hR hRv).trans cs; go_simp
      simp only [Act.put, List.getElem_toArray, List.getElem_cons_succ, List.getElem_cons_zero, List.setIfInBounds_toArray, List.set_cons_succ, List.set_cons_zero]
      refine wpAnyH_take (i := 24) (v := .agg #[.int .i64 2, .int .i64 0, encStr S2]) rfl (by kernel_rfl) (by kernel_rfl) (by kernel_rfl) (fun _ _ _ h => h) (Or.inl ⟨by rfl, ?_⟩) hS ?_
      · intro W hW; go_simp
      simp only [Act.put, List.getElem_toArray, List.getElem_cons_succ, List.getElem_cons_zero, List.setIfInBounds_toArray, List.set_cons_succ, List.set_cons_zero]
      refine wpAnyH_ready (rs := [25]) (by kernel_rfl) (by simp) (AllReadyH.cons rfl (fun K hK => ?_) AllReadyH.nil)
      go_simp
      obtain ⟨W4, hW4⟩ : ∃ W4, W4 = (wr.alloc (.cells #[.int .i64 7, .int .i64 A, encStr S1, .int .i64 7, .int .i64 A, encStr S2, .int .i64 2, .int .i64 0, encStr S2] 33)).drew := ⟨_, rfl⟩
      have hU1 : Upd [] wr W4 := by rw [hW4]; exact ((Upd.refl [] wr).alloc _).drew
      have HSr : Hid (∀ j u, ([.int .i64 7, .int .i64 A, encStr S1, .int .i64 7, .int .i64 A, encStr S2, .int .i64 2, .int .i64 0, encStr S2] : List Value)[j]? = some u → W4.cell? ((⟨wr.heap.size, 0, none⟩ : Addr).add j) = some u) := news_at hW4
      rw [← hW4]
      clear hW4
      have hS2 : UpP (fun z => oB (.slice qa n qc) = some z) wr W4 := hU1.toN
      refine hK.out _ _ hS2 (fun _ => ?_)
      clear hK K hS
      have hS := hS2
      clear hS2
      refine wpAnyH_ready (rs := [26]) (by kernel_rfl) (by simp) (AllReadyH.cons rfl (fun K hK => ?_) AllReadyH.nil)
      rw [if_pos (by rfl)]
      refine oper_appD _ _ rfl (.slice qa n qc) n 3 3 ⟨wr.heap.size, 0, none⟩ _ rfl rfl (HD.out.1.upd hU1 (by simp)) rfl HSr.out (three_do (a := (7, A, S1)) (b := (7, A, S2)) (c := (2, 0, S2)) ⟨i64_small (x := 7) (by omega) (by omega), HX.out.1, HX.out.2.1⟩ ⟨i64_small (x := 7) (by omega) (by omega), HX.out.1, HX.out.2.2⟩ ⟨i64_small (x := 2) (by omega) (by omega), i64_small (x := 0) (by omega) (by omega), HX.out.2.2⟩) (by omega) (by omega) ?_
      intro g2 c2 W2 hD2 hu2 hat
      have HE : Hid (DQ W2 (.slice (some ⟨g2, 0, none⟩) (n + 3) c2) (n + 3) ∧ W1.heap.size ≤ g2 ∧ Upd [] W1 W2) := by
        have h5 := HD.out.2.2.size
        have hg : W1.heap.size ≤ g2 := by
          rcases hat with e | e
          · exact HD.out.2.1 g2 e
          · have := hU1.size; omega
        exact ⟨hD2, hg, (HD.out.2.2.trans hU1).then hu2 (fun z hz => Or.inl (by simp only [List.mem_singleton] at hz; omega))⟩
      have hS2 : UpP (fun z => oB (.slice qa n qc) = some z) wr W2 := by
        refine hS.thenP hu2.toP (fun z hz => ?_)
        simp only [List.mem_singleton] at hz
        subst hz
        rcases hat with e | e
        · exact Or.inr e
        · exact Or.inl (by have := hU1.size; omega)
      refine hK.out _ _ hS2 (fun _ => ?_)
      clear hK K hS hD2 hu2 hat hU1
      have hS := hS2
      clear hS2
      refine wpAnyH_take (i := 27) (v := .slice (some ⟨g2, 0, none⟩) (n + 3) c2) rfl (by kernel_rfl) (by kernel_rfl) (by kernel_rfl) (fun _ _ _ h => h) (Or.inl ⟨by rfl, ?_⟩) hS ?_
      · intro W hW; go_simp
      simp only [Act.put, List.getElem_toArray, List.getElem_cons_succ, List.getElem_cons_zero, List.setIfInBounds_toArray, List.set_cons_succ, List.set_cons_zero]
      refine wpAnyH_done (by kernel_rfl) ?_ _
      clear hS
      go_wp2_with fail
      go_roundw
      case rel => exact ⟨i + 1, by omega, by go_num, by rw [show 3 * (i + 1) = n + 3 by have := HI.out; omega]; exact HE.out.1, (fun g hg => by rw [oB_some hg]; exact HE.out.2.1), HE.out.2.2⟩
      case measure => simp [intOf]; omega
    · have i6 : decide ((i : Int) < 6) = false := decide_eq_false (by omega)
      have hn18 : n = 18 := by omega
      subst hn18
      have H3 : Hid (DQ wr (.slice qa 18 qc) 18 ∧ (∀ g, oB (.slice qa 18 qc) = some g → W1.heap.size ≤ g) ∧ Upd [] W1 wr) := HD.out
      clear hn hi6 HD hi
      go_wp2_with fail
      go_loopw [3, 5] (fun s3 s5 wx => ∃ (i : Nat), i ≤ 6 ∧ s5 = .int .i64 (i : Nat) ∧ DQ wx s3 (18 + 3 * i) ∧ (∀ g, oB s3 = some g → W1.heap.size ≤ g) ∧ Upd [] W1 wx) (fun _ s5 _ => 6 - (intOf s5).toNat)
      case atStart => exact ⟨0, by omega, rfl, H3.out⟩
      case round =>
        clear H3
        obtain ⟨i, hi, rfl, hd, ho, hu⟩ := hrel
        obtain ⟨qa, qc, hvf⟩ := hd.form
        subst hvf
        have HD : Hid (DQ wr (.slice qa (18 + 3 * i) qc) (18 + 3 * i) ∧ (∀ g, oB (.slice qa (18 + 3 * i) qc) = some g → W1.heap.size ≤ g) ∧ Upd [] W1 wr) := ⟨hd, ho, hu⟩
        obtain ⟨n, hn⟩ : ∃ n, n = 18 + 3 * i := ⟨_, rfl⟩
        rw [← hn] at HD ⊢
        clear hd ho hu
        by_cases hi6 : i < 6
        · have i6 : (i : Int) < 6 := by omega
          have HI : Hid (n = 18 + 3 * i) := hn
          have hn60 : n ≤ 60 := by omega
          obtain ⟨r, hr⟩ : ∃ r : Nat, r = i % 2 := ⟨_, rfl⟩
          obtain ⟨q, hq⟩ : ∃ q : Nat, q = (i + 3) % 6 := ⟨_, rfl⟩
          obtain ⟨B, hB⟩ : ∃ B, B = pd q := ⟨_, rfl⟩
          have hr2 : r < 2 := by omega
          have hq6 : q < 6 := by omega
          have q6 : (q : Int) < 6 := by omega
          have hri : (i : Int).tmod 2 = (r : Int) := by rw [Int.tmod_eq_emod_of_nonneg (by omega)]; omega
          have hqi : ((i : Int) + 3).tmod 6 = (q : Int) := by rw [Int.tmod_eq_emod_of_nonneg (by omega)]; omega
          obtain ⟨S1, hS1⟩ : ∃ S1, S1 = nm (5 - i) := ⟨_, rfl⟩
          obtain ⟨S2, hS2⟩ : ∃ S2, S2 = nm i := ⟨_, rfl⟩
          obtain ⟨A, hA⟩ : ∃ A, A = pd i := ⟨_, rfl⟩
          have HX : Hid (I64 A ∧ okB S1 ∧ okB S2 ∧ I64 B) := ⟨by rw [hA]; exact pd_i64 _, by rw [hS1]; exact nm_ok _, by rw [hS2]; exact nm_ok _, by rw [hB]; exact pd_i64 _⟩
          have hR : R < wr.heap.size := Nat.lt_of_lt_of_le HL.out.1 HD.out.2.2.size
          have hP : P < wr.heap.size := Nat.lt_of_lt_of_le HL.out.2 HD.out.2.2.size
          have hRv : ¬ oB (.slice qa n qc) = some R := fun e => by have := HD.out.2.1 R e; have := HL.out.1; omega
          have hPv : ¬ oB (.slice qa n qc) = some P := fun e => by have := HD.out.2.1 P e; have := HL.out.2; omega
          have cs : wr.cell? ⟨R, i, none⟩ = some (encStr S2) := by rw [hS2]; exact HN.out.1 wr HD.out.2.2 i hi6
          have ca : wr.cell? ⟨P, i, none⟩ = some (.int .i64 A) := by rw [hA]; exact HN.out.2 wr HD.out.2.2 i hi6
          have cb : wr.cell? ⟨P, q, none⟩ = some (.int .i64 B) := by rw [hB]; exact HN.out.2 wr HD.out.2.2 q hq6
          clear hq hr hB hS2 hA hn
          go_upto_region 11 with fail
          refine wp_region_held_drew (S := fun W => UpP (fun z => oB (.slice qa n qc) = some z) wr W) (by kernel_rfl) (UpP.refl _ wr).drew (fun hS => ?_)
          refine wpAnyH_take (i := 0) (v := .slice qa n qc) rfl (by kernel_rfl) (by kernel_rfl) (by kernel_rfl) (fun _ _ _ h => h) (Or.inl ⟨by rfl, ?_⟩) hS ?_
          · intro W hW; go_simp
          refine wpAnyH_take (i := 1) (v := .int .i64 (i : Nat)) rfl (by kernel_rfl) (by kernel_rfl) (by kernel_rfl) (fun _ _ _ h => h) (Or.inl ⟨by rfl, ?_⟩) hS ?_
          · intro W hW; go_simp
          simp only [Act.put, List.getElem_toArray, List.getElem_cons_succ, List.getElem_cons_zero, List.setIfInBounds_toArray, List.set_cons_succ, List.set_cons_zero]
          refine wpAnyH_take (i := 2) (v := .int .i64 (r : Nat)) rfl (by kernel_rfl) (by kernel_rfl) (by kernel_rfl) (fun _ _ _ h => h) (Or.inl ⟨by rfl, ?_⟩) hS ?_
          · intro W hW; have e2 : (i : Int).tmod 2 = (r : Int) := hri; have e3 : IntKind.i64.wrap (r : Int) = (r : Int) := IntWalk.i64_in _ ⟨by omega, by omega⟩; go_simp
          refine wpAnyH_take (i := 3) (v := .slice (some ⟨R, 0, none⟩) 6 6) rfl (by kernel_rfl) (by kernel_rfl) (by kernel_rfl) (fun _ _ _ h => h) (Or.inl ⟨by rfl, ?_⟩) hS ?_
          · intro W hW; go_simp
          refine wpAnyH_take (i := 4) (v := .int .i64 (i : Nat)) rfl (by kernel_rfl) (by kernel_rfl) (by kernel_rfl) (fun _ _ _ h => h) (Or.inl ⟨by rfl, ?_⟩) hS ?_
          · intro W hW; go_simp
          simp only [Act.put, List.getElem_toArray, List.getElem_cons_succ, List.getElem_cons_zero, List.setIfInBounds_toArray, List.set_cons_succ, List.set_cons_zero]
          refine wpAnyH_take (i := 5) (v := .pointer (some ⟨R, i, none⟩)) rfl (by kernel_rfl) (by kernel_rfl) (by kernel_rfl) (fun _ _ _ h => h) (Or.inl ⟨by rfl, ?_⟩) hS ?_
          · intro W hW; go_simp
          refine wpAnyH_take (i := 6) (v := encStr S2) rfl (by kernel_rfl) (by kernel_rfl) (by kernel_rfl) (fun _ _ _ h => h) (Or.inl ⟨by rfl, ?_⟩) hS ?_
          · intro W hW; have e1 : W.cell? ⟨R, i, none⟩ = some (encStr S2) := (hW.cell (p := ⟨R, i, none⟩) hR hRv).trans cs; go_simp
          simp only [Act.put, List.getElem_toArray, List.getElem_cons_succ, List.getElem_cons_zero, List.setIfInBounds_toArray, List.set_cons_succ, List.set_cons_zero]
          refine wpAnyH_take (i := 7) (v := .slice (some ⟨P, 0, none⟩) 6 6) rfl (by kernel_rfl) (by kernel_rfl) (by kernel_rfl) (fun _ _ _ h => h) (Or.inl ⟨by rfl, ?_⟩) hS ?_
          · intro W hW; go_simp
          refine wpAnyH_take (i := 8) (v := .int .i64 (i : Nat)) rfl (by kernel_rfl) (by kernel_rfl) (by kernel_rfl) (fun _ _ _ h => h) (Or.inl ⟨by rfl, ?_⟩) hS ?_
          · intro W hW; go_simp
          simp only [Act.put, List.getElem_toArray, List.getElem_cons_succ, List.getElem_cons_zero, List.setIfInBounds_toArray, List.set_cons_succ, List.set_cons_zero]
          refine wpAnyH_take (i := 9) (v := .int .i64 ((i : Int) + 3)) rfl (by kernel_rfl) (by kernel_rfl) (by kernel_rfl) (fun _ _ _ h => h) (Or.inl ⟨by rfl, ?_⟩) hS ?_
          · intro W hW; have e3 : IntKind.i64.wrap ((i : Int) + 3) = (i : Int) + 3 := IntWalk.i64_in _ ⟨by omega, by omega⟩; go_simp
          simp only [Act.put, List.getElem_toArray, List.getElem_cons_succ, List.getElem_cons_zero, List.setIfInBounds_toArray, List.set_cons_succ, List.set_cons_zero]
          refine wpAnyH_take (i := 10) (v := .int .i64 (q : Nat)) rfl (by kernel_rfl) (by kernel_rfl) (by kernel_rfl) (fun _ _ _ h => h) (Or.inl ⟨by rfl, ?_⟩) hS ?_
          · intro W hW; have e2 : ((i : Int) + 3).tmod 6 = (q : Int) := hqi; have e3 : IntKind.i64.wrap (q : Int) = (q : Int) := IntWalk.i64_in _ ⟨by omega, by omega⟩; go_simp
          simp only [Act.put, List.getElem_toArray, List.getElem_cons_succ, List.getElem_cons_zero, List.setIfInBounds_toArray, List.set_cons_succ, List.set_cons_zero]
          refine wpAnyH_take (i := 11) (v := .pointer (some ⟨P, q, none⟩)) rfl (by kernel_rfl) (by kernel_rfl) (by kernel_rfl) (fun _ _ _ h => h) (Or.inl ⟨by rfl, ?_⟩) hS ?_
          · intro W hW; go_simp
          refine wpAnyH_take (i := 12) (v := .int .i64 B) rfl (by kernel_rfl) (by kernel_rfl) (by kernel_rfl) (fun _ _ _ h => h) (Or.inl ⟨by rfl, ?_⟩) hS ?_
          · intro W hW; have e1 : W.cell? ⟨P, q, none⟩ = some (.int .i64 B) := (hW.cell (p := ⟨P, q, none⟩) hP hPv).trans cb; go_simp
          simp only [Act.put, List.getElem_toArray, List.getElem_cons_succ, List.getElem_cons_zero, List.setIfInBounds_toArray, List.set_cons_succ, List.set_cons_zero]
          refine wpAnyH_take (i := 13) (v := .agg #[.int .i64 (r : Nat), .int .i64 B, encStr S2]) rfl (by kernel_rfl) (by kernel_rfl) (by kernel_rfl) (fun _ _ _ h => h) (Or.inl ⟨by rfl, ?_⟩) hS ?_
          · intro W hW; go_simp
          refine wpAnyH_take (i := 14) (v := .slice (some ⟨R, 0, none⟩) 6 6) rfl (by kernel_rfl) (by kernel_rfl) (by kernel_rfl) (fun _ _ _ h => h) (Or.inl ⟨by rfl, ?_⟩) hS ?_
          · intro W hW; go_simp
          refine wpAnyH_take (i := 15) (v := .int .i64 (i : Nat)) rfl (by kernel_rfl) (by kernel_rfl) (by kernel_rfl) (fun _ _ _ h => h) (Or.inl ⟨by rfl, ?_⟩) hS ?_
          · intro W hW; go_simp
          simp only [Act.put, List.getElem_toArray, List.getElem_cons_succ, List.getElem_cons_zero, List.setIfInBounds_toArray, List.set_cons_succ, List.set_cons_zero]
          refine wpAnyH_take (i := 16) (v := .pointer (some ⟨R, i, none⟩)) rfl (by kernel_rfl) (by kernel_rfl) (by kernel_rfl) (fun _ _ _ h => h) (Or.inl ⟨by rfl, ?_⟩) hS ?_
          · intro W hW; go_simp
          refine wpAnyH_take (i := 17) (v := encStr S2) rfl (by kernel_rfl) (by kernel_rfl) (by kernel_rfl) (fun _ _ _ h => h) (Or.inl ⟨by rfl, ?_⟩) hS ?_
          · intro W hW; have e1 : W.cell? ⟨R, i, none⟩ = some (encStr S2) := (hW.cell (p := ⟨R, i, none⟩) hR hRv).trans cs; go_simp
          simp only [Act.put, List.getElem_toArray, List.getElem_cons_succ, List.getElem_cons_zero, List.setIfInBounds_toArray, List.set_cons_succ, List.set_cons_zero]
          refine wpAnyH_take (i := 18) (v := .slice (some ⟨P, 0, none⟩) 6 6) rfl (by kernel_rfl) (by kernel_rfl) (by kernel_rfl) (fun _ _ _ h => h) (Or.inl ⟨by rfl, ?_⟩) hS ?_
          · intro W hW; go_simp
          refine wpAnyH_take (i := 19) (v := .int .i64 (i : Nat)) rfl (by kernel_rfl) (by kernel_rfl) (by kernel_rfl) (fun _ _ _ h => h) (Or.inl ⟨by rfl, ?_⟩) hS ?_
          · intro W hW; go_simp
          simp only [Act.put, List.getElem_toArray, List.getElem_cons_succ, List.getElem_cons_zero, List.setIfInBounds_toArray, List.set_cons_succ, List.set_cons_zero]
          refine wpAnyH_take (i := 20) (v := .pointer (some ⟨P, i, none⟩)) rfl (by kernel_rfl) (by kernel_rfl) (by kernel_rfl) (fun _ _ _ h => h) (Or.inl ⟨by rfl, ?_⟩) hS ?_
          · intro W hW; go_simp
          refine wpAnyH_take (i := 21) (v := .int .i64 A) rfl (by kernel_rfl) (by kernel_rfl) (by kernel_rfl) (fun _ _ _ h => h) (Or.inl ⟨by rfl, ?_⟩) hS ?_
          · intro W hW; have e1 : W.cell? ⟨P, i, none⟩ = some (.int .i64 A) := (hW.cell (p := ⟨P, i, none⟩) hP hPv).trans ca; go_simp
          simp only [Act.put, List.getElem_toArray, List.getElem_cons_succ, List.getElem_cons_zero, List.setIfInBounds_toArray, List.set_cons_succ, List.set_cons_zero]
          refine wpAnyH_take (i := 22) (v := .agg #[.int .i64 7, .int .i64 A, encStr S2]) rfl (by kernel_rfl) (by kernel_rfl) (by kernel_rfl) (fun _ _ _ h => h) (Or.inl ⟨by rfl, ?_⟩) hS ?_
          · intro W hW; go_simp
          refine wpAnyH_take (i := 23) (v := .agg #[.int .i64 0, .int .i64 99, encStr []]) rfl (by kernel_rfl) (by kernel_rfl) (by kernel_rfl) (fun _ _ _ h => h) (Or.inl ⟨by rfl, ?_⟩) hS ?_
          · intro W hW; go_simp
          simp only [Act.put, List.getElem_toArray, List.getElem_cons_succ, List.getElem_cons_zero, List.setIfInBounds_toArray, List.set_cons_succ, List.set_cons_zero]
          refine wpAnyH_ready (rs := [24]) (by kernel_rfl) (by simp) (AllReadyH.cons rfl (fun K hK => ?_) AllReadyH.nil)
          go_simp
          obtain ⟨W4, hW4⟩ : ∃ W4, W4 = (wr.alloc (.cells #[.int .i64 (r : Nat), .int .i64 B, encStr S2, .int .i64 7, .int .i64 A, encStr S2, .int .i64 0, .int .i64 99, encStr []] 33)).drew := ⟨_, rfl⟩
          have hU1 : Upd [] wr W4 := by rw [hW4]; exact ((Upd.refl [] wr).alloc _).drew
          have HSr : Hid (∀ j u, ([.int .i64 (r : Nat), .int .i64 B, encStr S2, .int .i64 7, .int .i64 A, encStr S2, .int .i64 0, .int .i64 99, encStr []] : List Value)[j]? = some u → W4.cell? ((⟨wr.heap.size, 0, none⟩ : Addr).add j) = some u) := news_at hW4
          rw [← hW4]
          clear hW4
          have hS2 : UpP (fun z => oB (.slice qa n qc) = some z) wr W4 := hU1.toN
          refine hK.out _ _ hS2 (fun _ => ?_)
          clear hK K hS
          have hS := hS2
          clear hS2
          refine wpAnyH_ready (rs := [25]) (by kernel_rfl) (by simp) (AllReadyH.cons rfl (fun K hK => ?_) AllReadyH.nil)
          rw [if_pos (by rfl)]
          refine oper_appD _ _ rfl (.slice qa n qc) n 3 3 ⟨wr.heap.size, 0, none⟩ _ rfl rfl (HD.out.1.upd hU1 (by simp)) rfl HSr.out (three_do (a := ((r : Int), B, S2)) (b := (7, A, S2)) (c := (0, 99, [])) ⟨i64_small (x := (r : Int)) (by omega) (by omega), HX.out.2.2.2, HX.out.2.2.1⟩ ⟨i64_small (x := 7) (by omega) (by omega), HX.out.1, HX.out.2.2.1⟩ ⟨i64_small (x := 0) (by omega) (by omega), i64_small (x := 99) (by omega) (by omega), by simp [okB]⟩) (by omega) (by omega) ?_
          intro g2 c2 W2 hD2 hu2 hat
          have HE : Hid (DQ W2 (.slice (some ⟨g2, 0, none⟩) (n + 3) c2) (n + 3) ∧ W1.heap.size ≤ g2 ∧ Upd [] W1 W2) := by
            have h5 := HD.out.2.2.size
            have hg : W1.heap.size ≤ g2 := by
              rcases hat with e | e
              · exact HD.out.2.1 g2 e
              · have := hU1.size; omega
            exact ⟨hD2, hg, (HD.out.2.2.trans hU1).then hu2 (fun z hz => Or.inl (by simp only [List.mem_singleton] at hz; omega))⟩
          have hS2 : UpP (fun z => oB (.slice qa n qc) = some z) wr W2 := by
            refine hS.thenP hu2.toP (fun z hz => ?_)
            simp only [List.mem_singleton] at hz
            subst hz
            rcases hat with e | e
            · exact Or.inr e
            · exact Or.inl (by have := hU1.size; omega)
          refine hK.out _ _ hS2 (fun _ => ?_)
          clear hK K hS hD2 hu2 hat hU1
          have hS := hS2
          clear hS2
          refine wpAnyH_take (i := 26) (v := .slice (some ⟨g2, 0, none⟩) (n + 3) c2) rfl (by kernel_rfl) (by kernel_rfl) (by kernel_rfl) (fun _ _ _ h => h) (Or.inl ⟨by rfl, ?_⟩) hS ?_
          · intro W hW; go_simp
          simp only [Act.put, List.getElem_toArray, List.getElem_cons_succ, List.getElem_cons_zero, List.setIfInBounds_toArray, List.set_cons_succ, List.set_cons_zero]
          refine wpAnyH_done (by kernel_rfl) ?_ _
          clear hS
          go_wp2_with fail
          go_roundw
          case rel => exact ⟨i + 1, by omega, by go_num, by rw [show 18 + 3 * (i + 1) = n + 3 by have := HI.out; omega]; exact HE.out.1, (fun g hg => by rw [oB_some hg]; exact HE.out.2.1), HE.out.2.2⟩
          case measure => simp [intOf]; omega
        · have j6 : decide ((i : Int) < 6) = false := decide_eq_false (by omega)
          have hn36 : n = 36 := by omega
          subst hn36
          obtain ⟨p, c, hpc, hc1, hc2, hst⟩ := HD.out.1.steps
          simp only [Value.slice.injEq, true_and] at hpc
          obtain ⟨rfl, rfl⟩ := hpc
          have H4 : Hid (Steps wr qa 36 ∧ 36 ≤ qc ∧ qc ≤ 9223372036854775807 ∧ Upd [] W1 wr) := ⟨hst, hc1, hc2, HD.out.2.2⟩
          have H5 : Hid (Upd [] w wr) := H1.out.trans HD.out.2.2
          clear hn hi6 HD hi hst hc1 hc2 H1
          obtain ⟨Wb, hWb⟩ : ∃ Wb, Wb = wr := ⟨_, rfl⟩
          subst hWb
          go_wp2_with fail
          refine Calls.mono (ow_new Wb Wb (Upd.refl [] Wb)) ?_
          rintro e w2 ⟨l, rfl, o⟩
          have H6 : Hid (Ow Wb w2 l 0 (FF 0) (GG 0)) := o
          clear o
          go_wp2_with fail
          go_loopw [7] (fun s7 wx => ∃ k : Nat, s7 = .int .i64 (k : Nat) ∧ k ≤ 6 ∧ Ow Wb wx l k (FF k) (GG k)) (fun s7 _ => 6 - (intOf s7).toNat)
          case atStart => exact ⟨0, rfl, by omega, H6.out⟩
          case round =>
            clear H6
            obtain ⟨k, rfl, hk, o⟩ := hrel
            have HO : Hid (Ow Wb wr l k (FF k) (GG k)) := o
            clear o
            by_cases hk6 : k < 6
            · have k6 : (k : Int) < 6 := by omega
              obtain ⟨S1, hS1⟩ : ∃ S1, S1 = nm (5 - k) := ⟨_, rfl⟩
              obtain ⟨A, hA⟩ : ∃ A, A = pd k := ⟨_, rfl⟩
              obtain ⟨q, hq⟩ : ∃ q : Nat, q = 5 - k := ⟨_, rfl⟩
              have q6 : (q : Int) < 6 := by omega
              have hqi : (5 : Int) - (k : Int) = (q : Int) := by omega
              have hqw : IntKind.i64.wrap (q : Int) = (q : Int) := IntWalk.i64_in _ ⟨by omega, by omega⟩
              have HX : Hid (I64 A ∧ okB S1 ∧ S1.length ≤ 1000000000 ∧ FF k S1 = none ∧ GG k A = none ∧ FF (k + 1) S1 = some A ∧ GG (k + 1) A = some S1) := by
                rw [hA, hS1]
                exact ⟨pd_i64 _, nm_ok _, by have := nm_len (5 - k); omega, ff_new hk6, gg_new hk6, ff_has k, gg_has k⟩
              have HY : Hid (at1 (FF k) S1 (some A) = FF (k + 1) ∧ at1 (GG k) A (some S1) = GG (k + 1)) := by
                rw [hA, hS1]
                exact ⟨rfl, rfl⟩
              have HC : Hid (∀ W, Upd [] Wb W → W.cell? ⟨R, q, none⟩ = some (encStr S1) ∧ W.cell? ⟨P, k, none⟩ = some (.int .i64 A)) := fun W hW => by
                rw [hA, hS1, hq]
                exact ⟨HN.out.1 W (H4.out.2.2.2.trans hW) _ (by omega), HN.out.2 W (H4.out.2.2.2.trans hW) _ hk6⟩
              clear hA hS1 hq
              have q0 : wr.cell? ⟨R, q, none⟩ = some (encStr S1) := (HC.out wr HO.out.up).1
              have q1 : wr.cell? ⟨P, k, none⟩ = some (.int .i64 A) := (HC.out wr HO.out.up).2
              go_upto_region 16 with fail
              go_region_held3 (fun W => W.cell? ⟨R, q, none⟩ = some (encStr S1) ∧ W.cell? ⟨P, k, none⟩ = some (.int .i64 A))
                (go_keep)
                (first
                  | (go_at_call 12; refine Calls.mono (ow_put_no (s := [110, 101, 119]) (H8.out.upd (by repeat (first | exact Upd.refl _ _ | refine Upd.drew ?_))) (by simp [okB, maxLen]) HX.out.1 (by rw [HX.out.2.2.2.2.2.2]; simp)) ?_; rintro e w5 ⟨rfl, o⟩; have H9 : Hid (Ow Wb w5 l (k + 1) (FF (k + 1)) (GG (k + 1))) := o; obtain ⟨r1, r2⟩ := HC.out w5 H9.out.up; clear o)
                  | (go_at_call 12; refine Calls.mono (ow_put_no (s := S1) (H7.out.upd (by repeat (first | exact Upd.refl _ _ | refine Upd.drew ?_))) HX.out.2.1 (i64_small (by omega) (by omega)) (by rw [HX.out.2.2.2.2.2.1]; rfl)) ?_; rintro e w4 ⟨rfl, o⟩; have H8 : Hid (Ow Wb w4 l (k + 1) (FF (k + 1)) (GG (k + 1))) := o; obtain ⟨s1, s2⟩ := HC.out w4 H8.out.up; clear o)
                  | (go_at_call 12; refine Calls.mono (ow_put (s := S1) (HO.out.upd (by repeat (first | exact Upd.refl _ _ | refine Upd.drew ?_))) (by omega) HX.out.2.2.1 HX.out.1 HX.out.2.2.2.1 HX.out.2.2.2.2.1) ?_; rintro e w3 ⟨rfl, o⟩; rw [HY.out.1, HY.out.2] at o; have H7 : Hid (Ow Wb w3 l (k + 1) (FF (k + 1)) (GG (k + 1))) := o; obtain ⟨t1, t2⟩ := HC.out w3 H7.out.up; clear o))
              go_wp2_with fail
              go_roundw
              case rel => exact ⟨k + 1, by go_num, hk6, H9.out⟩
              case measure => simp [intOf]; omega
            · have e6 : k = 6 := by omega
              have HO6 : Hid (Ow Wb wr l 6 (FF 6) (GG 6)) := by rw [← e6]; exact HO.out
              have k6 : decide ((k : Int) < 6) = false := decide_eq_false (by omega)
              clear hk hk6 e6 HO
              go_wp2_with fail
              refine Calls.mono (ow_all all_any HO6.out (by omega)) ?_
              rintro e w3 ⟨v, ms, rfl, hm, hp, hmem, hu⟩
              obtain rfl := ff_told hp hmem
              obtain ⟨g, c, hv, _, _⟩ := hm.cells (k := 0) (by decide)
              subst hv
              have hlt : ∀ W, Upd [] w3 W → ∀ k, k < 6 → W.cell? ⟨g, k * 2, none⟩ = some (encStr (nm k)) ∧ W.cell? ⟨g, k * 2 + 1, none⟩ = some (.int .i64 (pd (5 - k))) := fun W hW k hk => by
                obtain ⟨g2, c2, e2, d0, d1⟩ := (hm.upd hW).cells (k := k) (by exact hk)
                simp only [Value.slice.injEq, Option.some.injEq, Addr.mk.injEq, and_true, true_and] at e2
                obtain ⟨rfl, _⟩ := e2
                have ht : told6[k]'(by exact hk) = (nm k, pd (5 - k)) := by
                  have := told6_at hk
                  rw [List.getElem?_eq_getElem (by exact hk)] at this
                  exact Option.some.inj this
                rw [ht] at d0 d1
                exact ⟨d0, d1⟩
              have HC : Hid (∀ W, Upd [] w3 W → ∀ k, k < 6 → W.cell? ⟨g, k * 2, none⟩ = some (encStr (nm k)) ∧ W.cell? ⟨g, k * 2 + 1, none⟩ = some (.int .i64 (pd (5 - k)))) := hlt
              have H7 : Hid (Upd [] Wb w3) := HO6.out.up.trans hu
              rw [show told6.length = 6 by rfl]
              clear hlt hm hp hmem hu HO6
              go_wp2_with fail
              go_loopw [9] (fun s9 wx => ∃ k : Nat, s9 = .int .i64 (k : Nat) ∧ k ≤ 6 ∧ Upd [] w3 wx) (fun s9 _ => 6 - (intOf s9).toNat)
              case atStart => exact ⟨0, rfl, by omega, Upd.refl [] w3⟩
              case round =>
                obtain ⟨k, rfl, hk, hu⟩ := hrel
                have HU : Hid (Upd [] w3 wr) := hu
                clear hu
                by_cases hk6 : k < 6
                · have k6 : (k : Int) < 6 := by omega
                  obtain ⟨S2, hS2⟩ : ∃ S2, S2 = nm k := ⟨_, rfl⟩
                  obtain ⟨A, hA⟩ : ∃ A, A = pd (5 - k) := ⟨_, rfl⟩
                  obtain ⟨q, hq⟩ : ∃ q : Nat, q = 5 - k := ⟨_, rfl⟩
                  have q6 : (q : Int) < 6 := by omega
                  have hqi : (5 : Int) - (k : Int) = (q : Int) := by omega
                  have hqw : IntKind.i64.wrap (q : Int) = (q : Int) := IntWalk.i64_in _ ⟨by omega, by omega⟩
                  have d0 : wr.cell? ⟨g, k * 2, none⟩ = some (encStr S2) := by rw [hS2]; exact (HC.out wr HU.out k hk6).1
                  have d1 : wr.cell? ⟨g, k * 2 + 1, none⟩ = some (.int .i64 A) := by rw [hA]; exact (HC.out wr HU.out k hk6).2
                  have q0 : wr.cell? ⟨R, k, none⟩ = some (encStr S2) := by rw [hS2]; exact HN.out.1 wr (H4.out.2.2.2.trans (H7.out.trans HU.out)) k hk6
                  have q1 : wr.cell? ⟨P, q, none⟩ = some (.int .i64 A) := by rw [hA, hq]; exact HN.out.2 wr (H4.out.2.2.2.trans (H7.out.trans HU.out)) _ (by omega)
                  have hbs : (S2 == S2) = true := by simp
                  clear hS2 hA hq
                  go_wp2_with fail
                  go_region
                  all_goals
                    go_wp2_with fail
                    go_roundw
                    case rel => exact ⟨k + 1, by go_num, hk6, HU.out.drew⟩
                    case measure => simp [intOf]; omega
                · have m6 : decide ((k : Int) < 6) = false := decide_eq_false (by omega)
                  have H8 : Hid (Upd [] Wb wr) := H7.out.trans HU.out
                  clear hk hk6 HU HC H7
                  go_wp2_with fail
                  refine Calls.mono (Lives_walk all_any ap_said wr qa 36 qc H4.out.2.1 H4.out.2.2.1 (H4.out.1.upd H8.out)) ?_
                  rintro e w4 ⟨rfl, hu⟩
                  have H9 : Hid (Upd [] w w4) := H5.out.trans (H8.out.trans hu)
                  clear hu H8
                  go_wp2_with fail
                  refine Calls.mono (awake_any all_any _) ?_
                  rintro e w5 ⟨rfl, hu⟩
                  have HZ : Hid (Upd [] w w5) := H9.out.trans hu
                  clear hu H9
                  go_wp2_with fail
                  go_ret
                  exact ⟨rfl, HZ.out⟩

end Go.Proofs.YtpojkmpimnnjiaaGreat
