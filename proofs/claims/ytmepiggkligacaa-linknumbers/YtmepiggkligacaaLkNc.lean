/- LinkNumbers, walked. -/
import Derived.Test.YtmepiggkligacaaLkNb
namespace Go.Proofs.Ytmepiggkligacaa
open Go.RowKit Go.Maps

theorem numM : watchM (watchM (watchM (fun _ => none) 1 5 5) 2 5 6) 3 6 5 = fun r => if r = 3 then some (6, 5) else if r = 2 then some (5, 6) else if r = 1 then some (5, 5) else none := by
  funext r
  unfold watchM at1
  by_cases h3 : r = 3
  · subst h3; simp
  · by_cases h2 : r = 2
    · subst h2; simp
    · by_cases h1 : r = 1
      · subst h1; simp
      · simp [h1, h2, h3]
def nM : MF := fun r => if r = 3 then some (6, 5) else if r = 2 then some (5, 6) else if r = 1 then some (5, 5) else none
theorem nM_nam (x : Int) : nam nM 5 x = true ↔ x = 1 ∨ x = 2 ∨ x = 3 := by
  unfold nam nM
  by_cases h3 : x = 3
  · subst h3; simp
  · by_cases h2 : x = 2
    · subst h2; simp
    · by_cases h1 : x = 1
      · subst h1; simp
      · simp [h1, h2, h3]
theorem nM_told {rs : List Int} (h1 : rs.Pairwise (· < ·)) (h : ∀ x, x ∈ rs ↔ nam nM 5 x = true) : rs = [1, 2, 3] ∧ selM nM 5 rs = [(1, 5, 5), (3, 6, 5)] := by
  have : rs = [1, 2, 3] := sorted_one h1 (by simp) (fun x => by rw [h, nM_nam]; simp)
  subst this
  refine ⟨rfl, ?_⟩
  unfold selM nM
  simp
theorem nM_none {ms : List Mon} (hm : MonsOf (endM nM [1, 2, 3]) ms) : ms = [] := by
  refine List.eq_nil_iff_forall_not_mem.2 fun m hmem => ?_
  obtain ⟨r, a, b⟩ := m
  have h1 := (hm.2 r a b).1 hmem
  unfold endM nM at h1
  by_cases h3 : r = 3
  · subst h3; simp at h1
  · by_cases h2 : r = 2
    · subst h2; simp at h1
    · by_cases h5 : r = 1
      · subst h5; simp at h1
      · simp [h2, h3, h5] at h1

set_option maxHeartbeats 8000000 in
set_option maxRecDepth 100000 in
theorem Numbers_walk (w : World) : Calls Try.prog 5 #[] w fun e w' => e = .returned (.bool true) ∧ Upd [] w w' := by
  obtain ⟨w1, hw1⟩ : ∃ w1, w1 = w.alloc (.cells #[.int .i64 (-9223372036854775808), .int .i64 (-1), .int .i64 0, .int .i64 1, .int .i64 9223372036854775807] 3) := ⟨_, rfl⟩
  obtain ⟨g0, hg0⟩ : ∃ g0, g0 = w.heap.size := ⟨_, rfl⟩
  have U1 : Hid (Upd [] w w1) := by show Upd _ _ _; rw [hw1]; exact (Upd.refl [] w).alloc _
  have C1 : Hid (Cl w1 g0 #[.int .i64 (-9223372036854775808), .int .i64 (-1), .int .i64 0, .int .i64 1, .int .i64 9223372036854775807] 3) := by show Cl _ _ _ _; rw [hw1]; exact Cl.new _ _ _ _ hg0
  have HV : Hid (∀ j : Nat, j < 5 → ∃ x, I64 x ∧ w1.cell? ⟨g0, j, none⟩ = some (.int .i64 x)) := fun j hj => by
    match j, hj with
    | 0, _ => exact ⟨(-9223372036854775808), i64_small (by omega) (by omega), by rw [C1.out.cell]; rfl⟩
    | 1, _ => exact ⟨(-1), i64_small (by omega) (by omega), by rw [C1.out.cell]; rfl⟩
    | 2, _ => exact ⟨0, i64_small (by omega) (by omega), by rw [C1.out.cell]; rfl⟩
    | 3, _ => exact ⟨1, i64_small (by omega) (by omega), by rw [C1.out.cell]; rfl⟩
    | 4, _ => exact ⟨9223372036854775807, i64_small (by omega) (by omega), by rw [C1.out.cell]; rfl⟩
  go_enter Try.func5, Try.ntmps5
  go_wp2_with fail
  rw [← hw1, ← hg0]
  clear hw1 hg0
  go_loopw [2, 3] (fun s2 s3 wr => ∃ (i : Nat), i ≤ 5 ∧ s3 = .int .i64 (i : Nat) ∧ DQ wr s2 (10 * i) ∧ (∀ g, s2.ownBlock = some g → w1.heap.size ≤ g) ∧ Upd [] w1 wr) (fun _ s3 _ => 5 - (intOf s3).toNat)
  case atStart => exact ⟨0, by omega, rfl, DQ.nil _, (fun g hg => by cases hg), Upd.refl [] w1⟩
  case round =>
    obtain ⟨i, hi, rfl, hd, ho, hu⟩ := hrel
    obtain ⟨pa, pc, hvf, _⟩ := hd.1.form
    subst hvf
    have HD0 : Hid (DQ wr (.slice pa (10 * i) pc) (10 * i) ∧ (∀ g, Value.ownBlock (.slice pa (10 * i) pc) = some g → w1.heap.size ≤ g) ∧ Upd [] w1 wr) := ⟨hd, ho, hu⟩
    clear hd ho hu
    by_cases hi5 : i < 5
    · have i5 : (i : Int) < 5 := by omega
      go_wp2_with fail
      go_loopw [2, 4] (fun s2 s4 wr => ∃ (k : Nat) (n : Nat), k ≤ 5 ∧ s4 = .int .i64 (k : Nat) ∧ n = 10 * i + 2 * k ∧ DQ wr s2 n ∧ (∀ g, s2.ownBlock = some g → w1.heap.size ≤ g) ∧ Upd [] w1 wr) (fun _ s4 _ => 5 - (intOf s4).toNat)
      case atStart => exact ⟨0, _, by omega, rfl, rfl, HD0.out⟩
      case round =>
        obtain ⟨k, n, hk, rfl, hn, hd, ho, hu⟩ := hrel
        obtain ⟨qa, qc, hvf, _⟩ := hd.1.form
        subst hvf
        have HN : Hid (n = 10 * i + 2 * k) := hn
        have hn60 : n ≤ 60 := by omega
        have HD : Hid (DQ wr (.slice qa n qc) n ∧ (∀ g, Value.ownBlock (.slice qa n qc) = some g → w1.heap.size ≤ g) ∧ Upd [] w1 wr) := ⟨hd, ho, hu⟩
        clear hd ho hu hn
        by_cases hk5 : k < 5
        · have k5 : (k : Int) < 5 := by omega
          · obtain ⟨q, hq⟩ : ∃ q : Nat, q = (i + k) % 5 := ⟨_, rfl⟩
            have hq5 : q < 5 := by rw [hq]; exact Nat.mod_lt _ (by omega)
            have q5 : (q : Int) < 5 := by omega
            have hq3 : ((i : Int) + (k : Int)).tmod 5 = (q : Int) := by
              rw [Int.tmod_eq_emod_of_nonneg (by omega), hq]
              omega
            obtain ⟨xi, hxi, ci⟩ := HV.out i hi5
            obtain ⟨xk, hxk, ck⟩ := HV.out k hk5
            obtain ⟨xq, hxq, cq⟩ := HV.out q hq5
            have ci : wr.cell? ⟨g0, i, none⟩ = some (.int .i64 xi) := (HD.out.2.2.cell (p := ⟨g0, i, none⟩) C1.out.lt (by simp)).trans ci
            have ck : wr.cell? ⟨g0, k, none⟩ = some (.int .i64 xk) := (HD.out.2.2.cell (p := ⟨g0, k, none⟩) C1.out.lt (by simp)).trans ck
            have cq : wr.cell? ⟨g0, q, none⟩ = some (.int .i64 xq) := (HD.out.2.2.cell (p := ⟨g0, q, none⟩) C1.out.lt (by simp)).trans cq
            have HX : Hid (I64 xi ∧ I64 xk ∧ I64 xq) := ⟨hxi, hxk, hxq⟩
            have hg0 : g0 < wr.heap.size := Nat.lt_of_lt_of_le C1.out.lt HD.out.2.2.size
            have hg0v : ¬ Value.ownBlock (.slice qa n qc) = some g0 := fun e => by
              have := HD.out.2.1 g0 e
              have := C1.out.lt
              omega
            clear hq hxi hxk hxq
            go_upto_region 9 with fail
            refine wp_region_held_drew (S := fun W => UpP (fun z => Value.ownBlock (.slice qa n qc) = some z) wr W) (by kernel_rfl) (UpP.refl _ wr).drew (fun hS => ?_)
            refine wpAnyH_take (i := 0) (v := .slice qa n qc) rfl (by kernel_rfl) (by kernel_rfl) (by kernel_rfl) (fun _ _ _ h => h) (Or.inl ⟨by rfl, ?_⟩) hS ?_
            · intro W hW; go_simp
            refine wpAnyH_take (i := 1) (v := .slice (some ⟨g0, 0, none⟩) 5 5) rfl (by kernel_rfl) (by kernel_rfl) (by kernel_rfl) (fun _ _ _ h => h) (Or.inl ⟨by rfl, ?_⟩) hS ?_
            · intro W hW; go_simp
            refine wpAnyH_take (i := 2) (v := .int .i64 (i : Nat)) rfl (by kernel_rfl) (by kernel_rfl) (by kernel_rfl) (fun _ _ _ h => h) (Or.inl ⟨by rfl, ?_⟩) hS ?_
            · intro W hW; go_simp
            simp only [Act.put, List.getElem_toArray, List.getElem_cons_succ, List.getElem_cons_zero, List.setIfInBounds_toArray, List.set_cons_succ, List.set_cons_zero]
            refine wpAnyH_take (i := 3) (v := .pointer (some ⟨g0, i, none⟩)) rfl (by kernel_rfl) (by kernel_rfl) (by kernel_rfl) (fun _ _ _ h => h) (Or.inl ⟨by rfl, ?_⟩) hS ?_
            · intro W hW; go_simp
            refine wpAnyH_take (i := 4) (v := .int .i64 xi) rfl (by kernel_rfl) (by kernel_rfl) (by kernel_rfl) (fun _ _ _ h => h) (Or.inl ⟨by rfl, ?_⟩) hS ?_
            · intro W hW; have e1 : W.cell? ⟨g0, i, none⟩ = some (.int .i64 xi) := (hW.cell (p := ⟨g0, i, none⟩) hg0 hg0v).trans ci; go_simp
            refine wpAnyH_take (i := 5) (v := .slice (some ⟨g0, 0, none⟩) 5 5) rfl (by kernel_rfl) (by kernel_rfl) (by kernel_rfl) (fun _ _ _ h => h) (Or.inl ⟨by rfl, ?_⟩) hS ?_
            · intro W hW; go_simp
            simp only [Act.put, List.getElem_toArray, List.getElem_cons_succ, List.getElem_cons_zero, List.setIfInBounds_toArray, List.set_cons_succ, List.set_cons_zero]
            refine wpAnyH_take (i := 6) (v := .int .i64 (k : Nat)) rfl (by kernel_rfl) (by kernel_rfl) (by kernel_rfl) (fun _ _ _ h => h) (Or.inl ⟨by rfl, ?_⟩) hS ?_
            · intro W hW; go_simp
            refine wpAnyH_take (i := 7) (v := .pointer (some ⟨g0, k, none⟩)) rfl (by kernel_rfl) (by kernel_rfl) (by kernel_rfl) (fun _ _ _ h => h) (Or.inl ⟨by rfl, ?_⟩) hS ?_
            · intro W hW; go_simp
            refine wpAnyH_take (i := 8) (v := .int .i64 xk) rfl (by kernel_rfl) (by kernel_rfl) (by kernel_rfl) (fun _ _ _ h => h) (Or.inl ⟨by rfl, ?_⟩) hS ?_
            · intro W hW; have e1 : W.cell? ⟨g0, k, none⟩ = some (.int .i64 xk) := (hW.cell (p := ⟨g0, k, none⟩) hg0 hg0v).trans ck; go_simp
            simp only [Act.put, List.getElem_toArray, List.getElem_cons_succ, List.getElem_cons_zero, List.setIfInBounds_toArray, List.set_cons_succ, List.set_cons_zero]
            refine wpAnyH_take (i := 9) (v := .agg #[.int .i64 8, .int .i64 xi, .int .i64 xk, .int .i64 0]) rfl (by kernel_rfl) (by kernel_rfl) (by kernel_rfl) (fun _ _ _ h => h) (Or.inl ⟨by rfl, ?_⟩) hS ?_
            · intro W hW; go_simp
            refine wpAnyH_take (i := 10) (v := .slice (some ⟨g0, 0, none⟩) 5 5) rfl (by kernel_rfl) (by kernel_rfl) (by kernel_rfl) (fun _ _ _ h => h) (Or.inl ⟨by rfl, ?_⟩) hS ?_
            · intro W hW; go_simp
            refine wpAnyH_take (i := 11) (v := .int .i64 (i : Nat)) rfl (by kernel_rfl) (by kernel_rfl) (by kernel_rfl) (fun _ _ _ h => h) (Or.inl ⟨by rfl, ?_⟩) hS ?_
            · intro W hW; go_simp
            simp only [Act.put, List.getElem_toArray, List.getElem_cons_succ, List.getElem_cons_zero, List.setIfInBounds_toArray, List.set_cons_succ, List.set_cons_zero]
            refine wpAnyH_take (i := 12) (v := .pointer (some ⟨g0, i, none⟩)) rfl (by kernel_rfl) (by kernel_rfl) (by kernel_rfl) (fun _ _ _ h => h) (Or.inl ⟨by rfl, ?_⟩) hS ?_
            · intro W hW; go_simp
            refine wpAnyH_take (i := 13) (v := .int .i64 xi) rfl (by kernel_rfl) (by kernel_rfl) (by kernel_rfl) (fun _ _ _ h => h) (Or.inl ⟨by rfl, ?_⟩) hS ?_
            · intro W hW; have e1 : W.cell? ⟨g0, i, none⟩ = some (.int .i64 xi) := (hW.cell (p := ⟨g0, i, none⟩) hg0 hg0v).trans ci; go_simp
            refine wpAnyH_take (i := 14) (v := .slice (some ⟨g0, 0, none⟩) 5 5) rfl (by kernel_rfl) (by kernel_rfl) (by kernel_rfl) (fun _ _ _ h => h) (Or.inl ⟨by rfl, ?_⟩) hS ?_
            · intro W hW; go_simp
            simp only [Act.put, List.getElem_toArray, List.getElem_cons_succ, List.getElem_cons_zero, List.setIfInBounds_toArray, List.set_cons_succ, List.set_cons_zero]
            refine wpAnyH_take (i := 15) (v := .int .i64 (k : Nat)) rfl (by kernel_rfl) (by kernel_rfl) (by kernel_rfl) (fun _ _ _ h => h) (Or.inl ⟨by rfl, ?_⟩) hS ?_
            · intro W hW; go_simp
            refine wpAnyH_take (i := 16) (v := .pointer (some ⟨g0, k, none⟩)) rfl (by kernel_rfl) (by kernel_rfl) (by kernel_rfl) (fun _ _ _ h => h) (Or.inl ⟨by rfl, ?_⟩) hS ?_
            · intro W hW; go_simp
            refine wpAnyH_take (i := 17) (v := .int .i64 xk) rfl (by kernel_rfl) (by kernel_rfl) (by kernel_rfl) (fun _ _ _ h => h) (Or.inl ⟨by rfl, ?_⟩) hS ?_
            · intro W hW; have e1 : W.cell? ⟨g0, k, none⟩ = some (.int .i64 xk) := (hW.cell (p := ⟨g0, k, none⟩) hg0 hg0v).trans ck; go_simp
            simp only [Act.put, List.getElem_toArray, List.getElem_cons_succ, List.getElem_cons_zero, List.setIfInBounds_toArray, List.set_cons_succ, List.set_cons_zero]
            refine wpAnyH_take (i := 18) (v := .slice (some ⟨g0, 0, none⟩) 5 5) rfl (by kernel_rfl) (by kernel_rfl) (by kernel_rfl) (fun _ _ _ h => h) (Or.inl ⟨by rfl, ?_⟩) hS ?_
            · intro W hW; go_simp
            refine wpAnyH_take (i := 19) (v := .int .i64 (i : Nat)) rfl (by kernel_rfl) (by kernel_rfl) (by kernel_rfl) (fun _ _ _ h => h) (Or.inl ⟨by rfl, ?_⟩) hS ?_
            · intro W hW; go_simp
            refine wpAnyH_take (i := 20) (v := .int .i64 (k : Nat)) rfl (by kernel_rfl) (by kernel_rfl) (by kernel_rfl) (fun _ _ _ h => h) (Or.inl ⟨by rfl, ?_⟩) hS ?_
            · intro W hW; go_simp
            simp only [Act.put, List.getElem_toArray, List.getElem_cons_succ, List.getElem_cons_zero, List.setIfInBounds_toArray, List.set_cons_succ, List.set_cons_zero]
            refine wpAnyH_take (i := 21) (v := .int .i64 ((i : Int) + (k : Int))) rfl (by kernel_rfl) (by kernel_rfl) (by kernel_rfl) (fun _ _ _ h => h) (Or.inl ⟨by rfl, ?_⟩) hS ?_
            · intro W hW; have e3 : IntKind.i64.wrap ((i : Int) + (k : Int)) = (i : Int) + (k : Int) := IntWalk.i64_in _ ⟨by omega, by omega⟩; go_simp
            refine wpAnyH_take (i := 22) (v := .int .i64 (q : Nat)) rfl (by kernel_rfl) (by kernel_rfl) (by kernel_rfl) (fun _ _ _ h => h) (Or.inl ⟨by rfl, ?_⟩) hS ?_
            · intro W hW; have e3 : ((i : Int) + (k : Int)).tmod 5 = (q : Int) := hq3; have e4 : IntKind.i64.wrap (q : Int) = (q : Int) := IntWalk.i64_in _ ⟨by omega, by omega⟩; go_simp
            simp only [Act.put, List.getElem_toArray, List.getElem_cons_succ, List.getElem_cons_zero, List.setIfInBounds_toArray, List.set_cons_succ, List.set_cons_zero]
            refine wpAnyH_take (i := 23) (v := .pointer (some ⟨g0, q, none⟩)) rfl (by kernel_rfl) (by kernel_rfl) (by kernel_rfl) (fun _ _ _ h => h) (Or.inl ⟨by rfl, ?_⟩) hS ?_
            · intro W hW; go_simp
            refine wpAnyH_take (i := 24) (v := .int .i64 xq) rfl (by kernel_rfl) (by kernel_rfl) (by kernel_rfl) (fun _ _ _ h => h) (Or.inl ⟨by rfl, ?_⟩) hS ?_
            · intro W hW; have e1 : W.cell? ⟨g0, q, none⟩ = some (.int .i64 xq) := (hW.cell (p := ⟨g0, q, none⟩) hg0 hg0v).trans cq; go_simp
            refine wpAnyH_take (i := 25) (v := .agg #[.int .i64 3, .int .i64 xi, .int .i64 xk, .int .i64 xq]) rfl (by kernel_rfl) (by kernel_rfl) (by kernel_rfl) (fun _ _ _ h => h) (Or.inl ⟨by rfl, ?_⟩) hS ?_
            · intro W hW; go_simp
            simp only [Act.put, List.getElem_toArray, List.getElem_cons_succ, List.getElem_cons_zero, List.setIfInBounds_toArray, List.set_cons_succ, List.set_cons_zero]
            refine wpAnyH_ready (rs := [26]) (by kernel_rfl) (by simp) (AllReadyH.cons rfl (fun K hK => ?_) AllReadyH.nil)
            go_simp
            obtain ⟨W1, hW1⟩ : ∃ W1, W1 = (wr.alloc (.cells #[.int .i64 8, .int .i64 xi, .int .i64 xk, .int .i64 0, .int .i64 3, .int .i64 xi, .int .i64 xk, .int .i64 xq] 31)).drew := ⟨_, rfl⟩
            have hU1 : Upd [] wr W1 := by rw [hW1]; exact ((Upd.refl [] wr).alloc _).drew
            have HSr : Hid (∀ j u, [Value.int .i64 8, .int .i64 xi, .int .i64 xk, .int .i64 0, .int .i64 3, .int .i64 xi, .int .i64 xk, .int .i64 xq][j]? = some u → W1.cell? ((⟨wr.heap.size, 0, none⟩ : Addr).add j) = some u) := fun j u hj => by
              have h : Cl W1 wr.heap.size #[.int .i64 8, .int .i64 xi, .int .i64 xk, .int .i64 0, .int .i64 3, .int .i64 xi, .int .i64 xk, .int .i64 xq] 31 := by
                rw [hW1]
                exact Cl.new wr #[.int .i64 8, .int .i64 xi, .int .i64 xk, .int .i64 0, .int .i64 3, .int .i64 xi, .int .i64 xk, .int .i64 xq] 31 _ rfl
              have e : ((⟨wr.heap.size, 0, none⟩ : Addr).add j) = ⟨wr.heap.size, j, none⟩ := by cases j <;> simp [Addr.add]
              rw [e]
              exact (h.cell j).trans (by simpa using hj)
            rw [← hW1]
            clear hW1
            have hS2 : UpP (fun z => Value.ownBlock (.slice qa n qc) = some z) wr W1 := hU1.toN
            refine hK.out _ _ hS2 (fun _ => ?_)
            clear hK K hS
            have hS := hS2
            clear hS2
            refine wpAnyH_ready (rs := [27]) (by kernel_rfl) (by simp) (AllReadyH.cons rfl (fun K hK => ?_) AllReadyH.nil)
            rw [if_pos (by rfl)]
            refine oper_appD _ _ rfl (.slice qa n qc) n 2 2 ⟨wr.heap.size, 0, none⟩ _ rfl rfl (HD.out.1.upd hU1 (by simp)) rfl HSr.out (by
              intro u hu
              simp only [List.mem_cons, List.not_mem_nil, or_false] at hu
              rcases hu with rfl | rfl | rfl | rfl | rfl | rfl | rfl | rfl
              · exact ⟨8, rfl, i64_small (by omega) (by omega)⟩
              · exact ⟨xi, rfl, HX.out.1⟩
              · exact ⟨xk, rfl, HX.out.2.1⟩
              · exact ⟨0, rfl, i64_small (by omega) (by omega)⟩
              · exact ⟨3, rfl, i64_small (by omega) (by omega)⟩
              · exact ⟨xi, rfl, HX.out.1⟩
              · exact ⟨xk, rfl, HX.out.2.1⟩
              · exact ⟨xq, rfl, HX.out.2.2⟩) (by omega) (by omega) ?_
            intro g2 c2 W2 hD2 hu2 hat
            have HE : Hid (DQ W2 (.slice (some ⟨g2, 0, none⟩) (n + 2) c2) (n + 2) ∧ w1.heap.size ≤ g2 ∧ Upd [] w1 W2) := by
              have h5 := HD.out.2.2.size
              have hg : w1.heap.size ≤ g2 := by
                rcases hat with e | e
                · exact HD.out.2.1 g2 e
                · have := hU1.size; omega
              exact ⟨hD2, hg, (HD.out.2.2.trans hU1).then hu2 (fun z hz => Or.inl (by simp only [List.mem_singleton] at hz; omega))⟩
            have hS2 : UpP (fun z => Value.ownBlock (.slice qa n qc) = some z) wr W2 := by
              refine hS.thenP hu2.toP (fun z hz => ?_)
              simp only [List.mem_singleton] at hz
              subst hz
              rcases hat with e | e
              · exact Or.inr e
              · exact Or.inl (by have := hU1.size; omega)
            refine hK.out _ _ hS2 (fun _ => ?_)
            clear hK K hS hD2 hu2 hat hU1
            have hS := hS2
            clear hS2
            refine wpAnyH_take (i := 28) (v := .slice (some ⟨g2, 0, none⟩) (n + 2) c2) rfl (by kernel_rfl) (by kernel_rfl) (by kernel_rfl) (fun _ _ _ h => h) (Or.inl ⟨by rfl, ?_⟩) hS ?_
            · intro W hW; go_simp
            simp only [Act.put, List.getElem_toArray, List.getElem_cons_succ, List.getElem_cons_zero, List.setIfInBounds_toArray, List.set_cons_succ, List.set_cons_zero]
            refine wpAnyH_done (by kernel_rfl) ?_ _
            clear hS
            go_wp2_with fail
            go_roundw
            case rel => exact ⟨k + 1, n + 2, by omega, by go_num, by have := HN.out; omega, HE.out.1, (fun g hg => by cases hg; exact HE.out.2.1), HE.out.2.2⟩
            case measure => simp [intOf]; omega
        · obtain rfl : k = 5 := by omega
          obtain ⟨n5, hn5⟩ : ∃ n5, n5 = 10 * (i + 1) := ⟨_, rfl⟩
          have HE : Hid (DQ wr (.slice qa n qc) (10 * (i + 1)) ∧ (∀ g, Value.ownBlock (.slice qa n qc) = some g → w1.heap.size ≤ g) ∧ Upd [] w1 wr) := by
            have e : n = 10 * (i + 1) := by have := HN.out; omega
            have h := HD.out
            exact ⟨by rw [← e]; exact h.1, h.2⟩
          clear hn5 hk5
          go_wp2_with fail
          go_roundw
          case rel => exact ⟨i + 1, by omega, by go_num, HE.out⟩
          case measure => simp [intOf]; omega
    · obtain rfl : i = 5 := by omega
      have HD5 : Hid (DQ wr (.slice pa 50 pc) 50 ∧ (∀ g, Value.ownBlock (.slice pa 50 pc) = some g → w1.heap.size ≤ g) ∧ Upd [] w1 wr) := HD0.out
      rw [show 10 * 5 = 50 from rfl]
      clear HD0
      obtain ⟨g, c, hvf, hc1, hc2⟩ := HD5.out.1.form (by omega)
      simp only [Value.slice.injEq] at hvf
      obtain ⟨rfl, _, rfl⟩ := hvf
      go_wp2_with fail
      refine Calls.mono (Lives_walk wr (some ⟨g, 0, none⟩) 50 pc hc1 hc2 HD5.out.1.steps) ?_
      rintro e w5 ⟨rfl, hu⟩
      have H5 : Hid (DQ w5 (.slice (some ⟨g, 0, none⟩) 40 40) 40 ∧ Upd [] w w5) := ⟨(HD5.out.1.upd hu (by simp)).cut (by omega), (U1.out.trans HD5.out.2.2).trans hu⟩
      have c40 : 40 ≤ pc := by omega
      have c41 : (40 : Int) ≤ (pc : Int) := by omega
      have HG : Hid (w.heap.size ≤ g) := Nat.le_trans U1.out.size (HD5.out.2.1 g rfl)
      clear hu HD5 hc1 hc2
      have hcl := Cl.new w5 #[Value.int .i64 1, .int .i64 1, .int .i64 (-1), .int .i64 0, .int .i64 1, .int .i64 1, .int .i64 (-1), .int .i64 0, .int .i64 0, .int .i64 0, .int .i64 0, .int .i64 0, .int .i64 0, .int .i64 0, .int .i64 0, .int .i64 0, .int .i64 2, .int .i64 1, .int .i64 0, .int .i64 0, .int .i64 0, .int .i64 (-9223372036854775808), .int .i64 0, .int .i64 0] 31 _ rfl
      have hup : Upd [] w5 (w5.alloc (.cells #[Value.int .i64 1, .int .i64 1, .int .i64 (-1), .int .i64 0, .int .i64 1, .int .i64 1, .int .i64 (-1), .int .i64 0, .int .i64 0, .int .i64 0, .int .i64 0, .int .i64 0, .int .i64 0, .int .i64 0, .int .i64 0, .int .i64 0, .int .i64 2, .int .i64 1, .int .i64 0, .int .i64 0, .int .i64 0, .int .i64 (-9223372036854775808), .int .i64 0, .int .i64 0] 31)) := (Upd.refl [] w5).alloc _
      have HNw : Hid (∀ j u, [Value.int .i64 1, .int .i64 1, .int .i64 (-1), .int .i64 0, .int .i64 1, .int .i64 1, .int .i64 (-1), .int .i64 0, .int .i64 0, .int .i64 0, .int .i64 0, .int .i64 0, .int .i64 0, .int .i64 0, .int .i64 0, .int .i64 0, .int .i64 2, .int .i64 1, .int .i64 0, .int .i64 0, .int .i64 0, .int .i64 (-9223372036854775808), .int .i64 0, .int .i64 0][j]? = some u → (w5.alloc (.cells #[Value.int .i64 1, .int .i64 1, .int .i64 (-1), .int .i64 0, .int .i64 1, .int .i64 1, .int .i64 (-1), .int .i64 0, .int .i64 0, .int .i64 0, .int .i64 0, .int .i64 0, .int .i64 0, .int .i64 0, .int .i64 0, .int .i64 0, .int .i64 2, .int .i64 1, .int .i64 0, .int .i64 0, .int .i64 0, .int .i64 (-9223372036854775808), .int .i64 0, .int .i64 0] 31)).cell? ((⟨w5.heap.size, 0, none⟩ : Addr).add j) = some u) := fun j u hj => by
        have e : ((⟨w5.heap.size, 0, none⟩ : Addr).add j) = ⟨w5.heap.size, j, none⟩ := by cases j <;> simp [Addr.add]
        rw [e]
        exact (hcl.cell j).trans (by simpa using hj)
      have HIn : Hid (∀ u ∈ [Value.int .i64 1, .int .i64 1, .int .i64 (-1), .int .i64 0, .int .i64 1, .int .i64 1, .int .i64 (-1), .int .i64 0, .int .i64 0, .int .i64 0, .int .i64 0, .int .i64 0, .int .i64 0, .int .i64 0, .int .i64 0, .int .i64 0, .int .i64 2, .int .i64 1, .int .i64 0, .int .i64 0, .int .i64 0, .int .i64 (-9223372036854775808), .int .i64 0, .int .i64 0], ∃ k, u = Value.int .i64 k ∧ I64 k) := by
        show ∀ u ∈ _, _
        intro u hu
        simp only [List.mem_cons, List.not_mem_nil, or_false] at hu
        rcases hu with rfl | rfl | rfl | rfl | rfl | rfl | rfl | rfl | rfl | rfl | rfl | rfl | rfl | rfl | rfl | rfl | rfl | rfl | rfl | rfl | rfl | rfl | rfl | rfl
        all_goals exact ⟨_, rfl, i64_small (by decide) (by decide)⟩
      have HUp : Hid (Upd [] w5 (w5.alloc (.cells #[Value.int .i64 1, .int .i64 1, .int .i64 (-1), .int .i64 0, .int .i64 1, .int .i64 1, .int .i64 (-1), .int .i64 0, .int .i64 0, .int .i64 0, .int .i64 0, .int .i64 0, .int .i64 0, .int .i64 0, .int .i64 0, .int .i64 0, .int .i64 2, .int .i64 1, .int .i64 0, .int .i64 0, .int .i64 0, .int .i64 (-9223372036854775808), .int .i64 0, .int .i64 0] 31))) := hup
      clear hcl hup
      go_wp2_with fail
      refine oper_appD _ _ rfl (.slice (some ⟨g, 0, none⟩) 40 40) 40 6 6 ⟨w5.heap.size, 0, none⟩ _ rfl rfl (H5.out.1.upd HUp.out (by simp)) rfl HNw.out HIn.out (by omega) (by omega) ?_
      intro g7 c7 w7 hd7 hu7 hat7
      obtain ⟨g8, c8, hvf, hc1, hc2⟩ := hd7.form (by omega)
      simp only [Value.slice.injEq, Option.some.injEq, Addr.mk.injEq] at hvf
      obtain ⟨⟨rfl, _⟩, _, rfl⟩ := hvf
      have H7 : Hid (DQ w7 (.slice (some ⟨g7, 0, none⟩) 46 c7) 46 ∧ 46 ≤ c7 ∧ c7 ≤ 9223372036854775807) := ⟨hd7, hc1, hc2⟩
      have HU7 : Hid (Upd [g7] w5 w7 ∧ (g7 = g ∨ w5.heap.size ≤ g7)) := ⟨Upd.trans ⟨HUp.out.os, HUp.out.tape, HUp.out.output, HUp.out.size, fun k hk _ => HUp.out.block k hk (by simp)⟩ hu7, by
        rcases hat7 with e | e
        · cases e; exact Or.inl rfl
        · exact Or.inr (by rw [e]; simp)⟩
      clear hd7 hu7 hat7 hc1 hc2
      go_wp2_with fail
      refine Calls.mono (Lives_walk w7 (some ⟨g7, 0, none⟩) 46 c7 H7.out.2.1 H7.out.2.2 H7.out.1.steps) ?_
      rintro e w8 ⟨rfl, hu⟩
      have U8 : Hid (Upd [] w w8) := by
        have h7 : Upd [] w w7 := H5.out.2.then HU7.out.1 (fun z hz => by
          have h1 := HG.out
          have h2 := H5.out.2.size
          simp only [List.mem_singleton] at hz
          rcases HU7.out.2 with e | e
          · left; omega
          · left; omega)
        exact h7.trans hu
      clear hu H7 HU7 H5 HG c40 c41 HNw HIn HUp
      go_wp2_with fail
      refine Calls.mono (ow_new w8) ?_
      rintro e v1 ⟨l, rfl, o⟩
      have O1 : Hid (Ow w8 v1 l 0 (fun _ _ => false) (fun _ => none)) := o
      clear o
      go_wp2_with fail
      refine Calls.mono (ow_watch O1.out (by omega) (i64_small (by omega) (by omega)) (i64_small (by omega) (by omega)) (i64_small (by omega) (by omega))) ?_
      rintro e v2 ⟨he, o⟩
      obtain rfl : e = .returned (.bool true) := he
      have O2 : Hid (Ow w8 v2 l 2 (fun _ _ => false) (watchM (fun _ => none) 1 5 5)) := o
      clear o O1
      go_wp2_with fail
      refine Calls.mono (ow_watch O2.out (by omega) (i64_small (by omega) (by omega)) (i64_small (by omega) (by omega)) (i64_small (by omega) (by omega))) ?_
      rintro e v3 ⟨he, o⟩
      obtain rfl : e = .returned (.bool true) := he
      have O3 : Hid (Ow w8 v3 l 4 (fun _ _ => false) (watchM (watchM (fun _ => none) 1 5 5) 2 5 6)) := o
      clear o O2
      go_wp2_with fail
      refine Calls.mono (ow_watch O3.out (by omega) (i64_small (by omega) (by omega)) (i64_small (by omega) (by omega)) (i64_small (by omega) (by omega))) ?_
      rintro e v4 ⟨he, o⟩
      obtain rfl : e = .returned (.bool true) := he
      have O4 : Hid (Ow w8 v4 l 6 (fun _ _ => false) nM) := by
        have e : watchM (watchM (watchM (fun _ => none) 1 5 5) 2 5 6) 3 6 5 = nM := numM
        rw [← e]; exact o
      clear o O3
      go_wp2_with fail
      refine Calls.mono (ow_unwatch O4.out (i64_small (by omega) (by omega))) ?_
      rintro e v5 ⟨he, o⟩
      obtain rfl : e = .returned (.bool false) := he
      have O5 : Hid (Ow w8 v5 l 6 (fun _ _ => false) nM) := o
      clear o O4
      go_wp2_with fail
      refine Calls.mono (ow_unwatch O5.out (i64_small (by omega) (by omega))) ?_
      rintro e v6 ⟨he, o⟩
      obtain rfl : e = .returned (.bool false) := he
      have O6 : Hid (Ow w8 v6 l 6 (fun _ _ => false) nM) := o
      clear o O5
      go_wp2_with fail
      refine Calls.mono (ow_end O6.out (by omega) (i64_small (by omega) (by omega))) ?_
      rintro e v7 ⟨v, xs, u, rs, rfl, hv, hx1, hx2, hu, hr1, hr2, o⟩
      obtain ⟨rfl, hsel⟩ := nM_told hr1 hr2
      rw [hsel] at hu
      obtain rfl : xs = [] := List.eq_nil_iff_forall_not_mem.2 fun x hx => by simpa using (hx2 x).1 hx
      have O7 : Hid (Ow w8 v7 l 6 (endL (fun _ _ => false) 5 []) (endM nM [1, 2, 3]) ∧ MR v7 v6.heap.size u [(1, 5, 5), (3, 6, 5)]) := ⟨o, hu⟩
      obtain ⟨p, c, hvf⟩ := hv.form
      obtain ⟨p2, c2, huf⟩ := hu.form
      subst hvf
      subst huf
      clear hx1 hx2 hr1 hr2 o O6 hv hu hsel
      obtain ⟨g, c3, huf, m00, m01, m02⟩ := O7.out.2.cells (k := 0) (by simp)
      obtain ⟨g', c3', huf', m10, m11, m12⟩ := O7.out.2.cells (k := 1) (by simp)
      simp at huf huf'
      obtain ⟨rfl, rfl⟩ := huf
      simp at huf'
      obtain ⟨rfl, rfl⟩ := huf'
      simp at m00 m01 m02 m10 m11 m12
      clear m01 m02 m11 m12
      go_wp2_with fail
      refine Calls.mono (ow_monitors O7.out.1 (by omega)) ?_
      rintro e v8 ⟨v11, ms, rfl, h1, h2, h3⟩
      have hms := nM_none h2
      subst hms
      have O8 : Hid (Ow w8 v8 l 6 (endL (fun _ _ => false) 5 []) (endM nM [1, 2, 3])) := O7.out.1.upd h3
      obtain ⟨p4, c4, hv4⟩ := h1.form
      subst hv4
      clear h1 h2 h3 m00 m10 O7
      go_wp2_with fail
      refine Calls.mono (awake_any v8) ?_
      rintro e v9 ⟨rfl, hu⟩
      have U9 : Hid (Upd [] w v9) := (U8.out.trans O8.out.up).trans hu
      clear hu
      go_wp2_with fail
      go_ret
      exact ⟨rfl, U9.out⟩


end Go.Proofs.Ytmepiggkligacaa
