/- deepest of package node, of nodes without kids, and of one node. -/
import Derived.Test.YtehfoblfmehbdaaDoorNsM
namespace Go.Proofs.YtehfoblfmehbdaaDoor
open Go.RowKit

set_option maxHeartbeats 2000000 in
set_option maxRecDepth 100000 in
theorem dc1_nil (w : World) (bd bm : Nat) (k num pos : Int) (s : ByteArray) (l : List (Option Addr × Int × Int)) (a : Option Addr) (c : Nat) (hl : ∃ l2, l = (none, 0, 0) :: l2) (hbd : FunB w bd (.map (some bm)) 44) (hD : DM w bm l) :
    Calls Tryd.prog 37 #[.agg #[.int .u8 k, .string s, .int .i64 num, .int .i64 pos, .slice a 0 c], .pointer (some ⟨bd, 0, none⟩)] w fun e w' => e = .returned (.int .i64 0) ∧ Upd [] w w' := by
  have u0 : Upd [] w (w.alloc (.cells #[.int .u8 k, .string s, .int .i64 num, .int .i64 pos, .slice a 0 c] 25)) := (Upd.refl [] w).alloc _
  have tb := Tb.new w #[.int .u8 k, .string s, .int .i64 num, .int .i64 pos, .slice a 0 c] _ rfl
  have HU0 : Hid (Upd [] w (w.alloc (.cells #[.int .u8 k, .string s, .int .i64 num, .int .i64 pos, .slice a 0 c] 25))) := u0
  go_enter Tryd.func37, Tryd.ntmps37
  go_wp2
  refine wp_region_held_drew (S := (fun W => FunB W bd (.map (some bm)) 44 ∧ Tb W w.heap.size #[.int .u8 k, .string s, .int .i64 num, .int .i64 pos, .slice a 0 c] ∧ DM W bm l ∧ Upd [] w W)) (by kernel_rfl) ⟨hbd.mono u0.drew (by simp), tb, hD.upd u0.drew (by simp), u0.drew⟩ (fun hS => ?_)
  refine wpAnyH_take (i := 0) (v := .map (some bm)) rfl (by kernel_rfl) (by kernel_rfl) (by kernel_rfl) (fun _ _ _ h => h) (Or.inl ⟨by rfl, ?_⟩) hS ?_
  · intro W hW; obtain ⟨h1, h2, h3, h4⟩ := hW; have e0 := h1.cell; have e1 : W.cell? ⟨w.heap.size, 4, none⟩ = some (.slice a 0 c) := h2.cell 4; go_simp
  refine wpAnyH_take (i := 1) (v := .pointer (some ⟨w.heap.size, 4, none⟩)) rfl (by kernel_rfl) (by kernel_rfl) (by kernel_rfl) (fun _ _ _ h => h) (Or.inl ⟨by rfl, ?_⟩) hS ?_
  · intro W hW; obtain ⟨h1, h2, h3, h4⟩ := hW; have e0 := h1.cell; have e1 : W.cell? ⟨w.heap.size, 4, none⟩ = some (.slice a 0 c) := h2.cell 4; go_simp
  refine wpAnyH_take (i := 2) (v := .slice a 0 c) rfl (by kernel_rfl) (by kernel_rfl) (by kernel_rfl) (fun _ _ _ h => h) (Or.inl ⟨by rfl, ?_⟩) hS ?_
  · intro W hW; obtain ⟨h1, h2, h3, h4⟩ := hW; have e0 := h1.cell; have e1 : W.cell? ⟨w.heap.size, 4, none⟩ = some (.slice a 0 c) := h2.cell 4; go_simp
  simp only [Act.put, List.getElem_toArray, List.getElem_cons_succ, List.getElem_cons_zero, List.setIfInBounds_toArray, List.set_cons_succ, List.set_cons_zero]
  refine wpAnyH_ready (rs := [3]) (by kernel_rfl) (by simp) (AllReadyH.cons rfl (fun K hK => ?_) AllReadyH.nil)
  go_simp
  refine (placeOf_none _ a c).mono ?_
  rintro en w1 ⟨rfl, hU1⟩
  have hS1 : (fun W => FunB W bd (.map (some bm)) 44 ∧ Tb W w.heap.size #[.int .u8 k, .string s, .int .i64 num, .int .i64 pos, .slice a 0 c] ∧ DM W bm l ∧ Upd [] w W) w1 := ⟨hS.1.mono hU1 (by simp), hS.2.1.mono hU1 (by simp), hS.2.2.1.upd hU1 (by simp), hS.2.2.2.trans hU1⟩
  have U1 : Hid (Upd [] w w1) := HU0.out.drew.trans hU1
  refine hK.out _ _ hS1 (fun _ => ?_)
  clear hK K hU1 hS u0 tb
  refine wpAnyH_take (i := 4) (v := .int .i64 0) rfl (by kernel_rfl) (by kernel_rfl) (by kernel_rfl) (fun _ _ _ h => h) (Or.inl ⟨by rfl, ?_⟩) hS1 ?_
  · intro W hW; obtain ⟨h1, h2, h3, h4⟩ := hW; have e2 := (hl.elim fun l2 hl2 => (DM.look_at (l1 := []) (l2 := l2) (by rw [List.nil_append, ← hl2]; exact h3) (by simp)).2); go_simp
  refine wpAnyH_take (i := 5) (v := .int .i64 0) rfl (by kernel_rfl) (by kernel_rfl) (by kernel_rfl) (fun _ _ _ h => h) (Or.inl ⟨by rfl, ?_⟩) hS1 ?_
  · intro W hW; go_simp
  simp only [Act.put, List.getElem_toArray, List.getElem_cons_succ, List.getElem_cons_zero, List.setIfInBounds_toArray, List.set_cons_succ, List.set_cons_zero]
  refine wpAnyH_done (by kernel_rfl) ?_ _
  go_wp2
  go_ret
  exact ⟨rfl, U1.out⟩
set_option maxHeartbeats 2000000 in
set_option maxRecDepth 100000 in
theorem dc1_at (w : World) (bd bm : Nat) (k num pos : Int) (s : ByteArray) (l : List (Option Addr × Int × Int)) (g n c : Nat) (v : Int) (hn : 0 < n) (hn2 : n ≤ 20000) (l1 l2 : List (Option Addr × Int × Int)) (hl0 : l = l1 ++ (some ⟨g, 0, none⟩, (n : Int), v) :: l2) (hl : ∀ t ∈ l1, ∀ W, Upd [] w W → Far W (some ⟨g, 0, none⟩) t.1) (hbd : FunB w bd (.map (some bm)) 44) (hD : DM w bm l) :
    Calls Tryd.prog 37 #[.agg #[.int .u8 k, .string s, .int .i64 num, .int .i64 pos, .slice (some ⟨g, 0, none⟩) n c], .pointer (some ⟨bd, 0, none⟩)] w fun e w' => e = .returned (.int .i64 v) ∧ Upd [] w w' := by
  have u0 : Upd [] w (w.alloc (.cells #[.int .u8 k, .string s, .int .i64 num, .int .i64 pos, .slice (some ⟨g, 0, none⟩) n c] 25)) := (Upd.refl [] w).alloc _
  have tb := Tb.new w #[.int .u8 k, .string s, .int .i64 num, .int .i64 pos, .slice (some ⟨g, 0, none⟩) n c] _ rfl
  have HU0 : Hid (Upd [] w (w.alloc (.cells #[.int .u8 k, .string s, .int .i64 num, .int .i64 pos, .slice (some ⟨g, 0, none⟩) n c] 25))) := u0
  go_enter Tryd.func37, Tryd.ntmps37
  go_wp2
  refine wp_region_held_drew (S := (fun W => FunB W bd (.map (some bm)) 44 ∧ Tb W w.heap.size #[.int .u8 k, .string s, .int .i64 num, .int .i64 pos, .slice (some ⟨g, 0, none⟩) n c] ∧ DM W bm l ∧ Upd [] w W)) (by kernel_rfl) ⟨hbd.mono u0.drew (by simp), tb, hD.upd u0.drew (by simp), u0.drew⟩ (fun hS => ?_)
  refine wpAnyH_take (i := 0) (v := .map (some bm)) rfl (by kernel_rfl) (by kernel_rfl) (by kernel_rfl) (fun _ _ _ h => h) (Or.inl ⟨by rfl, ?_⟩) hS ?_
  · intro W hW; obtain ⟨h1, h2, h3, h4⟩ := hW; have e0 := h1.cell; have e1 : W.cell? ⟨w.heap.size, 4, none⟩ = some (.slice (some ⟨g, 0, none⟩) n c) := h2.cell 4; go_simp
  refine wpAnyH_take (i := 1) (v := .pointer (some ⟨w.heap.size, 4, none⟩)) rfl (by kernel_rfl) (by kernel_rfl) (by kernel_rfl) (fun _ _ _ h => h) (Or.inl ⟨by rfl, ?_⟩) hS ?_
  · intro W hW; obtain ⟨h1, h2, h3, h4⟩ := hW; have e0 := h1.cell; have e1 : W.cell? ⟨w.heap.size, 4, none⟩ = some (.slice (some ⟨g, 0, none⟩) n c) := h2.cell 4; go_simp
  refine wpAnyH_take (i := 2) (v := .slice (some ⟨g, 0, none⟩) n c) rfl (by kernel_rfl) (by kernel_rfl) (by kernel_rfl) (fun _ _ _ h => h) (Or.inl ⟨by rfl, ?_⟩) hS ?_
  · intro W hW; obtain ⟨h1, h2, h3, h4⟩ := hW; have e0 := h1.cell; have e1 : W.cell? ⟨w.heap.size, 4, none⟩ = some (.slice (some ⟨g, 0, none⟩) n c) := h2.cell 4; go_simp
  simp only [Act.put, List.getElem_toArray, List.getElem_cons_succ, List.getElem_cons_zero, List.setIfInBounds_toArray, List.set_cons_succ, List.set_cons_zero]
  refine wpAnyH_ready (rs := [3]) (by kernel_rfl) (by simp) (AllReadyH.cons rfl (fun K hK => ?_) AllReadyH.nil)
  go_simp
  refine (placeOf_some _ g n c hn hn2).mono ?_
  rintro en w1 ⟨rfl, hU1⟩
  have hS1 : (fun W => FunB W bd (.map (some bm)) 44 ∧ Tb W w.heap.size #[.int .u8 k, .string s, .int .i64 num, .int .i64 pos, .slice (some ⟨g, 0, none⟩) n c] ∧ DM W bm l ∧ Upd [] w W) w1 := ⟨hS.1.mono hU1 (by simp), hS.2.1.mono hU1 (by simp), hS.2.2.1.upd hU1 (by simp), hS.2.2.2.trans hU1⟩
  have U1 : Hid (Upd [] w w1) := HU0.out.drew.trans hU1
  refine hK.out _ _ hS1 (fun _ => ?_)
  clear hK K hU1 hS u0 tb
  refine wpAnyH_take (i := 4) (v := .int .i64 v) rfl (by kernel_rfl) (by kernel_rfl) (by kernel_rfl) (fun _ _ _ h => h) (Or.inl ⟨by rfl, ?_⟩) hS1 ?_
  · intro W hW; obtain ⟨h1, h2, h3, h4⟩ := hW; have e2 := (DM.look_at (l1 := l1) (l2 := l2) (by rw [← hl0]; exact h3) (fun t ht => hl t ht W h4)).2; go_simp
  refine wpAnyH_take (i := 5) (v := .int .i64 v) rfl (by kernel_rfl) (by kernel_rfl) (by kernel_rfl) (fun _ _ _ h => h) (Or.inl ⟨by rfl, ?_⟩) hS1 ?_
  · intro W hW; go_simp
  simp only [Act.put, List.getElem_toArray, List.getElem_cons_succ, List.getElem_cons_zero, List.setIfInBounds_toArray, List.set_cons_succ, List.set_cons_zero]
  refine wpAnyH_done (by kernel_rfl) ?_ _
  go_wp2
  go_ret
  exact ⟨rfl, U1.out⟩
set_option maxHeartbeats 1000000 in
set_option maxRecDepth 100000 in
/-- deepest, of nodes without kids. -/
theorem deepest_nil (w : World) (d bd bm : Nat) (a : Option Addr) (c : Nat) (K : List Nd) (l : List (Option Addr × Int × Int)) (hK : RowN (NIn w d) w a K) (hl : ∃ l2, l = (none, 0, 0) :: l2) (hlen : K.length ≤ 20000) (h0 : ∀ W cs i (hi : i < K.length), NIn W d cs K[i] → ∃ k s num pos a c, cs = [.int .u8 k, .string s, .int .i64 num, .int .i64 pos, .slice a 0 c]) (hbd : FunB w bd (.map (some bm)) 44) (hD : DM w bm l) :
    Calls Tryd.prog 36 #[.slice a K.length c, .func (.func 37) #[] #[.pointer (some ⟨bd, 0, none⟩)]] w fun e w' => e = .returned (.int .i64 0) ∧ Upd [] w w' := by
  have HK : Hid (RowN (NIn w d) w a K) := hK
  have H0 : Hid (∀ W cs i (hi : i < K.length), NIn W d cs K[i] → ∃ k s num pos a c, cs = [.int .u8 k, .string s, .int .i64 num, .int .i64 pos, .slice a 0 c]) := h0
  have HD : Hid (FunB w bd (.map (some bm)) 44 ∧ DM w bm l ∧ ∃ l2, l = (none, 0, 0) :: l2) := ⟨hbd, hD, hl⟩
  have eg : ∀ args w, (callFunc 37 args).run Tryd.prog w = .ok (.enter 37 args) w := Tryd.call37
  clear hK h0 hbd hD hl
  go_enter Tryd.func36, Tryd.ntmps36
  go_wp2
  go_loopw [10, 5] (fun i m wr => ∃ k : Nat, k ≤ K.length ∧ i = .int .i64 k ∧ m = .int .i64 0 ∧ Upd [] w wr) (fun i _ _ => K.length - (intOf i).toNat)
  case atStart => exact ⟨0, Nat.zero_le _, rfl, rfl, Upd.refl _ _⟩
  case round =>
    obtain ⟨k, hk, rfl, rfl, hU⟩ := hrel
    by_cases hlt : k < K.length
    · have i1 : (k : Int) < (K.length : Int) := by omega
      rcases HK.out with h1 | ⟨b, o, rfl, hb, hc⟩
      · rw [h1] at hlt; simp at hlt
      obtain ⟨cs, hl5, hcell, hin⟩ := hc k hlt
      obtain ⟨kk, s, num, pos, a2, c2, rfl⟩ := H0.out w cs k hlt hin
      have mc : ∀ j, j < 5 → wr.cell? ⟨b, o + (k * 5 + j), none⟩ = [Value.int .u8 kk, .string s, .int .i64 num, .int .i64 pos, .slice a2 0 c2][j]? := fun j hj => (hU.cell (p := ⟨b, o + (k * 5 + j), none⟩) hb (by simp)).trans (hcell j hj)
      have x0 : wr.cell? ⟨b, o + k * 5, none⟩ = some (.int .u8 kk) := mc 0 (by omega)
      have x1 : wr.cell? ⟨b, o + k * 5 + 1, none⟩ = some (.string s) := mc 1 (by omega)
      have x2 : wr.cell? ⟨b, o + k * 5 + 2, none⟩ = some (.int .i64 num) := mc 2 (by omega)
      have x3 : wr.cell? ⟨b, o + k * 5 + 3, none⟩ = some (.int .i64 pos) := mc 3 (by omega)
      have x4 : wr.cell? ⟨b, o + k * 5 + 4, none⟩ = some (.slice a2 0 c2) := mc 4 (by omega)
      have tz : Tb (wr.alloc (.cells #[.int .u8 0, .string ⟨#[]⟩, .int .i64 0, .int .i64 0, .slice none 0 0] 25)) wr.heap.size #[.int .u8 0, .string ⟨#[]⟩, .int .i64 0, .int .i64 0, .slice none 0 0] := Tb.new _ _ _ rfl
      have HUZ : Hid (Upd [] w wr ∧ Upd [] wr (wr.alloc (.cells #[.int .u8 0, .string ⟨#[]⟩, .int .i64 0, .int .i64 0, .slice none 0 0] 25))) := ⟨hU, (Upd.refl [] wr).alloc _⟩
      have hone : (#[.int .u8 kk, .string s, .int .i64 num, .int .i64 pos, .slice a2 0 c2] : Array Value).all (·.oneCell') = true := by simp [Value.oneCell']
      clear hc hcell hin hU mc hl5
      go_wp2_with (first
        | (refine store_T _ rfl _ _ rfl _ #[.int .u8 kk, .string s, .int .i64 num, .int .i64 pos, .slice a2 0 c2] _ rfl rfl tz rfl rfl hone ?_; intro w1 t1 u1)
        | (refine load_T _ rfl _ rfl _ _ rfl t1 rfl ?_)
        | fail)
      have U1 : Upd [] w w1 := HUZ.out.1.trans (HUZ.out.2.then u1 (by simp))
      refine Calls.mono (dc1_nil w1 bd bm kk num pos s l a2 c2 HD.out.2.2 (HD.out.1.mono U1 (by simp)) (HD.out.2.1.upd U1 (by simp))) ?_
      rintro e w2 ⟨rfl, hU2⟩
      have HU2 : Hid (Upd [] w w2) := U1.trans hU2
      clear U1 hU2 t1 u1 tz x0 x1 x2 x3 x4
      go_wp2
      go_roundw
      case rel => exact ⟨k + 1, by omega, by go_num, rfl, HU2.out⟩
      case measure => simp [intOf]; omega
    · have hd : decide ((k : Int) < (K.length : Int)) = false := by simp; omega
      go_wp2
      go_ret
      exact ⟨rfl, hU⟩
set_option maxHeartbeats 1000000 in
set_option maxRecDepth 100000 in
/-- deepest, of one node. -/
theorem deepest_one (w : World) (bd bm b c0 : Nat) (k num pos : Int) (s : ByteArray) (l : List (Option Addr × Int × Int)) (g n c : Nat) (v : Int) (hv : 0 < v ∧ v ≤ 1000) (hn : 0 < n) (hn2 : n ≤ 20000) (hb : Tb w b #[.int .u8 k, .string s, .int .i64 num, .int .i64 pos, .slice (some ⟨g, 0, none⟩) n c]) (l1 l2 : List (Option Addr × Int × Int)) (hl0 : l = l1 ++ (some ⟨g, 0, none⟩, (n : Int), v) :: l2) (hl : ∀ t ∈ l1, ∀ W, Upd [] w W → Far W (some ⟨g, 0, none⟩) t.1) (hbd : FunB w bd (.map (some bm)) 44) (hD : DM w bm l) :
    Calls Tryd.prog 36 #[.slice (some ⟨b, 0, none⟩) 1 c0, .func (.func 37) #[] #[.pointer (some ⟨bd, 0, none⟩)]] w fun e w' => e = .returned (.int .i64 v) ∧ Upd [] w w' := by
  have x0 : w.cell? ⟨b, 0, none⟩ = some (.int .u8 k) := hb.cell 0
  have x1 : w.cell? ⟨b, 1, none⟩ = some (.string s) := hb.cell 1
  have x2 : w.cell? ⟨b, 2, none⟩ = some (.int .i64 num) := hb.cell 2
  have x3 : w.cell? ⟨b, 3, none⟩ = some (.int .i64 pos) := hb.cell 3
  have x4 : w.cell? ⟨b, 4, none⟩ = some (.slice (some ⟨g, 0, none⟩) n c) := hb.cell 4
  have HC : Hid (∀ W, Upd [] w W → Calls Tryd.prog 37 #[.agg #[.int .u8 k, .string s, .int .i64 num, .int .i64 pos, .slice (some ⟨g, 0, none⟩) n c], .pointer (some ⟨bd, 0, none⟩)] W fun e w' => e = .returned (.int .i64 v) ∧ Upd [] W w') := fun W hu => dc1_at W bd bm k num pos s l g n c v hn hn2 l1 l2 hl0 (fun t ht V hV => hl t ht V (hu.trans hV)) (hbd.mono hu (by simp)) (hD.upd hu (by simp))
  have tz : Tb (w.alloc (.cells #[.int .u8 0, .string ⟨#[]⟩, .int .i64 0, .int .i64 0, .slice none 0 0] 25)) w.heap.size #[.int .u8 0, .string ⟨#[]⟩, .int .i64 0, .int .i64 0, .slice none 0 0] := Tb.new _ _ _ rfl
  have HUZ : Hid (Upd [] w (w.alloc (.cells #[.int .u8 0, .string ⟨#[]⟩, .int .i64 0, .int .i64 0, .slice none 0 0] 25))) := (Upd.refl [] w).alloc _
  have hone : (#[.int .u8 k, .string s, .int .i64 num, .int .i64 pos, .slice (some ⟨g, 0, none⟩) n c] : Array Value).all (·.oneCell') = true := by simp [Value.oneCell']
  have eg : ∀ args w, (callFunc 37 args).run Tryd.prog w = .ok (.enter 37 args) w := Tryd.call37
  have hmx : max (0 : Int) v = v := by omega
  have hmy : (0 : Int) < v := hv.1
  clear hb hl hbd hD hl0
  go_enter Tryd.func36, Tryd.ntmps36
  go_wp2
  refine wp_loop_rounds 2 ?_
  rw [rounds_succ]
  go_wp2_with (first
    | (refine store_T _ rfl _ _ rfl _ #[.int .u8 k, .string s, .int .i64 num, .int .i64 pos, .slice (some ⟨g, 0, none⟩) n c] _ rfl rfl tz rfl rfl hone ?_; intro w1 t1 u1)
    | (refine load_T _ rfl _ rfl _ _ rfl t1 rfl ?_)
    | fail)
  have U1 : Upd [] w w1 := HUZ.out.then u1 (by simp)
  refine Calls.mono (HC.out _ U1) ?_
  rintro e w2 ⟨rfl, hU2⟩
  have HR : Hid (Upd [] w w2) := U1.trans hU2
  clear U1 hU2 t1 u1 tz x0 x1 x2 x3 x4
  go_wp2
  rw [rounds_succ]
  go_wp2
  go_ret
  exact ⟨rfl, HR.out⟩

end Go.Proofs.YtehfoblfmehbdaaDoor
