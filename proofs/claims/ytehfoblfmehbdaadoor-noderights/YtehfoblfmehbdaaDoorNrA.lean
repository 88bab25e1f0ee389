/- unmet of package node, of whatever row of a tree that is lent. -/
import Derived.Test.YtehfoblfmehbdaaDoorNsO
namespace Go.Proofs.YtehfoblfmehbdaaDoor
open Go.RowKit

/-- A kid, where its own row stands, the blocks of what it has. -/
structure Kid where
  k : Int
  s : ByteArray
  num : Int
  pos : Int
  g : Nat
  c : Nat
  K : List Nd
  Q : Nat → Prop
def Kid.cs (e : Kid) : List Value := [.int .u8 e.k, .string e.s, .int .i64 e.num, .int .i64 e.pos, .slice (some ⟨e.g, 0, none⟩) e.K.length e.c]
def Kid.nd (e : Kid) : Nd := .mk e.k e.s e.num e.pos e.K
def Kid.val (e : Kid) : Value := .slice (some ⟨e.g, 0, none⟩) e.K.length e.c
/-- A row of kids. -/
def RowK (w : World) (b o : Nat) (L : List Kid) : Prop := b < w.heap.size ∧ ∀ i (hi : i < L.length) j, j < 5 → w.cell? ⟨b, o + (i * 5 + j), none⟩ = L[i].cs[j]?
theorem RowK.upd {S : List Nat} {w w' : World} {b o : Nat} {L : List Kid} (h : RowK w b o L) (hu : Upd S w w') (hn : b ∉ S) : RowK w' b o L :=
  ⟨Nat.lt_of_lt_of_le h.1 hu.size, fun i hi j hj => (hu.cell (p := ⟨b, o + (i * 5 + j), none⟩) h.1 hn).trans (h.2 i hi j hj)⟩

set_option maxHeartbeats 4000000 in
set_option maxRecDepth 100000 in
theorem all_kd (b o c : Nat) (L : List Kid) (fid : Nat) (cp : Array Value) (I : Nat → World → Prop) (F : World → Prop) (w : World) (hs : L.length ≤ 2199023255488)
    (eg : ∀ args w, (callFunc fid args).run Tryd.prog w = .ok (.enter fid args) w) (h0 : I 0 w) (hI : ∀ k W, I k W → RowK W b o L) (hV : ∀ k W V, I k W → Upd [] W V → I k V)
    (hp : ∀ k (hk : k < L.length) (W : World), I k W → Calls Tryd.prog fid (#[.agg L[k].cs.toArray] ++ cp) W (AllP (I (k + 1)) F)) :
    Calls Tryd.prog 42 #[.slice (some ⟨b, o, none⟩) L.length c, .func (.func fid) #[] cp] w (AllP (I L.length) F) := by
  have HP : Hid (∀ k (hk : k < L.length) (W : World), I k W → Calls Tryd.prog fid (#[.agg L[k].cs.toArray] ++ cp) W (AllP (I (k + 1)) F)) := hp
  have HI : Hid (∀ k W, I k W → RowK W b o L) := hI
  have HV : Hid (∀ k W V, I k W → Upd [] W V → I k V) := hV
  clear hp hI hV
  go_enter Tryd.func42, Tryd.ntmps42
  go_wp2
  go_loopw [9] (fun i wr => ∃ k : Nat, k ≤ L.length ∧ i = .int .i64 k ∧ I k wr) (fun i _ => L.length - (intOf i).toNat)
  case atStart => exact ⟨0, Nat.zero_le _, rfl, h0⟩
  case round =>
    obtain ⟨k, hk, rfl, hik⟩ := hrel
    by_cases hlt : k < L.length
    · have i1 : (k : Int) < (L.length : Int) := by omega
      obtain ⟨hb, hc⟩ := HI.out k _ hik
      have hcell := hc k hlt
      have HP2 := HP.out k hlt
      obtain ⟨q0, q1, q2, q3, q4, hq⟩ : ∃ q0 q1 q2 q3 q4, L[k].cs = [q0, q1, q2, q3, q4] := ⟨_, _, _, _, _, rfl⟩
      have hone : (#[q0, q1, q2, q3, q4] : Array Value).all (·.oneCell') = true := by
        rw [Kid.cs] at hq
        simp only [List.cons.injEq, and_true] at hq
        obtain ⟨rfl, rfl, rfl, rfl, rfl⟩ := hq
        simp [Value.oneCell']
      rw [hq] at hcell HP2
      have x0 : wr.cell? ⟨b, o + k * 5, none⟩ = some q0 := hcell 0 (by omega)
      have x1 : wr.cell? ⟨b, o + k * 5 + 1, none⟩ = some q1 := hcell 1 (by omega)
      have x2 : wr.cell? ⟨b, o + k * 5 + 2, none⟩ = some q2 := hcell 2 (by omega)
      have x3 : wr.cell? ⟨b, o + k * 5 + 3, none⟩ = some q3 := hcell 3 (by omega)
      have x4 : wr.cell? ⟨b, o + k * 5 + 4, none⟩ = some q4 := hcell 4 (by omega)
      have HPK : Hid (∀ (W : World), I k W → Calls Tryd.prog fid (#[.agg #[q0, q1, q2, q3, q4]] ++ cp) W (AllP (I (k + 1)) F)) := HP2
      have HIK : Hid (I k wr) := hik
      have tz : Tb (wr.alloc (.cells #[.int .u8 0, .string ⟨#[]⟩, .int .i64 0, .int .i64 0, .slice none 0 0] 25)) wr.heap.size #[.int .u8 0, .string ⟨#[]⟩, .int .i64 0, .int .i64 0, .slice none 0 0] := Tb.new _ _ _ rfl
      have HUZ : Hid (Upd [] wr (wr.alloc (.cells #[.int .u8 0, .string ⟨#[]⟩, .int .i64 0, .int .i64 0, .slice none 0 0] 25))) := (Upd.refl [] wr).alloc _
      clear hc hcell hik h0 HP2 hq HP
      go_wp2_with (first
        | (refine store_T _ rfl _ _ rfl _ #[q0, q1, q2, q3, q4] _ rfl rfl tz rfl rfl hone ?_; intro w1 t1 u1)
        | (refine load_T _ rfl _ rfl _ _ rfl t1 rfl ?_)
        | fail)
      have U1 : Upd [] wr w1 := HUZ.out.then u1 (by simp)
      refine Calls.mono (HPK.out _ (HV.out k _ _ HIK.out U1)) ?_
      rintro e w2 ⟨bb, rfl, hy, hn⟩
      have HY : Hid (bb = true → I (k + 1) w2) := hy
      have HN : Hid (bb = false → F w2) := hn
      clear hy hn t1 u1 U1 tz x0 x1 x2 x3 x4
      cases bb with
      | true =>
        go_wp2
        go_roundw
        case rel => exact ⟨k + 1, by omega, by go_num, by have := HY.out; simpa using this⟩
        case measure => simp [intOf]; omega
      | false =>
        go_wp2
        go_ret
        exact ⟨false, rfl, fun h => (by cases h), fun _ => (by have := HN.out; simpa using this)⟩
    · have hd : decide ((k : Int) < (L.length : Int)) = false := by simp; omega
      have HIK : Hid (I L.length wr) := by
        have : k = L.length := by omega
        rw [← this]; exact hik
      clear hik h0
      go_wp2
      go_ret
      exact ⟨true, rfl, fun _ => HIK.out, fun h => by cases h⟩
/-- The rows that unmet has found so far. -/
def UnS (W0 : World) (br : Nat) (T : List Value) (W : World) : Prop :=
  Upd [br] W0 W ∧ ∃ v, FunB W br v 45 ∧ RowG W 1 v T.length ∧ Hs W 1 v T.length (fun i => (T[i]?).toList) ∧ (∀ x, v.ownBlock = some x → W0.heap.size ≤ x) ∧ (T.length = 0 → v = .slice none 0 0)
theorem UnS.later {W0 : World} {br : Nat} {T : List Value} {W V : World} (h : UnS W0 br T W) (hu : Upd [] W V) : UnS W0 br T V := by
  obtain ⟨h1, v, h2, h3, h4, h5⟩ := h
  exact ⟨h1.then hu (by simp), v, h2.mono hu (by simp), h3.upd hu (by simp), h4.upd h3 hu (by simp), h5⟩
set_option maxHeartbeats 2000000 in
set_option maxRecDepth 100000 in
theorem un1_app (w : World) (bd bm br : Nat) (k num pos : Int) (s : ByteArray) (l : List (Option Addr × Int × Int)) (g n c : Nat) (W0 : World) (T : List Value) (hn : 0 < n) (hn2 : n ≤ 20000) (hl : ∀ t ∈ l, ∀ W, Upd [] w W → Far W (some ⟨g, 0, none⟩) t.1) (hun : UnS W0 br T w) (hb0 : br < W0.heap.size) (hT : T.length ≤ 20000) (hbd : FunB w bd (.map (some bm)) 44) (hD : DM w bm l) :
    Calls Tryd.prog 60 #[.agg #[.int .u8 k, .string s, .int .i64 num, .int .i64 pos, .slice (some ⟨g, 0, none⟩) n c], .pointer (some ⟨bd, 0, none⟩), .pointer (some ⟨br, 0, none⟩)] w fun e w' => e = .returned (.bool true) ∧ UnS W0 br (T ++ [.slice (some ⟨g, 0, none⟩) n c]) w' := by
  have u0 : Upd [] w (w.alloc (.cells #[.int .u8 k, .string s, .int .i64 num, .int .i64 pos, .slice (some ⟨g, 0, none⟩) n c] 25)) := (Upd.refl [] w).alloc _
  have tb := Tb.new w #[.int .u8 k, .string s, .int .i64 num, .int .i64 pos, .slice (some ⟨g, 0, none⟩) n c] _ rfl
  have HU0 : Hid (Upd [] w (w.alloc (.cells #[.int .u8 k, .string s, .int .i64 num, .int .i64 pos, .slice (some ⟨g, 0, none⟩) n c] 25))) := u0
  go_enter Tryd.func60, Tryd.ntmps60
  go_wp2
  refine wp_region_held_drew (S := (fun W => FunB W bd (.map (some bm)) 44 ∧ Tb W w.heap.size #[.int .u8 k, .string s, .int .i64 num, .int .i64 pos, .slice (some ⟨g, 0, none⟩) n c] ∧ DM W bm l ∧ Upd [] w W)) (by kernel_rfl) ⟨hbd.mono u0.drew (by simp), tb, hD.upd u0.drew (by simp), u0.drew⟩ (fun hS => ?_)
  refine wpAnyH_take (i := 0) (v := .map (some bm)) rfl (by kernel_rfl) (by kernel_rfl) (by kernel_rfl) (fun _ _ _ h => h) (Or.inl ⟨by rfl, ?_⟩) hS ?_
  · intro W hW; obtain ⟨h1, h2, h3, h4⟩ := hW; have e0 := h1.cell; have e1 : W.cell? ⟨w.heap.size, 4, none⟩ = some (.slice (some ⟨g, 0, none⟩) n c) := h2.cell 4; go_simp
  refine wpAnyH_take (i := 1) (v := .pointer (some ⟨w.heap.size, 4, none⟩)) rfl (by kernel_rfl) (by kernel_rfl) (by kernel_rfl) (fun _ _ _ h => h) (Or.inl ⟨by rfl, ?_⟩) hS ?_
  · intro W hW; obtain ⟨h1, h2, h3, h4⟩ := hW; have e0 := h1.cell; have e1 : W.cell? ⟨w.heap.size, 4, none⟩ = some (.slice (some ⟨g, 0, none⟩) n c) := h2.cell 4; go_simp
  refine wpAnyH_take (i := 2) (v := .slice (some ⟨g, 0, none⟩) n c) rfl (by kernel_rfl) (by kernel_rfl) (by kernel_rfl) (fun _ _ _ h => h) (Or.inl ⟨by rfl, ?_⟩) hS ?_
  · intro W hW; obtain ⟨h1, h2, h3, h4⟩ := hW; have e0 := h1.cell; have e1 : W.cell? ⟨w.heap.size, 4, none⟩ = some (.slice (some ⟨g, 0, none⟩) n c) := h2.cell 4; go_simp
  simp only [Act.put, List.getElem_toArray, List.getElem_cons_succ, List.getElem_cons_zero, List.setIfInBounds_toArray, List.set_cons_succ, List.set_cons_zero]
  refine wpAnyH_ready (rs := [3]) (by kernel_rfl) (by simp) (AllReadyH.cons rfl (fun K hK => ?_) AllReadyH.nil)
  go_simp
  refine (placeOf_some _ g n c hn hn2).mono ?_
  rintro en w1 ⟨rfl, hU1⟩
  have hS1 : (fun W => FunB W bd (.map (some bm)) 44 ∧ Tb W w.heap.size #[.int .u8 k, .string s, .int .i64 num, .int .i64 pos, .slice (some ⟨g, 0, none⟩) n c] ∧ DM W bm l ∧ Upd [] w W) w1 := ⟨hS.1.mono hU1 (by simp), hS.2.1.mono hU1 (by simp), hS.2.2.1.upd hU1 (by simp), hS.2.2.2.trans hU1⟩
  have U1 : Hid (Upd [] w w1) := HU0.out.drew.trans hU1
  refine hK.out _ _ hS1 (fun _ => ?_)
  clear hK K hU1 hS u0 tb
  refine wpAnyH_take (i := 4) (v := .tuple #[.int .i64 0, .bool false]) rfl (by kernel_rfl) (by kernel_rfl) (by kernel_rfl) (fun _ _ _ h => h) (Or.inl ⟨by rfl, ?_⟩) hS1 ?_
  · intro W hW; obtain ⟨h1, h2, h3, h4⟩ := hW; have e2 := (DM.look_no (p := some ⟨g, 0, none⟩) h3 (n : Int) (fun t ht => hl t ht W h4)); go_simp
  refine wpAnyH_take (i := 5) (v := .tuple #[.int .i64 0, .bool false]) rfl (by kernel_rfl) (by kernel_rfl) (by kernel_rfl) (fun _ _ _ h => h) (Or.inl ⟨by rfl, ?_⟩) hS1 ?_
  · intro W hW; go_simp
  refine wpAnyH_take (i := 6) (v := .int .i64 0) rfl (by kernel_rfl) (by kernel_rfl) (by kernel_rfl) (fun _ _ _ h => h) (Or.inl ⟨by rfl, ?_⟩) hS1 ?_
  · intro W hW; go_simp
  refine wpAnyH_take (i := 7) (v := .bool false) rfl (by kernel_rfl) (by kernel_rfl) (by kernel_rfl) (fun _ _ _ h => h) (Or.inl ⟨by rfl, ?_⟩) hS1 ?_
  · intro W hW; go_simp
  refine wpAnyH_take (i := 8) (v := .int .i64 0) rfl (by kernel_rfl) (by kernel_rfl) (by kernel_rfl) (fun _ _ _ h => h) (Or.inl ⟨by rfl, ?_⟩) hS1 ?_
  · intro W hW; go_simp
  refine wpAnyH_take (i := 9) (v := .bool false) rfl (by kernel_rfl) (by kernel_rfl) (by kernel_rfl) (fun _ _ _ h => h) (Or.inl ⟨by rfl, ?_⟩) hS1 ?_
  · intro W hW; go_simp
  simp only [Act.put, List.getElem_toArray, List.getElem_cons_succ, List.getElem_cons_zero, List.setIfInBounds_toArray, List.set_cons_succ, List.set_cons_zero]
  refine wpAnyH_done (by kernel_rfl) ?_ _
  obtain ⟨i0, hi, hz0, hzs, hzb⟩ := info_partsN info_nodesP
  obtain ⟨uW, v, hr1, hrow, hhs, hown, _⟩ := hun.later U1.out
  obtain ⟨va, vc, rfl, hv63⟩ := hrow.form
  have e0 := hr1.cell
  have e1 : w1.cell? ⟨w.heap.size, 4, none⟩ = some (.slice (some ⟨g, 0, none⟩) n c) := hS1.2.1.cell 4
  have hnb : (w1.alloc (.cells #[.slice (some ⟨g, 0, none⟩) n c] 23)).heap[w1.heap.size]? = some (.cells #[.slice (some ⟨g, 0, none⟩) n c] 23 (0, 0)) := heap_alloc_new w1 _
  have uA : Upd [] w1 (w1.alloc (.cells #[.slice (some ⟨g, 0, none⟩) n c] 23)) := (Upd.refl [] w1).alloc _
  have hrA := hrow.upd uA (by simp)
  have HHS : Hid (Hs (w1.alloc (.cells #[.slice (some ⟨g, 0, none⟩) n c] 23)) 1 (.slice va T.length vc) T.length (fun i => (T[i]?).toList)) := hhs.upd hrow uA (by simp)
  have HUW : Hid (Upd [br] W0 (w1.alloc (.cells #[.slice (some ⟨g, 0, none⟩) n c] 23))) := uW.then uA (by simp)
  have HOW : Hid (∀ x, (Value.slice va T.length vc).ownBlock = some x → W0.heap.size ≤ x) := hown
  have HR1 : Hid (FunB (w1.alloc (.cells #[.slice (some ⟨g, 0, none⟩) n c] 23)) br (.slice va T.length vc) 45) := hr1.mono uA (by simp)
  have hlb : br < w1.heap.size := hr1.lt
  have HRA : Hid (RowG (w1.alloc (.cells #[.slice (some ⟨g, 0, none⟩) n c] 23)) 1 (.slice va T.length vc) T.length) := hrA
  clear hl hbd hD hun hr1 hhs uW hown uA hrow
  go_wp2_with (first
    | (at_builtin; refine wpList_appendG rfl _ _ 45 rfl Tryd.underlying45 hi hz0 hzs hzb rfl (v := .slice va T.length vc) (n := T.length) rfl hrA ⟨w1.heap.size, 0, none⟩ 1 1 [.slice (some ⟨g, 0, none⟩) n c] rfl rfl (fun j u hj => by rw [Addr.add_lit, Nat.zero_add, cell_of_row _ _ _ _ _ _ hnb]; simpa using hj) (by intro u hu; simp at hu; subst hu; rfl) (by omega) (by omega) (by omega) ?_; intro b1 c1 w2 hR2 hG2 hC2
       have hb1 : W0.heap.size ≤ b1 := by
         rcases hG2.at' with h1 | h1
         · exact HOW.out b1 h1
         · have := HUW.out.size
           omega
       have hr2 : FunB w2 br (.slice va T.length vc) 45 := HR1.out.mono hG2.upd (by simp; omega)
       have f0 := hr2.cell
       have f1 := hr2.free
       have HB1 : Hid (W0.heap.size ≤ b1) := hb1
       have HG2 : Hid (Grew 1 (w1.alloc (.cells #[.slice (some ⟨g, 0, none⟩) n c] 23)) w2 (.slice va T.length vc) T.length b1 ∧ FunB w2 br (.slice va T.length vc) 45) := ⟨hG2, hr2⟩
       have HR2 : Hid (RowG w2 1 (.slice (some ⟨b1, 0, none⟩) (T.length + 1) c1) (T.length + 1) ∧ w2.cell? ⟨b1, T.length * 1 + 0, none⟩ = some (.slice (some ⟨g, 0, none⟩) n c)) := ⟨hR2, hC2 0 (by omega)⟩
       clear hb1 hr2 hR2 hG2 hC2 hrA)
    | fail)
  go_ret
  have hb1 := HB1.out
  have hbl := HR2.out.1.lt b1 rfl
  have hbr : b1 ≠ br := by omega
  have ub : Upd [br] w2 (w2.setCell ⟨br, 0, none⟩ (.slice (some ⟨b1, 0, none⟩) (T.length + 1) c1)) := (Upd.refl [br] w2).setCell (Or.inr (by simp)) _
  have hx : ∀ x, (Value.slice (some ⟨b1, 0, none⟩) (T.length + 1) c1).ownBlock = some x → x ∉ [br] := fun x hx => by
    simp only [Value.ownBlock, Option.some.injEq] at hx
    simp; omega
  have h1 : Hs (w1.alloc (.cells #[.slice (some ⟨g, 0, none⟩) n c] 23)) 1 (.slice va T.length vc) T.length (fun i => ((T ++ [.slice (some ⟨g, 0, none⟩) n c])[i]?).toList) := HHS.out.weak (fun i hi => by rw [List.getElem?_append_left hi])
  have h2 := HG2.out.1.has1 (l' := T.length + 1) (c' := c1) h1 HRA.out (fun j hj => by
    have hj0 : j = 0 := by omega
    rw [hj0, HR2.out.2]; simp)
  refine ⟨rfl, ((HUW.out.then HG2.out.1.upd (by simp; omega)).trans ub), .slice (some ⟨b1, 0, none⟩) (T.length + 1) c1, HG2.out.2.set _, by simpa using HR2.out.1.upd ub hx, by simpa using h2.upd HR2.out.1 ub hx, fun x hx => ?_, fun h0 => by simp at h0⟩
  simp only [Value.ownBlock, Option.some.injEq] at hx
  omega

/-- The rows among kids that have something. -/
def kv (L : List Kid) : List Value := (L.filter (fun e => e.K.length != 0)).map Kid.val
theorem kv_len (L : List Kid) : (kv L).length ≤ L.length := by
  rw [kv, List.length_map]
  exact List.length_filter_le _ _
theorem kv_take (L : List Kid) (k : Nat) (hk : k < L.length) : kv (L.take (k + 1)) = kv (L.take k) ++ (if L[k].K.length = 0 then [] else [L[k].val]) := by
  rw [List.take_succ_eq_append_getElem hk, kv, List.filter_append, List.map_append, ← kv]
  congr 1
  by_cases h : L[k].K.length = 0
  · simp [h]
  · simp [h]

set_option maxHeartbeats 1000000 in
set_option maxRecDepth 100000 in
/-- The rows of kids whose depths are not known yet. -/
theorem unmet_kd (w : World) (bm b c : Nat) (L : List Kid) (l : List (Option Addr × Int × Int)) (hK : RowK w b 0 L) (hl : ∃ l2, l = (none, 0, 0) :: l2) (hlen : L.length ≤ 20000) (hkl : ∀ e ∈ L, e.K.length ≤ 20000)
    (hf : ∀ e ∈ L, e.K.length ≠ 0 → ∀ t ∈ l, ∀ W, Upd [] w W → Far W (some ⟨e.g, 0, none⟩) t.1) (hD : DM w bm l) :
    Calls Tryd.prog 35 #[.slice (some ⟨b, 0, none⟩) L.length c, .map (some bm)] w fun e w' => ∃ v, e = .returned (.tuple #[v, .bool true]) ∧ Upd [] w w' ∧ RowG w' 1 v (kv L).length ∧ Hs w' 1 v (kv L).length (fun i => ((kv L)[i]?).toList) ∧ (∀ x, v.ownBlock = some x → w.heap.size ≤ x) ∧ ((kv L).length = 0 → v = .slice none 0 0) := by
  have u0 : Upd [] w ((w.alloc (.cells #[.map (some bm)] 44)).alloc (.cells #[.slice none 0 0] 45)) := ((Upd.refl [] w).alloc _).alloc _
  have hbd : FunB ((w.alloc (.cells #[.map (some bm)] 44)).alloc (.cells #[.slice none 0 0] 45)) w.heap.size (.map (some bm)) 44 := (FunB.new w _ _ _ rfl).mono ((Upd.refl [] _).alloc _) (by simp)
  have hbr : FunB ((w.alloc (.cells #[.map (some bm)] 44)).alloc (.cells #[.slice none 0 0] 45)) (w.heap.size + 1) (.slice none 0 0) 45 := FunB.new _ _ _ _ (by simp)
  have hz : ((w.alloc (.cells #[.map (some bm)] 44)).alloc (.cells #[.slice none 0 0] 45)).heap.size = w.heap.size + 2 := by simp
  obtain ⟨W0, hW0⟩ : ∃ W0, W0 = (w.alloc (.cells #[.map (some bm)] 44)).alloc (.cells #[.slice none 0 0] 45) := ⟨_, rfl⟩
  rw [← hW0] at u0 hbd hbr hz
  have hbl := hK.1
  have hml := hD.lt
  have HA : Hid (Unit → _) := fun _ => all_kd b 0 c L 60 #[.pointer (some ⟨w.heap.size, 0, none⟩), .pointer (some ⟨w.heap.size + 1, 0, none⟩)] (fun k W => UnS W0 (w.heap.size + 1) (kv (L.take k)) W) (fun _ => False) W0 (by omega) Tryd.call60 ⟨Upd.refl _ W0, .slice none 0 0, hbr, Or.inl ⟨rfl, rfl⟩, Hs.zero _ _ _ _, (fun x hx => by cases hx), fun _ => rfl⟩ (fun k W h => (hK.upd u0 (by simp)).upd h.1 (by simp; omega)) (fun k W V h hu => h.later hu) (fun k hk W h => by
    have hb1 : FunB W w.heap.size (.map (some bm)) 44 := hbd.mono h.1 (by simp)
    have hd1 : DM W bm l := (hD.upd u0 (by simp)).upd h.1 (by simp; omega)
    have hkt := kv_take L k hk
    by_cases h0 : L[k].K.length = 0
    · rw [if_pos h0, List.append_nil] at hkt
      have hc := un1_nil W w.heap.size bm (w.heap.size + 1) L[k].k L[k].num L[k].pos L[k].s l (some ⟨L[k].g, 0, none⟩) L[k].c hl hb1 hd1
      rw [Kid.cs, h0]
      refine Calls.mono hc ?_
      rintro e w' ⟨rfl, hu⟩
      exact ⟨true, rfl, fun _ => by rw [hkt]; exact h.later hu, fun h => by cases h⟩
    · rw [if_neg h0] at hkt
      have hm : L[k] ∈ L := List.getElem_mem hk
      have hc := un1_app W w.heap.size bm (w.heap.size + 1) L[k].k L[k].num L[k].pos L[k].s l L[k].g L[k].K.length L[k].c W0 (kv (L.take k)) (by omega) (hkl _ hm) (fun t ht V hV => hf _ hm h0 t ht V ((u0.then h.1 (by simp)).trans hV)) h (by omega) (by have := kv_len (L.take k); have := List.length_take_le k L; omega) hb1 hd1
      refine Calls.mono hc ?_
      rintro e w' ⟨rfl, hu⟩
      exact ⟨true, rfl, fun _ => by rw [hkt]; exact hu, fun h => by cases h⟩)
  have HU0 : Hid (Upd [] w W0 ∧ W0.heap.size = w.heap.size + 2) := ⟨u0, hz⟩
  have HW0 : Hid (W0 = _) := hW0
  clear u0 hbd hbr hW0 hl hD hz hf hkl hK
  go_enter Tryd.func35, Tryd.ntmps35
  go_wp2_with fail
  rw [← HW0.out]
  refine Calls.mono (HA.out ()) ?_
  rintro e w1 ⟨b1, rfl, hy, hn⟩
  cases b1 with
  | false => exact (hn rfl).elim
  | true =>
    obtain ⟨hU1, v, hr1, hrow, hhs, hown, hnil⟩ := hy rfl
    rw [List.take_length] at hrow hhs hnil
    obtain ⟨va, vc, rfl, hv63⟩ := hrow.form
    have e0 := hr1.cell
    have e1 := hr1.free
    have HR1 : Hid (FunB w1 (w.heap.size + 1) (.slice va (kv L).length vc) 45) := hr1
    have HU1 : Hid (Upd [] w w1) := HU0.out.1.then hU1 (by simp)
    have HRW : Hid (RowG w1 1 (.slice va (kv L).length vc) (kv L).length ∧ Hs w1 1 (.slice va (kv L).length vc) (kv L).length (fun i => ((kv L)[i]?).toList) ∧ ∀ x, (Value.slice va (kv L).length vc).ownBlock = some x → W0.heap.size ≤ x) := ⟨hrow, hhs, hown⟩
    have HNI : Hid ((kv L).length = 0 → Value.slice va (kv L).length vc = .slice none 0 0) := hnil
    clear hy hn hU1 hr1 hrow hhs hown HA hnil
    go_wp2
    have f0 := (HR1.out.set (.slice va (kv L).length vc)).cell
    have hz := HU0.out.2
    have ub : Upd [w.heap.size + 1] w1 (w1.setCell ⟨w.heap.size + 1, 0, none⟩ (.slice va (kv L).length vc)) := (Upd.refl [w.heap.size + 1] w1).setCell (Or.inr (by simp)) _
    have hx : ∀ x, (Value.slice va (kv L).length vc).ownBlock = some x → x ∉ [w.heap.size + 1] := fun x hx => by
      have := HRW.out.2.2 x hx
      simp; omega
    refine bodyPost_ret (v := .tuple #[.slice va (kv L).length vc, .bool true]) (by simp [results, Tryd.results35, go_sem, f0]) rfl ⟨_, rfl, HU1.out.setCell (Or.inl (by simp)) _, HRW.out.1.upd ub hx, HRW.out.2.1.upd HRW.out.1 ub hx, fun x hx => (by have := HRW.out.2.2 x hx; omega), HNI.out⟩

end Go.Proofs.YtehfoblfmehbdaaDoor
