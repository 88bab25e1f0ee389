/- Nodes that are the same but for places; nodes that are lent: each row in a block of its own. -/
import Derived.Test.YtehfoblfmehbdaaDoorJAA
import Derived.OwnWalk
import Derived.OwnWalkIn

namespace Go.Proofs.YtehfoblfmehbdaaDoor
open Go.RowKit

mutual
/-- The same but for places. -/
def samN : Nd → Nd → Bool
  | .mk k s num _ K, .mk k' s' num' _ K' => (k == k' && num == num' && s.toList == s'.toList) && samR K K'
def samR : List Nd → List Nd → Bool
  | [], [] => true
  | a :: r, b :: r' => samN a b && samR r r'
  | [], _ :: _ => false
  | _ :: _, [] => false
end
/-- The same but for places and kids. -/
def heaN : Nd → Nd → Bool
  | .mk k s num _ _, .mk k' s' num' _ _ => k == k' && num == num' && s.toList == s'.toList
theorem samR_len : ∀ (K K' : List Nd), samR K K' = true → K.length = K'.length
  | [], [], _ => rfl
  | a :: r, b :: r', h => by
    rw [samR, Bool.and_eq_true] at h
    simp [samR_len r r' h.2]
  | [], _ :: _, h => by simp [samR] at h
  | _ :: _, [], h => by simp [samR] at h
theorem samR_iff : ∀ (K K' : List Nd), samR K K' = true ↔ K.length = K'.length ∧ ∀ i (h : i < K.length) (h' : i < K'.length), samN K[i] K'[i] = true
  | [], [] => by simp [samR]
  | a :: r, b :: r' => by
    rw [samR, Bool.and_eq_true, samR_iff r r']
    constructor
    · rintro ⟨h1, h2, h3⟩
      refine ⟨by simp [h2], fun i h h' => ?_⟩
      cases i with
      | zero => exact h1
      | succ i => exact h3 i (by simpa using h) (by simpa using h')
    · rintro ⟨h1, h2⟩
      refine ⟨h2 0 (by simp) (by simp), by simpa using h1, fun i h h' => ?_⟩
      exact h2 (i + 1) (by simpa using h) (by simpa using h')
  | [], _ :: _ => by simp [samR]
  | _ :: _, [] => by simp [samR]
theorem samN_eq (a b : Nd) : samN a b = (heaN a b && samR a.kids b.kids) := by
  cases a; cases b; rfl

/-- The cells of a mark among nodes. -/
def markN (i : Nat) : List Value := [.int .u8 0, .string ⟨#[]⟩, .int .i64 0, .int .i64 ((8000024 + i : Nat) : Int), .slice none 0 0]
def markT (i : Nat) : Nd := .mk 0 ⟨#[]⟩ 0 ((8000024 + i : Nat) : Int) []
theorem markN_in (w : World) (i : Nat) : NIn w 1 (markN i) (markT i) := ⟨none, 0, rfl, Or.inl rfl, by simp, by omega⟩

/-- A row of nodes in an unmarked block of its own, its kids' rows in others, all apart. -/
def RowS (R : List Value → Nd → (Nat → Prop) → Prop) (w : World) (g cap : Nat) (K : List Nd) (P : Nat → Prop) : Prop :=
  P g ∧ (∃ cur : Array Value, w.heap[g]? = some (.cells cur 25 (0, 0)) ∧ K.length * 5 ≤ cur.size) ∧ K.length ≤ cap ∧ cap ≤ 9223372036854775807 ∧
    ∃ Q : Nat → Nat → Prop, (∀ i x, i < K.length → Q i x → P x ∧ x ≠ g) ∧ (∀ i j x, i < K.length → j < K.length → i ≠ j → Q i x → ¬ Q j x) ∧
      ∀ i (hi : i < K.length), ∃ cs : List Value, cs.length = 5 ∧ (∀ j, j < 5 → w.cell? ⟨g, i * 5 + j, none⟩ = cs[j]?) ∧ R cs K[i] (Q i)
/-- The five cells of a node that is lent: its rows in blocks of which P holds, with marks behind them. -/
def NL (w : World) : Nat → List Value → Nd → (Nat → Prop) → Prop
  | 0, _, _, _ => False
  | d + 1, cs, .mk k s num pos K, P => ∃ (g cap : Nat), cs = [.int .u8 k, .string s, .int .i64 num, .int .i64 pos, .slice (some ⟨g, 0, none⟩) K.length cap] ∧ RowS (NL w d) w g cap K P ∧ K.length + 12 ≤ cap ∧
      ∀ i, i < 12 → ∀ j, j < 5 → w.cell? ⟨g, (K.length + i) * 5 + j, none⟩ = (markN i)[j]?

theorem RowS.lt {R : List Value → Nd → (Nat → Prop) → Prop} {w : World} {g cap : Nat} {K : List Nd} {P : Nat → Prop} (h : RowS R w g cap K P) : g < w.heap.size := by
  obtain ⟨_, ⟨cur, h1, _⟩, _⟩ := h
  exact lt_of_block h1
theorem RowS.upd {R R' : List Value → Nd → (Nat → Prop) → Prop} {S : List Nat} {w w' : World} {g cap : Nat} {K : List Nd} {P P' : Nat → Prop} (h : RowS R w g cap K P) (hu : Upd S w w') (hn : ∀ x, P x → x ∉ S) (hP : ∀ x, P x → P' x)
    (hR : ∀ cs t Q, (∀ x, Q x → x ∉ S) → R cs t Q → R' cs t Q) : RowS R' w' g cap K P' := by
  have hlt := h.lt
  obtain ⟨h1, ⟨cur, h2, h3⟩, h4, h5, Q, h6, h7, h8⟩ := h
  refine ⟨hP g h1, ⟨cur, (hu.block g hlt (hn g h1)).trans h2, h3⟩, h4, h5, Q, fun i x hi hx => ⟨hP x (h6 i x hi hx).1, (h6 i x hi hx).2⟩, h7, fun i hi => ?_⟩
  obtain ⟨cs, k1, k2, k3⟩ := h8 i hi
  exact ⟨cs, k1, fun j hj => (hu.cell (p := ⟨g, i * 5 + j, none⟩) hlt (hn g h1)).trans (k2 j hj), hR _ _ _ (fun x hx => hn x (h6 i x hi hx).1) k3⟩
theorem NL.upd {S : List Nat} {w w' : World} (hu : Upd S w w') : ∀ (d : Nat) (cs : List Value) (t : Nd) (P : Nat → Prop), (∀ x, P x → x ∉ S) → NL w d cs t P → NL w' d cs t P := by
  intro d
  induction d with
  | zero => intro cs t P _ h; exact h.elim
  | succ d ih =>
    intro cs t P hn h
    cases t with
    | mk k s num pos K =>
      obtain ⟨g, cap, rfl, h1, h2, h3⟩ := h
      exact ⟨g, cap, rfl, h1.upd hu hn (fun x hx => hx) (fun cs t Q hx hR => ih cs t Q hx hR), h2, fun i hi j hj => (hu.cell (p := ⟨g, (K.length + i) * 5 + j, none⟩) h1.lt (hn g h1.1)).trans (h3 i hi j hj)⟩
theorem NL.wide {w : World} {d : Nat} {cs : List Value} {t : Nd} {P P' : Nat → Prop} (h : NL w d cs t P) (hP : ∀ x, P x → P' x) : NL w d cs t P' := by
  cases d with
  | zero => exact h.elim
  | succ d =>
    cases t with
    | mk k s num pos K =>
      obtain ⟨g, cap, rfl, h1, h2, h3⟩ := h
      exact ⟨g, cap, rfl, h1.upd (S := []) (Upd.refl [] w) (fun x _ => by simp) hP (fun cs t Q _ hR => hR), h2, h3⟩
theorem RowS.plain {R : List Value → Nd → (Nat → Prop) → Prop} {Z : List Value → Nd → Prop} {w : World} {g cap : Nat} {K : List Nd} {P : Nat → Prop} (h : RowS R w g cap K P) (hR : ∀ cs t Q, R cs t Q → Z cs t) : RowN Z w (some ⟨g, 0, none⟩) K := by
  have hlt := h.lt
  obtain ⟨h1, _, h4, h5, Q, h6, h7, h8⟩ := h
  refine Or.inr ⟨g, 0, rfl, hlt, fun i hi => ?_⟩
  obtain ⟨cs, k1, k2, k3⟩ := h8 i hi
  exact ⟨cs, k1, fun j hj => by rw [Nat.zero_add]; exact k2 j hj, hR _ _ _ k3⟩
/-- What is lent is the node. -/
theorem NL.plain {w : World} : ∀ (d : Nat) (cs : List Value) (t : Nd) (P : Nat → Prop), NL w d cs t P → NIn w d cs t := by
  intro d
  induction d with
  | zero => intro cs t P h; exact h.elim
  | succ d ih =>
    intro cs t P h
    cases t with
    | mk k s num pos K =>
      obtain ⟨g, cap, rfl, h1, h2, h3⟩ := h
      exact ⟨_, cap, rfl, h1.plain ih, h1.2.2.1, h1.2.2.2.1⟩
theorem NIn.shape {w : World} {d : Nat} {cs : List Value} {t : Nd} (h : NIn w d cs t) : ∃ (k : Int) (s : ByteArray) (num pos : Int) (a : Option Addr) (n c : Nat), cs = [.int .u8 k, .string s, .int .i64 num, .int .i64 pos, .slice a n c] := by
  cases d with
  | zero => exact h.elim
  | succ d =>
    cases t with
    | mk k s num pos K =>
      obtain ⟨a, c, rfl, _⟩ := h
      exact ⟨k, s, num, pos, _, _, _, rfl⟩

end Go.Proofs.YtehfoblfmehbdaaDoor

/- mark, markNode, LentNodes and LentNode of the kit, by their contracts. -/
namespace Go.Proofs.YtehfoblfmehbdaaDoor
open Go.RowKit

theorem info_partsN {P : Program} {t : TypeId} {z : Value} {sz bytes : Nat} (h : (P.info? t).map (fun i => (i.zero, i.size, i.bytes)) = some (some z, sz, bytes)) : ∃ i, P.info? t = some i ∧ i.zero = some z ∧ i.size = sz ∧ i.bytes = bytes := by
  obtain ⟨i, h1, h2⟩ := Option.map_eq_some_iff.1 h
  simp only [Prod.mk.injEq] at h2
  exact ⟨i, h1, h2.1, h2.2.1, h2.2.2⟩
theorem info_nodeP : (Tryd.prog.info? 25).map (fun i => (i.zero, i.size, i.bytes)) = some (some (.agg #[.int .u8 0, .string ⟨#[]⟩, .int .i64 0, .int .i64 0, .slice none 0 0]), 5, 64) := by kernel_rfl

set_option maxHeartbeats 1000000 in
set_option maxRecDepth 100000 in
theorem mark_any (i : Nat) (w : World) (hi : i < 12) : Calls Tryd.prog 62 #[.int .i64 1, .int .i64 i] w fun e w' => e = .returned (.int .i64 ((8000024 + i : Nat) : Int)) ∧ w' = w := by
  go_enter Tryd.func62, Tryd.ntmps62
  go_wp2
  go_ret
  refine ⟨?_, rfl⟩
  congr 2
set_option maxHeartbeats 1000000 in
set_option maxRecDepth 100000 in
theorem markNode_any (i : Nat) (w : World) (hi : i < 12) : Calls Tryd.prog 40 #[.int .i64 1, .int .i64 i] w fun e w' => e = .returned (.agg (markN i).toArray) ∧ Upd [] w w' := by
  have u0 := (Upd.refl [] w).alloc (.cells #[.int .u8 0, .string ⟨#[]⟩, .int .i64 0, .int .i64 0, .slice none 0 0] 25)
  have t0 := Tb.new w #[.int .u8 0, .string ⟨#[]⟩, .int .i64 0, .int .i64 0, .slice none 0 0] _ rfl
  go_enter Tryd.func40, Tryd.ntmps40
  go_wp2_with fail
  refine (mark_any i _ hi).mono ?_
  rintro e w1 ⟨rfl, hw1⟩
  rw [hw1]
  clear hw1
  go_wp2_with (refine store_T _ rfl _ _ rfl _ #[.int .u8 0, .string ⟨#[]⟩, .int .i64 0, .int .i64 ((8000024 + i : Nat) : Int), .slice none 0 0] _ rfl rfl t0 rfl rfl (by simp [Value.oneCell']) ?_; intro w3 hT3 hU3)
  exact ret_T Tryd.results40 rfl _ _ rfl hT3 rfl ⟨rfl, u0.then hU3 (by simp)⟩

/-- The rows of cells, one behind the other. -/
def ON (w : World) (g k cap : Nat) (C : List (List Value)) : Prop := w.ownsRow g 25 5 (.slice (some ⟨g, 0, none⟩) k cap) k C.flatten
theorem ON.upd {w w' : World} {g k cap : Nat} {C : List (List Value)} (h : ON w g k cap C) (hu : Upd [] w w') : ON w' g k cap C := by
  obtain ⟨h0, h1 | ⟨g', cap', cur, hv, hb, hh, h2⟩⟩ := h
  · exact ⟨h0, Or.inl h1⟩
  · exact ⟨h0, Or.inr ⟨g', cap', cur, hv, hb, (hu.block g' (lt_of_block hh) (by simp)).trans hh, h2⟩⟩
theorem flat5 : ∀ (C : List (List Value)) (_ : ∀ c ∈ C, c.length = 5) (i j : Nat) (hi : i < C.length), j < 5 → C.flatten[i * 5 + j]? = C[i][j]? := by
  intro C
  induction C with
  | nil => intro _ i j hi; simp at hi
  | cons x r ih =>
    intro h i j hi hj
    have hx := h x List.mem_cons_self
    rw [List.flatten_cons]
    cases i with
    | zero => rw [List.getElem?_append_left (by omega)]; simp
    | succ i =>
      rw [List.getElem?_append_right (by omega)]
      rw [show (i + 1) * 5 + j - x.length = i * 5 + j by omega]
      simpa using ih (fun c hc => h c (List.mem_cons_of_mem _ hc)) i j (by simpa using hi) hj
theorem ON.block {w : World} {g k cap : Nat} {C : List (List Value)} (h : ON w g k cap C) : ∃ cur : Array Value, w.heap[g]? = some (.cells cur 25 (0, 0)) ∧ cur.size = cap * 5 := by
  obtain ⟨hl, ⟨h1, _⟩ | ⟨g', cap', cur, hv, hb, hh, hc1, hc2, hcs, hcu⟩⟩ := h
  · cases h1
  · simp only [Value.slice.injEq, Option.some.injEq, Addr.mk.injEq, and_true, true_and] at hv
    obtain ⟨rfl, rfl⟩ := hv
    exact ⟨cur, hh, hcs⟩
theorem ON.cell {w : World} {g k cap : Nat} {C : List (List Value)} (h : ON w g k cap C) (hk : C.length = k) (h7 : ∀ c ∈ C, c.length = 5) (i j : Nat) (hi : i < C.length) (hj : j < 5) : w.cell? ⟨g, i * 5 + j, none⟩ = C[i][j]? := by
  obtain ⟨hl, ⟨h1, _⟩ | ⟨g', cap', cur, hv, hb, hh, hc1, hc2, hcs, hcu⟩⟩ := h
  · cases h1
  · simp only [Value.slice.injEq, Option.some.injEq, Addr.mk.injEq, and_true, true_and] at hv
    obtain ⟨rfl, rfl⟩ := hv
    rw [cell_of_row w g (i * 5 + j) _ _ _ hh, ← Array.getElem?_toList]
    have e : cur.toList[i * 5 + j]? = (cur.toList.take (k * 5))[i * 5 + j]? := by rw [List.getElem?_take_of_lt (by omega)]
    rw [e, hcu]
    exact flat5 C h7 i j hi hj

/-- Kids that lie apart, behind their row. -/
def KidsS (base : Nat) (wr : World) (d : Nat) (C : List (List Value)) (K : List Nd) : Prop := ∃ Q : Nat → Nat → Prop, (∀ j (hj : j < C.length) (hi : j < K.length), C[j].length = 5 ∧ NL wr d C[j] K[j] (Q j)) ∧ (∀ j x, j < C.length → Q j x → base < x ∧ x < wr.heap.size) ∧ ∀ i j x, i < C.length → j < C.length → i ≠ j → Q i x → ¬ Q j x
theorem KidsS.nil (base : Nat) (wr : World) (d : Nat) (K : List Nd) : KidsS base wr d [] K := ⟨fun _ _ => False, fun j hj => by simp at hj, fun j x hj => by simp at hj, fun i j x hi => by simp at hi⟩
theorem KidsS.keep {base d : Nat} {w w' : World} {C : List (List Value)} {K : List Nd} (h : KidsS base w d C K) (hu : Upd [base] w w') : KidsS base w' d C K := by
  obtain ⟨Q, h1, h2, h3⟩ := h
  refine ⟨Q, fun j hj hi => ?_, fun j x hj hx => ⟨(h2 j x hj hx).1, Nat.lt_of_lt_of_le (h2 j x hj hx).2 hu.size⟩, h3⟩
  obtain ⟨a1, a2⟩ := h1 j hj hi
  exact ⟨a1, NL.upd hu _ _ _ _ (fun x hx hm => by have := (h2 j x hj hx).1; simp at hm; omega) a2⟩
theorem KidsS.snoc {base d : Nat} {w w1 w' : World} {C : List (List Value)} {K : List Nd} {cs : List Value} (h : KidsS base w d C K) (hC : C.length < K.length) (hb : base < w.heap.size) (hu : Upd [base] w w') (hu1 : Upd [base] w1 w') (h5 : cs.length = 5)
    (hn : NL w1 d cs K[C.length] (fun x => w.heap.size ≤ x ∧ x < w1.heap.size)) : KidsS base w' d (C ++ [cs]) K := by
  obtain ⟨Q, h1, h2, h3⟩ := h
  refine ⟨fun j => if j < C.length then Q j else fun x => w.heap.size ≤ x ∧ x < w1.heap.size, fun j hj hi => ?_, fun j x hj hx => ?_, fun i j x hi hj hij hx => ?_⟩
  · by_cases hjC : j < C.length
    · simp only [hjC, if_true]
      rw [List.getElem_append_left hjC]
      obtain ⟨a1, a2⟩ := h1 j hjC hi
      exact ⟨a1, NL.upd hu _ _ _ _ (fun x hx hm => by have := (h2 j x hjC hx).1; simp at hm; omega) a2⟩
    · have e : j = C.length := by simp at hj; omega
      subst e
      simp only [Nat.lt_irrefl, if_false]
      rw [List.getElem_append_right (Nat.le_refl _)]
      simp only [Nat.sub_self, List.getElem_cons_zero]
      exact ⟨h5, NL.upd hu1 _ _ _ _ (fun x hx hm => by simp at hm; omega) hn⟩
  · have s1 := hu.size
    have s2 := hu1.size
    by_cases hjC : j < C.length
    · simp only [hjC, if_true] at hx
      have := h2 j x hjC hx
      omega
    · simp only [hjC, if_false] at hx
      omega
  · simp at hi hj
    by_cases hiC : i < C.length <;> by_cases hjC : j < C.length
    · simp only [hiC, hjC, if_true] at hx ⊢
      exact h3 i j x hiC hjC hij hx
    · simp only [hiC, hjC, if_true, if_false] at hx ⊢
      have := h2 i x hiC hx
      omega
    · simp only [hiC, hjC, if_true, if_false] at hx ⊢
      intro hx2
      have := h2 j x hjC hx2
      omega
    · omega

/-- What LentNode is to answer, of depth d. -/
def LentS (d : Nat) : Prop := ∀ (w : World) (cs : List Value) (t : Nd), NIn w d cs t → nsz t ≤ 20000 → Calls Tryd.prog 6 #[.agg cs.toArray] w fun e w' => Upd [] w w' ∧ ∃ cs', cs'.length = 5 ∧ e = .returned (.agg cs'.toArray) ∧ NL w' d cs' t (fun x => w.heap.size ≤ x ∧ x < w'.heap.size)
def LentInv (d : Nat) (w : World) (K : List Nd) (ov i : Value) (wr : World) : Prop := ∃ (k : Nat) (C : List (List Value)), k ≤ K.length ∧ i = .int .i64 k ∧ ov = .slice (some ⟨w.heap.size, 0, none⟩) k (K.length + 12) ∧ ON wr w.heap.size k (K.length + 12) C ∧ C.length = k ∧ Upd [] w wr ∧ w.heap.size < wr.heap.size ∧ KidsS w.heap.size wr d C K

set_option maxHeartbeats 4000000 in
set_option maxRecDepth 100000 in
theorem LentNodes_in (d : Nat) (ih : LentS d) (w : World) (a : Option Addr) (c : Nat) (K : List Nd) (h : RowN (NIn w d) w a K) (hs : nszs K ≤ 20000) :
    Calls Tryd.prog 22 #[.slice a K.length c] w fun e w' => Upd [] w w' ∧ ∃ g, e = .returned (.slice (some ⟨g, 0, none⟩) K.length (K.length + 12)) ∧ RowS (NL w' d) w' g (K.length + 12) K (fun x => w.heap.size ≤ x ∧ x < w'.heap.size) ∧ ∀ i, i < 12 → ∀ j, j < 5 → w'.cell? ⟨g, (K.length + i) * 5 + j, none⟩ = (markN i)[j]? := by
  obtain ⟨i0, hi, hz0, hz1, hz2⟩ := info_partsN info_nodeP
  have hIl := nszs_len K
  have hlen : K.length ≤ 20000 := by omega
  have HS : Hid (nszs K ≤ 20000) := hs
  have HA : Hid (RowN (NIn w d) w a K) := h
  have IH : Hid (LentS d) := ih
  clear hIl hs h ih
  go_enter Tryd.func22, Tryd.ntmps22
  go_wp2_with (at_make; refine wpList_make_own _ rfl _ _ 23 rfl w.heap.size 25 i0 _ 5 Tryd.underlying23 hi hz0 hz1 .i64 .i64 _ (K.length + 12) rfl rfl (by simp) (by rw [hz2]; omega) (by unfold maxLen; omega) (Nat.le_refl _) ?_; intro w0 hown0 hgr0)
  have hU0 : Upd [] w w0 := (Upd.refl [] w).grown hgr0 (fun k hk => by cases hk)
  have hlt0 : w.heap.size < w0.heap.size := (World.ownsRow.lt hown0 w.heap.size rfl).2
  go_loopw [3, 4] (LentInv d w K) (fun _ i _ => K.length - (intOf i).toNat)
  case atStart => exact ⟨0, [], Nat.zero_le _, rfl, rfl, hown0, rfl, hU0, hlt0, KidsS.nil _ _ _ _⟩
  case round =>
    obtain ⟨k, C, hk, rfl, rfl, hO, hC, hU, hlt, hS⟩ := hrel
    have HSk : Hid (KidsS w.heap.size wr d C K) := hS
    clear hS
    by_cases hk2 : k < K.length
    · rcases HA.out with h0 | ⟨b, o, rfl, hltb, hc⟩
      · rw [h0] at hk2; simp at hk2
      obtain ⟨cs, hl5, hcell, hin⟩ := hc k hk2
      obtain ⟨q0, q1, q2, q3, q4, rfl⟩ := list5 hl5
      have HIN : Hid (NIn w d [q0, q1, q2, q3, q4] K[k]) := hin
      have HSZ : Hid (nsz K[k] ≤ 20000) := Nat.le_trans (nszs_get K k hk2) HS.out
      have mc : ∀ j, j < 5 → wr.cell? ⟨b, o + (k * 5 + j), none⟩ = [q0, q1, q2, q3, q4][j]? := fun j hj => (hU.cell (p := ⟨b, o + (k * 5 + j), none⟩) hltb (by simp)).trans (hcell j hj)
      have x0 : wr.cell? ⟨b, o + k * 5, none⟩ = some q0 := mc 0 (by omega)
      have x1 : wr.cell? ⟨b, o + k * 5 + 1, none⟩ = some q1 := mc 1 (by omega)
      have x2 : wr.cell? ⟨b, o + k * 5 + 2, none⟩ = some q2 := mc 2 (by omega)
      have x3 : wr.cell? ⟨b, o + k * 5 + 3, none⟩ = some q3 := mc 3 (by omega)
      have x4 : wr.cell? ⟨b, o + k * 5 + 4, none⟩ = some q4 := mc 4 (by omega)
      have HO : Hid (ON wr w.heap.size k (K.length + 12) C) := hO
      have HC : Hid (C.length = k) := hC
      clear hc hin hcell hl5 mc hO hC hown0 hgr0 hU0 hlt0
      go_wp2_with fail
      refine (IH.out wr [q0, q1, q2, q3, q4] K[k] (NIn.mono hU _ _ _ HIN.out) HSZ.out).mono ?_
      rintro e w1 ⟨hU1, cs', hl', rfl, hk'⟩
      obtain ⟨k1, s1, num1, pos1, a1, n1, c1, rfl⟩ := (NL.plain _ _ _ _ hk').shape
      have HKN : Hid (NL w1 d [.int .u8 k1, .string s1, .int .i64 num1, .int .i64 pos1, .slice a1 n1 c1] K[k] (fun x => wr.heap.size ≤ x ∧ x < w1.heap.size)) := hk'
      have hO1 := HO.out.upd hU1
      have hU01 := hU.trans hU1
      have hsz1 := hU1.size
      have hown2 : ((w1.alloc (.cells #[.int .u8 k1, .string s1, .int .i64 num1, .int .i64 pos1, .slice a1 n1 c1] 25)).alloc (.cells #[.int .u8 k1, .string s1, .int .i64 num1, .int .i64 pos1, .slice a1 n1 c1] 25)).ownsRow w.heap.size 25 5 (.slice (some ⟨w.heap.size, 0, none⟩) k (K.length + 12)) k C.flatten := World.ownsRow.alloc (World.ownsRow.alloc hO1 _) _
      have tn := Tb.new (w1.alloc (.cells #[.int .u8 k1, .string s1, .int .i64 num1, .int .i64 pos1, .slice a1 n1 c1] 25)) #[.int .u8 k1, .string s1, .int .i64 num1, .int .i64 pos1, .slice a1 n1 c1] (w1.heap.size + 1) (by simp)
      have hcl : ∀ j u, ([.int .u8 k1, .string s1, .int .i64 num1, .int .i64 pos1, .slice a1 n1 c1] : List Value)[j]? = some u → ((w1.alloc (.cells #[.int .u8 k1, .string s1, .int .i64 num1, .int .i64 pos1, .slice a1 n1 c1] 25)).alloc (.cells #[.int .u8 k1, .string s1, .int .i64 num1, .int .i64 pos1, .slice a1 n1 c1] 25)).cell? ((⟨w1.heap.size + 1, 0, none⟩ : Addr).add j) = some u := fun j u hj => by
        rw [Addr.add_lit, Nat.zero_add, tn.cell j]
        simpa using hj
      have hone : ∀ u ∈ ([.int .u8 k1, .string s1, .int .i64 num1, .int .i64 pos1, .slice a1 n1 c1] : List Value), u.oneCell' = true := by
        intro u hu
        simp only [List.mem_cons, List.not_mem_nil, or_false] at hu
        rcases hu with h | h | h | h | h <;> subst h <;> rfl
      have HCL : Hid (∀ j u, ([.int .u8 k1, .string s1, .int .i64 num1, .int .i64 pos1, .slice a1 n1 c1] : List Value)[j]? = some u → ((w1.alloc (.cells #[.int .u8 k1, .string s1, .int .i64 num1, .int .i64 pos1, .slice a1 n1 c1] 25)).alloc (.cells #[.int .u8 k1, .string s1, .int .i64 num1, .int .i64 pos1, .slice a1 n1 c1] 25)).cell? ((⟨w1.heap.size + 1, 0, none⟩ : Addr).add j) = some u) := hcl
      clear hk' hl' tn x0 x1 x2 x3 x4 hcl
      go_wp2_with (at_builtin; refine wpList_append_fits _ rfl _ _ 23 rfl w.heap.size 25 i0 5 Tryd.underlying23 hi hz1 w.heap.size k (K.length + 12) C.flatten rfl hown2 ⟨w1.heap.size + 1, 0, none⟩ 1 1 [.int .u8 k1, .string s1, .int .i64 num1, .int .i64 pos1, .slice a1 n1 c1] rfl rfl (Hid.out HCL) hone (by omega) ?_; intro w3 hown3 hgr3)
      have hV1 : Upd [w.heap.size] w1 w3 := (((Upd.refl [w.heap.size] w1).alloc _).alloc _).grown hgr3 (fun x hx => Or.inr (by cases hx; simp))
      have hV : Upd [w.heap.size] wr w3 := ((Upd.refl [w.heap.size] wr).then hU1 (by simp)).trans hV1
      refine ⟨⟨k + 1, C ++ [[.int .u8 k1, .string s1, .int .i64 num1, .int .i64 pos1, .slice a1 n1 c1]], by omega, by simp, rfl, ?_, by rw [List.length_append, HC.out]; rfl, ((hU01.alloc _).alloc _).grown hgr3 (fun x hx => Or.inl (by cases hx; exact Nat.le_refl _)), by have := hV.size; omega, ?_⟩, by simp [intOf]; omega⟩
      · unfold ON
        rw [List.flatten_append]
        simpa using hown3
      · have hCk := HC.out
        subst hCk
        exact HSk.out.snoc hk2 hlt hV hV1 rfl HKN.out
    · have hkk : k = K.length := by omega
      subst hkk
      rename World => wo
      have HC : Hid (C.length = K.length) := hC
      clear hC hown0 hgr0 hU0 hlt0
      go_wp2_with fail
      go_loopw [3, 6] (fun ov i wr => ∃ j : Nat, j ≤ 12 ∧ i = .int .i64 j ∧ ov = .slice (some ⟨w.heap.size, 0, none⟩) (K.length + j) (K.length + 12) ∧ ON wr w.heap.size (K.length + j) (K.length + 12) (C ++ (List.range j).map markN) ∧ Upd [] w wr ∧ w.heap.size < wr.heap.size ∧ KidsS w.heap.size wr d C K) (fun _ i _ => 12 - (intOf i).toNat)
      case atStart => exact ⟨0, by omega, rfl, rfl, by simpa using hO, hU, hlt, HSk.out⟩
      case round =>
        obtain ⟨j, hj, rfl, rfl, hOr, hUr, hltr, hSr⟩ := hrel
        have HOR : Hid (ON wr w.heap.size (K.length + j) (K.length + 12) (C ++ (List.range j).map markN)) := hOr
        have HSr : Hid (KidsS w.heap.size wr d C K) := hSr
        clear hO hU hlt hOr hSr HSk
        by_cases hj2 : j < 12
        · go_wp2_with fail
          refine (markNode_any j wr hj2).mono ?_
          rintro e w1 ⟨rfl, hU1⟩
          rw [show (markN j).toArray = #[.int .u8 0, .string ⟨#[]⟩, .int .i64 0, .int .i64 ((8000024 + j : Nat) : Int), .slice none 0 0] from rfl]
          have hO1 := HOR.out.upd hU1
          have hU01 := hUr.trans hU1
          have hown2 : (w1.alloc (.cells #[.int .u8 0, .string ⟨#[]⟩, .int .i64 0, .int .i64 ((8000024 + j : Nat) : Int), .slice none 0 0] 25)).ownsRow w.heap.size 25 5 (.slice (some ⟨w.heap.size, 0, none⟩) (K.length + j) (K.length + 12)) (K.length + j) (C ++ (List.range j).map markN).flatten := World.ownsRow.alloc hO1 _
          have tn := Tb.new w1 #[.int .u8 0, .string ⟨#[]⟩, .int .i64 0, .int .i64 ((8000024 + j : Nat) : Int), .slice none 0 0] _ rfl
          have hcl : ∀ i u, ([.int .u8 0, .string ⟨#[]⟩, .int .i64 0, .int .i64 ((8000024 + j : Nat) : Int), .slice none 0 0] : List Value)[i]? = some u → (w1.alloc (.cells #[.int .u8 0, .string ⟨#[]⟩, .int .i64 0, .int .i64 ((8000024 + j : Nat) : Int), .slice none 0 0] 25)).cell? ((⟨w1.heap.size, 0, none⟩ : Addr).add i) = some u := fun i u hi => by
            rw [Addr.add_lit, Nat.zero_add, tn.cell i]
            simpa using hi
          have hone : ∀ u ∈ ([.int .u8 0, .string ⟨#[]⟩, .int .i64 0, .int .i64 ((8000024 + j : Nat) : Int), .slice none 0 0] : List Value), u.oneCell' = true := by
            intro u hu
            simp only [List.mem_cons, List.not_mem_nil, or_false] at hu
            rcases hu with h | h | h | h | h <;> subst h <;> rfl
          have HCL : Hid (∀ i u, ([.int .u8 0, .string ⟨#[]⟩, .int .i64 0, .int .i64 ((8000024 + j : Nat) : Int), .slice none 0 0] : List Value)[i]? = some u → (w1.alloc (.cells #[.int .u8 0, .string ⟨#[]⟩, .int .i64 0, .int .i64 ((8000024 + j : Nat) : Int), .slice none 0 0] 25)).cell? ((⟨w1.heap.size, 0, none⟩ : Addr).add i) = some u) := hcl
          have HOWN : Hid ((w1.alloc (.cells #[.int .u8 0, .string ⟨#[]⟩, .int .i64 0, .int .i64 ((8000024 + j : Nat) : Int), .slice none 0 0] 25)).ownsRow w.heap.size 25 5 (.slice (some ⟨w.heap.size, 0, none⟩) (K.length + j) (K.length + 12)) (K.length + j) (C ++ (List.range j).map markN).flatten) := hown2
          clear tn hcl hown2 hO1
          go_wp2_with (at_builtin; refine wpList_append_fits _ rfl _ _ 23 rfl w.heap.size 25 i0 5 Tryd.underlying23 hi hz1 w.heap.size (K.length + j) (K.length + 12) (C ++ (List.range j).map markN).flatten rfl (Hid.out HOWN) ⟨w1.heap.size, 0, none⟩ 1 1 [.int .u8 0, .string ⟨#[]⟩, .int .i64 0, .int .i64 ((8000024 + j : Nat) : Int), .slice none 0 0] rfl rfl (Hid.out HCL) hone (by omega) ?_; intro w3 hown3 hgr3)
          have hV : Upd [w.heap.size] wr w3 := (((Upd.refl [w.heap.size] wr).then hU1 (by simp)).alloc _).grown hgr3 (fun x hx => Or.inr (by cases hx; simp))
          refine ⟨⟨j + 1, by omega, by simp, rfl, ?_, (hU01.alloc _).grown hgr3 (fun x hx => Or.inl (by cases hx; exact Nat.le_refl _)), by have := hV.size; omega, HSr.out.keep hV⟩, by simp [intOf]; omega⟩
          · unfold ON
            rw [List.range_succ, List.map_append, ← List.append_assoc, List.flatten_append]
            simpa [Nat.add_assoc, markN] using hown3
        · have hj12 : j = 12 := by omega
          subst hj12
          go_wp2
          go_ret
          have hCl := HC.out
          obtain ⟨Q, s1, s2, s3⟩ := HSr.out
          have h7 : ∀ c ∈ C ++ (List.range 12).map markN, c.length = 5 := by
            intro c hc
            rcases List.mem_append.1 hc with h | h
            · obtain ⟨i, hi, rfl⟩ := List.mem_iff_getElem.1 h
              exact (s1 i hi (by omega)).1
            · obtain ⟨i, _, rfl⟩ := List.mem_map.1 h
              rfl
          have hlen12 : (C ++ (List.range 12).map markN).length = K.length + 12 := by simp; omega
          obtain ⟨cur, hb1, hb2⟩ := HOR.out.block
          refine ⟨hUr, w.heap.size, rfl, ⟨⟨Nat.le_refl _, hltr⟩, ⟨cur, hb1, by omega⟩, by omega, by omega, Q, fun i x hi hx => ?_, fun i j x hi hj => s3 i j x (by omega) (by omega), fun i hi => ?_⟩, fun i hi j hj => ?_⟩
          · have := s2 i x (by omega) hx
            exact ⟨⟨by omega, by omega⟩, by omega⟩
          · have hiC : i < C.length := by omega
            obtain ⟨k7, kK⟩ := s1 i hiC hi
            refine ⟨C[i], k7, fun j hj => ?_, kK⟩
            have := ON.cell HOR.out hlen12 h7 i j (by omega) hj
            rw [List.getElem_append_left hiC] at this
            exact this
          · have := ON.cell HOR.out hlen12 h7 (K.length + i) j (by omega) hj
            rw [List.getElem_append_right (by omega)] at this
            simpa [hCl] using this

theorem Tb.put4 {w : World} {n : Nat} {k num pos : Int} {v4 u4 : Value} {s : ByteArray} (h : Tb w n #[.int .u8 k, .string s, .int .i64 num, .int .i64 pos, v4]) :
    Tb (w.setCell ⟨n, 4, none⟩ u4) n #[.int .u8 k, .string s, .int .i64 num, .int .i64 pos, u4] := by
  unfold Tb
  rw [heap_setCell_same w n 4 _ _ _ h]
  simp
set_option maxHeartbeats 4000000 in
set_option maxRecDepth 100000 in
theorem LentNode_step (d : Nat) (ih : LentS d) : LentS (d + 1) := by
  intro w cs t h hs
  cases t with
  | mk k s num pos K =>
    obtain ⟨a, c, rfl, hK, -⟩ := h
    simp only [nsz] at hs
    have HK : Hid (∀ W, Upd [] w W → _) := fun W hu => LentNodes_in d ih W a c K (hK.imp hu (NIn.mono hu d)) hs
    clear hK hs ih
    go_enter Tryd.func6, Tryd.ntmps6
    go_wp2_with fail
    have u0 := ((Upd.refl [] w).alloc (.cells #[.int .u8 k, .string s, .int .i64 num, .int .i64 pos, .slice a K.length c] 25)).alloc (.cells #[.int .u8 0, .string ⟨#[]⟩, .int .i64 0, .int .i64 0, .slice none 0 0] 25)
    have tX := (Tb.new w #[.int .u8 k, .string s, .int .i64 num, .int .i64 pos, .slice a K.length c] _ rfl).old (.cells #[.int .u8 0, .string ⟨#[]⟩, .int .i64 0, .int .i64 0, .slice none 0 0] 25)
    have tZ := Tb.new (w.alloc (.cells #[.int .u8 k, .string s, .int .i64 num, .int .i64 pos, .slice a K.length c] 25)) #[.int .u8 0, .string ⟨#[]⟩, .int .i64 0, .int .i64 0, .slice none 0 0] (w.heap.size + 1) (by simp)
    refine (HK.out _ u0).mono ?_
    rintro e w1 ⟨hU1, g, rfl, hR, hM⟩
    have hR1 : RowS (NL w1 d) w1 g (K.length + 12) K (fun x => w.heap.size + 2 ≤ x ∧ x < w1.heap.size) := hR.upd (S := []) (Upd.refl [] w1) (fun x _ => by simp) (fun x hx => by simpa using hx) (fun cs t Q _ h => h)
    have tX1 := tX.mono hU1 (by simp)
    have tZ1 := tZ.mono hU1 (by simp)
    have u1 := u0.trans hU1
    have x4 : w1.cell? ⟨w.heap.size, 4, none⟩ = some (.slice a K.length c) := tX1.cell 4
    have xf : w1.frozen? ⟨w.heap.size, 4, none⟩ = false := frozen_of_row w1 w.heap.size 4 _ _ tX1
    have v1 : Upd [w.heap.size] w1 (w1.setCell ⟨w.heap.size, 4, none⟩ (.slice (some ⟨g, 0, none⟩) K.length (K.length + 12))) := (Upd.refl _ _).setCell (Or.inr (by simp)) _
    have tX2 := tX1.put4 (u4 := .slice (some ⟨g, 0, none⟩) K.length (K.length + 12))
    have tZ2 := tZ1.mono v1 (by simp)
    have u2 := u1.then v1 (by simp)
    have HR1 : Hid (RowS (NL w1 d) w1 g (K.length + 12) K (fun x => w.heap.size + 2 ≤ x ∧ x < w1.heap.size)) := hR1
    have HM : Hid (∀ i, i < 12 → ∀ j, j < 5 → w1.cell? ⟨g, (K.length + i) * 5 + j, none⟩ = (markN i)[j]?) := hM
    have HV1 : Hid (Upd [w.heap.size] w1 (w1.setCell ⟨w.heap.size, 4, none⟩ (.slice (some ⟨g, 0, none⟩) K.length (K.length + 12)))) := v1
    have hlz := tZ2.lt
    clear tX tZ u0 hU1 tX1 tZ1 u1 v1 hR hR1 hM
    go_wp2_with (first | (refine load_T _ rfl _ rfl _ _ rfl tX2 rfl ?_) | (refine store_T _ rfl _ _ rfl _ #[.int .u8 k, .string s, .int .i64 num, .int .i64 pos, .slice (some ⟨g, 0, none⟩) K.length (K.length + 12)] _ rfl rfl tZ2 rfl rfl (by simp [Value.oneCell']) ?_; intro w7 hT7 hU7))
    have hW : Upd [w.heap.size, w.heap.size + 1] w1 w7 := ((Upd.refl [w.heap.size, w.heap.size + 1] w1).then HV1.out (by simp)).then hU7 (by simp)
    have hg := HR1.out.1
    refine ret_T Tryd.results6 rfl _ _ rfl hT7 rfl ⟨u2.then hU7 (by simp), [.int .u8 k, .string s, .int .i64 num, .int .i64 pos, .slice (some ⟨g, 0, none⟩) K.length (K.length + 12)], rfl, rfl, ?_⟩
    refine ⟨g, K.length + 12, rfl, ?_, Nat.le_refl _, fun i hi j hj => ?_⟩
    · exact HR1.out.upd hW (fun x hx hm => by simp at hm; omega) (fun x hx => ⟨by omega, by have := hW.size; omega⟩) (fun cs t Q hx hR => NL.upd hW _ _ _ _ hx hR)
    · exact (hW.cell (p := ⟨g, (K.length + i) * 5 + j, none⟩) HR1.out.lt (by simp; omega)).trans (HM.out i hi j hj)
/-- LentNode: the same node in memory of its own, marks behind every row, all rows apart. -/
theorem LentNode_in : ∀ d, LentS d
  | 0 => fun _ _ _ h => h.elim
  | d + 1 => LentNode_step d (LentNode_in d)

end Go.Proofs.YtehfoblfmehbdaaDoor
