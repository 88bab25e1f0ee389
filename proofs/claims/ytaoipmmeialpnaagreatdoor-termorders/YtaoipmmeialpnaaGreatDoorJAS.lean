/- LentTerms and LentTerm of the kit, by their contracts. -/
import Derived.Test.YtaoipmmeialpnaaGreatDoorJAQ
import Derived.Test.YtaoipmmeialpnaaGreatDoorJAR

namespace Go.Proofs.YtaoipmmeialpnaaGreatDoor
open Go.RowKit

/-- What LentTerm is to answer, of depth d. -/
def LentSaid (d : Nat) : Prop := ∀ (w : World) (cs : List Value) (t : Tm), In w d cs t → tsz t ≤ 1353245080330 → Calls Tryz.prog 9 #[.agg cs.toArray] w fun e w' => Upd [] w w' ∧ ∃ cs', cs'.length = 7 ∧ e = .returned (.agg cs'.toArray) ∧ KIn (fun g => w.heap.size ≤ g) w' d cs' t

theorem info_term3 : (Tryz.prog.info? 26).map (fun i => (i.zero, i.size, i.bytes)) = some (some ((.agg #[.int .u8 0, .bool false, .slice none 0 0, .string ⟨#[]⟩, .int .i64 0, .slice none 0 0, .slice none 0 0])), 7, 104) := by kernel_rfl

/-- The rows of cells, one behind the other. -/
def OT (w : World) (g k cap : Nat) (C : List (List Value)) : Prop := w.ownsRow g 26 7 (.slice (some ⟨g, 0, none⟩) k cap) k C.flatten

theorem OT.upd {w w' : World} {g k cap : Nat} {C : List (List Value)} (h : OT w g k cap C) (hu : Upd [] w w') : OT w' g k cap C := by
  obtain ⟨h0, h1 | ⟨g', cap', cur, hv, hb, hh, h2⟩⟩ := h
  · exact ⟨h0, Or.inl h1⟩
  · exact ⟨h0, Or.inr ⟨g', cap', cur, hv, hb, (hu.block g' (lt_of_block hh) (by simp)).trans hh, h2⟩⟩
theorem KIn.shape {P : Nat → Prop} {w : World} {d : Nat} {cs : List Value} {t : Tm} (h : KIn P w d cs t) : ∃ (k num : Int) (neg : Bool) (s : ByteArray) (a1 a2 a3 : Option Addr) (n1 n2 n3 c1 c2 c3 : Nat), cs = [.int .u8 k, .bool neg, .slice a1 n1 c1, .string s, .int .i64 num, .slice a2 n2 c2, .slice a3 n3 c3] := by
  cases d with
  | zero => exact h.elim
  | succ d =>
    cases t with
    | mk k num neg L s I T =>
      obtain ⟨g, gi, gt, c, ci, ct, rfl, _⟩ := h
      exact ⟨k, num, neg, s, _, _, _, _, _, _, _, _, _, rfl⟩

theorem flat7 : ∀ (C : List (List Value)) (_ : ∀ c ∈ C, c.length = 7) (i j : Nat) (hi : i < C.length), j < 7 → C.flatten[i * 7 + j]? = C[i][j]? := by
  intro C
  induction C with
  | nil => intro _ i j hi; simp at hi
  | cons x r ih =>
    intro h i j hi hj
    have hx := h x List.mem_cons_self
    rw [List.flatten_cons]
    cases i with
    | zero => rw [List.getElem?_append_left (by omega)]; simp
    | succ i =>
      rw [List.getElem?_append_right (by omega)]
      rw [show (i + 1) * 7 + j - x.length = i * 7 + j by omega]
      simpa using ih (fun c hc => h c (List.mem_cons_of_mem _ hc)) i j (by simpa using hi) hj
theorem OT.cell {w : World} {g k cap : Nat} {C : List (List Value)} (h : OT w g k cap C) (hk : C.length = k) (h7 : ∀ c ∈ C, c.length = 7) (i j : Nat) (hi : i < C.length) (hj : j < 7) : w.cell? ⟨g, i * 7 + j, none⟩ = C[i][j]? := by
  obtain ⟨hl, ⟨h1, _⟩ | ⟨g', cap', cur, hv, hb, hh, hc1, hc2, hcs, hcu⟩⟩ := h
  · cases h1
  · simp only [Value.slice.injEq, Option.some.injEq, Addr.mk.injEq, and_true, true_and] at hv
    obtain ⟨rfl, rfl⟩ := hv
    rw [cell_of_row w g (i * 7 + j) _ _ _ hh, ← Array.getElem?_toList]
    have e : cur.toList[i * 7 + j]? = (cur.toList.take (k * 7))[i * 7 + j]? := by rw [List.getElem?_take_of_lt (by omega)]
    rw [e, hcu]
    exact flat7 C h7 i j hi hj

def LentInv (d : Nat) (w : World) (I : List Tm) (ov i : Value) (wr : World) : Prop := ∃ (k : Nat) (C : List (List Value)), k ≤ I.length ∧ i = .int .i64 k ∧ ov = .slice (some ⟨w.heap.size, 0, none⟩) k (I.length + 12) ∧ OT wr w.heap.size k (I.length + 12) C ∧ C.length = k ∧ (∀ j (hj : j < C.length) (hi : j < I.length), C[j].length = 7 ∧ KIn (fun g => w.heap.size < g) wr d C[j] I[j]) ∧ Upd [] w wr ∧ w.heap.size < wr.heap.size

set_option maxHeartbeats 4000000 in
set_option maxRecDepth 100000 in
theorem LentTerms_in (d : Nat) (ih : LentSaid d) (w : World) (a : Option Addr) (c : Nat) (I : List Tm) (h : RowAt (In w d) w a I) (hs : tszs I ≤ 1353245080330) :
    Calls Tryz.prog 40 #[.slice a I.length c] w fun e w' => Upd [] w w' ∧ ∃ g cap, e = .returned (.slice (some ⟨g, 0, none⟩) I.length cap) ∧ RowK (fun g => w.heap.size ≤ g) (KIn (fun g => w.heap.size ≤ g) w' d) w' g cap I := by
  obtain ⟨i0, hi, hz0, hz1, hz2⟩ := info_parts info_term3
  have hIl := tszs_len I
  have hlen : I.length ≤ 1353245080330 := by omega
  have HS : Hid (tszs I ≤ 1353245080330) := hs
  have HA : Hid (RowAt (In w d) w a I) := h
  have IH : Hid (LentSaid d) := ih
  clear hIl hs h ih
  go_enter Tryz.func40, Tryz.ntmps40
  go_wp2_with (at_make; refine wpList_make_own _ rfl _ _ 24 rfl w.heap.size 26 i0 _ 7 Tryz.underlying24 hi hz0 hz1 .i64 .i64 _ (I.length + 12) rfl rfl (by simp) (by rw [hz2]; omega) (by unfold maxLen; omega) (Nat.le_refl _) ?_; intro w0 hown0 hgr0)
  have hU0 : Upd [] w w0 := (Upd.refl [] w).grown hgr0 (fun k hk => by cases hk)
  have hlt0 : w.heap.size < w0.heap.size := (World.ownsRow.lt hown0 w.heap.size rfl).2
  go_loopw [3, 4] (LentInv d w I) (fun _ i _ => I.length - (intOf i).toNat)
  case atStart => exact ⟨0, [], Nat.zero_le _, rfl, rfl, hown0, rfl, fun j hj => by simp at hj, hU0, hlt0⟩
  case round =>
    obtain ⟨k, C, hk, rfl, rfl, hO, hC, hK, hU, hlt⟩ := hrel
    by_cases hk2 : k < I.length
    · rcases HA.out with h0 | ⟨b, o, rfl, hltb, hc⟩
      · rw [h0] at hk2; simp at hk2
      obtain ⟨cs, hl7, hcell, hin⟩ := hc k hk2
      obtain ⟨q0, q1, q2, q3, q4, q5, q6, rfl⟩ := list7 hl7
      have HIN : Hid (In w d [q0, q1, q2, q3, q4, q5, q6] I[k]) := hin
      have HSZ : Hid (tsz I[k] ≤ 1353245080330) := Nat.le_trans (tszs_get I k hk2) HS.out
      have mc : ∀ j, j < 7 → wr.cell? ⟨b, o + (k * 7 + j), none⟩ = [q0, q1, q2, q3, q4, q5, q6][j]? := fun j hj => (hU.cell (p := ⟨b, o + (k * 7 + j), none⟩) hltb (by simp)).trans (hcell j hj)
      have x0 : wr.cell? ⟨b, o + k * 7, none⟩ = some q0 := mc 0 (by omega)
      have x1 : wr.cell? ⟨b, o + k * 7 + 1, none⟩ = some q1 := mc 1 (by omega)
      have x2 : wr.cell? ⟨b, o + k * 7 + 2, none⟩ = some q2 := mc 2 (by omega)
      have x3 : wr.cell? ⟨b, o + k * 7 + 3, none⟩ = some q3 := mc 3 (by omega)
      have x4 : wr.cell? ⟨b, o + k * 7 + 4, none⟩ = some q4 := mc 4 (by omega)
      have x5 : wr.cell? ⟨b, o + k * 7 + 5, none⟩ = some q5 := mc 5 (by omega)
      have x6 : wr.cell? ⟨b, o + k * 7 + 6, none⟩ = some q6 := mc 6 (by omega)
      have HO : Hid (OT wr w.heap.size k (I.length + 12) C) := hO
      have HK : Hid (∀ j (hj : j < C.length) (hi : j < I.length), C[j].length = 7 ∧ KIn (fun g => w.heap.size < g) wr d C[j] I[j]) := hK
      have HC : Hid (C.length = k) := hC
      clear hc hin hcell hl7 mc hO hK hC hown0 hgr0 hU0 hlt0
      go_wp2_with fail
      refine (IH.out wr [q0, q1, q2, q3, q4, q5, q6] I[k] (In.mono hU _ _ _ HIN.out) HSZ.out).mono ?_
      rintro e w1 ⟨hU1, cs', hl', rfl, hk'⟩
      obtain ⟨k1, num1, neg1, s1, b1, b2, b3, n1, n2, n3, c1, c2, c3, rfl⟩ := hk'.shape
      have HKN : Hid (KIn (fun g => wr.heap.size ≤ g) w1 d [.int .u8 k1, .bool neg1, .slice b1 n1 c1, .string s1, .int .i64 num1, .slice b2 n2 c2, .slice b3 n3 c3] I[k]) := hk'
      have hO1 := HO.out.upd hU1
      have hU01 := hU.trans hU1
      have hsz1 := hU1.size
      have hown2 : ((w1.alloc (.cells #[.int .u8 k1, .bool neg1, .slice b1 n1 c1, .string s1, .int .i64 num1, .slice b2 n2 c2, .slice b3 n3 c3] 26)).alloc (.cells #[.int .u8 k1, .bool neg1, .slice b1 n1 c1, .string s1, .int .i64 num1, .slice b2 n2 c2, .slice b3 n3 c3] 26)).ownsRow w.heap.size 26 7 (.slice (some ⟨w.heap.size, 0, none⟩) k (I.length + 12)) k C.flatten := World.ownsRow.alloc (World.ownsRow.alloc hO1 _) _
      have tn := Tb.new (w1.alloc (.cells #[.int .u8 k1, .bool neg1, .slice b1 n1 c1, .string s1, .int .i64 num1, .slice b2 n2 c2, .slice b3 n3 c3] 26)) #[.int .u8 k1, .bool neg1, .slice b1 n1 c1, .string s1, .int .i64 num1, .slice b2 n2 c2, .slice b3 n3 c3] (w1.heap.size + 1) (by simp)
      have hcl : ∀ j u, ([.int .u8 k1, .bool neg1, .slice b1 n1 c1, .string s1, .int .i64 num1, .slice b2 n2 c2, .slice b3 n3 c3] : List Value)[j]? = some u → ((w1.alloc (.cells #[.int .u8 k1, .bool neg1, .slice b1 n1 c1, .string s1, .int .i64 num1, .slice b2 n2 c2, .slice b3 n3 c3] 26)).alloc (.cells #[.int .u8 k1, .bool neg1, .slice b1 n1 c1, .string s1, .int .i64 num1, .slice b2 n2 c2, .slice b3 n3 c3] 26)).cell? ((⟨w1.heap.size + 1, 0, none⟩ : Addr).add j) = some u := fun j u hj => by
        rw [Addr.add_lit, Nat.zero_add, tn.cell j]
        simpa using hj
      have hone : ∀ u ∈ ([.int .u8 k1, .bool neg1, .slice b1 n1 c1, .string s1, .int .i64 num1, .slice b2 n2 c2, .slice b3 n3 c3] : List Value), u.oneCell' = true := by
        intro u hu
        simp only [List.mem_cons, List.not_mem_nil, or_false] at hu
        rcases hu with h | h | h | h | h | h | h <;> subst h <;> rfl
      have HCL : Hid (∀ j u, ([.int .u8 k1, .bool neg1, .slice b1 n1 c1, .string s1, .int .i64 num1, .slice b2 n2 c2, .slice b3 n3 c3] : List Value)[j]? = some u → ((w1.alloc (.cells #[.int .u8 k1, .bool neg1, .slice b1 n1 c1, .string s1, .int .i64 num1, .slice b2 n2 c2, .slice b3 n3 c3] 26)).alloc (.cells #[.int .u8 k1, .bool neg1, .slice b1 n1 c1, .string s1, .int .i64 num1, .slice b2 n2 c2, .slice b3 n3 c3] 26)).cell? ((⟨w1.heap.size + 1, 0, none⟩ : Addr).add j) = some u) := hcl
      clear hk' hl' tn x0 x1 x2 x3 x4 x5 x6 hcl
      go_wp2_with (at_builtin; refine wpList_append_fits _ rfl _ _ 24 rfl w.heap.size 26 i0 7 Tryz.underlying24 hi hz1 w.heap.size k (I.length + 12) C.flatten rfl hown2 ⟨w1.heap.size + 1, 0, none⟩ 1 1 [.int .u8 k1, .bool neg1, .slice b1 n1 c1, .string s1, .int .i64 num1, .slice b2 n2 c2, .slice b3 n3 c3] rfl rfl (Hid.out HCL) hone (by omega) ?_; intro w3 hown3 hgr3)
      have hV1 : Upd [w.heap.size] w1 w3 := (((Upd.refl [w.heap.size] w1).alloc _).alloc _).grown hgr3 (fun x hx => Or.inr (by cases hx; simp))
      have hV : Upd [w.heap.size] wr w3 := ((Upd.refl [w.heap.size] wr).then hU1 (by simp)).trans hV1
      refine ⟨⟨k + 1, C ++ [[.int .u8 k1, .bool neg1, .slice b1 n1 c1, .string s1, .int .i64 num1, .slice b2 n2 c2, .slice b3 n3 c3]], by omega, by simp, rfl, ?_, by rw [List.length_append, HC.out]; rfl, ?_, ((hU01.alloc _).alloc _).grown hgr3 (fun x hx => Or.inl (by cases hx; exact Nat.le_refl _)), by have := hV.size; omega⟩, by simp [intOf]; omega⟩
      · unfold OT
        rw [List.flatten_append]
        simpa using hown3
      · intro j hj hjI
        by_cases hjk : j < C.length
        · rw [List.getElem_append_left hjk]
          obtain ⟨h7, hKj⟩ := HK.out j hjk hjI
          exact ⟨h7, KIn.keep hV (fun x hx => by simp; omega) (fun x hx => hx) _ _ _ hKj⟩
        · have e : j = k := by have := HC.out; simp at hj; omega
          subst e
          rw [List.getElem_append_right (by have := HC.out; omega)]
          simp only [HC.out, Nat.sub_self, List.getElem_cons_zero]
          exact ⟨rfl, KIn.keep hV1 (fun x hx => by simp; omega) (fun x hx => by omega) _ _ _ HKN.out⟩
    · have hkk : k = I.length := by omega
      subst hkk
      rename World => wo
      have HC : Hid (C.length = I.length) := hC
      clear hC hown0 hgr0 hU0 hlt0
      go_wp2_with fail
      go_loopw [3, 6] (fun ov i wr => ∃ j : Nat, j ≤ 12 ∧ i = .int .i64 j ∧ ov = .slice (some ⟨w.heap.size, 0, none⟩) (I.length + j) (I.length + 12) ∧ OT wr w.heap.size (I.length + j) (I.length + 12) (C ++ (List.range j).map markCells) ∧ (∀ j (hj : j < C.length) (hi : j < I.length), C[j].length = 7 ∧ KIn (fun g => w.heap.size < g) wr d C[j] I[j]) ∧ Upd [] w wr ∧ w.heap.size < wr.heap.size) (fun _ i _ => 12 - (intOf i).toNat)
      case atStart => exact ⟨0, by omega, rfl, rfl, by simpa using hO, hK, hU, hlt⟩
      case round =>
        obtain ⟨j, hj, rfl, rfl, hOr, hKr, hUr, hltr⟩ := hrel
        have HKR : Hid (∀ j (hj : j < C.length) (hi : j < I.length), C[j].length = 7 ∧ KIn (fun g => w.heap.size < g) wr d C[j] I[j]) := hKr
        have HOR : Hid (OT wr w.heap.size (I.length + j) (I.length + 12) (C ++ (List.range j).map markCells)) := hOr
        clear hO hK hU hlt hKr hOr
        by_cases hj2 : j < 12
        · go_wp2_with fail
          refine (markTerm_any j wr hj2).mono ?_
          rintro e w1 ⟨rfl, hU1⟩
          rw [show (markCells j).toArray = #[.int .u8 0, .bool false, .slice none 0 0, .string ⟨#[]⟩, .int .i64 ((8000024 + j : Nat) : Int), .slice none 0 0, .slice none 0 0] from rfl]
          have hO1 := HOR.out.upd hU1
          have hU01 := hUr.trans hU1
          have hown2 : (w1.alloc (.cells #[.int .u8 0, .bool false, .slice none 0 0, .string ⟨#[]⟩, .int .i64 ((8000024 + j : Nat) : Int), .slice none 0 0, .slice none 0 0] 26)).ownsRow w.heap.size 26 7 (.slice (some ⟨w.heap.size, 0, none⟩) (I.length + j) (I.length + 12)) (I.length + j) (C ++ (List.range j).map markCells).flatten := World.ownsRow.alloc hO1 _
          have tn := Tb.new w1 #[.int .u8 0, .bool false, .slice none 0 0, .string ⟨#[]⟩, .int .i64 ((8000024 + j : Nat) : Int), .slice none 0 0, .slice none 0 0] _ rfl
          have hcl : ∀ i u, ([.int .u8 0, .bool false, .slice none 0 0, .string ⟨#[]⟩, .int .i64 ((8000024 + j : Nat) : Int), .slice none 0 0, .slice none 0 0] : List Value)[i]? = some u → (w1.alloc (.cells #[.int .u8 0, .bool false, .slice none 0 0, .string ⟨#[]⟩, .int .i64 ((8000024 + j : Nat) : Int), .slice none 0 0, .slice none 0 0] 26)).cell? ((⟨w1.heap.size, 0, none⟩ : Addr).add i) = some u := fun i u hi => by
            rw [Addr.add_lit, Nat.zero_add, tn.cell i]
            simpa using hi
          have hone : ∀ u ∈ ([.int .u8 0, .bool false, .slice none 0 0, .string ⟨#[]⟩, .int .i64 ((8000024 + j : Nat) : Int), .slice none 0 0, .slice none 0 0] : List Value), u.oneCell' = true := by
            intro u hu
            simp only [List.mem_cons, List.not_mem_nil, or_false] at hu
            rcases hu with h | h | h | h | h | h | h <;> subst h <;> rfl
          have HCL : Hid (∀ i u, ([.int .u8 0, .bool false, .slice none 0 0, .string ⟨#[]⟩, .int .i64 ((8000024 + j : Nat) : Int), .slice none 0 0, .slice none 0 0] : List Value)[i]? = some u → (w1.alloc (.cells #[.int .u8 0, .bool false, .slice none 0 0, .string ⟨#[]⟩, .int .i64 ((8000024 + j : Nat) : Int), .slice none 0 0, .slice none 0 0] 26)).cell? ((⟨w1.heap.size, 0, none⟩ : Addr).add i) = some u) := hcl
          have HOWN : Hid ((w1.alloc (.cells #[.int .u8 0, .bool false, .slice none 0 0, .string ⟨#[]⟩, .int .i64 ((8000024 + j : Nat) : Int), .slice none 0 0, .slice none 0 0] 26)).ownsRow w.heap.size 26 7 (.slice (some ⟨w.heap.size, 0, none⟩) (I.length + j) (I.length + 12)) (I.length + j) (C ++ (List.range j).map markCells).flatten) := hown2
          clear tn hcl hown2 hO1
          go_wp2_with (at_builtin; refine wpList_append_fits _ rfl _ _ 24 rfl w.heap.size 26 i0 7 Tryz.underlying24 hi hz1 w.heap.size (I.length + j) (I.length + 12) (C ++ (List.range j).map markCells).flatten rfl (Hid.out HOWN) ⟨w1.heap.size, 0, none⟩ 1 1 [.int .u8 0, .bool false, .slice none 0 0, .string ⟨#[]⟩, .int .i64 ((8000024 + j : Nat) : Int), .slice none 0 0, .slice none 0 0] rfl rfl (Hid.out HCL) hone (by omega) ?_; intro w3 hown3 hgr3)
          have hV : Upd [w.heap.size] wr w3 := (((Upd.refl [w.heap.size] wr).then hU1 (by simp)).alloc _).grown hgr3 (fun x hx => Or.inr (by cases hx; simp))
          refine ⟨⟨j + 1, by omega, by simp, rfl, ?_, fun i hi hiI => ?_, (hU01.alloc _).grown hgr3 (fun x hx => Or.inl (by cases hx; exact Nat.le_refl _)), by have := hV.size; omega⟩, by simp [intOf]; omega⟩
          · unfold OT
            rw [List.range_succ, List.map_append, ← List.append_assoc, List.flatten_append]
            simpa [Nat.add_assoc, markCells] using hown3
          · obtain ⟨h7, hKi⟩ := HKR.out i hi hiI
            exact ⟨h7, KIn.keep hV (fun x hx => by simp; omega) (fun x hx => hx) _ _ _ hKi⟩
        · have hj12 : j = 12 := by omega
          subst hj12
          go_wp2
          go_ret
          have hCl := HC.out
          have h7 : ∀ c ∈ C ++ (List.range 12).map markCells, c.length = 7 := by
            intro c hc
            rcases List.mem_append.1 hc with h | h
            · obtain ⟨i, hi, rfl⟩ := List.mem_iff_getElem.1 h
              exact (HKR.out i hi (by omega)).1
            · obtain ⟨i, _, rfl⟩ := List.mem_map.1 h
              rfl
          have hlen12 : (C ++ (List.range 12).map markCells).length = I.length + 12 := by simp; omega
          refine ⟨hUr, w.heap.size, I.length + 12, rfl, Nat.le_refl _, hltr, Nat.le_refl _, by omega, fun i hi => ?_, fun i hi j hj => ?_⟩
          · have hiC : i < C.length := by omega
            obtain ⟨k7, kK⟩ := HKR.out i hiC hi
            refine ⟨C[i], k7, fun j hj => ?_, KIn.keep (Upd.refl [] wr) (fun x hx => by simp) (fun x hx => Nat.le_of_lt hx) _ _ _ kK⟩
            have := OT.cell HOR.out hlen12 h7 i j (by omega) hj
            rw [List.getElem_append_left hiC] at this
            exact this
          · have := OT.cell HOR.out hlen12 h7 (I.length + i) j (by omega) hj
            rw [List.getElem_append_right (by omega)] at this
            simpa [hCl] using this

end Go.Proofs.YtaoipmmeialpnaaGreatDoor

/- LentTerm of the kit, by its contract. -/
namespace Go.Proofs.YtaoipmmeialpnaaGreatDoor
open Go.RowKit

theorem Tb.put5 {w : World} {n : Nat} {k num : Int} {neg : Bool} {v2 v5 v6 u5 : Value} {s : ByteArray} (h : Tb w n #[.int .u8 k, .bool neg, v2, .string s, .int .i64 num, v5, v6]) :
    Tb (w.setCell ⟨n, 5, none⟩ u5) n #[.int .u8 k, .bool neg, v2, .string s, .int .i64 num, u5, v6] := by
  unfold Tb
  rw [heap_setCell_same w n 5 _ _ _ h]
  simp
theorem Tb.put6 {w : World} {n : Nat} {k num : Int} {neg : Bool} {v2 v5 v6 u6 : Value} {s : ByteArray} (h : Tb w n #[.int .u8 k, .bool neg, v2, .string s, .int .i64 num, v5, v6]) :
    Tb (w.setCell ⟨n, 6, none⟩ u6) n #[.int .u8 k, .bool neg, v2, .string s, .int .i64 num, v5, u6] := by
  unfold Tb
  rw [heap_setCell_same w n 6 _ _ _ h]
  simp
theorem RowK.stay {P Q : Nat → Prop} {w w' : World} {U : List Nat} {d g c : Nat} {I : List Tm} (h : RowK P (KIn P w d) w g c I) (hu : Upd U w w') (hP : ∀ x, P x → x ∉ U) (hQ : ∀ x, P x → Q x) : RowK Q (KIn Q w' d) w' g c I :=
  h.keep hu hP hQ (KIn.keep hu hP hQ d)

set_option maxHeartbeats 4000000 in
set_option maxRecDepth 100000 in
theorem LentTerm_step (d : Nat) (ih : LentSaid d) : LentSaid (d + 1) := by
  intro w cs t h hs
  cases t with
  | mk k num neg L s I T =>
    obtain ⟨a, ai, at', c, ci, ct, rfl, hA, hD, hI, hT⟩ := h
    simp only [tsz] at hs
    have HIt : Hid (∀ W, Upd [] w W → _) := fun W hu => LentTerms_in d ih W ai ci I (hI.imp hu (In.mono hu d)) (by omega)
    have HTt : Hid (∀ W, Upd [] w W → _) := fun W hu => LentTerms_in d ih W at' ct T (hT.imp hu (In.mono hu d)) (by omega)
    have HLm : Hid (∀ W, Upd [] w W → _) := fun W hu => LentLimbs_any a c L W (by omega) (hA.mono hu)
    clear hA hI hT hs ih
    go_enter Tryz.func9, Tryz.ntmps9
    go_wp2_with fail
    have u0 := ((Upd.refl [] w).alloc (.cells #[.int .u8 k, .bool neg, .slice a L.length c, .string s, .int .i64 num, .slice ai I.length ci, .slice at' T.length ct] 26)).alloc (.cells #[.int .u8 0, .bool false, .slice none 0 0, .string ⟨#[]⟩, .int .i64 0, .slice none 0 0, .slice none 0 0] 26)
    have tX := (Tb.new w #[.int .u8 k, .bool neg, .slice a L.length c, .string s, .int .i64 num, .slice ai I.length ci, .slice at' T.length ct] _ rfl).old (.cells #[.int .u8 0, .bool false, .slice none 0 0, .string ⟨#[]⟩, .int .i64 0, .slice none 0 0, .slice none 0 0] 26)
    have tZ := Tb.new (w.alloc (.cells #[.int .u8 k, .bool neg, .slice a L.length c, .string s, .int .i64 num, .slice ai I.length ci, .slice at' T.length ct] 26)) #[.int .u8 0, .bool false, .slice none 0 0, .string ⟨#[]⟩, .int .i64 0, .slice none 0 0, .slice none 0 0] (w.heap.size + 1) (by simp)
    refine (HLm.out _ u0).mono ?_
    rintro e w1 ⟨hU1, g, cap, rfl, hg, hAt, hc1, hc2⟩
    have hg' : w.heap.size + 2 ≤ g := by simp at hg; omega
    have tX1 := tX.mono hU1 (by simp)
    have tZ1 := tZ.mono hU1 (by simp)
    have u1 := u0.trans hU1
    have x2 : w1.cell? ⟨w.heap.size, 2, none⟩ = some (.slice a L.length c) := tX1.cell 2
    have x5 : w1.cell? ⟨w.heap.size, 5, none⟩ = some (.slice ai I.length ci) := tX1.cell 5
    have xf : w1.frozen? ⟨w.heap.size, 2, none⟩ = false := frozen_of_row w1 w.heap.size 2 _ _ tX1
    have v1 : Upd [w.heap.size] w1 (w1.setCell ⟨w.heap.size, 2, none⟩ (.slice (some ⟨g, 0, none⟩) L.length cap)) := (Upd.refl _ _).setCell (Or.inr (by simp)) _
    have tX2 := tX1.put2 (u2 := .slice (some ⟨g, 0, none⟩) L.length cap)
    have tZ2 := tZ1.mono v1 (by simp)
    have hAt2 := hAt.stay v1 (by simp; omega)
    have u2 := u1.then v1 (by simp)
    have hlz := tZ2.lt
    clear tX tZ u0 hU1 tX1 tZ1 hAt hg u1 v1
    go_wp2_with fail
    refine (HIt.out _ u2).mono ?_
    rintro e w3 ⟨hU3, g2, cap2, rfl, hR2⟩
    have tX3 := tX2.mono hU3 (by simp)
    have tZ3 := tZ2.mono hU3 (by simp)
    have hAt3 := hAt2.mono hU3
    have u3 := u2.trans hU3
    have hR3 : RowK (fun x => w.heap.size + 2 ≤ x) (KIn (fun x => w.heap.size + 2 ≤ x) w3 d) w3 g2 cap2 I := hR2.stay (Upd.refl [] w3) (fun x _ => by simp) (fun x hx => by omega)
    have HR3 : Hid (RowK (fun x => w.heap.size + 2 ≤ x) (KIn (fun x => w.heap.size + 2 ≤ x) w3 d) w3 g2 cap2 I) := hR3
    have y5 : w3.cell? ⟨w.heap.size, 5, none⟩ = some (.slice ai I.length ci) := tX3.cell 5
    have y6 : w3.cell? ⟨w.heap.size, 6, none⟩ = some (.slice at' T.length ct) := tX3.cell 6
    have yf : w3.frozen? ⟨w.heap.size, 5, none⟩ = false := frozen_of_row w3 w.heap.size 5 _ _ tX3
    have v3 : Upd [w.heap.size] w3 (w3.setCell ⟨w.heap.size, 5, none⟩ (.slice (some ⟨g2, 0, none⟩) I.length cap2)) := (Upd.refl _ _).setCell (Or.inr (by simp)) _
    have tX4 := tX3.put5 (u5 := .slice (some ⟨g2, 0, none⟩) I.length cap2)
    have tZ4 := tZ3.mono v3 (by simp)
    have hAt4 := hAt3.stay v3 (by simp; omega)
    have u4 := u3.then v3 (by simp)
    have HR4 : Hid (RowK (fun x => w.heap.size + 2 ≤ x) (KIn (fun x => w.heap.size + 2 ≤ x) (w3.setCell ⟨w.heap.size, 5, none⟩ (.slice (some ⟨g2, 0, none⟩) I.length cap2)) d) (w3.setCell ⟨w.heap.size, 5, none⟩ (.slice (some ⟨g2, 0, none⟩) I.length cap2)) g2 cap2 I) := HR3.out.stay v3 (fun x hx => by simp; omega) (fun x hx => hx)
    have hlz4 := tZ4.lt
    clear hR2 hR3 tX2 tZ2 hAt2 u2 hU3 tX3 tZ3 hAt3 u3 v3 x2 x5 xf HR3
    go_wp2_with fail
    refine (HTt.out _ u4).mono ?_
    rintro e w5 ⟨hU5, g3, cap3, rfl, hR5⟩
    have HRT5 : Hid (RowK (fun x => w.heap.size + 2 ≤ x) (KIn (fun x => w.heap.size + 2 ≤ x) w5 d) w5 g3 cap3 T) := hR5.stay (Upd.refl [] w5) (fun x _ => by simp) (fun x hx => by omega)
    have HRI5 : Hid (RowK (fun x => w.heap.size + 2 ≤ x) (KIn (fun x => w.heap.size + 2 ≤ x) w5 d) w5 g2 cap2 I) := HR4.out.stay hU5 (fun x _ => by simp) (fun x hx => hx)
    have tX5 := tX4.mono hU5 (by simp)
    have tZ5 := tZ4.mono hU5 (by simp)
    have hAt5 := hAt4.mono hU5
    have u5 := u4.trans hU5
    have z6 : w5.cell? ⟨w.heap.size, 6, none⟩ = some (.slice at' T.length ct) := tX5.cell 6
    have zf : w5.frozen? ⟨w.heap.size, 6, none⟩ = false := frozen_of_row w5 w.heap.size 6 _ _ tX5
    have v5 : Upd [w.heap.size] w5 (w5.setCell ⟨w.heap.size, 6, none⟩ (.slice (some ⟨g3, 0, none⟩) T.length cap3)) := (Upd.refl _ _).setCell (Or.inr (by simp)) _
    have tX6 := tX5.put6 (u6 := .slice (some ⟨g3, 0, none⟩) T.length cap3)
    have tZ6 := tZ5.mono v5 (by simp)
    have hAt6 := hAt5.stay v5 (by simp; omega)
    have u6 := u5.then v5 (by simp)
    have HV5 : Hid (Upd [w.heap.size] w5 (w5.setCell ⟨w.heap.size, 6, none⟩ (.slice (some ⟨g3, 0, none⟩) T.length cap3))) := v5
    clear hR5 tX4 tZ4 hAt4 u4 hU5 tX5 tZ5 hAt5 u5 y5 y6 yf HR4 v5
    go_wp2_with (first | (refine load_T _ rfl _ rfl _ _ rfl tX6 rfl ?_) | (refine store_V _ rfl _ _ rfl _ _ _ _ _ _ _ _ _ _ _ _ _ _ _ rfl rfl tZ6 rfl ?_; intro w7 hT7 hU7))
    have hI7 := (HRI5.out.stay HV5.out (fun x hx => by simp; omega) (fun x hx => hx)).stay (Q := fun x => w.heap.size ≤ x) hU7 (fun x hx => by simp; omega) (fun x hx => by omega)
    have hT7' := (HRT5.out.stay HV5.out (fun x hx => by simp; omega) (fun x hx => hx)).stay (Q := fun x => w.heap.size ≤ x) hU7 (fun x hx => by simp; omega) (fun x hx => by omega)
    refine ret_T Tryz.results9 rfl _ _ rfl hT7 rfl ⟨u6.then hU7 (by simp), [.int .u8 k, .bool neg, .slice (some ⟨g, 0, none⟩) L.length cap, .string s, .int .i64 num, .slice (some ⟨g2, 0, none⟩) I.length cap2, .slice (some ⟨g3, 0, none⟩) T.length cap3], rfl, rfl, ?_⟩
    exact ⟨g, g2, g3, cap, cap2, cap3, rfl, by omega, hAt6.stay hU7 (by simp; omega), hD, hc1, hc2, hI7, hT7'⟩

/-- LentTerm: the same term in memory of its own, marks behind every row. -/
theorem LentTerm_in : ∀ d, LentSaid d
  | 0 => fun _ _ _ h => h.elim
  | d + 1 => LentTerm_step d (LentTerm_in d)

end Go.Proofs.YtaoipmmeialpnaaGreatDoor
