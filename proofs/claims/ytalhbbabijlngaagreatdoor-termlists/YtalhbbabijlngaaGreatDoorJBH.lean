/- Copy and copies of the reference, by their contracts. -/
import Derived.Test.YtalhbbabijlngaaGreatDoorJAW
import Derived.Test.YtalhbbabijlngaaGreatDoorJBB
import Derived.Test.YtalhbbabijlngaaGreatDoorJAQ
import Derived.Test.YtalhbbabijlngaaGreatDoorJAI
import Derived.Test.YtalhbbabijlngaaGreatDoorJAP
import Derived.Test.YtalhbbabijlngaaGreatDoorJAX
import Derived.Test.YtalhbbabijlngaaGreatDoorJBG
import Derived.Deep.MidRow
namespace Go.Proofs.YtalhbbabijlngaaGreatDoor
open Go.RowKit
def RCopSaid (d : Nat) : Prop := ∀ (w : World) (cs : List Value) (t : Tm), In w d cs t → tsz t ≤ 1353245080330 → Calls Tryz.prog 66 #[.agg cs.toArray] w fun e w' => Upd [] w w' ∧ ∃ cs', cs'.length = 7 ∧ e = .returned (.agg cs'.toArray) ∧ InB (fun g => w.heap.size ≤ g) w' d cs' t
theorem InB.shapeC {P : Nat → Prop} {w : World} {d : Nat} {cs : List Value} {t : Tm} (h : InB P w d cs t) : ∃ (k num : Int) (neg : Bool) (s : ByteArray) (a1 a2 a3 : Option Addr) (n1 n2 n3 c1 c2 c3 : Nat), cs = [.int .u8 k, .bool neg, .slice a1 n1 c1, .string s, .int .i64 num, .slice a2 n2 c2, .slice a3 n3 c3] := by
 cases d with
 | zero => exact h.elim
 | succ d =>
  cases t with
  | mk k num neg L s I T =>
   obtain ⟨a, ai, at', c, ci, ct, rfl, _⟩ := h
   exact ⟨_, _, _, _, _, _, _, _, _, _, _, _, _, rfl⟩
theorem InB.tight {P : Nat → Prop} {w : World} {d : Nat} {cs : List Value} {t : Tm} (h : InB P w d cs t) : InB (fun b => P b ∧ b < w.heap.size) w d cs t := InB.upd (Upd.refl [] w) (fun _ _ => by simp) (fun _ hb hl => ⟨hb, hl⟩) _ _ _ h
def RCpInv (d : Nat) (w : World) (I : List Tm) (ov i : Value) (wr : World) : Prop := ∃ (k : Nat) (C : Nat → List Value), k ≤ I.length ∧ i = .int .i64 k ∧ RowG wr 7 ov k ∧ Hs wr 7 ov k C ∧ (∀ g, ov.ownBlock = some g → w.heap.size ≤ g) ∧
 (∀ j (hj : j < I.length), j < k → (C j).length = 7 ∧ InB (fun b => w.heap.size ≤ b ∧ ov.ownBlock ≠ some b) wr d (C j) I[j]) ∧ Upd [] w wr
theorem RCpInv.step {d k g' cap' : Nat} {w wr w1 w3 : World} {I : List Tm} {ov : Value} {C : Nat → List Value} {cs : List Value} (hk : k < I.length) (hR : RowG wr 7 ov k) (hH : Hs wr 7 ov k C) (hb : ∀ g, ov.ownBlock = some g → w.heap.size ≤ g)
  (hE : ∀ j (hj : j < I.length), j < k → (C j).length = 7 ∧ InB (fun b => w.heap.size ≤ b ∧ ov.ownBlock ≠ some b) wr d (C j) I[j]) (hU : Upd [] w wr) (hU1 : Upd [] wr w1) (hc7 : cs.length = 7) (hin : InB (fun g => wr.heap.size ≤ g) w1 d cs I[k]) (T : TypeId)
  (hR3 : RowG w3 7 (.slice (some ⟨g', 0, none⟩) (k + 1) cap') (k + 1)) (hG : Grew 7 (w1.alloc (.cells cs.toArray T)) w3 ov k g') (hN : ∀ j, j < 1 * 7 → w3.cell? ⟨g', k * 7 + j, none⟩ = cs[j]?) :
  RCpInv d w I (.slice (some ⟨g', 0, none⟩) (k + 1) cap') (.int .i64 ((k + 1 : Nat) : Int)) w3 := by
 have hUa : Upd [] w1 (w1.alloc (.cells cs.toArray T)) := (Upd.refl [] w1).alloc _
 have hsa : (w1.alloc (.cells cs.toArray T)).heap.size = w1.heap.size + 1 := by simp
 have hs1 := hU1.size
 have hs0 := hU.size
 have hgb : w.heap.size ≤ g' := by
  rcases hG.at' with h | h
  ·exact hb g' h
  ·omega
 have hRa : RowG (w1.alloc (.cells cs.toArray T)) 7 ov k := (hR.upd hU1 (by simp)).upd hUa (by simp)
 obtain ⟨D, hD⟩ : ∃ D : Nat → List Value, D = fun j => if j = k then cs else C j := ⟨_, rfl⟩
 have hDk : D k = cs := by rw [hD]; simp
 have hDj : ∀ j, j < k → D j = C j := fun j hj => by rw [hD]; simp; omega
 have hHa : Hs (w1.alloc (.cells cs.toArray T)) 7 ov k D := fun g l c e i j hi hj => by
  rw [hDj i hi]
  exact ((hH.upd hR hU1 (by simp)).upd (hR.upd hU1 (by simp)) hUa (by simp)) g l c e i j hi hj
 refine ⟨k + 1, D, hk, rfl, hR3, hG.has1 hHa hRa (fun j hj => by rw [hDk]; exact hN j (by omega)), fun g hg => by cases hg; exact hgb, fun j hj hjk => ?_, (hU.trans (hU1.trans hUa)).then hG.upd (by simp; exact hgb)⟩
 by_cases e : j = k
 ·subst e
  rw [hDk]
  refine ⟨hc7, ?_⟩
  refine InB.upd hG.upd (fun b hb2 hm => ?_) (fun b hb2 _ => ?_) _ _ _ (InB.upd hUa (by simp) (fun b hb2 _ => hb2) _ _ _ hin.tight)
  ·simp at hm
   subst hm
   rcases hG.at' with h | h
   ·have := hR.lt _ h; omega
   ·omega
  ·refine ⟨by omega, fun he => ?_⟩
   have he2 : g' = b := by simpa [Value.ownBlock] using he
   subst he2
   rcases hG.at' with h | h
   ·have := hR.lt _ h; omega
   ·omega
 ·have hj2 : j < k := by omega
  rw [hDj j hj2]
  obtain ⟨h7, hi2⟩ := hE j hj hj2
  refine ⟨h7, ?_⟩
  refine InB.upd hG.upd (fun b hb2 hm => ?_) (fun b hb2 _ => ?_) _ _ _ (InB.upd (hU1.trans hUa) (by simp) (fun b hb2 _ => hb2) _ _ _ hi2.tight)
  ·simp at hm
   subst hm
   rcases hG.at' with h | h
   ·exact hb2.1.2 h
   ·omega
  ·refine ⟨hb2.1.1, fun he => ?_⟩
   have he2 : g' = b := by simpa [Value.ownBlock] using he
   subst he2
   rcases hG.at' with h | h
   ·exact hb2.1.2 h
   ·omega
set_option maxHeartbeats 4000000 in
set_option maxRecDepth 100000 in
theorem rcopies_in (d : Nat) (ih : RCopSaid d) (w : World) (a : Option Addr) (c : Nat) (I : List Tm) (h : RowAt (In w d) w a I) (hs : tszs I ≤ 1353245080330) :
  Calls Tryz.prog 67 #[.slice a I.length c] w fun e w' => Upd [] w w' ∧ ∃ v C, e = .returned v ∧ RCpInv d w I v C w' ∧ RowG w' 7 v I.length ∧ C = .int .i64 (I.length : Nat) := by
 obtain ⟨i0, hi, hz0, hz1, hz2⟩ := info_parts info_term3
 have hIl := tszs_len I
 have hlen : I.length ≤ 1353245080330 := by omega
 have HS : Hid (tszs I ≤ 1353245080330) := hs
 have HA : Hid (RowAt (In w d) w a I) := h
 have IH : Hid (RCopSaid d) := ih
 clear hIl hs h ih
 go_enter Tryz.func67, Tryz.ntmps67
 go_wp2_with fail
 go_loopw [3, 4] (RCpInv d w I) (fun _ i _ => I.length - (intOf i).toNat)
 case atStart => exact ⟨0, fun _ => [], Nat.zero_le _, rfl, Or.inl ⟨rfl, rfl⟩, Hs.zero _ _ _ _, fun g hg => (by cases hg), fun j _ hj => by omega, Upd.refl [] w⟩
 case round =>
  obtain ⟨k, C, hk, rfl, hR, hH, hb, hE, hU⟩ := hrel
  by_cases hk2 : k < I.length
  ·rcases HA.out with h0 | ⟨b, o, rfl, hltb, hc⟩
   ·rw [h0] at hk2; simp at hk2
   obtain ⟨cs, hl7, hcell, hin⟩ := hc k hk2
   obtain ⟨q0, q1, q2, q3, q4, q5, q6, rfl⟩ := list7 hl7
   have HIN : Hid (In w d [q0, q1, q2, q3, q4, q5, q6] I[k]) := hin
   have HSZ : Hid (tsz I[k] ≤ 1353245080330) := Nat.le_trans (tszs_get I k hk2) HS.out
   have mc : ∀ j, j < 7 → wr.cell? ⟨b, o + (k * 7 + j), none⟩ = [q0, q1, q2, q3, q4, q5, q6][j]? := fun j hj => (hU.cell (p := ⟨b, o + (k * 7 + j), none⟩) hltb (by simp)).trans (hcell j hj)
   have x0 : wr.cell? ⟨b, o + k * 7, none⟩ = some q0 := mc 0 (by omega)
   have x1 : wr.cell? ⟨b, o + k * 7 + 1, none⟩ = some q1 := mc 1 (by omega)
   have x2 : wr.cell? ⟨b, o + k * 7 + 2, none⟩ = some q2 := mc 2 (by omega)
   have x3 : wr.cell? ⟨b, o + k * 7 + 3, none⟩ = some q3 := mc 3 (by omega)
   have x4 : wr.cell? ⟨b, o + k * 7 + 4, none⟩ = some q4 := mc 4 (by omega)
   have x5 : wr.cell? ⟨b, o + k * 7 + 5, none⟩ = some q5 := mc 5 (by omega)
   have x6 : wr.cell? ⟨b, o + k * 7 + 6, none⟩ = some q6 := mc 6 (by omega)
   have HR : Hid (RowG wr 7 _ k) := hR
   have HH : Hid (Hs wr 7 _ k C) := hH
   have HE : Hid _ := hE
   clear hc hin hcell hl7 mc hH hE hR
   go_wp2_with fail
   refine (IH.out wr [q0, q1, q2, q3, q4, q5, q6] I[k] (In.mono hU _ _ _ HIN.out) HSZ.out).mono ?_
   rintro e w1 ⟨hU1, cs', hl', rfl, hk'⟩
   obtain ⟨k1, num1, neg1, s1, b1, b2, b3, n1, n2, n3, c1, c2, c3, rfl⟩ := hk'.shapeC
   have HKN : Hid (InB (fun g => wr.heap.size ≤ g) w1 d [.int .u8 k1, .bool neg1, .slice b1 n1 c1, .string s1, .int .i64 num1, .slice b2 n2 c2, .slice b3 n3 c3] I[k]) := hk'
   have hR1 : RowG (w1.alloc (.cells #[.int .u8 k1, .bool neg1, .slice b1 n1 c1, .string s1, .int .i64 num1, .slice b2 n2 c2, .slice b3 n3 c3] 26)) 7 _ k := (HR.out.upd hU1 (by simp)).upd ((Upd.refl [] w1).alloc _) (by simp)
   have tn := Tb.new w1 #[.int .u8 k1, .bool neg1, .slice b1 n1 c1, .string s1, .int .i64 num1, .slice b2 n2 c2, .slice b3 n3 c3] _ rfl
   have hcl : ∀ j u, ([.int .u8 k1, .bool neg1, .slice b1 n1 c1, .string s1, .int .i64 num1, .slice b2 n2 c2, .slice b3 n3 c3] : List Value)[j]? = some u → (w1.alloc (.cells #[.int .u8 k1, .bool neg1, .slice b1 n1 c1, .string s1, .int .i64 num1, .slice b2 n2 c2, .slice b3 n3 c3] 26)).cell? ((⟨w1.heap.size, 0, none⟩ : Addr).add j) = some u := fun j u hj => by
    rw [Addr.add_lit, Nat.zero_add, tn.cell j]
    simpa using hj
   have hone : ∀ u ∈ ([.int .u8 k1, .bool neg1, .slice b1 n1 c1, .string s1, .int .i64 num1, .slice b2 n2 c2, .slice b3 n3 c3] : List Value), u.oneCell' = true := by
    intro u hu
    simp only [List.mem_cons, List.not_mem_nil, or_false] at hu
    rcases hu with h | h | h | h | h | h | h <;> subst h <;> rfl
   have HCL : Hid (∀ j u, ([.int .u8 k1, .bool neg1, .slice b1 n1 c1, .string s1, .int .i64 num1, .slice b2 n2 c2, .slice b3 n3 c3] : List Value)[j]? = some u → (w1.alloc (.cells #[.int .u8 k1, .bool neg1, .slice b1 n1 c1, .string s1, .int .i64 num1, .slice b2 n2 c2, .slice b3 n3 c3] 26)).cell? ((⟨w1.heap.size, 0, none⟩ : Addr).add j) = some u) := hcl
   have HR1 : Hid (RowG (w1.alloc (.cells #[.int .u8 k1, .bool neg1, .slice b1 n1 c1, .string s1, .int .i64 num1, .slice b2 n2 c2, .slice b3 n3 c3] 26)) 7 _ k) := hR1
   clear hk' hl' tn x0 x1 x2 x3 x4 x5 x6 hcl hR1
   go_wp2_with (at_builtin; refine wpList_appendG rfl _ _ 24 rfl Tryz.underlying24 hi hz0 hz1 hz2 rfl rfl (Hid.out HR1) ⟨w1.heap.size, 0, none⟩ 1 1 [.int .u8 k1, .bool neg1, .slice b1 n1 c1, .string s1, .int .i64 num1, .slice b2 n2 c2, .slice b3 n3 c3] rfl rfl (Hid.out HCL) hone (by omega) (by omega) (by omega) ?_; intro g' cap' w3 hR3 hG3 hN3)
   exact ⟨RCpInv.step hk2 HR.out HH.out hb HE.out hU hU1 rfl HKN.out 26 hR3 hG3 hN3, by simp [intOf]; omega⟩
  ·have hkk : k = I.length := by omega
   subst hkk
   go_wp2
   go_ret
   exact ⟨hU, _, _, rfl, ⟨I.length, C, Nat.le_refl _, rfl, hR, hH, hb, hE, hU⟩, hR, rfl⟩
end Go.Proofs.YtalhbbabijlngaaGreatDoor
namespace Go.Proofs.YtalhbbabijlngaaGreatDoor
open Go.RowKit
theorem append_limbs {w : World} {ops : Array Oper} {rest : List Oper} {o : Oper} {a : Act} {Q : Exit → Act → World → Prop} (hgd : o.guard = none) (s x : Operand)
    (ho : o.op = .call { callee := .builtin .append, args := #[s, x], argTypes := #[23, 23] }) (g : Nat) (M : List Nat) (a' : Option Addr) (c' : Nat) (hM : M.length ≤ 35184372088700)
    (hs : a.eval s = .slice (some ⟨g, 0, none⟩) 0 0) (hg : g < w.heap.size) (hx : a.eval x = .slice a' M.length c') (HM : At w a' M)
    (h : ∀ g' cap' w', AtB (fun b => g ≤ b) w' (some ⟨g', 0, none⟩) M → Upd [g] w w' → wpList Tryz.prog ops Q rest (a.put o.dst (.slice (some ⟨g', 0, none⟩) M.length cap')) w') :
    wpList Tryz.prog ops Q (o :: rest) a w := by
  obtain ⟨i0, hi, hz0, hz1, hz2⟩ := info_parts info_u32
  have hRow : RowG w 1 (.slice (some ⟨g, 0, none⟩) 0 0) 0 := Or.inr ⟨g, 0, rfl, hg, Nat.le_refl _, Nat.zero_le _, fun j hj => by omega⟩
  by_cases h0 : M = []
  · subst h0
    have e0 : ∀ n, w.setCells g n [] = w := fun _ => rfl
    refine wpList_plain hgd fun K hK => ?_
    have hr : (Builtin.append_ #[23, 23] o.type #[.slice (some ⟨g, 0, none⟩) 0 0, .slice a' 0 c']).run Tryz.prog w = .ok (.slice (some ⟨g, 0, none⟩) 0 0) w := by
      rcases a' with _ | ad
      · have hr := run_append_room_src (P := Tryz.prog) w 23 23 o.type 47 i0 Tryz.underlying23 hi g 0 0 0 (.slice none 0 c') 0 [] (Src.ofNil w Tryz.underlying23 c') (by omega) (fun j hj => by simp at hj) (fun j hj => by simp at hj)
        rw [e0] at hr
        exact hr
      · have hr := run_append_room_cells (P := Tryz.prog) w 23 o.type 47 i0 Tryz.underlying23 hi g 0 0 0 ad 0 c' [] (by simp) (fun j u hj => by simp at hj) (fun u hu => by simp at hu) (by omega) (fun j hj => by simp at hj) (fun j hj => by simp at hj)
        rw [e0] at hr
        exact hr
    unfold Oper.wp execOp
    simp only [List.length_nil] at hx
    simp only [ho, resolve, invoke, builtin, Sem.run_bind, Sem.run_pure, Result.andThen_ok, List.map_toArray, List.map_cons, List.map_nil, hs, hx, hr]
    exact hK _ _ (h g 0 w (Or.inl rfl) (Upd.refl _ _))
  · have hM0 : 0 < M.length := List.length_pos_iff.2 h0
    rcases HM with h | ⟨b, p, rfl, hb, hc⟩
    · exact (h0 h).elim
    refine wpList_appendG hgd s x 23 ho Tryz.underlying23 hi hz0 hz1 hz2 rfl hs hRow ⟨b, p, none⟩ M.length c' (M.map (fun n => Value.int .u32 (n : Nat))) hx (by simp) (fun j u hj => ?_) (fun u hu => by obtain ⟨_, _, rfl⟩ := List.mem_map.1 hu; rfl) hM0 (by omega) (by omega) ?_
    · obtain ⟨h1, h2⟩ := map_u32_get M j u hj
      rw [h2, Addr.add_lit]; exact hc j h1
    · intro g' cap' w' hR hG hN
      have hge : g ≤ g' := by
        rcases hG.at' with h | h
        · have : g = g' := by simpa [Value.ownBlock] using h
          omega
        · omega
      have hlt : g' < w'.heap.size := hR.lt g' rfl
      rw [Nat.zero_add]
      refine h g' cap' w' (Or.inr ⟨g', 0, rfl, hge, hlt, fun i hi => ?_⟩) ((Upd.refl [g] w).then hG.upd (fun x hx => ?_))
      · have := hN i (by omega)
        rw [Nat.zero_mul] at this
        rw [this, List.getElem?_map, List.getElem?_eq_getElem hi, List.getD_eq_getElem?_getD, List.getElem?_eq_getElem hi]
        rfl
      · simp at hx
        subst hx
        rcases hG.at' with h | h
        · exact Or.inr (by have : g = x := by simpa [Value.ownBlock] using h
                           simp [this])
        · exact Or.inl (by omega)
theorem RCpInv.row {d : Nat} {w w' : World} {I : List Tm} {v C : Value} (h : RCpInv d w I v C w') (hk : C = .int .i64 (I.length : Nat)) (hR : RowG w' 7 v I.length) : ∃ a c, v = .slice a I.length c ∧ I.length ≤ c ∧ c ≤ 9223372036854775807 ∧ (∀ ad, a = some ad → ∃ g, ad = ⟨g, 0, none⟩ ∧ w.heap.size ≤ g) ∧ RowB (fun g => w.heap.size ≤ g) (InB (fun g => w.heap.size ≤ g) w' d) w' a I := by
 obtain ⟨k, C', hk1, hk2, _, hH, hb, hE, _⟩ := h
 have ek : k = I.length := by
  rw [hk] at hk2
  simp only [Value.int.injEq, true_and] at hk2
  omega
 subst ek
 rcases hR with ⟨rfl, h0⟩ | ⟨g, cap, rfl, hlt, hc1, hc2, _⟩
 ·rw [h0]
  exact ⟨none, 0, rfl, Nat.le_refl _, by omega, fun ad e => (by cases e), Or.inl (List.eq_nil_of_length_eq_zero h0)⟩
 ·refine ⟨some ⟨g, 0, none⟩, cap, rfl, hc1, hc2, fun ad e => ?_, Or.inr ⟨g, 0, rfl, hb g rfl, hlt, fun i hi => ?_⟩⟩
  ·cases e
   exact ⟨g, rfl, hb g rfl⟩
  ·obtain ⟨h7, hi2⟩ := hE i hi hi
   refine ⟨C' i, h7, fun j hj => ?_, InB.upd (Upd.refl [] w') (by simp) (fun b hb2 _ => hb2.1) _ _ _ hi2⟩
   rw [Nat.zero_add]
   exact hH g _ _ rfl i j hi hj
theorem AtB.step {P Q : Nat → Prop} {S : List Nat} {w w' : World} {a : Option Addr} {L : List Nat} (h : AtB P w a L) (hu : Upd S w w') (hS : ∀ b, P b → b ∉ S) (hPQ : ∀ b, P b → Q b) : AtB Q w' a L := by
 rcases h with h | ⟨b, o, e, hP, hl, hc⟩
 ·exact Or.inl h
 ·exact Or.inr ⟨b, o, e, hPQ b hP, Nat.lt_of_lt_of_le hl hu.size, fun i hi => by rw [hu.cell (p := ⟨b, o + i, none⟩) hl (hS b hP)]; exact hc i hi⟩
set_option maxHeartbeats 4000000 in
set_option maxRecDepth 100000 in
theorem RCop_step (d : Nat) (ih : RCopSaid d) : RCopSaid (d + 1) := by
 intro w cs t h hs
 cases t with
 | mk k num neg L s I T =>
  obtain ⟨a, ai, at', c, ci, ct, rfl, hA, hD, hI, hT⟩ := h
  simp only [tsz] at hs
  have HIt : Hid (∀ W, Upd [] w W → _) := fun W hu => rcopies_in d ih W ai ci I (hI.imp hu (In.mono hu d)) (by omega)
  have HTt : Hid (∀ W, Upd [] w W → _) := fun W hu => rcopies_in d ih W at' ct T (hT.imp hu (In.mono hu d)) (by omega)
  have hL : L.length ≤ 35184372088700 := by omega
  clear hI hT hs ih
  have u0 := ((Upd.refl [] w).alloc (.cells #[.int .u8 k, .bool neg, .slice a L.length c, .string s, .int .i64 num, .slice ai I.length ci, .slice at' T.length ct] 26)).alloc (.cells #[.int .u8 0, .bool false, .slice none 0 0, .string ⟨#[]⟩, .int .i64 0, .slice none 0 0, .slice none 0 0] 26)
  have tX := (Tb.new w #[.int .u8 k, .bool neg, .slice a L.length c, .string s, .int .i64 num, .slice ai I.length ci, .slice at' T.length ct] _ rfl).old (.cells #[.int .u8 0, .bool false, .slice none 0 0, .string ⟨#[]⟩, .int .i64 0, .slice none 0 0, .slice none 0 0] 26)
  have tZ := Tb.new (w.alloc (.cells #[.int .u8 k, .bool neg, .slice a L.length c, .string s, .int .i64 num, .slice ai I.length ci, .slice at' T.length ct] 26)) #[.int .u8 0, .bool false, .slice none 0 0, .string ⟨#[]⟩, .int .i64 0, .slice none 0 0, .slice none 0 0] (w.heap.size + 1) (by simp)
  go_enter Tryz.func66, Tryz.ntmps66
  go_wp2_with (at_builtin; refine append_limbs rfl _ _ rfl _ L _ _ hL rfl (by simp) rfl (hA.mono (by repeat (first | with_reducible exact Upd.refl _ _ | with_reducible refine Upd.drew ?_ | with_reducible refine Upd.alloc ?_ _))) ?_; intro g cap w1 hA1 hU1; have tX1 := (tX.mono ((Upd.refl [] _).alloc _) (by simp)).mono hU1 (by simp; omega); have tZ1 := (tZ.mono ((Upd.refl [] _).alloc _) (by simp)).mono hU1 (by simp); have u1 := (u0.alloc _).then hU1 (by simp; omega); have x2 : w1.cell? ⟨w.heap.size, 2, none⟩ = some (.slice a L.length c) := tX1.cell 2; have x5 : w1.cell? ⟨w.heap.size, 5, none⟩ = some (.slice ai I.length ci) := tX1.cell 5; have xf : w1.frozen? ⟨w.heap.size, 2, none⟩ = false := frozen_of_row w1 w.heap.size 2 _ _ tX1; clear tX tZ u0)
  have v1 : Upd [w.heap.size] w1 (w1.setCell ⟨w.heap.size, 2, none⟩ (.slice (some ⟨g, 0, none⟩) L.length cap)) := (Upd.refl _ _).setCell (Or.inr (by simp)) _
  have tX2 := tX1.put2 (u2 := .slice (some ⟨g, 0, none⟩) L.length cap)
  have tZ2 := tZ1.mono v1 (by simp)
  have hAt2 := hA1.step (Q := fun b => w.heap.size + 2 ≤ b) v1 (fun b hb => by simp; omega) (fun b hb => hb)
  have u2 := u1.then v1 (by simp)
  have hlz := tZ2.lt
  clear tX1 tZ1 hA1 u1 v1 hU1
  go_wp2_with fail
  refine (HIt.out _ u2).mono ?_
  rintro e w3 ⟨hU3, v2, C2, rfl, hR2, hG2, hC2⟩
  obtain ⟨a2, cap2, rfl, _, _, _, hR2⟩ := hR2.row hC2 hG2
  have tX3 := tX2.mono hU3 (by simp)
  have tZ3 := tZ2.mono hU3 (by simp)
  have hAt3 := hAt2.step hU3 (by simp) (fun b hb => hb)
  have u3 := u2.trans hU3
  have hR3 : RowB (fun x => w.heap.size + 2 ≤ x) (InB (fun x => w.heap.size + 2 ≤ x) w3 d) w3 a2 I := RowB.upd (Upd.refl [] w3) (by simp) (fun x hx _ => by omega) hR2
  have y5 : w3.cell? ⟨w.heap.size, 5, none⟩ = some (.slice ai I.length ci) := tX3.cell 5
  have y6 : w3.cell? ⟨w.heap.size, 6, none⟩ = some (.slice at' T.length ct) := tX3.cell 6
  have yf : w3.frozen? ⟨w.heap.size, 5, none⟩ = false := frozen_of_row w3 w.heap.size 5 _ _ tX3
  have v3 : Upd [w.heap.size] w3 (w3.setCell ⟨w.heap.size, 5, none⟩ (.slice a2 I.length cap2)) := (Upd.refl _ _).setCell (Or.inr (by simp)) _
  have tX4 := tX3.put5 (u5 := .slice a2 I.length cap2)
  have tZ4 := tZ3.mono v3 (by simp)
  have hAt4 := hAt3.step v3 (fun b hb => by simp; omega) (fun b hb => hb)
  have u4 := u3.then v3 (by simp)
  have HR4 : Hid (RowB (fun x => w.heap.size + 2 ≤ x) (InB (fun x => w.heap.size + 2 ≤ x) (w3.setCell ⟨w.heap.size, 5, none⟩ (.slice a2 I.length cap2)) d) (w3.setCell ⟨w.heap.size, 5, none⟩ (.slice a2 I.length cap2)) a2 I) := RowB.upd v3 (fun x hx => by simp; omega) (fun x hx _ => hx) hR3
  have hlz4 := tZ4.lt
  clear hR2 hR3 tX2 tZ2 hAt2 u2 hU3 tX3 tZ3 hAt3 u3 v3 x2 x5 xf hG2
  go_wp2_with fail
  refine (HTt.out _ u4).mono ?_
  rintro e w5 ⟨hU5, v3, C3, rfl, hR5, hG5, hC5⟩
  obtain ⟨a3, cap3, rfl, _, _, _, hR5⟩ := hR5.row hC5 hG5
  have HRT5 : Hid (RowB (fun x => w.heap.size + 2 ≤ x) (InB (fun x => w.heap.size + 2 ≤ x) w5 d) w5 a3 T) := RowB.upd (Upd.refl [] w5) (by simp) (fun x hx _ => by omega) hR5
  have HRI5 : Hid (RowB (fun x => w.heap.size + 2 ≤ x) (InB (fun x => w.heap.size + 2 ≤ x) w5 d) w5 a2 I) := RowB.upd hU5 (by simp) (fun x hx _ => hx) HR4.out
  have tX5 := tX4.mono hU5 (by simp)
  have tZ5 := tZ4.mono hU5 (by simp)
  have hAt5 := hAt4.step hU5 (by simp) (fun b hb => hb)
  have u5 := u4.trans hU5
  have z6 : w5.cell? ⟨w.heap.size, 6, none⟩ = some (.slice at' T.length ct) := tX5.cell 6
  have zf : w5.frozen? ⟨w.heap.size, 6, none⟩ = false := frozen_of_row w5 w.heap.size 6 _ _ tX5
  have v5 : Upd [w.heap.size] w5 (w5.setCell ⟨w.heap.size, 6, none⟩ (.slice a3 T.length cap3)) := (Upd.refl _ _).setCell (Or.inr (by simp)) _
  have tX6 := tX5.put6 (u6 := .slice a3 T.length cap3)
  have tZ6 := tZ5.mono v5 (by simp)
  have hAt6 := hAt5.step v5 (fun b hb => by simp; omega) (fun b hb => hb)
  have u6 := u5.then v5 (by simp)
  have HV5 : Hid (Upd [w.heap.size] w5 (w5.setCell ⟨w.heap.size, 6, none⟩ (.slice a3 T.length cap3))) := v5
  have HAT : Hid (AtB (fun b => w.heap.size + 2 ≤ b) _ (some ⟨g, 0, none⟩) L) := hAt6
  clear hR5 tX4 tZ4 hAt4 u4 hU5 tX5 tZ5 hAt5 u5 y5 y6 yf HR4 v5 hAt6 hG5
  go_wp2_with (first | (refine load_T _ rfl _ rfl _ _ rfl tX6 rfl ?_) | (refine store_V _ rfl _ _ rfl _ _ _ _ _ _ _ _ _ _ _ _ _ _ _ rfl rfl tZ6 rfl ?_; intro w7 hT7 hU7))
  have hI7 := RowB.upd (Q := fun x => w.heap.size ≤ x) hU7 (fun x hx => by simp; omega) (fun x hx _ => by omega) (RowB.upd HV5.out (fun x hx => by simp; omega) (fun x hx _ => hx) HRI5.out)
  have hT7' := RowB.upd (Q := fun x => w.heap.size ≤ x) hU7 (fun x hx => by simp; omega) (fun x hx _ => by omega) (RowB.upd HV5.out (fun x hx => by simp; omega) (fun x hx _ => hx) HRT5.out)
  refine ret_T Tryz.results66 rfl _ _ rfl hT7 rfl ⟨u6.then hU7 (by simp), [.int .u8 k, .bool neg, .slice (some ⟨g, 0, none⟩) L.length cap, .string s, .int .i64 num, .slice a2 I.length cap2, .slice a3 T.length cap3], rfl, rfl, ?_⟩
  exact ⟨some ⟨g, 0, none⟩, a2, a3, cap, cap2, cap3, rfl, AtB.step HAT.out hU7 (fun b hb => by simp; omega) (fun b hb => by omega), hD, hI7, hT7'⟩
theorem RCopy_in : ∀ d, RCopSaid d
 | 0 => fun _ _ _ h => h.elim
 | d + 1 => RCop_step d (RCopy_in d)
end Go.Proofs.YtalhbbabijlngaaGreatDoor
namespace Go.Proofs.YtalhbbabijlngaaGreatDoor
open Go.RowKit
set_option maxHeartbeats 4000000 in
set_option maxRecDepth 100000 in
theorem RSplit_bad (d c ci ct : Nat) (k num : Int) (neg : Bool) (s : ByteArray) (L : List Nat) (a ai at' : Option Addr) (I T : List Tm) (w : World) (hin : In w d [.int .u8 k, .bool neg, .slice a L.length c, .string s, .int .i64 num, .slice ai I.length ci, .slice at' T.length ct] (.mk k num neg L s I T)) (hz : tsz (.mk k num neg L s I T) ≤ 1353245080330) (hcn : cntT (.mk k num neg L s I T) ≤ 6000) (hno : (splits (.mk k num neg L s I T) && okS (.mk k num neg L s I T)) = false) :
  Calls Tryz.prog 27 #[.agg #[.int .u8 k, .bool neg, .slice a L.length c, .string s, .int .i64 num, .slice ai I.length ci, .slice at' T.length ct]] w (SplitQ w d (.mk k num neg L s I T)) := by
 obtain ⟨o, ho⟩ : ∃ o, okS (.mk k num neg L s I T) = o := ⟨_, rfl⟩
 have HR : Hid (∀ V, Upd [] w V → Calls Tryz.prog 15 #[.agg #[.int .u8 k, .bool neg, .slice a L.length c, .string s, .int .i64 num, .slice ai I.length ci, .slice at' T.length ct]] V fun e w' => e = .returned (.bool o) ∧ Upd [] V w') := fun V hU => by
  have := right2_in d V _ _ (In.mono hU _ _ _ hin) hz hcn
  rw [ho] at this
  exact this
 have hzi : ∀ V : World, In V d zeroC zeroT := fun V => by
  cases d with
  | zero => exact hin.elim
  | succ d => exact zero_in V d
 have tb0 : Tb (((w.alloc (.cells #[.int .u8 k, .bool neg, .slice a L.length c, .string s, .int .i64 num, .slice ai I.length ci, .slice at' T.length ct] 26)).alloc (.cells #[.int .u8 0, .bool false, .slice none 0 0, .string ⟨#[]⟩, .int .i64 0, .slice none 0 0, .slice none 0 0] 26)).alloc (.cells #[.int .u8 0, .bool false, .slice none 0 0, .string ⟨#[]⟩, .int .i64 0, .slice none 0 0, .slice none 0 0] 26)) w.heap.size #[.int .u8 k, .bool neg, .slice a L.length c, .string s, .int .i64 num, .slice ai I.length ci, .slice at' T.length ct] := ((Tb.new _ _ _ rfl).old _).old _
 have tb1 : Tb (((w.alloc (.cells #[.int .u8 k, .bool neg, .slice a L.length c, .string s, .int .i64 num, .slice ai I.length ci, .slice at' T.length ct] 26)).alloc (.cells #[.int .u8 0, .bool false, .slice none 0 0, .string ⟨#[]⟩, .int .i64 0, .slice none 0 0, .slice none 0 0] 26)).alloc (.cells #[.int .u8 0, .bool false, .slice none 0 0, .string ⟨#[]⟩, .int .i64 0, .slice none 0 0, .slice none 0 0] 26)) (w.heap.size + 1) #[.int .u8 0, .bool false, .slice none 0 0, .string ⟨#[]⟩, .int .i64 0, .slice none 0 0, .slice none 0 0] := (Tb.new _ _ _ (by simp)).old _
 have tb2 : Tb (((w.alloc (.cells #[.int .u8 k, .bool neg, .slice a L.length c, .string s, .int .i64 num, .slice ai I.length ci, .slice at' T.length ct] 26)).alloc (.cells #[.int .u8 0, .bool false, .slice none 0 0, .string ⟨#[]⟩, .int .i64 0, .slice none 0 0, .slice none 0 0] 26)).alloc (.cells #[.int .u8 0, .bool false, .slice none 0 0, .string ⟨#[]⟩, .int .i64 0, .slice none 0 0, .slice none 0 0] 26)) (w.heap.size + 1 + 1) #[.int .u8 0, .bool false, .slice none 0 0, .string ⟨#[]⟩, .int .i64 0, .slice none 0 0, .slice none 0 0] := Tb.new _ _ _ (by simp)
 have HU0 : Hid (Upd [] w (((w.alloc (.cells #[.int .u8 k, .bool neg, .slice a L.length c, .string s, .int .i64 num, .slice ai I.length ci, .slice at' T.length ct] 26)).alloc (.cells #[.int .u8 0, .bool false, .slice none 0 0, .string ⟨#[]⟩, .int .i64 0, .slice none 0 0, .slice none 0 0] 26)).alloc (.cells #[.int .u8 0, .bool false, .slice none 0 0, .string ⟨#[]⟩, .int .i64 0, .slice none 0 0, .slice none 0 0] 26))) := (((Upd.refl [] w).alloc _).alloc _).alloc _
 have END : Hid (∀ V1 V2 V3, Upd [] w V1 → Upd [w.heap.size + 1] V1 V2 → Upd [w.heap.size + 1 + 1] V2 V3 → SplitQ w d (.mk k num neg L s I T) (.returned (.tuple #[(.agg #[.int .u8 0, .bool false, .slice none 0 0, .string ⟨#[]⟩, .int .i64 0, .slice none 0 0, .slice none 0 0]), (.agg #[.int .u8 0, .bool false, .slice none 0 0, .string ⟨#[]⟩, .int .i64 0, .slice none 0 0, .slice none 0 0]), .bool false])) V3) := fun V1 V2 V3 h1 h2 h3 => ⟨zeroC, zeroC, rfl, rfl, by rw [hno]; rfl, by rw [hno]; exact hzi V3, by rw [hno]; exact hzi V3, (h1.then h2 (by simp)).then h3 (by simp; omega)⟩
 have hl : I.length ≤ 1353245080330 := by simp only [tsz] at hz; exact Nat.le_trans (tszs_len I) (by omega)
 obtain ⟨W, hW⟩ : ∃ W, W = (((w.alloc (.cells #[.int .u8 k, .bool neg, .slice a L.length c, .string s, .int .i64 num, .slice ai I.length ci, .slice at' T.length ct] 26)).alloc (.cells #[.int .u8 0, .bool false, .slice none 0 0, .string ⟨#[]⟩, .int .i64 0, .slice none 0 0, .slice none 0 0] 26)).alloc (.cells #[.int .u8 0, .bool false, .slice none 0 0, .string ⟨#[]⟩, .int .i64 0, .slice none 0 0, .slice none 0 0] 26)) := ⟨_, rfl⟩
 have HW : Hid (W = _) := hW
 rw [← hW] at tb0 tb1 tb2 HU0
 have hcase : o = false ∨ (o = true ∧ ¬ k = 7) ∨ (o = true ∧ k = 7 ∧ I.length = 0) := by
  rw [ho] at hno
  cases o with
  | false => exact Or.inl rfl
  | true =>
   refine Or.inr ?_
   rw [Bool.and_true] at hno
   by_cases hk : k = 7
   ·refine Or.inr ⟨rfl, hk, ?_⟩
    unfold splits at hno
    rw [hk] at hno
    simpa using hno
   ·exact Or.inl ⟨rfl, hk⟩
 clear hin hz hzi hW ho hno hcn
 go_enter Tryz.func27, Tryz.ntmps27
 go_wp2_with fail
 rw [← HW.out]
 refine Calls.mono (HR.out _ HU0.out) ?_
 rintro e w1 ⟨rfl, hU1⟩
 have tc0 := tb0.mono hU1 (by simp)
 have tc1 := tb1.mono hU1 (by simp)
 have td2 := tb2.mono hU1 (by simp)
 have U1 : Hid (Upd [] w w1) := HU0.out.trans hU1
 have x0 : w1.cell? ⟨w.heap.size, 0, none⟩ = some (.int .u8 k) := tc0.cell 0
 have x5 : w1.cell? ⟨w.heap.size, 5, none⟩ = some (.slice ai I.length ci) := tc0.cell 5
 clear hU1 tb0 tb1 tb2 tc0
 rcases hcase with rfl | ⟨rfl, hk⟩ | ⟨rfl, rfl, h0⟩
 ·go_wp2_with (first | (refine store_V _ rfl _ _ rfl _ _ _ _ _ _ _ _ _ _ _ _ _ _ _ rfl rfl tc1 rfl ?_; intro w2 hT2 hU2; have tc2 := td2.mono hU2 (by simp)) | (refine store_V _ rfl _ _ rfl _ _ _ _ _ _ _ _ _ _ _ _ _ _ _ rfl rfl tc2 rfl ?_; intro w3 hT3 hU3))
  exact ret_TTb Tryz.results27 rfl _ _ _ _ _ rfl (hT2.mono hU3 (by simp)) rfl rfl hT3 rfl rfl (END.out _ _ _ U1.out hU2 hU3)
 ·have kne : (k == 7) = false := beq_eq_false_iff_ne.2 hk
  go_wp2_with (first | (refine store_V _ rfl _ _ rfl _ _ _ _ _ _ _ _ _ _ _ _ _ _ _ rfl rfl tc1 rfl ?_; intro w2 hT2 hU2; have tc2 := td2.mono hU2 (by simp)) | (refine store_V _ rfl _ _ rfl _ _ _ _ _ _ _ _ _ _ _ _ _ _ _ rfl rfl tc2 rfl ?_; intro w3 hT3 hU3))
  exact ret_TTb Tryz.results27 rfl _ _ _ _ _ rfl (hT2.mono hU3 (by simp)) rfl rfl hT3 rfl rfl (END.out _ _ _ U1.out hU2 hU3)
 ·rw [h0] at x5
  go_wp2_with (first | (refine store_V _ rfl _ _ rfl _ _ _ _ _ _ _ _ _ _ _ _ _ _ _ rfl rfl tc1 rfl ?_; intro w2 hT2 hU2; have tc2 := td2.mono hU2 (by simp)) | (refine store_V _ rfl _ _ rfl _ _ _ _ _ _ _ _ _ _ _ _ _ _ _ rfl rfl tc2 rfl ?_; intro w3 hT3 hU3))
  exact ret_TTb Tryz.results27 rfl _ _ _ _ _ rfl (hT2.mono hU3 (by simp)) rfl rfl hT3 rfl rfl (END.out _ _ _ U1.out hU2 hU3)
end Go.Proofs.YtalhbbabijlngaaGreatDoor
namespace Go.Proofs.YtalhbbabijlngaaGreatDoor
open Go.RowKit
def RwS (lo d : Nat) (w' : World) (n : Nat) (J : List Tm) (v : Value) : Prop := ∃ a5 c5, v = .slice a5 n c5 ∧ RowB (fun g => lo ≤ g) (InB (fun g => lo ≤ g) w' d) w' a5 J
theorem RwS.upd {lo d n : Nat} {S : List Nat} {w w' : World} {J : List Tm} {v : Value} (h : RwS lo d w n J v) (hu : Upd S w w') (hS : ∀ x, x ∈ S → x < lo) : RwS lo d w' n J v := by
 obtain ⟨a5, c5, e, hr⟩ := h
 exact ⟨a5, c5, e, RowB.upd hu (fun g hg hm => by have := hS g hm; omega) (fun g hg _ => hg) hr⟩
def TmS (lo d : Nat) (w' : World) (t : Tm) (v : Value) : Prop := ∃ cs : List Value, cs.length = 7 ∧ v = .agg cs.toArray ∧ InB (fun g => lo ≤ g) w' d cs t
theorem TmS.upd {lo d : Nat} {S : List Nat} {w w' : World} {t : Tm} {v : Value} (h : TmS lo d w t v) (hu : Upd S w w') (hS : ∀ x, x ∈ S → x < lo) : TmS lo d w' t v := by
 obtain ⟨cs, e7, e, hr⟩ := h
 exact ⟨cs, e7, e, InB.upd hu (fun g hg hm => by have := hS g hm; omega) (fun g hg _ => hg) _ _ _ hr⟩
def SpS (s k i : Nat) : List Nat := if i = k then [s + 1] else if i = k + 1 then [s + 1 + 1] else []
theorem SpS_lt {s k i lo : Nat} (h : s + 3 ≤ lo) : ∀ x, x ∈ SpS s k i → x < lo := by
 intro x hx
 unfold SpS at hx
 split at hx
 ·simp at hx; omega
 ·split at hx
  ·simp at hx; omega
  ·simp at hx
structure SpB (lo hb d : Nat) (w0 : World) (v5 v6 : Value) (X : Array Value) (t : Tm) (w' : World) : Prop where
 u : Upd [] w0 w'
 x5 : w'.cell? ⟨w0.heap.size, 5, none⟩ = some v5
 x6 : w'.cell? ⟨w0.heap.size, 6, none⟩ = some v6
 lt : w0.heap.size + 3 ≤ lo ∧ lo ≤ hb ∧ hb < w'.heap.size
 hx : Tb w' hb X
 ht : InB (fun g => lo ≤ g) w' d X.toList t
 t1 : ∃ c : Array Value, c.size = 7 ∧ Tb w' (w0.heap.size + 1) c
 t2 : ∃ c : Array Value, c.size = 7 ∧ Tb w' (w0.heap.size + 1 + 1) c
theorem SpB.step {lo hb d : Nat} {w0 w w' : World} {v5 v6 : Value} {X : Array Value} {t : Tm} (h : SpB lo hb d w0 v5 v6 X t w) (hu : Upd [] w w') : SpB lo hb d w0 v5 v6 X t w' :=
 ⟨h.u.trans hu, (hu.cell (p := ⟨w0.heap.size, 5, none⟩) (by have := h.lt; show w0.heap.size < _; omega) (by simp)).trans h.x5, (hu.cell (p := ⟨w0.heap.size, 6, none⟩) (by have := h.lt; show w0.heap.size < _; omega) (by simp)).trans h.x6,
  ⟨h.lt.1, h.lt.2.1, Nat.lt_of_lt_of_le h.lt.2.2 hu.size⟩, h.hx.mono hu (by simp), InB.upd hu (by simp) (fun g hg _ => hg) _ _ _ h.ht,
  by obtain ⟨c, e, k⟩ := h.t1; exact ⟨c, e, k.mono hu (by simp)⟩, by obtain ⟨c, e, k⟩ := h.t2; exact ⟨c, e, k.mono hu (by simp)⟩⟩
theorem SpB.put1 {lo hb d : Nat} {w0 w : World} {v5 v6 : Value} {X : Array Value} {t : Tm} (h : SpB lo hb d w0 v5 v6 X t w) (Y : Array Value) (hY : Y.size = 7) : SpB lo hb d w0 v5 v6 X t (w.setRow (w0.heap.size + 1) Y) := by
 have hu := setRow_upd w (w0.heap.size + 1) Y
 obtain ⟨c1, e1, k1⟩ := h.t1
 obtain ⟨c2, e2, k2⟩ := h.t2
 obtain ⟨l1, l2, l3⟩ := h.lt
 exact ⟨h.u.then hu (by simp), (hu.cell (p := ⟨w0.heap.size, 5, none⟩) (by show w0.heap.size < _; omega) (by simp)).trans h.x5, (hu.cell (p := ⟨w0.heap.size, 6, none⟩) (by show w0.heap.size < _; omega) (by simp)).trans h.x6,
  ⟨l1, l2, Nat.lt_of_lt_of_le l3 hu.size⟩, h.hx.mono hu (by simp; omega), InB.upd hu (fun g hg => by simp; omega) (fun g hg _ => hg) _ _ _ h.ht, ⟨Y, hY, setRow_tb k1 Y⟩, ⟨c2, e2, k2.mono hu (by simp)⟩⟩
theorem SpB.put2 {lo hb d : Nat} {w0 w : World} {v5 v6 : Value} {X : Array Value} {t : Tm} (h : SpB lo hb d w0 v5 v6 X t w) (Y : Array Value) (hY : Y.size = 7) : SpB lo hb d w0 v5 v6 X t (w.setRow (w0.heap.size + 1 + 1) Y) := by
 have hu := setRow_upd w (w0.heap.size + 1 + 1) Y
 obtain ⟨c1, e1, k1⟩ := h.t1
 obtain ⟨c2, e2, k2⟩ := h.t2
 obtain ⟨l1, l2, l3⟩ := h.lt
 exact ⟨h.u.then hu (by simp; omega), (hu.cell (p := ⟨w0.heap.size, 5, none⟩) (by show w0.heap.size < _; omega) (by simp; omega)).trans h.x5, (hu.cell (p := ⟨w0.heap.size, 6, none⟩) (by show w0.heap.size < _; omega) (by simp; omega)).trans h.x6,
  ⟨l1, l2, Nat.lt_of_lt_of_le l3 hu.size⟩, h.hx.mono hu (by simp; omega), InB.upd hu (fun g hg => by simp; omega) (fun g hg _ => hg) _ _ _ h.ht, ⟨c1, e1, k1.mono hu (by simp)⟩, ⟨Y, hY, setRow_tb k2 Y⟩⟩
def SpR (s lo d : Nat) (v5 v6 : Value) (X : Array Value) (b o n m : Nat) (J K : List Tm) : Nat → Value → World → Prop
 | 0, v, _ => v = .agg X
 | 1, v, _ => v = .pointer (some ⟨s, 5, none⟩)
 | 2, v, _ => v = v5
 | 3, v, _ => ∃ a1 c1, v = .slice a1 (n - 1) c1 ∧ (2 ≤ n → a1 = some ⟨b, o + 7, none⟩)
 | 4, v, w' => RwS lo d w' (n - 1) J v
 | 5, v, _ => v = .pointer (some ⟨s, 6, none⟩)
 | 6, v, _ => v = v6
 | 7, v, w' => RwS lo d w' m K v
 | 8, v, w' => ∃ u1 u2, v = .agg #[.int .u8 7, .bool false, .slice none 0 0, .string ⟨#[]⟩, .int .i64 0, u1, u2] ∧ RwS lo d w' (n - 1) J u1 ∧ RwS lo d w' m K u2
 | 9, _, w' => Tb w' (s + 1) X
 | 10, _, w' => ∃ u1 u2, Tb w' (s + 1 + 1) #[.int .u8 7, .bool false, .slice none 0 0, .string ⟨#[]⟩, .int .i64 0, u1, u2] ∧ RwS lo d w' (n - 1) J u1 ∧ RwS lo d w' m K u2
 | 11, v, _ => v = .bool true
 | _, _, _ => True
theorem SpR.stab {s lo d : Nat} {v5 v6 : Value} {X : Array Value} {b o n m : Nat} {J K : List Tm} (hl : s + 3 ≤ lo) (i j : Nat) (v : Value) (w w' : World) (hij : i ≠ j) (h : SpR s lo d v5 v6 X b o n m J K j v w) (hu : Upd (SpS s 9 i) w w') : SpR s lo d v5 v6 X b o n m J K j v w' := by
 have hS : ∀ x, x ∈ SpS s 9 i → x < lo := SpS_lt hl
 match j, h with
 | 0, h => exact h
 | 1, h => exact h
 | 2, h => exact h
 | 3, h => exact h
 | 4, h => exact RwS.upd h hu hS
 | 5, h => exact h
 | 6, h => exact h
 | 7, h => exact RwS.upd h hu hS
 | 8, ⟨u1, u2, e, h1, h2⟩ => exact ⟨u1, u2, e, h1.upd hu hS, h2.upd hu hS⟩
 | 9, h => exact Tb.mono h hu (by unfold SpS; rw [if_neg hij]; split <;> simp)
 | 10, ⟨u1, u2, e, h1, h2⟩ => exact ⟨u1, u2, e.mono hu (by unfold SpS; rw [if_neg (show ¬ i = 9 + 1 from hij)]; split <;> simp), h1.upd hu hS, h2.upd hu hS⟩
 | 11, h => exact h
 | _ + 12, _ => trivial
set_option maxHeartbeats 8000000 in
set_option maxRecDepth 100000 in
theorem RSplit_many (d b o ci ct c : Nat) (num : Int) (neg : Bool) (s : ByteArray) (L : List Nat) (a at' : Option Addr) (I T : List Tm) (w : World) (hin : In w (d + 1) [.int .u8 7, .bool neg, .slice a L.length c, .string s, .int .i64 num, .slice (some ⟨b, o, none⟩) I.length ci, .slice at' T.length ct] (.mk 7 num neg L s I T))
  (hz : tsz (.mk 7 num neg L s I T) ≤ 1353245080330) (hcn : cntT (.mk 7 num neg L s I T) ≤ 6000) (hok : okS (.mk 7 num neg L s I T) = true) (h2 : 1 ≤ I.length) (hcap : I.length ≤ ci) (_hci : ci ≤ 9223372036854775807) (hnot : ¬ (I.length = 1 ∧ T.length = 1)) :
  Calls Tryz.prog 27 #[.agg #[.int .u8 7, .bool neg, .slice a L.length c, .string s, .int .i64 num, .slice (some ⟨b, o, none⟩) I.length ci, .slice at' T.length ct]] w fun e w' => ∃ cs cs' : List Value, cs.length = 7 ∧ cs'.length = 7 ∧ e = .returned (.tuple #[.agg cs.toArray, .agg cs'.toArray, .bool true]) ∧ In w' (d + 1) cs (I.getD 0 nilT) ∧ In w' (d + 1) cs' (.mk 7 0 false [] ⟨#[]⟩ (I.drop 1) T) ∧ Upd [] w w' := by
 have HR : Hid (∀ V, Upd [] w V → Calls Tryz.prog 15 #[.agg #[.int .u8 7, .bool neg, .slice a L.length c, .string s, .int .i64 num, .slice (some ⟨b, o, none⟩) I.length ci, .slice at' T.length ct]] V fun e w' => e = .returned (.bool true) ∧ Upd [] V w') := fun V hU => by
  have := right2_in (d + 1) V _ _ (In.mono hU _ _ _ hin) hz hcn
  rw [hok] at this
  exact this
 simp only [tsz] at hz
 have hzI : tszs I ≤ 1353245080330 := by omega
 have hzT : tszs T ≤ 1353245080330 := by omega
 obtain ⟨_, _, _, _, _, _, e, _, _, hI, hT⟩ := hin
 simp only [List.cons.injEq, Value.slice.injEq, true_and, and_true] at e
 obtain ⟨e2, ⟨e5, e5'⟩, e6, e6'⟩ := e
 rw [← e5] at hI
 rw [← e6] at hT
 clear e2 e5 e5' e6 e6'
 obtain ⟨t, I', hIe⟩ : ∃ t I', I = t :: I' := by
  cases I with
  | nil => simp at h2
  | cons t r => exact ⟨t, r, rfl⟩
 have hzt : tsz t ≤ 1353245080330 := by rw [hIe] at hzI; simp only [tszs] at hzI; omega
 have hrow : ∃ p0 p1 p2 p3 p4 p5 p6, (∀ j, j < 7 → w.cell? ⟨b, o + j, none⟩ = [p0, p1, p2, p3, p4, p5, p6][j]?) ∧ In w d [p0, p1, p2, p3, p4, p5, p6] t := by
  rcases hI with h0 | ⟨b', o', e, hlt, hc⟩
  ·rw [hIe] at h0; cases h0
  ·cases e
   obtain ⟨cs, k1, k2, k3⟩ := hc 0 (by omega)
   obtain ⟨p0, p1, p2, p3, p4, p5, p6, rfl⟩ := list7 k1
   refine ⟨p0, p1, p2, p3, p4, p5, p6, fun j hj => by have := k2 j hj; rwa [Nat.zero_mul, Nat.zero_add] at this, ?_⟩
   have : I[0] = t := by simp [hIe]
   rw [this] at k3
   exact k3
 obtain ⟨p0, p1, p2, p3, p4, p5, p6, hpc, hpin⟩ := hrow
 have hgd : I.getD 0 nilT = t := by rw [hIe]; rfl
 rw [hgd]
 have hblt : b < w.heap.size := by have := World.block_lt_of_cell? _ _ (hpc 0 (by omega)); exact this
 obtain ⟨W, hW⟩ : ∃ W, W = (((w.alloc (.cells #[.int .u8 7, .bool neg, .slice a L.length c, .string s, .int .i64 num, .slice (some ⟨b, o, none⟩) I.length ci, .slice at' T.length ct] 26)).alloc (.cells #[.int .u8 0, .bool false, .slice none 0 0, .string ⟨#[]⟩, .int .i64 0, .slice none 0 0, .slice none 0 0] 26)).alloc (.cells #[.int .u8 0, .bool false, .slice none 0 0, .string ⟨#[]⟩, .int .i64 0, .slice none 0 0, .slice none 0 0] 26)) := ⟨_, rfl⟩
 have hU0 : Upd [] w W := by rw [hW]; exact (((Upd.refl [] w).alloc _).alloc _).alloc _
 have tb0 : Tb W w.heap.size #[.int .u8 7, .bool neg, .slice a L.length c, .string s, .int .i64 num, .slice (some ⟨b, o, none⟩) I.length ci, .slice at' T.length ct] := by rw [hW]; exact ((Tb.new _ _ _ rfl).old _).old _
 have tb1 : Tb W (w.heap.size + 1) #[.int .u8 0, .bool false, .slice none 0 0, .string ⟨#[]⟩, .int .i64 0, .slice none 0 0, .slice none 0 0] := by rw [hW]; exact (Tb.new _ _ _ (by simp)).old _
 have tb2 : Tb W (w.heap.size + 1 + 1) #[.int .u8 0, .bool false, .slice none 0 0, .string ⟨#[]⟩, .int .i64 0, .slice none 0 0, .slice none 0 0] := by rw [hW]; exact Tb.new _ _ _ (by simp)
 have hsW : W.heap.size = w.heap.size + 3 := by rw [hW]; simp
 have i0 : ((I.length : Int) == 0) = false := beq_eq_false_iff_ne.2 (by omega)
 have i1 : (0 : Int) < (I.length : Int) := by omega
 have i2 : 0 < I.length := by omega
 have hIl : I.length ≤ 1353245080330 := Nat.le_trans (tszs_len I) hzI
 have hTl : T.length ≤ 1353245080330 := Nat.le_trans (tszs_len T) hzT
 have hbb : (((I.length : Int) == 1) && ((T.length : Int) == 1)) = false := by
  by_cases h : I.length = 1
  ·have : ¬ T.length = 1 := fun h3 => hnot ⟨h, h3⟩
   simp; omega
  ·simp; omega
 have HI : Hid (RowAt (In w d) w (some ⟨b, o, none⟩) I) := hI
 have HT : Hid (RowAt (In w d) w at' T) := hT
 have HP : Hid (In w d [p0, p1, p2, p3, p4, p5, p6] t) := hpin
 have HPC : Hid (∀ j, j < 7 → w.cell? ⟨b, o + j, none⟩ = [p0, p1, p2, p3, p4, p5, p6][j]?) := hpc
 have HW : Hid (W = _) := hW
 clear hI hT hpin hpc hgd hIe hok hz hW
 go_enter Tryz.func27, Tryz.ntmps27
 go_wp2_with fail
 rw [← HW.out]
 refine Calls.mono (HR.out W hU0) ?_
 rintro e w1 ⟨rfl, hU1⟩
 have tc0 := tb0.mono hU1 (by simp)
 have HT1 : Hid (Tb w1 _ _) := tb1.mono hU1 (by simp)
 have HT2 : Hid (Tb w1 _ _) := tb2.mono hU1 (by simp)
 have HU1 : Hid (Upd [] w w1) := hU0.trans hU1
 have hl1 : w.heap.size < w1.heap.size := tc0.lt
 have hsz1 : w.heap.size + 3 ≤ w1.heap.size := by have := hU1.size; omega
 clear tb0 tb1 tb2 hU1 hU0
 have x0 : w1.cell? ⟨w.heap.size, 0, none⟩ = some (.int .u8 7) := tc0.cell 0
 have x5 : w1.cell? ⟨w.heap.size, 5, none⟩ = some (.slice (some ⟨b, o, none⟩) I.length ci) := tc0.cell 5
 have x6 : w1.cell? ⟨w.heap.size, 6, none⟩ = some (.slice at' T.length ct) := tc0.cell 6
 have y0 : w1.cell? ⟨b, o, none⟩ = some p0 := (HU1.out.cell (p := ⟨b, o, none⟩) hblt (by simp)).trans (HPC.out 0 (by omega))
 have y1 : w1.cell? ⟨b, o + 1, none⟩ = some p1 := (HU1.out.cell (p := ⟨b, o + 1, none⟩) hblt (by simp)).trans (HPC.out 1 (by omega))
 have y2 : w1.cell? ⟨b, o + 2, none⟩ = some p2 := (HU1.out.cell (p := ⟨b, o + 2, none⟩) hblt (by simp)).trans (HPC.out 2 (by omega))
 have y3 : w1.cell? ⟨b, o + 3, none⟩ = some p3 := (HU1.out.cell (p := ⟨b, o + 3, none⟩) hblt (by simp)).trans (HPC.out 3 (by omega))
 have y4 : w1.cell? ⟨b, o + 4, none⟩ = some p4 := (HU1.out.cell (p := ⟨b, o + 4, none⟩) hblt (by simp)).trans (HPC.out 4 (by omega))
 have y5 : w1.cell? ⟨b, o + 5, none⟩ = some p5 := (HU1.out.cell (p := ⟨b, o + 5, none⟩) hblt (by simp)).trans (HPC.out 5 (by omega))
 have y6 : w1.cell? ⟨b, o + 6, none⟩ = some p6 := (HU1.out.cell (p := ⟨b, o + 6, none⟩) hblt (by simp)).trans (HPC.out 6 (by omega))
 clear HR tc0
 go_wp2_with fail
 refine Calls.mono (RCopy_in d w1 [p0, p1, p2, p3, p4, p5, p6] t (In.mono HU1.out _ _ _ HP.out) hzt) ?_
 rintro e w3 ⟨hU3, cs3, h73, rfl, hR3⟩
 obtain ⟨k3, nu3, ng3, st3, aa3, ab3, ac3, na3, nb3, nc3, ca3, cb3, cc3, rfl⟩ := InB.shapeC hR3
 have HR3 : Hid (InB (fun g => w1.heap.size ≤ g) w3 d [.int .u8 k3, .bool ng3, .slice aa3 na3 ca3, .string st3, .int .i64 nu3, .slice ab3 nb3 cb3, .slice ac3 nc3 cc3] t) := hR3
 have hs3 := hU3.size
 have tb5 := Tb.new w3 #[.int .u8 0, .bool false, .slice none 0 0, .string ⟨#[]⟩, .int .i64 0, .slice none 0 0, .slice none 0 0] _ rfl
 have ua : Upd [] w3 (w3.alloc (.cells #[.int .u8 0, .bool false, .slice none 0 0, .string ⟨#[]⟩, .int .i64 0, .slice none 0 0, .slice none 0 0] 26)) := (Upd.refl [] w3).alloc _
 have uv3 : Upd [] w1 (w3.alloc (.cells #[.int .u8 0, .bool false, .slice none 0 0, .string ⟨#[]⟩, .int .i64 0, .slice none 0 0, .slice none 0 0] 26)) := hU3.trans ua
 clear hR3 h73
 go_wp2_with (refine store_V _ rfl _ _ rfl _ _ _ _ _ _ _ _ _ _ _ _ _ _ _ rfl rfl tb5 rfl ?_; intro w4 hT4 hU4; have u4 : Upd [] w1 w4 := uv3.then hU4 (by simp; omega); have q5 : w4.cell? ⟨w.heap.size, 5, none⟩ = some (.slice (some ⟨b, o, none⟩) I.length ci) := (u4.cell (p := ⟨w.heap.size, 5, none⟩) hl1 (by simp)).trans x5; have q6 : w4.cell? ⟨w.heap.size, 6, none⟩ = some (.slice at' T.length ct) := (u4.cell (p := ⟨w.heap.size, 6, none⟩) hl1 (by simp)).trans x6)
 all_goals
  have hl4 : w.heap.size < w4.heap.size := Nat.lt_of_lt_of_le hl1 u4.size
  have hl5 : w3.heap.size < w4.heap.size := hT4.lt
  have HH4 : InB (fun g => w1.heap.size ≤ g) w4 d [.int .u8 k3, .bool ng3, .slice aa3 na3 ca3, .string st3, .int .i64 nu3, .slice ab3 nb3 cb3, .slice ac3 nc3 cc3] t := InB.upd hU4 (fun g hg hm => by simp at hm; omega) (fun g hg _ => hg.1) _ _ _ (InB.upd ua (by simp) (fun g hg _ => hg) _ _ _ (InB.tight HR3.out))
  have HU4 : Upd [] w w4 := HU1.out.trans u4
  have HTX4 := HT1.out.mono u4 (by simp)
  have HTY4 := HT2.out.mono u4 (by simp)
  have HB : SpB w1.heap.size w3.heap.size d w (.slice (some ⟨b, o, none⟩) I.length ci) (.slice at' T.length ct) #[.int .u8 k3, .bool ng3, .slice aa3 na3 ca3, .string st3, .int .i64 nu3, .slice ab3 nb3 cb3, .slice ac3 nc3 cc3] t w4 := ⟨HU4, q5, q6, ⟨hsz1, hs3, hl5⟩, hT4, HH4, ⟨_, rfl, HTX4⟩, ⟨_, rfl, HTY4⟩⟩
  clear hbb hnot HP HPC HW HR3 uv3 ua x0 x5 x6 y0 y1 y2 y3 y4 y5 y6 tb5 hU4 hU3
  have HF1 : ∀ V a1 c1, Upd [] w V → (2 ≤ I.length → a1 = some ⟨b, o + 7, none⟩) → Calls Tryz.prog 67 #[.slice a1 (I.length - 1) c1] V fun e w' => ∃ u, e = .returned u ∧ Upd [] V w' ∧ RwS V.heap.size d w' (I.length - 1) (I.drop 1) u := fun V a1 c1 hUV ha => by
   have hrw : RowAt (In V d) V a1 (I.drop 1) := by
    by_cases h1 : I.length ≤ 1
    ·exact Or.inl (List.drop_eq_nil_of_le h1)
    ·have ha1 := ha (by omega)
     subst ha1
     rcases HI.out with h0 | ⟨b', o', e, hlt, hc⟩
     ·rw [h0] at i2; simp at i2
     ·cases e
      refine Or.inr ⟨b, o + 7, rfl, Nat.lt_of_lt_of_le hlt hUV.size, fun i hi => ?_⟩
      have hi2 : i + 1 < I.length := by rw [List.length_drop] at hi; omega
      obtain ⟨cs, m1, m2, m3⟩ := hc (i + 1) hi2
      refine ⟨cs, m1, fun j hj => ?_, ?_⟩
      ·rw [hUV.cell (p := ⟨b, o + 7 + (i * 7 + j), none⟩) hlt (by simp), ← m2 j hj]
       congr 2; omega
      ·rw [List.getElem_drop]
       have : I[1 + i] = I[i + 1] := by congr 1; omega
       rw [this]
       exact In.mono hUV _ _ _ m3
   have hx := rcopies_in d (RCopy_in d) V a1 c1 (I.drop 1) hrw (Nat.le_trans (tszs_drop I 1) hzI)
   rw [List.length_drop] at hx
   refine hx.mono ?_
   rintro e w' ⟨g1, v, C, rfl, g2, g3, g4⟩
   rw [← List.length_drop] at g3 g4
   obtain ⟨a5, c5, rfl, _, _, _, g5⟩ := g2.row g4 g3
   exact ⟨_, rfl, g1, a5, c5, by rw [List.length_drop], g5⟩
  have HF2 : ∀ V, Upd [] w V → Calls Tryz.prog 67 #[.slice at' T.length ct] V fun e w' => ∃ u, e = .returned u ∧ Upd [] V w' ∧ RwS V.heap.size d w' T.length T u := fun V hUV => by
   refine (rcopies_in d (RCopy_in d) V at' ct T (HT.out.imp hUV (In.mono hUV d)) hzT).mono ?_
   rintro e w' ⟨g1, v, C, rfl, g2, g3, g4⟩
   obtain ⟨a6, c6, rfl, _, _, _, g5⟩ := g2.row g4 g3
   exact ⟨_, rfl, g1, a6, c6, rfl, g5⟩
  obtain ⟨fs, hdesc⟩ := term_desc
  refine region_res (by kernel_rfl) 12 rfl [some 43, some 44, some 45, some 46, some 47, some 48, some 49, some 50, some 51, none, none, some 4] rfl (by decide) rfl (by kernel_rfl) (SpS w.heap.size 9) (SpB w1.heap.size w3.heap.size d w (.slice (some ⟨b, o, none⟩) I.length ci) (.slice at' T.length ct) #[.int .u8 k3, .bool ng3, .slice aa3 na3 ca3, .string st3, .int .i64 nu3, .slice ab3 nb3 cb3, .slice ac3 nc3 cc3] t) (SpR w.heap.size w1.heap.size d (.slice (some ⟨b, o, none⟩) I.length ci) (.slice at' T.length ct) #[.int .u8 k3, .bool ng3, .slice aa3 na3 ca3, .string st3, .int .i64 nu3, .slice ab3 nb3 cb3, .slice ac3 nc3 cc3] b o I.length T.length (I.drop 1) T) (HB.step ((Upd.refl [] w4).drew)) (fun i j v w5 w6 hij hB h hu => SpR.stab hB.lt.1 i j v w5 w6 hij h hu) ?_ ?_
  ·intro D vs a' w5 i o' hA hB hR hS hi ho haf
   have hc : i = 0 ∨ i = 1 ∨ i = 2 ∨ i = 3 ∨ i = 4 ∨ i = 5 ∨ i = 6 ∨ i = 7 ∨ i = 8 ∨ i = 9 ∨ i = 10 ∨ i = 11 := by omega
   rcases hc with rfl | rfl | rfl | rfl | rfl | rfl | rfl | rfl | rfl | rfl | rfl | rfl <;> cases ho
   ·exact ops_wp rfl rfl (wp_load_row 26 (.tmp 5) rfl w3.heap.size (hA.ev 5 (by decide)) 26 _ (0, 0) _ hB.hx hdesc rfl (by rw [info_term]; rfl) ⟨_, rfl, hB, rfl, Upd.refl _ _⟩)
   ·exact ops_wp rfl rfl (wp_field5 (.tmp 1) rfl w.heap.size (hA.ev 1 (by decide)) ⟨_, rfl, hB, rfl, Upd.refl _ _⟩)
   ·have D1 := haf ⟨1, .data⟩ (by simp) rfl
    exact ops_wp rfl rfl (wp_loadS (.tmp 44) rfl _ _ ((hS 1 44 rfl D1).trans (hR 1 D1)) hB.x5 ⟨_, rfl, hB, rfl, Upd.refl _ _⟩)
   ·have D2 := haf ⟨2, .data⟩ (by simp) rfl
    exact ops_wp rfl rfl (wp_slice1 (.tmp 45) rfl b o I.length ci i2 hcap ((hS 2 45 rfl D2).trans (hR 2 D2)) fun a1 c1 ha => ⟨_, rfl, hB, ⟨a1, c1, rfl, ha⟩, Upd.refl _ _⟩)
   ·have D3 := haf ⟨3, .data⟩ (by simp) rfl
    obtain ⟨a1, c1, e3, ha⟩ := hR 3 D3
    refine ops_wp rfl rfl (wp_call' rfl Tryz.call67 ((hS 3 46 rfl D3).trans e3) (HF1 w5 a1 c1 hB.u ha) ?_)
    rintro u w6 ⟨hu, hr⟩
    refine ⟨_, rfl, hB.step hu, ?_, hu⟩
    obtain ⟨a5, c5, e5, hr⟩ := hr
    exact ⟨a5, c5, e5, RowB.upd (Upd.refl [] w6) (by simp) (fun g hg _ => by have := hB.lt; omega) hr⟩
   ·exact ops_wp rfl rfl (wp_field6 (.tmp 1) rfl w.heap.size (hA.ev 1 (by decide)) ⟨_, rfl, hB, rfl, Upd.refl _ _⟩)
   ·have D5 := haf ⟨5, .data⟩ (by simp) rfl
    exact ops_wp rfl rfl (wp_loadS (.tmp 48) rfl _ _ ((hS 5 48 rfl D5).trans (hR 5 D5)) hB.x6 ⟨_, rfl, hB, rfl, Upd.refl _ _⟩)
   ·have D6 := haf ⟨6, .data⟩ (by simp) rfl
    refine ops_wp rfl rfl (wp_call' rfl Tryz.call67 ((hS 6 49 rfl D6).trans (hR 6 D6)) (HF2 w5 hB.u) ?_)
    rintro u w6 ⟨hu, hr⟩
    refine ⟨_, rfl, hB.step hu, ?_, hu⟩
    obtain ⟨a5, c5, e5, hr⟩ := hr
    exact ⟨a5, c5, e5, RowB.upd (Upd.refl [] w6) (by simp) (fun g hg _ => by have := hB.lt; omega) hr⟩
   ·have D4 := haf ⟨4, .data⟩ (by simp) rfl
    have D7 := haf ⟨7, .data⟩ (by simp) rfl
    have r4 := hR 4 D4
    have r7 := hR 7 D7
    obtain ⟨a5, c5, e5, hr5⟩ := r4
    obtain ⟨a6, c6, e6, hr6⟩ := r7
    exact ops_wp rfl rfl (wp_build7 (.tmp 47) (.tmp 50) rfl _ _ _ _ _ _ ((hS 4 47 rfl D4).trans e5) ((hS 7 50 rfl D7).trans e6) ⟨_, rfl, hB, ⟨_, _, rfl, ⟨a5, c5, rfl, hr5⟩, ⟨a6, c6, rfl, hr6⟩⟩, Upd.refl _ _⟩)
   ·have D0 := haf ⟨0, .data⟩ (by simp) rfl
    obtain ⟨c1, z1, k1⟩ := hB.t1
    exact ops_wp rfl rfl (wp_store_row 26 (.tmp 2) (.tmp 43) rfl (w.heap.size + 1) #[.int .u8 k3, .bool ng3, .slice aa3 na3 ca3, .string st3, .int .i64 nu3, .slice ab3 nb3 cb3, .slice ac3 nc3 cc3] (hA.ev 2 (by decide)) ((hS 0 43 rfl D0).trans (hR 0 D0)) 26 c1 k1 (by rw [info_term]; rfl) z1 (by simp [Value.oneCell']) ⟨_, rfl, hB.put1 _ rfl, setRow_tb k1 _, setRow_upd _ _ _⟩)
   ·have D8 := haf ⟨8, .data⟩ (by simp) rfl
    obtain ⟨c1, z1, k1⟩ := hB.t2
    obtain ⟨u1, u2, e8, r1, r2⟩ := hR 8 D8
    obtain ⟨a5, c5, rfl, hr5⟩ := r1
    obtain ⟨a6, c6, rfl, hr6⟩ := r2
    have hu := setRow_upd w5 (w.heap.size + 1 + 1) #[.int .u8 7, .bool false, .slice none 0 0, .string ⟨#[]⟩, .int .i64 0, .slice a5 (I.length - 1) c5, .slice a6 T.length c6]
    have hlo := hB.lt.1
    exact ops_wp rfl rfl (wp_store_row 26 (.tmp 3) (.tmp 51) rfl (w.heap.size + 1 + 1) _ (hA.ev 3 (by decide)) ((hS 8 51 rfl D8).trans e8) 26 c1 k1 (by rw [info_term]; rfl) z1 (by simp [Value.oneCell']) ⟨_, rfl, hB.put2 _ rfl, ⟨_, _, setRow_tb k1 _, RwS.upd ⟨a5, c5, rfl, hr5⟩ hu (by simp; omega), RwS.upd ⟨a6, c6, rfl, hr6⟩ hu (by simp; omega)⟩, hu⟩)
   ·exact ops_wp rfl rfl (wp_assign _ rfl _ rfl ⟨_, rfl, hB, rfl, Upd.refl _ _⟩)
  ·intro vs w5 hv hB hR
   obtain ⟨v0, r0, rfl, hv0⟩ := list_cons hv
   obtain ⟨v1, r1, rfl, hv1⟩ := list_cons hv0
   obtain ⟨v2, r2, rfl, hv2⟩ := list_cons hv1
   obtain ⟨v3, r3, rfl, hv3⟩ := list_cons hv2
   obtain ⟨v4, r4, rfl, hv4⟩ := list_cons hv3
   obtain ⟨v5, r5, rfl, hv5⟩ := list_cons hv4
   obtain ⟨v6, r6, rfl, hv6⟩ := list_cons hv5
   obtain ⟨v7, r7, rfl, hv7⟩ := list_cons hv6
   obtain ⟨v8, r8, rfl, hv8⟩ := list_cons hv7
   obtain ⟨v9, r9, rfl, hv9⟩ := list_cons hv8
   obtain ⟨v10, r10, rfl, hv10⟩ := list_cons hv9
   obtain ⟨v11, r11, rfl, hv11⟩ := list_cons hv10
   have e11 : v11 = .bool true := hR 11 (by omega)
   have k9 : Tb w5 (w.heap.size + 1) _ := hR 9 (by omega)
   obtain ⟨u1, u2, k10, r1, r2⟩ := hR 10 (by omega)
   subst e11
   obtain ⟨a5, c5, rfl, hr5⟩ := r1
   obtain ⟨a6, c6, rfl, hr6⟩ := r2
   have HE : Hid (∃ cs cs' : List Value, cs.length = 7 ∧ cs'.length = 7 ∧ Ending.returned (.tuple #[.agg #[.int .u8 k3, .bool ng3, .slice aa3 na3 ca3, .string st3, .int .i64 nu3, .slice ab3 nb3 cb3, .slice ac3 nc3 cc3], .agg #[.int .u8 7, .bool false, .slice none 0 0, .string ⟨#[]⟩, .int .i64 0, .slice a5 (I.length - 1) c5, .slice a6 T.length c6], .bool true]) = .returned (.tuple #[.agg cs.toArray, .agg cs'.toArray, .bool true]) ∧ In w5 (d + 1) cs t ∧ In w5 (d + 1) cs' (.mk 7 0 false [] ⟨#[]⟩ (I.drop 1) T) ∧ Upd [] w w5) := by
    refine ⟨[.int .u8 k3, .bool ng3, .slice aa3 na3 ca3, .string st3, .int .i64 nu3, .slice ab3 nb3 cb3, .slice ac3 nc3 cc3], [.int .u8 7, .bool false, .slice none 0 0, .string ⟨#[]⟩, .int .i64 0, .slice a5 (I.length - 1) c5, .slice a6 T.length c6], rfl, rfl, rfl, In.more _ _ _ (InB.plain _ _ _ hB.ht), ?_, hB.u⟩
    exact ⟨none, a5, a6, 0, c5, c6, by rw [List.length_drop]; rfl, At.nil _ _, Dig.nil, hr5.plain, hr6.plain⟩
   clear hR hB hr5 hr6 HF1 HF2 HB HH4 HI HT
   simp only [putAll, Act.put, List.setIfInBounds_toArray, List.set_cons_succ, List.set_cons_zero]
   go_wp2_with fail
   exact ret_TTb Tryz.results27 rfl _ _ _ _ _ rfl k9 rfl rfl k10 rfl rfl HE.out
end Go.Proofs.YtalhbbabijlngaaGreatDoor
