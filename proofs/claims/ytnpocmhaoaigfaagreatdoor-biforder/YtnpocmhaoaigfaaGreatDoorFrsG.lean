/- fresh: the walk. -/
import Derived.Test.YtnpocmhaoaigfaaGreatDoorJAF
import Derived.Deep.LoopGhost
namespace Go.Proofs.YtnpocmhaoaigfaaGreatDoor
open Go.RowKit

set_option maxHeartbeats 4000000 in
set_option maxRecDepth 100000 in
theorem cloning_any (w : World) : Calls Tryz.prog 91 #[] w fun e w' => e = .returned (.func (.func 122) #[] #[.pointer (some ⟨w.heap.size, 0, none⟩), .pointer (some ⟨w.heap.size + 1, 0, none⟩)]) ∧ IntB w' w.heap.size 65536 ∧ Upd [] w w' := by
  have h1 : IntB (w.alloc (.cells #[.int .i64 65536] 3)) w.heap.size 65536 := IntB.new _ _ _ rfl
  have HB : Hid (IntB _ _ _) := h1
  clear h1
  go_enter Tryz.func91, Tryz.ntmps91
  go_wp2
  go_ret
  exact ⟨rfl, HB.out.mono ((Upd.refl [] _).alloc _) (by simp), ((Upd.refl [] w).alloc _).alloc _⟩

/-- The trees of rows, one behind the other; what is in them lies below B. -/
structure RowsT (B : Nat) (w : World) (d : Nat) (l : List RowV) (J : List Tm) : Prop where
  len : sumN l = J.length
  cells : ∀ i (hi : i < J.length), ∃ cs : List Value, cs.length = 7 ∧ (∀ j, j < 7 → (catX l)[i * 7 + j]? = cs[j]?) ∧ InB (fun b => b < B) w d cs J[i]

/-- What fresh is to answer. -/
def FreshP (B : Nat) (w : World) (d : Nat) (J : List Tm) (e : Ending) (w' : World) : Prop := ∃ a c, e = .returned (.slice a J.length c) ∧ RowT (B, w.heap.size) w' d a J ∧ Upd [] w w'

/-- And how much room the row has. -/
def FreshC (B : Nat) (w : World) (d : Nat) (J : List Tm) (e : Ending) (w' : World) : Prop := ∃ a c, e = .returned (.slice a J.length c) ∧ RowT (B, w.heap.size) w' d a J ∧ Upd [] w w' ∧ J.length ≤ c ∧ c ≤ 9223372036854775807
theorem FreshC.p {B : Nat} {w : World} {d : Nat} {J : List Tm} {e : Ending} {w' : World} (h : FreshC B w d J e w') : FreshP B w d J e w' := by
  obtain ⟨a, c, h1, h2, h3, _⟩ := h
  exact ⟨a, c, h1, h2, h3⟩

theorem ownsRow_take {w : World} {base : Nat} {T : TypeId} {a : Option Addr} {c : Nat} {ys : List Value} {y : Value} (h : w.ownsRow base T 1 (.slice a (ys ++ [y]).length c) (ys ++ [y]).length (ys ++ [y])) : w.ownsRow base T 1 (.slice a ys.length c) ys.length ys ∧ ∃ g, a = some ⟨g, 0, none⟩ ∧ (ys ++ [y]).length ≤ c ∧ w.cell? ⟨g, ys.length, none⟩ = some y := by
  have h' := h
  obtain ⟨h0, ⟨_, h1⟩ | ⟨g, cap, cur, e, hb, hh, hc1, hc2, hcs, htk⟩⟩ := h
  · simp at h1
  · cases e
    refine ⟨⟨by simp, Or.inr ⟨g, c, cur, rfl, hb, hh, by simp at hc1; omega, hc2, hcs, ?_⟩⟩, g, rfl, hc1, ?_⟩
    · have : (cur.toList.take ((ys ++ [y]).length * 1)).take (ys.length * 1) = ys := by rw [htk]; simp
      rw [List.take_take, Nat.min_eq_left (by simp)] at this
      exact this
    · rw [World.ownsRow.cellAt h' ys.length (by simp)]
      simp

set_option maxHeartbeats 2000000 in
set_option maxRecDepth 100000 in
theorem fresh_anyC (B b o m c d : Nat) (l : List RowV) (J : List Tm) (w : World) (hm : m = l.length) (h : RowsAt w b o l) (hT : RowsT B w d l J) (hBw : B ≤ w.heap.size) (hl : l.length ≤ 1000) (hn : J.length ≤ 65536) (hbel : belR J ≤ 65536) (hsz : tszs J ≤ 1353245080330) :
    Calls Tryz.prog 50 #[.slice (some ⟨b, o, none⟩) m c] w (FreshC B w d J) := by
  subst hm
  have hlen := hT.len
  have HC : Hid (Calls Tryz.prog 90 #[.slice (some ⟨b, o, none⟩) l.length c] w fun e w' => ∃ v, e = .returned v ∧ Own w' w.heap.size 26 7 J.length v (catX l) ∧ Upd [] w w') := by
    rw [← hlen]; exact Concat_any b o _ c l w rfl h hl (by omega)
  have HT : Hid (RowsT B w d l J) := hT
  have HB : Hid (belR J ≤ 65536) := hbel
  have HSZ : Hid (tszs J ≤ 1353245080330) := hsz
  clear h hT hbel hlen hsz
  go_enter Tryz.func50, Tryz.ntmps50
  go_wp2_with fail
  refine Calls.mono HC.out ?_
  rintro e w1 ⟨v, rfl, ⟨hO, a', c', rfl⟩, hU1⟩
  have HO : Hid (w1.ownsRow w.heap.size 26 7 (.slice a' J.length c') J.length (catX l)) := hO
  have HU1 : Hid (Upd [] w w1) := hU1
  have HCAP : Hid (J.length ≤ c' ∧ c' ≤ 9223372036854775807) := by
    obtain ⟨_, ⟨e, h1⟩ | ⟨g, cap, cur, e, hb, hh, hc1, hc2, hcs, htk⟩⟩ := id hO
    · injection e with _ e1 e2; exact ⟨by omega, by omega⟩
    · cases e; unfold maxLen at hc2; exact ⟨hc1, by omega⟩
  clear hO hU1 HC
  go_wp2_with (go_at_call 91; refine Calls.mono (cloning_any _) ?_; rintro e w2 ⟨rfl, hB2, hU2⟩)
  have hs1 := HU1.out.size
  have hsA : ((w1.alloc (.cells #[.slice a' J.length c'] 24)).alloc (.cells #[.slice (some ⟨w1.heap.size, 0, none⟩) 1 1] 98)).heap.size = w1.heap.size + 1 + 1 := by simp
  rw [hsA] at hB2
  have hsB : w1.heap.size + 1 + 1 < w2.heap.size := hB2.lt
  have hUa : Upd [] w1 ((w1.alloc (.cells #[.slice a' J.length c'] 24)).alloc (.cells #[.slice (some ⟨w1.heap.size, 0, none⟩) 1 1] 98)) := ((Upd.refl [] w1).alloc _).alloc _
  have hUb : Upd [] w2 (w2.alloc (.cells #[.func (.func 122) #[] #[.pointer (some ⟨w1.heap.size + 1 + 1, 0, none⟩), .pointer (some ⟨w1.heap.size + 1 + 1 + 1, 0, none⟩)]] 99)) := (Upd.refl [] w2).alloc _
  have hUc := hU2.trans hUb
  have hSt : St B w d (w1.heap.size + 1) (w1.heap.size + 1 + 1) w2.heap.size (w1.heap.size + 1 + 1 + 1) a' J (.slice (some ⟨w1.heap.size, 0, none⟩) 1 1) [.slice a' J.length c'] [J] 65536 (w2.alloc (.cells #[.func (.func 122) #[] #[.pointer (some ⟨w1.heap.size + 1 + 1, 0, none⟩), .pointer (some ⟨w1.heap.size + 1 + 1 + 1, 0, none⟩)]] 99)) := by
    have hUw : Upd [] w1 (w2.alloc (.cells #[.func (.func 122) #[] #[.pointer (some ⟨w1.heap.size + 1 + 1, 0, none⟩), .pointer (some ⟨w1.heap.size + 1 + 1 + 1, 0, none⟩)]] 99)) := hUa.trans hUc
    have hU0 := HU1.out.trans hUw
    have hO := own_upd HO.out hUw (by simp)
    have hTd : TodoOk (B, w.heap.size) d (w2.alloc (.cells #[.func (.func 122) #[] #[.pointer (some ⟨w1.heap.size + 1 + 1, 0, none⟩), .pointer (some ⟨w1.heap.size + 1 + 1 + 1, 0, none⟩)]] 99)) (.slice a' J.length c') J := by
      refine ⟨HSZ.out, a', c', rfl, ?_, ?_⟩
      · by_cases h0 : J = []
        · exact Or.inl h0
        have hpos : 0 < J.length := by cases J with | nil => exact absurd rfl h0 | cons x t => simp
        obtain ⟨g, c2, e, hb, hty, hlt, hc⟩ := own_ty (base := (B, w.heap.size)) hO (Or.inl rfl) hpos (Nat.le_refl _)
        cases e
        refine Or.inr ⟨g, 0, rfl, hty, hlt, fun i hi => ?_⟩
        obtain ⟨cs, k1, k2, k3⟩ := HT.out.cells i hi
        exact ⟨cs, k1, fun j hj => by rw [Nat.zero_add, hc _ (by omega)]; exact k2 j hj, InB.upd hU0 (by simp) (fun b hb _ => Or.inl hb) _ _ _ k3⟩
      · by_cases h0 : J = []
        · exact Or.inl h0
        have hpos : 0 < J.length := by cases J with | nil => exact absurd rfl h0 | cons x t => simp
        obtain ⟨_, ⟨_, h1⟩ | ⟨g, cap, cur, e, hbg, hh, hc1, _, hcs, _⟩⟩ := hO
        · omega
        · cases e
          exact Or.inr ⟨g, cur, rfl, hbg, hh, by rw [hcs]; exact Nat.mul_le_mul_right 7 hc1⟩
    obtain ⟨_, _, _, e, hRow, _⟩ := id hTd
    cases e
    refine ⟨hU0, hRow, ?_, ?_, ⟨hTd, trivial⟩, hB2.mono hUb (by simp), FunB.new _ _ _ _ rfl, by omega, by omega, Nat.le_refl _, by simp, hBw⟩
    · exact (FunB.new (w1.alloc (.cells #[.slice a' J.length c'] 24)) _ _ (w1.heap.size + 1) (by simp)).mono hUc (by simp)
    · have h1 : (w1.alloc (.cells #[.slice a' J.length c'] 24)).ownsRow w.heap.size 24 1 (.slice (some ⟨w1.heap.size, 0, none⟩) 1 1) 1 [.slice a' J.length c'] := ⟨rfl, Or.inr ⟨w1.heap.size, 1, _, rfl, hs1, heap_alloc_new w1 _, Nat.le_refl _, by unfold maxLen; omega, rfl, rfl⟩⟩
      exact own_upd (own_upd h1 ((Upd.refl [] _).alloc _) (by simp)) hUc (by simp)
  have HST : Hid (St B w d (w1.heap.size + 1) (w1.heap.size + 1 + 1) w2.heap.size (w1.heap.size + 1 + 1 + 1) a' J (.slice (some ⟨w1.heap.size, 0, none⟩) 1 1) [.slice a' J.length c'] [J] 65536 (w2.alloc (.cells #[.func (.func 122) #[] #[.pointer (some ⟨w1.heap.size + 1 + 1, 0, none⟩), .pointer (some ⟨w1.heap.size + 1 + 1 + 1, 0, none⟩)]] 99))) := hSt
  clear hSt hUc hUb hUa hB2 hU2 hsA HO HU1
  obtain ⟨gt, hgt⟩ : ∃ gt, gt = w1.heap.size + 1 := ⟨_, rfl⟩
  obtain ⟨gl, hgl⟩ : ∃ gl, gl = w1.heap.size + 1 + 1 := ⟨_, rfl⟩
  obtain ⟨gc, hgc⟩ : ∃ gc, gc = w2.heap.size := ⟨_, rfl⟩
  rw [← hgl, ← hgt, ← hgc] at HST
  rw [← hgl, ← hgt, ← hgc]
  clear hgt hgl hgc
  go_loopg [7] (1 + masR J) (fun n r wr => ∃ tv ys Ls lf, masS Ls ≤ n ∧ belS Ls ≤ lf ∧ St B w d gt gl gc (gl + 1) a' J tv ys Ls lf wr)
  case atStart => exact ⟨_, _, _, _, by simp [masS], by simp [belS]; exact HB.out, HST.out⟩
  case round =>
    obtain ⟨tv, ys, Ls, lf, hmas, hbel, hSt⟩ := hrel
    by_cases hy0 : 0 < ys.length
    · obtain ⟨ys0, y, Ls0, I, rfl, rfl, hrows, hy⟩ := hSt.rows.pop hy0
      obtain ⟨at0, ct0, htv⟩ := own_form hSt.own
      subst htv
      obtain ⟨hown0, g0, rfl, hcap, hcell⟩ := ownsRow_take hSt.own
      obtain ⟨hzI, ya, yc, rfl, _⟩ := id hy
      have hfew := hSt.few
      have yt : wr.cell? ⟨gt, 0, none⟩ = some (.slice (some ⟨g0, 0, none⟩) (ys0 ++ [Value.slice ya I.length yc]).length ct0) := hSt.box.cell
      have zt : wr.frozen? ⟨gt, 0, none⟩ = false := hSt.box.free
      rw [masS_snoc] at hmas
      rw [belS_snoc] at hbel
      have hlen2 : (ys0 ++ [Value.slice ya I.length yc]).length = ys0.length + 1 := by simp
      rw [hlen2] at yt hcap hfew
      have hcap2 : ct0 ≤ 9223372036854775807 := by
        obtain ⟨_, ⟨e, _⟩ | ⟨g, cap, cur, e, _, _, _, hm, _⟩⟩ := hown0
        · cases e
        · cases e; unfold maxLen at hm; omega
      -- the box is turned to what is left
      have hSt2 : St B w d gt gl gc (gl + 1) a' J (.slice (some ⟨g0, 0, none⟩) ys0.length ct0) ys0 Ls0 lf (wr.setCell ⟨gt, 0, none⟩ (.slice (some ⟨g0, 0, none⟩) ys0.length ct0)) ∧ TodoOk (B, w.heap.size) d (wr.setCell ⟨gt, 0, none⟩ (.slice (some ⟨g0, 0, none⟩) ys0.length ct0)) (.slice ya I.length yc) I := by
        have hu : Upd [gt] wr (wr.setCell ⟨gt, 0, none⟩ (.slice (some ⟨g0, 0, none⟩) ys0.length ct0)) := (Upd.refl [gt] wr).setCell (Or.inr (by simp)) _
        have k : Keep (B, w.heap.size) wr (wr.setCell ⟨gt, 0, none⟩ (.slice (some ⟨g0, 0, none⟩) ys0.length ct0)) := Keep.upd hu (fun x hx => hSt.turns x (by simp at hx; subst hx; simp))
        refine ⟨⟨hSt.upd.setCell (Or.inl hSt.gt0) _, k.rowT hSt.out, hSt.box.set _, own_upd hown0 hu (fun x hx hm => ?_), hrows.keep k, hSt.left.mono hu (fun hm => ?_), hSt.fn.mono hu (fun hm => ?_), hSt.gt0, hSt.gl0, hSt.max, by omega, hSt.low⟩, hy.keep k⟩
        · simp at hm; subst hm; exact own_ne hown0 hSt.box (by decide) hx
        · simp at hm; exact (hSt.left.fun.ne hSt.box (by decide)) hm
        · simp at hm; exact (hSt.fn.ne hSt.box (by decide)) hm
      have HS2 : Hid _ := hSt2
      have HM : Hid (masS Ls0 + (1 + masR I) ≤ gk) := hmas
      have HBl : Hid (belS Ls0 + belR I ≤ lf) := hbel
      have n1 : (0 : Int) < ((ys0.length + 1 : Nat) : Int) := by omega
      clear hSt2 hmas hbel hSt hrows hy hown0 hy0 HST
      have hIl : I.length ≤ 1353245080330 := Nat.le_trans (tszs_len I) hzI
      go_wp2
      go_loopw [31] (fun i wr => ∃ (k : Nat) (tv : Value) (ys : List Value) (Ls : List (List Tm)) (lf : Nat), k ≤ I.length ∧ i = .int .i64 k ∧ St B w d gt gl gc (gl + 1) a' J tv ys Ls lf wr ∧ TodoOk (B, w.heap.size) d wr (.slice ya I.length yc) I ∧ belS Ls + belR (I.drop k) ≤ lf ∧ masS Ls + k ≤ masS Ls0 + masR (I.take k)) (fun i _ => I.length - (intOf i).toNat)
      case atStart => exact ⟨0, _, _, _, _, Nat.zero_le _, rfl, HS2.out.1, HS2.out.2, by simpa using HBl.out, by simp⟩
      case round =>
        obtain ⟨k, tv, ys, Ls, lf2, hk, rfl, hSt, hy, hbel, hmas⟩ := hrel
        by_cases hlt : k < I.length
        · have i1 : (k : Int) < (I.length : Int) := by omega
          obtain ⟨⟨kd, num, neg, L, s, I', T'⟩, ht⟩ : ∃ t, I[k] = t := ⟨_, rfl⟩
          have hszk := tszs_get I k hlt
          rw [ht] at hszk
          simp only [tsz] at hszk
          have zL : L.length ≤ 35184372088800 := by omega
          have zI : tszs I' ≤ 1353245080330 := by omega
          have zT : tszs T' ≤ 1353245080330 := by omega
          have hbd := belR_drop I k hlt
          have hmt := masR_take I k hlt
          rw [ht, belT] at hbd
          rw [ht, masT] at hmt
          obtain ⟨g, cg, cur, al, ai, at', cl, ci, ct, hye, hbg, hh, hsz, c2, c5, c6, hA, hRi, hRt⟩ := hy.open hlt ht
          cases hye
          have HST3 : Hid (St B w d gt gl gc (gl + 1) a' J tv ys Ls lf2 _) := hSt
          have HY3 : Hid (TodoOk (B, w.heap.size) d _ _ I) := hy
          have HCU : Hid _ := CloneU_any al L.length cl _ _ hA.rd zL
          have HA3 : Hid _ := hA
          have HH3 : Hid _ := hh
          have HNUM : Hid (belS Ls + belR (I.drop k) ≤ lf2 ∧ masS Ls + k ≤ masS Ls0 + masR (I.take k) ∧ belR (I.drop k) = I'.length + belR I' + (T'.length + belR T') + belR (I.drop (k + 1)) ∧ masR (I.take (k + 1)) = masR (I.take k) + (3 + masR I' + masR T')) := ⟨hbel, hmas, hbd, hmt⟩
          have HTK : Hid (I[k] = _) := ht
          have HZZ : Hid (tszs I' ≤ 1353245080330 ∧ tszs T' ≤ 1353245080330) := ⟨zI, zT⟩
          clear hSt hy hA hh hbel hmas hbd hmt hRi hRt c5 c6 ht hszk zI zT
          go_wp2_with fail
          refine Calls.mono HCU.out ?_
          rintro e w3 ⟨v3, rfl, ⟨hO3, a3, k3, hv3⟩, hU3⟩
          subst hv3
          have hSy := HST3.out.limbs HY3.out HH3.out hbg c2 HA3.out hU3 hO3
          have hlt3 := lt_of_block HH3.out
          have hh3 := (hU3.block g hlt3 (by simp)).trans HH3.out
          have x2 : w3.cell? ⟨g, k * 7 + 2, none⟩ = some (.slice al L.length cl) := (hU3.cell (p := ⟨g, k * 7 + 2, none⟩) hlt3 (by simp)).trans c2
          have f2 : w3.frozen? ⟨g, k * 7 + 2, none⟩ = false := frozen_of_row w3 g _ _ _ hh3
          obtain ⟨hSt4, hy4⟩ := hSy
          obtain ⟨g4, cg4, cur4, al4, ai4, at4, cl4, ci4, ct4, e4, hb4, hh4, hsz4, d2, d5, d6, hA4, hRi4, hRt4⟩ := hy4.open hlt HTK.out
          simp only [Value.slice.injEq, Option.some.injEq, Addr.mk.injEq, true_and, and_true] at e4
          obtain ⟨rfl, rfl⟩ := e4
          obtain ⟨xs4, hx4⟩ := hRi4.rd
          obtain ⟨nb, nm, nd, nt⟩ := HNUM.out
          have hf4 := hSt4.few
          have hl4 : I'.length ≤ lf2 := by omega
          have HIN4 : Hid (Calls Tryz.prog 92 #[.slice ai4 I'.length ci4, .pointer (some ⟨gc, 0, none⟩), .pointer (some ⟨gt, 0, none⟩)] (w3.setCell ⟨g, k * 7 + 2, none⟩ (.slice a3 L.length k3)) (InsP (w3.setCell ⟨g, k * 7 + 2, none⟩ (.slice a3 L.length k3)) gl gt lf2 w.heap.size I'.length xs4 ys tv)) :=
            inside_any ai4 I'.length ci4 gl (gl + 1) gc gt lf2 w.heap.size xs4 ys tv _ hx4 (hRi4.far hSt4.left.fun (Nat.le_trans hSt4.low hSt4.gl0) (by decide) (by decide)) hSt4.left hl4 hSt4.max hSt4.fn hSt4.box hSt4.own (by omega) hSt4.upd.size
          have HIT : Hid (∀ e w2, InsP (w3.setCell ⟨g, k * 7 + 2, none⟩ (.slice a3 L.length k3)) gl gt lf2 w.heap.size I'.length xs4 ys tv e w2 → _) := fun e w2 hin => hSt4.items hy4 hh4 hb4 (by omega) d5 hRi4 hx4 hl4 HZZ.out.1 hin
          clear hSt4 hy4 hh4 hA4 hRi4 hRt4 hx4 d2 d6 hsz4 hf4 nb nm nd nt hO3 hU3 hh3 hl4
          go_wp2_with fail
          refine Calls.mono HIN4.out ?_
          intro e w5 hin5
          obtain ⟨a5, k5, tv5, ys5, Ls5, rfl, p5, f5, hSt5, hy5, hbel5, hmas5⟩ := HIT.out e w5 hin5
          obtain ⟨g6, cg6, cur6, al6, ai6, at6, cl6, ci6, ct6, e6, hb6, hh6, hsz6, e2, e5, e6', hA6, hRi6, hRt6⟩ := hy5.open hlt HTK.out
          simp only [Value.slice.injEq, Option.some.injEq, Addr.mk.injEq, true_and, and_true] at e6
          obtain ⟨rfl, rfl⟩ := e6
          obtain ⟨xs6, hx6⟩ := hRt6.rd
          obtain ⟨nb, nm, nd, nt⟩ := HNUM.out
          have hf6 := hSt5.few
          have hl6 : T'.length ≤ lf2 - I'.length := by omega
          have HIN6 : Hid (Calls Tryz.prog 92 #[.slice at6 T'.length ct6, .pointer (some ⟨gc, 0, none⟩), .pointer (some ⟨gt, 0, none⟩)] (w5.setCell ⟨g, k * 7 + 5, none⟩ (.slice a5 I'.length k5)) (InsP (w5.setCell ⟨g, k * 7 + 5, none⟩ (.slice a5 I'.length k5)) gl gt (lf2 - I'.length) w.heap.size T'.length xs6 ys5 tv5)) :=
            inside_any at6 T'.length ct6 gl (gl + 1) gc gt (lf2 - I'.length) w.heap.size xs6 ys5 tv5 _ hx6 (hRt6.far hSt5.left.fun (Nat.le_trans hSt5.low hSt5.gl0) (by decide) (by decide)) hSt5.left hl6 hSt5.max hSt5.fn hSt5.box hSt5.own (by omega) hSt5.upd.size
          have HIT6 : Hid (∀ e w2, InsP (w5.setCell ⟨g, k * 7 + 5, none⟩ (.slice a5 I'.length k5)) gl gt (lf2 - I'.length) w.heap.size T'.length xs6 ys5 tv5 e w2 → _) := fun e w2 hin => hSt5.items hy5 hh6 hb6 (by omega) e6' hRt6 hx6 hl6 HZZ.out.2 hin
          have HN5 : Hid (belS Ls5 ≤ belS Ls + belR I' ∧ masS Ls5 ≤ masS Ls + (1 + masR I')) := ⟨hbel5, hmas5⟩
          clear hSt5 hy5 hh6 hA6 hRi6 hRt6 hx6 e2 e5 hsz6 hf6 nb nm nd nt hin5 hbel5 hmas5 hl6 HIT HIN4
          go_wp2_with fail
          refine Calls.mono HIN6.out ?_
          intro e w7 hin7
          obtain ⟨a7, k7, tv7, ys7, Ls7, rfl, p7, f7, hSt7, hy7, hbel7, hmas7⟩ := HIT6.out e w7 hin7
          have HS7 : Hid (St B w d gt gl gc (gl + 1) a' J tv7 ys7 Ls7 _ _) := hSt7
          have HY7 : Hid (TodoOk _ _ _ _ _) := hy7
          have HN7 : Hid (belS Ls7 ≤ belS Ls5 + belR T' ∧ masS Ls7 ≤ masS Ls5 + (1 + masR T')) := ⟨hbel7, hmas7⟩
          clear hSt7 hy7 hbel7 hmas7 hin7 HIT6 HIN6
          go_wp2
          go_roundw
          case rel =>
            obtain ⟨nb, nm, nd, nt⟩ := HNUM.out
            obtain ⟨n5, m5⟩ := HN5.out
            obtain ⟨n7, m7⟩ := HN7.out
            exact ⟨k + 1, tv7, ys7, Ls7, _, by omega, by go_num, HS7.out, HY7.out, by omega, by omega⟩
          case measure => simp [intOf]; omega
        · have hd : decide ((k : Int) < (I.length : Int)) = false := by simp; omega
          have HS3 : Hid (St B w d gt gl gc (gl + 1) a' J tv ys Ls lf2 _) := hSt
          have he : I.drop k = [] := List.drop_of_length_le (by omega)
          have he2 : I.take k = I := List.take_of_length_le (by omega)
          have HN : Hid (belS Ls ≤ lf2 ∧ masS Ls < gk) := by
            rw [he2] at hmas
            have := HM.out
            exact ⟨by omega, by omega⟩
          clear hSt hy hbel hmas he he2
          go_wp2
          go_roundg (masS Ls)
          case measure => exact HN.out.2
          case rel => exact ⟨tv, ys, Ls, lf2, Nat.le_refl _, HN.out.1, HS3.out⟩
    · have h0 : ys.length = 0 := by omega
      obtain ⟨at0, ct0, htv⟩ := own_form hSt.own
      subst htv
      have yt : wr.cell? ⟨gt, 0, none⟩ = some (.slice at0 0 ct0) := by have := hSt.box.cell; rw [h0] at this; exact this
      have HS3 : Hid (St B w d gt gl gc (gl + 1) a' J _ ys Ls lf wr) := hSt
      clear hSt h0 hy0 HST hmas hbel
      go_wp2
      go_ret
      exact ⟨a', c', rfl, HS3.out.out, HS3.out.upd, HCAP.out⟩

theorem fresh_any (B b o m c d : Nat) (l : List RowV) (J : List Tm) (w : World) (hm : m = l.length) (h : RowsAt w b o l) (hT : RowsT B w d l J) (hBw : B ≤ w.heap.size) (hl : l.length ≤ 1000) (hn : J.length ≤ 65536) (hbel : belR J ≤ 65536) (hsz : tszs J ≤ 1353245080330) :
    Calls Tryz.prog 50 #[.slice (some ⟨b, o, none⟩) m c] w (FreshP B w d J) := (fresh_anyC B b o m c d l J w hm h hT hBw hl hn hbel hsz).mono fun _ _ h => h.p

end Go.Proofs.YtnpocmhaoaigfaaGreatDoor
