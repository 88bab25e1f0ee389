/- fresh: its answer's rows lie apart. -/
import Derived.Test.YtnpocmhaoaigfaaGreatDoorFrsG
import Derived.Test.YtnpocmhaoaigfaaGreatDoorJAJ
import Derived.Deep.LoopGhost
namespace Go.Proofs.YtnpocmhaoaigfaaGreatDoor
open Go.RowKit

/-- The places that are still to be gone through: all of these rows', and from there on of one. -/
def WS (ys : List Value) (o : Option (Nat × Nat)) (g p : Nat) : Prop := (∃ y, y ∈ ys ∧ y.ownBlock = some g) ∨ ∃ q, o = some (g, q) ∧ q ≤ p
/-- A row of terms in a block of its own. -/
def Rw (wr : World) (y : Value) : Prop := ∀ g l c, y = .slice (some ⟨g, 0, none⟩) l c → l ≤ c ∧ c ≤ maxLen ∧ ∃ cur, wr.heap[g]? = some (.cells cur 26 (0, 0)) ∧ cur.size = c * 7
structure SqT (lo : Nat) (zs ys : List Value) (o : Option (Nat × Nat)) (wr : World) : Prop where
  ex : ∃ NR par bd, Sq lo bd NR par (WS ys o) wr ∧ (∀ g n, NR g n → ∃ cur, wr.heap[g]? = some (.cells cur 26 (0, 0))) ∧ ∀ y g l c, y ∈ zs ++ ys → y = .slice (some ⟨g, 0, none⟩) l c → NR g l
  rw : ∀ y, y ∈ zs → Rw wr y
  sh : ∀ y, y ∈ ys → ∀ a n c, y = .slice (some a) n c → ∃ g, a = ⟨g, 0, none⟩
def oK (ya : Option Addr) (k : Nat) : Option (Nat × Nat) := ya.map fun a => (a.block, k)
theorem SqT.keep {lo : Nat} {zs ys : List Value} {o : Option (Nat × Nat)} {w w' : World} (h : SqT lo zs ys o w) (k : KeepR w w') : SqT lo zs ys o w' := by
  obtain ⟨⟨NR, par, bd, h1, h2, h3⟩, h4, h6⟩ := h
  refine ⟨⟨NR, par, bd, h1.keep h2 k, fun g n hg => ?_, h3⟩, fun y hy g l c e => ?_, h6⟩
  · obtain ⟨cur, hc⟩ := h2 g n hg
    exact ⟨cur, k.blk g cur _ hc (Or.inl rfl)⟩
  · obtain ⟨a1, a2, cur, a3, a4⟩ := h4 y hy g l c e
    exact ⟨a1, a2, cur, k.blk g cur _ a3 (Or.inl rfl), a4⟩
theorem SqT.next {lo : Nat} {zs ys : List Value} {g p p' : Nat} {w : World} (h : SqT lo zs ys (some (g, p)) w) (hp : ∀ q, p ≤ q → (q % 7 = 2 ∨ q % 7 = 5 ∨ q % 7 = 6) → p' ≤ q) : SqT lo zs ys (some (g, p')) w := by
  obtain ⟨⟨NR, par, bd, h1, h2, h3⟩, h4, h6⟩ := h
  refine ⟨⟨NR, par, bd, h1.less (fun x n q _ _ hm hW => ?_), h2, h3⟩, h4, h6⟩
  rcases hW with hW | ⟨q', e, hq⟩
  · exact Or.inl hW
  · simp only [Option.some.injEq, Prod.mk.injEq] at e
    obtain ⟨rfl, rfl⟩ := e
    exact Or.inr ⟨p', rfl, hp q hq hm⟩
theorem SqT.pop {lo : Nat} {zs ys : List Value} {ya : Option Addr} {n c : Nat} {w : World} (h : SqT lo zs (ys ++ [.slice ya n c]) none w) : ∃ NR par bd, Sq lo bd NR par (WS ys (oK ya 0)) w ∧ (∀ g n, NR g n → ∃ cur, w.heap[g]? = some (.cells cur 26 (0, 0))) ∧ (∀ y g l c, y ∈ zs ++ ys → y = .slice (some ⟨g, 0, none⟩) l c → NR g l) ∧ ∀ g, ya = some ⟨g, 0, none⟩ → NR g n := by
  obtain ⟨⟨NR, par, bd, h1, h2, h3⟩, _, _⟩ := h
  have hs : Sq lo bd NR par (WS ys (oK ya 0)) w := h1.less (fun x m q _ _ _ hW => by
    rcases hW with ⟨y, hy, e⟩ | ⟨q', e, _⟩
    · rcases List.mem_append.1 hy with hy | hy
      · exact Or.inl ⟨y, hy, e⟩
      · simp at hy
        subst hy
        refine Or.inr ⟨0, ?_, Nat.zero_le _⟩
        cases ya with
        | none => cases e
        | some a => simp only [Value.ownBlock, Option.some.injEq] at e; simp [oK, e]
    · cases e)
  have h3' : ∀ y g l c, y ∈ zs ++ ys → y = .slice (some ⟨g, 0, none⟩) l c → NR g l := fun y g l c hy e => h3 y g l c (by
    rcases List.mem_append.1 hy with hy | hy
    · simp [hy]
    · simp [hy]) e
  exact ⟨NR, par, bd, hs, h2, h3', fun g e => h3 (.slice ya n c) g n c (List.mem_append.2 (Or.inr (List.mem_append.2 (Or.inr (List.mem_singleton.2 rfl))))) (by rw [e])⟩
/-- The row that is gone through. -/
structure SqC (lo : Nat) (zs ys : List Value) (ya : Option Addr) (n p : Nat) (wr : World) : Prop where
  ex : ∃ NR par bd, Sq lo bd NR par (WS ys (oK ya p)) wr ∧ (∀ g m, NR g m → ∃ cur, wr.heap[g]? = some (.cells cur 26 (0, 0))) ∧ (∀ y g l c, y ∈ zs ++ ys → y = .slice (some ⟨g, 0, none⟩) l c → NR g l) ∧ ∀ g, ya = some ⟨g, 0, none⟩ → NR g n
  rw : ∀ y, y ∈ zs → Rw wr y
  sh : ∀ y, y ∈ ys → ∀ a n c, y = .slice (some a) n c → ∃ g, a = ⟨g, 0, none⟩
theorem SqC.keep {lo : Nat} {zs ys : List Value} {ya : Option Addr} {n p : Nat} {w w' : World} (h : SqC lo zs ys ya n p w) (k : KeepR w w') : SqC lo zs ys ya n p w' := by
  obtain ⟨⟨NR, par, bd, h1, h2, h3, h5⟩, h4, h6⟩ := h
  refine ⟨⟨NR, par, bd, h1.keep h2 k, fun g n hg => ?_, h3, h5⟩, fun y hy g l c e => ?_, h6⟩
  · obtain ⟨cur, hc⟩ := h2 g n hg
    exact ⟨cur, k.blk g cur _ hc (Or.inl rfl)⟩
  · obtain ⟨a1, a2, cur, a3, a4⟩ := h4 y hy g l c e
    exact ⟨a1, a2, cur, k.blk g cur _ a3 (Or.inl rfl), a4⟩
theorem SqC.next {lo : Nat} {zs ys : List Value} {ya : Option Addr} {n p p' : Nat} {w : World} (h : SqC lo zs ys ya n p w) (hp : ∀ q, p ≤ q → (q % 7 = 2 ∨ q % 7 = 5 ∨ q % 7 = 6) → p' ≤ q) : SqC lo zs ys ya n p' w := by
  obtain ⟨⟨NR, par, bd, h1, h2, h3, h5⟩, h4, h6⟩ := h
  refine ⟨⟨NR, par, bd, h1.less (fun x m q _ _ hm hW => ?_), h2, h3, h5⟩, h4, h6⟩
  rcases hW with hW | ⟨q', e, hq⟩
  · exact Or.inl hW
  · cases ya with
    | none => cases e
    | some a =>
      simp only [oK, Option.map_some, Option.some.injEq, Prod.mk.injEq] at e
      obtain ⟨e1, rfl⟩ := e
      exact Or.inr ⟨p', by simp [oK, e1], hp q hq hm⟩
theorem SqC.done {lo : Nat} {zs ys : List Value} {ya : Option Addr} {n : Nat} {w : World} (h : SqC lo zs ys ya n (n * 7) w) (hy : ∀ a, ya = some a → ∃ g, a = ⟨g, 0, none⟩) : SqT lo zs ys none w := by
  obtain ⟨⟨NR, par, bd, h1, h2, h3, h5⟩, h4, h6⟩ := h
  refine ⟨⟨NR, par, bd, h1.less (fun x m q hx hq _ hW => ?_), h2, h3⟩, h4, h6⟩
  rcases hW with hW | ⟨q', e, hq'⟩
  · exact Or.inl hW
  · cases ya with
    | none => cases e
    | some a =>
      obtain ⟨g, rfl⟩ := hy a rfl
      simp only [oK, Option.map_some, Option.some.injEq, Prod.mk.injEq] at e
      obtain ⟨rfl, rfl⟩ := e
      have := h1.one g m n hx (h5 g rfl)
      subst this
      omega
/-- A clone is put into its place. -/
theorem SqC.put {lo : Nat} {zs ys ys' : List Value} {g n p m T sz : Nat} {v : Value} {cur : Array Value} {xs : List Value} {w0 w : World} (h : SqC lo zs ys (some ⟨g, 0, none⟩) n p w0) (k : KeepR w0 w)
    (hg : w0.heap[g]? = some (.cells cur 26 (0, 0))) (hp : (w.cell? ⟨g, p, none⟩).isSome = true) (hlo : lo ≤ w0.heap.size)
    (ho : w.ownsRow w0.heap.size T sz v m xs) (hT : (p % 7 = 2 ∧ T = 61 ∧ sz = 1) ∨ (p % 7 ≠ 2 ∧ T = 26 ∧ sz = 7))
    (hys : ys' = if p % 7 ≠ 2 ∧ 0 < m then ys ++ [v] else ys) : SqC lo zs ys' (some ⟨g, 0, none⟩) n (p + 1) (w.setCell ⟨g, p, none⟩ v) := by
  obtain ⟨⟨NR, par, bd, h1, h2, h3, h5⟩, h4, h6⟩ := h
  have hg2 := k.blk g cur _ hg (Or.inl rfl)
  have hsub : ∀ y, y ∈ ys → y ∈ ys' := fun y hy => by
    rw [hys]; split
    · exact List.mem_append.2 (Or.inl hy)
    · exact hy
  have hin : ∀ y, y ∈ ys' → y ∈ ys ∨ (y = v ∧ p % 7 ≠ 2) := fun y hy => by
    rw [hys] at hy
    split at hy
    · rename_i hc
      rcases List.mem_append.1 hy with h | h
      · exact Or.inl h
      · exact Or.inr ⟨by simpa using h, hc.1⟩
    · exact Or.inl hy
  have hcs : ∀ (x : Nat) (cu : Array Value) (T' : TypeId), w.heap[x]? = some (.cells cu T' (0, 0)) → ∃ cu', (w.setCell ⟨g, p, none⟩ v).heap[x]? = some (.cells cu' T' (0, 0)) ∧ cu'.size = cu.size := fun x cu T' hx => by
    by_cases hxg : x = g
    · subst hxg
      rw [hg2] at hx
      simp at hx
      obtain ⟨rfl, rfl⟩ := hx
      exact ⟨_, heap_setCell_same w x p _ _ _ hg2, by simp⟩
    · exact ⟨cu, (heap_setCell_other _ _ _ _ (fun e => hxg e)).trans hx, rfl⟩
  obtain ⟨NR', par', n1, n2, n3, hS⟩ := Sq.put (W' := WS ys' (oK (some ⟨g, 0, none⟩) (p + 1))) (h1.keep h2 k) hg2 hp (lt_of_block hg) hlo h1.bdw ho hT (fun x q hW hne => by
    rcases hW with ⟨y, hy, e⟩ | ⟨q', e, hq⟩
    · exact Or.inl ⟨y, hsub y hy, e⟩
    · simp only [oK, Option.map_some, Option.some.injEq, Prod.mk.injEq] at e
      obtain ⟨rfl, rfl⟩ := e
      exact Or.inr ⟨p + 1, rfl, by
        have : q ≠ p := fun e => hne ⟨rfl, e⟩
        omega⟩) (fun hp2 hm x q e => Or.inl ⟨v, by rw [hys, if_pos ⟨hp2, hm⟩]; simp, e⟩)
  refine ⟨⟨NR', par', _, hS, fun x m' hx => ?_, fun y x l c hy e => ?_, fun x e => n1 x n (h5 x e)⟩, fun y hy x l c e => ?_, fun y hy a l c e => ?_⟩
  · rcases n2 x m' hx with hx | ⟨hp2, hv, _⟩
    · obtain ⟨cu, hc⟩ := h2 x m' hx
      obtain ⟨cu', hc', _⟩ := hcs x cu _ (k.blk x cu _ hc (Or.inl rfl))
      exact ⟨cu', hc'⟩
    · rcases hT with ⟨h, _⟩ | ⟨_, rfl, _⟩
      · exact absurd h hp2
      obtain ⟨_, ⟨rfl, _⟩ | ⟨gv, cap, cu, rfl, _, hh, _⟩⟩ := ho
      · cases hv
      · simp only [Value.ownBlock, Option.some.injEq] at hv
        subst hv
        obtain ⟨cu', hc', _⟩ := hcs _ _ _ hh
        exact ⟨cu', hc'⟩
  · rcases List.mem_append.1 hy with hy | hy
    · exact n1 x l (h3 y x l c (List.mem_append.2 (Or.inl hy)) e)
    · rcases hin y hy with hy | ⟨rfl, hp2⟩
      · exact n1 x l (h3 y x l c (List.mem_append.2 (Or.inr hy)) e)
      · have hl : l = m := by
          obtain ⟨a, c', e2⟩ := own_form ho
          rw [e2] at e
          simp only [Value.slice.injEq] at e
          exact e.2.1.symm
        rw [hl]
        exact n3 x hp2 (by rw [e]; rfl)
  · obtain ⟨a1, a2, cu, a3, a4⟩ := h4 y hy x l c e
    obtain ⟨cu', hc', hs'⟩ := hcs x cu _ (k.blk x cu _ a3 (Or.inl rfl))
    exact ⟨a1, a2, cu', hc', hs'.trans a4⟩
  · rcases hin y hy with hy | ⟨rfl, _⟩
    · exact h6 y hy a l c e
    · obtain ⟨_, ⟨rfl, _⟩ | ⟨gv, cap, cu, rfl, _⟩⟩ := ho
      · cases e
      · cases e; exact ⟨gv, rfl⟩
theorem if_ys {p m : Nat} {ys : List Value} {v : Value} (hp : p % 7 ≠ 2) : (if 0 < m then ys ++ [v] else ys) = if p % 7 ≠ 2 ∧ 0 < m then ys ++ [v] else ys := by
  by_cases h : 0 < m <;> simp [h, hp]
/-- Items cloned and put in place: what has been put. -/
theorem St.itemsS {B : Nat} {w : World} {d gt gl gc gm : Nat} {ao : Option Addr} {J : List Tm} {tv : Value} {ys : List Value} {Ls : List (List Tm)} {lf g i : Nat} {a : Option Addr} {c : Nat} {I' : List Tm} {cur : Array Value} {wr w2 : World} {y : Value} {I : List Tm} {xs : List Value} {e : Ending} (h : St B w d gt gl gc gm ao J tv ys Ls lf wr) (hy : TodoOk (B, w.heap.size) d wr y I)
    (hg : wr.heap[g]? = some (.cells cur 26 (0, 0))) (hb : w.heap.size ≤ g) (_hi : i < cur.size) (hp : wr.cell? ⟨g, i, none⟩ = some (.slice a I'.length c)) (hR : RowT (B, w.heap.size) wr d a I') (hx : Rd wr a I'.length 7 xs) (hlf : I'.length ≤ lf) (hz : tszs I' ≤ 1353245080330) (hin : InsP wr gl gt lf w.heap.size I'.length xs ys tv e w2) :
    ∃ (a' : Option Addr) (c' : Nat) (tv' : Value) (ys' : List Value) (Ls' : List (List Tm)), e = .returned (.slice a' I'.length c') ∧ w2.cell? ⟨g, i, none⟩ = some (.slice a I'.length c) ∧ w2.frozen? ⟨g, i, none⟩ = false ∧
      St B w d gt gl gc gm ao J tv' ys' Ls' (lf - I'.length) (w2.setCell ⟨g, i, none⟩ (.slice a' I'.length c')) ∧ TodoOk (B, w.heap.size) d (w2.setCell ⟨g, i, none⟩ (.slice a' I'.length c')) y I ∧ belS Ls' ≤ belS Ls + belR I' ∧ masS Ls' ≤ masS Ls + (1 + masR I') ∧
      ys' = (if 0 < I'.length then ys ++ [.slice a' I'.length c'] else ys) ∧ w2.ownsRow wr.heap.size 26 7 (.slice a' I'.length c') I'.length xs ∧ KeepR wr w2 := by
  obtain ⟨v, tv', ys', Ls', a', c', he, hv, ho, hSt, k, hys⟩ := h.ins hR hx hlf hz hin
  subst hv
  obtain ⟨_, _, _, _, _, _, _, hu⟩ := hin
  have hlt := lt_of_block hg
  have hgS : g ∉ [gl, gt] ++ tv.ownBlock.toList := fun hm => by
    obtain ⟨_, cur', T, fr, hh, h3, _⟩ := h.turns g hm
    rw [hh] at hg
    simp at hg
    exact h3 hg.2.1
  have hg2 := (hu.block g hlt hgS).trans hg
  have hp2 := (hu.cell (p := ⟨g, i, none⟩) hlt hgS).trans hp
  obtain ⟨t1, t2⟩ := Ty.upd (base := (B, w.heap.size)) hu h.turns
  have hx2 : Rd w2 a I'.length 7 xs := hx.upd hu (fun ad ea h0 => by
    rcases hR with h | ⟨b, o, rfl, hty, _, _⟩
    · rw [h] at h0; exact absurd rfl h0
    · cases ea; exact t1 b hty)
  have k2 := Keep.items (c' := c') (a' := a') hg2 hp2 (k.rowT hR) hx2 ho hlt h.upd.size
  refine ⟨a', c', tv', ys', Ls', he, hp2, frozen_of_row w2 g i _ _ hg2, hSt.set hg2 hb k2, (hy.keep k).keep k2, ?_, ?_, ?_, ho, KeepR.upd hu (fun x hx => (h.turns x hx).2)⟩
  · by_cases h0 : 0 < I'.length
    · rw [if_pos h0] at hys; rw [(Prod.mk.inj hys).2, belS_snoc]; exact Nat.le_refl _
    · rw [if_neg h0] at hys; rw [(Prod.mk.inj hys).2]; omega
  · by_cases h0 : 0 < I'.length
    · rw [if_pos h0] at hys; rw [(Prod.mk.inj hys).2, masS_snoc]; exact Nat.le_refl _
    · rw [if_neg h0] at hys; rw [(Prod.mk.inj hys).2]; omega
  · by_cases h0 : 0 < I'.length
    · rw [if_pos h0] at hys ⊢; exact (Prod.mk.inj hys).1
    · rw [if_neg h0] at hys ⊢; exact (Prod.mk.inj hys).1

/-- What fresh is to answer: its rows lie apart. -/
def FreshS (B : Nat) (w : World) (d : Nat) (J : List Tm) (e : Ending) (w' : World) : Prop := ∃ a c, e = .returned (.slice a J.length c) ∧ RowT (B, w.heap.size) w' d a J ∧ Upd [] w w' ∧ J.length ≤ c ∧ c ≤ 9223372036854775807 ∧ ∃ LB RB, RowBT 0 (BT 0 w' d) w' (.slice a J.length c) J LB RB ∧ Apt LB RB ∧ ∀ x, x ∈ KB LB RB → w.heap.size ≤ x
theorem SqT.end {lo d : Nat} {P : Nat → Prop} {zs : List Value} {a : Option Addr} {c : Nat} {J : List Tm} {w : World} (h : SqT lo zs [] none w) (hz : .slice a J.length c ∈ zs) (ha : ∀ ad, a = some ad → ∃ g, ad = ⟨g, 0, none⟩ ∧ lo ≤ g) (h0 : a = none → J = [] ∧ c = 0) (hR : RowB P (InB P w d) w a J) : ∃ LB RB, RowBT 0 (BT 0 w d) w (.slice a J.length c) J LB RB ∧ Apt LB RB ∧ ∀ x, x ∈ KB LB RB → lo ≤ x := by
  obtain ⟨⟨NR, par, bd, h1, h2, h3⟩, h4, _⟩ := h
  cases a with
  | none =>
    obtain ⟨rfl, rfl⟩ := h0 rfl
    refine ⟨[], [.slice none 0 0], ⟨fun _ => [], fun _ => [], rfl, rfl, ⟨Or.inl ⟨rfl, rfl⟩, Or.inl rfl⟩, fun i hi => by simp at hi⟩, ⟨by simp [bks], by simp [bks, Value.ownBlock], by simp [bks]⟩, fun x hx => ?_⟩
    simp [KB, bks, Value.ownBlock] at hx
  | some ad =>
    obtain ⟨g, rfl, hg⟩ := ha ad rfl
    have hf : Sq lo bd NR par (fun _ _ => False) w := h1.less (fun x m q _ _ _ hW => by
      rcases hW with ⟨y, hy, _⟩ | ⟨q', e, _⟩
      · simp at hy
      · cases e)
    obtain ⟨a1, a2, cur, a3, a4⟩ := h4 _ hz g J.length c rfl
    have hG : RowG w 7 (.slice (some ⟨g, 0, none⟩) J.length c) J.length := by
      refine Or.inr ⟨g, c, rfl, lt_of_block a3, a1, a2, fun j hj => ⟨?_, frozen_of_row _ _ _ _ _ a3⟩⟩
      rw [cell_of_row _ _ _ _ _ _ a3, Array.getElem?_eq_getElem (by omega)]; rfl
    obtain ⟨LB, RB, b1, b2, b3⟩ := hf.row d g c J (fun _ => h3 _ g J.length c (List.mem_append.2 (Or.inl hz)) rfl) hG hR
    refine ⟨LB, RB, b1, b2, fun x hx => ?_⟩
    rcases b3 x hx with rfl | ⟨p, hp⟩
    · exact hg
    · have := hp.lt; simp only at this; omega

set_option maxHeartbeats 2000000 in
set_option maxRecDepth 100000 in
theorem fresh_anyS (B b o m c d : Nat) (l : List RowV) (J : List Tm) (w : World) (hm : m = l.length) (h : RowsAt w b o l) (hT : RowsT B w d l J) (hBw : B ≤ w.heap.size) (hl : l.length ≤ 1000) (hn : J.length ≤ 65536) (hbel : belR J ≤ 65536) (hsz : tszs J ≤ 1353245080330) :
    Calls Tryz.prog 50 #[.slice (some ⟨b, o, none⟩) m c] w (FreshS B w d J) := by
  subst hm
  have hlen := hT.len
  have HC : Hid (Calls Tryz.prog 90 #[.slice (some ⟨b, o, none⟩) l.length c] w fun e w' => ∃ v, e = .returned v ∧ Own w' w.heap.size 26 7 J.length v (catX l) ∧ Upd [] w w') := by
    rw [← hlen]; exact Concat_any b o _ c l w rfl h hl (by omega)
  have HT : Hid (RowsT B w d l J) := hT
  have HB : Hid (belR J ≤ 65536) := hbel
  have HSZ : Hid (tszs J ≤ 1353245080330) := hsz
  clear h hT hbel hlen hsz
  go_enter Tryz.func50, Tryz.ntmps50
  go_wp2_with fail
  refine Calls.mono HC.out ?_
  rintro e w1 ⟨v, rfl, ⟨hO, a', c', rfl⟩, hU1⟩
  have HO : Hid (w1.ownsRow w.heap.size 26 7 (.slice a' J.length c') J.length (catX l)) := hO
  have HU1 : Hid (Upd [] w w1) := hU1
  have HCAP : Hid (J.length ≤ c' ∧ c' ≤ 9223372036854775807) := by
    obtain ⟨_, ⟨e, h1⟩ | ⟨g, cap, cur, e, hb, hh, hc1, hc2, hcs, htk⟩⟩ := id hO
    · injection e with _ e1 e2; exact ⟨by omega, by omega⟩
    · cases e; unfold maxLen at hc2; exact ⟨hc1, by omega⟩
  have HRW : Hid (Rw w1 (.slice a' J.length c') ∧ (∀ ad, a' = some ad → ∃ g, ad = ⟨g, 0, none⟩ ∧ w.heap.size ≤ g) ∧ (a' = none → J = [] ∧ c' = 0)) := by
    obtain ⟨_, ⟨e, h1⟩ | ⟨g, cap, cur, e, hb, hh, hc1, hc2, hcs, htk⟩⟩ := id hO
    · injection e with e0 e1 e2
      refine ⟨fun g l c e => ?_, fun ad h => ?_, fun _ => ⟨List.eq_nil_of_length_eq_zero h1, e2⟩⟩
      · rw [e0] at e; cases e
      · rw [e0] at h; cases h
    · cases e
      refine ⟨fun g l c e => ?_, fun ad h => ⟨g, by cases h; rfl, hb⟩, fun h => by cases h⟩
      simp only [Value.slice.injEq, Option.some.injEq, Addr.mk.injEq, and_true] at e
      obtain ⟨rfl, rfl, rfl⟩ := e
      exact ⟨hc1, hc2, cur, hh, hcs⟩
  clear hO hU1 HC
  go_wp2_with (go_at_call 91; refine Calls.mono (cloning_any _) ?_; rintro e w2 ⟨rfl, hB2, hU2⟩)
  have hs1 := HU1.out.size
  have hsA : ((w1.alloc (.cells #[.slice a' J.length c'] 24)).alloc (.cells #[.slice (some ⟨w1.heap.size, 0, none⟩) 1 1] 98)).heap.size = w1.heap.size + 1 + 1 := by simp
  rw [hsA] at hB2
  have hsB : w1.heap.size + 1 + 1 < w2.heap.size := hB2.lt
  have hUa : Upd [] w1 ((w1.alloc (.cells #[.slice a' J.length c'] 24)).alloc (.cells #[.slice (some ⟨w1.heap.size, 0, none⟩) 1 1] 98)) := ((Upd.refl [] w1).alloc _).alloc _
  have hUb : Upd [] w2 (w2.alloc (.cells #[.func (.func 122) #[] #[.pointer (some ⟨w1.heap.size + 1 + 1, 0, none⟩), .pointer (some ⟨w1.heap.size + 1 + 1 + 1, 0, none⟩)]] 99)) := (Upd.refl [] w2).alloc _
  have hUc := hU2.trans hUb
  have hSt : St B w d (w1.heap.size + 1) (w1.heap.size + 1 + 1) w2.heap.size (w1.heap.size + 1 + 1 + 1) a' J (.slice (some ⟨w1.heap.size, 0, none⟩) 1 1) [.slice a' J.length c'] [J] 65536 (w2.alloc (.cells #[.func (.func 122) #[] #[.pointer (some ⟨w1.heap.size + 1 + 1, 0, none⟩), .pointer (some ⟨w1.heap.size + 1 + 1 + 1, 0, none⟩)]] 99)) := by
    have hUw : Upd [] w1 (w2.alloc (.cells #[.func (.func 122) #[] #[.pointer (some ⟨w1.heap.size + 1 + 1, 0, none⟩), .pointer (some ⟨w1.heap.size + 1 + 1 + 1, 0, none⟩)]] 99)) := hUa.trans hUc
    have hU0 := HU1.out.trans hUw
    have hO := own_upd HO.out hUw (by simp)
    have hTd : TodoOk (B, w.heap.size) d (w2.alloc (.cells #[.func (.func 122) #[] #[.pointer (some ⟨w1.heap.size + 1 + 1, 0, none⟩), .pointer (some ⟨w1.heap.size + 1 + 1 + 1, 0, none⟩)]] 99)) (.slice a' J.length c') J := by
      refine ⟨HSZ.out, a', c', rfl, ?_, ?_⟩
      · by_cases h0 : J = []
        · exact Or.inl h0
        have hpos : 0 < J.length := by cases J with | nil => exact absurd rfl h0 | cons x t => simp
        obtain ⟨g, c2, e, hb, hty, hlt, hc⟩ := own_ty (base := (B, w.heap.size)) hO (Or.inl rfl) hpos (Nat.le_refl _)
        cases e
        refine Or.inr ⟨g, 0, rfl, hty, hlt, fun i hi => ?_⟩
        obtain ⟨cs, k1, k2, k3⟩ := HT.out.cells i hi
        exact ⟨cs, k1, fun j hj => by rw [Nat.zero_add, hc _ (by omega)]; exact k2 j hj, InB.upd hU0 (by simp) (fun b hb _ => Or.inl hb) _ _ _ k3⟩
      · by_cases h0 : J = []
        · exact Or.inl h0
        have hpos : 0 < J.length := by cases J with | nil => exact absurd rfl h0 | cons x t => simp
        obtain ⟨_, ⟨_, h1⟩ | ⟨g, cap, cur, e, hbg, hh, hc1, _, hcs, _⟩⟩ := hO
        · omega
        · cases e
          exact Or.inr ⟨g, cur, rfl, hbg, hh, by rw [hcs]; exact Nat.mul_le_mul_right 7 hc1⟩
    obtain ⟨_, _, _, e, hRow, _⟩ := id hTd
    cases e
    refine ⟨hU0, hRow, ?_, ?_, ⟨hTd, trivial⟩, hB2.mono hUb (by simp), FunB.new _ _ _ _ rfl, by omega, by omega, Nat.le_refl _, by simp, hBw⟩
    · exact (FunB.new (w1.alloc (.cells #[.slice a' J.length c'] 24)) _ _ (w1.heap.size + 1) (by simp)).mono hUc (by simp)
    · have h1 : (w1.alloc (.cells #[.slice a' J.length c'] 24)).ownsRow w.heap.size 24 1 (.slice (some ⟨w1.heap.size, 0, none⟩) 1 1) 1 [.slice a' J.length c'] := ⟨rfl, Or.inr ⟨w1.heap.size, 1, _, rfl, hs1, heap_alloc_new w1 _, Nat.le_refl _, by unfold maxLen; omega, rfl, rfl⟩⟩
      exact own_upd (own_upd h1 ((Upd.refl [] _).alloc _) (by simp)) hUc (by simp)
  have HST : Hid (St B w d (w1.heap.size + 1) (w1.heap.size + 1 + 1) w2.heap.size (w1.heap.size + 1 + 1 + 1) a' J (.slice (some ⟨w1.heap.size, 0, none⟩) 1 1) [.slice a' J.length c'] [J] 65536 (w2.alloc (.cells #[.func (.func 122) #[] #[.pointer (some ⟨w1.heap.size + 1 + 1, 0, none⟩), .pointer (some ⟨w1.heap.size + 1 + 1 + 1, 0, none⟩)]] 99))) := hSt
  have HSQ : Hid (SqT w.heap.size [.slice a' J.length c'] [.slice a' J.length c'] none (w2.alloc (.cells #[.func (.func 122) #[] #[.pointer (some ⟨w1.heap.size + 1 + 1, 0, none⟩), .pointer (some ⟨w1.heap.size + 1 + 1 + 1, 0, none⟩)]] 99))) := by
    have k : KeepR w1 (w2.alloc (.cells #[.func (.func 122) #[] #[.pointer (some ⟨w1.heap.size + 1 + 1, 0, none⟩), .pointer (some ⟨w1.heap.size + 1 + 1 + 1, 0, none⟩)]] 99)) := KeepR.new (hUa.trans hUc)
    refine SqT.keep (w := w1) ⟨⟨fun x m => (Value.slice a' J.length c').ownBlock = some x ∧ m = J.length, fun _ => (0, 0), w1.heap.size, ⟨fun g n m h1 h2 => h1.2.trans h2.2.symm, Nat.le_refl _, fun g n h => ?_, fun g n p h _ _ => Or.inl (Or.inl ⟨_, by simp, h.1⟩)⟩, fun g n h => ?_, fun y g l c hy e => ?_⟩, fun y hy => by simp at hy; subst hy; exact HRW.out.1, fun y hy a n c e => by
      simp at hy
      subst hy
      simp only [Value.slice.injEq] at e
      obtain ⟨g, hg, _⟩ := HRW.out.2.1 a e.1
      exact ⟨g, hg⟩⟩ k
    · obtain ⟨ad, hda⟩ : ∃ ad, a' = some ad := by
        cases a' with
        | none => cases h.1
        | some ad => exact ⟨ad, rfl⟩
      obtain ⟨g', rfl, hl⟩ := HRW.out.2.1 ad hda
      subst hda
      have e : g' = g := by simpa [Value.ownBlock] using h.1
      subst e
      obtain ⟨_, _, cur, hc, _⟩ := HRW.out.1 g' _ _ rfl
      exact ⟨hl, lt_of_block hc⟩
    · obtain ⟨ad, hda⟩ : ∃ ad, a' = some ad := by
        cases a' with
        | none => cases h.1
        | some ad => exact ⟨ad, rfl⟩
      obtain ⟨g', rfl, hl⟩ := HRW.out.2.1 ad hda
      subst hda
      have e : g' = g := by simpa [Value.ownBlock] using h.1
      subst e
      obtain ⟨_, _, cur, hc, _⟩ := HRW.out.1 g' _ _ rfl
      exact ⟨cur, hc⟩
    · simp at hy
      subst hy
      simp only [Value.slice.injEq] at e
      obtain ⟨rfl, rfl, rfl⟩ := e
      exact ⟨rfl, rfl⟩
  clear hSt hUc hUb hUa hB2 hU2 hsA HO HU1
  obtain ⟨gt, hgt⟩ : ∃ gt, gt = w1.heap.size + 1 := ⟨_, rfl⟩
  obtain ⟨gl, hgl⟩ : ∃ gl, gl = w1.heap.size + 1 + 1 := ⟨_, rfl⟩
  obtain ⟨gc, hgc⟩ : ∃ gc, gc = w2.heap.size := ⟨_, rfl⟩
  rw [← hgl, ← hgt, ← hgc] at HST
  rw [← hgl] at HSQ
  rw [← hgl, ← hgt, ← hgc]
  clear hgt hgl hgc
  go_loopg [7] (1 + masR J) (fun n r wr => ∃ tv ys Ls lf, masS Ls ≤ n ∧ belS Ls ≤ lf ∧ St B w d gt gl gc (gl + 1) a' J tv ys Ls lf wr ∧ SqT w.heap.size [.slice a' J.length c'] ys none wr)
  case atStart => exact ⟨_, _, _, _, by simp [masS], by simp [belS]; exact HB.out, HST.out, HSQ.out⟩
  case round =>
    obtain ⟨tv, ys, Ls, lf, hmas, hbel, hSt, hSq⟩ := hrel
    clear HSQ
    by_cases hy0 : 0 < ys.length
    · obtain ⟨ys0, y, Ls0, I, rfl, rfl, hrows, hy⟩ := hSt.rows.pop hy0
      obtain ⟨at0, ct0, htv⟩ := own_form hSt.own
      subst htv
      obtain ⟨hown0, g0, rfl, hcap, hcell⟩ := ownsRow_take hSt.own
      obtain ⟨hzI, ya, yc, rfl, _⟩ := id hy
      have hfew := hSt.few
      have yt : wr.cell? ⟨gt, 0, none⟩ = some (.slice (some ⟨g0, 0, none⟩) (ys0 ++ [Value.slice ya I.length yc]).length ct0) := hSt.box.cell
      have zt : wr.frozen? ⟨gt, 0, none⟩ = false := hSt.box.free
      rw [masS_snoc] at hmas
      rw [belS_snoc] at hbel
      have hlen2 : (ys0 ++ [Value.slice ya I.length yc]).length = ys0.length + 1 := by simp
      rw [hlen2] at yt hcap hfew
      have hcap2 : ct0 ≤ 9223372036854775807 := by
        obtain ⟨_, ⟨e, _⟩ | ⟨g, cap, cur, e, _, _, _, hm, _⟩⟩ := hown0
        · cases e
        · cases e; unfold maxLen at hm; omega
      -- the box is turned to what is left
      have hSt2 : St B w d gt gl gc (gl + 1) a' J (.slice (some ⟨g0, 0, none⟩) ys0.length ct0) ys0 Ls0 lf (wr.setCell ⟨gt, 0, none⟩ (.slice (some ⟨g0, 0, none⟩) ys0.length ct0)) ∧ TodoOk (B, w.heap.size) d (wr.setCell ⟨gt, 0, none⟩ (.slice (some ⟨g0, 0, none⟩) ys0.length ct0)) (.slice ya I.length yc) I := by
        have hu : Upd [gt] wr (wr.setCell ⟨gt, 0, none⟩ (.slice (some ⟨g0, 0, none⟩) ys0.length ct0)) := (Upd.refl [gt] wr).setCell (Or.inr (by simp)) _
        have k : Keep (B, w.heap.size) wr (wr.setCell ⟨gt, 0, none⟩ (.slice (some ⟨g0, 0, none⟩) ys0.length ct0)) := Keep.upd hu (fun x hx => hSt.turns x (by simp at hx; subst hx; simp))
        refine ⟨⟨hSt.upd.setCell (Or.inl hSt.gt0) _, k.rowT hSt.out, hSt.box.set _, own_upd hown0 hu (fun x hx hm => ?_), hrows.keep k, hSt.left.mono hu (fun hm => ?_), hSt.fn.mono hu (fun hm => ?_), hSt.gt0, hSt.gl0, hSt.max, by omega, hSt.low⟩, hy.keep k⟩
        · simp at hm; subst hm; exact own_ne hown0 hSt.box (by decide) hx
        · simp at hm; exact (hSt.left.fun.ne hSt.box (by decide)) hm
        · simp at hm; exact (hSt.fn.ne hSt.box (by decide)) hm
      have HSC2 : Hid (SqC w.heap.size [.slice a' J.length c'] ys0 ya I.length 0 (wr.setCell ⟨gt, 0, none⟩ (.slice (some ⟨g0, 0, none⟩) ys0.length ct0))) := by
        have hu : Upd [gt] wr (wr.setCell ⟨gt, 0, none⟩ (.slice (some ⟨g0, 0, none⟩) ys0.length ct0)) := (Upd.refl [gt] wr).setCell (Or.inr (by simp)) _
        exact SqC.keep ⟨hSq.pop, hSq.rw, fun y hy => hSq.sh y (List.mem_append.2 (Or.inl hy))⟩ (KeepR.upd hu (fun x hx => (hSt.turns x (by simp at hx; subst hx; simp)).2))
      have HYA : Hid (∀ a, ya = some a → ∃ g, a = ⟨g, 0, none⟩) := fun a ha => hSq.sh (.slice ya I.length yc) (by simp) a I.length yc (by rw [ha])
      clear hSq
      have HS2 : Hid _ := hSt2
      have HM : Hid (masS Ls0 + (1 + masR I) ≤ gk) := hmas
      have HBl : Hid (belS Ls0 + belR I ≤ lf) := hbel
      have n1 : (0 : Int) < ((ys0.length + 1 : Nat) : Int) := by omega
      clear hSt2 hmas hbel hSt hrows hy hown0 hy0 HST
      have hIl : I.length ≤ 1353245080330 := Nat.le_trans (tszs_len I) hzI
      go_wp2
      go_loopw [31] (fun i wr => ∃ (k : Nat) (tv : Value) (ys : List Value) (Ls : List (List Tm)) (lf : Nat), k ≤ I.length ∧ i = .int .i64 k ∧ St B w d gt gl gc (gl + 1) a' J tv ys Ls lf wr ∧ TodoOk (B, w.heap.size) d wr (.slice ya I.length yc) I ∧ belS Ls + belR (I.drop k) ≤ lf ∧ masS Ls + k ≤ masS Ls0 + masR (I.take k) ∧ SqC w.heap.size [.slice a' J.length c'] ys ya I.length (k * 7) wr) (fun i _ => I.length - (intOf i).toNat)
      case atStart => exact ⟨0, _, _, _, _, Nat.zero_le _, rfl, HS2.out.1, HS2.out.2, by simpa using HBl.out, by simp, HSC2.out⟩
      case round =>
        obtain ⟨k, tv, ys, Ls, lf2, hk, rfl, hSt, hy, hbel, hmas, hSc⟩ := hrel
        clear HSC2
        by_cases hlt : k < I.length
        · have i1 : (k : Int) < (I.length : Int) := by omega
          obtain ⟨⟨kd, num, neg, L, s, I', T'⟩, ht⟩ : ∃ t, I[k] = t := ⟨_, rfl⟩
          have hszk := tszs_get I k hlt
          rw [ht] at hszk
          simp only [tsz] at hszk
          have zL : L.length ≤ 35184372088800 := by omega
          have zI : tszs I' ≤ 1353245080330 := by omega
          have zT : tszs T' ≤ 1353245080330 := by omega
          have hbd := belR_drop I k hlt
          have hmt := masR_take I k hlt
          rw [ht, belT] at hbd
          rw [ht, masT] at hmt
          obtain ⟨g, cg, cur, al, ai, at', cl, ci, ct, hye, hbg, hh, hsz, c2, c5, c6, hA, hRi, hRt⟩ := hy.open hlt ht
          cases hye
          have HST3 : Hid (St B w d gt gl gc (gl + 1) a' J tv ys Ls lf2 _) := hSt
          have HY3 : Hid (TodoOk (B, w.heap.size) d _ _ I) := hy
          have HSC : Hid (SqC w.heap.size [.slice a' J.length c'] ys (some ⟨g, 0, none⟩) I.length (k * 7) _) := hSc
          have HCU : Hid _ := CloneU_any al L.length cl _ _ hA.rd zL
          have HA3 : Hid _ := hA
          have HH3 : Hid _ := hh
          have HNUM : Hid (belS Ls + belR (I.drop k) ≤ lf2 ∧ masS Ls + k ≤ masS Ls0 + masR (I.take k) ∧ belR (I.drop k) = I'.length + belR I' + (T'.length + belR T') + belR (I.drop (k + 1)) ∧ masR (I.take (k + 1)) = masR (I.take k) + (3 + masR I' + masR T')) := ⟨hbel, hmas, hbd, hmt⟩
          have HTK : Hid (I[k] = _) := ht
          have HZZ : Hid (tszs I' ≤ 1353245080330 ∧ tszs T' ≤ 1353245080330) := ⟨zI, zT⟩
          clear hSt hy hA hh hbel hmas hbd hmt hRi hRt c5 c6 ht hszk zI zT hSc
          go_wp2_with fail
          refine Calls.mono HCU.out ?_
          rintro e w3 ⟨v3, rfl, ⟨hO3, a3, k3, hv3⟩, hU3⟩
          subst hv3
          have hSy := HST3.out.limbs HY3.out HH3.out hbg c2 HA3.out hU3 hO3
          have HSC3 : Hid (SqC w.heap.size [.slice a' J.length c'] ys (some ⟨g, 0, none⟩) I.length (k * 7 + 5) (w3.setCell ⟨g, k * 7 + 2, none⟩ (.slice a3 L.length k3))) :=
            ((HSC.out.next (p' := k * 7 + 2) (fun q hq hm => by omega)).put (ys' := ys) (KeepR.new hU3) HH3.out (by rw [(hU3.cell (p := ⟨g, k * 7 + 2, none⟩) (lt_of_block HH3.out) (by simp)).trans c2]; rfl) HST3.out.upd.size hO3 (Or.inl ⟨by omega, rfl, rfl⟩) (by rw [if_neg (by omega)])).next (fun q hq hm => by omega)
          have hlt3 := lt_of_block HH3.out
          have hh3 := (hU3.block g hlt3 (by simp)).trans HH3.out
          have x2 : w3.cell? ⟨g, k * 7 + 2, none⟩ = some (.slice al L.length cl) := (hU3.cell (p := ⟨g, k * 7 + 2, none⟩) hlt3 (by simp)).trans c2
          have f2 : w3.frozen? ⟨g, k * 7 + 2, none⟩ = false := frozen_of_row w3 g _ _ _ hh3
          obtain ⟨hSt4, hy4⟩ := hSy
          obtain ⟨g4, cg4, cur4, al4, ai4, at4, cl4, ci4, ct4, e4, hb4, hh4, hsz4, d2, d5, d6, hA4, hRi4, hRt4⟩ := hy4.open hlt HTK.out
          simp only [Value.slice.injEq, Option.some.injEq, Addr.mk.injEq, true_and, and_true] at e4
          obtain ⟨rfl, rfl⟩ := e4
          obtain ⟨xs4, hx4⟩ := hRi4.rd
          obtain ⟨nb, nm, nd, nt⟩ := HNUM.out
          have hf4 := hSt4.few
          have hl4 : I'.length ≤ lf2 := by omega
          have HIN4 : Hid (Calls Tryz.prog 92 #[.slice ai4 I'.length ci4, .pointer (some ⟨gc, 0, none⟩), .pointer (some ⟨gt, 0, none⟩)] (w3.setCell ⟨g, k * 7 + 2, none⟩ (.slice a3 L.length k3)) (InsP (w3.setCell ⟨g, k * 7 + 2, none⟩ (.slice a3 L.length k3)) gl gt lf2 w.heap.size I'.length xs4 ys tv)) :=
            inside_any ai4 I'.length ci4 gl (gl + 1) gc gt lf2 w.heap.size xs4 ys tv _ hx4 (hRi4.far hSt4.left.fun (Nat.le_trans hSt4.low hSt4.gl0) (by decide) (by decide)) hSt4.left hl4 hSt4.max hSt4.fn hSt4.box hSt4.own (by omega) hSt4.upd.size
          have HIT : Hid (∀ e w2, InsP (w3.setCell ⟨g, k * 7 + 2, none⟩ (.slice a3 L.length k3)) gl gt lf2 w.heap.size I'.length xs4 ys tv e w2 → _) := fun e w2 hin => hSt4.itemsS hy4 hh4 hb4 (by omega) d5 hRi4 hx4 hl4 HZZ.out.1 hin
          have HH4 : Hid _ := hh4
          have HL4 : Hid _ := hSt4.upd.size
          clear hSt4 hy4 hh4 hA4 hRi4 hRt4 hx4 d2 d6 hsz4 hf4 nb nm nd nt hO3 hU3 hh3 hl4
          go_wp2_with fail
          refine Calls.mono HIN4.out ?_
          intro e w5 hin5
          obtain ⟨a5, k5, tv5, ys5, Ls5, rfl, p5, f5, hSt5, hy5, hbel5, hmas5, hys5, ho5, hk5⟩ := HIT.out e w5 hin5
          have HSC5 : Hid (SqC w.heap.size [.slice a' J.length c'] ys5 (some ⟨g, 0, none⟩) I.length (k * 7 + 5 + 1) (w5.setCell ⟨g, k * 7 + 5, none⟩ (.slice a5 I'.length k5))) :=
            HSC3.out.put hk5 HH4.out (by rw [p5]; rfl) HL4.out ho5 (Or.inr ⟨by omega, rfl, rfl⟩) (by rw [hys5]; exact if_ys (by omega))
          clear hys5 ho5 hk5
          obtain ⟨g6, cg6, cur6, al6, ai6, at6, cl6, ci6, ct6, e6, hb6, hh6, hsz6, e2, e5, e6', hA6, hRi6, hRt6⟩ := hy5.open hlt HTK.out
          simp only [Value.slice.injEq, Option.some.injEq, Addr.mk.injEq, true_and, and_true] at e6
          obtain ⟨rfl, rfl⟩ := e6
          obtain ⟨xs6, hx6⟩ := hRt6.rd
          obtain ⟨nb, nm, nd, nt⟩ := HNUM.out
          have hf6 := hSt5.few
          have hl6 : T'.length ≤ lf2 - I'.length := by omega
          have HIN6 : Hid (Calls Tryz.prog 92 #[.slice at6 T'.length ct6, .pointer (some ⟨gc, 0, none⟩), .pointer (some ⟨gt, 0, none⟩)] (w5.setCell ⟨g, k * 7 + 5, none⟩ (.slice a5 I'.length k5)) (InsP (w5.setCell ⟨g, k * 7 + 5, none⟩ (.slice a5 I'.length k5)) gl gt (lf2 - I'.length) w.heap.size T'.length xs6 ys5 tv5)) :=
            inside_any at6 T'.length ct6 gl (gl + 1) gc gt (lf2 - I'.length) w.heap.size xs6 ys5 tv5 _ hx6 (hRt6.far hSt5.left.fun (Nat.le_trans hSt5.low hSt5.gl0) (by decide) (by decide)) hSt5.left hl6 hSt5.max hSt5.fn hSt5.box hSt5.own (by omega) hSt5.upd.size
          have HIT6 : Hid (∀ e w2, InsP (w5.setCell ⟨g, k * 7 + 5, none⟩ (.slice a5 I'.length k5)) gl gt (lf2 - I'.length) w.heap.size T'.length xs6 ys5 tv5 e w2 → _) := fun e w2 hin => hSt5.itemsS hy5 hh6 hb6 (by omega) e6' hRt6 hx6 hl6 HZZ.out.2 hin
          have HH6 : Hid _ := hh6
          have HL6 : Hid _ := hSt5.upd.size
          have HN5 : Hid (belS Ls5 ≤ belS Ls + belR I' ∧ masS Ls5 ≤ masS Ls + (1 + masR I')) := ⟨hbel5, hmas5⟩
          clear hSt5 hy5 hh6 hA6 hRi6 hRt6 hx6 e2 e5 hsz6 hf6 nb nm nd nt hin5 hbel5 hmas5 hl6 HIT HIN4
          go_wp2_with fail
          refine Calls.mono HIN6.out ?_
          intro e w7 hin7
          obtain ⟨a7, k7, tv7, ys7, Ls7, rfl, p7, f7, hSt7, hy7, hbel7, hmas7, hys7, ho7, hk7⟩ := HIT6.out e w7 hin7
          have HSC7 : Hid (SqC w.heap.size [.slice a' J.length c'] ys7 (some ⟨g, 0, none⟩) I.length (k * 7 + 6 + 1) (w7.setCell ⟨g, k * 7 + 6, none⟩ (.slice a7 T'.length k7))) :=
            HSC5.out.put hk7 HH6.out (by rw [p7]; rfl) HL6.out ho7 (Or.inr ⟨by omega, rfl, rfl⟩) (by rw [hys7]; exact if_ys (by omega))
          clear hys7 ho7 hk7
          have HS7 : Hid (St B w d gt gl gc (gl + 1) a' J tv7 ys7 Ls7 _ _) := hSt7
          have HY7 : Hid (TodoOk _ _ _ _ _) := hy7
          have HN7 : Hid (belS Ls7 ≤ belS Ls5 + belR T' ∧ masS Ls7 ≤ masS Ls5 + (1 + masR T')) := ⟨hbel7, hmas7⟩
          clear hSt7 hy7 hbel7 hmas7 hin7 HIT6 HIN6
          go_wp2
          go_roundw
          case rel =>
            obtain ⟨nb, nm, nd, nt⟩ := HNUM.out
            obtain ⟨n5, m5⟩ := HN5.out
            obtain ⟨n7, m7⟩ := HN7.out
            exact ⟨k + 1, tv7, ys7, Ls7, _, by omega, by go_num, HS7.out, HY7.out, by omega, by omega, by rw [show (k + 1) * 7 = k * 7 + 6 + 1 by omega]; exact HSC7.out⟩
          case measure => simp [intOf]; omega
        · have hd : decide ((k : Int) < (I.length : Int)) = false := by simp; omega
          have HS3 : Hid (St B w d gt gl gc (gl + 1) a' J tv ys Ls lf2 _) := hSt
          have HSCd : Hid (SqT w.heap.size [.slice a' J.length c'] ys none wr) := SqC.done (by rw [show I.length * 7 = k * 7 by congr 1; omega]; exact hSc) HYA.out
          have he : I.drop k = [] := List.drop_of_length_le (by omega)
          have he2 : I.take k = I := List.take_of_length_le (by omega)
          have HN : Hid (belS Ls ≤ lf2 ∧ masS Ls < gk) := by
            rw [he2] at hmas
            have := HM.out
            exact ⟨by omega, by omega⟩
          clear hSt hy hbel hmas he he2 hSc
          go_wp2
          go_roundg (masS Ls)
          case measure => exact HN.out.2
          case rel => exact ⟨tv, ys, Ls, lf2, Nat.le_refl _, HN.out.1, HS3.out, HSCd.out⟩
    · have h0 : ys.length = 0 := by omega
      obtain ⟨at0, ct0, htv⟩ := own_form hSt.own
      subst htv
      have yt : wr.cell? ⟨gt, 0, none⟩ = some (.slice at0 0 ct0) := by have := hSt.box.cell; rw [h0] at this; exact this
      have HS3 : Hid (St B w d gt gl gc (gl + 1) a' J _ ys Ls lf wr) := hSt
      have HSE : Hid (SqT w.heap.size [.slice a' J.length c'] [] none wr) := by
        have e : ys = [] := List.eq_nil_of_length_eq_zero h0
        rw [e] at hSq
        exact hSq
      clear hSt h0 hy0 HST hmas hbel hSq
      go_wp2
      go_ret
      exact ⟨a', c', rfl, HS3.out.out, HS3.out.upd, HCAP.out.1, HCAP.out.2, SqT.end HSE.out (by simp) HRW.out.2.1 HRW.out.2.2 HS3.out.out⟩


end Go.Proofs.YtnpocmhaoaigfaaGreatDoor
