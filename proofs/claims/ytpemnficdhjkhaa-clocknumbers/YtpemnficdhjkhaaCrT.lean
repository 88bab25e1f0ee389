/- The document's Tick. -/
import Derived.Test.YtpemnficdhjkhaaCrS
import Derived.Test.YtpemnficdhjkhaaCrL
namespace Go.Proofs.Ytpemnficdhjkhaa
open Go.RowKit Go.Maps

theorem PR.upP {P : Nat → Prop} {w w' : World} {B : Nat} {v : Value} {xs : List (Int × Int)} (h : PR w B v xs) (hu : UpP P w w') (hn : ∀ g, v.ownBlock = some g → ¬ P g) : PR w' B v xs := by
  obtain ⟨h1, h2⟩ := h
  refine ⟨h1, ?_⟩
  rcases h2 with h2 | ⟨g, cap, cur, rfl, hB, hg, r⟩
  · exact Or.inl h2
  · exact Or.inr ⟨g, cap, cur, rfl, hB, (hu.block g (Array.getElem?_eq_some_iff.1 hg).1 (hn g rfl)).trans hg, r⟩
/-- A row of those who wait is no row of ints, and no clock. -/
theorem PR.neI {w : World} {B : Nat} {v u : Value} {ps : List (Int × Int)} {xs : List Int} {gb : Option Nat} (h : PR w B v ps) (k : RowB w u xs gb) {g : Nat} (hg : v.ownBlock = some g) : ¬ gb = some g := by
  intro e
  rcases k with ⟨_, _, h0⟩ | ⟨b, off, cap, cur, h0, _, hc, _⟩
  · rw [h0] at e; cases e
  · rw [h0] at e; cases e
    rcases h.2 with ⟨h1, _⟩ | ⟨g', cap', cur', rfl, _, hg', _⟩
    · rw [h1] at hg; cases hg
    · cases hg
      exact hc.ne (T' := 50) hg' (by decide) rfl
theorem PR.neC {w : World} {B : Nat} {v : Value} {ps : List (Int × Int)} {b : Nat} {cs : Array Value} (h : PR w B v ps) (k : Cl w b cs 28) : ¬ v.ownBlock = some b := by
  intro e
  rcases h.2 with ⟨h1, _⟩ | ⟨g', cap', cur', rfl, _, hg', _⟩
  · rw [h1] at e; cases e
  · cases e
    exact k.ne (T' := 50) hg' (by decide) rfl
theorem RowB.neC {w : World} {u : Value} {xs : List Int} {gb : Option Nat} (k : RowB w u xs gb) {b : Nat} {cs : Array Value} (h : Cl w b cs 28) : ¬ gb = some b := by
  intro e
  rcases k with ⟨_, _, h0⟩ | ⟨b', off, cap, cur, h0, _, hc, _⟩
  · rw [h0] at e; cases e
  · rw [h0] at e; cases e
    exact hc.ne h (by decide) rfl
/-- Where a slice's length stands. -/
def lenV : Value → Nat
  | .slice _ n _ => n
  | _ => 0
/-- The row put behind is the one that lies in the slot. -/
def Fresh (lv' lv : Value) (n : Nat) : Prop := ∀ g, lv'.ownBlock = some g → lv.ownBlock = some g ∨ n ≤ g

/-- What has been told so far, what is left, and where it lies. -/
structure TkR (w wr : World) (b : Nat) (m : Int) (T : TF) (B : Nat) (lv0 : Value) (N : Nat) (s : Value) (xs : List Int) (lv : Value) (L : List (Int × Int)) : Prop where
  box : Cl wr b #[.int .i64 m, lv] 28
  row : PR wr B lv L
  fr : Fresh lv lv0 w.heap.size
  out : ∃ gb, RowB wr s xs gb ∧ ∀ g, gb = some g → w.heap.size ≤ g
  up : Upd [b] w wr
  pre : Pre T xs L
  len : xs.length + L.length = N

theorem TkR.drewN {w wr : World} {b : Nat} {m : Int} {T : TF} {B : Nat} {lv0 : Value} {N : Nat} {s : Value} {xs : List Int} {lv : Value} {L : List (Int × Int)} (h : TkR w wr b m T B lv0 N s xs lv L) (q : Nat) : TkR w (wr.drewN q) b m T B lv0 N s xs lv L := by
  obtain ⟨gb, h1, h2⟩ := h.out
  have u : Upd [] wr (wr.drewN q) := (Upd.refl [] wr).drewN q
  exact ⟨h.box.upd u (by simp), h.row.upd u, h.fr, ⟨gb, h1.upd u, h2⟩, h.up.drewN q, h.pre, h.len⟩
/-- One is told: put behind what was told so far. -/
theorem TkR.push {w wr : World} {b : Nat} {m : Int} {T : TF} {B : Nat} {lv0 : Value} {N : Nat} {s : Value} {xs : List Int} {lv : Value} {L : List (Int × Int)} (h : TkR w wr b m T B lv0 N s xs lv L) (hN : N ≤ 1000) (x : Int) :
    ∃ v' w2, (∀ ty, (Builtin.append_ #[34, 34] ty #[s, .slice (some ⟨wr.heap.size, 0, none⟩) 1 1]).run Try.prog (wr.alloc (.cells #[.int .i64 x] 3)) = .ok v' w2) ∧ (∃ gb, RowB w2 v' (xs ++ [x]) gb ∧ ∀ g, gb = some g → w.heap.size ≤ g) ∧
      Cl w2 b #[.int .i64 m, lv] 28 ∧ PR w2 B lv L ∧ Upd [b] w w2 := by
  obtain ⟨gb, h1, h2⟩ := h.out
  have u : Upd [] wr (wr.alloc (.cells #[.int .i64 x] 3)) := (Upd.refl [] wr).alloc _
  have hlen := h.len
  obtain ⟨v', w2, gb', hr, h3, h4, h5⟩ := append_rowb 0 (h1.upd u) (fun s hs => src_ar (ar_lit wr [x] _ rfl (by simp) (by simp) 1 rfl) hs) (by simp) (by simp; omega)
  have hsz := h.up.size
  refine ⟨v', w2, fun ty => hr, ⟨gb', h3, fun g hg => ?_⟩, (h.box.upd u (by simp)).mono h5 ((h1.upd u).neC (h.box.upd u (by simp))), (h.row.upd u).upP h5 (fun g hg => (h.row.upd u).neI (h1.upd u) hg), ?_⟩
  · rcases h4 g hg with e | e
    · exact h2 g e
    · simp at e; omega
  · have h6 : UpP (fun x => x ∈ [b]) w (wr.alloc (.cells #[.int .i64 x] 3)) := (h.up.alloc _).toP
    have h7 := h6.thenP h5 (fun y hy => Or.inl (h2 y hy))
    exact ⟨h7.os, h7.tape, h7.output, h7.size, h7.block⟩

theorem nd_one {L : List (Int × Int)} (h : (L.map (·.2)).Nodup) {i j : Nat} (hi : i < L.length) (hj : j < L.length) (he : L[i].2 = L[j].2) : i = j := by
  have h1 := List.pairwise_iff_getElem.1 h
  rcases Nat.lt_trichotomy i j with h2 | h2 | h2
  · exact absurd (by rw [List.getElem_map, List.getElem_map]; exact he) (h1 i j (by simpa using hi) (by simpa using hj) h2)
  · exact h2
  · exact absurd (by rw [List.getElem_map, List.getElem_map]; exact he.symm) (h1 j i (by simpa using hj) (by simpa using hi) h2)
/-- What Tick does and tells. -/
def TickP (w : World) (B b : Nat) (nv : Int) (lv : Value) (T : TF) (N : Nat) (n : Int) (e : Ending) (w' : World) : Prop :=
  ((n < 0 ∨ 1099511627776 - nv < n) ∧ e = .returned (.tuple #[.slice none 0 0, .bool false]) ∧ w' = w) ∨
    (¬ (n < 0 ∨ 1099511627776 - nv < n) ∧ ∃ v ys lv' L', e = .returned (.tuple #[v, .bool true]) ∧ (∃ gb, RowB w' v ys gb ∧ ∀ g, gb = some g → w.heap.size ≤ g) ∧ Due T (nv + n) ys ∧ Cl w' b #[.int .i64 (nv + n), lv'] 28 ∧ PR w' B lv' L' ∧ SimC (tickT T (nv + n)) L' ∧ L'.length ≤ N ∧ Fresh lv' lv w.heap.size ∧ Upd [b] w w')

set_option maxHeartbeats 8000000 in
set_option maxRecDepth 100000 in
theorem tickRef_any (w : World) (B b : Nat) (nv : Int) (lv : Value) (T : TF) (ps : List (Int × Int)) (n : Int) (hb : Cl w b #[.int .i64 nv, lv] 28) (hr : PR w B lv ps) (hB : B ≤ w.heap.size) (hn : ps.length ≤ 1000) (hs : SimC T ps) (h0 : 0 ≤ nv) (h1 : nv ≤ 1099511627776) :
    Calls Try.prog 17 #[.pointer (some ⟨b, 0, none⟩), .int .i64 n] w fun e w' => TickP w B b nv lv T ps.length n e w' := by
  have c0 : w.cell? ⟨b, 0, none⟩ = some (.int .i64 nv) := by rw [hb.cell]; rfl
  have f0 : w.frozen? ⟨b, 0, none⟩ = false := hb.free 0
  have hws : IntKind.i64.wrap (1099511627776 - nv) = 1099511627776 - nv := IntWalk.i64_in _ ⟨by omega, by omega⟩
  by_cases ha : n < 0
  · have d0 : decide (n < 0) = true := by simpa using ha
    have HA : Hid (n < 0) := ha
    clear ha hb hr hs
    go_enter Try.func17, Try.ntmps17
    go_wp2_with fail
    go_ret2
    exact Or.inl ⟨Or.inl HA.out, rfl, rfl⟩
  · have d0 : decide (n < 0) = false := by simpa using ha
    by_cases ha2 : 1099511627776 - nv < n
    · have d1 : decide (1099511627776 - nv < n) = true := by simpa using ha2
      have HA : Hid (1099511627776 - nv < n) := ha2
      clear ha ha2 hb hr hs
      go_enter Try.func17, Try.ntmps17
      go_wp2_with fail
      go_ret2
      exact Or.inl ⟨Or.inr HA.out, rfl, rfl⟩
    · have d1 : decide (1099511627776 - nv < n) = false := by simpa using ha2
      have HA : Hid (¬ (n < 0 ∨ 1099511627776 - nv < n)) := by intro h; rcases h with h | h; exact ha h; exact ha2 h
      have hwr : IntKind.i64.wrap (nv + n) = nv + n := IntWalk.i64_in _ ⟨by omega, by omega⟩
      obtain ⟨m, hm⟩ : ∃ m, nv + n = m := ⟨_, rfl⟩
      have HM : Hid (nv + n = m) := hm
      have us : Upd [b] w (w.setCell ⟨b, 0, none⟩ (.int .i64 m)) := (Upd.refl [b] w).setCell (p := ⟨b, 0, none⟩) (Or.inr (by simp)) _
      have HBb : Hid (B ≤ w.heap.size ∧ b < w.heap.size) := ⟨hB, hb.lt⟩
      have H0 : Hid (TkR w (w.setCell ⟨b, 0, none⟩ (.int .i64 m)) b m T B lv ps.length (.slice none 0 0) [] lv ps) := ⟨hb.set 0 _, hr.updS us (fun g hg => by
        have := hr.neC hb
        simp
        exact fun e => this (e ▸ hg)), fun g hg => Or.inl hg, ⟨none, Or.inl ⟨rfl, rfl, rfl⟩, fun g hg => by cases hg⟩, us, Pre.start hs, by simp⟩
      have HO : Hid (∀ x ∈ ([] : List Int), ∀ t, T x = some t → t ≤ m) := fun x hx => by simp at hx
      have hw64 : wrap64 (nv + n) = nv + n := by unfold wrap64; omega
      clear ha ha2 hb hr hs us hm hB
      go_enter Try.func17, Try.ntmps17
      go_wp2_with fail
      rw [HM.out]
      go_loopw [6] (fun s6 wr => ∃ xs lv' L, TkR w wr b m T B lv ps.length s6 xs lv' L ∧ ∀ x ∈ xs, ∀ t, T x = some t → t ≤ m) (fun s6 _ => ps.length - lenV s6)
      case atStart => exact ⟨[], lv, ps, H0.out, HO.out⟩
      case round =>
        obtain ⟨xs, lv', L, hk, ho⟩ := hrel
        obtain ⟨p2, c2, hlv⟩ := hk.row.form
        subst hlv
        obtain ⟨gb, hrow, hgb⟩ := hk.out
        obtain ⟨p6, c6, hs6⟩ := hrow.form
        subst hs6
        have hlen := hk.len
        have HK : Hid (TkR w wr b m T B lv ps.length (.slice p6 xs.length c6) xs (.slice p2 L.length c2) L ∧ ∀ x ∈ xs, ∀ t, T x = some t → t ≤ m) := ⟨hk, ho⟩
        have k1 : wr.cell? ⟨b, 1, none⟩ = some (.slice p2 L.length c2) := by rw [hk.box.cell]; rfl
        have hll := least_any wr B _ L hk.row (by omega)
        clear hk ho hrow hgb gb
        go_wp2_with fail
        refine Calls.mono hll ?_
        rintro e w2 ⟨rfl, q, hw2⟩
        have HKq : Hid (TkR w w2 b m T B lv ps.length (.slice p6 xs.length c6) xs (.slice p2 L.length c2) L) := by rw [hw2]; exact HK.out.1.drewN q
        have k1 : w2.cell? ⟨b, 1, none⟩ = some (.slice p2 L.length c2) := by rw [HKq.out.box.cell]; rfl
        have k0 : w2.cell? ⟨b, 0, none⟩ = some (.int .i64 m) := by rw [HKq.out.box.cell]; rfl
        clear hw2 hll
        have HL := fold_all L
        generalize foldI L L.length = r at HL ⊢
        rcases HL with ⟨hL, rfl⟩ | ⟨k, hl, rfl⟩
        · have b0 : decide ((-1 : Int) < 0) = true := by decide
          have HF : Hid (Due T m xs ∧ SimC (tickT T m) L) := HKq.out.pre.due HK.out.2 (fun p hp => by rw [hL] at hp; simp at hp)
          clear hL
          go_upto_region 6 with fail
          go_quiet (fail)
          have HKz : Hid (TkR w (w2.drewN nq) b m T B lv ps.length (.slice p6 xs.length c6) xs (.slice p2 L.length c2) L) := HKq.out.drewN nq
          go_wp2_with fail
          go_ret2
          exact Or.inr ⟨HA.out, _, xs, _, L, rfl, HKz.out.out, by rw [HM.out]; exact HF.out.1, by rw [HM.out]; exact HKz.out.box, HKz.out.row, by rw [HM.out]; exact HF.out.2, by omega, HKz.out.fr, HKz.out.up⟩
        · have hkL : k < L.length := hl.1
          have hki : (k : Int) < (L.length : Int) := by omega
          have hkn : ¬ (k : Int) < 0 := by omega
          have b0 : decide ((k : Int) < 0) = false := decide_eq_false hkn
          obtain ⟨t, x, htx⟩ : ∃ t x, L[k] = (t, x) := ⟨_, _, rfl⟩
          have HX : Hid (L[k] = (t, x) ∧ Lst L L.length k) := ⟨htx, hl⟩
          obtain ⟨g, c', hv, q0, q1⟩ := HKq.out.row.cells hkL
          simp only [Value.slice.injEq] at hv
          obtain ⟨rfl, _, rfl⟩ := hv
          rw [htx] at q0 q1
          simp only at q0 q1
          clear htx hl
          by_cases hmt : m < t
          · have b1 : decide (m < t) = true := decide_eq_true hmt
            have HF : Hid (Due T m xs ∧ SimC (tickT T m) L) := HKq.out.pre.due HK.out.2 (lst_late HX.out.2 hkL (by rw [HX.out.1]; exact hmt))
            clear hmt
            go_upto_region 6 with fail
            go_quiet (fail)
            have HKz : Hid (TkR w (w2.drewN nq) b m T B lv ps.length (.slice p6 xs.length c6) xs (.slice (some ⟨g, 0, none⟩) L.length c2) L) := HKq.out.drewN nq
            go_wp2_with fail
            go_ret2
            exact Or.inr ⟨HA.out, _, xs, _, L, rfl, HKz.out.out, by rw [HM.out]; exact HF.out.1, by rw [HM.out]; exact HKz.out.box, HKz.out.row, by rw [HM.out]; exact HF.out.2, by omega, HKz.out.fr, HKz.out.up⟩
          · have b1 : decide (m < t) = false := decide_eq_false hmt
            have HT : Hid (t ≤ m) := by have := hmt; show t ≤ m; omega
            clear hmt
            go_upto_region 6 with fail
            go_quiet (fail)
            obtain ⟨w3, hw3⟩ : ∃ w3, w3 = w2.drewN nq := ⟨_, rfl⟩
            have HK3 : Hid (TkR w w3 b m T B lv ps.length (.slice p6 xs.length c6) xs (.slice (some ⟨g, 0, none⟩) L.length c2) L) := by rw [hw3]; exact HKq.out.drewN nq
            have k3 : w3.cell? ⟨b, 1, none⟩ = some (.slice (some ⟨g, 0, none⟩) L.length c2) := by rw [HK3.out.box.cell]; rfl
            have q3 : w3.cell? ⟨g, k * 2 + 1, none⟩ = some (.int .i64 x) := by rw [hw3]; exact q1
            rw [← hw3]
            clear hw3 q0 q1 k0 k1
            obtain ⟨v', w4, hr4, hrow4, hbox4, hpr4, hup4⟩ := HK3.out.push (by omega) x
            obtain ⟨gb4, hrb4, hgb4⟩ := hrow4
            obtain ⟨p4, c4, hv4⟩ := hrb4.form
            subst hv4
            have H4 : Hid ((∃ gb, RowB w4 (.slice p4 (xs ++ [x]).length c4) (xs ++ [x]) gb ∧ ∀ g, gb = some g → w.heap.size ≤ g) ∧ Cl w4 b #[.int .i64 m, .slice (some ⟨g, 0, none⟩) L.length c2] 28 ∧ PR w4 B (.slice (some ⟨g, 0, none⟩) L.length c2) L ∧ Upd [b] w w4) := ⟨⟨gb4, hrb4, hgb4⟩, hbox4, hpr4, hup4⟩
            have k4 : w4.cell? ⟨b, 1, none⟩ = some (.slice (some ⟨g, 0, none⟩) L.length c2) := by rw [hbox4.cell]; rfl
            obtain ⟨g', c', hv, _, q4⟩ := hpr4.cells hkL
            simp only [Value.slice.injEq, Option.some.injEq, Addr.mk.injEq, and_true] at hv
            obtain ⟨rfl, _⟩ := hv
            rw [HX.out.1] at q4
            simp only at q4
            have hdr := dropRef_any w4 B b m _ L x hbox4 hpr4 (by omega)
            clear hrb4 hgb4 hbox4 hpr4 hup4
            have k3a : (w3.alloc (.cells #[.int .i64 x] 3)).cell? ⟨b, 1, none⟩ = some (.slice (some ⟨g, 0, none⟩) L.length c2) := by rw [← k3]; exact ((Upd.refl [] w3).alloc _).cell (p := ⟨b, 1, none⟩) HK3.out.box.lt (by simp)
            go_wp2_with (first | (at_builtin; refine Lib.wpList_append_run _ rfl _ _ _ _ rfl _ _ rfl rfl _ _ (hr4 _) ?_))
            refine Calls.mono hdr ?_
            rintro e w5 hd
            rcases hd with ⟨hno, _, _⟩ | ⟨k', hk', hx', rfl, lv5, hb5, hp5, hu5⟩
            · exact absurd (by rw [HX.out.1]) (hno L[k] (List.getElem_mem hkL))
            · have hkk : k' = k := nd_one HK3.out.pre.sim.nd hk' hkL (by rw [hx', HX.out.1])
              subst hkk
              have HN : Hid (TkR w w5 b m T B lv ps.length (.slice p4 (xs ++ [x]).length c4) (xs ++ [x]) lv5 (L.take k' ++ L.drop (k' + 1)) ∧ ∀ y ∈ xs ++ [x], ∀ t, T y = some t → t ≤ m) := by
                obtain ⟨gb5, h51, h52⟩ := H4.out.1
                have hsz := H4.out.2.2.2.size
                have hbb := HBb.out
                refine ⟨⟨hb5, hp5.base (by omega), fun g hg => Or.inr (by have := (hp5.own hg).1; omega), ⟨gb5, h51.mono hu5.toP (fun g hg e => h51.neC H4.out.2.1 (by have : g = b := (by simpa using e); rw [hg, this])), h52⟩, H4.out.2.2.2.trans hu5, HK3.out.pre.step HX.out.2 hkL HX.out.1, by simp; omega⟩, fun y hy t' ht' => ?_⟩
                rcases List.mem_append.1 hy with hy | hy
                · exact HK.out.2 y hy t' ht'
                · obtain rfl : y = x := by simpa using hy
                  have := (HK3.out.pre.left (t := t) (x := y) (by rw [← HX.out.1]; exact List.getElem_mem hkL)).1
                  rw [this] at ht'; cases ht'
                  exact HT.out
              clear hb5 hp5 hu5
              go_wp2_with fail
              go_roundw
              case rel => exact ⟨xs ++ [x], lv5, _, by
                have e : (xs ++ [x]).length = xs.length + 1 := by simp
                rw [← e]
                exact HN.out⟩
              case measure => simp [lenV]; omega

end Go.Proofs.Ytpemnficdhjkhaa
