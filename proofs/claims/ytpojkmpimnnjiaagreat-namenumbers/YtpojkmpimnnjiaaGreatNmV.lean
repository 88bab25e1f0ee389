/- maps.Values of the names: its iterator. -/
import Derived.Test.YtpojkmpimnnjiaaGreatNmQ
import Derived.Shelf.SlIterI.Nil
namespace Go.Proofs.YtpojkmpimnnjiaaGreat
open Go.RowKit Go.Maps Go.Sort Go.Shelf

/-- All names of F, each once. -/
def SM (f : BS → Option Nd) (N : Nat) (ms : List Nd) : Prop := (ms.map (·.1)).Nodup ∧ (∀ m, m ∈ ms ↔ f m.1 = some m) ∧ ms.length ≤ N

set_option maxRecDepth 100000 in
set_option maxHeartbeats 1000000 in
theorem values1N (f : BS → Option Nd) (hf : ∀ r m, f r = some m → m.1 = r) (n : Nat) (hn : 1 ≤ n) (l Bm b nn : Nat) (D0 : DataW Unit) (hh : ∀ x, has D0 (strL x) = (f x).isSome) (ha : ∀ x a z, f x = some a → D0.atKey (strL x) z = namD a) (J : List Nd → World → Prop)
    (hY : ∀ pre x W, J pre W → pre.length < Maps.size D0 → YieldAt Fence.wide (n - 1) Tryz.prog l #[namV x] W fun e W' => e = .returned (.bool true) ∧ J (pre ++ [x]) W' ∧ KeepsWalks W W')
    (W : World) (hJ : AbidesFrom W.heap.size J) (hm : W.cell? ⟨Bm, 0, none⟩ = some (.map (some b))) (hown : W.ownsMap (H := Unit) Tryz.prog 9 namElem b nn D0) (h0 : J [] W) :
    CallsIn Fence.wide n Tryz.prog 35 #[.func (.yield l) #[] #[], .pointer (some ⟨Bm, 0, none⟩)] W fun e W' => (∃ v, e = .returned v) ∧ ∃ ms : List Nd, SM f (Maps.size D0) ms ∧ J ms W' := by
  refine callsIn_of_wp Tryz.func35 rfl trivial ?_ rfl
  simp only [Tryz.ntmps35, List.size_toArray, List.length_cons, List.length_nil, Nat.reduceAdd, Nat.reduceSub, Array.replicate_succ, Array.replicate_zero, List.push_toArray, List.append_toArray, List.nil_append, List.cons_append]
  gi_wp2_with (first
    | (gi_at_range; refine wpListIn_range_own _ rfl _ 48 rfl 9 42 str_key.keyed und_way1 _ b nn _ rfl hown ?_; intro w0 hrg0 hg0 hs0)
    | gi_in)
  go_frame
  gi_loopw [4] (fun _ wr => ∃ (left : Lit → Bool) (cnt : Nat) (ms : List Nd), wr.ranges Tryz.prog 9 namElem b W.heap.size nn D0 left cnt ∧ ms.length + cnt ≤ Maps.size D0 ∧ Collected D0 left (ms.map (·.1)) ∧ (∀ m ∈ ms, f m.1 = some m) ∧ J ms wr)
    (fun _ wr => wr.rangeLeft b W.heap.size)
  case atStart =>
    exact ⟨_, _, [], hrg0, by simp, Collected.start D0, by simp, hJ [] W w0 none h0 hg0 (fun r e => by cases e)⟩
  case round =>
    obtain ⟨left, cnt, ms, hrg, hcs, hC, hV, hJs⟩ := hrel
    gi_wp2_with (first
      | (gi_at_next; refine wpListIn_next_ranges _ rfl _ rfl 9 str_key.keyed namElem encStr namV (fun key kl hk => by obtain ⟨x, hx, _⟩ := Maps.keyOf_str und_str hk; exact ⟨x, hx⟩) (fun v y hv => by obtain ⟨m, rfl, _⟩ := namElem_inv hv; exact ⟨m, rfl⟩) b W.heap.size nn _ _ _ rfl hrg ?_ ?_)
      | gi_in)
    · -- nothing is left
      intro hc0 hl0
      gi_wp2
      go_end0
      refine ⟨⟨_, rfl⟩, ms, ⟨hC.1, fun m => ⟨hV m, fun hfm => ?_⟩, by omega⟩, hJs⟩
      have h1 : m.1 ∈ ms.map (·.1) := (hC.2 m.1).2 ⟨by rw [hh, hfm]; rfl, hl0 _⟩
      obtain ⟨m', hm', he⟩ := List.mem_map.1 h1
      have h2 := hV m' hm'
      rw [he, hfm] at h2
      cases h2
      exact hm'
    · -- an entry has come
      intro x c1 c2 kl yd yp w2 cnt2 hkey hlk hv hat hrg2 hlt hg2 hs2 hen
      obtain ⟨x', ex, rfl, _⟩ := Maps.keyOf_str und_str hkey
      obtain rfl : x = x' := encStr_inj ex
      have hC2 : Collected D0 (fun z => left z && !z.sameKey (strL x)) (ms.map (·.1) ++ [x]) := hC.step hlk hat
      have hx : (f x).isSome = true := by rw [← hh]; exact ((hC2.2 x).1 (by simp)).1
      obtain ⟨m', hm'⟩ := Option.isSome_iff_exists.1 hx
      have hcm : m' = (c1, c2) := by
        have h1 := ha x m' (.lit (lk 0)) hm'
        rw [hat] at h1
        rw [h1] at hv
        have h2 := nam_get hv
        simpa [Prod.ext_iff, eq_comm] using h2
      subst hcm
      have hcx : c1 = x := hf x _ hm'
      have hJ2 : J ms w2 := hJ ms wr w2 (some W.heap.size) hJs hg2 (fun r e => by cases e; exact ⟨Nat.le_refl _, hrg.iter_walk⟩)
      have hJ3 : J ms (w2.alloc (.cells #[encStr c1, .int .i64 c2] 42)) := hJ ms w2 _ none hJ2 (World.grownBy_alloc w2 _ none) (fun r e => by cases e)
      have hrg3 := hrg2.alloc (.cells #[encStr c1, .int .i64 c2] 42)
      obtain ⟨fn, tmps, assign, body, hy, hR⟩ := hY ms (c1, c2) _ hJ3 (by omega)
      have hC3' : Collected D0 (fun z => left z && !z.sameKey (strL x)) ((ms ++ [(c1, c2)]).map (·.1)) := by
        rw [List.map_append, List.map_singleton]
        show Collected _ _ (_ ++ [c1])
        rw [hcx]; exact hC2
      have hC3 : Hid (Collected D0 (fun z => left z && !z.sameKey (strL x)) ((ms ++ [(c1, c2)]).map (·.1))) := hC3'
      have hV3' : ∀ m ∈ ms ++ [(c1, c2)], f m.1 = some m := fun m hm => by
        rcases List.mem_append.1 hm with h | h
        · exact hV m h
        · simp only [List.mem_singleton] at h
          subst h
          show f c1 = _
          rw [hcx]; rw [hcx] at hm'; exact hm'
      have hV3 : Hid (∀ m ∈ ms ++ [(c1, c2)], f m.1 = some m) := hV3'
      have hL' : (ms ++ [(c1, c2)]).length + cnt2 ≤ Maps.size D0 := by simp; omega
      have hL : Hid ((ms ++ [(c1, c2)]).length + cnt2 ≤ Maps.size D0) := hL'
      have hLT : Hid (cnt2 < cnt) := hlt
      clear hC3' hV3' hL' hs2 hcx hm' hx hC2 hJ3 hJ2 hV hC hcs
      gi_wp2
      refine hR.mono ?_
      rintro e W3 ⟨rfl, hJ4, hk3⟩
      gi_wp2
      have hrg4 := hrg3.of_walks hk3
      go_roundw
      case rel => exact ⟨_, cnt2, ms ++ [(c1, c2)], hrg4, hL.out, hC3.out, hV3.out, hJ4⟩
      case measure => rw [hrg4.left_eq, hrg.left_eq]; exact hLT.out

/-- maps.Values of a map of monitors gives them all. -/
theorem values_gives (w : World) (f : BS → Option Nd) (hf : ∀ r m, f r = some m → m.1 = r) (m : Nat) (hn : 1 ≤ m) (Bm b nn : Nat) (hBm : Bm < w.heap.size) (hm : w.cell? ⟨Bm, 0, none⟩ = some (.map (some b))) (h : StrB w b nn f) :
    SeqGives Fence.wide m Tryz.prog 35 #[.pointer (some ⟨Bm, 0, none⟩)] namV (SM f nn) nn w := fun l J W hW hJ hY h0 => by
  obtain ⟨D, hown, hh, ha⟩ := h
  have hown' : W.ownsMap (H := Unit) Tryz.prog 9 namElem b nn D := by
    have hbl := hown.lt
    obtain ⟨es, clock, hb, Ft, hs, hD⟩ := hown
    exact ⟨es, clock, (hW.block b hbl).trans hb, Ft, hs, hD⟩
  refine (values1N f hf m hn l Bm b nn D hh ha J (fun pre x W1 h1 h2 => hY pre x W1 h1 (Nat.lt_of_lt_of_le h2 hown.size_le)) W hJ ((hW.cell (p := ⟨Bm, 0, none⟩) hBm).trans hm) hown' h0).mono ?_
  rintro e W' ⟨h1, ms, h2, h3⟩
  exact ⟨h1, ms, ⟨h2.1, h2.2.1, Nat.le_trans h2.2.2 hown.size_le⟩, h3⟩

theorem values_call (mb : Option Nat) (w : World) : Calls Tryz.prog 24 #[.map mb] w fun e w' => e = .returned (.func (.func 35) #[] #[.pointer (some ⟨w.heap.size, 0, none⟩)]) ∧ w' = w.alloc (.cells #[.map mb] 48) := by
  go_enter Tryz.func24, Tryz.ntmps24
  go_wp2
  go_ret
  exact ⟨rfl, rfl⟩

end Go.Proofs.YtpojkmpimnnjiaaGreat
