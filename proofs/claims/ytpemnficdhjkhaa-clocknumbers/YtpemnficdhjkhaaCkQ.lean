/- Clocks: place. -/
import Derived.Test.YtpemnficdhjkhaaCkP
namespace Go.Proofs.Ytpemnficdhjkhaa
open Go.RowKit Go.Maps

set_option maxHeartbeats 1000000 in
set_option maxRecDepth 10000 in
theorem place_any {w : World} {c n g : Nat} {v : Value} {gb : Option Nat} {now : Int} {T : TF} {xs : List Int} (o : CkR w c n g v gb now T xs) (hn : n ≤ 1073741824) {pid : Int} (hp : I64 pid)
    (hm : xs.Pairwise (fun a b => pl T (tmAt T pid) pid a = true → pl T (tmAt T pid) pid b = true)) :
    Calls Try.prog 27 #[.pointer (some ⟨c, 0, none⟩), .int .i64 pid] w fun e w' => e = .returned (.int .i64 (xs.countP (fun x => !pl T (tmAt T pid) pid x) : Nat)) ∧ Gw w w' := by
  obtain ⟨w1, hw1⟩ : ∃ w1, ((w.alloc (.cells #[.pointer (some ⟨c, 0, none⟩)] 23)).alloc (.cells #[.int .i64 pid] 3)).drew = w1 := ⟨_, rfl⟩
  have G1 : Gw w w1 := by rw [← hw1]; exact (((Gw.refl w).alloc _).alloc _).drewN 1
  have o1 := o.upd G1.upd
  have s1 : w1.heap.size = w.heap.size + 2 := by rw [← hw1]; simp
  have b0 : w1.cell? ⟨w.heap.size, 0, none⟩ = some (.pointer (some ⟨c, 0, none⟩)) := by
    rw [← hw1]
    exact cell_alloc_sl _ (cell_new_sl w _ _)
  have b1 : w1.cell? ⟨w.heap.size + 1, 0, none⟩ = some (.int .i64 pid) := by
    rw [← hw1]
    show ((w.alloc (.cells #[.pointer (some ⟨c, 0, none⟩)] 23)).alloc (.cells #[.int .i64 pid] 3)).cell? _ = _
    rw [World.cell?_alloc_at _ _ _ _ (by simp)]; rfl
  have u2 : Upd [] w ((w.alloc (.cells #[.pointer (some ⟨c, 0, none⟩)] 23)).alloc (.cells #[.int .i64 pid] 3)) := by repeat (first | exact Upd.refl _ _ | refine Upd.alloc ?_ _)
  have c2 : ((w.alloc (.cells #[.pointer (some ⟨c, 0, none⟩)] 23)).alloc (.cells #[.int .i64 pid] 3)).cell? ⟨c, 2, none⟩ = some (.map (some g)) := by rw [(o.upd u2).row.cell]; rfl
  have e2 : (Instr.lookup 44 (.map (some g)) (.int .i64 pid) false).run Try.prog ((w.alloc (.cells #[.pointer (some ⟨c, 0, none⟩)] 23)).alloc (.cells #[.int .i64 pid] 3)).drew = .ok (.int .i64 (tmAt T pid)) ((w.alloc (.cells #[.pointer (some ⟨c, 0, none⟩)] 23)).alloc (.cells #[.int .i64 pid] 3)).drew := TmB.look (o.upd u2.drew).times hp
  clear u2
  have u3 : Upd [] w (((w.alloc (.cells #[.pointer (some ⟨c, 0, none⟩)] 23)).alloc (.cells #[.int .i64 pid] 3)).alloc (.cells #[.int .i64 0] 3)) := by repeat (first | exact Upd.refl _ _ | refine Upd.alloc ?_ _)
  have c3 : (((w.alloc (.cells #[.pointer (some ⟨c, 0, none⟩)] 23)).alloc (.cells #[.int .i64 pid] 3)).alloc (.cells #[.int .i64 0] 3)).cell? ⟨c, 2, none⟩ = some (.map (some g)) := by rw [(o.upd u3).row.cell]; rfl
  have e3 : (Instr.lookup 44 (.map (some g)) (.int .i64 pid) false).run Try.prog (((w.alloc (.cells #[.pointer (some ⟨c, 0, none⟩)] 23)).alloc (.cells #[.int .i64 pid] 3)).alloc (.cells #[.int .i64 0] 3)).drew = .ok (.int .i64 (tmAt T pid)) (((w.alloc (.cells #[.pointer (some ⟨c, 0, none⟩)] 23)).alloc (.cells #[.int .i64 pid] 3)).alloc (.cells #[.int .i64 0] 3)).drew := TmB.look (o.upd u3.drew).times hp
  clear u3
  have H : Hid (∀ W, Gw w1 W → W.cell? ⟨w.heap.size + 2, 0, none⟩ = some (.int .i64 (tmAt T pid)) → Calls Try.prog 29 #[.pointer (some ⟨c, 0, none⟩), .func (.func 53) #[] #[.pointer (some ⟨w.heap.size, 0, none⟩), .pointer (some ⟨w.heap.size + 2, 0, none⟩), .pointer (some ⟨w.heap.size + 1, 0, none⟩)]] W fun e w' => e = .returned (.int .i64 (xs.countP (fun x => !pl T (tmAt T pid) pid x) : Nat)) ∧ Gw W w') := fun W hG h3 => by
    have oW := o1.upd hG.upd
    refine first_any oW hn enters_place1 (fun W' hG' x hx => ?_) hm
    have hs : w1.heap.size ≤ W.heap.size := hG.upd.size
    refine Calls.mono (place1_any (bc := w.heap.size) (bi := w.heap.size + 2) (bp := w.heap.size + 1) (its := tmAt T pid) (pid := pid) oW hG'.upd ?_ ?_ ?_ (oW.key x hx)) ?_
    · exact ((hG.trans hG').upd.cell (p := ⟨w.heap.size, 0, none⟩) (by show w.heap.size < _; omega) (by simp)).trans b0
    · exact (hG'.upd.cell (p := ⟨w.heap.size + 2, 0, none⟩) (World.block_lt_of_cell? _ _ h3) (by simp)).trans h3
    · exact ((hG.trans hG').upd.cell (p := ⟨w.heap.size + 1, 0, none⟩) (by show w.heap.size + 1 < _; omega) (by simp)).trans b1
    · rintro e w' ⟨rfl, rfl⟩
      exact ⟨rfl, 0, rfl⟩
  have HG : Hid (Gw w w1 ∧ w1.heap.size = w.heap.size + 2) := ⟨G1, s1⟩
  generalize hcnt : xs.countP (fun x => !pl T (tmAt T pid) pid x) = cnt at H ⊢
  clear hcnt
  subst hw1
  clear o o1 hm G1 s1
  go_enter Try.func27, Try.ntmps27
  go_wp2
  go_region
  all_goals
    go_wp2_with fail
    refine Calls.mono (H.out (((w.alloc (.cells #[.pointer (some ⟨c, 0, none⟩)] 23)).alloc (.cells #[.int .i64 pid] 3)).drew.alloc (.cells #[.int .i64 (tmAt T pid)] 3)) ((Gw.refl _).alloc _) ((World.cell?_alloc_at _ _ _ _ (by simp)).trans rfl)) ?_
    rintro e w' ⟨rfl, h⟩
    go_wp2
    go_ret
    exact ⟨rfl, HG.out.1.trans (((Gw.refl _).alloc _).trans h)⟩

end Go.Proofs.Ytpemnficdhjkhaa
