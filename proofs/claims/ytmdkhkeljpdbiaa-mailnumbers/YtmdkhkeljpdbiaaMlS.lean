/- All. -/
import Derived.Test.YtmdkhkeljpdbiaaMlR
namespace Go.Proofs.Ytmdkhkeljpdbiaa
open Go.RowKit

set_option maxHeartbeats 1000000 in
set_option maxRecDepth 100000 in
theorem all_Ve (w : World) (b : Nat) (v : Value) (k : Nat) (h : BoxV w b v [] k) : Calls Try.prog 14 #[.pointer (some ⟨b, 0, none⟩)] w fun e w' => e = .returned (.slice none 0 0) ∧ w' = w := by
  obtain ⟨p, c, rfl⟩ := h.form
  have e1 : w.cell? ⟨b, 1, none⟩ = some (.slice p 0 c) := h.bx.c1
  go_enter Try.func14, Try.ntmps14
  go_wp2_with fail
  refine Calls.mono (made_ok _ b _ k h.bx) ?_
  rintro e w1 ⟨rfl, hw1⟩
  rw [hw1]
  clear hw1
  go_wp2_with fail
  go_ret
  exact ⟨rfl, rfl⟩

set_option maxHeartbeats 1000000 in
set_option maxRecDepth 100000 in
theorem all_V (w : World) (b : Nat) (v : Value) (L : List (List Value)) (k : Nat) (hn : L.length ≤ 1024) (hL : 0 < L.length) (hf : Flat L) (h : BoxV w b v L k) :
    Calls Try.prog 14 #[.pointer (some ⟨b, 0, none⟩)] w fun e w' => ∃ go, e = .returned (.slice (some ⟨go, 0, none⟩) L.length L.length) ∧ w.heap.size ≤ go ∧ RowG w' 7 (.slice (some ⟨go, 0, none⟩) L.length L.length) L.length ∧ Hs w' 7 (.slice (some ⟨go, 0, none⟩) L.length L.length) L.length (fun i => L.getD i []) ∧ Upd [] w w' := by
  rcases h.row with ⟨_, h2⟩ | ⟨g, cap, rfl, hgl, hc1, hc2, _⟩
  · omega
  have HB : Hid (BoxV w b (.slice (some ⟨g, 0, none⟩) L.length cap) L k ∧ Flat L ∧ L.length ≤ 1024) := ⟨h, hf, hn⟩
  have e1 := h.bx.c1
  obtain ⟨n, hln⟩ : ∃ n, L.length = n := ⟨_, rfl⟩
  rw [hln] at e1 hL hn hc1
  have HL : Hid (L.length = n) := hln
  have i0 : ((n : Int) == 0) = false := beq_eq_false_iff_ne.2 (by omega)
  have i1 : ¬ (n : Int) = 0 := by omega
  have CP : Hid (∀ ap, Calls Try.prog 29 #[.slice (some ⟨g, 0, none⟩) n cap, .int .i64 ap] w fun e w' => ∃ go, e = .returned (.slice (some ⟨go, 0, none⟩) n n) ∧ w.heap.size ≤ go ∧ RowG w' 7 (.slice (some ⟨go, 0, none⟩) L.length L.length) L.length ∧ Hs w' 7 (.slice (some ⟨go, 0, none⟩) L.length L.length) L.length (fun i => L.getD i []) ∧ Upd [] w w') := fun ap => by
    have h1 := copies_fl w g cap L ap HB.out.2.2 hf h.row h.has
    rw [hln] at h1
    rw [hln]
    exact h1
  clear h hf hln
  go_enter Try.func14, Try.ntmps14
  go_wp2_with fail
  refine Calls.mono (made_ok _ b _ k HB.out.1.bx) ?_
  rintro e w1 ⟨rfl, hw1⟩
  rw [hw1]
  clear hw1
  go_wp2_with fail
  all_goals
    refine Calls.mono (CP.out _) ?_
    rintro e w2 ⟨go, rfl, h1, h2, h3, h4⟩
    have HF : Hid (w.heap.size ≤ go ∧ RowG w2 7 (.slice (some ⟨go, 0, none⟩) L.length L.length) L.length ∧ Hs w2 7 (.slice (some ⟨go, 0, none⟩) L.length L.length) L.length (fun i => L.getD i []) ∧ Upd [] w w2) := ⟨h1, h2, h3, h4⟩
    clear h1 h2 h3 h4
    go_wp2_with fail
    go_ret
    exact ⟨go, by rw [HL.out]; rfl, HF.out⟩

end Go.Proofs.Ytmdkhkeljpdbiaa
