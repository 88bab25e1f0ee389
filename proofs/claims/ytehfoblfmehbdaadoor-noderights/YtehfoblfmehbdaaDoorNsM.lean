/- unmet of two rows, deepest. -/
import Derived.Test.YtehfoblfmehbdaaDoorNsL
namespace Go.Proofs.YtehfoblfmehbdaaDoor
open Go.RowKit

/-- The tuple of an integer and a variable, and its parts. -/
def oneN : Nd := .mk 1 ⟨#[49]⟩ 0 0 []
def xN : Nd := .mk 3 ⟨#[88]⟩ 0 0 []
theorem one_in (w : World) (d : Nat) (k num pos : Int) (s : ByteArray) : NIn w (d + 1) [.int .u8 k, .string s, .int .i64 num, .int .i64 pos, .slice none 0 0] (.mk k s num pos []) := ⟨none, 0, rfl, Or.inl rfl, by simp, by omega⟩

set_option maxHeartbeats 1000000 in
set_option maxRecDepth 100000 in
/-- A row of nodes without kids. -/
theorem unmet_nil (w : World) (d bm : Nat) (a : Option Addr) (c : Nat) (K : List Nd) (l : List (Option Addr × Int × Int)) (hK : RowN (NIn w d) w a K) (hl : ∃ l2, l = (none, 0, 0) :: l2) (hlen : K.length ≤ 20000) (h0 : ∀ W cs i (hi : i < K.length), NIn W d cs K[i] → ∃ k s num pos a c, cs = [.int .u8 k, .string s, .int .i64 num, .int .i64 pos, .slice a 0 c]) (hD : DM w bm l) :
    Calls Tryd.prog 35 #[.slice a K.length c, .map (some bm)] w fun e w' => e = .returned (.tuple #[.slice none 0 0, .bool true]) ∧ Upd [] w w' := by
  have u0 : Upd [] w ((w.alloc (.cells #[.map (some bm)] 44)).alloc (.cells #[.slice none 0 0] 45)) := ((Upd.refl [] w).alloc _).alloc _
  have hbd : FunB ((w.alloc (.cells #[.map (some bm)] 44)).alloc (.cells #[.slice none 0 0] 45)) w.heap.size (.map (some bm)) 44 := (FunB.new w _ _ _ rfl).mono ((Upd.refl [] _).alloc _) (by simp)
  have hbr : FunB ((w.alloc (.cells #[.map (some bm)] 44)).alloc (.cells #[.slice none 0 0] 45)) (w.heap.size + 1) (.slice none 0 0) 45 := FunB.new _ _ _ _ (by simp)
  obtain ⟨W0, hW0⟩ : ∃ W0, W0 = (w.alloc (.cells #[.map (some bm)] 44)).alloc (.cells #[.slice none 0 0] 45) := ⟨_, rfl⟩
  have HA : Hid (Unit → _) := fun _ => all_gen a c d K 60 #[.pointer (some ⟨w.heap.size, 0, none⟩), .pointer (some ⟨w.heap.size + 1, 0, none⟩)] (fun _ W => Upd [] W0 W) (fun _ => False) W0 (by omega) Tryd.call60 (Upd.refl [] W0) (fun k W h => by rw [hW0] at h; exact hK.imp (u0.trans h) (NIn.mono (u0.trans h) d)) (fun k W V h hu => h.trans hu) (fun k hk cs W h hin => by
    obtain ⟨kk, s, num, pos, a2, c2, rfl⟩ := h0 W cs k hk hin
    rw [hW0] at h
    refine Calls.mono (un1_nil W w.heap.size bm (w.heap.size + 1) kk num pos s l a2 c2 hl (hbd.mono h (by simp)) (hD.upd (u0.trans h) (by simp))) ?_
    rintro e w' ⟨rfl, hu⟩
    exact ⟨true, rfl, fun _ => by rw [hW0]; exact h.trans hu, fun h => by cases h⟩)
  have hb0 := hbr.cell
  rw [← hW0] at u0 hbr
  have HU0 : Hid (Upd [] w W0) := u0
  have HBR : Hid (FunB W0 (w.heap.size + 1) (.slice none 0 0) 45) := hbr
  have HW0 : Hid (W0 = _) := hW0
  clear u0 hbd hbr hW0 hK hl h0 hD hb0
  go_enter Tryd.func35, Tryd.ntmps35
  go_wp2_with fail
  rw [← HW0.out]
  refine Calls.mono (HA.out ()) ?_
  rintro e w1 ⟨b, rfl, hy, hn⟩
  cases b with
  | false => exact (hn rfl).elim
  | true =>
    have U1 := hy rfl
    have hr1 := HBR.out.mono U1 (by simp)
    have e0 := hr1.cell
    have e1 := hr1.free
    have HR1 : Hid (FunB w1 (w.heap.size + 1) (.slice none 0 0) 45) := hr1
    have HU1 : Hid (Upd [] w w1) := HU0.out.trans U1
    clear hy hn U1 hr1
    go_wp2
    have f0 := (HR1.out.set (.slice none 0 0)).cell
    refine bodyPost_ret (v := .tuple #[.slice none 0 0, .bool true]) (by simp [results, Tryd.results35, go_sem, f0]) rfl ⟨rfl, ?_⟩
    exact HU1.out.setCell (Or.inl (by simp)) _

/-- How far the one node has come. -/
def UnI (W0 : World) (br g n c : Nat) : Nat → World → Prop
  | 0, W => Upd [] W0 W
  | _ + 1, W => Upd [br] W0 W ∧ ∃ b1 c1, FunB W br (.slice (some ⟨b1, 0, none⟩) 1 c1) 45 ∧ W0.heap.size ≤ b1 ∧ b1 < W.heap.size ∧ W.cell? ⟨b1, 0, none⟩ = some (.slice (some ⟨g, 0, none⟩) n c) ∧ 1 ≤ c1 ∧ c1 ≤ 9223372036854775807
theorem UnI.later {W0 : World} {br g n c k : Nat} {W V : World} (h : UnI W0 br g n c k W) (hu : Upd [] W V) : UnI W0 br g n c k V := by
  cases k with
  | zero => exact Upd.trans h hu
  | succ k =>
    obtain ⟨h1, b1, c1, h2, h3, h4, h5, h6⟩ := h
    exact ⟨h1.then hu (by simp), b1, c1, h2.mono hu (by simp), h3, Nat.lt_of_lt_of_le h4 hu.size, (hu.cell (p := ⟨b1, 0, none⟩) h4 (by simp)).trans h5, h6⟩
set_option maxHeartbeats 1000000 in
set_option maxRecDepth 100000 in
/-- all, of a row of one node. -/
theorem all_one (w : World) (b c fid : Nat) (cp : Array Value) (q0 q1 q2 q3 q4 : Value) (R : World → Prop) (eg : ∀ args w, (callFunc fid args).run Tryd.prog w = .ok (.enter fid args) w) (hb : Tb w b #[q0, q1, q2, q3, q4]) (hone : (#[q0, q1, q2, q3, q4] : Array Value).all (·.oneCell') = true)
    (hc : ∀ W, Upd [] w W → Calls Tryd.prog fid (#[.agg #[q0, q1, q2, q3, q4]] ++ cp) W fun e w' => e = .returned (.bool true) ∧ R w') :
    Calls Tryd.prog 42 #[.slice (some ⟨b, 0, none⟩) 1 c, .func (.func fid) #[] cp] w fun e w' => e = .returned (.bool true) ∧ R w' := by
  have x0 : w.cell? ⟨b, 0, none⟩ = some q0 := hb.cell 0
  have x1 : w.cell? ⟨b, 1, none⟩ = some q1 := hb.cell 1
  have x2 : w.cell? ⟨b, 2, none⟩ = some q2 := hb.cell 2
  have x3 : w.cell? ⟨b, 3, none⟩ = some q3 := hb.cell 3
  have x4 : w.cell? ⟨b, 4, none⟩ = some q4 := hb.cell 4
  have HC : Hid (∀ W, Upd [] w W → Calls Tryd.prog fid (#[.agg #[q0, q1, q2, q3, q4]] ++ cp) W fun e w' => e = .returned (.bool true) ∧ R w') := hc
  have tz : Tb (w.alloc (.cells #[.int .u8 0, .string ⟨#[]⟩, .int .i64 0, .int .i64 0, .slice none 0 0] 25)) w.heap.size #[.int .u8 0, .string ⟨#[]⟩, .int .i64 0, .int .i64 0, .slice none 0 0] := Tb.new _ _ _ rfl
  have HUZ : Hid (Upd [] w (w.alloc (.cells #[.int .u8 0, .string ⟨#[]⟩, .int .i64 0, .int .i64 0, .slice none 0 0] 25))) := (Upd.refl [] w).alloc _
  clear hc hb
  go_enter Tryd.func42, Tryd.ntmps42
  go_wp2
  refine wp_loop_rounds 2 ?_
  rw [rounds_succ]
  go_wp2_with (first
    | (refine store_T _ rfl _ _ rfl _ #[q0, q1, q2, q3, q4] _ rfl rfl tz rfl rfl hone ?_; intro w1 t1 u1)
    | (refine load_T _ rfl _ rfl _ _ rfl t1 rfl ?_)
    | fail)
  refine Calls.mono (HC.out _ (HUZ.out.then u1 (by simp))) ?_
  rintro e w2 ⟨rfl, hR⟩
  have HR : Hid (R w2) := hR
  clear hR t1 u1 tz x0 x1 x2 x3 x4
  go_wp2
  rw [rounds_succ]
  go_wp2
  go_ret
  exact ⟨rfl, HR.out⟩
set_option maxHeartbeats 1000000 in
set_option maxRecDepth 100000 in
/-- A row of one node with kids. -/
theorem unmet_one (w : World) (bm b c0 : Nat) (k num pos : Int) (s : ByteArray) (l : List (Option Addr × Int × Int)) (g n c : Nat) (hn : 0 < n) (hn2 : n ≤ 20000) (hb : Tb w b #[.int .u8 k, .string s, .int .i64 num, .int .i64 pos, .slice (some ⟨g, 0, none⟩) n c]) (hl : ∀ t ∈ l, ∀ W, Upd [] w W → Far W (some ⟨g, 0, none⟩) t.1) (hD : DM w bm l) :
    Calls Tryd.prog 35 #[.slice (some ⟨b, 0, none⟩) 1 c0, .map (some bm)] w fun e w' => ∃ b1 c1, e = .returned (.tuple #[.slice (some ⟨b1, 0, none⟩) 1 c1, .bool true]) ∧ Upd [] w w' ∧ w.heap.size ≤ b1 ∧ b1 < w'.heap.size ∧ w'.cell? ⟨b1, 0, none⟩ = some (.slice (some ⟨g, 0, none⟩) n c) ∧ 1 ≤ c1 ∧ c1 ≤ 9223372036854775807 := by
  have u0 : Upd [] w ((w.alloc (.cells #[.map (some bm)] 44)).alloc (.cells #[.slice none 0 0] 45)) := ((Upd.refl [] w).alloc _).alloc _
  have hbd : FunB ((w.alloc (.cells #[.map (some bm)] 44)).alloc (.cells #[.slice none 0 0] 45)) w.heap.size (.map (some bm)) 44 := (FunB.new w _ _ _ rfl).mono ((Upd.refl [] _).alloc _) (by simp)
  have hbr : FunB ((w.alloc (.cells #[.map (some bm)] 44)).alloc (.cells #[.slice none 0 0] 45)) (w.heap.size + 1) (.slice none 0 0) 45 := FunB.new _ _ _ _ (by simp)
  have hz : ((w.alloc (.cells #[.map (some bm)] 44)).alloc (.cells #[.slice none 0 0] 45)).heap.size = w.heap.size + 2 := by simp
  obtain ⟨W0, hW0⟩ : ∃ W0, W0 = (w.alloc (.cells #[.map (some bm)] 44)).alloc (.cells #[.slice none 0 0] 45) := ⟨_, rfl⟩
  rw [← hW0] at u0 hbd hbr hz
  have HA : Hid (Unit → _) := fun _ => all_one W0 b c0 60 #[.pointer (some ⟨w.heap.size, 0, none⟩), .pointer (some ⟨w.heap.size + 1, 0, none⟩)] (.int .u8 k) (.string s) (.int .i64 num) (.int .i64 pos) (.slice (some ⟨g, 0, none⟩) n c) (fun W => Upd [w.heap.size + 1] W0 W ∧ ∃ b1 c1, FunB W (w.heap.size + 1) (.slice (some ⟨b1, 0, none⟩) 1 c1) 45 ∧ W0.heap.size ≤ b1 ∧ b1 < W.heap.size ∧ W.cell? ⟨b1, 0, none⟩ = some (.slice (some ⟨g, 0, none⟩) n c) ∧ 1 ≤ c1 ∧ c1 ≤ 9223372036854775807) Tryd.call60 (hb.mono u0 (by simp)) (by simp [Value.oneCell']) (fun W h => by
    refine Calls.mono (un1_new W w.heap.size bm (w.heap.size + 1) k num pos s l g n c hn hn2 (fun t ht V hV => hl t ht V ((u0.trans h).trans hV)) (hbr.mono h (by simp)) (hbd.mono h (by simp)) (hD.upd (u0.trans h) (by simp))) ?_
    rintro e w' ⟨rfl, hu, b1, c1, h1, h2, h3⟩
    exact ⟨rfl, ((Upd.refl [w.heap.size + 1] W0).then h (by simp)).trans hu, b1, c1, h1, Nat.le_trans h.size h2, h3⟩)
  have HU0 : Hid (Upd [] w W0 ∧ W0.heap.size = w.heap.size + 2) := ⟨u0, hz⟩
  have HW0 : Hid (W0 = _) := hW0
  clear u0 hbd hbr hW0 hl hD hb hz
  go_enter Tryd.func35, Tryd.ntmps35
  go_wp2_with fail
  rw [← HW0.out]
  refine Calls.mono (HA.out ()) ?_
  rintro e w1 ⟨rfl, hU1, b1, c1, hr1, hb1, hb2, hb3, hb4⟩
  have e0 := hr1.cell
  have e1 := hr1.free
  have HR1 : Hid (FunB w1 (w.heap.size + 1) (.slice (some ⟨b1, 0, none⟩) 1 c1) 45) := hr1
  have HU1 : Hid (Upd [] w w1) := HU0.out.1.then hU1 (by simp)
  have HB : Hid (W0.heap.size ≤ b1 ∧ b1 < w1.heap.size ∧ w1.cell? ⟨b1, 0, none⟩ = some (.slice (some ⟨g, 0, none⟩) n c) ∧ 1 ≤ c1 ∧ c1 ≤ 9223372036854775807) := ⟨hb1, hb2, hb3, hb4⟩
  clear hU1 hr1 hb1 hb2 hb3 hb4 HA
  go_wp2
  have f0 := (HR1.out.set (.slice (some ⟨b1, 0, none⟩) 1 c1)).cell
  obtain ⟨k1, k2, k3, k4, k5⟩ := HB.out
  have hz := HU0.out.2
  refine bodyPost_ret (v := .tuple #[.slice (some ⟨b1, 0, none⟩) 1 c1, .bool true]) (by simp [results, Tryd.results35, go_sem, f0]) rfl ⟨b1, c1, rfl, HU1.out.setCell (Or.inl (by simp)) _, by omega, by simpa using k2, ?_, k4, k5⟩
  rw [((Upd.refl [w.heap.size + 1] w1).setCell (p := ⟨w.heap.size + 1, 0, none⟩) (Or.inr (by simp)) _).cell (p := ⟨b1, 0, none⟩) k2 (by simp; omega)]
  exact k3

end Go.Proofs.YtehfoblfmehbdaaDoor
