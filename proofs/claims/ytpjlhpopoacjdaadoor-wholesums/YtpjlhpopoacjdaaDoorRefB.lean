/- Sub of the reference, by its contract. -/
import Derived.Test.YtpjlhpopoacjdaaDoorRefS
import Derived.Deep.DeepCutAuto
import Derived.Deep.RegionHeld3
namespace Go.Proofs.YtpjlhpopoacjdaaDoor
open Go.RowKit

structure Out1 (w2 : World) (g : Nat) (wx : World) (nc : Bool) (ac : Option Addr) (Mc : List Nat) (cc : Nat) (z : Int) : Prop where
  hg : w2.heap.size ≤ g
  tc : Tb wx g #[.int .u8 1, .bool nc, .slice ac Mc.length cc, .string ⟨#[]⟩, .int .i64 0, .slice none 0 0, .slice none 0 0]
  ic : TI wx nc ac Mc z
  upd : Upd [] w2 wx
theorem Out1.a {w2 v : World} {nc : Bool} {ac : Option Addr} {Mc : List Nat} {cc : Nat} {z : Int} (hi : TI v nc ac Mc z) (hU : Upd [] w2 v) : Out1 w2 v.heap.size (v.alloc (.cells #[.int .u8 1, .bool nc, .slice ac Mc.length cc, .string ⟨#[]⟩, .int .i64 0, .slice none 0 0, .slice none 0 0] 26)) nc ac Mc cc z :=
  ⟨hU.size, Tb.new _ _ _ rfl, hi.mono ((Upd.refl [] v).alloc _), hU.alloc _⟩
theorem Out1.s {w2 v : World} {G : Nat} {nc : Bool} {ac : Option Addr} {Mc : List Nat} {cc : Nat} {z : Int} (t : Tb v G #[.int .u8 0, .bool false, .slice none 0 0, .string ⟨#[]⟩, .int .i64 0, .slice none 0 0, .slice none 0 0]) (hG : w2.heap.size ≤ G) (hi : TI v nc ac Mc z) (hU : Upd [] w2 v) : Out1 w2 G (((((((v.setCell ⟨G, 0, none⟩ (.int .u8 1)).setCell ⟨G, 1, none⟩ (.bool nc)).setCell ⟨G, 2, none⟩ (.slice ac Mc.length cc)).setCell ⟨G, 3, none⟩ (.string ⟨#[]⟩)).setCell ⟨G, 4, none⟩ (.int .i64 0)).setCell ⟨G, 5, none⟩ (.slice none 0 0)).setCell ⟨G, 6, none⟩ (.slice none 0 0)) nc ac Mc cc z := by
  have h7 := seven t (.int .u8 1) (.bool nc) (.slice ac Mc.length cc) (.string ⟨#[]⟩) (.int .i64 0) (.slice none 0 0) (.slice none 0 0)
  exact ⟨hG, h7.1, hi.keep t h7.2, hU.then h7.2 (by simp; omega)⟩
theorem Out1.drew {w2 wx : World} {g : Nat} {nc : Bool} {ac : Option Addr} {Mc : List Nat} {cc : Nat} {z : Int} (h : Out1 w2 g wx nc ac Mc cc z) : Out1 w2 g wx.drew nc ac Mc cc z :=
  ⟨h.hg, h.tc.mono (Upd.drew (Upd.refl [] _)) (by simp), h.ic.mono (Upd.drew (Upd.refl [] _)), h.upd.drew⟩

set_option maxHeartbeats 8000000 in
set_option maxRecDepth 100000 in
theorem rSub_right (a ai at' b bi bt : Option Addr) (ca ci ct cb cbi cbt : Nat) (na nb' : Bool) (A B : List Nat) (x y : Int) (w : World) (HA : TI w na a A x) (HB : TI w nb' b B y) :
    Calls Tryd.prog 15 #[.agg #[.int .u8 1, .bool na, .slice a A.length ca, .string ⟨#[]⟩, .int .i64 0, .slice ai 0 ci, .slice at' 0 ct], .agg #[.int .u8 1, .bool nb', .slice b B.length cb, .string ⟨#[]⟩, .int .i64 0, .slice bi 0 cbi, .slice bt 0 cbt]] w fun e w' => Res w' e (x - y) ∧ Upd [] w w' := by
  have IA : Hid (TI w na a A x) := HA
  have IB : Hid (TI w nb' b B y) := HB
  have HZ : Hid (sg (!nb') y.natAbs = -y) := by
    show _ = _
    have h := HB.sg
    generalize y.natAbs = q at *
    subst h
    cases nb' <;> simp [sg]
  have HY1 : Hid (y.natAbs < 2 ^ 1024) := by show y.natAbs < _; rw [← pow_eq]; exact HB.small
  have HS32 : Hid ((-y).natAbs < 4294967296 ^ 32) := by show (-y).natAbs < _; rw [Int.natAbs_neg]; exact HB.small
  clear HA HB
  go_enter Tryd.func15, Tryd.ntmps15
  go_wp2_with fail
  have u0 := (((Upd.refl [] w).alloc (.cells #[.int .u8 1, .bool na, .slice a A.length ca, .string ⟨#[]⟩, .int .i64 0, .slice ai 0 ci, .slice at' 0 ct] 26)).alloc (.cells #[.int .u8 1, .bool nb', .slice b B.length cb, .string ⟨#[]⟩, .int .i64 0, .slice bi 0 cbi, .slice bt 0 cbt] 26)).alloc (.cells #[.int .u8 0, .bool false, .slice none 0 0, .string ⟨#[]⟩, .int .i64 0, .slice none 0 0, .slice none 0 0] 26)
  have ta0 := ((Tb.new w #[.int .u8 1, .bool na, .slice a A.length ca, .string ⟨#[]⟩, .int .i64 0, .slice ai 0 ci, .slice at' 0 ct] _ rfl).old (.cells #[.int .u8 1, .bool nb', .slice b B.length cb, .string ⟨#[]⟩, .int .i64 0, .slice bi 0 cbi, .slice bt 0 cbt] 26)).old (.cells #[.int .u8 0, .bool false, .slice none 0 0, .string ⟨#[]⟩, .int .i64 0, .slice none 0 0, .slice none 0 0] 26)
  have tb0 := (Tb.new (w.alloc (.cells #[.int .u8 1, .bool na, .slice a A.length ca, .string ⟨#[]⟩, .int .i64 0, .slice ai 0 ci, .slice at' 0 ct] 26)) #[.int .u8 1, .bool nb', .slice b B.length cb, .string ⟨#[]⟩, .int .i64 0, .slice bi 0 cbi, .slice bt 0 cbt] (w.heap.size + 1) (by simp)).old (.cells #[.int .u8 0, .bool false, .slice none 0 0, .string ⟨#[]⟩, .int .i64 0, .slice none 0 0, .slice none 0 0] 26)
  have tz0 := Tb.new ((w.alloc (.cells #[.int .u8 1, .bool na, .slice a A.length ca, .string ⟨#[]⟩, .int .i64 0, .slice ai 0 ci, .slice at' 0 ct] 26)).alloc (.cells #[.int .u8 1, .bool nb', .slice b B.length cb, .string ⟨#[]⟩, .int .i64 0, .slice bi 0 cbi, .slice bt 0 cbt] 26)) #[.int .u8 0, .bool false, .slice none 0 0, .string ⟨#[]⟩, .int .i64 0, .slice none 0 0, .slice none 0 0] (w.heap.size + 1 + 1) (by simp)
  refine (TI.rRight (TI.mono IB.out u0) bi bt cb cbi cbt).mono ?_
  rintro e w2 ⟨rfl, h2⟩
  have u2 := u0.trans h2
  have ta2 := ta0.mono h2 (by simp)
  have tb2 := tb0.mono h2 (by simp)
  have tz2 := tz0.mono h2 (by simp)
  have ib2 : Hid (TI w2 nb' b B y) := TI.mono IB.out u2
  have U2 : Hid (Upd [] w w2) := u2
  have hlz := tz2.lt
  clear u0 ta0 tb0 tz0 h2 u2 IB
  go_upto_region 3 with fail
  go_cut [6] (fun s6 wx => ∃ g nc ac cc Mc, s6 = .pointer (some ⟨g, 0, none⟩) ∧ Out1 w2 g wx nc ac Mc cc (-y))
  case first =>
    have htb : Hid (Tb w2 (w.heap.size + 1) #[.int .u8 1, .bool nb', .slice b B.length cb, .string ⟨#[]⟩, .int .i64 0, .slice bi 0 cbi, .slice bt 0 cbt]) := tb2
    have r0 : w2.cell? ⟨w.heap.size + 1, 0, none⟩ = some (.int .u8 1) := tb2.cell 0
    have r1 : w2.cell? ⟨w.heap.size + 1, 1, none⟩ = some (.bool nb') := tb2.cell 1
    have r2 : w2.cell? ⟨w.heap.size + 1, 2, none⟩ = some (.slice b B.length cb) := tb2.cell 2
    have r3 : w2.cell? ⟨w.heap.size + 1, 3, none⟩ = some (.string ⟨#[]⟩) := tb2.cell 3
    have r4 : w2.cell? ⟨w.heap.size + 1, 4, none⟩ = some (.int .i64 0) := tb2.cell 4
    have r5 : w2.cell? ⟨w.heap.size + 1, 5, none⟩ = some (.slice bi 0 cbi) := tb2.cell 5
    have r6 : w2.cell? ⟨w.heap.size + 1, 6, none⟩ = some (.slice bt 0 cbt) := tb2.cell 6
    have hlb := tb2.lt
    have hn0 : (w.heap.size + 1 = w2.heap.size) = False := eq_false (by omega)
    have hn1 : (w2.heap.size = w.heap.size + 1) = False := eq_false (by omega)
    clear ta2 tb2 tz2
    go_region_held3 (fun w' => w'.cell? ⟨w.heap.size + 1, 0, none⟩ = some (.int .u8 1) ∧ w'.cell? ⟨w.heap.size + 1, 1, none⟩ = some (.bool nb') ∧ w'.cell? ⟨w.heap.size + 1, 2, none⟩ = some (.slice b B.length cb) ∧ w'.cell? ⟨w.heap.size + 1, 3, none⟩ = some (.string ⟨#[]⟩) ∧ w'.cell? ⟨w.heap.size + 1, 4, none⟩ = some (.int .i64 0) ∧ w'.cell? ⟨w.heap.size + 1, 5, none⟩ = some (.slice bi 0 cbi) ∧ w'.cell? ⟨w.heap.size + 1, 6, none⟩ = some (.slice bt 0 cbt))
      (go_keep)
      (first
        | (go_at_call 39; refine (made_any ay cy _ (!nb') Y _ ?_ ?_ ?_ ?_ NY.out.eq).mono ?_; (exact Nat.le_trans ((NY.out.len_le 1024).2 HY1.out) (by omega)); (exact zd); (exact ze); (exact BA.mono (Hid.out BY) (by repeat (first | exact Upd.refl _ _ | refine Upd.drew ?_ | refine Upd.alloc ?_ _))); rintro e v2 ⟨hR, hv2⟩; rw [HZ.out] at hR; obtain ⟨_, nc, ac, cc, Mc, rfl, Tc⟩ := hR.resolve_right (fun h => h.1 HS32.out); clear hR; have uv2 : Hid (Upd [] v1 v2) := Upd.trans (by repeat (first | exact Upd.refl _ _ | refine Upd.drew ?_ | refine Upd.alloc ?_ _)) hv2; have pv2 : Tb v2 (w.heap.size + 1) #[.int .u8 1, .bool nb', .slice b B.length cb, .string ⟨#[]⟩, .int .i64 0, .slice bi 0 cbi, .slice bt 0 cbt] := Tb.mono (by first | exact (Hid.out htbv1) | exact Tb.old (Hid.out htbv1) _ ) hv2 (by simp); have r0v2 : v2.cell? ⟨w.heap.size + 1, 0, none⟩ = some (.int .u8 1) := pv2.cell 0; have r1v2 : v2.cell? ⟨w.heap.size + 1, 1, none⟩ = some (.bool nb') := pv2.cell 1; have r2v2 : v2.cell? ⟨w.heap.size + 1, 2, none⟩ = some (.slice b B.length cb) := pv2.cell 2; have r3v2 : v2.cell? ⟨w.heap.size + 1, 3, none⟩ = some (.string ⟨#[]⟩) := pv2.cell 3; have r4v2 : v2.cell? ⟨w.heap.size + 1, 4, none⟩ = some (.int .i64 0) := pv2.cell 4; have r5v2 : v2.cell? ⟨w.heap.size + 1, 5, none⟩ = some (.slice bi 0 cbi) := pv2.cell 5; have r6v2 : v2.cell? ⟨w.heap.size + 1, 6, none⟩ = some (.slice bt 0 cbt) := pv2.cell 6; have sv2 : v1.heap.size ≤ v2.heap.size := (Hid.out uv2).size; have htbv2 : Hid (Tb v2 (w.heap.size + 1) #[.int .u8 1, .bool nb', .slice b B.length cb, .string ⟨#[]⟩, .int .i64 0, .slice bi 0 cbi, .slice bt 0 cbt]) := pv2; clear pv2; have IC : Hid (TI v2 nc ac Mc (-y)) := Tc; clear Tc; (first | (have nv1x : Tb v2 (w2.heap.size) #[.int .u8 0, .bool false, .slice none 0 0, .string ⟨#[]⟩, .int .i64 0, .slice none 0 0, .slice none 0 0] := Tb.mono (by first | exact (Hid.out Hnv1) | exact Tb.old (Hid.out Hnv1) _ ) hv2 (by simp); have nv1xc0 : v2.cell? ⟨w2.heap.size, 0, none⟩ = some (.int .u8 0) := nv1x.cell 0; have nv1xc1 : v2.cell? ⟨w2.heap.size, 1, none⟩ = some (.bool false) := nv1x.cell 1; have nv1xc2 : v2.cell? ⟨w2.heap.size, 2, none⟩ = some (.slice none 0 0) := nv1x.cell 2; have nv1xc3 : v2.cell? ⟨w2.heap.size, 3, none⟩ = some (.string ⟨#[]⟩) := nv1x.cell 3; have nv1xc4 : v2.cell? ⟨w2.heap.size, 4, none⟩ = some (.int .i64 0) := nv1x.cell 4; have nv1xc5 : v2.cell? ⟨w2.heap.size, 5, none⟩ = some (.slice none 0 0) := nv1x.cell 5; have nv1xc6 : v2.cell? ⟨w2.heap.size, 6, none⟩ = some (.slice none 0 0) := nv1x.cell 6; have nv1xf : ∀ i, v2.frozen? ⟨w2.heap.size, i, none⟩ = false := fun i => nv1x.free i; have nv1xl : w2.heap.size < v2.heap.size := nv1x.lt; have Hnv1x : Hid (Tb v2 (w2.heap.size) #[.int .u8 0, .bool false, .slice none 0 0, .string ⟨#[]⟩, .int .i64 0, .slice none 0 0, .slice none 0 0]) := nv1x; clear nv1x) | skip); (first | (have nv2 : Tb v2 v1.heap.size #[.int .u8 0, .bool false, .slice none 0 0, .string ⟨#[]⟩, .int .i64 0, .slice none 0 0, .slice none 0 0] := Tb.mono (by exact Tb.new v1 _ _ rfl) hv2 (by simp); have nv2c0 : v2.cell? ⟨v1.heap.size, 0, none⟩ = some (.int .u8 0) := nv2.cell 0; have nv2c1 : v2.cell? ⟨v1.heap.size, 1, none⟩ = some (.bool false) := nv2.cell 1; have nv2c2 : v2.cell? ⟨v1.heap.size, 2, none⟩ = some (.slice none 0 0) := nv2.cell 2; have nv2c3 : v2.cell? ⟨v1.heap.size, 3, none⟩ = some (.string ⟨#[]⟩) := nv2.cell 3; have nv2c4 : v2.cell? ⟨v1.heap.size, 4, none⟩ = some (.int .i64 0) := nv2.cell 4; have nv2c5 : v2.cell? ⟨v1.heap.size, 5, none⟩ = some (.slice none 0 0) := nv2.cell 5; have nv2c6 : v2.cell? ⟨v1.heap.size, 6, none⟩ = some (.slice none 0 0) := nv2.cell 6; have nv2f : ∀ i, v2.frozen? ⟨v1.heap.size, i, none⟩ = false := fun i => nv2.free i; have nv2l : v1.heap.size < v2.heap.size := nv2.lt; have Hnv2 : Hid (Tb v2 (v1.heap.size) #[.int .u8 0, .bool false, .slice none 0 0, .string ⟨#[]⟩, .int .i64 0, .slice none 0 0, .slice none 0 0]) := nv2; clear nv2) | skip); (try have eB01 : (w.heap.size + 1 = w2.heap.size) = False := eq_false (by omega)); (try have eB02 : (w.heap.size + 1 = v1.heap.size) = False := eq_false (by omega)); (try have eB03 : (w.heap.size + 1 = v2.heap.size) = False := eq_false (by omega)); (try have eB10 : (w2.heap.size = w.heap.size + 1) = False := eq_false (by omega)); (try have eB12 : (w2.heap.size = v1.heap.size) = False := eq_false (by omega)); (try have eB13 : (w2.heap.size = v2.heap.size) = False := eq_false (by omega)); (try have eB20 : (v1.heap.size = w.heap.size + 1) = False := eq_false (by omega)); (try have eB21 : (v1.heap.size = w2.heap.size) = False := eq_false (by omega)); (try have eB23 : (v1.heap.size = v2.heap.size) = False := eq_false (by omega)); (try have eB30 : (v2.heap.size = w.heap.size + 1) = False := eq_false (by omega)); (try have eB31 : (v2.heap.size = w2.heap.size) = False := eq_false (by omega)); (try have eB32 : (v2.heap.size = v1.heap.size) = False := eq_false (by omega)))
        | (go_at_call 38; refine (bits_any b bi bt cb cbi cbt nb' B y _ ?_).mono ?_; (exact TI.mono (Hid.out ib2) (by repeat (first | exact Upd.refl _ _ | refine Upd.drew ?_ | refine Upd.alloc ?_ _))); rintro e v1 ⟨hv1, ay, cy, Y, rfl, zn, zb, zf, zd, ze⟩; have uv1 : Hid (Upd [] w2 v1) := Upd.trans (by repeat (first | exact Upd.refl _ _ | refine Upd.drew ?_ | refine Upd.alloc ?_ _)) hv1; have pv1 : Tb v1 (w.heap.size + 1) #[.int .u8 1, .bool nb', .slice b B.length cb, .string ⟨#[]⟩, .int .i64 0, .slice bi 0 cbi, .slice bt 0 cbt] := Tb.mono (by first | exact (Hid.out htb) | exact Tb.old (Hid.out htb) _ ) hv1 (by simp); have r0v1 : v1.cell? ⟨w.heap.size + 1, 0, none⟩ = some (.int .u8 1) := pv1.cell 0; have r1v1 : v1.cell? ⟨w.heap.size + 1, 1, none⟩ = some (.bool nb') := pv1.cell 1; have r2v1 : v1.cell? ⟨w.heap.size + 1, 2, none⟩ = some (.slice b B.length cb) := pv1.cell 2; have r3v1 : v1.cell? ⟨w.heap.size + 1, 3, none⟩ = some (.string ⟨#[]⟩) := pv1.cell 3; have r4v1 : v1.cell? ⟨w.heap.size + 1, 4, none⟩ = some (.int .i64 0) := pv1.cell 4; have r5v1 : v1.cell? ⟨w.heap.size + 1, 5, none⟩ = some (.slice bi 0 cbi) := pv1.cell 5; have r6v1 : v1.cell? ⟨w.heap.size + 1, 6, none⟩ = some (.slice bt 0 cbt) := pv1.cell 6; have sv1 : w2.heap.size ≤ v1.heap.size := (Hid.out uv1).size; have htbv1 : Hid (Tb v1 (w.heap.size + 1) #[.int .u8 1, .bool nb', .slice b B.length cb, .string ⟨#[]⟩, .int .i64 0, .slice bi 0 cbi, .slice bt 0 cbt]) := pv1; clear pv1; have NY : Hid (NormB Y y.natAbs) := zn; have BY : Hid (BA v1 ay Y) := zb; clear zn zb zf; (first | (have nv1 : Tb v1 w2.heap.size #[.int .u8 0, .bool false, .slice none 0 0, .string ⟨#[]⟩, .int .i64 0, .slice none 0 0, .slice none 0 0] := Tb.mono (by exact Tb.new w2 _ _ rfl) hv1 (by simp); have nv1c0 : v1.cell? ⟨w2.heap.size, 0, none⟩ = some (.int .u8 0) := nv1.cell 0; have nv1c1 : v1.cell? ⟨w2.heap.size, 1, none⟩ = some (.bool false) := nv1.cell 1; have nv1c2 : v1.cell? ⟨w2.heap.size, 2, none⟩ = some (.slice none 0 0) := nv1.cell 2; have nv1c3 : v1.cell? ⟨w2.heap.size, 3, none⟩ = some (.string ⟨#[]⟩) := nv1.cell 3; have nv1c4 : v1.cell? ⟨w2.heap.size, 4, none⟩ = some (.int .i64 0) := nv1.cell 4; have nv1c5 : v1.cell? ⟨w2.heap.size, 5, none⟩ = some (.slice none 0 0) := nv1.cell 5; have nv1c6 : v1.cell? ⟨w2.heap.size, 6, none⟩ = some (.slice none 0 0) := nv1.cell 6; have nv1f : ∀ i, v1.frozen? ⟨w2.heap.size, i, none⟩ = false := fun i => nv1.free i; have nv1l : w2.heap.size < v1.heap.size := nv1.lt; have Hnv1 : Hid (Tb v1 (w2.heap.size) #[.int .u8 0, .bool false, .slice none 0 0, .string ⟨#[]⟩, .int .i64 0, .slice none 0 0, .slice none 0 0]) := nv1; clear nv1) | skip); (try have eA01 : (w.heap.size + 1 = w2.heap.size) = False := eq_false (by omega)); (try have eA02 : (w.heap.size + 1 = v1.heap.size) = False := eq_false (by omega)); (try have eA03 : (w.heap.size + 1 = v2.heap.size) = False := eq_false (by omega)); (try have eA10 : (w2.heap.size = w.heap.size + 1) = False := eq_false (by omega)); (try have eA12 : (w2.heap.size = v1.heap.size) = False := eq_false (by omega)); (try have eA13 : (w2.heap.size = v2.heap.size) = False := eq_false (by omega)); (try have eA20 : (v1.heap.size = w.heap.size + 1) = False := eq_false (by omega)); (try have eA21 : (v1.heap.size = w2.heap.size) = False := eq_false (by omega)); (try have eA23 : (v1.heap.size = v2.heap.size) = False := eq_false (by omega)); (try have eA30 : (v2.heap.size = w.heap.size + 1) = False := eq_false (by omega)); (try have eA31 : (v2.heap.size = w2.heap.size) = False := eq_false (by omega)); (try have eA32 : (v2.heap.size = v1.heap.size) = False := eq_false (by omega))))
    all_goals
      go_wp2_with fail
      go_meet
      refine ⟨_, nc, ac, cc, Mc, rfl, ?_⟩
      clear htb
      first
        | exact Out1.a (v := v2) (Hid.out IC) (Upd.trans (Hid.out uv1) (Hid.out uv2))
        | exact Out1.s (v := v2) (G := w2.heap.size) (Hid.out Hnv1x) (by omega) (Hid.out IC) (Upd.trans (Hid.out uv1) (Hid.out uv2))
        | exact Out1.s (v := v2) (G := v1.heap.size) (Hid.out Hnv2) (by omega) (Hid.out IC) (Upd.trans (Hid.out uv1) (Hid.out uv2))
        | exact Out1.drew (Out1.a (v := v2) (Hid.out IC) (Upd.trans (Hid.out uv1) (Hid.out uv2)))
        | exact Out1.drew (Out1.s (v := v2) (G := w2.heap.size) (Hid.out Hnv1x) (by omega) (Hid.out IC) (Upd.trans (Hid.out uv1) (Hid.out uv2)))
        | exact Out1.drew (Out1.s (v := v2) (G := v1.heap.size) (Hid.out Hnv2) (by omega) (Hid.out IC) (Upd.trans (Hid.out uv1) (Hid.out uv2)))
  case rest =>
    obtain ⟨g, nc, ac, cc, Mc, rfl, hg, tc, ic, hU5⟩ := hcut
    rename World => w5
    have ta5 := ta2.mono hU5 (by simp)
    have tz5 := tz2.mono hU5 (by simp)
    have I5 : Hid (TI w5 nc ac Mc (-y)) := ic
    have U5 : Hid (Upd [] w w5) := U2.out.trans hU5
    clear ta2 tb2 tz2 hU5 ic U2
    go_wp2_with (first | (refine load_G _ _ rfl _ _ rfl ta5 rfl rfl ?_) | (refine load_G _ _ rfl _ _ rfl tc rfl rfl ?_))
    refine (rAdd_any a ai at' ac none none ca ci ct cc 0 0 na nc A Mc x (-y) w5 (TI.mono IA.out U5.out) I5.out).mono ?_
    rintro e w6 ⟨hR, h6⟩
    have tz6 := tz5.mono h6 (by simp)
    have U6 := U5.out.trans h6
    rw [show x + -y = x - y by omega] at hR
    obtain ⟨k4, n4, a4, c4, M4, b4, rfl, hA4, hR4⟩ := Res.open hR
    clear hR
    have R4 : Hid (∀ w'', At w'' a4 M4 → Res w'' (.returned (.tuple #[.agg #[.int .u8 k4, .bool n4, .slice a4 M4.length c4, .string ⟨#[]⟩, .int .i64 0, .slice none 0 0, .slice none 0 0], .bool b4])) (x - y)) := hR4
    clear hR4
    go_wp2_with (refine store_V _ rfl _ _ rfl _ _ _ _ _ _ _ _ _ _ _ _ _ _ _ rfl rfl tz6 rfl ?_; intro w7 hT7 hU7)
    exact ret_Tb Tryd.results15 rfl _ _ _ rfl hT7 rfl rfl ⟨R4.out _ (hA4.keep tz6 hU7), U6.then hU7 (by intro z hz; simp at hz; omega)⟩

set_option maxHeartbeats 8000000 in
set_option maxRecDepth 100000 in
theorem rSub_badA (k num : Int) (s : ByteArray) (a ai at' b bi bt : Option Addr) (ca ni ci nt ct cb cbi cbt : Nat) (na nb' : Bool) (A B : List Nat) (y : Int) (w : World) (hn2 : A.length ≤ 9223372036854775807) (HA : At w a A) (hni : ni ≤ 9223372036854775807) (hnt : nt ≤ 9223372036854775807) (hbad : okT k na A s num ni nt = false) (HB : TI w nb' b B y) :
    Calls Tryd.prog 15 #[.agg #[.int .u8 k, .bool na, .slice a A.length ca, .string s, .int .i64 num, .slice ai ni ci, .slice at' nt ct], .agg #[.int .u8 1, .bool nb', .slice b B.length cb, .string ⟨#[]⟩, .int .i64 0, .slice bi 0 cbi, .slice bt 0 cbt]] w fun e w' => e = .returned (.tuple #[(.agg #[.int .u8 0, .bool false, .slice none 0 0, .string ⟨#[]⟩, .int .i64 0, .slice none 0 0, .slice none 0 0]), .bool false]) ∧ Upd [] w w' := by
  have IA : Hid (At w a A) := HA
  have HBAD : Hid (okT k na A s num ni nt = false) := hbad
  have IB : Hid (TI w nb' b B y) := HB
  have HZ : Hid (sg (!nb') y.natAbs = -y) := by
    show _ = _
    have h := HB.sg
    generalize y.natAbs = q at *
    subst h
    cases nb' <;> simp [sg]
  have HY1 : Hid (y.natAbs < 2 ^ 1024) := by show y.natAbs < _; rw [← pow_eq]; exact HB.small
  have HS32 : Hid ((-y).natAbs < 4294967296 ^ 32) := by show (-y).natAbs < _; rw [Int.natAbs_neg]; exact HB.small
  clear HA HB hbad
  go_enter Tryd.func15, Tryd.ntmps15
  go_wp2_with fail
  have u0 := (((Upd.refl [] w).alloc (.cells #[.int .u8 k, .bool na, .slice a A.length ca, .string s, .int .i64 num, .slice ai ni ci, .slice at' nt ct] 26)).alloc (.cells #[.int .u8 1, .bool nb', .slice b B.length cb, .string ⟨#[]⟩, .int .i64 0, .slice bi 0 cbi, .slice bt 0 cbt] 26)).alloc (.cells #[.int .u8 0, .bool false, .slice none 0 0, .string ⟨#[]⟩, .int .i64 0, .slice none 0 0, .slice none 0 0] 26)
  have ta0 := ((Tb.new w #[.int .u8 k, .bool na, .slice a A.length ca, .string s, .int .i64 num, .slice ai ni ci, .slice at' nt ct] _ rfl).old (.cells #[.int .u8 1, .bool nb', .slice b B.length cb, .string ⟨#[]⟩, .int .i64 0, .slice bi 0 cbi, .slice bt 0 cbt] 26)).old (.cells #[.int .u8 0, .bool false, .slice none 0 0, .string ⟨#[]⟩, .int .i64 0, .slice none 0 0, .slice none 0 0] 26)
  have tb0 := (Tb.new (w.alloc (.cells #[.int .u8 k, .bool na, .slice a A.length ca, .string s, .int .i64 num, .slice ai ni ci, .slice at' nt ct] 26)) #[.int .u8 1, .bool nb', .slice b B.length cb, .string ⟨#[]⟩, .int .i64 0, .slice bi 0 cbi, .slice bt 0 cbt] (w.heap.size + 1) (by simp)).old (.cells #[.int .u8 0, .bool false, .slice none 0 0, .string ⟨#[]⟩, .int .i64 0, .slice none 0 0, .slice none 0 0] 26)
  have tz0 := Tb.new ((w.alloc (.cells #[.int .u8 k, .bool na, .slice a A.length ca, .string s, .int .i64 num, .slice ai ni ci, .slice at' nt ct] 26)).alloc (.cells #[.int .u8 1, .bool nb', .slice b B.length cb, .string ⟨#[]⟩, .int .i64 0, .slice bi 0 cbi, .slice bt 0 cbt] 26)) #[.int .u8 0, .bool false, .slice none 0 0, .string ⟨#[]⟩, .int .i64 0, .slice none 0 0, .slice none 0 0] (w.heap.size + 1 + 1) (by simp)
  refine (TI.rRight (TI.mono IB.out u0) bi bt cb cbi cbt).mono ?_
  rintro e w2 ⟨rfl, h2⟩
  have u2 := u0.trans h2
  have ta2 := ta0.mono h2 (by simp)
  have tb2 := tb0.mono h2 (by simp)
  have tz2 := tz0.mono h2 (by simp)
  have ib2 : Hid (TI w2 nb' b B y) := TI.mono IB.out u2
  have U2 : Hid (Upd [] w w2) := u2
  have hlz := tz2.lt
  clear u0 ta0 tb0 tz0 h2 u2 IB
  go_upto_region 3 with fail
  go_cut [6] (fun s6 wx => ∃ g nc ac cc Mc, s6 = .pointer (some ⟨g, 0, none⟩) ∧ Out1 w2 g wx nc ac Mc cc (-y))
  case first =>
    have htb : Hid (Tb w2 (w.heap.size + 1) #[.int .u8 1, .bool nb', .slice b B.length cb, .string ⟨#[]⟩, .int .i64 0, .slice bi 0 cbi, .slice bt 0 cbt]) := tb2
    have r0 : w2.cell? ⟨w.heap.size + 1, 0, none⟩ = some (.int .u8 1) := tb2.cell 0
    have r1 : w2.cell? ⟨w.heap.size + 1, 1, none⟩ = some (.bool nb') := tb2.cell 1
    have r2 : w2.cell? ⟨w.heap.size + 1, 2, none⟩ = some (.slice b B.length cb) := tb2.cell 2
    have r3 : w2.cell? ⟨w.heap.size + 1, 3, none⟩ = some (.string ⟨#[]⟩) := tb2.cell 3
    have r4 : w2.cell? ⟨w.heap.size + 1, 4, none⟩ = some (.int .i64 0) := tb2.cell 4
    have r5 : w2.cell? ⟨w.heap.size + 1, 5, none⟩ = some (.slice bi 0 cbi) := tb2.cell 5
    have r6 : w2.cell? ⟨w.heap.size + 1, 6, none⟩ = some (.slice bt 0 cbt) := tb2.cell 6
    have hlb := tb2.lt
    have hn0 : (w.heap.size + 1 = w2.heap.size) = False := eq_false (by omega)
    have hn1 : (w2.heap.size = w.heap.size + 1) = False := eq_false (by omega)
    clear ta2 tb2 tz2
    go_region_held3 (fun w' => w'.cell? ⟨w.heap.size + 1, 0, none⟩ = some (.int .u8 1) ∧ w'.cell? ⟨w.heap.size + 1, 1, none⟩ = some (.bool nb') ∧ w'.cell? ⟨w.heap.size + 1, 2, none⟩ = some (.slice b B.length cb) ∧ w'.cell? ⟨w.heap.size + 1, 3, none⟩ = some (.string ⟨#[]⟩) ∧ w'.cell? ⟨w.heap.size + 1, 4, none⟩ = some (.int .i64 0) ∧ w'.cell? ⟨w.heap.size + 1, 5, none⟩ = some (.slice bi 0 cbi) ∧ w'.cell? ⟨w.heap.size + 1, 6, none⟩ = some (.slice bt 0 cbt))
      (go_keep)
      (first
        | (go_at_call 39; refine (made_any ay cy _ (!nb') Y _ ?_ ?_ ?_ ?_ NY.out.eq).mono ?_; (exact Nat.le_trans ((NY.out.len_le 1024).2 HY1.out) (by omega)); (exact zd); (exact ze); (exact BA.mono (Hid.out BY) (by repeat (first | exact Upd.refl _ _ | refine Upd.drew ?_ | refine Upd.alloc ?_ _))); rintro e v2 ⟨hR, hv2⟩; rw [HZ.out] at hR; obtain ⟨_, nc, ac, cc, Mc, rfl, Tc⟩ := hR.resolve_right (fun h => h.1 HS32.out); clear hR; have uv2 : Hid (Upd [] v1 v2) := Upd.trans (by repeat (first | exact Upd.refl _ _ | refine Upd.drew ?_ | refine Upd.alloc ?_ _)) hv2; have pv2 : Tb v2 (w.heap.size + 1) #[.int .u8 1, .bool nb', .slice b B.length cb, .string ⟨#[]⟩, .int .i64 0, .slice bi 0 cbi, .slice bt 0 cbt] := Tb.mono (by first | exact (Hid.out htbv1) | exact Tb.old (Hid.out htbv1) _ ) hv2 (by simp); have r0v2 : v2.cell? ⟨w.heap.size + 1, 0, none⟩ = some (.int .u8 1) := pv2.cell 0; have r1v2 : v2.cell? ⟨w.heap.size + 1, 1, none⟩ = some (.bool nb') := pv2.cell 1; have r2v2 : v2.cell? ⟨w.heap.size + 1, 2, none⟩ = some (.slice b B.length cb) := pv2.cell 2; have r3v2 : v2.cell? ⟨w.heap.size + 1, 3, none⟩ = some (.string ⟨#[]⟩) := pv2.cell 3; have r4v2 : v2.cell? ⟨w.heap.size + 1, 4, none⟩ = some (.int .i64 0) := pv2.cell 4; have r5v2 : v2.cell? ⟨w.heap.size + 1, 5, none⟩ = some (.slice bi 0 cbi) := pv2.cell 5; have r6v2 : v2.cell? ⟨w.heap.size + 1, 6, none⟩ = some (.slice bt 0 cbt) := pv2.cell 6; have sv2 : v1.heap.size ≤ v2.heap.size := (Hid.out uv2).size; have htbv2 : Hid (Tb v2 (w.heap.size + 1) #[.int .u8 1, .bool nb', .slice b B.length cb, .string ⟨#[]⟩, .int .i64 0, .slice bi 0 cbi, .slice bt 0 cbt]) := pv2; clear pv2; have IC : Hid (TI v2 nc ac Mc (-y)) := Tc; clear Tc; (first | (have nv1x : Tb v2 (w2.heap.size) #[.int .u8 0, .bool false, .slice none 0 0, .string ⟨#[]⟩, .int .i64 0, .slice none 0 0, .slice none 0 0] := Tb.mono (by first | exact (Hid.out Hnv1) | exact Tb.old (Hid.out Hnv1) _ ) hv2 (by simp); have nv1xc0 : v2.cell? ⟨w2.heap.size, 0, none⟩ = some (.int .u8 0) := nv1x.cell 0; have nv1xc1 : v2.cell? ⟨w2.heap.size, 1, none⟩ = some (.bool false) := nv1x.cell 1; have nv1xc2 : v2.cell? ⟨w2.heap.size, 2, none⟩ = some (.slice none 0 0) := nv1x.cell 2; have nv1xc3 : v2.cell? ⟨w2.heap.size, 3, none⟩ = some (.string ⟨#[]⟩) := nv1x.cell 3; have nv1xc4 : v2.cell? ⟨w2.heap.size, 4, none⟩ = some (.int .i64 0) := nv1x.cell 4; have nv1xc5 : v2.cell? ⟨w2.heap.size, 5, none⟩ = some (.slice none 0 0) := nv1x.cell 5; have nv1xc6 : v2.cell? ⟨w2.heap.size, 6, none⟩ = some (.slice none 0 0) := nv1x.cell 6; have nv1xf : ∀ i, v2.frozen? ⟨w2.heap.size, i, none⟩ = false := fun i => nv1x.free i; have nv1xl : w2.heap.size < v2.heap.size := nv1x.lt; have Hnv1x : Hid (Tb v2 (w2.heap.size) #[.int .u8 0, .bool false, .slice none 0 0, .string ⟨#[]⟩, .int .i64 0, .slice none 0 0, .slice none 0 0]) := nv1x; clear nv1x) | skip); (first | (have nv2 : Tb v2 v1.heap.size #[.int .u8 0, .bool false, .slice none 0 0, .string ⟨#[]⟩, .int .i64 0, .slice none 0 0, .slice none 0 0] := Tb.mono (by exact Tb.new v1 _ _ rfl) hv2 (by simp); have nv2c0 : v2.cell? ⟨v1.heap.size, 0, none⟩ = some (.int .u8 0) := nv2.cell 0; have nv2c1 : v2.cell? ⟨v1.heap.size, 1, none⟩ = some (.bool false) := nv2.cell 1; have nv2c2 : v2.cell? ⟨v1.heap.size, 2, none⟩ = some (.slice none 0 0) := nv2.cell 2; have nv2c3 : v2.cell? ⟨v1.heap.size, 3, none⟩ = some (.string ⟨#[]⟩) := nv2.cell 3; have nv2c4 : v2.cell? ⟨v1.heap.size, 4, none⟩ = some (.int .i64 0) := nv2.cell 4; have nv2c5 : v2.cell? ⟨v1.heap.size, 5, none⟩ = some (.slice none 0 0) := nv2.cell 5; have nv2c6 : v2.cell? ⟨v1.heap.size, 6, none⟩ = some (.slice none 0 0) := nv2.cell 6; have nv2f : ∀ i, v2.frozen? ⟨v1.heap.size, i, none⟩ = false := fun i => nv2.free i; have nv2l : v1.heap.size < v2.heap.size := nv2.lt; have Hnv2 : Hid (Tb v2 (v1.heap.size) #[.int .u8 0, .bool false, .slice none 0 0, .string ⟨#[]⟩, .int .i64 0, .slice none 0 0, .slice none 0 0]) := nv2; clear nv2) | skip); (try have eB01 : (w.heap.size + 1 = w2.heap.size) = False := eq_false (by omega)); (try have eB02 : (w.heap.size + 1 = v1.heap.size) = False := eq_false (by omega)); (try have eB03 : (w.heap.size + 1 = v2.heap.size) = False := eq_false (by omega)); (try have eB10 : (w2.heap.size = w.heap.size + 1) = False := eq_false (by omega)); (try have eB12 : (w2.heap.size = v1.heap.size) = False := eq_false (by omega)); (try have eB13 : (w2.heap.size = v2.heap.size) = False := eq_false (by omega)); (try have eB20 : (v1.heap.size = w.heap.size + 1) = False := eq_false (by omega)); (try have eB21 : (v1.heap.size = w2.heap.size) = False := eq_false (by omega)); (try have eB23 : (v1.heap.size = v2.heap.size) = False := eq_false (by omega)); (try have eB30 : (v2.heap.size = w.heap.size + 1) = False := eq_false (by omega)); (try have eB31 : (v2.heap.size = w2.heap.size) = False := eq_false (by omega)); (try have eB32 : (v2.heap.size = v1.heap.size) = False := eq_false (by omega)))
        | (go_at_call 38; refine (bits_any b bi bt cb cbi cbt nb' B y _ ?_).mono ?_; (exact TI.mono (Hid.out ib2) (by repeat (first | exact Upd.refl _ _ | refine Upd.drew ?_ | refine Upd.alloc ?_ _))); rintro e v1 ⟨hv1, ay, cy, Y, rfl, zn, zb, zf, zd, ze⟩; have uv1 : Hid (Upd [] w2 v1) := Upd.trans (by repeat (first | exact Upd.refl _ _ | refine Upd.drew ?_ | refine Upd.alloc ?_ _)) hv1; have pv1 : Tb v1 (w.heap.size + 1) #[.int .u8 1, .bool nb', .slice b B.length cb, .string ⟨#[]⟩, .int .i64 0, .slice bi 0 cbi, .slice bt 0 cbt] := Tb.mono (by first | exact (Hid.out htb) | exact Tb.old (Hid.out htb) _ ) hv1 (by simp); have r0v1 : v1.cell? ⟨w.heap.size + 1, 0, none⟩ = some (.int .u8 1) := pv1.cell 0; have r1v1 : v1.cell? ⟨w.heap.size + 1, 1, none⟩ = some (.bool nb') := pv1.cell 1; have r2v1 : v1.cell? ⟨w.heap.size + 1, 2, none⟩ = some (.slice b B.length cb) := pv1.cell 2; have r3v1 : v1.cell? ⟨w.heap.size + 1, 3, none⟩ = some (.string ⟨#[]⟩) := pv1.cell 3; have r4v1 : v1.cell? ⟨w.heap.size + 1, 4, none⟩ = some (.int .i64 0) := pv1.cell 4; have r5v1 : v1.cell? ⟨w.heap.size + 1, 5, none⟩ = some (.slice bi 0 cbi) := pv1.cell 5; have r6v1 : v1.cell? ⟨w.heap.size + 1, 6, none⟩ = some (.slice bt 0 cbt) := pv1.cell 6; have sv1 : w2.heap.size ≤ v1.heap.size := (Hid.out uv1).size; have htbv1 : Hid (Tb v1 (w.heap.size + 1) #[.int .u8 1, .bool nb', .slice b B.length cb, .string ⟨#[]⟩, .int .i64 0, .slice bi 0 cbi, .slice bt 0 cbt]) := pv1; clear pv1; have NY : Hid (NormB Y y.natAbs) := zn; have BY : Hid (BA v1 ay Y) := zb; clear zn zb zf; (first | (have nv1 : Tb v1 w2.heap.size #[.int .u8 0, .bool false, .slice none 0 0, .string ⟨#[]⟩, .int .i64 0, .slice none 0 0, .slice none 0 0] := Tb.mono (by exact Tb.new w2 _ _ rfl) hv1 (by simp); have nv1c0 : v1.cell? ⟨w2.heap.size, 0, none⟩ = some (.int .u8 0) := nv1.cell 0; have nv1c1 : v1.cell? ⟨w2.heap.size, 1, none⟩ = some (.bool false) := nv1.cell 1; have nv1c2 : v1.cell? ⟨w2.heap.size, 2, none⟩ = some (.slice none 0 0) := nv1.cell 2; have nv1c3 : v1.cell? ⟨w2.heap.size, 3, none⟩ = some (.string ⟨#[]⟩) := nv1.cell 3; have nv1c4 : v1.cell? ⟨w2.heap.size, 4, none⟩ = some (.int .i64 0) := nv1.cell 4; have nv1c5 : v1.cell? ⟨w2.heap.size, 5, none⟩ = some (.slice none 0 0) := nv1.cell 5; have nv1c6 : v1.cell? ⟨w2.heap.size, 6, none⟩ = some (.slice none 0 0) := nv1.cell 6; have nv1f : ∀ i, v1.frozen? ⟨w2.heap.size, i, none⟩ = false := fun i => nv1.free i; have nv1l : w2.heap.size < v1.heap.size := nv1.lt; have Hnv1 : Hid (Tb v1 (w2.heap.size) #[.int .u8 0, .bool false, .slice none 0 0, .string ⟨#[]⟩, .int .i64 0, .slice none 0 0, .slice none 0 0]) := nv1; clear nv1) | skip); (try have eA01 : (w.heap.size + 1 = w2.heap.size) = False := eq_false (by omega)); (try have eA02 : (w.heap.size + 1 = v1.heap.size) = False := eq_false (by omega)); (try have eA03 : (w.heap.size + 1 = v2.heap.size) = False := eq_false (by omega)); (try have eA10 : (w2.heap.size = w.heap.size + 1) = False := eq_false (by omega)); (try have eA12 : (w2.heap.size = v1.heap.size) = False := eq_false (by omega)); (try have eA13 : (w2.heap.size = v2.heap.size) = False := eq_false (by omega)); (try have eA20 : (v1.heap.size = w.heap.size + 1) = False := eq_false (by omega)); (try have eA21 : (v1.heap.size = w2.heap.size) = False := eq_false (by omega)); (try have eA23 : (v1.heap.size = v2.heap.size) = False := eq_false (by omega)); (try have eA30 : (v2.heap.size = w.heap.size + 1) = False := eq_false (by omega)); (try have eA31 : (v2.heap.size = w2.heap.size) = False := eq_false (by omega)); (try have eA32 : (v2.heap.size = v1.heap.size) = False := eq_false (by omega))))
    all_goals
      go_wp2_with fail
      go_meet
      refine ⟨_, nc, ac, cc, Mc, rfl, ?_⟩
      clear htb
      first
        | exact Out1.a (v := v2) (Hid.out IC) (Upd.trans (Hid.out uv1) (Hid.out uv2))
        | exact Out1.s (v := v2) (G := w2.heap.size) (Hid.out Hnv1x) (by omega) (Hid.out IC) (Upd.trans (Hid.out uv1) (Hid.out uv2))
        | exact Out1.s (v := v2) (G := v1.heap.size) (Hid.out Hnv2) (by omega) (Hid.out IC) (Upd.trans (Hid.out uv1) (Hid.out uv2))
        | exact Out1.drew (Out1.a (v := v2) (Hid.out IC) (Upd.trans (Hid.out uv1) (Hid.out uv2)))
        | exact Out1.drew (Out1.s (v := v2) (G := w2.heap.size) (Hid.out Hnv1x) (by omega) (Hid.out IC) (Upd.trans (Hid.out uv1) (Hid.out uv2)))
        | exact Out1.drew (Out1.s (v := v2) (G := v1.heap.size) (Hid.out Hnv2) (by omega) (Hid.out IC) (Upd.trans (Hid.out uv1) (Hid.out uv2)))
  case rest =>
    obtain ⟨g, nc, ac, cc, Mc, rfl, hg, tc, ic, hU5⟩ := hcut
    rename World => w5
    have ta5 := ta2.mono hU5 (by simp)
    have tz5 := tz2.mono hU5 (by simp)
    have I5 : Hid (TI w5 nc ac Mc (-y)) := ic
    have U5 : Hid (Upd [] w w5) := U2.out.trans hU5
    clear ta2 tb2 tz2 hU5 ic U2
    go_wp2_with (first | (refine load_G _ _ rfl _ _ rfl ta5 rfl rfl ?_) | (refine load_G _ _ rfl _ _ rfl tc rfl rfl ?_))
    refine (rAdd_badA k num 1 0 na nc A Mc s ⟨#[]⟩ a ai at' ac none none ca ni ci nt ct cc 0 0 0 0 w5 hn2 (IA.out.mono U5.out) hni hnt HBAD.out).mono ?_
    rintro e w6 ⟨rfl, h6⟩
    have tz6 := tz5.mono h6 (by simp)
    have U6 := U5.out.trans h6
    go_wp2_with (refine store_V _ rfl _ _ rfl _ _ _ _ _ _ _ _ _ _ _ _ _ _ _ rfl rfl tz6 rfl ?_; intro w7 hT7 hU7)
    exact ret_Tb Tryd.results15 rfl _ _ _ rfl hT7 rfl rfl ⟨rfl, U6.then hU7 (by intro z hz; simp at hz; omega)⟩

end Go.Proofs.YtpjlhpopoacjdaaDoor
