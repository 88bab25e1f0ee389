/- Compare of the reference, by its contract. -/
import Derived.Test.YtaoipmmeialpnaaGreatDoorJAP
namespace Go.Proofs.YtaoipmmeialpnaaGreatDoor
open Go.RowKit

set_option maxHeartbeats 8000000 in
set_option maxRecDepth 100000 in
theorem rCompare_lt (a ai at' b bi bt : Option Addr) (ca ci ct cb cbi cbt : Nat) (na nb' : Bool) (A B : List Nat) (x y : Int) (w : World) (HA : TI w na a A x) (HB : TI w nb' b B y) (ha : na = true) (hb : nb' = false) :
    Calls Tryz.prog 123 #[.agg #[.int .u8 1, .bool na, .slice a A.length ca, .string ⟨#[]⟩, .int .i64 0, .slice ai 0 ci, .slice at' 0 ct], .agg #[.int .u8 1, .bool nb', .slice b B.length cb, .string ⟨#[]⟩, .int .i64 0, .slice bi 0 cbi, .slice bt 0 cbt]] w fun e w' => e = .returned (.int .i64 (cmpZ x y)) ∧ Upd [] w w' := by
  have IA : Hid (TI w na a A x) := HA
  have IB : Hid (TI w nb' b B y) := HB
  have hxs := HA.sg
  have hys := HB.sg
  have hxn := HA.sgn
  have hyn := HB.sgn
  subst ha hb
  have hz : cmpZ x y = -1 := by
    unfold cmpZ
    have h1 : decide (x < 0) = true := hxn.symm
    have h2 : decide (y < 0) = false := hyn.symm
    simp at h1 h2
    repeat (first | rw [if_pos (by omega)] | rw [if_neg (by omega)])
  rw [hz]
  clear hz
  have HX1 : Hid (x.natAbs < 2 ^ 1024) := by show x.natAbs < _; rw [← pow_eq]; exact HA.small
  have HY1 : Hid (y.natAbs < 2 ^ 1024) := by show y.natAbs < _; rw [← pow_eq]; exact HB.small
  clear HA HB hxs hys hxn hyn
  go_enter Tryz.func123, Tryz.ntmps123
  go_wp2_with fail
  have u0 := ((Upd.refl [] w).alloc (.cells #[.int .u8 1, .bool true, .slice a A.length ca, .string ⟨#[]⟩, .int .i64 0, .slice ai 0 ci, .slice at' 0 ct] 26)).alloc (.cells #[.int .u8 1, .bool false, .slice b B.length cb, .string ⟨#[]⟩, .int .i64 0, .slice bi 0 cbi, .slice bt 0 cbt] 26)
  have ta0 := (Tb.new w #[.int .u8 1, .bool true, .slice a A.length ca, .string ⟨#[]⟩, .int .i64 0, .slice ai 0 ci, .slice at' 0 ct] _ rfl).old (.cells #[.int .u8 1, .bool false, .slice b B.length cb, .string ⟨#[]⟩, .int .i64 0, .slice bi 0 cbi, .slice bt 0 cbt] 26)
  have tb0 := Tb.new (w.alloc (.cells #[.int .u8 1, .bool true, .slice a A.length ca, .string ⟨#[]⟩, .int .i64 0, .slice ai 0 ci, .slice at' 0 ct] 26)) #[.int .u8 1, .bool false, .slice b B.length cb, .string ⟨#[]⟩, .int .i64 0, .slice bi 0 cbi, .slice bt 0 cbt] (w.heap.size + 1) (by simp)
  refine (TI.rRight (TI.mono IA.out u0) ai at' ca ci ct).mono ?_
  rintro e w1 ⟨rfl, h1⟩
  have u1 := u0.trans h1
  have ta1 := ta0.mono h1 (by simp)
  have tb1 := tb0.mono h1 (by simp)
  clear u0 ta0 tb0 h1
  go_wp2_with (first | (refine load_G _ _ rfl _ _ rfl tb1 rfl rfl ?_))
  refine (TI.rRight (TI.mono IB.out u1) bi bt cb cbi cbt).mono ?_
  rintro e w2 ⟨rfl, h2⟩
  have u2 := u1.trans h2
  have ta2 := ta1.mono h2 (by simp)
  have tb2 := tb1.mono h2 (by simp)
  have ia2 : Hid (TI w2 true a A x) := TI.mono IA.out u2
  have ib2 : Hid (TI w2 false b B y) := TI.mono IB.out u2
  have U2 : Hid (Upd [] w w2) := u2
  have ca2 : w2.cell? ⟨w.heap.size, 1, none⟩ = some (.bool true) := ta2.cell 1
  have cb2 : w2.cell? ⟨w.heap.size + 1, 1, none⟩ = some (.bool false) := tb2.cell 1
  clear u1 ta1 tb1 h2 u2 IA IB
  go_wp2
  go_ret
  exact ⟨rfl, U2.out⟩

set_option maxHeartbeats 8000000 in
set_option maxRecDepth 100000 in
theorem rCompare_gt (a ai at' b bi bt : Option Addr) (ca ci ct cb cbi cbt : Nat) (na nb' : Bool) (A B : List Nat) (x y : Int) (w : World) (HA : TI w na a A x) (HB : TI w nb' b B y) (ha : na = false) (hb : nb' = true) :
    Calls Tryz.prog 123 #[.agg #[.int .u8 1, .bool na, .slice a A.length ca, .string ⟨#[]⟩, .int .i64 0, .slice ai 0 ci, .slice at' 0 ct], .agg #[.int .u8 1, .bool nb', .slice b B.length cb, .string ⟨#[]⟩, .int .i64 0, .slice bi 0 cbi, .slice bt 0 cbt]] w fun e w' => e = .returned (.int .i64 (cmpZ x y)) ∧ Upd [] w w' := by
  have IA : Hid (TI w na a A x) := HA
  have IB : Hid (TI w nb' b B y) := HB
  have hxs := HA.sg
  have hys := HB.sg
  have hxn := HA.sgn
  have hyn := HB.sgn
  subst ha hb
  have hz : cmpZ x y = 1 := by
    unfold cmpZ
    have h1 : decide (x < 0) = false := hxn.symm
    have h2 : decide (y < 0) = true := hyn.symm
    simp at h1 h2
    repeat (first | rw [if_pos (by omega)] | rw [if_neg (by omega)])
  rw [hz]
  clear hz
  have HX1 : Hid (x.natAbs < 2 ^ 1024) := by show x.natAbs < _; rw [← pow_eq]; exact HA.small
  have HY1 : Hid (y.natAbs < 2 ^ 1024) := by show y.natAbs < _; rw [← pow_eq]; exact HB.small
  clear HA HB hxs hys hxn hyn
  go_enter Tryz.func123, Tryz.ntmps123
  go_wp2_with fail
  have u0 := ((Upd.refl [] w).alloc (.cells #[.int .u8 1, .bool false, .slice a A.length ca, .string ⟨#[]⟩, .int .i64 0, .slice ai 0 ci, .slice at' 0 ct] 26)).alloc (.cells #[.int .u8 1, .bool true, .slice b B.length cb, .string ⟨#[]⟩, .int .i64 0, .slice bi 0 cbi, .slice bt 0 cbt] 26)
  have ta0 := (Tb.new w #[.int .u8 1, .bool false, .slice a A.length ca, .string ⟨#[]⟩, .int .i64 0, .slice ai 0 ci, .slice at' 0 ct] _ rfl).old (.cells #[.int .u8 1, .bool true, .slice b B.length cb, .string ⟨#[]⟩, .int .i64 0, .slice bi 0 cbi, .slice bt 0 cbt] 26)
  have tb0 := Tb.new (w.alloc (.cells #[.int .u8 1, .bool false, .slice a A.length ca, .string ⟨#[]⟩, .int .i64 0, .slice ai 0 ci, .slice at' 0 ct] 26)) #[.int .u8 1, .bool true, .slice b B.length cb, .string ⟨#[]⟩, .int .i64 0, .slice bi 0 cbi, .slice bt 0 cbt] (w.heap.size + 1) (by simp)
  refine (TI.rRight (TI.mono IA.out u0) ai at' ca ci ct).mono ?_
  rintro e w1 ⟨rfl, h1⟩
  have u1 := u0.trans h1
  have ta1 := ta0.mono h1 (by simp)
  have tb1 := tb0.mono h1 (by simp)
  clear u0 ta0 tb0 h1
  go_wp2_with (first | (refine load_G _ _ rfl _ _ rfl tb1 rfl rfl ?_))
  refine (TI.rRight (TI.mono IB.out u1) bi bt cb cbi cbt).mono ?_
  rintro e w2 ⟨rfl, h2⟩
  have u2 := u1.trans h2
  have ta2 := ta1.mono h2 (by simp)
  have tb2 := tb1.mono h2 (by simp)
  have ia2 : Hid (TI w2 false a A x) := TI.mono IA.out u2
  have ib2 : Hid (TI w2 true b B y) := TI.mono IB.out u2
  have U2 : Hid (Upd [] w w2) := u2
  have ca2 : w2.cell? ⟨w.heap.size, 1, none⟩ = some (.bool false) := ta2.cell 1
  have cb2 : w2.cell? ⟨w.heap.size + 1, 1, none⟩ = some (.bool true) := tb2.cell 1
  clear u1 ta1 tb1 h2 u2 IA IB
  go_wp2
  go_ret
  exact ⟨rfl, U2.out⟩

set_option maxHeartbeats 8000000 in
set_option maxRecDepth 100000 in
theorem rCompare_eq (a ai at' b bi bt : Option Addr) (ca ci ct cb cbi cbt : Nat) (na nb' : Bool) (A B : List Nat) (x y : Int) (w : World) (HA : TI w na a A x) (HB : TI w nb' b B y) (hs : na = nb') (hlt : x.natAbs = y.natAbs) :
    Calls Tryz.prog 123 #[.agg #[.int .u8 1, .bool na, .slice a A.length ca, .string ⟨#[]⟩, .int .i64 0, .slice ai 0 ci, .slice at' 0 ct], .agg #[.int .u8 1, .bool nb', .slice b B.length cb, .string ⟨#[]⟩, .int .i64 0, .slice bi 0 cbi, .slice bt 0 cbt]] w fun e w' => e = .returned (.int .i64 (cmpZ x y)) ∧ Upd [] w w' := by
  have IA : Hid (TI w na a A x) := HA
  have IB : Hid (TI w nb' b B y) := HB
  have hxs := HA.sg
  have hys := HB.sg
  have hxn := HA.sgn
  have hyn := HB.sgn
  have hz : cmpZ x y = 0 := by
    unfold cmpZ
    subst hs
    cases na
    · have h1 : x = (x.natAbs : Int) := by simpa [sg] using hxs.symm
      have h2 : y = (y.natAbs : Int) := by simpa [sg] using hys.symm
      repeat (first | rw [if_pos (by omega)] | rw [if_neg (by omega)])
    · have h1 : x = -(x.natAbs : Int) := by simpa [sg] using hxs.symm
      have h2 : y = -(y.natAbs : Int) := by simpa [sg] using hys.symm
      repeat (first | rw [if_pos (by omega)] | rw [if_neg (by omega)])
  have H1 : Hid (decide (x.natAbs < y.natAbs) = false) := decide_eq_false (by omega)
  have H2 : Hid (decide (y.natAbs < x.natAbs) = false) := decide_eq_false (by omega)
  have heq : (na == nb') = true := by rw [hs]; simp
  rw [hz]
  clear hz hs hlt
  have HX1 : Hid (x.natAbs < 2 ^ 1024) := by show x.natAbs < _; rw [← pow_eq]; exact HA.small
  have HY1 : Hid (y.natAbs < 2 ^ 1024) := by show y.natAbs < _; rw [← pow_eq]; exact HB.small
  clear HA HB hxs hys hxn hyn
  go_enter Tryz.func123, Tryz.ntmps123
  go_wp2_with fail
  have u0 := ((Upd.refl [] w).alloc (.cells #[.int .u8 1, .bool na, .slice a A.length ca, .string ⟨#[]⟩, .int .i64 0, .slice ai 0 ci, .slice at' 0 ct] 26)).alloc (.cells #[.int .u8 1, .bool nb', .slice b B.length cb, .string ⟨#[]⟩, .int .i64 0, .slice bi 0 cbi, .slice bt 0 cbt] 26)
  have ta0 := (Tb.new w #[.int .u8 1, .bool na, .slice a A.length ca, .string ⟨#[]⟩, .int .i64 0, .slice ai 0 ci, .slice at' 0 ct] _ rfl).old (.cells #[.int .u8 1, .bool nb', .slice b B.length cb, .string ⟨#[]⟩, .int .i64 0, .slice bi 0 cbi, .slice bt 0 cbt] 26)
  have tb0 := Tb.new (w.alloc (.cells #[.int .u8 1, .bool na, .slice a A.length ca, .string ⟨#[]⟩, .int .i64 0, .slice ai 0 ci, .slice at' 0 ct] 26)) #[.int .u8 1, .bool nb', .slice b B.length cb, .string ⟨#[]⟩, .int .i64 0, .slice bi 0 cbi, .slice bt 0 cbt] (w.heap.size + 1) (by simp)
  refine (TI.rRight (TI.mono IA.out u0) ai at' ca ci ct).mono ?_
  rintro e w1 ⟨rfl, h1⟩
  have u1 := u0.trans h1
  have ta1 := ta0.mono h1 (by simp)
  have tb1 := tb0.mono h1 (by simp)
  clear u0 ta0 tb0 h1
  go_wp2_with (first | (refine load_G _ _ rfl _ _ rfl tb1 rfl rfl ?_))
  refine (TI.rRight (TI.mono IB.out u1) bi bt cb cbi cbt).mono ?_
  rintro e w2 ⟨rfl, h2⟩
  have u2 := u1.trans h2
  have ta2 := ta1.mono h2 (by simp)
  have tb2 := tb1.mono h2 (by simp)
  have ia2 : Hid (TI w2 na a A x) := TI.mono IA.out u2
  have ib2 : Hid (TI w2 nb' b B y) := TI.mono IB.out u2
  have U2 : Hid (Upd [] w w2) := u2
  have ca2 : w2.cell? ⟨w.heap.size, 1, none⟩ = some (.bool na) := ta2.cell 1
  have cb2 : w2.cell? ⟨w.heap.size + 1, 1, none⟩ = some (.bool nb') := tb2.cell 1
  clear u1 ta1 tb1 h2 u2 IA IB
  go_upto_region 7 with fail
  go_cut [5, 6] (fun s6 s7 wx => ∃ ax cx X ay cy Y, s6 = .slice ax X.length cx ∧ s7 = .slice ay Y.length cy ∧ NormB X x.natAbs ∧ NormB Y y.natAbs ∧ BA wx ax X ∧ BA wx ay Y ∧ Upd [] w2 wx)
  case first =>
    have r0 : w2.cell? ⟨w.heap.size, 0, none⟩ = some (.int .u8 1) := ta2.cell 0
    have s0 : w2.cell? ⟨w.heap.size + 1, 0, none⟩ = some (.int .u8 1) := tb2.cell 0
    have r1 : w2.cell? ⟨w.heap.size, 1, none⟩ = some (.bool na) := ta2.cell 1
    have s1 : w2.cell? ⟨w.heap.size + 1, 1, none⟩ = some (.bool nb') := tb2.cell 1
    have r2 : w2.cell? ⟨w.heap.size, 2, none⟩ = some (.slice a A.length ca) := ta2.cell 2
    have s2 : w2.cell? ⟨w.heap.size + 1, 2, none⟩ = some (.slice b B.length cb) := tb2.cell 2
    have r3 : w2.cell? ⟨w.heap.size, 3, none⟩ = some (.string ⟨#[]⟩) := ta2.cell 3
    have s3 : w2.cell? ⟨w.heap.size + 1, 3, none⟩ = some (.string ⟨#[]⟩) := tb2.cell 3
    have r4 : w2.cell? ⟨w.heap.size, 4, none⟩ = some (.int .i64 0) := ta2.cell 4
    have s4 : w2.cell? ⟨w.heap.size + 1, 4, none⟩ = some (.int .i64 0) := tb2.cell 4
    have r5 : w2.cell? ⟨w.heap.size, 5, none⟩ = some (.slice ai 0 ci) := ta2.cell 5
    have s5 : w2.cell? ⟨w.heap.size + 1, 5, none⟩ = some (.slice bi 0 cbi) := tb2.cell 5
    have r6 : w2.cell? ⟨w.heap.size, 6, none⟩ = some (.slice at' 0 ct) := ta2.cell 6
    have s6 : w2.cell? ⟨w.heap.size + 1, 6, none⟩ = some (.slice bt 0 cbt) := tb2.cell 6
    have hlr := ta2.lt
    have hlb := tb2.lt
    have hta : Hid (Tb w2 (w.heap.size) #[.int .u8 1, .bool na, .slice a A.length ca, .string ⟨#[]⟩, .int .i64 0, .slice ai 0 ci, .slice at' 0 ct]) := ta2
    have htb : Hid (Tb w2 (w.heap.size + 1) #[.int .u8 1, .bool nb', .slice b B.length cb, .string ⟨#[]⟩, .int .i64 0, .slice bi 0 cbi, .slice bt 0 cbt]) := tb2
    clear ta2 tb2
    go_region_held3 (fun w' => w'.cell? ⟨w.heap.size, 0, none⟩ = some (.int .u8 1) ∧ w'.cell? ⟨w.heap.size, 1, none⟩ = some (.bool na) ∧ w'.cell? ⟨w.heap.size, 2, none⟩ = some (.slice a A.length ca) ∧ w'.cell? ⟨w.heap.size, 3, none⟩ = some (.string ⟨#[]⟩) ∧ w'.cell? ⟨w.heap.size, 4, none⟩ = some (.int .i64 0) ∧ w'.cell? ⟨w.heap.size, 5, none⟩ = some (.slice ai 0 ci) ∧ w'.cell? ⟨w.heap.size, 6, none⟩ = some (.slice at' 0 ct) ∧ w'.cell? ⟨w.heap.size + 1, 0, none⟩ = some (.int .u8 1) ∧ w'.cell? ⟨w.heap.size + 1, 1, none⟩ = some (.bool nb') ∧ w'.cell? ⟨w.heap.size + 1, 2, none⟩ = some (.slice b B.length cb) ∧ w'.cell? ⟨w.heap.size + 1, 3, none⟩ = some (.string ⟨#[]⟩) ∧ w'.cell? ⟨w.heap.size + 1, 4, none⟩ = some (.int .i64 0) ∧ w'.cell? ⟨w.heap.size + 1, 5, none⟩ = some (.slice bi 0 cbi) ∧ w'.cell? ⟨w.heap.size + 1, 6, none⟩ = some (.slice bt 0 cbt))
      (go_keep)
      (first
        | (go_at_call_of 146 (Value.slice a A.length ca); refine (bits_any a ai at' ca ci ct na A x _ ?_).mono ?_; (exact TI.mono (Hid.out ia2) (by repeat (first | exact Upd.refl _ _ | refine Upd.drew ?_))); rintro e v1 ⟨hv1, ax, cx, Mx, rfl, znx, zbx, zfx, zdx, zex⟩; have uv1 : Hid (Upd [] w2 v1) := Upd.trans (by repeat (first | exact Upd.refl _ _ | refine Upd.drew ?_)) hv1; have pv1 : Tb v1 (w.heap.size) #[.int .u8 1, .bool na, .slice a A.length ca, .string ⟨#[]⟩, .int .i64 0, .slice ai 0 ci, .slice at' 0 ct] := Tb.mono (Hid.out hta) (Hid.out uv1) (by simp); have qv1 : Tb v1 (w.heap.size + 1) #[.int .u8 1, .bool nb', .slice b B.length cb, .string ⟨#[]⟩, .int .i64 0, .slice bi 0 cbi, .slice bt 0 cbt] := Tb.mono (Hid.out htb) (Hid.out uv1) (by simp); have r0v1 : v1.cell? ⟨w.heap.size, 0, none⟩ = some (.int .u8 1) := pv1.cell 0; have s0v1 : v1.cell? ⟨w.heap.size + 1, 0, none⟩ = some (.int .u8 1) := qv1.cell 0; have r1v1 : v1.cell? ⟨w.heap.size, 1, none⟩ = some (.bool na) := pv1.cell 1; have s1v1 : v1.cell? ⟨w.heap.size + 1, 1, none⟩ = some (.bool nb') := qv1.cell 1; have r2v1 : v1.cell? ⟨w.heap.size, 2, none⟩ = some (.slice a A.length ca) := pv1.cell 2; have s2v1 : v1.cell? ⟨w.heap.size + 1, 2, none⟩ = some (.slice b B.length cb) := qv1.cell 2; have r3v1 : v1.cell? ⟨w.heap.size, 3, none⟩ = some (.string ⟨#[]⟩) := pv1.cell 3; have s3v1 : v1.cell? ⟨w.heap.size + 1, 3, none⟩ = some (.string ⟨#[]⟩) := qv1.cell 3; have r4v1 : v1.cell? ⟨w.heap.size, 4, none⟩ = some (.int .i64 0) := pv1.cell 4; have s4v1 : v1.cell? ⟨w.heap.size + 1, 4, none⟩ = some (.int .i64 0) := qv1.cell 4; have r5v1 : v1.cell? ⟨w.heap.size, 5, none⟩ = some (.slice ai 0 ci) := pv1.cell 5; have s5v1 : v1.cell? ⟨w.heap.size + 1, 5, none⟩ = some (.slice bi 0 cbi) := qv1.cell 5; have r6v1 : v1.cell? ⟨w.heap.size, 6, none⟩ = some (.slice at' 0 ct) := pv1.cell 6; have s6v1 : v1.cell? ⟨w.heap.size + 1, 6, none⟩ = some (.slice bt 0 cbt) := qv1.cell 6; have htav1 : Hid (Tb v1 (w.heap.size) #[.int .u8 1, .bool na, .slice a A.length ca, .string ⟨#[]⟩, .int .i64 0, .slice ai 0 ci, .slice at' 0 ct]) := pv1; have htbv1 : Hid (Tb v1 (w.heap.size + 1) #[.int .u8 1, .bool nb', .slice b B.length cb, .string ⟨#[]⟩, .int .i64 0, .slice bi 0 cbi, .slice bt 0 cbt]) := qv1; have Nx : Hid (NormB Mx _) := znx; have Bx : Hid (BA v1 ax Mx) := zbx; clear pv1 qv1 znx zbx zfx)
        | (go_at_call_of 146 (Value.slice b B.length cb); refine (bits_any b bi bt cb cbi cbt nb' B y _ ?_).mono ?_; (exact TI.mono (TI.mono (Hid.out ib2) (Hid.out uv1)) (by repeat (first | exact Upd.refl _ _ | refine Upd.drew ?_))); rintro e v2 ⟨hv2, ay, cy, My, rfl, zny, zby, zfy, zdy, zey⟩; have uv2 : Hid (Upd [] v1 v2) := Upd.trans (by repeat (first | exact Upd.refl _ _ | refine Upd.drew ?_)) hv2; have pv2 : Tb v2 (w.heap.size) #[.int .u8 1, .bool na, .slice a A.length ca, .string ⟨#[]⟩, .int .i64 0, .slice ai 0 ci, .slice at' 0 ct] := Tb.mono (Hid.out htav1) (Hid.out uv2) (by simp); have qv2 : Tb v2 (w.heap.size + 1) #[.int .u8 1, .bool nb', .slice b B.length cb, .string ⟨#[]⟩, .int .i64 0, .slice bi 0 cbi, .slice bt 0 cbt] := Tb.mono (Hid.out htbv1) (Hid.out uv2) (by simp); have r0v2 : v2.cell? ⟨w.heap.size, 0, none⟩ = some (.int .u8 1) := pv2.cell 0; have s0v2 : v2.cell? ⟨w.heap.size + 1, 0, none⟩ = some (.int .u8 1) := qv2.cell 0; have r1v2 : v2.cell? ⟨w.heap.size, 1, none⟩ = some (.bool na) := pv2.cell 1; have s1v2 : v2.cell? ⟨w.heap.size + 1, 1, none⟩ = some (.bool nb') := qv2.cell 1; have r2v2 : v2.cell? ⟨w.heap.size, 2, none⟩ = some (.slice a A.length ca) := pv2.cell 2; have s2v2 : v2.cell? ⟨w.heap.size + 1, 2, none⟩ = some (.slice b B.length cb) := qv2.cell 2; have r3v2 : v2.cell? ⟨w.heap.size, 3, none⟩ = some (.string ⟨#[]⟩) := pv2.cell 3; have s3v2 : v2.cell? ⟨w.heap.size + 1, 3, none⟩ = some (.string ⟨#[]⟩) := qv2.cell 3; have r4v2 : v2.cell? ⟨w.heap.size, 4, none⟩ = some (.int .i64 0) := pv2.cell 4; have s4v2 : v2.cell? ⟨w.heap.size + 1, 4, none⟩ = some (.int .i64 0) := qv2.cell 4; have r5v2 : v2.cell? ⟨w.heap.size, 5, none⟩ = some (.slice ai 0 ci) := pv2.cell 5; have s5v2 : v2.cell? ⟨w.heap.size + 1, 5, none⟩ = some (.slice bi 0 cbi) := qv2.cell 5; have r6v2 : v2.cell? ⟨w.heap.size, 6, none⟩ = some (.slice at' 0 ct) := pv2.cell 6; have s6v2 : v2.cell? ⟨w.heap.size + 1, 6, none⟩ = some (.slice bt 0 cbt) := qv2.cell 6; have htav2 : Hid (Tb v2 (w.heap.size) #[.int .u8 1, .bool na, .slice a A.length ca, .string ⟨#[]⟩, .int .i64 0, .slice ai 0 ci, .slice at' 0 ct]) := pv2; have htbv2 : Hid (Tb v2 (w.heap.size + 1) #[.int .u8 1, .bool nb', .slice b B.length cb, .string ⟨#[]⟩, .int .i64 0, .slice bi 0 cbi, .slice bt 0 cbt]) := qv2; have Ny : Hid (NormB My _) := zny; have By : Hid (BA v2 ay My) := zby; clear pv2 qv2 zny zby zfy))
    all_goals
      go_wp2_with fail
      go_meet
      exact ⟨ax, cx, Mx, ay, cy, My, rfl, rfl, Nx.out, Ny.out, Bx.out.mono uv2.out, By.out, uv1.out.trans uv2.out⟩
  case rest =>
    obtain ⟨ax, cx, X, ay, cy, Y, rfl, rfl, nX, nY, hX, hY, hU3⟩ := hcut
    rename World => w3
    have ta3 := ta2.mono hU3 (by simp)
    have hXl := (nX.len_le 1024).2 HX1.out
    have hYl := (nY.len_le 1024).2 HY1.out
    have HNX : Hid (NormB X x.natAbs) := nX
    have HNY : Hid (NormB Y y.natAbs) := nY
    have U3 : Hid (Upd [] w w3) := U2.out.trans hU3
    have ca3 : w3.cell? ⟨w.heap.size, 1, none⟩ = some (.bool na) := ta3.cell 1
    clear ta2 tb2 hU3 nX nY U2 ca2 cb2
    go_wp2_with fail
    refine (below_any ax ay cx cy _ _ X Y w3 (by omega) (by omega) hX hY HNX.out.eq HNY.out.eq).mono ?_
    rintro e w4 ⟨rfl, hw4⟩
    rw [hw4, H1.out]
    clear hw4
    go_wp2_with fail
    refine (below_any ay ax cy cx _ _ Y X w3 (by omega) (by omega) hY hX HNY.out.eq HNX.out.eq).mono ?_
    rintro e w4 ⟨rfl, hw4⟩
    rw [hw4, H2.out]
    clear hw4
    go_wp2
    go_ret
    exact ⟨rfl, U3.out⟩

set_option maxHeartbeats 8000000 in
set_option maxRecDepth 100000 in
theorem rCompare_less (a ai at' b bi bt : Option Addr) (ca ci ct cb cbi cbt : Nat) (na nb' : Bool) (A B : List Nat) (x y : Int) (w : World) (HA : TI w na a A x) (HB : TI w nb' b B y) (hs : na = nb') (hlt : x.natAbs < y.natAbs) :
    Calls Tryz.prog 123 #[.agg #[.int .u8 1, .bool na, .slice a A.length ca, .string ⟨#[]⟩, .int .i64 0, .slice ai 0 ci, .slice at' 0 ct], .agg #[.int .u8 1, .bool nb', .slice b B.length cb, .string ⟨#[]⟩, .int .i64 0, .slice bi 0 cbi, .slice bt 0 cbt]] w fun e w' => e = .returned (.int .i64 (cmpZ x y)) ∧ Upd [] w w' := by
  have IA : Hid (TI w na a A x) := HA
  have IB : Hid (TI w nb' b B y) := HB
  have hxs := HA.sg
  have hys := HB.sg
  have hxn := HA.sgn
  have hyn := HB.sgn
  have hz : cmpZ x y = (if na then 1 else -1) := by
    unfold cmpZ
    subst hs
    cases na
    · have hb : (if false = true then (1 : Int) else -1) = -1 := rfl
      have h1 : x = (x.natAbs : Int) := by simpa [sg] using hxs.symm
      have h2 : y = (y.natAbs : Int) := by simpa [sg] using hys.symm
      rw [hb]
      repeat (first | rw [if_pos (by omega)] | rw [if_neg (by omega)])
    · have hb : (if true = true then (1 : Int) else -1) = 1 := rfl
      have h1 : x = -(x.natAbs : Int) := by simpa [sg] using hxs.symm
      have h2 : y = -(y.natAbs : Int) := by simpa [sg] using hys.symm
      rw [hb]
      repeat (first | rw [if_pos (by omega)] | rw [if_neg (by omega)])
  have H1 : Hid (decide (x.natAbs < y.natAbs) = true) := decide_eq_true (by omega)
  have H2 : Hid (decide (y.natAbs < x.natAbs) = false) := decide_eq_false (by omega)
  have heq : (na == nb') = true := by rw [hs]; simp
  rw [hz]
  clear hz hs hlt
  have HX1 : Hid (x.natAbs < 2 ^ 1024) := by show x.natAbs < _; rw [← pow_eq]; exact HA.small
  have HY1 : Hid (y.natAbs < 2 ^ 1024) := by show y.natAbs < _; rw [← pow_eq]; exact HB.small
  clear HA HB hxs hys hxn hyn
  go_enter Tryz.func123, Tryz.ntmps123
  go_wp2_with fail
  have u0 := ((Upd.refl [] w).alloc (.cells #[.int .u8 1, .bool na, .slice a A.length ca, .string ⟨#[]⟩, .int .i64 0, .slice ai 0 ci, .slice at' 0 ct] 26)).alloc (.cells #[.int .u8 1, .bool nb', .slice b B.length cb, .string ⟨#[]⟩, .int .i64 0, .slice bi 0 cbi, .slice bt 0 cbt] 26)
  have ta0 := (Tb.new w #[.int .u8 1, .bool na, .slice a A.length ca, .string ⟨#[]⟩, .int .i64 0, .slice ai 0 ci, .slice at' 0 ct] _ rfl).old (.cells #[.int .u8 1, .bool nb', .slice b B.length cb, .string ⟨#[]⟩, .int .i64 0, .slice bi 0 cbi, .slice bt 0 cbt] 26)
  have tb0 := Tb.new (w.alloc (.cells #[.int .u8 1, .bool na, .slice a A.length ca, .string ⟨#[]⟩, .int .i64 0, .slice ai 0 ci, .slice at' 0 ct] 26)) #[.int .u8 1, .bool nb', .slice b B.length cb, .string ⟨#[]⟩, .int .i64 0, .slice bi 0 cbi, .slice bt 0 cbt] (w.heap.size + 1) (by simp)
  refine (TI.rRight (TI.mono IA.out u0) ai at' ca ci ct).mono ?_
  rintro e w1 ⟨rfl, h1⟩
  have u1 := u0.trans h1
  have ta1 := ta0.mono h1 (by simp)
  have tb1 := tb0.mono h1 (by simp)
  clear u0 ta0 tb0 h1
  go_wp2_with (first | (refine load_G _ _ rfl _ _ rfl tb1 rfl rfl ?_))
  refine (TI.rRight (TI.mono IB.out u1) bi bt cb cbi cbt).mono ?_
  rintro e w2 ⟨rfl, h2⟩
  have u2 := u1.trans h2
  have ta2 := ta1.mono h2 (by simp)
  have tb2 := tb1.mono h2 (by simp)
  have ia2 : Hid (TI w2 na a A x) := TI.mono IA.out u2
  have ib2 : Hid (TI w2 nb' b B y) := TI.mono IB.out u2
  have U2 : Hid (Upd [] w w2) := u2
  have ca2 : w2.cell? ⟨w.heap.size, 1, none⟩ = some (.bool na) := ta2.cell 1
  have cb2 : w2.cell? ⟨w.heap.size + 1, 1, none⟩ = some (.bool nb') := tb2.cell 1
  clear u1 ta1 tb1 h2 u2 IA IB
  go_upto_region 7 with fail
  go_cut [5, 6] (fun s6 s7 wx => ∃ ax cx X ay cy Y, s6 = .slice ax X.length cx ∧ s7 = .slice ay Y.length cy ∧ NormB X x.natAbs ∧ NormB Y y.natAbs ∧ BA wx ax X ∧ BA wx ay Y ∧ Upd [] w2 wx)
  case first =>
    have r0 : w2.cell? ⟨w.heap.size, 0, none⟩ = some (.int .u8 1) := ta2.cell 0
    have s0 : w2.cell? ⟨w.heap.size + 1, 0, none⟩ = some (.int .u8 1) := tb2.cell 0
    have r1 : w2.cell? ⟨w.heap.size, 1, none⟩ = some (.bool na) := ta2.cell 1
    have s1 : w2.cell? ⟨w.heap.size + 1, 1, none⟩ = some (.bool nb') := tb2.cell 1
    have r2 : w2.cell? ⟨w.heap.size, 2, none⟩ = some (.slice a A.length ca) := ta2.cell 2
    have s2 : w2.cell? ⟨w.heap.size + 1, 2, none⟩ = some (.slice b B.length cb) := tb2.cell 2
    have r3 : w2.cell? ⟨w.heap.size, 3, none⟩ = some (.string ⟨#[]⟩) := ta2.cell 3
    have s3 : w2.cell? ⟨w.heap.size + 1, 3, none⟩ = some (.string ⟨#[]⟩) := tb2.cell 3
    have r4 : w2.cell? ⟨w.heap.size, 4, none⟩ = some (.int .i64 0) := ta2.cell 4
    have s4 : w2.cell? ⟨w.heap.size + 1, 4, none⟩ = some (.int .i64 0) := tb2.cell 4
    have r5 : w2.cell? ⟨w.heap.size, 5, none⟩ = some (.slice ai 0 ci) := ta2.cell 5
    have s5 : w2.cell? ⟨w.heap.size + 1, 5, none⟩ = some (.slice bi 0 cbi) := tb2.cell 5
    have r6 : w2.cell? ⟨w.heap.size, 6, none⟩ = some (.slice at' 0 ct) := ta2.cell 6
    have s6 : w2.cell? ⟨w.heap.size + 1, 6, none⟩ = some (.slice bt 0 cbt) := tb2.cell 6
    have hlr := ta2.lt
    have hlb := tb2.lt
    have hta : Hid (Tb w2 (w.heap.size) #[.int .u8 1, .bool na, .slice a A.length ca, .string ⟨#[]⟩, .int .i64 0, .slice ai 0 ci, .slice at' 0 ct]) := ta2
    have htb : Hid (Tb w2 (w.heap.size + 1) #[.int .u8 1, .bool nb', .slice b B.length cb, .string ⟨#[]⟩, .int .i64 0, .slice bi 0 cbi, .slice bt 0 cbt]) := tb2
    clear ta2 tb2
    go_region_held3 (fun w' => w'.cell? ⟨w.heap.size, 0, none⟩ = some (.int .u8 1) ∧ w'.cell? ⟨w.heap.size, 1, none⟩ = some (.bool na) ∧ w'.cell? ⟨w.heap.size, 2, none⟩ = some (.slice a A.length ca) ∧ w'.cell? ⟨w.heap.size, 3, none⟩ = some (.string ⟨#[]⟩) ∧ w'.cell? ⟨w.heap.size, 4, none⟩ = some (.int .i64 0) ∧ w'.cell? ⟨w.heap.size, 5, none⟩ = some (.slice ai 0 ci) ∧ w'.cell? ⟨w.heap.size, 6, none⟩ = some (.slice at' 0 ct) ∧ w'.cell? ⟨w.heap.size + 1, 0, none⟩ = some (.int .u8 1) ∧ w'.cell? ⟨w.heap.size + 1, 1, none⟩ = some (.bool nb') ∧ w'.cell? ⟨w.heap.size + 1, 2, none⟩ = some (.slice b B.length cb) ∧ w'.cell? ⟨w.heap.size + 1, 3, none⟩ = some (.string ⟨#[]⟩) ∧ w'.cell? ⟨w.heap.size + 1, 4, none⟩ = some (.int .i64 0) ∧ w'.cell? ⟨w.heap.size + 1, 5, none⟩ = some (.slice bi 0 cbi) ∧ w'.cell? ⟨w.heap.size + 1, 6, none⟩ = some (.slice bt 0 cbt))
      (go_keep)
      (first
        | (go_at_call_of 146 (Value.slice a A.length ca); refine (bits_any a ai at' ca ci ct na A x _ ?_).mono ?_; (exact TI.mono (Hid.out ia2) (by repeat (first | exact Upd.refl _ _ | refine Upd.drew ?_))); rintro e v1 ⟨hv1, ax, cx, Mx, rfl, znx, zbx, zfx, zdx, zex⟩; have uv1 : Hid (Upd [] w2 v1) := Upd.trans (by repeat (first | exact Upd.refl _ _ | refine Upd.drew ?_)) hv1; have pv1 : Tb v1 (w.heap.size) #[.int .u8 1, .bool na, .slice a A.length ca, .string ⟨#[]⟩, .int .i64 0, .slice ai 0 ci, .slice at' 0 ct] := Tb.mono (Hid.out hta) (Hid.out uv1) (by simp); have qv1 : Tb v1 (w.heap.size + 1) #[.int .u8 1, .bool nb', .slice b B.length cb, .string ⟨#[]⟩, .int .i64 0, .slice bi 0 cbi, .slice bt 0 cbt] := Tb.mono (Hid.out htb) (Hid.out uv1) (by simp); have r0v1 : v1.cell? ⟨w.heap.size, 0, none⟩ = some (.int .u8 1) := pv1.cell 0; have s0v1 : v1.cell? ⟨w.heap.size + 1, 0, none⟩ = some (.int .u8 1) := qv1.cell 0; have r1v1 : v1.cell? ⟨w.heap.size, 1, none⟩ = some (.bool na) := pv1.cell 1; have s1v1 : v1.cell? ⟨w.heap.size + 1, 1, none⟩ = some (.bool nb') := qv1.cell 1; have r2v1 : v1.cell? ⟨w.heap.size, 2, none⟩ = some (.slice a A.length ca) := pv1.cell 2; have s2v1 : v1.cell? ⟨w.heap.size + 1, 2, none⟩ = some (.slice b B.length cb) := qv1.cell 2; have r3v1 : v1.cell? ⟨w.heap.size, 3, none⟩ = some (.string ⟨#[]⟩) := pv1.cell 3; have s3v1 : v1.cell? ⟨w.heap.size + 1, 3, none⟩ = some (.string ⟨#[]⟩) := qv1.cell 3; have r4v1 : v1.cell? ⟨w.heap.size, 4, none⟩ = some (.int .i64 0) := pv1.cell 4; have s4v1 : v1.cell? ⟨w.heap.size + 1, 4, none⟩ = some (.int .i64 0) := qv1.cell 4; have r5v1 : v1.cell? ⟨w.heap.size, 5, none⟩ = some (.slice ai 0 ci) := pv1.cell 5; have s5v1 : v1.cell? ⟨w.heap.size + 1, 5, none⟩ = some (.slice bi 0 cbi) := qv1.cell 5; have r6v1 : v1.cell? ⟨w.heap.size, 6, none⟩ = some (.slice at' 0 ct) := pv1.cell 6; have s6v1 : v1.cell? ⟨w.heap.size + 1, 6, none⟩ = some (.slice bt 0 cbt) := qv1.cell 6; have htav1 : Hid (Tb v1 (w.heap.size) #[.int .u8 1, .bool na, .slice a A.length ca, .string ⟨#[]⟩, .int .i64 0, .slice ai 0 ci, .slice at' 0 ct]) := pv1; have htbv1 : Hid (Tb v1 (w.heap.size + 1) #[.int .u8 1, .bool nb', .slice b B.length cb, .string ⟨#[]⟩, .int .i64 0, .slice bi 0 cbi, .slice bt 0 cbt]) := qv1; have Nx : Hid (NormB Mx _) := znx; have Bx : Hid (BA v1 ax Mx) := zbx; clear pv1 qv1 znx zbx zfx)
        | (go_at_call_of 146 (Value.slice b B.length cb); refine (bits_any b bi bt cb cbi cbt nb' B y _ ?_).mono ?_; (exact TI.mono (TI.mono (Hid.out ib2) (Hid.out uv1)) (by repeat (first | exact Upd.refl _ _ | refine Upd.drew ?_))); rintro e v2 ⟨hv2, ay, cy, My, rfl, zny, zby, zfy, zdy, zey⟩; have uv2 : Hid (Upd [] v1 v2) := Upd.trans (by repeat (first | exact Upd.refl _ _ | refine Upd.drew ?_)) hv2; have pv2 : Tb v2 (w.heap.size) #[.int .u8 1, .bool na, .slice a A.length ca, .string ⟨#[]⟩, .int .i64 0, .slice ai 0 ci, .slice at' 0 ct] := Tb.mono (Hid.out htav1) (Hid.out uv2) (by simp); have qv2 : Tb v2 (w.heap.size + 1) #[.int .u8 1, .bool nb', .slice b B.length cb, .string ⟨#[]⟩, .int .i64 0, .slice bi 0 cbi, .slice bt 0 cbt] := Tb.mono (Hid.out htbv1) (Hid.out uv2) (by simp); have r0v2 : v2.cell? ⟨w.heap.size, 0, none⟩ = some (.int .u8 1) := pv2.cell 0; have s0v2 : v2.cell? ⟨w.heap.size + 1, 0, none⟩ = some (.int .u8 1) := qv2.cell 0; have r1v2 : v2.cell? ⟨w.heap.size, 1, none⟩ = some (.bool na) := pv2.cell 1; have s1v2 : v2.cell? ⟨w.heap.size + 1, 1, none⟩ = some (.bool nb') := qv2.cell 1; have r2v2 : v2.cell? ⟨w.heap.size, 2, none⟩ = some (.slice a A.length ca) := pv2.cell 2; have s2v2 : v2.cell? ⟨w.heap.size + 1, 2, none⟩ = some (.slice b B.length cb) := qv2.cell 2; have r3v2 : v2.cell? ⟨w.heap.size, 3, none⟩ = some (.string ⟨#[]⟩) := pv2.cell 3; have s3v2 : v2.cell? ⟨w.heap.size + 1, 3, none⟩ = some (.string ⟨#[]⟩) := qv2.cell 3; have r4v2 : v2.cell? ⟨w.heap.size, 4, none⟩ = some (.int .i64 0) := pv2.cell 4; have s4v2 : v2.cell? ⟨w.heap.size + 1, 4, none⟩ = some (.int .i64 0) := qv2.cell 4; have r5v2 : v2.cell? ⟨w.heap.size, 5, none⟩ = some (.slice ai 0 ci) := pv2.cell 5; have s5v2 : v2.cell? ⟨w.heap.size + 1, 5, none⟩ = some (.slice bi 0 cbi) := qv2.cell 5; have r6v2 : v2.cell? ⟨w.heap.size, 6, none⟩ = some (.slice at' 0 ct) := pv2.cell 6; have s6v2 : v2.cell? ⟨w.heap.size + 1, 6, none⟩ = some (.slice bt 0 cbt) := qv2.cell 6; have htav2 : Hid (Tb v2 (w.heap.size) #[.int .u8 1, .bool na, .slice a A.length ca, .string ⟨#[]⟩, .int .i64 0, .slice ai 0 ci, .slice at' 0 ct]) := pv2; have htbv2 : Hid (Tb v2 (w.heap.size + 1) #[.int .u8 1, .bool nb', .slice b B.length cb, .string ⟨#[]⟩, .int .i64 0, .slice bi 0 cbi, .slice bt 0 cbt]) := qv2; have Ny : Hid (NormB My _) := zny; have By : Hid (BA v2 ay My) := zby; clear pv2 qv2 zny zby zfy))
    all_goals
      go_wp2_with fail
      go_meet
      exact ⟨ax, cx, Mx, ay, cy, My, rfl, rfl, Nx.out, Ny.out, Bx.out.mono uv2.out, By.out, uv1.out.trans uv2.out⟩
  case rest =>
    obtain ⟨ax, cx, X, ay, cy, Y, rfl, rfl, nX, nY, hX, hY, hU3⟩ := hcut
    rename World => w3
    have ta3 := ta2.mono hU3 (by simp)
    have hXl := (nX.len_le 1024).2 HX1.out
    have hYl := (nY.len_le 1024).2 HY1.out
    have HNX : Hid (NormB X x.natAbs) := nX
    have HNY : Hid (NormB Y y.natAbs) := nY
    have U3 : Hid (Upd [] w w3) := U2.out.trans hU3
    have ca3 : w3.cell? ⟨w.heap.size, 1, none⟩ = some (.bool na) := ta3.cell 1
    clear ta2 tb2 hU3 nX nY U2 ca2 cb2
    go_wp2_with fail
    refine (below_any ax ay cx cy _ _ X Y w3 (by omega) (by omega) hX hY HNX.out.eq HNY.out.eq).mono ?_
    rintro e w4 ⟨rfl, hw4⟩
    rw [hw4, H1.out]
    clear hw4
    go_wp2_with fail
    refine (below_any ay ax cy cx _ _ Y X w3 (by omega) (by omega) hY hX HNY.out.eq HNX.out.eq).mono ?_
    rintro e w4 ⟨rfl, hw4⟩
    rw [hw4, H2.out]
    clear hw4
    go_wp2_with fail
    go_region_with (go_at_call 178; refine (below_any ax ay cx cy _ _ X Y _ ?_ ?_ ?_ ?_ HNX.out.eq HNY.out.eq).mono ?_; (omega); (omega); (exact BA.mono hX (by repeat (first | exact Upd.refl _ _ | refine Upd.drew ?_))); (exact BA.mono hY (by repeat (first | exact Upd.refl _ _ | refine Upd.drew ?_))); rintro e w5 ⟨rfl, hw5⟩; rw [hw5, H1.out]; clear hw5)
    all_goals
      cases na
      all_goals
        go_wp2
        go_ret
        exact ⟨rfl, U3.out.drew⟩

set_option maxHeartbeats 8000000 in
set_option maxRecDepth 100000 in
theorem rCompare_more (a ai at' b bi bt : Option Addr) (ca ci ct cb cbi cbt : Nat) (na nb' : Bool) (A B : List Nat) (x y : Int) (w : World) (HA : TI w na a A x) (HB : TI w nb' b B y) (hs : na = nb') (hlt : y.natAbs < x.natAbs) :
    Calls Tryz.prog 123 #[.agg #[.int .u8 1, .bool na, .slice a A.length ca, .string ⟨#[]⟩, .int .i64 0, .slice ai 0 ci, .slice at' 0 ct], .agg #[.int .u8 1, .bool nb', .slice b B.length cb, .string ⟨#[]⟩, .int .i64 0, .slice bi 0 cbi, .slice bt 0 cbt]] w fun e w' => e = .returned (.int .i64 (cmpZ x y)) ∧ Upd [] w w' := by
  have IA : Hid (TI w na a A x) := HA
  have IB : Hid (TI w nb' b B y) := HB
  have hxs := HA.sg
  have hys := HB.sg
  have hxn := HA.sgn
  have hyn := HB.sgn
  have hz : cmpZ x y = (if na then -1 else 1) := by
    unfold cmpZ
    subst hs
    cases na
    · have hb : (if false = true then (-1 : Int) else 1) = 1 := rfl
      have h1 : x = (x.natAbs : Int) := by simpa [sg] using hxs.symm
      have h2 : y = (y.natAbs : Int) := by simpa [sg] using hys.symm
      rw [hb]
      repeat (first | rw [if_pos (by omega)] | rw [if_neg (by omega)])
    · have hb : (if true = true then (-1 : Int) else 1) = -1 := rfl
      have h1 : x = -(x.natAbs : Int) := by simpa [sg] using hxs.symm
      have h2 : y = -(y.natAbs : Int) := by simpa [sg] using hys.symm
      rw [hb]
      repeat (first | rw [if_pos (by omega)] | rw [if_neg (by omega)])
  have H1 : Hid (decide (x.natAbs < y.natAbs) = false) := decide_eq_false (by omega)
  have H2 : Hid (decide (y.natAbs < x.natAbs) = true) := decide_eq_true (by omega)
  have heq : (na == nb') = true := by rw [hs]; simp
  rw [hz]
  clear hz hs hlt
  have HX1 : Hid (x.natAbs < 2 ^ 1024) := by show x.natAbs < _; rw [← pow_eq]; exact HA.small
  have HY1 : Hid (y.natAbs < 2 ^ 1024) := by show y.natAbs < _; rw [← pow_eq]; exact HB.small
  clear HA HB hxs hys hxn hyn
  go_enter Tryz.func123, Tryz.ntmps123
  go_wp2_with fail
  have u0 := ((Upd.refl [] w).alloc (.cells #[.int .u8 1, .bool na, .slice a A.length ca, .string ⟨#[]⟩, .int .i64 0, .slice ai 0 ci, .slice at' 0 ct] 26)).alloc (.cells #[.int .u8 1, .bool nb', .slice b B.length cb, .string ⟨#[]⟩, .int .i64 0, .slice bi 0 cbi, .slice bt 0 cbt] 26)
  have ta0 := (Tb.new w #[.int .u8 1, .bool na, .slice a A.length ca, .string ⟨#[]⟩, .int .i64 0, .slice ai 0 ci, .slice at' 0 ct] _ rfl).old (.cells #[.int .u8 1, .bool nb', .slice b B.length cb, .string ⟨#[]⟩, .int .i64 0, .slice bi 0 cbi, .slice bt 0 cbt] 26)
  have tb0 := Tb.new (w.alloc (.cells #[.int .u8 1, .bool na, .slice a A.length ca, .string ⟨#[]⟩, .int .i64 0, .slice ai 0 ci, .slice at' 0 ct] 26)) #[.int .u8 1, .bool nb', .slice b B.length cb, .string ⟨#[]⟩, .int .i64 0, .slice bi 0 cbi, .slice bt 0 cbt] (w.heap.size + 1) (by simp)
  refine (TI.rRight (TI.mono IA.out u0) ai at' ca ci ct).mono ?_
  rintro e w1 ⟨rfl, h1⟩
  have u1 := u0.trans h1
  have ta1 := ta0.mono h1 (by simp)
  have tb1 := tb0.mono h1 (by simp)
  clear u0 ta0 tb0 h1
  go_wp2_with (first | (refine load_G _ _ rfl _ _ rfl tb1 rfl rfl ?_))
  refine (TI.rRight (TI.mono IB.out u1) bi bt cb cbi cbt).mono ?_
  rintro e w2 ⟨rfl, h2⟩
  have u2 := u1.trans h2
  have ta2 := ta1.mono h2 (by simp)
  have tb2 := tb1.mono h2 (by simp)
  have ia2 : Hid (TI w2 na a A x) := TI.mono IA.out u2
  have ib2 : Hid (TI w2 nb' b B y) := TI.mono IB.out u2
  have U2 : Hid (Upd [] w w2) := u2
  have ca2 : w2.cell? ⟨w.heap.size, 1, none⟩ = some (.bool na) := ta2.cell 1
  have cb2 : w2.cell? ⟨w.heap.size + 1, 1, none⟩ = some (.bool nb') := tb2.cell 1
  clear u1 ta1 tb1 h2 u2 IA IB
  go_upto_region 7 with fail
  go_cut [5, 6] (fun s6 s7 wx => ∃ ax cx X ay cy Y, s6 = .slice ax X.length cx ∧ s7 = .slice ay Y.length cy ∧ NormB X x.natAbs ∧ NormB Y y.natAbs ∧ BA wx ax X ∧ BA wx ay Y ∧ Upd [] w2 wx)
  case first =>
    have r0 : w2.cell? ⟨w.heap.size, 0, none⟩ = some (.int .u8 1) := ta2.cell 0
    have s0 : w2.cell? ⟨w.heap.size + 1, 0, none⟩ = some (.int .u8 1) := tb2.cell 0
    have r1 : w2.cell? ⟨w.heap.size, 1, none⟩ = some (.bool na) := ta2.cell 1
    have s1 : w2.cell? ⟨w.heap.size + 1, 1, none⟩ = some (.bool nb') := tb2.cell 1
    have r2 : w2.cell? ⟨w.heap.size, 2, none⟩ = some (.slice a A.length ca) := ta2.cell 2
    have s2 : w2.cell? ⟨w.heap.size + 1, 2, none⟩ = some (.slice b B.length cb) := tb2.cell 2
    have r3 : w2.cell? ⟨w.heap.size, 3, none⟩ = some (.string ⟨#[]⟩) := ta2.cell 3
    have s3 : w2.cell? ⟨w.heap.size + 1, 3, none⟩ = some (.string ⟨#[]⟩) := tb2.cell 3
    have r4 : w2.cell? ⟨w.heap.size, 4, none⟩ = some (.int .i64 0) := ta2.cell 4
    have s4 : w2.cell? ⟨w.heap.size + 1, 4, none⟩ = some (.int .i64 0) := tb2.cell 4
    have r5 : w2.cell? ⟨w.heap.size, 5, none⟩ = some (.slice ai 0 ci) := ta2.cell 5
    have s5 : w2.cell? ⟨w.heap.size + 1, 5, none⟩ = some (.slice bi 0 cbi) := tb2.cell 5
    have r6 : w2.cell? ⟨w.heap.size, 6, none⟩ = some (.slice at' 0 ct) := ta2.cell 6
    have s6 : w2.cell? ⟨w.heap.size + 1, 6, none⟩ = some (.slice bt 0 cbt) := tb2.cell 6
    have hlr := ta2.lt
    have hlb := tb2.lt
    have hta : Hid (Tb w2 (w.heap.size) #[.int .u8 1, .bool na, .slice a A.length ca, .string ⟨#[]⟩, .int .i64 0, .slice ai 0 ci, .slice at' 0 ct]) := ta2
    have htb : Hid (Tb w2 (w.heap.size + 1) #[.int .u8 1, .bool nb', .slice b B.length cb, .string ⟨#[]⟩, .int .i64 0, .slice bi 0 cbi, .slice bt 0 cbt]) := tb2
    clear ta2 tb2
    go_region_held3 (fun w' => w'.cell? ⟨w.heap.size, 0, none⟩ = some (.int .u8 1) ∧ w'.cell? ⟨w.heap.size, 1, none⟩ = some (.bool na) ∧ w'.cell? ⟨w.heap.size, 2, none⟩ = some (.slice a A.length ca) ∧ w'.cell? ⟨w.heap.size, 3, none⟩ = some (.string ⟨#[]⟩) ∧ w'.cell? ⟨w.heap.size, 4, none⟩ = some (.int .i64 0) ∧ w'.cell? ⟨w.heap.size, 5, none⟩ = some (.slice ai 0 ci) ∧ w'.cell? ⟨w.heap.size, 6, none⟩ = some (.slice at' 0 ct) ∧ w'.cell? ⟨w.heap.size + 1, 0, none⟩ = some (.int .u8 1) ∧ w'.cell? ⟨w.heap.size + 1, 1, none⟩ = some (.bool nb') ∧ w'.cell? ⟨w.heap.size + 1, 2, none⟩ = some (.slice b B.length cb) ∧ w'.cell? ⟨w.heap.size + 1, 3, none⟩ = some (.string ⟨#[]⟩) ∧ w'.cell? ⟨w.heap.size + 1, 4, none⟩ = some (.int .i64 0) ∧ w'.cell? ⟨w.heap.size + 1, 5, none⟩ = some (.slice bi 0 cbi) ∧ w'.cell? ⟨w.heap.size + 1, 6, none⟩ = some (.slice bt 0 cbt))
      (go_keep)
      (first
        | (go_at_call_of 146 (Value.slice a A.length ca); refine (bits_any a ai at' ca ci ct na A x _ ?_).mono ?_; (exact TI.mono (Hid.out ia2) (by repeat (first | exact Upd.refl _ _ | refine Upd.drew ?_))); rintro e v1 ⟨hv1, ax, cx, Mx, rfl, znx, zbx, zfx, zdx, zex⟩; have uv1 : Hid (Upd [] w2 v1) := Upd.trans (by repeat (first | exact Upd.refl _ _ | refine Upd.drew ?_)) hv1; have pv1 : Tb v1 (w.heap.size) #[.int .u8 1, .bool na, .slice a A.length ca, .string ⟨#[]⟩, .int .i64 0, .slice ai 0 ci, .slice at' 0 ct] := Tb.mono (Hid.out hta) (Hid.out uv1) (by simp); have qv1 : Tb v1 (w.heap.size + 1) #[.int .u8 1, .bool nb', .slice b B.length cb, .string ⟨#[]⟩, .int .i64 0, .slice bi 0 cbi, .slice bt 0 cbt] := Tb.mono (Hid.out htb) (Hid.out uv1) (by simp); have r0v1 : v1.cell? ⟨w.heap.size, 0, none⟩ = some (.int .u8 1) := pv1.cell 0; have s0v1 : v1.cell? ⟨w.heap.size + 1, 0, none⟩ = some (.int .u8 1) := qv1.cell 0; have r1v1 : v1.cell? ⟨w.heap.size, 1, none⟩ = some (.bool na) := pv1.cell 1; have s1v1 : v1.cell? ⟨w.heap.size + 1, 1, none⟩ = some (.bool nb') := qv1.cell 1; have r2v1 : v1.cell? ⟨w.heap.size, 2, none⟩ = some (.slice a A.length ca) := pv1.cell 2; have s2v1 : v1.cell? ⟨w.heap.size + 1, 2, none⟩ = some (.slice b B.length cb) := qv1.cell 2; have r3v1 : v1.cell? ⟨w.heap.size, 3, none⟩ = some (.string ⟨#[]⟩) := pv1.cell 3; have s3v1 : v1.cell? ⟨w.heap.size + 1, 3, none⟩ = some (.string ⟨#[]⟩) := qv1.cell 3; have r4v1 : v1.cell? ⟨w.heap.size, 4, none⟩ = some (.int .i64 0) := pv1.cell 4; have s4v1 : v1.cell? ⟨w.heap.size + 1, 4, none⟩ = some (.int .i64 0) := qv1.cell 4; have r5v1 : v1.cell? ⟨w.heap.size, 5, none⟩ = some (.slice ai 0 ci) := pv1.cell 5; have s5v1 : v1.cell? ⟨w.heap.size + 1, 5, none⟩ = some (.slice bi 0 cbi) := qv1.cell 5; have r6v1 : v1.cell? ⟨w.heap.size, 6, none⟩ = some (.slice at' 0 ct) := pv1.cell 6; have s6v1 : v1.cell? ⟨w.heap.size + 1, 6, none⟩ = some (.slice bt 0 cbt) := qv1.cell 6; have htav1 : Hid (Tb v1 (w.heap.size) #[.int .u8 1, .bool na, .slice a A.length ca, .string ⟨#[]⟩, .int .i64 0, .slice ai 0 ci, .slice at' 0 ct]) := pv1; have htbv1 : Hid (Tb v1 (w.heap.size + 1) #[.int .u8 1, .bool nb', .slice b B.length cb, .string ⟨#[]⟩, .int .i64 0, .slice bi 0 cbi, .slice bt 0 cbt]) := qv1; have Nx : Hid (NormB Mx _) := znx; have Bx : Hid (BA v1 ax Mx) := zbx; clear pv1 qv1 znx zbx zfx)
        | (go_at_call_of 146 (Value.slice b B.length cb); refine (bits_any b bi bt cb cbi cbt nb' B y _ ?_).mono ?_; (exact TI.mono (TI.mono (Hid.out ib2) (Hid.out uv1)) (by repeat (first | exact Upd.refl _ _ | refine Upd.drew ?_))); rintro e v2 ⟨hv2, ay, cy, My, rfl, zny, zby, zfy, zdy, zey⟩; have uv2 : Hid (Upd [] v1 v2) := Upd.trans (by repeat (first | exact Upd.refl _ _ | refine Upd.drew ?_)) hv2; have pv2 : Tb v2 (w.heap.size) #[.int .u8 1, .bool na, .slice a A.length ca, .string ⟨#[]⟩, .int .i64 0, .slice ai 0 ci, .slice at' 0 ct] := Tb.mono (Hid.out htav1) (Hid.out uv2) (by simp); have qv2 : Tb v2 (w.heap.size + 1) #[.int .u8 1, .bool nb', .slice b B.length cb, .string ⟨#[]⟩, .int .i64 0, .slice bi 0 cbi, .slice bt 0 cbt] := Tb.mono (Hid.out htbv1) (Hid.out uv2) (by simp); have r0v2 : v2.cell? ⟨w.heap.size, 0, none⟩ = some (.int .u8 1) := pv2.cell 0; have s0v2 : v2.cell? ⟨w.heap.size + 1, 0, none⟩ = some (.int .u8 1) := qv2.cell 0; have r1v2 : v2.cell? ⟨w.heap.size, 1, none⟩ = some (.bool na) := pv2.cell 1; have s1v2 : v2.cell? ⟨w.heap.size + 1, 1, none⟩ = some (.bool nb') := qv2.cell 1; have r2v2 : v2.cell? ⟨w.heap.size, 2, none⟩ = some (.slice a A.length ca) := pv2.cell 2; have s2v2 : v2.cell? ⟨w.heap.size + 1, 2, none⟩ = some (.slice b B.length cb) := qv2.cell 2; have r3v2 : v2.cell? ⟨w.heap.size, 3, none⟩ = some (.string ⟨#[]⟩) := pv2.cell 3; have s3v2 : v2.cell? ⟨w.heap.size + 1, 3, none⟩ = some (.string ⟨#[]⟩) := qv2.cell 3; have r4v2 : v2.cell? ⟨w.heap.size, 4, none⟩ = some (.int .i64 0) := pv2.cell 4; have s4v2 : v2.cell? ⟨w.heap.size + 1, 4, none⟩ = some (.int .i64 0) := qv2.cell 4; have r5v2 : v2.cell? ⟨w.heap.size, 5, none⟩ = some (.slice ai 0 ci) := pv2.cell 5; have s5v2 : v2.cell? ⟨w.heap.size + 1, 5, none⟩ = some (.slice bi 0 cbi) := qv2.cell 5; have r6v2 : v2.cell? ⟨w.heap.size, 6, none⟩ = some (.slice at' 0 ct) := pv2.cell 6; have s6v2 : v2.cell? ⟨w.heap.size + 1, 6, none⟩ = some (.slice bt 0 cbt) := qv2.cell 6; have htav2 : Hid (Tb v2 (w.heap.size) #[.int .u8 1, .bool na, .slice a A.length ca, .string ⟨#[]⟩, .int .i64 0, .slice ai 0 ci, .slice at' 0 ct]) := pv2; have htbv2 : Hid (Tb v2 (w.heap.size + 1) #[.int .u8 1, .bool nb', .slice b B.length cb, .string ⟨#[]⟩, .int .i64 0, .slice bi 0 cbi, .slice bt 0 cbt]) := qv2; have Ny : Hid (NormB My _) := zny; have By : Hid (BA v2 ay My) := zby; clear pv2 qv2 zny zby zfy))
    all_goals
      go_wp2_with fail
      go_meet
      exact ⟨ax, cx, Mx, ay, cy, My, rfl, rfl, Nx.out, Ny.out, Bx.out.mono uv2.out, By.out, uv1.out.trans uv2.out⟩
  case rest =>
    obtain ⟨ax, cx, X, ay, cy, Y, rfl, rfl, nX, nY, hX, hY, hU3⟩ := hcut
    rename World => w3
    have ta3 := ta2.mono hU3 (by simp)
    have hXl := (nX.len_le 1024).2 HX1.out
    have hYl := (nY.len_le 1024).2 HY1.out
    have HNX : Hid (NormB X x.natAbs) := nX
    have HNY : Hid (NormB Y y.natAbs) := nY
    have U3 : Hid (Upd [] w w3) := U2.out.trans hU3
    have ca3 : w3.cell? ⟨w.heap.size, 1, none⟩ = some (.bool na) := ta3.cell 1
    clear ta2 tb2 hU3 nX nY U2 ca2 cb2
    go_wp2_with fail
    refine (below_any ax ay cx cy _ _ X Y w3 (by omega) (by omega) hX hY HNX.out.eq HNY.out.eq).mono ?_
    rintro e w4 ⟨rfl, hw4⟩
    rw [hw4, H1.out]
    clear hw4
    go_wp2_with fail
    refine (below_any ay ax cy cx _ _ Y X w3 (by omega) (by omega) hY hX HNY.out.eq HNX.out.eq).mono ?_
    rintro e w4 ⟨rfl, hw4⟩
    rw [hw4, H2.out]
    clear hw4
    go_wp2_with fail
    go_region_with (go_at_call 178; refine (below_any ax ay cx cy _ _ X Y _ ?_ ?_ ?_ ?_ HNX.out.eq HNY.out.eq).mono ?_; (omega); (omega); (exact BA.mono hX (by repeat (first | exact Upd.refl _ _ | refine Upd.drew ?_))); (exact BA.mono hY (by repeat (first | exact Upd.refl _ _ | refine Upd.drew ?_))); rintro e w5 ⟨rfl, hw5⟩; rw [hw5, H1.out]; clear hw5)
    all_goals
      cases na
      all_goals
        go_wp2
        go_ret
        exact ⟨rfl, U3.out.drew⟩

/-- Compare of the reference. -/
theorem rCompare_any (a ai at' b bi bt : Option Addr) (ca ci ct cb cbi cbt : Nat) (na nb' : Bool) (A B : List Nat) (x y : Int) (w : World) (HA : TI w na a A x) (HB : TI w nb' b B y) :
    Calls Tryz.prog 123 #[.agg #[.int .u8 1, .bool na, .slice a A.length ca, .string ⟨#[]⟩, .int .i64 0, .slice ai 0 ci, .slice at' 0 ct], .agg #[.int .u8 1, .bool nb', .slice b B.length cb, .string ⟨#[]⟩, .int .i64 0, .slice bi 0 cbi, .slice bt 0 cbt]] w fun e w' => e = .returned (.int .i64 (cmpZ x y)) ∧ Upd [] w w' := by
  by_cases hs : na = nb'
  · rcases Nat.lt_trichotomy x.natAbs y.natAbs with h | h | h
    · exact rCompare_less a ai at' b bi bt ca ci ct cb cbi cbt na nb' A B x y w HA HB hs h
    · exact rCompare_eq a ai at' b bi bt ca ci ct cb cbi cbt na nb' A B x y w HA HB hs h
    · exact rCompare_more a ai at' b bi bt ca ci ct cb cbi cbt na nb' A B x y w HA HB hs h
  · cases na
    · exact rCompare_gt a ai at' b bi bt ca ci ct cb cbi cbt _ _ A B x y w HA HB rfl (by cases nb' <;> simp at hs ⊢)
    · exact rCompare_lt a ai at' b bi bt ca ci ct cb cbi cbt _ _ A B x y w HA HB rfl (by cases nb' <;> simp at hs ⊢)

end Go.Proofs.YtaoipmmeialpnaaGreatDoor
