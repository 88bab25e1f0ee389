/- Div of the reference, by its contract. -/
import Derived.Test.YtpeganecbjefoaaDoorBitT
import Derived.Test.YtpeganecbjefoaaDoorRestH
namespace Go.Proofs.YtpeganecbjefoaaDoor
open Go.RowKit

set_option maxHeartbeats 8000000 in
set_option maxRecDepth 100000 in
theorem rDiv_any (a ai at' b bi bt : Option Addr) (ca ci ct cb cbi cbt : Nat) (na nb' : Bool) (A B : List Nat) (x y : Int) (w : World) (HA : TI w na a A x) (HB : TI w nb' b B y) (hy : y ≠ 0) :
    Calls Tryd.prog 27 #[.agg #[.int .u8 1, .bool na, .slice a A.length ca, .string ⟨#[]⟩, .int .i64 0, .slice ai 0 ci, .slice at' 0 ct], .agg #[.int .u8 1, .bool nb', .slice b B.length cb, .string ⟨#[]⟩, .int .i64 0, .slice bi 0 cbi, .slice bt 0 cbt]] w fun e w' => Upd [] w w' ∧ ∃ nq nr a1 a2 c1 c2 Q R, e = .returned (.tuple #[.agg #[.int .u8 1, .bool nq, .slice a1 Q.length c1, .string ⟨#[]⟩, .int .i64 0, .slice none 0 0, .slice none 0 0], .agg #[.int .u8 1, .bool nr, .slice a2 R.length c2, .string ⟨#[]⟩, .int .i64 0, .slice none 0 0, .slice none 0 0], .bool true]) ∧ TI w' nq a1 Q (x.tdiv y) ∧ TI w' nr a2 R (x.tmod y) := by
  have IA : Hid (TI w na a A x) := HA
  have IB : Hid (TI w nb' b B y) := HB
  have HX1 : Hid (x.natAbs < 2 ^ 1024) := by show x.natAbs < _; rw [← pow_eq]; exact HA.small
  have HY1 : Hid (y.natAbs < 2 ^ 1024) := by show y.natAbs < _; rw [← pow_eq]; exact HB.small
  have HY0 : Hid (0 < y.natAbs) := by show 0 < y.natAbs; omega
  have HS32 : Hid (x.natAbs < 4294967296 ^ 32) := HA.small
  have HZQ : Hid (sg (!(na == nb')) (x.natAbs / y.natAbs) = x.tdiv y) := by show _ = _; rw [sg_tdiv, HA.sg, HB.sg]
  have HZR : Hid (sg na (x.natAbs % y.natAbs) = x.tmod y) := by show _ = _; rw [sg_tmod na nb', HA.sg, HB.sg]
  have hB0 : ((B.length : Int) == 0) = false := Len.ne HB.norm hy
  clear HA HB hy
  go_enter Tryd.func27, Tryd.ntmps27
  go_wp2_with fail
  have u0 := ((((Upd.refl [] w).alloc (.cells #[.int .u8 1, .bool na, .slice a A.length ca, .string ⟨#[]⟩, .int .i64 0, .slice ai 0 ci, .slice at' 0 ct] 26)).alloc (.cells #[.int .u8 1, .bool nb', .slice b B.length cb, .string ⟨#[]⟩, .int .i64 0, .slice bi 0 cbi, .slice bt 0 cbt] 26)).alloc (.cells #[.int .u8 0, .bool false, .slice none 0 0, .string ⟨#[]⟩, .int .i64 0, .slice none 0 0, .slice none 0 0] 26)).alloc (.cells #[.int .u8 0, .bool false, .slice none 0 0, .string ⟨#[]⟩, .int .i64 0, .slice none 0 0, .slice none 0 0] 26)
  have ta0 := (((Tb.new w #[.int .u8 1, .bool na, .slice a A.length ca, .string ⟨#[]⟩, .int .i64 0, .slice ai 0 ci, .slice at' 0 ct] _ rfl).old (.cells #[.int .u8 1, .bool nb', .slice b B.length cb, .string ⟨#[]⟩, .int .i64 0, .slice bi 0 cbi, .slice bt 0 cbt] 26)).old (.cells #[.int .u8 0, .bool false, .slice none 0 0, .string ⟨#[]⟩, .int .i64 0, .slice none 0 0, .slice none 0 0] 26)).old (.cells #[.int .u8 0, .bool false, .slice none 0 0, .string ⟨#[]⟩, .int .i64 0, .slice none 0 0, .slice none 0 0] 26)
  have tb0 := ((Tb.new (w.alloc (.cells #[.int .u8 1, .bool na, .slice a A.length ca, .string ⟨#[]⟩, .int .i64 0, .slice ai 0 ci, .slice at' 0 ct] 26)) #[.int .u8 1, .bool nb', .slice b B.length cb, .string ⟨#[]⟩, .int .i64 0, .slice bi 0 cbi, .slice bt 0 cbt] (w.heap.size + 1) (by simp)).old (.cells #[.int .u8 0, .bool false, .slice none 0 0, .string ⟨#[]⟩, .int .i64 0, .slice none 0 0, .slice none 0 0] 26)).old (.cells #[.int .u8 0, .bool false, .slice none 0 0, .string ⟨#[]⟩, .int .i64 0, .slice none 0 0, .slice none 0 0] 26)
  have tz0 := (Tb.new ((w.alloc (.cells #[.int .u8 1, .bool na, .slice a A.length ca, .string ⟨#[]⟩, .int .i64 0, .slice ai 0 ci, .slice at' 0 ct] 26)).alloc (.cells #[.int .u8 1, .bool nb', .slice b B.length cb, .string ⟨#[]⟩, .int .i64 0, .slice bi 0 cbi, .slice bt 0 cbt] 26)) #[.int .u8 0, .bool false, .slice none 0 0, .string ⟨#[]⟩, .int .i64 0, .slice none 0 0, .slice none 0 0] (w.heap.size + 1 + 1) (by simp)).old (.cells #[.int .u8 0, .bool false, .slice none 0 0, .string ⟨#[]⟩, .int .i64 0, .slice none 0 0, .slice none 0 0] 26)
  have ty0 := Tb.new (((w.alloc (.cells #[.int .u8 1, .bool na, .slice a A.length ca, .string ⟨#[]⟩, .int .i64 0, .slice ai 0 ci, .slice at' 0 ct] 26)).alloc (.cells #[.int .u8 1, .bool nb', .slice b B.length cb, .string ⟨#[]⟩, .int .i64 0, .slice bi 0 cbi, .slice bt 0 cbt] 26)).alloc (.cells #[.int .u8 0, .bool false, .slice none 0 0, .string ⟨#[]⟩, .int .i64 0, .slice none 0 0, .slice none 0 0] 26)) #[.int .u8 0, .bool false, .slice none 0 0, .string ⟨#[]⟩, .int .i64 0, .slice none 0 0, .slice none 0 0] (w.heap.size + 1 + 1 + 1) (by simp)
  refine (TI.rRight (TI.mono IA.out u0) ai at' ca ci ct).mono ?_
  rintro e w1 ⟨rfl, h1⟩
  have u1 := u0.trans h1
  have ta1 := ta0.mono h1 (by simp)
  have tb1 := tb0.mono h1 (by simp)
  have tz1 := tz0.mono h1 (by simp)
  have ty1 := ty0.mono h1 (by simp)
  clear u0 ta0 tb0 tz0 ty0 h1
  go_wp2_with (first | (refine load_G _ _ rfl _ _ rfl tb1 rfl rfl ?_))
  refine (TI.rRight (TI.mono IB.out u1) bi bt cb cbi cbt).mono ?_
  rintro e w2 ⟨rfl, h2⟩
  have u2 := u1.trans h2
  have ta2 := ta1.mono h2 (by simp)
  have tb2 := tb1.mono h2 (by simp)
  have tz2 := tz1.mono h2 (by simp)
  have ty2 := ty1.mono h2 (by simp)
  have ia2 : Hid (TI w2 na a A x) := TI.mono IA.out u2
  have ib2 : Hid (TI w2 nb' b B y) := TI.mono IB.out u2
  have U2 : Hid (Upd [] w w2) := u2
  have cb2 : w2.cell? ⟨w.heap.size + 1, 2, none⟩ = some (.slice b B.length cb) := tb2.cell 2
  clear u1 ta1 tb1 tz1 ty1 h2 u2 IA IB
  go_upto_region 3 with fail
  go_cut [7, 8] (fun s7 s8 wx => ∃ aq cq Q ar cr R, s7 = .slice aq Q.length cq ∧ s8 = .slice ar R.length cr ∧ NormB Q (x.natAbs / y.natAbs) ∧ NormB R (x.natAbs % y.natAbs) ∧ BA wx aq Q ∧ BA wx ar R ∧ Q.length ≤ cq ∧ cq ≤ 9223372036854775807 ∧ R.length ≤ cr ∧ cr ≤ 9223372036854775807 ∧ Upd [] w2 wx)
  case first =>
    have r0 : w2.cell? ⟨w.heap.size, 0, none⟩ = some (.int .u8 1) := ta2.cell 0
    have s0 : w2.cell? ⟨w.heap.size + 1, 0, none⟩ = some (.int .u8 1) := tb2.cell 0
    have r1 : w2.cell? ⟨w.heap.size, 1, none⟩ = some (.bool na) := ta2.cell 1
    have s1 : w2.cell? ⟨w.heap.size + 1, 1, none⟩ = some (.bool nb') := tb2.cell 1
    have r2 : w2.cell? ⟨w.heap.size, 2, none⟩ = some (.slice a A.length ca) := ta2.cell 2
    have s2 : w2.cell? ⟨w.heap.size + 1, 2, none⟩ = some (.slice b B.length cb) := tb2.cell 2
    have r3 : w2.cell? ⟨w.heap.size, 3, none⟩ = some (.string ⟨#[]⟩) := ta2.cell 3
    have s3 : w2.cell? ⟨w.heap.size + 1, 3, none⟩ = some (.string ⟨#[]⟩) := tb2.cell 3
    have r4 : w2.cell? ⟨w.heap.size, 4, none⟩ = some (.int .i64 0) := ta2.cell 4
    have s4 : w2.cell? ⟨w.heap.size + 1, 4, none⟩ = some (.int .i64 0) := tb2.cell 4
    have r5 : w2.cell? ⟨w.heap.size, 5, none⟩ = some (.slice ai 0 ci) := ta2.cell 5
    have s5 : w2.cell? ⟨w.heap.size + 1, 5, none⟩ = some (.slice bi 0 cbi) := tb2.cell 5
    have r6 : w2.cell? ⟨w.heap.size, 6, none⟩ = some (.slice at' 0 ct) := ta2.cell 6
    have s6 : w2.cell? ⟨w.heap.size + 1, 6, none⟩ = some (.slice bt 0 cbt) := tb2.cell 6
    have hlr := ta2.lt
    have hlb := tb2.lt
    have hta : Hid (Tb w2 (w.heap.size) #[.int .u8 1, .bool na, .slice a A.length ca, .string ⟨#[]⟩, .int .i64 0, .slice ai 0 ci, .slice at' 0 ct]) := ta2
    have htb : Hid (Tb w2 (w.heap.size + 1) #[.int .u8 1, .bool nb', .slice b B.length cb, .string ⟨#[]⟩, .int .i64 0, .slice bi 0 cbi, .slice bt 0 cbt]) := tb2
    clear ta2 tb2 tz2 ty2 cb2
    go_region_held3 (fun w' => w'.cell? ⟨w.heap.size, 0, none⟩ = some (.int .u8 1) ∧ w'.cell? ⟨w.heap.size, 1, none⟩ = some (.bool na) ∧ w'.cell? ⟨w.heap.size, 2, none⟩ = some (.slice a A.length ca) ∧ w'.cell? ⟨w.heap.size, 3, none⟩ = some (.string ⟨#[]⟩) ∧ w'.cell? ⟨w.heap.size, 4, none⟩ = some (.int .i64 0) ∧ w'.cell? ⟨w.heap.size, 5, none⟩ = some (.slice ai 0 ci) ∧ w'.cell? ⟨w.heap.size, 6, none⟩ = some (.slice at' 0 ct) ∧ w'.cell? ⟨w.heap.size + 1, 0, none⟩ = some (.int .u8 1) ∧ w'.cell? ⟨w.heap.size + 1, 1, none⟩ = some (.bool nb') ∧ w'.cell? ⟨w.heap.size + 1, 2, none⟩ = some (.slice b B.length cb) ∧ w'.cell? ⟨w.heap.size + 1, 3, none⟩ = some (.string ⟨#[]⟩) ∧ w'.cell? ⟨w.heap.size + 1, 4, none⟩ = some (.int .i64 0) ∧ w'.cell? ⟨w.heap.size + 1, 5, none⟩ = some (.slice bi 0 cbi) ∧ w'.cell? ⟨w.heap.size + 1, 6, none⟩ = some (.slice bt 0 cbt))
      (go_keep)
      (first
        | (go_at_call_of 38 (Value.slice a A.length ca); refine (bits_any a ai at' ca ci ct na A x _ ?_).mono ?_; (exact TI.mono (Hid.out ia2) (by repeat (first | exact Upd.refl _ _ | refine Upd.drew ?_))); rintro e v1 ⟨hv1, ax, cx, Mx, rfl, znx, zbx, zfx, zdx, zex⟩; have uv1 : Hid (Upd [] w2 v1) := Upd.trans (by repeat (first | exact Upd.refl _ _ | refine Upd.drew ?_)) hv1; have pv1 : Tb v1 (w.heap.size) #[.int .u8 1, .bool na, .slice a A.length ca, .string ⟨#[]⟩, .int .i64 0, .slice ai 0 ci, .slice at' 0 ct] := Tb.mono (Hid.out hta) (Hid.out uv1) (by simp); have qv1 : Tb v1 (w.heap.size + 1) #[.int .u8 1, .bool nb', .slice b B.length cb, .string ⟨#[]⟩, .int .i64 0, .slice bi 0 cbi, .slice bt 0 cbt] := Tb.mono (Hid.out htb) (Hid.out uv1) (by simp); have r0v1 : v1.cell? ⟨w.heap.size, 0, none⟩ = some (.int .u8 1) := pv1.cell 0; have s0v1 : v1.cell? ⟨w.heap.size + 1, 0, none⟩ = some (.int .u8 1) := qv1.cell 0; have r1v1 : v1.cell? ⟨w.heap.size, 1, none⟩ = some (.bool na) := pv1.cell 1; have s1v1 : v1.cell? ⟨w.heap.size + 1, 1, none⟩ = some (.bool nb') := qv1.cell 1; have r2v1 : v1.cell? ⟨w.heap.size, 2, none⟩ = some (.slice a A.length ca) := pv1.cell 2; have s2v1 : v1.cell? ⟨w.heap.size + 1, 2, none⟩ = some (.slice b B.length cb) := qv1.cell 2; have r3v1 : v1.cell? ⟨w.heap.size, 3, none⟩ = some (.string ⟨#[]⟩) := pv1.cell 3; have s3v1 : v1.cell? ⟨w.heap.size + 1, 3, none⟩ = some (.string ⟨#[]⟩) := qv1.cell 3; have r4v1 : v1.cell? ⟨w.heap.size, 4, none⟩ = some (.int .i64 0) := pv1.cell 4; have s4v1 : v1.cell? ⟨w.heap.size + 1, 4, none⟩ = some (.int .i64 0) := qv1.cell 4; have r5v1 : v1.cell? ⟨w.heap.size, 5, none⟩ = some (.slice ai 0 ci) := pv1.cell 5; have s5v1 : v1.cell? ⟨w.heap.size + 1, 5, none⟩ = some (.slice bi 0 cbi) := qv1.cell 5; have r6v1 : v1.cell? ⟨w.heap.size, 6, none⟩ = some (.slice at' 0 ct) := pv1.cell 6; have s6v1 : v1.cell? ⟨w.heap.size + 1, 6, none⟩ = some (.slice bt 0 cbt) := qv1.cell 6; have htav1 : Hid (Tb v1 (w.heap.size) #[.int .u8 1, .bool na, .slice a A.length ca, .string ⟨#[]⟩, .int .i64 0, .slice ai 0 ci, .slice at' 0 ct]) := pv1; have htbv1 : Hid (Tb v1 (w.heap.size + 1) #[.int .u8 1, .bool nb', .slice b B.length cb, .string ⟨#[]⟩, .int .i64 0, .slice bi 0 cbi, .slice bt 0 cbt]) := qv1; have Nx : Hid (NormB Mx _) := znx; have Bx : Hid (BA v1 ax Mx) := zbx; clear pv1 qv1 znx zbx zfx)
        | (go_at_call_of 38 (Value.slice b B.length cb); refine (bits_any b bi bt cb cbi cbt nb' B y _ ?_).mono ?_; (exact TI.mono (TI.mono (Hid.out ib2) (Hid.out uv1)) (by repeat (first | exact Upd.refl _ _ | refine Upd.drew ?_))); rintro e v2 ⟨hv2, ay, cy, My, rfl, zny, zby, zfy, zdy, zey⟩; have uv2 : Hid (Upd [] v1 v2) := Upd.trans (by repeat (first | exact Upd.refl _ _ | refine Upd.drew ?_)) hv2; have pv2 : Tb v2 (w.heap.size) #[.int .u8 1, .bool na, .slice a A.length ca, .string ⟨#[]⟩, .int .i64 0, .slice ai 0 ci, .slice at' 0 ct] := Tb.mono (Hid.out htav1) (Hid.out uv2) (by simp); have qv2 : Tb v2 (w.heap.size + 1) #[.int .u8 1, .bool nb', .slice b B.length cb, .string ⟨#[]⟩, .int .i64 0, .slice bi 0 cbi, .slice bt 0 cbt] := Tb.mono (Hid.out htbv1) (Hid.out uv2) (by simp); have r0v2 : v2.cell? ⟨w.heap.size, 0, none⟩ = some (.int .u8 1) := pv2.cell 0; have s0v2 : v2.cell? ⟨w.heap.size + 1, 0, none⟩ = some (.int .u8 1) := qv2.cell 0; have r1v2 : v2.cell? ⟨w.heap.size, 1, none⟩ = some (.bool na) := pv2.cell 1; have s1v2 : v2.cell? ⟨w.heap.size + 1, 1, none⟩ = some (.bool nb') := qv2.cell 1; have r2v2 : v2.cell? ⟨w.heap.size, 2, none⟩ = some (.slice a A.length ca) := pv2.cell 2; have s2v2 : v2.cell? ⟨w.heap.size + 1, 2, none⟩ = some (.slice b B.length cb) := qv2.cell 2; have r3v2 : v2.cell? ⟨w.heap.size, 3, none⟩ = some (.string ⟨#[]⟩) := pv2.cell 3; have s3v2 : v2.cell? ⟨w.heap.size + 1, 3, none⟩ = some (.string ⟨#[]⟩) := qv2.cell 3; have r4v2 : v2.cell? ⟨w.heap.size, 4, none⟩ = some (.int .i64 0) := pv2.cell 4; have s4v2 : v2.cell? ⟨w.heap.size + 1, 4, none⟩ = some (.int .i64 0) := qv2.cell 4; have r5v2 : v2.cell? ⟨w.heap.size, 5, none⟩ = some (.slice ai 0 ci) := pv2.cell 5; have s5v2 : v2.cell? ⟨w.heap.size + 1, 5, none⟩ = some (.slice bi 0 cbi) := qv2.cell 5; have r6v2 : v2.cell? ⟨w.heap.size, 6, none⟩ = some (.slice at' 0 ct) := pv2.cell 6; have s6v2 : v2.cell? ⟨w.heap.size + 1, 6, none⟩ = some (.slice bt 0 cbt) := qv2.cell 6; have htav2 : Hid (Tb v2 (w.heap.size) #[.int .u8 1, .bool na, .slice a A.length ca, .string ⟨#[]⟩, .int .i64 0, .slice ai 0 ci, .slice at' 0 ct]) := pv2; have htbv2 : Hid (Tb v2 (w.heap.size + 1) #[.int .u8 1, .bool nb', .slice b B.length cb, .string ⟨#[]⟩, .int .i64 0, .slice bi 0 cbi, .slice bt 0 cbt]) := qv2; have Ny : Hid (NormB My _) := zny; have By : Hid (BA v2 ay My) := zby; clear pv2 qv2 zny zby zfy)
        | (go_at_call 55; refine (parts_any ax ay cx cy _ _ Mx My _ ?_ ?_ (Bx.out.mono uv2.out) By.out Nx.out.eq Ny.out ?_).mono ?_; (exact Nat.le_trans ((Nx.out.len_le 1024).2 HX1.out) (by omega)); (exact Nat.le_trans ((Ny.out.len_le 1024).2 HY1.out) (by omega)); (exact HY0.out); rintro e v3 ⟨hv3, aq, cq, Q, ar, cr, R, rfl, znq, zbq, zdq, zeq, znr, zbr, zdr, zer, zql⟩; have uv3 : Hid (Upd [] v2 v3) := hv3; have pv3 : Tb v3 (w.heap.size) #[.int .u8 1, .bool na, .slice a A.length ca, .string ⟨#[]⟩, .int .i64 0, .slice ai 0 ci, .slice at' 0 ct] := Tb.mono (Hid.out htav2) (Hid.out uv3) (by simp); have qv3 : Tb v3 (w.heap.size + 1) #[.int .u8 1, .bool nb', .slice b B.length cb, .string ⟨#[]⟩, .int .i64 0, .slice bi 0 cbi, .slice bt 0 cbt] := Tb.mono (Hid.out htbv2) (Hid.out uv3) (by simp); have r0v3 : v3.cell? ⟨w.heap.size, 0, none⟩ = some (.int .u8 1) := pv3.cell 0; have s0v3 : v3.cell? ⟨w.heap.size + 1, 0, none⟩ = some (.int .u8 1) := qv3.cell 0; have r1v3 : v3.cell? ⟨w.heap.size, 1, none⟩ = some (.bool na) := pv3.cell 1; have s1v3 : v3.cell? ⟨w.heap.size + 1, 1, none⟩ = some (.bool nb') := qv3.cell 1; have r2v3 : v3.cell? ⟨w.heap.size, 2, none⟩ = some (.slice a A.length ca) := pv3.cell 2; have s2v3 : v3.cell? ⟨w.heap.size + 1, 2, none⟩ = some (.slice b B.length cb) := qv3.cell 2; have r3v3 : v3.cell? ⟨w.heap.size, 3, none⟩ = some (.string ⟨#[]⟩) := pv3.cell 3; have s3v3 : v3.cell? ⟨w.heap.size + 1, 3, none⟩ = some (.string ⟨#[]⟩) := qv3.cell 3; have r4v3 : v3.cell? ⟨w.heap.size, 4, none⟩ = some (.int .i64 0) := pv3.cell 4; have s4v3 : v3.cell? ⟨w.heap.size + 1, 4, none⟩ = some (.int .i64 0) := qv3.cell 4; have r5v3 : v3.cell? ⟨w.heap.size, 5, none⟩ = some (.slice ai 0 ci) := pv3.cell 5; have s5v3 : v3.cell? ⟨w.heap.size + 1, 5, none⟩ = some (.slice bi 0 cbi) := qv3.cell 5; have r6v3 : v3.cell? ⟨w.heap.size, 6, none⟩ = some (.slice at' 0 ct) := pv3.cell 6; have s6v3 : v3.cell? ⟨w.heap.size + 1, 6, none⟩ = some (.slice bt 0 cbt) := qv3.cell 6; have NQ : Hid (NormB Q (x.natAbs / y.natAbs)) := znq; have NR : Hid (NormB R (x.natAbs % y.natAbs)) := znr; have BQ : Hid (BA v3 aq Q) := zbq; have BR : Hid (BA v3 ar R) := zbr; clear pv3 qv3 znq znr zbq zbr))
    all_goals
      go_wp2_with fail
      go_meet
      exact ⟨aq, cq, Q, ar, cr, R, rfl, rfl, NQ.out, NR.out, BQ.out, BR.out, zdq, zeq, zdr, zer, (uv1.out.trans uv2.out).trans uv3.out⟩
  case rest =>
    obtain ⟨aq, cq, Q, ar, cr, R, rfl, rfl, nQ, nR, hQ, hR, hq1, hq2, hr1, hr2, hU3⟩ := hcut
    rename World => w3
    have ta3 := ta2.mono hU3 (by simp)
    have tb3 := tb2.mono hU3 (by simp)
    have tz3 := tz2.mono hU3 (by simp)
    have ty3 := ty2.mono hU3 (by simp)
    have hQl := (nQ.len_le 1024).2 (Nat.lt_of_le_of_lt (Nat.div_le_self _ _) HX1.out)
    have hRl := (nR.len_le 1024).2 (Nat.lt_of_le_of_lt (Nat.mod_le _ _) HX1.out)
    have HNQ : Hid (NormB Q (x.natAbs / y.natAbs)) := nQ
    have HNR : Hid (NormB R (x.natAbs % y.natAbs)) := nR
    have U3 : Hid (Upd [] w w3) := U2.out.trans hU3
    have ca1 := ta3.cell 1
    have cb1 := tb3.cell 1
    clear ta2 tb2 tz2 ty2 hU3 nQ nR U2 cb2
    go_wp2_with fail
    refine (made_any aq cq _ _ Q w3 (by omega) hq1 hq2 hQ HNQ.out.eq).mono ?_
    rintro e w4 ⟨hM, hU4⟩
    rw [HZQ.out] at hM
    have hfq : (x.tdiv y).natAbs < 4294967296 ^ 32 := by rw [Int.natAbs_tdiv]; exact Nat.lt_of_le_of_lt (Nat.div_le_self _ _) HS32.out
    obtain ⟨_, nq, a1, c1, M1, rfl, T1⟩ := hM.resolve_right (fun h => h.1 hfq)
    have I1 : Hid (TI w4 nq a1 M1 (x.tdiv y)) := T1
    have ta4 := ta3.mono hU4 (by simp)
    have tz4 := tz3.mono hU4 (by simp)
    have ty4 := ty3.mono hU4 (by simp)
    have hR4 := hR.mono hU4
    have U4 : Hid (Upd [] w w4) := U3.out.trans hU4
    have ca14 : w4.cell? ⟨w.heap.size, 1, none⟩ = some (.bool na) := ta4.cell 1
    have hlt4 := ta4.lt
    have hl2 := ty4.lt
    have hnn : (w.heap.size = w4.heap.size) = False := eq_false (by omega)
    clear ta3 tb3 tz3 ty3 hR hQ U3 hM hfq T1 ca1 cb1 hU4
    go_wp2_with fail
    refine (made_any ar cr _ _ R _ (by omega) hr1 hr2 (hR4.mono ((Upd.refl [] w4).alloc (.cells #[.int .u8 1, .bool nq, .slice a1 M1.length c1, .string ⟨#[]⟩, .int .i64 0, .slice none 0 0, .slice none 0 0] 26))) HNR.out.eq).mono ?_
    rintro e w5 ⟨hM, hU5⟩
    rw [HZR.out] at hM
    have hfr : (x.tmod y).natAbs < 4294967296 ^ 32 := by rw [Int.natAbs_tmod]; exact Nat.lt_of_le_of_lt (Nat.mod_le _ _) HS32.out
    obtain ⟨_, nr, a2, c2, M2, rfl, T2⟩ := hM.resolve_right (fun h => h.1 hfr)
    have hU45 := ((Upd.refl [] w4).alloc (.cells #[.int .u8 1, .bool nq, .slice a1 M1.length c1, .string ⟨#[]⟩, .int .i64 0, .slice none 0 0, .slice none 0 0] 26)).trans hU5
    have tq5 := (Tb.new w4 #[.int .u8 1, .bool nq, .slice a1 M1.length c1, .string ⟨#[]⟩, .int .i64 0, .slice none 0 0, .slice none 0 0] _ rfl).mono hU5 (by simp)
    have tz5 := tz4.mono hU45 (by simp)
    have ty5 := ty4.mono hU45 (by simp)
    have I15 : TI w5 nq a1 M1 (x.tdiv y) := I1.out.mono hU45
    have U5 := U4.out.trans hU45
    clear ta4 tz4 ty4 hR4 U4 hM hfr ca14 hU5 hU45 I1 hnn
    go_wp2_with fail
    have u6 := (Upd.refl [] w5).alloc (.cells #[.int .u8 1, .bool nr, .slice a2 M2.length c2, .string ⟨#[]⟩, .int .i64 0, .slice none 0 0, .slice none 0 0] 26)
    have tr6 := Tb.new w5 #[.int .u8 1, .bool nr, .slice a2 M2.length c2, .string ⟨#[]⟩, .int .i64 0, .slice none 0 0, .slice none 0 0] _ rfl
    have tq6 := tq5.old (.cells #[.int .u8 1, .bool nr, .slice a2 M2.length c2, .string ⟨#[]⟩, .int .i64 0, .slice none 0 0, .slice none 0 0] 26)
    have tz6 := tz5.old (.cells #[.int .u8 1, .bool nr, .slice a2 M2.length c2, .string ⟨#[]⟩, .int .i64 0, .slice none 0 0, .slice none 0 0] 26)
    have ty6 := ty5.old (.cells #[.int .u8 1, .bool nr, .slice a2 M2.length c2, .string ⟨#[]⟩, .int .i64 0, .slice none 0 0, .slice none 0 0] 26)
    have I16 : Hid (TI _ nq a1 M1 (x.tdiv y)) := I15.mono u6
    have I26 : Hid (TI _ nr a2 M2 (x.tmod y)) := TI.mono T2 u6
    have U6 : Hid (Upd [] w _) := U5.trans u6
    have hl1 := tq5.lt
    have hl3 := ty5.lt
    obtain ⟨W6, hW6⟩ : ∃ X, X = w5.alloc (.cells #[.int .u8 1, .bool nr, .slice a2 M2.length c2, .string ⟨#[]⟩, .int .i64 0, .slice none 0 0, .slice none 0 0] 26) := ⟨_, rfl⟩
    rw [← hW6] at u6 tr6 tq6 tz6 ty6 I16 I26 U6 ⊢
    clear hW6 tq5 tz5 ty5 I15 T2 U5 u6
    have cq0 : W6.cell? ⟨w4.heap.size, 0, none⟩ = some (.int .u8 1) := tq6.cell 0
    have cq1 : W6.cell? ⟨w4.heap.size, 1, none⟩ = some (.bool nq) := tq6.cell 1
    have cq2 : W6.cell? ⟨w4.heap.size, 2, none⟩ = some (.slice a1 M1.length c1) := tq6.cell 2
    have cq3 : W6.cell? ⟨w4.heap.size, 3, none⟩ = some (.string ⟨#[]⟩) := tq6.cell 3
    have cq4 : W6.cell? ⟨w4.heap.size, 4, none⟩ = some (.int .i64 0) := tq6.cell 4
    have cq5 : W6.cell? ⟨w4.heap.size, 5, none⟩ = some (.slice none 0 0) := tq6.cell 5
    have cq6 : W6.cell? ⟨w4.heap.size, 6, none⟩ = some (.slice none 0 0) := tq6.cell 6
    have cr0 : W6.cell? ⟨w5.heap.size, 0, none⟩ = some (.int .u8 1) := tr6.cell 0
    have cr1 : W6.cell? ⟨w5.heap.size, 1, none⟩ = some (.bool nr) := tr6.cell 1
    have cr2 : W6.cell? ⟨w5.heap.size, 2, none⟩ = some (.slice a2 M2.length c2) := tr6.cell 2
    have cr3 : W6.cell? ⟨w5.heap.size, 3, none⟩ = some (.string ⟨#[]⟩) := tr6.cell 3
    have cr4 : W6.cell? ⟨w5.heap.size, 4, none⟩ = some (.int .i64 0) := tr6.cell 4
    have cr5 : W6.cell? ⟨w5.heap.size, 5, none⟩ = some (.slice none 0 0) := tr6.cell 5
    have cr6 : W6.cell? ⟨w5.heap.size, 6, none⟩ = some (.slice none 0 0) := tr6.cell 6
    have cz0 : W6.cell? ⟨w.heap.size + 1 + 1, 0, none⟩ = some (.int .u8 0) := tz6.cell 0
    have cz1 : W6.cell? ⟨w.heap.size + 1 + 1, 1, none⟩ = some (.bool false) := tz6.cell 1
    have cz2 : W6.cell? ⟨w.heap.size + 1 + 1, 2, none⟩ = some (.slice none 0 0) := tz6.cell 2
    have cz3 : W6.cell? ⟨w.heap.size + 1 + 1, 3, none⟩ = some (.string ⟨#[]⟩) := tz6.cell 3
    have cz4 : W6.cell? ⟨w.heap.size + 1 + 1, 4, none⟩ = some (.int .i64 0) := tz6.cell 4
    have cz5 : W6.cell? ⟨w.heap.size + 1 + 1, 5, none⟩ = some (.slice none 0 0) := tz6.cell 5
    have cz6 : W6.cell? ⟨w.heap.size + 1 + 1, 6, none⟩ = some (.slice none 0 0) := tz6.cell 6
    have cy0 : W6.cell? ⟨w.heap.size + 1 + 1 + 1, 0, none⟩ = some (.int .u8 0) := ty6.cell 0
    have cy1 : W6.cell? ⟨w.heap.size + 1 + 1 + 1, 1, none⟩ = some (.bool false) := ty6.cell 1
    have cy2 : W6.cell? ⟨w.heap.size + 1 + 1 + 1, 2, none⟩ = some (.slice none 0 0) := ty6.cell 2
    have cy3 : W6.cell? ⟨w.heap.size + 1 + 1 + 1, 3, none⟩ = some (.string ⟨#[]⟩) := ty6.cell 3
    have cy4 : W6.cell? ⟨w.heap.size + 1 + 1 + 1, 4, none⟩ = some (.int .i64 0) := ty6.cell 4
    have cy5 : W6.cell? ⟨w.heap.size + 1 + 1 + 1, 5, none⟩ = some (.slice none 0 0) := ty6.cell 5
    have cy6 : W6.cell? ⟨w.heap.size + 1 + 1 + 1, 6, none⟩ = some (.slice none 0 0) := ty6.cell 6
    have fz : ∀ i, W6.frozen? ⟨w.heap.size + 1 + 1, i, none⟩ = false := fun i => tz6.free i
    have fy : ∀ i, W6.frozen? ⟨w.heap.size + 1 + 1 + 1, i, none⟩ = false := fun i => ty6.free i
    have nqr : (w4.heap.size = w5.heap.size) = False := eq_false (by omega)
    have nqz : (w4.heap.size = w.heap.size + 1 + 1) = False := eq_false (by omega)
    have nqy : (w4.heap.size = w.heap.size + 1 + 1 + 1) = False := eq_false (by omega)
    have nrq : (w5.heap.size = w4.heap.size) = False := eq_false (by omega)
    have nrz : (w5.heap.size = w.heap.size + 1 + 1) = False := eq_false (by omega)
    have nry : (w5.heap.size = w.heap.size + 1 + 1 + 1) = False := eq_false (by omega)
    have nzq : (w.heap.size + 1 + 1 = w4.heap.size) = False := eq_false (by omega)
    have nzr : (w.heap.size + 1 + 1 = w5.heap.size) = False := eq_false (by omega)
    have nzy : (w.heap.size + 1 + 1 = w.heap.size + 1 + 1 + 1) = False := eq_false (by omega)
    have nyq : (w.heap.size + 1 + 1 + 1 = w4.heap.size) = False := eq_false (by omega)
    have nyr : (w.heap.size + 1 + 1 + 1 = w5.heap.size) = False := eq_false (by omega)
    have nyz : (w.heap.size + 1 + 1 + 1 = w.heap.size + 1 + 1) = False := eq_false (by omega)
    have TZ : Hid _ := tz6
    have TY : Hid _ := ty6
    clear tz6 ty6 tq6 tr6
    go_region
    go_wp2
    have h7 := seven TZ.out (.int .u8 1) (.bool nq) (.slice a1 M1.length c1) (.string ⟨#[]⟩) (.int .i64 0) (.slice none 0 0) (.slice none 0 0)
    have tY := Tb.mono TY.out h7.2 (by simp)
    have h8 := seven tY (.int .u8 1) (.bool nr) (.slice a2 M2.length c2) (.string ⟨#[]⟩) (.int .i64 0) (.slice none 0 0) (.slice none 0 0)
    have J1 := ((I16.out.keep TZ.out h7.2).keep tY h8.2).mono (Upd.drew (Upd.refl [] _))
    have J2 := ((I26.out.keep TZ.out h7.2).keep tY h8.2).mono (Upd.drew (Upd.refl [] _))
    have U8 := ((U6.out.then h7.2 (by intro z hz; simp at hz; omega)).then h8.2 (by intro z hz; simp at hz; omega)).drew
    have K1 := Tb.mono (h7.1.mono h8.2 (by simp)) (Upd.drew (Upd.refl [] _)) (by simp)
    have K2 := Tb.mono h8.1 (Upd.drew (Upd.refl [] _)) (by simp)
    exact ret_TTb Tryd.results27 rfl _ _ _ _ _ rfl K1 rfl rfl K2 rfl rfl ⟨U8, nq, nr, a1, a2, c1, c2, M1, M2, rfl, J1, J2⟩

end Go.Proofs.YtpeganecbjefoaaDoor
