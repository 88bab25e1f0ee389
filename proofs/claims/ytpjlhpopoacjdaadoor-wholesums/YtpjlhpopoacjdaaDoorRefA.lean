/- Add of the reference, by its contract. -/
import Derived.Test.YtpjlhpopoacjdaaDoorBitT
import Derived.Test.YtpjlhpopoacjdaaDoorJE
namespace Go.Proofs.YtpjlhpopoacjdaaDoor
open Go.RowKit

theorem Res.open {w' : World} {e : Ending} {z : Int} (h : Res w' e z) :
    ∃ k neg a c M b, e = .returned (.tuple #[.agg #[.int .u8 k, .bool neg, .slice a M.length c, .string ⟨#[]⟩, .int .i64 0, .slice none 0 0, .slice none 0 0], .bool b]) ∧ At w' a M ∧ (∀ w'', At w'' a M → Res w'' (.returned (.tuple #[.agg #[.int .u8 k, .bool neg, .slice a M.length c, .string ⟨#[]⟩, .int .i64 0, .slice none 0 0, .slice none 0 0], .bool b])) z) := by
  rcases h with ⟨h1, neg, a, c, M, rfl, h2⟩ | ⟨h1, rfl⟩
  · exact ⟨1, neg, a, c, M, true, rfl, h2.mem, fun w'' hA => Or.inl ⟨h1, neg, a, c, M, rfl, ⟨h2.norm, hA, h2.len, h2.sgn⟩⟩⟩
  · exact ⟨0, false, none, 0, [], false, rfl, At.nil _ _, fun w'' _ => Or.inr ⟨h1, rfl⟩⟩

set_option maxHeartbeats 8000000 in
set_option maxRecDepth 100000 in
theorem rAdd_same (a ai at' b bi bt : Option Addr) (ca ci ct cb cbi cbt : Nat) (na nb' : Bool) (A B : List Nat) (x y : Int) (w : World) (HA : TI w na a A x) (HB : TI w nb' b B y) (hs : na = nb') :
    Calls Tryd.prog 13 #[.agg #[.int .u8 1, .bool na, .slice a A.length ca, .string ⟨#[]⟩, .int .i64 0, .slice ai 0 ci, .slice at' 0 ct], .agg #[.int .u8 1, .bool nb', .slice b B.length cb, .string ⟨#[]⟩, .int .i64 0, .slice bi 0 cbi, .slice bt 0 cbt]] w fun e w' => Res w' e (x + y) ∧ Upd [] w w' := by
  have IA : Hid (TI w na a A x) := HA
  have IB : Hid (TI w nb' b B y) := HB
  have hxs := HA.sg
  have hys := HB.sg
  have HZ : Hid (sg na (x.natAbs + y.natAbs) = x + y) := by
    show _ = _
    subst hs
    generalize x.natAbs = p at *
    generalize y.natAbs = q at *
    subst hxs hys
    cases na <;> simp [sg] <;> omega
  have hne : (na == nb') = true := by rw [hs]; simp
  clear hs
  have hx1 : x.natAbs < 2 ^ 1024 := by rw [← pow_eq]; exact HA.small
  have hy1 : y.natAbs < 2 ^ 1024 := by rw [← pow_eq]; exact HB.small
  have HX1 : Hid (x.natAbs < 2 ^ 1024) := hx1
  have HY1 : Hid (y.natAbs < 2 ^ 1024) := hy1
  clear HA HB hxs hys hx1 hy1
  go_enter Tryd.func13, Tryd.ntmps13
  go_wp2_with fail
  have u0 := (((Upd.refl [] w).alloc (.cells #[.int .u8 1, .bool na, .slice a A.length ca, .string ⟨#[]⟩, .int .i64 0, .slice ai 0 ci, .slice at' 0 ct] 26)).alloc (.cells #[.int .u8 1, .bool nb', .slice b B.length cb, .string ⟨#[]⟩, .int .i64 0, .slice bi 0 cbi, .slice bt 0 cbt] 26)).alloc (.cells #[.int .u8 0, .bool false, .slice none 0 0, .string ⟨#[]⟩, .int .i64 0, .slice none 0 0, .slice none 0 0] 26)
  have ta0 := ((Tb.new w #[.int .u8 1, .bool na, .slice a A.length ca, .string ⟨#[]⟩, .int .i64 0, .slice ai 0 ci, .slice at' 0 ct] _ rfl).old (.cells #[.int .u8 1, .bool nb', .slice b B.length cb, .string ⟨#[]⟩, .int .i64 0, .slice bi 0 cbi, .slice bt 0 cbt] 26)).old (.cells #[.int .u8 0, .bool false, .slice none 0 0, .string ⟨#[]⟩, .int .i64 0, .slice none 0 0, .slice none 0 0] 26)
  have tb0 := (Tb.new (w.alloc (.cells #[.int .u8 1, .bool na, .slice a A.length ca, .string ⟨#[]⟩, .int .i64 0, .slice ai 0 ci, .slice at' 0 ct] 26)) #[.int .u8 1, .bool nb', .slice b B.length cb, .string ⟨#[]⟩, .int .i64 0, .slice bi 0 cbi, .slice bt 0 cbt] (w.heap.size + 1) (by simp)).old (.cells #[.int .u8 0, .bool false, .slice none 0 0, .string ⟨#[]⟩, .int .i64 0, .slice none 0 0, .slice none 0 0] 26)
  have tz0 := Tb.new ((w.alloc (.cells #[.int .u8 1, .bool na, .slice a A.length ca, .string ⟨#[]⟩, .int .i64 0, .slice ai 0 ci, .slice at' 0 ct] 26)).alloc (.cells #[.int .u8 1, .bool nb', .slice b B.length cb, .string ⟨#[]⟩, .int .i64 0, .slice bi 0 cbi, .slice bt 0 cbt] 26)) #[.int .u8 0, .bool false, .slice none 0 0, .string ⟨#[]⟩, .int .i64 0, .slice none 0 0, .slice none 0 0] (w.heap.size + 1 + 1) (by simp)
  refine (TI.rRight (TI.mono IA.out u0) ai at' ca ci ct).mono ?_
  rintro e w1 ⟨rfl, h1⟩
  have u1 := u0.trans h1
  have ta1 := ta0.mono h1 (by simp)
  have tb1 := tb0.mono h1 (by simp)
  have tz1 := tz0.mono h1 (by simp)
  clear u0 ta0 tb0 tz0 h1
  go_wp2_with (first | (refine load_G _ _ rfl _ _ rfl tb1 rfl rfl ?_))
  refine (TI.rRight (TI.mono IB.out u1) bi bt cb cbi cbt).mono ?_
  rintro e w2 ⟨rfl, h2⟩
  have u2 := u1.trans h2
  have ta2 := ta1.mono h2 (by simp)
  have tb2 := tb1.mono h2 (by simp)
  have tz2 := tz1.mono h2 (by simp)
  have ia2 : Hid (TI w2 na a A x) := TI.mono IA.out u2
  have ib2 : Hid (TI w2 nb' b B y) := TI.mono IB.out u2
  have U2 : Hid (Upd [] w w2) := u2
  clear u1 ta1 tb1 tz1 h2 u2 IA IB
  go_upto_region 3 with fail
  go_cut [6, 7] (fun s6 s7 wx => ∃ ax cx X ay cy Y, s6 = .slice ax X.length cx ∧ s7 = .slice ay Y.length cy ∧ NormB X x.natAbs ∧ NormB Y y.natAbs ∧ BA wx ax X ∧ BA wx ay Y ∧ Upd [] w2 wx)
  case first =>
    have r0 : w2.cell? ⟨w.heap.size, 0, none⟩ = some (.int .u8 1) := ta2.cell 0
    have s0 : w2.cell? ⟨w.heap.size + 1, 0, none⟩ = some (.int .u8 1) := tb2.cell 0
    have r1 : w2.cell? ⟨w.heap.size, 1, none⟩ = some (.bool na) := ta2.cell 1
    have s1 : w2.cell? ⟨w.heap.size + 1, 1, none⟩ = some (.bool nb') := tb2.cell 1
    have r2 : w2.cell? ⟨w.heap.size, 2, none⟩ = some (.slice a A.length ca) := ta2.cell 2
    have s2 : w2.cell? ⟨w.heap.size + 1, 2, none⟩ = some (.slice b B.length cb) := tb2.cell 2
    have r3 : w2.cell? ⟨w.heap.size, 3, none⟩ = some (.string ⟨#[]⟩) := ta2.cell 3
    have s3 : w2.cell? ⟨w.heap.size + 1, 3, none⟩ = some (.string ⟨#[]⟩) := tb2.cell 3
    have r4 : w2.cell? ⟨w.heap.size, 4, none⟩ = some (.int .i64 0) := ta2.cell 4
    have s4 : w2.cell? ⟨w.heap.size + 1, 4, none⟩ = some (.int .i64 0) := tb2.cell 4
    have r5 : w2.cell? ⟨w.heap.size, 5, none⟩ = some (.slice ai 0 ci) := ta2.cell 5
    have s5 : w2.cell? ⟨w.heap.size + 1, 5, none⟩ = some (.slice bi 0 cbi) := tb2.cell 5
    have r6 : w2.cell? ⟨w.heap.size, 6, none⟩ = some (.slice at' 0 ct) := ta2.cell 6
    have s6 : w2.cell? ⟨w.heap.size + 1, 6, none⟩ = some (.slice bt 0 cbt) := tb2.cell 6
    have hlr := ta2.lt
    have hlb := tb2.lt
    have hta : Hid (Tb w2 (w.heap.size) #[.int .u8 1, .bool na, .slice a A.length ca, .string ⟨#[]⟩, .int .i64 0, .slice ai 0 ci, .slice at' 0 ct]) := ta2
    have htb : Hid (Tb w2 (w.heap.size + 1) #[.int .u8 1, .bool nb', .slice b B.length cb, .string ⟨#[]⟩, .int .i64 0, .slice bi 0 cbi, .slice bt 0 cbt]) := tb2
    clear ta2 tb2 tz2
    go_region_held3 (fun w' => w'.cell? ⟨w.heap.size, 0, none⟩ = some (.int .u8 1) ∧ w'.cell? ⟨w.heap.size, 1, none⟩ = some (.bool na) ∧ w'.cell? ⟨w.heap.size, 2, none⟩ = some (.slice a A.length ca) ∧ w'.cell? ⟨w.heap.size, 3, none⟩ = some (.string ⟨#[]⟩) ∧ w'.cell? ⟨w.heap.size, 4, none⟩ = some (.int .i64 0) ∧ w'.cell? ⟨w.heap.size, 5, none⟩ = some (.slice ai 0 ci) ∧ w'.cell? ⟨w.heap.size, 6, none⟩ = some (.slice at' 0 ct) ∧ w'.cell? ⟨w.heap.size + 1, 0, none⟩ = some (.int .u8 1) ∧ w'.cell? ⟨w.heap.size + 1, 1, none⟩ = some (.bool nb') ∧ w'.cell? ⟨w.heap.size + 1, 2, none⟩ = some (.slice b B.length cb) ∧ w'.cell? ⟨w.heap.size + 1, 3, none⟩ = some (.string ⟨#[]⟩) ∧ w'.cell? ⟨w.heap.size + 1, 4, none⟩ = some (.int .i64 0) ∧ w'.cell? ⟨w.heap.size + 1, 5, none⟩ = some (.slice bi 0 cbi) ∧ w'.cell? ⟨w.heap.size + 1, 6, none⟩ = some (.slice bt 0 cbt))
      (go_keep)
      (first
        | (go_at_call_of 38 (Value.slice a A.length ca); refine (bits_any a ai at' ca ci ct na A x _ ?_).mono ?_; (exact TI.mono (Hid.out ia2) (by repeat (first | exact Upd.refl _ _ | refine Upd.drew ?_))); rintro e v1 ⟨hv1, ax, cx, Mx, rfl, znx, zbx, zfx, zdx, zex⟩; have uv1 : Hid (Upd [] w2 v1) := Upd.trans (by repeat (first | exact Upd.refl _ _ | refine Upd.drew ?_)) hv1; have pv1 : Tb v1 (w.heap.size) #[.int .u8 1, .bool na, .slice a A.length ca, .string ⟨#[]⟩, .int .i64 0, .slice ai 0 ci, .slice at' 0 ct] := Tb.mono (Hid.out hta) (Hid.out uv1) (by simp); have qv1 : Tb v1 (w.heap.size + 1) #[.int .u8 1, .bool nb', .slice b B.length cb, .string ⟨#[]⟩, .int .i64 0, .slice bi 0 cbi, .slice bt 0 cbt] := Tb.mono (Hid.out htb) (Hid.out uv1) (by simp); have r0v1 : v1.cell? ⟨w.heap.size, 0, none⟩ = some (.int .u8 1) := pv1.cell 0; have s0v1 : v1.cell? ⟨w.heap.size + 1, 0, none⟩ = some (.int .u8 1) := qv1.cell 0; have r1v1 : v1.cell? ⟨w.heap.size, 1, none⟩ = some (.bool na) := pv1.cell 1; have s1v1 : v1.cell? ⟨w.heap.size + 1, 1, none⟩ = some (.bool nb') := qv1.cell 1; have r2v1 : v1.cell? ⟨w.heap.size, 2, none⟩ = some (.slice a A.length ca) := pv1.cell 2; have s2v1 : v1.cell? ⟨w.heap.size + 1, 2, none⟩ = some (.slice b B.length cb) := qv1.cell 2; have r3v1 : v1.cell? ⟨w.heap.size, 3, none⟩ = some (.string ⟨#[]⟩) := pv1.cell 3; have s3v1 : v1.cell? ⟨w.heap.size + 1, 3, none⟩ = some (.string ⟨#[]⟩) := qv1.cell 3; have r4v1 : v1.cell? ⟨w.heap.size, 4, none⟩ = some (.int .i64 0) := pv1.cell 4; have s4v1 : v1.cell? ⟨w.heap.size + 1, 4, none⟩ = some (.int .i64 0) := qv1.cell 4; have r5v1 : v1.cell? ⟨w.heap.size, 5, none⟩ = some (.slice ai 0 ci) := pv1.cell 5; have s5v1 : v1.cell? ⟨w.heap.size + 1, 5, none⟩ = some (.slice bi 0 cbi) := qv1.cell 5; have r6v1 : v1.cell? ⟨w.heap.size, 6, none⟩ = some (.slice at' 0 ct) := pv1.cell 6; have s6v1 : v1.cell? ⟨w.heap.size + 1, 6, none⟩ = some (.slice bt 0 cbt) := qv1.cell 6; have htav1 : Hid (Tb v1 (w.heap.size) #[.int .u8 1, .bool na, .slice a A.length ca, .string ⟨#[]⟩, .int .i64 0, .slice ai 0 ci, .slice at' 0 ct]) := pv1; have htbv1 : Hid (Tb v1 (w.heap.size + 1) #[.int .u8 1, .bool nb', .slice b B.length cb, .string ⟨#[]⟩, .int .i64 0, .slice bi 0 cbi, .slice bt 0 cbt]) := qv1; have Nx : Hid (NormB Mx _) := znx; have Bx : Hid (BA v1 ax Mx) := zbx; clear pv1 qv1 znx zbx zfx)
        | (go_at_call_of 38 (Value.slice b B.length cb); refine (bits_any b bi bt cb cbi cbt nb' B y _ ?_).mono ?_; (exact TI.mono (TI.mono (Hid.out ib2) (Hid.out uv1)) (by repeat (first | exact Upd.refl _ _ | refine Upd.drew ?_))); rintro e v2 ⟨hv2, ay, cy, My, rfl, zny, zby, zfy, zdy, zey⟩; have uv2 : Hid (Upd [] v1 v2) := Upd.trans (by repeat (first | exact Upd.refl _ _ | refine Upd.drew ?_)) hv2; have pv2 : Tb v2 (w.heap.size) #[.int .u8 1, .bool na, .slice a A.length ca, .string ⟨#[]⟩, .int .i64 0, .slice ai 0 ci, .slice at' 0 ct] := Tb.mono (Hid.out htav1) (Hid.out uv2) (by simp); have qv2 : Tb v2 (w.heap.size + 1) #[.int .u8 1, .bool nb', .slice b B.length cb, .string ⟨#[]⟩, .int .i64 0, .slice bi 0 cbi, .slice bt 0 cbt] := Tb.mono (Hid.out htbv1) (Hid.out uv2) (by simp); have r0v2 : v2.cell? ⟨w.heap.size, 0, none⟩ = some (.int .u8 1) := pv2.cell 0; have s0v2 : v2.cell? ⟨w.heap.size + 1, 0, none⟩ = some (.int .u8 1) := qv2.cell 0; have r1v2 : v2.cell? ⟨w.heap.size, 1, none⟩ = some (.bool na) := pv2.cell 1; have s1v2 : v2.cell? ⟨w.heap.size + 1, 1, none⟩ = some (.bool nb') := qv2.cell 1; have r2v2 : v2.cell? ⟨w.heap.size, 2, none⟩ = some (.slice a A.length ca) := pv2.cell 2; have s2v2 : v2.cell? ⟨w.heap.size + 1, 2, none⟩ = some (.slice b B.length cb) := qv2.cell 2; have r3v2 : v2.cell? ⟨w.heap.size, 3, none⟩ = some (.string ⟨#[]⟩) := pv2.cell 3; have s3v2 : v2.cell? ⟨w.heap.size + 1, 3, none⟩ = some (.string ⟨#[]⟩) := qv2.cell 3; have r4v2 : v2.cell? ⟨w.heap.size, 4, none⟩ = some (.int .i64 0) := pv2.cell 4; have s4v2 : v2.cell? ⟨w.heap.size + 1, 4, none⟩ = some (.int .i64 0) := qv2.cell 4; have r5v2 : v2.cell? ⟨w.heap.size, 5, none⟩ = some (.slice ai 0 ci) := pv2.cell 5; have s5v2 : v2.cell? ⟨w.heap.size + 1, 5, none⟩ = some (.slice bi 0 cbi) := qv2.cell 5; have r6v2 : v2.cell? ⟨w.heap.size, 6, none⟩ = some (.slice at' 0 ct) := pv2.cell 6; have s6v2 : v2.cell? ⟨w.heap.size + 1, 6, none⟩ = some (.slice bt 0 cbt) := qv2.cell 6; have htav2 : Hid (Tb v2 (w.heap.size) #[.int .u8 1, .bool na, .slice a A.length ca, .string ⟨#[]⟩, .int .i64 0, .slice ai 0 ci, .slice at' 0 ct]) := pv2; have htbv2 : Hid (Tb v2 (w.heap.size + 1) #[.int .u8 1, .bool nb', .slice b B.length cb, .string ⟨#[]⟩, .int .i64 0, .slice bi 0 cbi, .slice bt 0 cbt]) := qv2; have Ny : Hid (NormB My _) := zny; have By : Hid (BA v2 ay My) := zby; clear pv2 qv2 zny zby zfy))
    all_goals
      go_wp2_with fail
      go_meet
      exact ⟨ax, cx, Mx, ay, cy, My, rfl, rfl, Nx.out, Ny.out, Bx.out.mono uv2.out, By.out, uv1.out.trans uv2.out⟩
  case rest =>
    obtain ⟨ax, cx, X, ay, cy, Y, rfl, rfl, nX, nY, hX, hY, hU3⟩ := hcut
    rename World => w3
    have ta3 := ta2.mono hU3 (by simp)
    have tb3 := tb2.mono hU3 (by simp)
    have tz3 := tz2.mono hU3 (by simp)
    have hXl := (nX.len_le 1024).2 HX1.out
    have hYl := (nY.len_le 1024).2 HY1.out
    have HNX : Hid (NormB X x.natAbs) := nX
    have HNY : Hid (NormB Y y.natAbs) := nY
    have U3 : Hid (Upd [] w w3) := U2.out.trans hU3
    have ca1 : w3.cell? ⟨w.heap.size, 1, none⟩ = some (.bool na) := ta3.cell 1
    have cb1 : w3.cell? ⟨w.heap.size + 1, 1, none⟩ = some (.bool nb') := tb3.cell 1
    have hlb := tb3.lt
    have hla := ta3.lt
    have BX : Hid (BA w3 ax X) := hX
    have BY : Hid (BA w3 ay Y) := hY
    have HTZ : Hid (Tb w3 (w.heap.size + 1 + 1) #[.int .u8 0, .bool false, .slice none 0 0, .string ⟨#[]⟩, .int .i64 0, .slice none 0 0, .slice none 0 0]) := tz3
    clear ta2 tb2 tz2 hU3 nX nY U2 hX hY ta3 tb3 tz3

    go_wp2_with fail
    have hne1 : (w.heap.size + 1 + 1 = w.heap.size) = False := eq_false (by omega)
    have hne2 : (w.heap.size = w.heap.size + 1 + 1) = False := eq_false (by omega)
    go_region_held3 (fun w' => w'.cell? ⟨w.heap.size, 1, none⟩ = some (.bool na) ∧ w'.cell? ⟨w.heap.size + 1, 1, none⟩ = some (.bool nb'))
      (go_keep)
      (first
        | (go_at_call 39; refine (made_any a9 c9 _ na M9 _ ?_ ?_ ?_ ?_ N9.out.eq).mono ?_; (omega); (exact zd9); (exact ze9); (exact BA.mono (Hid.out B9) (by repeat (first | exact Upd.refl _ _ | refine Upd.drew ?_))); rintro e v2 ⟨hR, hv2⟩; rw [HZ.out] at hR; obtain ⟨k4, n4, a4, c4, M4, b4, rfl, hA4, hR4⟩ := Res.open hR; clear hR; have uv2 : Hid (Upd [] v1 v2) := Upd.trans (by repeat (first | exact Upd.refl _ _ | refine Upd.drew ?_)) hv2; have k1v2 : v2.cell? ⟨w.heap.size, 1, none⟩ = some (.bool na) := ((Hid.out uv2).cell (p := ⟨w.heap.size, 1, none⟩) (by show w.heap.size < v1.heap.size; omega) (by simp)).trans k1v1; have k2v2 : v2.cell? ⟨w.heap.size + 1, 1, none⟩ = some (.bool nb') := ((Hid.out uv2).cell (p := ⟨w.heap.size + 1, 1, none⟩) (by show w.heap.size + 1 < v1.heap.size; omega) (by simp)).trans k2v1; have zv2 : v1.heap.size ≤ v2.heap.size := (Hid.out uv2).size; have A4 : Hid (At v2 a4 M4) := hA4; have R4 : Hid (∀ w'', At w'' a4 M4 → Res w'' (.returned (.tuple #[.agg #[.int .u8 k4, .bool n4, .slice a4 M4.length c4, .string ⟨#[]⟩, .int .i64 0, .slice none 0 0, .slice none 0 0], .bool b4])) (x + y)) := hR4; clear hA4 hR4; have t2 : Tb v2 (w.heap.size + 1 + 1) #[.int .u8 0, .bool false, .slice none 0 0, .string ⟨#[]⟩, .int .i64 0, .slice none 0 0, .slice none 0 0] := Tb.mono (Tb.mono (Hid.out HTZ) (Hid.out uv1) (by simp)) (Hid.out uv2) (by simp); have y0 : v2.cell? ⟨w.heap.size + 1 + 1, 0, none⟩ = some (.int .u8 0) := t2.cell 0; have y1 : v2.cell? ⟨w.heap.size + 1 + 1, 1, none⟩ = some (.bool false) := t2.cell 1; have y2 : v2.cell? ⟨w.heap.size + 1 + 1, 2, none⟩ = some (.slice none 0 0) := t2.cell 2; have y3 : v2.cell? ⟨w.heap.size + 1 + 1, 3, none⟩ = some (.string ⟨#[]⟩) := t2.cell 3; have y4 : v2.cell? ⟨w.heap.size + 1 + 1, 4, none⟩ = some (.int .i64 0) := t2.cell 4; have y5 : v2.cell? ⟨w.heap.size + 1 + 1, 5, none⟩ = some (.slice none 0 0) := t2.cell 5; have y6 : v2.cell? ⟨w.heap.size + 1 + 1, 6, none⟩ = some (.slice none 0 0) := t2.cell 6; have yf : ∀ i, v2.frozen? ⟨w.heap.size + 1 + 1, i, none⟩ = false := fun i => t2.free i; have HTZ2 : Hid (Tb v2 (w.heap.size + 1 + 1) #[.int .u8 0, .bool false, .slice none 0 0, .string ⟨#[]⟩, .int .i64 0, .slice none 0 0, .slice none 0 0]) := t2; clear t2)
        | (go_at_call 40; refine (rsum_any ax ay cx cy _ _ X Y _ ?_ ?_ ?_ ?_ HNX.out.eq HNY.out.eq).mono ?_; (omega); (omega); (exact BA.mono (Hid.out BX) (by repeat (first | exact Upd.refl _ _ | refine Upd.drew ?_))); (exact BA.mono (Hid.out BY) (by repeat (first | exact Upd.refl _ _ | refine Upd.drew ?_))); rintro e v1 ⟨hv1, a9, c9, M9, rfl, zn9, zb9, zf9, zd9, ze9, zl9⟩; have uv1 : Hid (Upd [] w3 v1) := Upd.trans (by repeat (first | exact Upd.refl _ _ | refine Upd.drew ?_)) hv1; have k1v1 : v1.cell? ⟨w.heap.size, 1, none⟩ = some (.bool na) := ((Hid.out uv1).cell (p := ⟨w.heap.size, 1, none⟩) (by show w.heap.size < w3.heap.size; omega) (by simp)).trans ca1; have k2v1 : v1.cell? ⟨w.heap.size + 1, 1, none⟩ = some (.bool nb') := ((Hid.out uv1).cell (p := ⟨w.heap.size + 1, 1, none⟩) (by show w.heap.size + 1 < w3.heap.size; omega) (by simp)).trans cb1; have zv1 : w3.heap.size ≤ v1.heap.size := (Hid.out uv1).size; have N9 : Hid (NormB M9 _) := zn9; have B9 : Hid (BA v1 a9 M9) := zb9; clear zn9 zb9 zf9))
    all_goals
      go_wp2
      have h7 := seven (Hid.out HTZ2) (.int .u8 k4) (.bool n4) (.slice a4 M4.length c4) (.string ⟨#[]⟩) (.int .i64 0) (.slice none 0 0) (.slice none 0 0)
      have mA := At.keep (Hid.out A4) (Hid.out HTZ2) h7.2
      first
        | exact ret_Tb Tryd.results13 rfl _ _ _ rfl h7.1 rfl rfl ⟨(Hid.out R4) _ mA, (U3.out.trans (uv1.out.trans uv2.out)).then h7.2 (by intro z hz; simp at hz; omega)⟩
        | exact ret_Tb Tryd.results13 rfl _ _ _ rfl (Tb.mono h7.1 (Upd.drew (Upd.refl [] _)) (by simp)) rfl rfl ⟨(Hid.out R4) _ (At.mono mA (Upd.drew (Upd.refl [] _))), ((U3.out.trans (uv1.out.trans uv2.out)).then h7.2 (by intro z hz; simp at hz; omega)).drew⟩

set_option maxHeartbeats 8000000 in
set_option maxRecDepth 100000 in
theorem rAdd_below (a ai at' b bi bt : Option Addr) (ca ci ct cb cbi cbt : Nat) (na nb' : Bool) (A B : List Nat) (x y : Int) (w : World) (HA : TI w na a A x) (HB : TI w nb' b B y) (hs : na ≠ nb') (hlt : x.natAbs < y.natAbs) :
    Calls Tryd.prog 13 #[.agg #[.int .u8 1, .bool na, .slice a A.length ca, .string ⟨#[]⟩, .int .i64 0, .slice ai 0 ci, .slice at' 0 ct], .agg #[.int .u8 1, .bool nb', .slice b B.length cb, .string ⟨#[]⟩, .int .i64 0, .slice bi 0 cbi, .slice bt 0 cbt]] w fun e w' => Res w' e (x + y) ∧ Upd [] w w' := by
  have IA : Hid (TI w na a A x) := HA
  have IB : Hid (TI w nb' b B y) := HB
  have hxs := HA.sg
  have hys := HB.sg
  have HZ : Hid (sg nb' (y.natAbs - x.natAbs) = x + y) := by
    show _ = _
    generalize x.natAbs = p at *
    generalize y.natAbs = q at *
    subst hxs hys
    cases na <;> cases nb' <;> simp [sg] at hs ⊢ <;> omega
  have HLE : Hid (x.natAbs ≤ y.natAbs) := Nat.le_of_lt hlt
  have HBL : Hid (decide (x.natAbs < y.natAbs) = true) := decide_eq_true hlt
  have hne : (na == nb') = false := by cases na <;> cases nb' <;> simp at hs ⊢
  clear hlt
  have hx1 : x.natAbs < 2 ^ 1024 := by rw [← pow_eq]; exact HA.small
  have hy1 : y.natAbs < 2 ^ 1024 := by rw [← pow_eq]; exact HB.small
  have HX1 : Hid (x.natAbs < 2 ^ 1024) := hx1
  have HY1 : Hid (y.natAbs < 2 ^ 1024) := hy1
  clear HA HB hxs hys hx1 hy1
  go_enter Tryd.func13, Tryd.ntmps13
  go_wp2_with fail
  have u0 := (((Upd.refl [] w).alloc (.cells #[.int .u8 1, .bool na, .slice a A.length ca, .string ⟨#[]⟩, .int .i64 0, .slice ai 0 ci, .slice at' 0 ct] 26)).alloc (.cells #[.int .u8 1, .bool nb', .slice b B.length cb, .string ⟨#[]⟩, .int .i64 0, .slice bi 0 cbi, .slice bt 0 cbt] 26)).alloc (.cells #[.int .u8 0, .bool false, .slice none 0 0, .string ⟨#[]⟩, .int .i64 0, .slice none 0 0, .slice none 0 0] 26)
  have ta0 := ((Tb.new w #[.int .u8 1, .bool na, .slice a A.length ca, .string ⟨#[]⟩, .int .i64 0, .slice ai 0 ci, .slice at' 0 ct] _ rfl).old (.cells #[.int .u8 1, .bool nb', .slice b B.length cb, .string ⟨#[]⟩, .int .i64 0, .slice bi 0 cbi, .slice bt 0 cbt] 26)).old (.cells #[.int .u8 0, .bool false, .slice none 0 0, .string ⟨#[]⟩, .int .i64 0, .slice none 0 0, .slice none 0 0] 26)
  have tb0 := (Tb.new (w.alloc (.cells #[.int .u8 1, .bool na, .slice a A.length ca, .string ⟨#[]⟩, .int .i64 0, .slice ai 0 ci, .slice at' 0 ct] 26)) #[.int .u8 1, .bool nb', .slice b B.length cb, .string ⟨#[]⟩, .int .i64 0, .slice bi 0 cbi, .slice bt 0 cbt] (w.heap.size + 1) (by simp)).old (.cells #[.int .u8 0, .bool false, .slice none 0 0, .string ⟨#[]⟩, .int .i64 0, .slice none 0 0, .slice none 0 0] 26)
  have tz0 := Tb.new ((w.alloc (.cells #[.int .u8 1, .bool na, .slice a A.length ca, .string ⟨#[]⟩, .int .i64 0, .slice ai 0 ci, .slice at' 0 ct] 26)).alloc (.cells #[.int .u8 1, .bool nb', .slice b B.length cb, .string ⟨#[]⟩, .int .i64 0, .slice bi 0 cbi, .slice bt 0 cbt] 26)) #[.int .u8 0, .bool false, .slice none 0 0, .string ⟨#[]⟩, .int .i64 0, .slice none 0 0, .slice none 0 0] (w.heap.size + 1 + 1) (by simp)
  refine (TI.rRight (TI.mono IA.out u0) ai at' ca ci ct).mono ?_
  rintro e w1 ⟨rfl, h1⟩
  have u1 := u0.trans h1
  have ta1 := ta0.mono h1 (by simp)
  have tb1 := tb0.mono h1 (by simp)
  have tz1 := tz0.mono h1 (by simp)
  clear u0 ta0 tb0 tz0 h1
  go_wp2_with (first | (refine load_G _ _ rfl _ _ rfl tb1 rfl rfl ?_))
  refine (TI.rRight (TI.mono IB.out u1) bi bt cb cbi cbt).mono ?_
  rintro e w2 ⟨rfl, h2⟩
  have u2 := u1.trans h2
  have ta2 := ta1.mono h2 (by simp)
  have tb2 := tb1.mono h2 (by simp)
  have tz2 := tz1.mono h2 (by simp)
  have ia2 : Hid (TI w2 na a A x) := TI.mono IA.out u2
  have ib2 : Hid (TI w2 nb' b B y) := TI.mono IB.out u2
  have U2 : Hid (Upd [] w w2) := u2
  clear u1 ta1 tb1 tz1 h2 u2 IA IB
  go_upto_region 3 with fail
  go_cut [6, 7] (fun s6 s7 wx => ∃ ax cx X ay cy Y, s6 = .slice ax X.length cx ∧ s7 = .slice ay Y.length cy ∧ NormB X x.natAbs ∧ NormB Y y.natAbs ∧ BA wx ax X ∧ BA wx ay Y ∧ Upd [] w2 wx)
  case first =>
    have r0 : w2.cell? ⟨w.heap.size, 0, none⟩ = some (.int .u8 1) := ta2.cell 0
    have s0 : w2.cell? ⟨w.heap.size + 1, 0, none⟩ = some (.int .u8 1) := tb2.cell 0
    have r1 : w2.cell? ⟨w.heap.size, 1, none⟩ = some (.bool na) := ta2.cell 1
    have s1 : w2.cell? ⟨w.heap.size + 1, 1, none⟩ = some (.bool nb') := tb2.cell 1
    have r2 : w2.cell? ⟨w.heap.size, 2, none⟩ = some (.slice a A.length ca) := ta2.cell 2
    have s2 : w2.cell? ⟨w.heap.size + 1, 2, none⟩ = some (.slice b B.length cb) := tb2.cell 2
    have r3 : w2.cell? ⟨w.heap.size, 3, none⟩ = some (.string ⟨#[]⟩) := ta2.cell 3
    have s3 : w2.cell? ⟨w.heap.size + 1, 3, none⟩ = some (.string ⟨#[]⟩) := tb2.cell 3
    have r4 : w2.cell? ⟨w.heap.size, 4, none⟩ = some (.int .i64 0) := ta2.cell 4
    have s4 : w2.cell? ⟨w.heap.size + 1, 4, none⟩ = some (.int .i64 0) := tb2.cell 4
    have r5 : w2.cell? ⟨w.heap.size, 5, none⟩ = some (.slice ai 0 ci) := ta2.cell 5
    have s5 : w2.cell? ⟨w.heap.size + 1, 5, none⟩ = some (.slice bi 0 cbi) := tb2.cell 5
    have r6 : w2.cell? ⟨w.heap.size, 6, none⟩ = some (.slice at' 0 ct) := ta2.cell 6
    have s6 : w2.cell? ⟨w.heap.size + 1, 6, none⟩ = some (.slice bt 0 cbt) := tb2.cell 6
    have hlr := ta2.lt
    have hlb := tb2.lt
    have hta : Hid (Tb w2 (w.heap.size) #[.int .u8 1, .bool na, .slice a A.length ca, .string ⟨#[]⟩, .int .i64 0, .slice ai 0 ci, .slice at' 0 ct]) := ta2
    have htb : Hid (Tb w2 (w.heap.size + 1) #[.int .u8 1, .bool nb', .slice b B.length cb, .string ⟨#[]⟩, .int .i64 0, .slice bi 0 cbi, .slice bt 0 cbt]) := tb2
    clear ta2 tb2 tz2
    go_region_held3 (fun w' => w'.cell? ⟨w.heap.size, 0, none⟩ = some (.int .u8 1) ∧ w'.cell? ⟨w.heap.size, 1, none⟩ = some (.bool na) ∧ w'.cell? ⟨w.heap.size, 2, none⟩ = some (.slice a A.length ca) ∧ w'.cell? ⟨w.heap.size, 3, none⟩ = some (.string ⟨#[]⟩) ∧ w'.cell? ⟨w.heap.size, 4, none⟩ = some (.int .i64 0) ∧ w'.cell? ⟨w.heap.size, 5, none⟩ = some (.slice ai 0 ci) ∧ w'.cell? ⟨w.heap.size, 6, none⟩ = some (.slice at' 0 ct) ∧ w'.cell? ⟨w.heap.size + 1, 0, none⟩ = some (.int .u8 1) ∧ w'.cell? ⟨w.heap.size + 1, 1, none⟩ = some (.bool nb') ∧ w'.cell? ⟨w.heap.size + 1, 2, none⟩ = some (.slice b B.length cb) ∧ w'.cell? ⟨w.heap.size + 1, 3, none⟩ = some (.string ⟨#[]⟩) ∧ w'.cell? ⟨w.heap.size + 1, 4, none⟩ = some (.int .i64 0) ∧ w'.cell? ⟨w.heap.size + 1, 5, none⟩ = some (.slice bi 0 cbi) ∧ w'.cell? ⟨w.heap.size + 1, 6, none⟩ = some (.slice bt 0 cbt))
      (go_keep)
      (first
        | (go_at_call_of 38 (Value.slice a A.length ca); refine (bits_any a ai at' ca ci ct na A x _ ?_).mono ?_; (exact TI.mono (Hid.out ia2) (by repeat (first | exact Upd.refl _ _ | refine Upd.drew ?_))); rintro e v1 ⟨hv1, ax, cx, Mx, rfl, znx, zbx, zfx, zdx, zex⟩; have uv1 : Hid (Upd [] w2 v1) := Upd.trans (by repeat (first | exact Upd.refl _ _ | refine Upd.drew ?_)) hv1; have pv1 : Tb v1 (w.heap.size) #[.int .u8 1, .bool na, .slice a A.length ca, .string ⟨#[]⟩, .int .i64 0, .slice ai 0 ci, .slice at' 0 ct] := Tb.mono (Hid.out hta) (Hid.out uv1) (by simp); have qv1 : Tb v1 (w.heap.size + 1) #[.int .u8 1, .bool nb', .slice b B.length cb, .string ⟨#[]⟩, .int .i64 0, .slice bi 0 cbi, .slice bt 0 cbt] := Tb.mono (Hid.out htb) (Hid.out uv1) (by simp); have r0v1 : v1.cell? ⟨w.heap.size, 0, none⟩ = some (.int .u8 1) := pv1.cell 0; have s0v1 : v1.cell? ⟨w.heap.size + 1, 0, none⟩ = some (.int .u8 1) := qv1.cell 0; have r1v1 : v1.cell? ⟨w.heap.size, 1, none⟩ = some (.bool na) := pv1.cell 1; have s1v1 : v1.cell? ⟨w.heap.size + 1, 1, none⟩ = some (.bool nb') := qv1.cell 1; have r2v1 : v1.cell? ⟨w.heap.size, 2, none⟩ = some (.slice a A.length ca) := pv1.cell 2; have s2v1 : v1.cell? ⟨w.heap.size + 1, 2, none⟩ = some (.slice b B.length cb) := qv1.cell 2; have r3v1 : v1.cell? ⟨w.heap.size, 3, none⟩ = some (.string ⟨#[]⟩) := pv1.cell 3; have s3v1 : v1.cell? ⟨w.heap.size + 1, 3, none⟩ = some (.string ⟨#[]⟩) := qv1.cell 3; have r4v1 : v1.cell? ⟨w.heap.size, 4, none⟩ = some (.int .i64 0) := pv1.cell 4; have s4v1 : v1.cell? ⟨w.heap.size + 1, 4, none⟩ = some (.int .i64 0) := qv1.cell 4; have r5v1 : v1.cell? ⟨w.heap.size, 5, none⟩ = some (.slice ai 0 ci) := pv1.cell 5; have s5v1 : v1.cell? ⟨w.heap.size + 1, 5, none⟩ = some (.slice bi 0 cbi) := qv1.cell 5; have r6v1 : v1.cell? ⟨w.heap.size, 6, none⟩ = some (.slice at' 0 ct) := pv1.cell 6; have s6v1 : v1.cell? ⟨w.heap.size + 1, 6, none⟩ = some (.slice bt 0 cbt) := qv1.cell 6; have htav1 : Hid (Tb v1 (w.heap.size) #[.int .u8 1, .bool na, .slice a A.length ca, .string ⟨#[]⟩, .int .i64 0, .slice ai 0 ci, .slice at' 0 ct]) := pv1; have htbv1 : Hid (Tb v1 (w.heap.size + 1) #[.int .u8 1, .bool nb', .slice b B.length cb, .string ⟨#[]⟩, .int .i64 0, .slice bi 0 cbi, .slice bt 0 cbt]) := qv1; have Nx : Hid (NormB Mx _) := znx; have Bx : Hid (BA v1 ax Mx) := zbx; clear pv1 qv1 znx zbx zfx)
        | (go_at_call_of 38 (Value.slice b B.length cb); refine (bits_any b bi bt cb cbi cbt nb' B y _ ?_).mono ?_; (exact TI.mono (TI.mono (Hid.out ib2) (Hid.out uv1)) (by repeat (first | exact Upd.refl _ _ | refine Upd.drew ?_))); rintro e v2 ⟨hv2, ay, cy, My, rfl, zny, zby, zfy, zdy, zey⟩; have uv2 : Hid (Upd [] v1 v2) := Upd.trans (by repeat (first | exact Upd.refl _ _ | refine Upd.drew ?_)) hv2; have pv2 : Tb v2 (w.heap.size) #[.int .u8 1, .bool na, .slice a A.length ca, .string ⟨#[]⟩, .int .i64 0, .slice ai 0 ci, .slice at' 0 ct] := Tb.mono (Hid.out htav1) (Hid.out uv2) (by simp); have qv2 : Tb v2 (w.heap.size + 1) #[.int .u8 1, .bool nb', .slice b B.length cb, .string ⟨#[]⟩, .int .i64 0, .slice bi 0 cbi, .slice bt 0 cbt] := Tb.mono (Hid.out htbv1) (Hid.out uv2) (by simp); have r0v2 : v2.cell? ⟨w.heap.size, 0, none⟩ = some (.int .u8 1) := pv2.cell 0; have s0v2 : v2.cell? ⟨w.heap.size + 1, 0, none⟩ = some (.int .u8 1) := qv2.cell 0; have r1v2 : v2.cell? ⟨w.heap.size, 1, none⟩ = some (.bool na) := pv2.cell 1; have s1v2 : v2.cell? ⟨w.heap.size + 1, 1, none⟩ = some (.bool nb') := qv2.cell 1; have r2v2 : v2.cell? ⟨w.heap.size, 2, none⟩ = some (.slice a A.length ca) := pv2.cell 2; have s2v2 : v2.cell? ⟨w.heap.size + 1, 2, none⟩ = some (.slice b B.length cb) := qv2.cell 2; have r3v2 : v2.cell? ⟨w.heap.size, 3, none⟩ = some (.string ⟨#[]⟩) := pv2.cell 3; have s3v2 : v2.cell? ⟨w.heap.size + 1, 3, none⟩ = some (.string ⟨#[]⟩) := qv2.cell 3; have r4v2 : v2.cell? ⟨w.heap.size, 4, none⟩ = some (.int .i64 0) := pv2.cell 4; have s4v2 : v2.cell? ⟨w.heap.size + 1, 4, none⟩ = some (.int .i64 0) := qv2.cell 4; have r5v2 : v2.cell? ⟨w.heap.size, 5, none⟩ = some (.slice ai 0 ci) := pv2.cell 5; have s5v2 : v2.cell? ⟨w.heap.size + 1, 5, none⟩ = some (.slice bi 0 cbi) := qv2.cell 5; have r6v2 : v2.cell? ⟨w.heap.size, 6, none⟩ = some (.slice at' 0 ct) := pv2.cell 6; have s6v2 : v2.cell? ⟨w.heap.size + 1, 6, none⟩ = some (.slice bt 0 cbt) := qv2.cell 6; have htav2 : Hid (Tb v2 (w.heap.size) #[.int .u8 1, .bool na, .slice a A.length ca, .string ⟨#[]⟩, .int .i64 0, .slice ai 0 ci, .slice at' 0 ct]) := pv2; have htbv2 : Hid (Tb v2 (w.heap.size + 1) #[.int .u8 1, .bool nb', .slice b B.length cb, .string ⟨#[]⟩, .int .i64 0, .slice bi 0 cbi, .slice bt 0 cbt]) := qv2; have Ny : Hid (NormB My _) := zny; have By : Hid (BA v2 ay My) := zby; clear pv2 qv2 zny zby zfy))
    all_goals
      go_wp2_with fail
      go_meet
      exact ⟨ax, cx, Mx, ay, cy, My, rfl, rfl, Nx.out, Ny.out, Bx.out.mono uv2.out, By.out, uv1.out.trans uv2.out⟩
  case rest =>
    obtain ⟨ax, cx, X, ay, cy, Y, rfl, rfl, nX, nY, hX, hY, hU3⟩ := hcut
    rename World => w3
    have ta3 := ta2.mono hU3 (by simp)
    have tb3 := tb2.mono hU3 (by simp)
    have tz3 := tz2.mono hU3 (by simp)
    have hXl := (nX.len_le 1024).2 HX1.out
    have hYl := (nY.len_le 1024).2 HY1.out
    have HNX : Hid (NormB X x.natAbs) := nX
    have HNY : Hid (NormB Y y.natAbs) := nY
    have U3 : Hid (Upd [] w w3) := U2.out.trans hU3
    have ca1 : w3.cell? ⟨w.heap.size, 1, none⟩ = some (.bool na) := ta3.cell 1
    have cb1 : w3.cell? ⟨w.heap.size + 1, 1, none⟩ = some (.bool nb') := tb3.cell 1
    have hlb := tb3.lt
    have hla := ta3.lt
    have BX : Hid (BA w3 ax X) := hX
    have BY : Hid (BA w3 ay Y) := hY
    have HTZ : Hid (Tb w3 (w.heap.size + 1 + 1) #[.int .u8 0, .bool false, .slice none 0 0, .string ⟨#[]⟩, .int .i64 0, .slice none 0 0, .slice none 0 0]) := tz3
    clear ta2 tb2 tz2 hU3 nX nY U2 hX hY ta3 tb3 tz3
    go_wp2_with fail
    refine (below_any ax ay cx cy _ _ X Y w3 (by omega) (by omega) BX.out BY.out HNX.out.eq HNY.out.eq).mono ?_
    rintro e w4 ⟨rfl, hw4⟩
    rw [hw4, HBL.out]
    clear hw4
    go_wp2_with fail
    have hne1 : (w.heap.size + 1 + 1 = w.heap.size) = False := eq_false (by omega)
    have hne2 : (w.heap.size = w.heap.size + 1 + 1) = False := eq_false (by omega)
    go_region_held3 (fun w' => w'.cell? ⟨w.heap.size, 1, none⟩ = some (.bool na) ∧ w'.cell? ⟨w.heap.size + 1, 1, none⟩ = some (.bool nb'))
      (go_keep)
      (first
        | (go_at_call 39; refine (made_any a9 c9 _ nb' M9 _ ?_ ?_ ?_ ?_ N9.out.eq).mono ?_; (omega); (exact zd9); (exact ze9); (exact BA.mono (Hid.out B9) (by repeat (first | exact Upd.refl _ _ | refine Upd.drew ?_))); rintro e v2 ⟨hR, hv2⟩; rw [HZ.out] at hR; obtain ⟨k4, n4, a4, c4, M4, b4, rfl, hA4, hR4⟩ := Res.open hR; clear hR; have uv2 : Hid (Upd [] v1 v2) := Upd.trans (by repeat (first | exact Upd.refl _ _ | refine Upd.drew ?_)) hv2; have k1v2 : v2.cell? ⟨w.heap.size, 1, none⟩ = some (.bool na) := ((Hid.out uv2).cell (p := ⟨w.heap.size, 1, none⟩) (by show w.heap.size < v1.heap.size; omega) (by simp)).trans k1v1; have k2v2 : v2.cell? ⟨w.heap.size + 1, 1, none⟩ = some (.bool nb') := ((Hid.out uv2).cell (p := ⟨w.heap.size + 1, 1, none⟩) (by show w.heap.size + 1 < v1.heap.size; omega) (by simp)).trans k2v1; have zv2 : v1.heap.size ≤ v2.heap.size := (Hid.out uv2).size; have A4 : Hid (At v2 a4 M4) := hA4; have R4 : Hid (∀ w'', At w'' a4 M4 → Res w'' (.returned (.tuple #[.agg #[.int .u8 k4, .bool n4, .slice a4 M4.length c4, .string ⟨#[]⟩, .int .i64 0, .slice none 0 0, .slice none 0 0], .bool b4])) (x + y)) := hR4; clear hA4 hR4; have t2 : Tb v2 (w.heap.size + 1 + 1) #[.int .u8 0, .bool false, .slice none 0 0, .string ⟨#[]⟩, .int .i64 0, .slice none 0 0, .slice none 0 0] := Tb.mono (Tb.mono (Hid.out HTZ) (Hid.out uv1) (by simp)) (Hid.out uv2) (by simp); have y0 : v2.cell? ⟨w.heap.size + 1 + 1, 0, none⟩ = some (.int .u8 0) := t2.cell 0; have y1 : v2.cell? ⟨w.heap.size + 1 + 1, 1, none⟩ = some (.bool false) := t2.cell 1; have y2 : v2.cell? ⟨w.heap.size + 1 + 1, 2, none⟩ = some (.slice none 0 0) := t2.cell 2; have y3 : v2.cell? ⟨w.heap.size + 1 + 1, 3, none⟩ = some (.string ⟨#[]⟩) := t2.cell 3; have y4 : v2.cell? ⟨w.heap.size + 1 + 1, 4, none⟩ = some (.int .i64 0) := t2.cell 4; have y5 : v2.cell? ⟨w.heap.size + 1 + 1, 5, none⟩ = some (.slice none 0 0) := t2.cell 5; have y6 : v2.cell? ⟨w.heap.size + 1 + 1, 6, none⟩ = some (.slice none 0 0) := t2.cell 6; have yf : ∀ i, v2.frozen? ⟨w.heap.size + 1 + 1, i, none⟩ = false := fun i => t2.free i; have HTZ2 : Hid (Tb v2 (w.heap.size + 1 + 1) #[.int .u8 0, .bool false, .slice none 0 0, .string ⟨#[]⟩, .int .i64 0, .slice none 0 0, .slice none 0 0]) := t2; clear t2)
        | (go_at_call 42; refine (rless_any ay ax cy cx _ _ Y X _ ?_ ?_ ?_ HNY.out.eq HNX.out ?_).mono ?_; (omega); (exact BA.mono (Hid.out BY) (by repeat (first | exact Upd.refl _ _ | refine Upd.drew ?_))); (exact BA.mono (Hid.out BX) (by repeat (first | exact Upd.refl _ _ | refine Upd.drew ?_))); (exact HLE.out); rintro e v1 ⟨hv1, a9, c9, M9, rfl, zn9, zb9, zf9, zd9, ze9, zl9⟩; have uv1 : Hid (Upd [] w3 v1) := Upd.trans (by repeat (first | exact Upd.refl _ _ | refine Upd.drew ?_)) hv1; have k1v1 : v1.cell? ⟨w.heap.size, 1, none⟩ = some (.bool na) := ((Hid.out uv1).cell (p := ⟨w.heap.size, 1, none⟩) (by show w.heap.size < w3.heap.size; omega) (by simp)).trans ca1; have k2v1 : v1.cell? ⟨w.heap.size + 1, 1, none⟩ = some (.bool nb') := ((Hid.out uv1).cell (p := ⟨w.heap.size + 1, 1, none⟩) (by show w.heap.size + 1 < w3.heap.size; omega) (by simp)).trans cb1; have zv1 : w3.heap.size ≤ v1.heap.size := (Hid.out uv1).size; have N9 : Hid (NormB M9 _) := zn9; have B9 : Hid (BA v1 a9 M9) := zb9; clear zn9 zb9 zf9))
    all_goals
      go_wp2
      have h7 := seven (Hid.out HTZ2) (.int .u8 k4) (.bool n4) (.slice a4 M4.length c4) (.string ⟨#[]⟩) (.int .i64 0) (.slice none 0 0) (.slice none 0 0)
      have mA := At.keep (Hid.out A4) (Hid.out HTZ2) h7.2
      first
        | exact ret_Tb Tryd.results13 rfl _ _ _ rfl h7.1 rfl rfl ⟨(Hid.out R4) _ mA, (U3.out.trans (uv1.out.trans uv2.out)).then h7.2 (by intro z hz; simp at hz; omega)⟩
        | exact ret_Tb Tryd.results13 rfl _ _ _ rfl (Tb.mono h7.1 (Upd.drew (Upd.refl [] _)) (by simp)) rfl rfl ⟨(Hid.out R4) _ (At.mono mA (Upd.drew (Upd.refl [] _))), ((U3.out.trans (uv1.out.trans uv2.out)).then h7.2 (by intro z hz; simp at hz; omega)).drew⟩

set_option maxHeartbeats 8000000 in
set_option maxRecDepth 100000 in
theorem rAdd_not (a ai at' b bi bt : Option Addr) (ca ci ct cb cbi cbt : Nat) (na nb' : Bool) (A B : List Nat) (x y : Int) (w : World) (HA : TI w na a A x) (HB : TI w nb' b B y) (hs : na ≠ nb') (hlt : ¬ x.natAbs < y.natAbs) :
    Calls Tryd.prog 13 #[.agg #[.int .u8 1, .bool na, .slice a A.length ca, .string ⟨#[]⟩, .int .i64 0, .slice ai 0 ci, .slice at' 0 ct], .agg #[.int .u8 1, .bool nb', .slice b B.length cb, .string ⟨#[]⟩, .int .i64 0, .slice bi 0 cbi, .slice bt 0 cbt]] w fun e w' => Res w' e (x + y) ∧ Upd [] w w' := by
  have IA : Hid (TI w na a A x) := HA
  have IB : Hid (TI w nb' b B y) := HB
  have hxs := HA.sg
  have hys := HB.sg
  have HZ : Hid (sg na (x.natAbs - y.natAbs) = x + y) := by
    show _ = _
    generalize x.natAbs = p at *
    generalize y.natAbs = q at *
    subst hxs hys
    cases na <;> cases nb' <;> simp [sg] at hs ⊢ <;> omega
  have HLE : Hid (y.natAbs ≤ x.natAbs) := Nat.le_of_not_lt hlt
  have HBL : Hid (decide (x.natAbs < y.natAbs) = false) := decide_eq_false hlt
  have hne : (na == nb') = false := by cases na <;> cases nb' <;> simp at hs ⊢
  clear hlt
  have hx1 : x.natAbs < 2 ^ 1024 := by rw [← pow_eq]; exact HA.small
  have hy1 : y.natAbs < 2 ^ 1024 := by rw [← pow_eq]; exact HB.small
  have HX1 : Hid (x.natAbs < 2 ^ 1024) := hx1
  have HY1 : Hid (y.natAbs < 2 ^ 1024) := hy1
  clear HA HB hxs hys hx1 hy1
  go_enter Tryd.func13, Tryd.ntmps13
  go_wp2_with fail
  have u0 := (((Upd.refl [] w).alloc (.cells #[.int .u8 1, .bool na, .slice a A.length ca, .string ⟨#[]⟩, .int .i64 0, .slice ai 0 ci, .slice at' 0 ct] 26)).alloc (.cells #[.int .u8 1, .bool nb', .slice b B.length cb, .string ⟨#[]⟩, .int .i64 0, .slice bi 0 cbi, .slice bt 0 cbt] 26)).alloc (.cells #[.int .u8 0, .bool false, .slice none 0 0, .string ⟨#[]⟩, .int .i64 0, .slice none 0 0, .slice none 0 0] 26)
  have ta0 := ((Tb.new w #[.int .u8 1, .bool na, .slice a A.length ca, .string ⟨#[]⟩, .int .i64 0, .slice ai 0 ci, .slice at' 0 ct] _ rfl).old (.cells #[.int .u8 1, .bool nb', .slice b B.length cb, .string ⟨#[]⟩, .int .i64 0, .slice bi 0 cbi, .slice bt 0 cbt] 26)).old (.cells #[.int .u8 0, .bool false, .slice none 0 0, .string ⟨#[]⟩, .int .i64 0, .slice none 0 0, .slice none 0 0] 26)
  have tb0 := (Tb.new (w.alloc (.cells #[.int .u8 1, .bool na, .slice a A.length ca, .string ⟨#[]⟩, .int .i64 0, .slice ai 0 ci, .slice at' 0 ct] 26)) #[.int .u8 1, .bool nb', .slice b B.length cb, .string ⟨#[]⟩, .int .i64 0, .slice bi 0 cbi, .slice bt 0 cbt] (w.heap.size + 1) (by simp)).old (.cells #[.int .u8 0, .bool false, .slice none 0 0, .string ⟨#[]⟩, .int .i64 0, .slice none 0 0, .slice none 0 0] 26)
  have tz0 := Tb.new ((w.alloc (.cells #[.int .u8 1, .bool na, .slice a A.length ca, .string ⟨#[]⟩, .int .i64 0, .slice ai 0 ci, .slice at' 0 ct] 26)).alloc (.cells #[.int .u8 1, .bool nb', .slice b B.length cb, .string ⟨#[]⟩, .int .i64 0, .slice bi 0 cbi, .slice bt 0 cbt] 26)) #[.int .u8 0, .bool false, .slice none 0 0, .string ⟨#[]⟩, .int .i64 0, .slice none 0 0, .slice none 0 0] (w.heap.size + 1 + 1) (by simp)
  refine (TI.rRight (TI.mono IA.out u0) ai at' ca ci ct).mono ?_
  rintro e w1 ⟨rfl, h1⟩
  have u1 := u0.trans h1
  have ta1 := ta0.mono h1 (by simp)
  have tb1 := tb0.mono h1 (by simp)
  have tz1 := tz0.mono h1 (by simp)
  clear u0 ta0 tb0 tz0 h1
  go_wp2_with (first | (refine load_G _ _ rfl _ _ rfl tb1 rfl rfl ?_))
  refine (TI.rRight (TI.mono IB.out u1) bi bt cb cbi cbt).mono ?_
  rintro e w2 ⟨rfl, h2⟩
  have u2 := u1.trans h2
  have ta2 := ta1.mono h2 (by simp)
  have tb2 := tb1.mono h2 (by simp)
  have tz2 := tz1.mono h2 (by simp)
  have ia2 : Hid (TI w2 na a A x) := TI.mono IA.out u2
  have ib2 : Hid (TI w2 nb' b B y) := TI.mono IB.out u2
  have U2 : Hid (Upd [] w w2) := u2
  clear u1 ta1 tb1 tz1 h2 u2 IA IB
  go_upto_region 3 with fail
  go_cut [6, 7] (fun s6 s7 wx => ∃ ax cx X ay cy Y, s6 = .slice ax X.length cx ∧ s7 = .slice ay Y.length cy ∧ NormB X x.natAbs ∧ NormB Y y.natAbs ∧ BA wx ax X ∧ BA wx ay Y ∧ Upd [] w2 wx)
  case first =>
    have r0 : w2.cell? ⟨w.heap.size, 0, none⟩ = some (.int .u8 1) := ta2.cell 0
    have s0 : w2.cell? ⟨w.heap.size + 1, 0, none⟩ = some (.int .u8 1) := tb2.cell 0
    have r1 : w2.cell? ⟨w.heap.size, 1, none⟩ = some (.bool na) := ta2.cell 1
    have s1 : w2.cell? ⟨w.heap.size + 1, 1, none⟩ = some (.bool nb') := tb2.cell 1
    have r2 : w2.cell? ⟨w.heap.size, 2, none⟩ = some (.slice a A.length ca) := ta2.cell 2
    have s2 : w2.cell? ⟨w.heap.size + 1, 2, none⟩ = some (.slice b B.length cb) := tb2.cell 2
    have r3 : w2.cell? ⟨w.heap.size, 3, none⟩ = some (.string ⟨#[]⟩) := ta2.cell 3
    have s3 : w2.cell? ⟨w.heap.size + 1, 3, none⟩ = some (.string ⟨#[]⟩) := tb2.cell 3
    have r4 : w2.cell? ⟨w.heap.size, 4, none⟩ = some (.int .i64 0) := ta2.cell 4
    have s4 : w2.cell? ⟨w.heap.size + 1, 4, none⟩ = some (.int .i64 0) := tb2.cell 4
    have r5 : w2.cell? ⟨w.heap.size, 5, none⟩ = some (.slice ai 0 ci) := ta2.cell 5
    have s5 : w2.cell? ⟨w.heap.size + 1, 5, none⟩ = some (.slice bi 0 cbi) := tb2.cell 5
    have r6 : w2.cell? ⟨w.heap.size, 6, none⟩ = some (.slice at' 0 ct) := ta2.cell 6
    have s6 : w2.cell? ⟨w.heap.size + 1, 6, none⟩ = some (.slice bt 0 cbt) := tb2.cell 6
    have hlr := ta2.lt
    have hlb := tb2.lt
    have hta : Hid (Tb w2 (w.heap.size) #[.int .u8 1, .bool na, .slice a A.length ca, .string ⟨#[]⟩, .int .i64 0, .slice ai 0 ci, .slice at' 0 ct]) := ta2
    have htb : Hid (Tb w2 (w.heap.size + 1) #[.int .u8 1, .bool nb', .slice b B.length cb, .string ⟨#[]⟩, .int .i64 0, .slice bi 0 cbi, .slice bt 0 cbt]) := tb2
    clear ta2 tb2 tz2
    go_region_held3 (fun w' => w'.cell? ⟨w.heap.size, 0, none⟩ = some (.int .u8 1) ∧ w'.cell? ⟨w.heap.size, 1, none⟩ = some (.bool na) ∧ w'.cell? ⟨w.heap.size, 2, none⟩ = some (.slice a A.length ca) ∧ w'.cell? ⟨w.heap.size, 3, none⟩ = some (.string ⟨#[]⟩) ∧ w'.cell? ⟨w.heap.size, 4, none⟩ = some (.int .i64 0) ∧ w'.cell? ⟨w.heap.size, 5, none⟩ = some (.slice ai 0 ci) ∧ w'.cell? ⟨w.heap.size, 6, none⟩ = some (.slice at' 0 ct) ∧ w'.cell? ⟨w.heap.size + 1, 0, none⟩ = some (.int .u8 1) ∧ w'.cell? ⟨w.heap.size + 1, 1, none⟩ = some (.bool nb') ∧ w'.cell? ⟨w.heap.size + 1, 2, none⟩ = some (.slice b B.length cb) ∧ w'.cell? ⟨w.heap.size + 1, 3, none⟩ = some (.string ⟨#[]⟩) ∧ w'.cell? ⟨w.heap.size + 1, 4, none⟩ = some (.int .i64 0) ∧ w'.cell? ⟨w.heap.size + 1, 5, none⟩ = some (.slice bi 0 cbi) ∧ w'.cell? ⟨w.heap.size + 1, 6, none⟩ = some (.slice bt 0 cbt))
      (go_keep)
      (first
        | (go_at_call_of 38 (Value.slice a A.length ca); refine (bits_any a ai at' ca ci ct na A x _ ?_).mono ?_; (exact TI.mono (Hid.out ia2) (by repeat (first | exact Upd.refl _ _ | refine Upd.drew ?_))); rintro e v1 ⟨hv1, ax, cx, Mx, rfl, znx, zbx, zfx, zdx, zex⟩; have uv1 : Hid (Upd [] w2 v1) := Upd.trans (by repeat (first | exact Upd.refl _ _ | refine Upd.drew ?_)) hv1; have pv1 : Tb v1 (w.heap.size) #[.int .u8 1, .bool na, .slice a A.length ca, .string ⟨#[]⟩, .int .i64 0, .slice ai 0 ci, .slice at' 0 ct] := Tb.mono (Hid.out hta) (Hid.out uv1) (by simp); have qv1 : Tb v1 (w.heap.size + 1) #[.int .u8 1, .bool nb', .slice b B.length cb, .string ⟨#[]⟩, .int .i64 0, .slice bi 0 cbi, .slice bt 0 cbt] := Tb.mono (Hid.out htb) (Hid.out uv1) (by simp); have r0v1 : v1.cell? ⟨w.heap.size, 0, none⟩ = some (.int .u8 1) := pv1.cell 0; have s0v1 : v1.cell? ⟨w.heap.size + 1, 0, none⟩ = some (.int .u8 1) := qv1.cell 0; have r1v1 : v1.cell? ⟨w.heap.size, 1, none⟩ = some (.bool na) := pv1.cell 1; have s1v1 : v1.cell? ⟨w.heap.size + 1, 1, none⟩ = some (.bool nb') := qv1.cell 1; have r2v1 : v1.cell? ⟨w.heap.size, 2, none⟩ = some (.slice a A.length ca) := pv1.cell 2; have s2v1 : v1.cell? ⟨w.heap.size + 1, 2, none⟩ = some (.slice b B.length cb) := qv1.cell 2; have r3v1 : v1.cell? ⟨w.heap.size, 3, none⟩ = some (.string ⟨#[]⟩) := pv1.cell 3; have s3v1 : v1.cell? ⟨w.heap.size + 1, 3, none⟩ = some (.string ⟨#[]⟩) := qv1.cell 3; have r4v1 : v1.cell? ⟨w.heap.size, 4, none⟩ = some (.int .i64 0) := pv1.cell 4; have s4v1 : v1.cell? ⟨w.heap.size + 1, 4, none⟩ = some (.int .i64 0) := qv1.cell 4; have r5v1 : v1.cell? ⟨w.heap.size, 5, none⟩ = some (.slice ai 0 ci) := pv1.cell 5; have s5v1 : v1.cell? ⟨w.heap.size + 1, 5, none⟩ = some (.slice bi 0 cbi) := qv1.cell 5; have r6v1 : v1.cell? ⟨w.heap.size, 6, none⟩ = some (.slice at' 0 ct) := pv1.cell 6; have s6v1 : v1.cell? ⟨w.heap.size + 1, 6, none⟩ = some (.slice bt 0 cbt) := qv1.cell 6; have htav1 : Hid (Tb v1 (w.heap.size) #[.int .u8 1, .bool na, .slice a A.length ca, .string ⟨#[]⟩, .int .i64 0, .slice ai 0 ci, .slice at' 0 ct]) := pv1; have htbv1 : Hid (Tb v1 (w.heap.size + 1) #[.int .u8 1, .bool nb', .slice b B.length cb, .string ⟨#[]⟩, .int .i64 0, .slice bi 0 cbi, .slice bt 0 cbt]) := qv1; have Nx : Hid (NormB Mx _) := znx; have Bx : Hid (BA v1 ax Mx) := zbx; clear pv1 qv1 znx zbx zfx)
        | (go_at_call_of 38 (Value.slice b B.length cb); refine (bits_any b bi bt cb cbi cbt nb' B y _ ?_).mono ?_; (exact TI.mono (TI.mono (Hid.out ib2) (Hid.out uv1)) (by repeat (first | exact Upd.refl _ _ | refine Upd.drew ?_))); rintro e v2 ⟨hv2, ay, cy, My, rfl, zny, zby, zfy, zdy, zey⟩; have uv2 : Hid (Upd [] v1 v2) := Upd.trans (by repeat (first | exact Upd.refl _ _ | refine Upd.drew ?_)) hv2; have pv2 : Tb v2 (w.heap.size) #[.int .u8 1, .bool na, .slice a A.length ca, .string ⟨#[]⟩, .int .i64 0, .slice ai 0 ci, .slice at' 0 ct] := Tb.mono (Hid.out htav1) (Hid.out uv2) (by simp); have qv2 : Tb v2 (w.heap.size + 1) #[.int .u8 1, .bool nb', .slice b B.length cb, .string ⟨#[]⟩, .int .i64 0, .slice bi 0 cbi, .slice bt 0 cbt] := Tb.mono (Hid.out htbv1) (Hid.out uv2) (by simp); have r0v2 : v2.cell? ⟨w.heap.size, 0, none⟩ = some (.int .u8 1) := pv2.cell 0; have s0v2 : v2.cell? ⟨w.heap.size + 1, 0, none⟩ = some (.int .u8 1) := qv2.cell 0; have r1v2 : v2.cell? ⟨w.heap.size, 1, none⟩ = some (.bool na) := pv2.cell 1; have s1v2 : v2.cell? ⟨w.heap.size + 1, 1, none⟩ = some (.bool nb') := qv2.cell 1; have r2v2 : v2.cell? ⟨w.heap.size, 2, none⟩ = some (.slice a A.length ca) := pv2.cell 2; have s2v2 : v2.cell? ⟨w.heap.size + 1, 2, none⟩ = some (.slice b B.length cb) := qv2.cell 2; have r3v2 : v2.cell? ⟨w.heap.size, 3, none⟩ = some (.string ⟨#[]⟩) := pv2.cell 3; have s3v2 : v2.cell? ⟨w.heap.size + 1, 3, none⟩ = some (.string ⟨#[]⟩) := qv2.cell 3; have r4v2 : v2.cell? ⟨w.heap.size, 4, none⟩ = some (.int .i64 0) := pv2.cell 4; have s4v2 : v2.cell? ⟨w.heap.size + 1, 4, none⟩ = some (.int .i64 0) := qv2.cell 4; have r5v2 : v2.cell? ⟨w.heap.size, 5, none⟩ = some (.slice ai 0 ci) := pv2.cell 5; have s5v2 : v2.cell? ⟨w.heap.size + 1, 5, none⟩ = some (.slice bi 0 cbi) := qv2.cell 5; have r6v2 : v2.cell? ⟨w.heap.size, 6, none⟩ = some (.slice at' 0 ct) := pv2.cell 6; have s6v2 : v2.cell? ⟨w.heap.size + 1, 6, none⟩ = some (.slice bt 0 cbt) := qv2.cell 6; have htav2 : Hid (Tb v2 (w.heap.size) #[.int .u8 1, .bool na, .slice a A.length ca, .string ⟨#[]⟩, .int .i64 0, .slice ai 0 ci, .slice at' 0 ct]) := pv2; have htbv2 : Hid (Tb v2 (w.heap.size + 1) #[.int .u8 1, .bool nb', .slice b B.length cb, .string ⟨#[]⟩, .int .i64 0, .slice bi 0 cbi, .slice bt 0 cbt]) := qv2; have Ny : Hid (NormB My _) := zny; have By : Hid (BA v2 ay My) := zby; clear pv2 qv2 zny zby zfy))
    all_goals
      go_wp2_with fail
      go_meet
      exact ⟨ax, cx, Mx, ay, cy, My, rfl, rfl, Nx.out, Ny.out, Bx.out.mono uv2.out, By.out, uv1.out.trans uv2.out⟩
  case rest =>
    obtain ⟨ax, cx, X, ay, cy, Y, rfl, rfl, nX, nY, hX, hY, hU3⟩ := hcut
    rename World => w3
    have ta3 := ta2.mono hU3 (by simp)
    have tb3 := tb2.mono hU3 (by simp)
    have tz3 := tz2.mono hU3 (by simp)
    have hXl := (nX.len_le 1024).2 HX1.out
    have hYl := (nY.len_le 1024).2 HY1.out
    have HNX : Hid (NormB X x.natAbs) := nX
    have HNY : Hid (NormB Y y.natAbs) := nY
    have U3 : Hid (Upd [] w w3) := U2.out.trans hU3
    have ca1 : w3.cell? ⟨w.heap.size, 1, none⟩ = some (.bool na) := ta3.cell 1
    have cb1 : w3.cell? ⟨w.heap.size + 1, 1, none⟩ = some (.bool nb') := tb3.cell 1
    have hlb := tb3.lt
    have hla := ta3.lt
    have BX : Hid (BA w3 ax X) := hX
    have BY : Hid (BA w3 ay Y) := hY
    have HTZ : Hid (Tb w3 (w.heap.size + 1 + 1) #[.int .u8 0, .bool false, .slice none 0 0, .string ⟨#[]⟩, .int .i64 0, .slice none 0 0, .slice none 0 0]) := tz3
    clear ta2 tb2 tz2 hU3 nX nY U2 hX hY ta3 tb3 tz3
    go_wp2_with fail
    refine (below_any ax ay cx cy _ _ X Y w3 (by omega) (by omega) BX.out BY.out HNX.out.eq HNY.out.eq).mono ?_
    rintro e w4 ⟨rfl, hw4⟩
    rw [hw4, HBL.out]
    clear hw4
    go_wp2_with fail
    have hne1 : (w.heap.size + 1 + 1 = w.heap.size) = False := eq_false (by omega)
    have hne2 : (w.heap.size = w.heap.size + 1 + 1) = False := eq_false (by omega)
    go_region_held3 (fun w' => w'.cell? ⟨w.heap.size, 1, none⟩ = some (.bool na) ∧ w'.cell? ⟨w.heap.size + 1, 1, none⟩ = some (.bool nb'))
      (go_keep)
      (first
        | (go_at_call 39; refine (made_any a9 c9 _ na M9 _ ?_ ?_ ?_ ?_ N9.out.eq).mono ?_; (omega); (exact zd9); (exact ze9); (exact BA.mono (Hid.out B9) (by repeat (first | exact Upd.refl _ _ | refine Upd.drew ?_))); rintro e v2 ⟨hR, hv2⟩; rw [HZ.out] at hR; obtain ⟨k4, n4, a4, c4, M4, b4, rfl, hA4, hR4⟩ := Res.open hR; clear hR; have uv2 : Hid (Upd [] v1 v2) := Upd.trans (by repeat (first | exact Upd.refl _ _ | refine Upd.drew ?_)) hv2; have k1v2 : v2.cell? ⟨w.heap.size, 1, none⟩ = some (.bool na) := ((Hid.out uv2).cell (p := ⟨w.heap.size, 1, none⟩) (by show w.heap.size < v1.heap.size; omega) (by simp)).trans k1v1; have k2v2 : v2.cell? ⟨w.heap.size + 1, 1, none⟩ = some (.bool nb') := ((Hid.out uv2).cell (p := ⟨w.heap.size + 1, 1, none⟩) (by show w.heap.size + 1 < v1.heap.size; omega) (by simp)).trans k2v1; have zv2 : v1.heap.size ≤ v2.heap.size := (Hid.out uv2).size; have A4 : Hid (At v2 a4 M4) := hA4; have R4 : Hid (∀ w'', At w'' a4 M4 → Res w'' (.returned (.tuple #[.agg #[.int .u8 k4, .bool n4, .slice a4 M4.length c4, .string ⟨#[]⟩, .int .i64 0, .slice none 0 0, .slice none 0 0], .bool b4])) (x + y)) := hR4; clear hA4 hR4; have t2 : Tb v2 (w.heap.size + 1 + 1) #[.int .u8 0, .bool false, .slice none 0 0, .string ⟨#[]⟩, .int .i64 0, .slice none 0 0, .slice none 0 0] := Tb.mono (Tb.mono (Hid.out HTZ) (Hid.out uv1) (by simp)) (Hid.out uv2) (by simp); have y0 : v2.cell? ⟨w.heap.size + 1 + 1, 0, none⟩ = some (.int .u8 0) := t2.cell 0; have y1 : v2.cell? ⟨w.heap.size + 1 + 1, 1, none⟩ = some (.bool false) := t2.cell 1; have y2 : v2.cell? ⟨w.heap.size + 1 + 1, 2, none⟩ = some (.slice none 0 0) := t2.cell 2; have y3 : v2.cell? ⟨w.heap.size + 1 + 1, 3, none⟩ = some (.string ⟨#[]⟩) := t2.cell 3; have y4 : v2.cell? ⟨w.heap.size + 1 + 1, 4, none⟩ = some (.int .i64 0) := t2.cell 4; have y5 : v2.cell? ⟨w.heap.size + 1 + 1, 5, none⟩ = some (.slice none 0 0) := t2.cell 5; have y6 : v2.cell? ⟨w.heap.size + 1 + 1, 6, none⟩ = some (.slice none 0 0) := t2.cell 6; have yf : ∀ i, v2.frozen? ⟨w.heap.size + 1 + 1, i, none⟩ = false := fun i => t2.free i; have HTZ2 : Hid (Tb v2 (w.heap.size + 1 + 1) #[.int .u8 0, .bool false, .slice none 0 0, .string ⟨#[]⟩, .int .i64 0, .slice none 0 0, .slice none 0 0]) := t2; clear t2)
        | (go_at_call 42; refine (rless_any ax ay cx cy _ _ X Y _ ?_ ?_ ?_ HNX.out.eq HNY.out ?_).mono ?_; (omega); (exact BA.mono (Hid.out BX) (by repeat (first | exact Upd.refl _ _ | refine Upd.drew ?_))); (exact BA.mono (Hid.out BY) (by repeat (first | exact Upd.refl _ _ | refine Upd.drew ?_))); (exact HLE.out); rintro e v1 ⟨hv1, a9, c9, M9, rfl, zn9, zb9, zf9, zd9, ze9, zl9⟩; have uv1 : Hid (Upd [] w3 v1) := Upd.trans (by repeat (first | exact Upd.refl _ _ | refine Upd.drew ?_)) hv1; have k1v1 : v1.cell? ⟨w.heap.size, 1, none⟩ = some (.bool na) := ((Hid.out uv1).cell (p := ⟨w.heap.size, 1, none⟩) (by show w.heap.size < w3.heap.size; omega) (by simp)).trans ca1; have k2v1 : v1.cell? ⟨w.heap.size + 1, 1, none⟩ = some (.bool nb') := ((Hid.out uv1).cell (p := ⟨w.heap.size + 1, 1, none⟩) (by show w.heap.size + 1 < w3.heap.size; omega) (by simp)).trans cb1; have zv1 : w3.heap.size ≤ v1.heap.size := (Hid.out uv1).size; have N9 : Hid (NormB M9 _) := zn9; have B9 : Hid (BA v1 a9 M9) := zb9; clear zn9 zb9 zf9))
    all_goals
      go_wp2
      have h7 := seven (Hid.out HTZ2) (.int .u8 k4) (.bool n4) (.slice a4 M4.length c4) (.string ⟨#[]⟩) (.int .i64 0) (.slice none 0 0) (.slice none 0 0)
      have mA := At.keep (Hid.out A4) (Hid.out HTZ2) h7.2
      first
        | exact ret_Tb Tryd.results13 rfl _ _ _ rfl h7.1 rfl rfl ⟨(Hid.out R4) _ mA, (U3.out.trans (uv1.out.trans uv2.out)).then h7.2 (by intro z hz; simp at hz; omega)⟩
        | exact ret_Tb Tryd.results13 rfl _ _ _ rfl (Tb.mono h7.1 (Upd.drew (Upd.refl [] _)) (by simp)) rfl rfl ⟨(Hid.out R4) _ (At.mono mA (Upd.drew (Upd.refl [] _))), ((U3.out.trans (uv1.out.trans uv2.out)).then h7.2 (by intro z hz; simp at hz; omega)).drew⟩

/-- Add of the reference. -/
theorem rAdd_any (a ai at' b bi bt : Option Addr) (ca ci ct cb cbi cbt : Nat) (na nb' : Bool) (A B : List Nat) (x y : Int) (w : World) (HA : TI w na a A x) (HB : TI w nb' b B y) :
    Calls Tryd.prog 13 #[.agg #[.int .u8 1, .bool na, .slice a A.length ca, .string ⟨#[]⟩, .int .i64 0, .slice ai 0 ci, .slice at' 0 ct], .agg #[.int .u8 1, .bool nb', .slice b B.length cb, .string ⟨#[]⟩, .int .i64 0, .slice bi 0 cbi, .slice bt 0 cbt]] w fun e w' => Res w' e (x + y) ∧ Upd [] w w' := by
  by_cases hs : na = nb'
  · exact rAdd_same a ai at' b bi bt ca ci ct cb cbi cbt na nb' A B x y w HA HB hs
  · by_cases hlt : x.natAbs < y.natAbs
    · exact rAdd_below a ai at' b bi bt ca ci ct cb cbi cbt na nb' A B x y w HA HB hs hlt
    · exact rAdd_not a ai at' b bi bt ca ci ct cb cbi cbt na nb' A B x y w HA HB hs hlt

end Go.Proofs.YtpjlhpopoacjdaaDoor
