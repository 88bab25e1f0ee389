/- Times of the reference, by its contract. -/
import Derived.Test.YtpjlhpopoacjdaaDoorBitF
import Derived.Test.YtpjlhpopoacjdaaDoorRefR
import Derived.Deep.DeepCutAuto
import Derived.Deep.RegionHeld3
namespace Go.Proofs.YtpjlhpopoacjdaaDoor
open Go.RowKit

/-- The loop of Times. -/
def TimesInv (W : World) (x : Nat) (Y : List Bool) (xv ov i : Value) (wr : World) : Prop := ∃ (k cx co : Nat) (X O : List Bool) (ax ao : Option Addr), k ≤ Y.length ∧ i = .int .i64 k ∧ xv = .slice ax X.length cx ∧ nb X = x * 2 ^ k ∧ X.length ≤ 1024 + k ∧ BA wr ax X ∧ ov = .slice ao O.length co ∧ NormB O (x * nb (Y.take k)) ∧ BA wr ao O ∧ O.length ≤ co ∧ co ≤ 9223372036854775807 ∧ Upd [] W wr

theorem times_bit (x : Nat) (Y : List Bool) (k : Nat) : x * nb (Y.take (k + 1)) = x * nb (Y.take k) + (Y.getD k false).toNat * (x * 2 ^ k) := by
  rw [nb_take, Nat.mul_add, Nat.mul_comm _ (x * 2 ^ k), Nat.mul_assoc]
theorem BA.past {w w' : World} {a : Option Addr} {L : List Bool} {o : Obj} (h : BA w a L) (hu : Upd [w.heap.size] (w.alloc o) w') : BA w' a L := by
  rcases h with h | ⟨b, o', e, hlt, hc⟩
  · exact Or.inl h
  · refine BA.keep (BA.mono (Or.inr ⟨b, o', e, hlt, hc⟩) ((Upd.refl [] w).alloc o)) hu (fun p hp => ?_)
    rw [e] at hp; cases hp; simp; omega
theorem O_len {O Y : List Bool} {x k m : Nat} (h : NormB O (x * nb (Y.take k))) (hx : x < 2 ^ m) (hY : nb Y < 2 ^ m) : O.length ≤ m + m := by
  refine (h.len_le (m + m)).2 ?_
  have h1 : nb (Y.take k) ≤ nb Y := Nat.le_trans (Nat.le_add_right _ _) (Nat.le_of_eq (nb_split Y k))
  rw [Nat.pow_add]
  exact Nat.lt_of_le_of_lt (Nat.mul_le_mul_left _ h1) (Nat.mul_lt_mul'' hx hY)

set_option maxHeartbeats 8000000 in
set_option maxRecDepth 100000 in
theorem rTimes_any (a ai at' b bi bt : Option Addr) (ca ci ct cb cbi cbt : Nat) (na nb' : Bool) (A B : List Nat) (x y : Int) (w : World) (HA : TI w na a A x) (HB : TI w nb' b B y) :
    Calls Tryd.prog 25 #[.agg #[.int .u8 1, .bool na, .slice a A.length ca, .string ⟨#[]⟩, .int .i64 0, .slice ai 0 ci, .slice at' 0 ct], .agg #[.int .u8 1, .bool nb', .slice b B.length cb, .string ⟨#[]⟩, .int .i64 0, .slice bi 0 cbi, .slice bt 0 cbt]] w fun e w' => Res w' e (x * y) ∧ Upd [] w w' := by
  have IA : Hid (TI w na a A x) := HA
  have IB : Hid (TI w nb' b B y) := HB
  clear HA HB
  go_enter Tryd.func25, Tryd.ntmps25
  go_wp2_with fail
  have u0 := (((Upd.refl [] w).alloc (.cells #[.int .u8 1, .bool na, .slice a A.length ca, .string ⟨#[]⟩, .int .i64 0, .slice ai 0 ci, .slice at' 0 ct] 26)).alloc (.cells #[.int .u8 1, .bool nb', .slice b B.length cb, .string ⟨#[]⟩, .int .i64 0, .slice bi 0 cbi, .slice bt 0 cbt] 26)).alloc (.cells #[.int .u8 0, .bool false, .slice none 0 0, .string ⟨#[]⟩, .int .i64 0, .slice none 0 0, .slice none 0 0] 26)
  have ta0 := ((Tb.new w #[.int .u8 1, .bool na, .slice a A.length ca, .string ⟨#[]⟩, .int .i64 0, .slice ai 0 ci, .slice at' 0 ct] _ rfl).old (.cells #[.int .u8 1, .bool nb', .slice b B.length cb, .string ⟨#[]⟩, .int .i64 0, .slice bi 0 cbi, .slice bt 0 cbt] 26)).old (.cells #[.int .u8 0, .bool false, .slice none 0 0, .string ⟨#[]⟩, .int .i64 0, .slice none 0 0, .slice none 0 0] 26)
  have tb0 := (Tb.new (w.alloc (.cells #[.int .u8 1, .bool na, .slice a A.length ca, .string ⟨#[]⟩, .int .i64 0, .slice ai 0 ci, .slice at' 0 ct] 26)) #[.int .u8 1, .bool nb', .slice b B.length cb, .string ⟨#[]⟩, .int .i64 0, .slice bi 0 cbi, .slice bt 0 cbt] (w.heap.size + 1) (by simp)).old (.cells #[.int .u8 0, .bool false, .slice none 0 0, .string ⟨#[]⟩, .int .i64 0, .slice none 0 0, .slice none 0 0] 26)
  have tz0 := Tb.new ((w.alloc (.cells #[.int .u8 1, .bool na, .slice a A.length ca, .string ⟨#[]⟩, .int .i64 0, .slice ai 0 ci, .slice at' 0 ct] 26)).alloc (.cells #[.int .u8 1, .bool nb', .slice b B.length cb, .string ⟨#[]⟩, .int .i64 0, .slice bi 0 cbi, .slice bt 0 cbt] 26)) #[.int .u8 0, .bool false, .slice none 0 0, .string ⟨#[]⟩, .int .i64 0, .slice none 0 0, .slice none 0 0] (w.heap.size + 2) (by simp)
  refine (TI.rRight (TI.mono IA.out u0) ai at' ca ci ct).mono ?_
  rintro e w1 ⟨rfl, h1⟩
  have u1 := u0.trans h1
  have ta1 := ta0.mono h1 (by simp)
  have tb1 := tb0.mono h1 (by simp)
  have tz1 := tz0.mono h1 (by simp)
  clear u0 ta0 tb0 tz0 h1
  go_wp2_with (first | (refine load_G _ _ rfl _ _ rfl tb1 rfl rfl ?_))
  refine (TI.rRight (TI.mono IB.out u1) bi bt cb cbi cbt).mono ?_
  rintro e w2 ⟨rfl, h2⟩
  have u2 := u1.trans h2
  have ta2 := ta1.mono h2 (by simp)
  have tb2 := tb1.mono h2 (by simp)
  have tz2 := tz1.mono h2 (by simp)
  have ia2 : Hid (TI w2 na a A x) := TI.mono IA.out u2
  have ib2 : Hid (TI w2 nb' b B y) := TI.mono IB.out u2
  have U2 : Hid (Upd [] w w2) := u2
  clear u1 ta1 tb1 tz1 h2 u2 IA IB
  go_upto_region 3 with fail
  go_cut [6, 7] (fun s6 s7 wx => ∃ ax cx X ay cy Y, s6 = .slice ax X.length cx ∧ s7 = .slice ay Y.length cy ∧ NormB X x.natAbs ∧ NormB Y y.natAbs ∧ BA wx ax X ∧ BA wx ay Y ∧ Upd [] w2 wx)
  case first =>
    have r0 : w2.cell? ⟨w.heap.size, 0, none⟩ = some (.int .u8 1) := ta2.cell 0
    have s0 : w2.cell? ⟨w.heap.size + 1, 0, none⟩ = some (.int .u8 1) := tb2.cell 0
    have r1 : w2.cell? ⟨w.heap.size, 1, none⟩ = some (.bool na) := ta2.cell 1
    have s1 : w2.cell? ⟨w.heap.size + 1, 1, none⟩ = some (.bool nb') := tb2.cell 1
    have r2 : w2.cell? ⟨w.heap.size, 2, none⟩ = some (.slice a A.length ca) := ta2.cell 2
    have s2 : w2.cell? ⟨w.heap.size + 1, 2, none⟩ = some (.slice b B.length cb) := tb2.cell 2
    have r3 : w2.cell? ⟨w.heap.size, 3, none⟩ = some (.string ⟨#[]⟩) := ta2.cell 3
    have s3 : w2.cell? ⟨w.heap.size + 1, 3, none⟩ = some (.string ⟨#[]⟩) := tb2.cell 3
    have r4 : w2.cell? ⟨w.heap.size, 4, none⟩ = some (.int .i64 0) := ta2.cell 4
    have s4 : w2.cell? ⟨w.heap.size + 1, 4, none⟩ = some (.int .i64 0) := tb2.cell 4
    have r5 : w2.cell? ⟨w.heap.size, 5, none⟩ = some (.slice ai 0 ci) := ta2.cell 5
    have s5 : w2.cell? ⟨w.heap.size + 1, 5, none⟩ = some (.slice bi 0 cbi) := tb2.cell 5
    have r6 : w2.cell? ⟨w.heap.size, 6, none⟩ = some (.slice at' 0 ct) := ta2.cell 6
    have s6 : w2.cell? ⟨w.heap.size + 1, 6, none⟩ = some (.slice bt 0 cbt) := tb2.cell 6
    have hlr := ta2.lt
    have hlb := tb2.lt
    have hta : Hid (Tb w2 (w.heap.size) #[.int .u8 1, .bool na, .slice a A.length ca, .string ⟨#[]⟩, .int .i64 0, .slice ai 0 ci, .slice at' 0 ct]) := ta2
    have htb : Hid (Tb w2 (w.heap.size + 1) #[.int .u8 1, .bool nb', .slice b B.length cb, .string ⟨#[]⟩, .int .i64 0, .slice bi 0 cbi, .slice bt 0 cbt]) := tb2
    clear ta2 tb2 tz2
    go_region_held3 (fun w' => w'.cell? ⟨w.heap.size, 0, none⟩ = some (.int .u8 1) ∧ w'.cell? ⟨w.heap.size, 1, none⟩ = some (.bool na) ∧ w'.cell? ⟨w.heap.size, 2, none⟩ = some (.slice a A.length ca) ∧ w'.cell? ⟨w.heap.size, 3, none⟩ = some (.string ⟨#[]⟩) ∧ w'.cell? ⟨w.heap.size, 4, none⟩ = some (.int .i64 0) ∧ w'.cell? ⟨w.heap.size, 5, none⟩ = some (.slice ai 0 ci) ∧ w'.cell? ⟨w.heap.size, 6, none⟩ = some (.slice at' 0 ct) ∧ w'.cell? ⟨w.heap.size + 1, 0, none⟩ = some (.int .u8 1) ∧ w'.cell? ⟨w.heap.size + 1, 1, none⟩ = some (.bool nb') ∧ w'.cell? ⟨w.heap.size + 1, 2, none⟩ = some (.slice b B.length cb) ∧ w'.cell? ⟨w.heap.size + 1, 3, none⟩ = some (.string ⟨#[]⟩) ∧ w'.cell? ⟨w.heap.size + 1, 4, none⟩ = some (.int .i64 0) ∧ w'.cell? ⟨w.heap.size + 1, 5, none⟩ = some (.slice bi 0 cbi) ∧ w'.cell? ⟨w.heap.size + 1, 6, none⟩ = some (.slice bt 0 cbt))
      (go_keep)
      (first
        | (go_at_call_of 38 (Value.slice a A.length ca); refine (bits_any a ai at' ca ci ct na A x _ ?_).mono ?_; (exact TI.mono (Hid.out ia2) (by repeat (first | exact Upd.refl _ _ | refine Upd.drew ?_))); rintro e v1 ⟨hv1, ax, cx, Mx, rfl, znx, zbx, zfx, zdx, zex⟩; have uv1 : Hid (Upd [] w2 v1) := Upd.trans (by repeat (first | exact Upd.refl _ _ | refine Upd.drew ?_)) hv1; have pv1 : Tb v1 (w.heap.size) #[.int .u8 1, .bool na, .slice a A.length ca, .string ⟨#[]⟩, .int .i64 0, .slice ai 0 ci, .slice at' 0 ct] := Tb.mono (Hid.out hta) (Hid.out uv1) (by simp); have qv1 : Tb v1 (w.heap.size + 1) #[.int .u8 1, .bool nb', .slice b B.length cb, .string ⟨#[]⟩, .int .i64 0, .slice bi 0 cbi, .slice bt 0 cbt] := Tb.mono (Hid.out htb) (Hid.out uv1) (by simp); have r0v1 : v1.cell? ⟨w.heap.size, 0, none⟩ = some (.int .u8 1) := pv1.cell 0; have s0v1 : v1.cell? ⟨w.heap.size + 1, 0, none⟩ = some (.int .u8 1) := qv1.cell 0; have r1v1 : v1.cell? ⟨w.heap.size, 1, none⟩ = some (.bool na) := pv1.cell 1; have s1v1 : v1.cell? ⟨w.heap.size + 1, 1, none⟩ = some (.bool nb') := qv1.cell 1; have r2v1 : v1.cell? ⟨w.heap.size, 2, none⟩ = some (.slice a A.length ca) := pv1.cell 2; have s2v1 : v1.cell? ⟨w.heap.size + 1, 2, none⟩ = some (.slice b B.length cb) := qv1.cell 2; have r3v1 : v1.cell? ⟨w.heap.size, 3, none⟩ = some (.string ⟨#[]⟩) := pv1.cell 3; have s3v1 : v1.cell? ⟨w.heap.size + 1, 3, none⟩ = some (.string ⟨#[]⟩) := qv1.cell 3; have r4v1 : v1.cell? ⟨w.heap.size, 4, none⟩ = some (.int .i64 0) := pv1.cell 4; have s4v1 : v1.cell? ⟨w.heap.size + 1, 4, none⟩ = some (.int .i64 0) := qv1.cell 4; have r5v1 : v1.cell? ⟨w.heap.size, 5, none⟩ = some (.slice ai 0 ci) := pv1.cell 5; have s5v1 : v1.cell? ⟨w.heap.size + 1, 5, none⟩ = some (.slice bi 0 cbi) := qv1.cell 5; have r6v1 : v1.cell? ⟨w.heap.size, 6, none⟩ = some (.slice at' 0 ct) := pv1.cell 6; have s6v1 : v1.cell? ⟨w.heap.size + 1, 6, none⟩ = some (.slice bt 0 cbt) := qv1.cell 6; have htav1 : Hid (Tb v1 (w.heap.size) #[.int .u8 1, .bool na, .slice a A.length ca, .string ⟨#[]⟩, .int .i64 0, .slice ai 0 ci, .slice at' 0 ct]) := pv1; have htbv1 : Hid (Tb v1 (w.heap.size + 1) #[.int .u8 1, .bool nb', .slice b B.length cb, .string ⟨#[]⟩, .int .i64 0, .slice bi 0 cbi, .slice bt 0 cbt]) := qv1; have Nx : Hid (NormB Mx _) := znx; have Bx : Hid (BA v1 ax Mx) := zbx; clear pv1 qv1 znx zbx zfx)
        | (go_at_call_of 38 (Value.slice b B.length cb); refine (bits_any b bi bt cb cbi cbt nb' B y _ ?_).mono ?_; (exact TI.mono (TI.mono (Hid.out ib2) (Hid.out uv1)) (by repeat (first | exact Upd.refl _ _ | refine Upd.drew ?_))); rintro e v2 ⟨hv2, ay, cy, My, rfl, zny, zby, zfy, zdy, zey⟩; have uv2 : Hid (Upd [] v1 v2) := Upd.trans (by repeat (first | exact Upd.refl _ _ | refine Upd.drew ?_)) hv2; have pv2 : Tb v2 (w.heap.size) #[.int .u8 1, .bool na, .slice a A.length ca, .string ⟨#[]⟩, .int .i64 0, .slice ai 0 ci, .slice at' 0 ct] := Tb.mono (Hid.out htav1) (Hid.out uv2) (by simp); have qv2 : Tb v2 (w.heap.size + 1) #[.int .u8 1, .bool nb', .slice b B.length cb, .string ⟨#[]⟩, .int .i64 0, .slice bi 0 cbi, .slice bt 0 cbt] := Tb.mono (Hid.out htbv1) (Hid.out uv2) (by simp); have r0v2 : v2.cell? ⟨w.heap.size, 0, none⟩ = some (.int .u8 1) := pv2.cell 0; have s0v2 : v2.cell? ⟨w.heap.size + 1, 0, none⟩ = some (.int .u8 1) := qv2.cell 0; have r1v2 : v2.cell? ⟨w.heap.size, 1, none⟩ = some (.bool na) := pv2.cell 1; have s1v2 : v2.cell? ⟨w.heap.size + 1, 1, none⟩ = some (.bool nb') := qv2.cell 1; have r2v2 : v2.cell? ⟨w.heap.size, 2, none⟩ = some (.slice a A.length ca) := pv2.cell 2; have s2v2 : v2.cell? ⟨w.heap.size + 1, 2, none⟩ = some (.slice b B.length cb) := qv2.cell 2; have r3v2 : v2.cell? ⟨w.heap.size, 3, none⟩ = some (.string ⟨#[]⟩) := pv2.cell 3; have s3v2 : v2.cell? ⟨w.heap.size + 1, 3, none⟩ = some (.string ⟨#[]⟩) := qv2.cell 3; have r4v2 : v2.cell? ⟨w.heap.size, 4, none⟩ = some (.int .i64 0) := pv2.cell 4; have s4v2 : v2.cell? ⟨w.heap.size + 1, 4, none⟩ = some (.int .i64 0) := qv2.cell 4; have r5v2 : v2.cell? ⟨w.heap.size, 5, none⟩ = some (.slice ai 0 ci) := pv2.cell 5; have s5v2 : v2.cell? ⟨w.heap.size + 1, 5, none⟩ = some (.slice bi 0 cbi) := qv2.cell 5; have r6v2 : v2.cell? ⟨w.heap.size, 6, none⟩ = some (.slice at' 0 ct) := pv2.cell 6; have s6v2 : v2.cell? ⟨w.heap.size + 1, 6, none⟩ = some (.slice bt 0 cbt) := qv2.cell 6; have htav2 : Hid (Tb v2 (w.heap.size) #[.int .u8 1, .bool na, .slice a A.length ca, .string ⟨#[]⟩, .int .i64 0, .slice ai 0 ci, .slice at' 0 ct]) := pv2; have htbv2 : Hid (Tb v2 (w.heap.size + 1) #[.int .u8 1, .bool nb', .slice b B.length cb, .string ⟨#[]⟩, .int .i64 0, .slice bi 0 cbi, .slice bt 0 cbt]) := qv2; have Ny : Hid (NormB My _) := zny; have By : Hid (BA v2 ay My) := zby; clear pv2 qv2 zny zby zfy))
    all_goals
      go_wp2_with fail
      go_meet
      exact ⟨ax, cx, Mx, ay, cy, My, rfl, rfl, Nx.out, Ny.out, Bx.out.mono uv2.out, By.out, uv1.out.trans uv2.out⟩
  case rest =>
    obtain ⟨ax, cx, X, ay, cy, Y, rfl, rfl, nX, nY, hX, hY, hU3⟩ := hcut
    rename World => w3
    have ta3 := ta2.mono hU3 (by simp)
    have tb3 := tb2.mono hU3 (by simp)
    have tz3 := tz2.mono hU3 (by simp)
    have hx1 : x.natAbs < 2 ^ 1024 := by rw [← pow_eq]; exact ia2.out.small
    have hy1 : y.natAbs < 2 ^ 1024 := by rw [← pow_eq]; exact ib2.out.small
    have hXl := (nX.len_le 1024).2 hx1
    have hYl := (nY.len_le 1024).2 hy1
    have HX1 : Hid (x.natAbs < 2 ^ 1024) := hx1
    have HY1 : Hid (nb Y < 2 ^ 1024) := by show nb Y < 2 ^ 1024; rw [nY.eq]; exact hy1
    have HNX : Hid (NormB X x.natAbs) := nX
    have HNY : Hid (NormB Y y.natAbs) := nY
    have HS : Hid (sg (!(na == nb')) (x.natAbs * y.natAbs) = x * y) := by show _ = _; rw [sg_mul, ia2.out.sg, ib2.out.sg]
    have U3 : Hid (Upd [] w w3) := U2.out.trans hU3
    clear ta2 tb2 tz2 hU3 nX nY hx1 hy1 ia2 ib2 U2
    go_wp2_with fail
    go_loopw [6, 8, 9] (TimesInv w3 x.natAbs Y) (fun _ _ i _ => Y.length - (intOf i).toNat)
    case atStart => exact ⟨0, cx, 0, X, [], ax, none, Nat.zero_le _, rfl, rfl, by rw [HNX.out.eq]; simp, by omega, hX, rfl, by rw [List.take_zero]; exact NormB.zero, BA.nil _ _, by simp, by omega, Upd.refl _ _⟩
    case round =>
      obtain ⟨k, cx', co, X', O, ax', ao, hk, rfl, rfl, hXv, hXl', hX', rfl, nO, hO, hco, hco2, hU⟩ := hrel
      have HXV : Hid (nb X' = x.natAbs * 2 ^ k) := hXv
      have hOl := O_len nO HX1.out HY1.out
      have HNO : Hid (NormB O (x.natAbs * nb (Y.take k))) := nO
      clear hXv nO
      have hszr := hU.size
      by_cases hk2 : k < Y.length
      · rcases hY.mono hU with h | ⟨yb, yo, rfl, hlty, hcy⟩
        · rw [h] at hk2; simp at hk2
        have hcell := hcy k hk2
        obtain ⟨t, ht⟩ : ∃ t, t = Y.getD k false := ⟨_, rfl⟩
        rw [← ht] at hcell
        have HT : Hid (t = Y.getD k false) := ht
        clear ht hcy
        cases t
        · go_wp2_with (at_builtin; refine append_bool _ rfl _ _ rfl wr.heap.size [false] X' ax' 1 cx' (by simp) (by omega) rfl rfl (BB.one wr false) rfl (hX'.mono ((Upd.refl [] wr).alloc _)) ?_; intro g' cap' w5 hg' hBA hU5 hc1 hc2)
          have hU05 := (hU.alloc (.cells #[.bool false] 4)).then hU5 (by simp; omega)
          have hO5 := hO.past hU5
          go_roundw
          case rel =>
            refine ⟨k + 1, cap', co, [false] ++ X', O, some ⟨g', 0, none⟩, ao, by omega, by go_num, by simp, ?_, by simp; omega, hBA, rfl, ?_, hO5, hco, hco2, hU05⟩
            · rw [nb_append, HXV.out]; simp [nb, Nat.pow_succ]; rw [Nat.mul_comm 2, Nat.mul_assoc]
            · rw [times_bit, ← HT.out]; simp; exact HNO.out
          case measure => simp [intOf]; omega
        · go_wp2_with fail
          refine (rsum_any ao ax' co cx' _ _ O X' wr (by omega) (by omega) hO hX' HNO.out.eq HXV.out).mono ?_
          rintro e w4 ⟨hU4, a4, c4, M4, rfl, nM4, hM4, hF4, hd41, hd42, hl4⟩
          have HNM4 : Hid (NormB M4 (x.natAbs * nb (Y.take k) + x.natAbs * 2 ^ k)) := nM4
          have hX4 := hX'.mono hU4
          have hU04 := hU.trans hU4
          have hsz4 := hU04.size
          clear nM4 hU4
          go_wp2_with (at_builtin; refine append_bool _ rfl _ _ rfl w4.heap.size [false] X' ax' 1 cx' (by simp) (by omega) rfl rfl (BB.one w4 false) rfl (hX4.mono ((Upd.refl [] w4).alloc _)) ?_; intro g' cap' w5 hg' hBA hU5 hc1 hc2)
          have hU05 := (hU04.alloc (.cells #[.bool false] 4)).then hU5 (by simp; omega)
          have hO5 := hM4.past hU5
          go_roundw
          case rel =>
            refine ⟨k + 1, cap', c4, [false] ++ X', M4, some ⟨g', 0, none⟩, a4, by omega, by go_num, by simp, ?_, by simp; omega, hBA, rfl, ?_, hO5, hd41, hd42, hU05⟩
            · rw [nb_append, HXV.out]; simp [nb, Nat.pow_succ]; rw [Nat.mul_comm 2, Nat.mul_assoc]
            · rw [times_bit, ← HT.out]; simp; exact HNM4.out
          case measure => simp [intOf]; omega
      · have hk3 : k = Y.length := by omega
        have ta5 := ta3.mono hU (by simp)
        have tb5 := tb3.mono hU (by simp)
        have tz5 := tz3.mono hU (by simp)
        have ca1 := ta5.cell 1
        have cb1 := tb5.cell 1
        have HNO2 : Hid (nb O = x.natAbs * y.natAbs) := by show nb O = _; rw [HNO.out.eq, hk3, List.take_of_length_le (Nat.le_refl _), HNY.out.eq]
        have U5 : Hid (Upd [] w wr) := U3.out.trans hU
        clear ta3 tb3 tz3 U3 hU hX' hY hX
        go_wp2_with fail
        refine (made_any ao co _ _ O wr (by omega) hco hco2 hO HNO2.out).mono ?_
        rintro e w6 ⟨hR, hU6⟩
        rw [HS.out] at hR
        have tz6 := tz5.mono hU6 (by simp)
        have U6 := U5.out.trans hU6
        rcases hR with ⟨hs, ng, a2, c2, M2, rfl, hTI⟩ | ⟨hs, rfl⟩
        · have HTI : Hid (TI w6 ng a2 M2 (x * y)) := hTI
          clear hTI
          go_wp2_with (refine store_V _ rfl _ _ rfl _ _ _ _ _ _ _ _ _ _ _ _ _ _ _ rfl rfl tz6 rfl ?_; intro w7 hT7 hU7)
          exact ret_Tb Tryd.results25 rfl _ _ _ rfl hT7 rfl rfl ⟨Or.inl ⟨hs, ng, a2, c2, M2, rfl, ⟨HTI.out.norm, HTI.out.mem.keep tz6 hU7, HTI.out.len, HTI.out.sgn⟩⟩, U6.then hU7 (by intro z hz; simp at hz; omega)⟩
        · go_wp2_with (refine store_V _ rfl _ _ rfl _ _ _ _ _ _ _ _ _ _ _ _ _ _ _ rfl rfl tz6 rfl ?_; intro w7 hT7 hU7)
          exact ret_Tb Tryd.results25 rfl _ _ _ rfl hT7 rfl rfl ⟨Or.inr ⟨hs, rfl⟩, U6.then hU7 (by intro z hz; simp at hz; omega)⟩

end Go.Proofs.YtpjlhpopoacjdaaDoor
