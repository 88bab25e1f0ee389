/- Parse of the reference, by its contract. -/
import Derived.Test.YtpeganecbjefoaaDoorParG
import Derived.Test.YtpeganecbjefoaaDoorRefO
import Derived.Test.YtpeganecbjefoaaDoorBitF
import Derived.Deep.RegionHeld3
namespace Go.Proofs.YtpeganecbjefoaaDoor
open Go.RowKit

theorem BB.three (w : World) (x y z : Bool) : BB (w.alloc (.cells #[.bool x, .bool y, .bool z] 4)) w.heap.size [x, y, z] := heap_alloc_new w _
theorem BA.past' {w w' : World} {a : Option Addr} {L : List Bool} {o : Obj} (h : BA w a L) (hu : Upd [w.heap.size] (w.alloc o) w') : BA w' a L := by
  rcases h with h | ⟨b, o', e, hlt, hc⟩
  · exact Or.inl h
  · refine BA.keep (BA.mono (Or.inr ⟨b, o', e, hlt, hc⟩) ((Upd.refl [] w).alloc o)) hu (fun p hp => ?_)
    rw [e] at hp; cases hp; simp; omega
theorem ten_nb (L : List Bool) : nb ([false] ++ L) + nb ([false, false, false] ++ L) = 10 * nb L := by
  simp [nb]; omega

def RPInv (w : World) (n : Nat) (H : List Nat) (lv i : Value) (wr : World) : Prop := ∃ (k cl : Nat) (L : List Bool) (al : Option Addr), k ≤ n ∧ i = .int .i64 k ∧ lv = .slice al L.length cl ∧ NormB L (dval (H.take k).reverse) ∧ BA wr al L ∧ L.length ≤ 5 * k ∧ L.length ≤ cl ∧ cl ≤ 9223372036854775807 ∧ (∀ i, i < k → 48 ≤ H.getD i 0 ∧ H.getD i 0 ≤ 57) ∧ Upd [] w wr ∧ Tb wr w.heap.size #[.int .u8 0, .bool false, .slice none 0 0, .string ⟨#[]⟩, .int .i64 0, .slice none 0 0, .slice none 0 0]

set_option maxHeartbeats 4000000 in
set_option maxRecDepth 100000 in
theorem rParse_pos (d : ByteArray) (H : List Nat) (w : World) (hd : d.size = H.length) (hdk : ∀ k (h : k < d.size), (d[k]'h).toNat = H.getD k 0) (hl : 0 < H.length) (hl2 : H.length ≤ 400) (hfirst : H.getD 0 0 ≠ 48) (h45 : H.getD 0 0 ≠ 45) :
    Calls Tryd.prog 29 #[.string d] w fun e w' => POut w' e false H ∧ Upd [] w w' := by
  have hsz0 : 0 < d.size := by omega
  have hx0 := hdk 0 hsz0
  obtain ⟨x0, hx00⟩ : ∃ x, x = H.getD 0 0 := ⟨_, rfl⟩
  rw [← hx00] at hx0 hfirst h45
  have hf48 : ((x0 : Int) == 48) = false := by simp; omega
  have hf45 : ((x0 : Int) == 45) = false := by simp; omega
  have HDK : Hid (∀ k (h : k < d.size), (d[k]'h).toNat = H.getD k 0) := hdk
  have HDS : Hid (d.size = H.length) := hd
  have hdl : d.size ≤ 400 := by omega
  have hd0 : ((d.size : Int) == 0) = false := by rw [beq_eq_false_iff_ne]; omega
  have hd4 : decide ((d.size : Int) > 400) = false := by simp; omega
  have u0 := (Upd.refl [] w).alloc (.cells #[.int .u8 0, .bool false, .slice none 0 0, .string ⟨#[]⟩, .int .i64 0, .slice none 0 0, .slice none 0 0] 26)
  have t0 := Tb.new w #[.int .u8 0, .bool false, .slice none 0 0, .string ⟨#[]⟩, .int .i64 0, .slice none 0 0, .slice none 0 0] _ rfl
  have HU0 : Hid _ := u0
  have HT0 : Hid _ := t0
  clear hdk hd hx00 u0 t0 hfirst h45
  go_enter Tryd.func29, Tryd.ntmps29
  go_wp2_with fail
  go_loopw [6, 7] (RPInv w d.size H) (fun _ i _ => d.size - (intOf i).toNat)
  case atStart => exact ⟨0, 0, [], none, Nat.zero_le _, rfl, rfl, by simp only [List.take_zero, List.reverse_nil, dval]; exact NormB.zero, BA.nil _ _, by simp, by simp, by omega, fun i hi => by omega, HU0.out, HT0.out⟩
  case round =>
    obtain ⟨k, cl, L, al, hk1, rfl, rfl, nL, hL, hLl, hcl, hcl2, hdg, hU, hT⟩ := hrel
    have HDG : Hid (∀ i, i < k → 48 ≤ H.getD i 0 ∧ H.getD i 0 ≤ 57) := hdg
    have HNL : Hid (NormB L (dval (H.take k).reverse)) := nL
    clear hx0 hdg nL
    by_cases hk : k < d.size
    · have hxk := HDK.out k hk
      have hkH : k < H.length := by rw [← HDS.out]; exact hk
      have HPV : Hid (dval (H.take (k + 1)).reverse = 10 * dval (H.take k).reverse + (H.getD k 0 - 48)) := pv_snoc H k hkH
      have HND : Hid (H.getD k 0 < 48 ∨ 57 < H.getD k 0 → ¬ IsDig H) := fun h => not_dig k hkH h
      obtain ⟨x, hx⟩ : ∃ x, x = H.getD k 0 := ⟨_, rfl⟩
      have HX : Hid (x = H.getD k 0) := hx
      rw [← hx] at hxk HPV HND
      clear hx
      by_cases hx1 : x < 48
      · have hlt : decide ((x : Int) < 48) = true := by simp; omega
        have HB : Hid (¬ IsDig H) := HND.out (Or.inl hx1)
        go_wp2_with (refine store_V _ rfl _ _ rfl _ _ _ _ _ _ _ _ _ _ _ _ _ _ _ rfl rfl hT rfl ?_; intro w3 hT3 hU3)
        exact ret_Tb Tryd.results29 rfl _ _ _ rfl hT3 rfl rfl ⟨POut.bad HB.out, hU.then hU3 (by simp)⟩
      · by_cases hx2 : 57 < x
        · have hlt : decide ((x : Int) < 48) = false := by simp; omega
          have hgt : decide ((x : Int) > 57) = true := by simp; omega
          have HB : Hid (¬ IsDig H) := HND.out (Or.inr hx2)
          go_wp2_with (refine store_V _ rfl _ _ rfl _ _ _ _ _ _ _ _ _ _ _ _ _ _ _ rfl rfl hT rfl ?_; intro w3 hT3 hU3)
          exact ret_Tb Tryd.results29 rfl _ _ _ rfl hT3 rfl rfl ⟨POut.bad HB.out, hU.then hU3 (by simp)⟩
        · have hlt : decide ((x : Int) < 48) = false := by simp; omega
          have hgt : decide ((x : Int) > 57) = false := by simp; omega
          obtain ⟨y, hy⟩ : ∃ y, y = x - 48 := ⟨_, rfl⟩
          have hxy : (x : Int) - 48 = (y : Int) := by omega
          have hy9 : y ≤ 9 := by omega
          have HYX : Hid (y = x - 48) := hy
          clear hy
          have hszr := hU.size
          have HTR : Hid (Tb wr w.heap.size #[.int .u8 0, .bool false, .slice none 0 0, .string ⟨#[]⟩, .int .i64 0, .slice none 0 0, .slice none 0 0]) := hT
          have HUR : Hid (Upd [] w wr) := hU
          have HBL : Hid (BA wr al L) := hL
          clear hT hU hL
          go_wp2_with (first
            | (at_builtin; refine append_bool _ rfl _ _ rfl wr.heap.size [false] L al 1 cl (by simp) (by omega) rfl rfl (BB.one wr false) rfl ((Hid.out HBL).mono ((Upd.refl [] wr).alloc _)) ?_; intro g2 cap2 w3 hg2 hBA2 hU3 hc21 hc22; have hL3 : Hid (BA w3 al L) := BA.past' (Hid.out HBL) hU3; have B23 : Hid (BA w3 (some ⟨g2, 0, none⟩) ([false] ++ L)) := hBA2; have UR3 : Hid (Upd [] w w3) := Upd.then (Upd.alloc (Hid.out HUR) (.cells #[.bool false] 4)) hU3 (by intro z hz; simp at hz; omega); have TR3 : Hid (Tb w3 w.heap.size #[.int .u8 0, .bool false, .slice none 0 0, .string ⟨#[]⟩, .int .i64 0, .slice none 0 0, .slice none 0 0]) := Tb.mono (Tb.old (Hid.out HTR) _) hU3 (by have := (Hid.out HTR).lt; simp; omega); have sz3 : w.heap.size ≤ w3.heap.size := (Hid.out UR3).size; clear hBA2 hU3)
            | (at_builtin; refine append_bool _ rfl _ _ rfl w3.heap.size [false, false, false] L al 3 cl (by simp) (by omega) rfl rfl (BB.three w3 false false false) rfl ((Hid.out hL3).mono ((Upd.refl [] w3).alloc _)) ?_; intro g8 cap8 w4 hg8 hBA8 hU4 hc81 hc82; have B24 : Hid (BA w4 (some ⟨g2, 0, none⟩) ([false] ++ L)) := BA.past' (Hid.out B23) hU4; have B84 : Hid (BA w4 (some ⟨g8, 0, none⟩) ([false, false, false] ++ L)) := hBA8; have UR4 : Hid (Upd [] w w4) := Upd.then (Upd.alloc (Hid.out UR3) (.cells #[.bool false, .bool false, .bool false] 4)) hU4 (by intro z hz; simp at hz; omega); have TR4 : Hid (Tb w4 w.heap.size #[.int .u8 0, .bool false, .slice none 0 0, .string ⟨#[]⟩, .int .i64 0, .slice none 0 0, .slice none 0 0]) := Tb.mono (Tb.old (Hid.out TR3) _) hU4 (by have := (Hid.out TR3).lt; simp; omega); clear hBA8 hU4))
          refine (rOf_any (y : Int) w4 (by omega)).mono ?_
          rintro e w5 ⟨hU5, gn, an, cn, Mn, rfl, T5⟩
          have I5 : Hid (TI w5 gn an Mn (y : Int)) := T5
          have B25 : Hid (BA w5 (some ⟨g2, 0, none⟩) ([false] ++ L)) := BA.mono (Hid.out B24) hU5
          have B85 : Hid (BA w5 (some ⟨g8, 0, none⟩) ([false, false, false] ++ L)) := BA.mono (Hid.out B84) hU5
          have UR5 : Hid (Upd [] w w5) := Upd.trans (Hid.out UR4) hU5
          have TR5 : Hid (Tb w5 w.heap.size #[.int .u8 0, .bool false, .slice none 0 0, .string ⟨#[]⟩, .int .i64 0, .slice none 0 0, .slice none 0 0]) := Tb.mono (Hid.out TR4) hU5 (by simp)
          clear T5 hU5 B24 B84 UR4 TR4 hL3 B23 UR3 TR3 HBL HUR HTR
          go_wp2_with fail
          have u6 := (Upd.refl [] w5).alloc (.cells #[.int .u8 1, .bool gn, .slice an Mn.length cn, .string ⟨#[]⟩, .int .i64 0, .slice none 0 0, .slice none 0 0] 26)
          have tn6 := Tb.new w5 #[.int .u8 1, .bool gn, .slice an Mn.length cn, .string ⟨#[]⟩, .int .i64 0, .slice none 0 0, .slice none 0 0] _ rfl
          obtain ⟨W6, hW6⟩ : ∃ X, X = w5.alloc (.cells #[.int .u8 1, .bool gn, .slice an Mn.length cn, .string ⟨#[]⟩, .int .i64 0, .slice none 0 0, .slice none 0 0] 26) := ⟨_, rfl⟩
          rw [← hW6] at u6 tn6 ⊢
          clear hW6
          have I6 : Hid (TI W6 gn an Mn (y : Int)) := TI.mono (Hid.out I5) u6
          have B2 : Hid (BA W6 (some ⟨g2, 0, none⟩) ([false] ++ L)) := BA.mono (Hid.out B25) u6
          have B8 : Hid (BA W6 (some ⟨g8, 0, none⟩) ([false, false, false] ++ L)) := BA.mono (Hid.out B85) u6
          have UR6 : Hid (Upd [] w W6) := Upd.trans (Hid.out UR5) u6
          have TR6 : Hid (Tb W6 w.heap.size #[.int .u8 0, .bool false, .slice none 0 0, .string ⟨#[]⟩, .int .i64 0, .slice none 0 0, .slice none 0 0]) := Tb.mono (Hid.out TR5) u6 (by simp)
          obtain ⟨X2, hX2⟩ : ∃ X, X = [false] ++ L := ⟨_, rfl⟩
          obtain ⟨X8, hX8⟩ : ∃ X, X = [false, false, false] ++ L := ⟨_, rfl⟩
          have l2 : L.length + 1 = X2.length := by rw [hX2]; simp
          have l8 : L.length + 1 + 1 + 1 = X8.length := by rw [hX8]; simp
          have HTEN : Hid (nb X2 + nb X8 = 10 * nb L) := by show nb X2 + nb X8 = _; rw [hX2, hX8]; exact ten_nb L
          rw [← hX2] at B2
          rw [← hX8] at B8
          rw [l8, l2]
          have x2l : X2.length ≤ 2600 := by omega
          have x8l : X8.length ≤ 2600 := by omega
          have HL2 : Hid (X2.length = L.length + 1) := l2.symm
          have HL8 : Hid (X8.length = L.length + 3) := by show X8.length = L.length + 3; omega
          clear hX2 hX8 l2 l8
          have HX9 : Hid ((y : Int).natAbs < 2 ^ 4) := by show (y : Int).natAbs < 2 ^ 4; simp; omega
          clear u6 I5 B25 B85 UR5 TR5
          have r0 : W6.cell? ⟨w5.heap.size, 0, none⟩ = some (.int .u8 1) := tn6.cell 0
          have r1 : W6.cell? ⟨w5.heap.size, 1, none⟩ = some (.bool gn) := tn6.cell 1
          have r2 : W6.cell? ⟨w5.heap.size, 2, none⟩ = some (.slice an Mn.length cn) := tn6.cell 2
          have r3 : W6.cell? ⟨w5.heap.size, 3, none⟩ = some (.string ⟨#[]⟩) := tn6.cell 3
          have r4 : W6.cell? ⟨w5.heap.size, 4, none⟩ = some (.int .i64 0) := tn6.cell 4
          have r5 : W6.cell? ⟨w5.heap.size, 5, none⟩ = some (.slice none 0 0) := tn6.cell 5
          have r6 : W6.cell? ⟨w5.heap.size, 6, none⟩ = some (.slice none 0 0) := tn6.cell 6
          have htn : Hid (Tb W6 (w5.heap.size) #[.int .u8 1, .bool gn, .slice an Mn.length cn, .string ⟨#[]⟩, .int .i64 0, .slice none 0 0, .slice none 0 0]) := tn6
          clear tn6
          go_region_held3 (fun w' => w'.cell? ⟨w5.heap.size, 0, none⟩ = some (.int .u8 1) ∧ w'.cell? ⟨w5.heap.size, 1, none⟩ = some (.bool gn) ∧ w'.cell? ⟨w5.heap.size, 2, none⟩ = some (.slice an Mn.length cn) ∧ w'.cell? ⟨w5.heap.size, 3, none⟩ = some (.string ⟨#[]⟩) ∧ w'.cell? ⟨w5.heap.size, 4, none⟩ = some (.int .i64 0) ∧ w'.cell? ⟨w5.heap.size, 5, none⟩ = some (.slice none 0 0) ∧ w'.cell? ⟨w5.heap.size, 6, none⟩ = some (.slice none 0 0))
            (go_keep)
            (first
              | (go_at_call 40; refine (rsum_any a10 ab c10 cb _ _ M10 Mb _ ?_ ?_ ?_ ?_ N10.out.eq Nb.out.eq).mono ?_; (omega); (exact Nat.le_trans ((Nb.out.len_le 4).2 HX9.out) (by omega)); (exact BA.mono (Hid.out B10) (Upd.trans (Hid.out uv2) (by repeat (first | exact Upd.refl _ _ | refine Upd.drew ?_)))); (exact BA.mono (Hid.out Bb) (by repeat (first | exact Upd.refl _ _ | refine Upd.drew ?_))); rintro e v3 ⟨hv3, at_, ct, Mt, rfl, zn3, zb3, zf3, zd3, ze3, zl3⟩; have uv3 : Hid (Upd [] v2 v3) := Upd.trans (by repeat (first | exact Upd.refl _ _ | refine Upd.drew ?_)) hv3; have pv3 : Tb v3 (w5.heap.size) #[.int .u8 1, .bool gn, .slice an Mn.length cn, .string ⟨#[]⟩, .int .i64 0, .slice none 0 0, .slice none 0 0] := Tb.mono (Hid.out htnv2) (Hid.out uv3) (by simp); have r0v3 : v3.cell? ⟨w5.heap.size, 0, none⟩ = some (.int .u8 1) := pv3.cell 0; have r1v3 : v3.cell? ⟨w5.heap.size, 1, none⟩ = some (.bool gn) := pv3.cell 1; have r2v3 : v3.cell? ⟨w5.heap.size, 2, none⟩ = some (.slice an Mn.length cn) := pv3.cell 2; have r3v3 : v3.cell? ⟨w5.heap.size, 3, none⟩ = some (.string ⟨#[]⟩) := pv3.cell 3; have r4v3 : v3.cell? ⟨w5.heap.size, 4, none⟩ = some (.int .i64 0) := pv3.cell 4; have r5v3 : v3.cell? ⟨w5.heap.size, 5, none⟩ = some (.slice none 0 0) := pv3.cell 5; have r6v3 : v3.cell? ⟨w5.heap.size, 6, none⟩ = some (.slice none 0 0) := pv3.cell 6; have htnv3 : Hid (Tb v3 (w5.heap.size) #[.int .u8 1, .bool gn, .slice an Mn.length cn, .string ⟨#[]⟩, .int .i64 0, .slice none 0 0, .slice none 0 0]) := pv3; clear pv3; have Nt : Hid (NormB Mt _) := zn3; have Bt : Hid (BA v3 at_ Mt) := zb3; clear zn3 zb3 zf3)
              | (go_at_call 38; refine (bits_any an none none cn 0 0 gn Mn (y : Int) _ ?_).mono ?_; (exact TI.mono (Hid.out I6) (Upd.trans (Hid.out uv1) (by repeat (first | exact Upd.refl _ _ | refine Upd.drew ?_)))); rintro e v2 ⟨hv2, ab, cb, Mb, rfl, zn2, zb2, zf2, zd2, ze2⟩; have uv2 : Hid (Upd [] v1 v2) := Upd.trans (by repeat (first | exact Upd.refl _ _ | refine Upd.drew ?_)) hv2; have pv2 : Tb v2 (w5.heap.size) #[.int .u8 1, .bool gn, .slice an Mn.length cn, .string ⟨#[]⟩, .int .i64 0, .slice none 0 0, .slice none 0 0] := Tb.mono (Hid.out htnv1) (Hid.out uv2) (by simp); have r0v2 : v2.cell? ⟨w5.heap.size, 0, none⟩ = some (.int .u8 1) := pv2.cell 0; have r1v2 : v2.cell? ⟨w5.heap.size, 1, none⟩ = some (.bool gn) := pv2.cell 1; have r2v2 : v2.cell? ⟨w5.heap.size, 2, none⟩ = some (.slice an Mn.length cn) := pv2.cell 2; have r3v2 : v2.cell? ⟨w5.heap.size, 3, none⟩ = some (.string ⟨#[]⟩) := pv2.cell 3; have r4v2 : v2.cell? ⟨w5.heap.size, 4, none⟩ = some (.int .i64 0) := pv2.cell 4; have r5v2 : v2.cell? ⟨w5.heap.size, 5, none⟩ = some (.slice none 0 0) := pv2.cell 5; have r6v2 : v2.cell? ⟨w5.heap.size, 6, none⟩ = some (.slice none 0 0) := pv2.cell 6; have htnv2 : Hid (Tb v2 (w5.heap.size) #[.int .u8 1, .bool gn, .slice an Mn.length cn, .string ⟨#[]⟩, .int .i64 0, .slice none 0 0, .slice none 0 0]) := pv2; clear pv2; have Nb : Hid (NormB Mb _) := zn2; have Bb : Hid (BA v2 ab Mb) := zb2; clear zn2 zb2 zf2)
              | (go_at_call 40; refine (rsum_any (some ⟨g2, 0, none⟩) (some ⟨g8, 0, none⟩) cap2 cap8 (nb X2) (nb X8) X2 X8 _ ?_ ?_ ?_ ?_ rfl rfl).mono ?_; (omega); (omega); (exact BA.mono (Hid.out B2) (by repeat (first | exact Upd.refl _ _ | refine Upd.drew ?_))); (exact BA.mono (Hid.out B8) (by repeat (first | exact Upd.refl _ _ | refine Upd.drew ?_))); rintro e v1 ⟨hv1, a10, c10, M10, rfl, zn1, zb1, zf1, zd1, ze1, zl1⟩; have uv1 : Hid (Upd [] W6 v1) := Upd.trans (by repeat (first | exact Upd.refl _ _ | refine Upd.drew ?_)) hv1; have pv1 : Tb v1 (w5.heap.size) #[.int .u8 1, .bool gn, .slice an Mn.length cn, .string ⟨#[]⟩, .int .i64 0, .slice none 0 0, .slice none 0 0] := Tb.mono (Hid.out htn) (Hid.out uv1) (by simp); have r0v1 : v1.cell? ⟨w5.heap.size, 0, none⟩ = some (.int .u8 1) := pv1.cell 0; have r1v1 : v1.cell? ⟨w5.heap.size, 1, none⟩ = some (.bool gn) := pv1.cell 1; have r2v1 : v1.cell? ⟨w5.heap.size, 2, none⟩ = some (.slice an Mn.length cn) := pv1.cell 2; have r3v1 : v1.cell? ⟨w5.heap.size, 3, none⟩ = some (.string ⟨#[]⟩) := pv1.cell 3; have r4v1 : v1.cell? ⟨w5.heap.size, 4, none⟩ = some (.int .i64 0) := pv1.cell 4; have r5v1 : v1.cell? ⟨w5.heap.size, 5, none⟩ = some (.slice none 0 0) := pv1.cell 5; have r6v1 : v1.cell? ⟨w5.heap.size, 6, none⟩ = some (.slice none 0 0) := pv1.cell 6; have htnv1 : Hid (Tb v1 (w5.heap.size) #[.int .u8 1, .bool gn, .slice an Mn.length cn, .string ⟨#[]⟩, .int .i64 0, .slice none 0 0, .slice none 0 0]) := pv1; clear pv1; have N10 : Hid (NormB M10 _) := zn1; have B10 : Hid (BA v1 a10 M10) := zb1; clear zn1 zb1 zf1))
          all_goals
            go_wp2
            go_roundw
            case rel =>
              refine ⟨k + 1, ct, Mt, at_, by omega, by go_num, rfl, ?_, Bt.out, by have h9 := (Nb.out.len_le 4).2 HX9.out; have h10 := HL2.out; have h11 := HL8.out; omega, zd3, ze3, fun i hi => ?_, Upd.trans (Hid.out UR6) (Upd.trans (Hid.out uv1) (Upd.trans (Hid.out uv2) (Hid.out uv3))), Tb.mono (Hid.out TR6) (Upd.trans (Hid.out uv1) (Upd.trans (Hid.out uv2) (Hid.out uv3))) (by simp)⟩
              · have e := Nt.out
                rw [HTEN.out, HNL.out.eq] at e
                rw [HPV.out, ← HYX.out]
                simpa using e
              · by_cases hik : i = k
                · rw [hik, ← HX.out]; omega
                · exact HDG.out i (by omega)
            case measure => simp [intOf]; omega
    · have hkd : k = d.size := by omega
      have HIS : Hid (IsDig H) := fun c hc => by
        obtain ⟨i, hi, e⟩ := List.mem_iff_getElem.1 hc
        have := HDG.out i (by rw [hkd, HDS.out]; exact hi)
        rw [List.getD_eq_getElem?_getD, List.getElem?_eq_getElem hi] at this
        rw [← e]; exact this
      have HV : Hid (nb L = dval H.reverse) := by show nb L = _; rw [HNL.out.eq, List.take_of_length_le (by rw [hkd, HDS.out]; exact Nat.le_refl _)]
      go_wp2_with fail
      refine (made_any al cl _ false L wr (by omega) hcl hcl2 hL HV.out).mono ?_
      rintro e w2 ⟨hR, hU2⟩
      have hT2 := hT.mono hU2 (by simp)
      have hU02 := hU.trans hU2
      clear hT hU hU2
      rcases hR with ⟨hs', neg', a2, c2, M2, rfl, hTI⟩ | ⟨hs', rfl⟩
      · have HTI : Hid _ := hTI
        have HS : Hid _ := hs'
        clear hTI hs'
        go_wp2_with (refine store_V _ rfl _ _ rfl _ _ _ _ _ _ _ _ _ _ _ _ _ _ _ rfl rfl hT2 rfl ?_; intro w3 hT3 hU3)
        exact ret_Tb Tryd.results29 rfl _ _ _ rfl hT3 rfl rfl ⟨Or.inr ⟨HIS.out, Or.inl ⟨HS.out, neg', a2, c2, M2, rfl, ⟨HTI.out.norm, HTI.out.mem.keep hT2 hU3, HTI.out.len, HTI.out.sgn⟩⟩⟩, hU02.then hU3 (by simp)⟩
      · have HS : Hid _ := hs'
        clear hs'
        go_wp2_with (refine store_V _ rfl _ _ rfl _ _ _ _ _ _ _ _ _ _ _ _ _ _ _ rfl rfl hT2 rfl ?_; intro w3 hT3 hU3)
        exact ret_Tb Tryd.results29 rfl _ _ _ rfl hT3 rfl rfl ⟨Or.inr ⟨HIS.out, Or.inr ⟨HS.out, rfl⟩⟩, hU02.then hU3 (by simp)⟩

set_option maxHeartbeats 4000000 in
set_option maxRecDepth 100000 in
theorem rParse_one (d : ByteArray) (H : List Nat) (w : World) (hd : d.size = H.length) (hdk : ∀ k (h : k < d.size), (d[k]'h).toNat = H.getD k 0) (_hl : 0 < H.length) (_hl2 : H.length ≤ 400) (hfirst : H.getD 0 0 = 48) (hone : H.length = 1) :
    Calls Tryd.prog 29 #[.string d] w fun e w' => POut w' e false H ∧ Upd [] w w' := by
  have hsz0 : 0 < d.size := by omega
  have hx0 := hdk 0 hsz0
  obtain ⟨x0, hx00⟩ : ∃ x, x = H.getD 0 0 := ⟨_, rfl⟩
  rw [← hx00] at hx0 hfirst
  subst hfirst
  have hd1 : decide ((d.size : Int) > 1) = false := by simp; omega
  have HDK : Hid (∀ k (h : k < d.size), (d[k]'h).toNat = H.getD k 0) := hdk
  have HDS : Hid (d.size = H.length) := hd
  have hdl : d.size ≤ 400 := by omega
  have hd0 : ((d.size : Int) == 0) = false := by rw [beq_eq_false_iff_ne]; omega
  have hd4 : decide ((d.size : Int) > 400) = false := by simp; omega
  have u0 := (Upd.refl [] w).alloc (.cells #[.int .u8 0, .bool false, .slice none 0 0, .string ⟨#[]⟩, .int .i64 0, .slice none 0 0, .slice none 0 0] 26)
  have t0 := Tb.new w #[.int .u8 0, .bool false, .slice none 0 0, .string ⟨#[]⟩, .int .i64 0, .slice none 0 0, .slice none 0 0] _ rfl
  have HU0 : Hid _ := u0
  have HT0 : Hid _ := t0
  clear hdk hd hx00 u0 t0 
  go_enter Tryd.func29, Tryd.ntmps29
  go_wp2_with fail
  go_loopw [6, 7] (RPInv w d.size H) (fun _ i _ => d.size - (intOf i).toNat)
  case atStart => exact ⟨0, 0, [], none, Nat.zero_le _, rfl, rfl, by simp only [List.take_zero, List.reverse_nil, dval]; exact NormB.zero, BA.nil _ _, by simp, by simp, by omega, fun i hi => by omega, HU0.out, HT0.out⟩
  case round =>
    obtain ⟨k, cl, L, al, hk1, rfl, rfl, nL, hL, hLl, hcl, hcl2, hdg, hU, hT⟩ := hrel
    have HDG : Hid (∀ i, i < k → 48 ≤ H.getD i 0 ∧ H.getD i 0 ≤ 57) := hdg
    have HNL : Hid (NormB L (dval (H.take k).reverse)) := nL
    clear hx0 hdg nL
    by_cases hk : k < d.size
    · have hxk := HDK.out k hk
      have hkH : k < H.length := by rw [← HDS.out]; exact hk
      have HPV : Hid (dval (H.take (k + 1)).reverse = 10 * dval (H.take k).reverse + (H.getD k 0 - 48)) := pv_snoc H k hkH
      have HND : Hid (H.getD k 0 < 48 ∨ 57 < H.getD k 0 → ¬ IsDig H) := fun h => not_dig k hkH h
      obtain ⟨x, hx⟩ : ∃ x, x = H.getD k 0 := ⟨_, rfl⟩
      have HX : Hid (x = H.getD k 0) := hx
      rw [← hx] at hxk HPV HND
      clear hx
      by_cases hx1 : x < 48
      · have hlt : decide ((x : Int) < 48) = true := by simp; omega
        have HB : Hid (¬ IsDig H) := HND.out (Or.inl hx1)
        go_wp2_with (refine store_V _ rfl _ _ rfl _ _ _ _ _ _ _ _ _ _ _ _ _ _ _ rfl rfl hT rfl ?_; intro w3 hT3 hU3)
        exact ret_Tb Tryd.results29 rfl _ _ _ rfl hT3 rfl rfl ⟨POut.bad HB.out, hU.then hU3 (by simp)⟩
      · by_cases hx2 : 57 < x
        · have hlt : decide ((x : Int) < 48) = false := by simp; omega
          have hgt : decide ((x : Int) > 57) = true := by simp; omega
          have HB : Hid (¬ IsDig H) := HND.out (Or.inr hx2)
          go_wp2_with (refine store_V _ rfl _ _ rfl _ _ _ _ _ _ _ _ _ _ _ _ _ _ _ rfl rfl hT rfl ?_; intro w3 hT3 hU3)
          exact ret_Tb Tryd.results29 rfl _ _ _ rfl hT3 rfl rfl ⟨POut.bad HB.out, hU.then hU3 (by simp)⟩
        · have hlt : decide ((x : Int) < 48) = false := by simp; omega
          have hgt : decide ((x : Int) > 57) = false := by simp; omega
          obtain ⟨y, hy⟩ : ∃ y, y = x - 48 := ⟨_, rfl⟩
          have hxy : (x : Int) - 48 = (y : Int) := by omega
          have hy9 : y ≤ 9 := by omega
          have HYX : Hid (y = x - 48) := hy
          clear hy
          have hszr := hU.size
          have HTR : Hid (Tb wr w.heap.size #[.int .u8 0, .bool false, .slice none 0 0, .string ⟨#[]⟩, .int .i64 0, .slice none 0 0, .slice none 0 0]) := hT
          have HUR : Hid (Upd [] w wr) := hU
          have HBL : Hid (BA wr al L) := hL
          clear hT hU hL
          go_wp2_with (first
            | (at_builtin; refine append_bool _ rfl _ _ rfl wr.heap.size [false] L al 1 cl (by simp) (by omega) rfl rfl (BB.one wr false) rfl ((Hid.out HBL).mono ((Upd.refl [] wr).alloc _)) ?_; intro g2 cap2 w3 hg2 hBA2 hU3 hc21 hc22; have hL3 : Hid (BA w3 al L) := BA.past' (Hid.out HBL) hU3; have B23 : Hid (BA w3 (some ⟨g2, 0, none⟩) ([false] ++ L)) := hBA2; have UR3 : Hid (Upd [] w w3) := Upd.then (Upd.alloc (Hid.out HUR) (.cells #[.bool false] 4)) hU3 (by intro z hz; simp at hz; omega); have TR3 : Hid (Tb w3 w.heap.size #[.int .u8 0, .bool false, .slice none 0 0, .string ⟨#[]⟩, .int .i64 0, .slice none 0 0, .slice none 0 0]) := Tb.mono (Tb.old (Hid.out HTR) _) hU3 (by have := (Hid.out HTR).lt; simp; omega); have sz3 : w.heap.size ≤ w3.heap.size := (Hid.out UR3).size; clear hBA2 hU3)
            | (at_builtin; refine append_bool _ rfl _ _ rfl w3.heap.size [false, false, false] L al 3 cl (by simp) (by omega) rfl rfl (BB.three w3 false false false) rfl ((Hid.out hL3).mono ((Upd.refl [] w3).alloc _)) ?_; intro g8 cap8 w4 hg8 hBA8 hU4 hc81 hc82; have B24 : Hid (BA w4 (some ⟨g2, 0, none⟩) ([false] ++ L)) := BA.past' (Hid.out B23) hU4; have B84 : Hid (BA w4 (some ⟨g8, 0, none⟩) ([false, false, false] ++ L)) := hBA8; have UR4 : Hid (Upd [] w w4) := Upd.then (Upd.alloc (Hid.out UR3) (.cells #[.bool false, .bool false, .bool false] 4)) hU4 (by intro z hz; simp at hz; omega); have TR4 : Hid (Tb w4 w.heap.size #[.int .u8 0, .bool false, .slice none 0 0, .string ⟨#[]⟩, .int .i64 0, .slice none 0 0, .slice none 0 0]) := Tb.mono (Tb.old (Hid.out TR3) _) hU4 (by have := (Hid.out TR3).lt; simp; omega); clear hBA8 hU4))
          refine (rOf_any (y : Int) w4 (by omega)).mono ?_
          rintro e w5 ⟨hU5, gn, an, cn, Mn, rfl, T5⟩
          have I5 : Hid (TI w5 gn an Mn (y : Int)) := T5
          have B25 : Hid (BA w5 (some ⟨g2, 0, none⟩) ([false] ++ L)) := BA.mono (Hid.out B24) hU5
          have B85 : Hid (BA w5 (some ⟨g8, 0, none⟩) ([false, false, false] ++ L)) := BA.mono (Hid.out B84) hU5
          have UR5 : Hid (Upd [] w w5) := Upd.trans (Hid.out UR4) hU5
          have TR5 : Hid (Tb w5 w.heap.size #[.int .u8 0, .bool false, .slice none 0 0, .string ⟨#[]⟩, .int .i64 0, .slice none 0 0, .slice none 0 0]) := Tb.mono (Hid.out TR4) hU5 (by simp)
          clear T5 hU5 B24 B84 UR4 TR4 hL3 B23 UR3 TR3 HBL HUR HTR
          go_wp2_with fail
          have u6 := (Upd.refl [] w5).alloc (.cells #[.int .u8 1, .bool gn, .slice an Mn.length cn, .string ⟨#[]⟩, .int .i64 0, .slice none 0 0, .slice none 0 0] 26)
          have tn6 := Tb.new w5 #[.int .u8 1, .bool gn, .slice an Mn.length cn, .string ⟨#[]⟩, .int .i64 0, .slice none 0 0, .slice none 0 0] _ rfl
          obtain ⟨W6, hW6⟩ : ∃ X, X = w5.alloc (.cells #[.int .u8 1, .bool gn, .slice an Mn.length cn, .string ⟨#[]⟩, .int .i64 0, .slice none 0 0, .slice none 0 0] 26) := ⟨_, rfl⟩
          rw [← hW6] at u6 tn6 ⊢
          clear hW6
          have I6 : Hid (TI W6 gn an Mn (y : Int)) := TI.mono (Hid.out I5) u6
          have B2 : Hid (BA W6 (some ⟨g2, 0, none⟩) ([false] ++ L)) := BA.mono (Hid.out B25) u6
          have B8 : Hid (BA W6 (some ⟨g8, 0, none⟩) ([false, false, false] ++ L)) := BA.mono (Hid.out B85) u6
          have UR6 : Hid (Upd [] w W6) := Upd.trans (Hid.out UR5) u6
          have TR6 : Hid (Tb W6 w.heap.size #[.int .u8 0, .bool false, .slice none 0 0, .string ⟨#[]⟩, .int .i64 0, .slice none 0 0, .slice none 0 0]) := Tb.mono (Hid.out TR5) u6 (by simp)
          obtain ⟨X2, hX2⟩ : ∃ X, X = [false] ++ L := ⟨_, rfl⟩
          obtain ⟨X8, hX8⟩ : ∃ X, X = [false, false, false] ++ L := ⟨_, rfl⟩
          have l2 : L.length + 1 = X2.length := by rw [hX2]; simp
          have l8 : L.length + 1 + 1 + 1 = X8.length := by rw [hX8]; simp
          have HTEN : Hid (nb X2 + nb X8 = 10 * nb L) := by show nb X2 + nb X8 = _; rw [hX2, hX8]; exact ten_nb L
          rw [← hX2] at B2
          rw [← hX8] at B8
          rw [l8, l2]
          have x2l : X2.length ≤ 2600 := by omega
          have x8l : X8.length ≤ 2600 := by omega
          have HL2 : Hid (X2.length = L.length + 1) := l2.symm
          have HL8 : Hid (X8.length = L.length + 3) := by show X8.length = L.length + 3; omega
          clear hX2 hX8 l2 l8
          have HX9 : Hid ((y : Int).natAbs < 2 ^ 4) := by show (y : Int).natAbs < 2 ^ 4; simp; omega
          clear u6 I5 B25 B85 UR5 TR5
          have r0 : W6.cell? ⟨w5.heap.size, 0, none⟩ = some (.int .u8 1) := tn6.cell 0
          have r1 : W6.cell? ⟨w5.heap.size, 1, none⟩ = some (.bool gn) := tn6.cell 1
          have r2 : W6.cell? ⟨w5.heap.size, 2, none⟩ = some (.slice an Mn.length cn) := tn6.cell 2
          have r3 : W6.cell? ⟨w5.heap.size, 3, none⟩ = some (.string ⟨#[]⟩) := tn6.cell 3
          have r4 : W6.cell? ⟨w5.heap.size, 4, none⟩ = some (.int .i64 0) := tn6.cell 4
          have r5 : W6.cell? ⟨w5.heap.size, 5, none⟩ = some (.slice none 0 0) := tn6.cell 5
          have r6 : W6.cell? ⟨w5.heap.size, 6, none⟩ = some (.slice none 0 0) := tn6.cell 6
          have htn : Hid (Tb W6 (w5.heap.size) #[.int .u8 1, .bool gn, .slice an Mn.length cn, .string ⟨#[]⟩, .int .i64 0, .slice none 0 0, .slice none 0 0]) := tn6
          clear tn6
          go_region_held3 (fun w' => w'.cell? ⟨w5.heap.size, 0, none⟩ = some (.int .u8 1) ∧ w'.cell? ⟨w5.heap.size, 1, none⟩ = some (.bool gn) ∧ w'.cell? ⟨w5.heap.size, 2, none⟩ = some (.slice an Mn.length cn) ∧ w'.cell? ⟨w5.heap.size, 3, none⟩ = some (.string ⟨#[]⟩) ∧ w'.cell? ⟨w5.heap.size, 4, none⟩ = some (.int .i64 0) ∧ w'.cell? ⟨w5.heap.size, 5, none⟩ = some (.slice none 0 0) ∧ w'.cell? ⟨w5.heap.size, 6, none⟩ = some (.slice none 0 0))
            (go_keep)
            (first
              | (go_at_call 40; refine (rsum_any a10 ab c10 cb _ _ M10 Mb _ ?_ ?_ ?_ ?_ N10.out.eq Nb.out.eq).mono ?_; (omega); (exact Nat.le_trans ((Nb.out.len_le 4).2 HX9.out) (by omega)); (exact BA.mono (Hid.out B10) (Upd.trans (Hid.out uv2) (by repeat (first | exact Upd.refl _ _ | refine Upd.drew ?_)))); (exact BA.mono (Hid.out Bb) (by repeat (first | exact Upd.refl _ _ | refine Upd.drew ?_))); rintro e v3 ⟨hv3, at_, ct, Mt, rfl, zn3, zb3, zf3, zd3, ze3, zl3⟩; have uv3 : Hid (Upd [] v2 v3) := Upd.trans (by repeat (first | exact Upd.refl _ _ | refine Upd.drew ?_)) hv3; have pv3 : Tb v3 (w5.heap.size) #[.int .u8 1, .bool gn, .slice an Mn.length cn, .string ⟨#[]⟩, .int .i64 0, .slice none 0 0, .slice none 0 0] := Tb.mono (Hid.out htnv2) (Hid.out uv3) (by simp); have r0v3 : v3.cell? ⟨w5.heap.size, 0, none⟩ = some (.int .u8 1) := pv3.cell 0; have r1v3 : v3.cell? ⟨w5.heap.size, 1, none⟩ = some (.bool gn) := pv3.cell 1; have r2v3 : v3.cell? ⟨w5.heap.size, 2, none⟩ = some (.slice an Mn.length cn) := pv3.cell 2; have r3v3 : v3.cell? ⟨w5.heap.size, 3, none⟩ = some (.string ⟨#[]⟩) := pv3.cell 3; have r4v3 : v3.cell? ⟨w5.heap.size, 4, none⟩ = some (.int .i64 0) := pv3.cell 4; have r5v3 : v3.cell? ⟨w5.heap.size, 5, none⟩ = some (.slice none 0 0) := pv3.cell 5; have r6v3 : v3.cell? ⟨w5.heap.size, 6, none⟩ = some (.slice none 0 0) := pv3.cell 6; have htnv3 : Hid (Tb v3 (w5.heap.size) #[.int .u8 1, .bool gn, .slice an Mn.length cn, .string ⟨#[]⟩, .int .i64 0, .slice none 0 0, .slice none 0 0]) := pv3; clear pv3; have Nt : Hid (NormB Mt _) := zn3; have Bt : Hid (BA v3 at_ Mt) := zb3; clear zn3 zb3 zf3)
              | (go_at_call 38; refine (bits_any an none none cn 0 0 gn Mn (y : Int) _ ?_).mono ?_; (exact TI.mono (Hid.out I6) (Upd.trans (Hid.out uv1) (by repeat (first | exact Upd.refl _ _ | refine Upd.drew ?_)))); rintro e v2 ⟨hv2, ab, cb, Mb, rfl, zn2, zb2, zf2, zd2, ze2⟩; have uv2 : Hid (Upd [] v1 v2) := Upd.trans (by repeat (first | exact Upd.refl _ _ | refine Upd.drew ?_)) hv2; have pv2 : Tb v2 (w5.heap.size) #[.int .u8 1, .bool gn, .slice an Mn.length cn, .string ⟨#[]⟩, .int .i64 0, .slice none 0 0, .slice none 0 0] := Tb.mono (Hid.out htnv1) (Hid.out uv2) (by simp); have r0v2 : v2.cell? ⟨w5.heap.size, 0, none⟩ = some (.int .u8 1) := pv2.cell 0; have r1v2 : v2.cell? ⟨w5.heap.size, 1, none⟩ = some (.bool gn) := pv2.cell 1; have r2v2 : v2.cell? ⟨w5.heap.size, 2, none⟩ = some (.slice an Mn.length cn) := pv2.cell 2; have r3v2 : v2.cell? ⟨w5.heap.size, 3, none⟩ = some (.string ⟨#[]⟩) := pv2.cell 3; have r4v2 : v2.cell? ⟨w5.heap.size, 4, none⟩ = some (.int .i64 0) := pv2.cell 4; have r5v2 : v2.cell? ⟨w5.heap.size, 5, none⟩ = some (.slice none 0 0) := pv2.cell 5; have r6v2 : v2.cell? ⟨w5.heap.size, 6, none⟩ = some (.slice none 0 0) := pv2.cell 6; have htnv2 : Hid (Tb v2 (w5.heap.size) #[.int .u8 1, .bool gn, .slice an Mn.length cn, .string ⟨#[]⟩, .int .i64 0, .slice none 0 0, .slice none 0 0]) := pv2; clear pv2; have Nb : Hid (NormB Mb _) := zn2; have Bb : Hid (BA v2 ab Mb) := zb2; clear zn2 zb2 zf2)
              | (go_at_call 40; refine (rsum_any (some ⟨g2, 0, none⟩) (some ⟨g8, 0, none⟩) cap2 cap8 (nb X2) (nb X8) X2 X8 _ ?_ ?_ ?_ ?_ rfl rfl).mono ?_; (omega); (omega); (exact BA.mono (Hid.out B2) (by repeat (first | exact Upd.refl _ _ | refine Upd.drew ?_))); (exact BA.mono (Hid.out B8) (by repeat (first | exact Upd.refl _ _ | refine Upd.drew ?_))); rintro e v1 ⟨hv1, a10, c10, M10, rfl, zn1, zb1, zf1, zd1, ze1, zl1⟩; have uv1 : Hid (Upd [] W6 v1) := Upd.trans (by repeat (first | exact Upd.refl _ _ | refine Upd.drew ?_)) hv1; have pv1 : Tb v1 (w5.heap.size) #[.int .u8 1, .bool gn, .slice an Mn.length cn, .string ⟨#[]⟩, .int .i64 0, .slice none 0 0, .slice none 0 0] := Tb.mono (Hid.out htn) (Hid.out uv1) (by simp); have r0v1 : v1.cell? ⟨w5.heap.size, 0, none⟩ = some (.int .u8 1) := pv1.cell 0; have r1v1 : v1.cell? ⟨w5.heap.size, 1, none⟩ = some (.bool gn) := pv1.cell 1; have r2v1 : v1.cell? ⟨w5.heap.size, 2, none⟩ = some (.slice an Mn.length cn) := pv1.cell 2; have r3v1 : v1.cell? ⟨w5.heap.size, 3, none⟩ = some (.string ⟨#[]⟩) := pv1.cell 3; have r4v1 : v1.cell? ⟨w5.heap.size, 4, none⟩ = some (.int .i64 0) := pv1.cell 4; have r5v1 : v1.cell? ⟨w5.heap.size, 5, none⟩ = some (.slice none 0 0) := pv1.cell 5; have r6v1 : v1.cell? ⟨w5.heap.size, 6, none⟩ = some (.slice none 0 0) := pv1.cell 6; have htnv1 : Hid (Tb v1 (w5.heap.size) #[.int .u8 1, .bool gn, .slice an Mn.length cn, .string ⟨#[]⟩, .int .i64 0, .slice none 0 0, .slice none 0 0]) := pv1; clear pv1; have N10 : Hid (NormB M10 _) := zn1; have B10 : Hid (BA v1 a10 M10) := zb1; clear zn1 zb1 zf1))
          all_goals
            go_wp2
            go_roundw
            case rel =>
              refine ⟨k + 1, ct, Mt, at_, by omega, by go_num, rfl, ?_, Bt.out, by have h9 := (Nb.out.len_le 4).2 HX9.out; have h10 := HL2.out; have h11 := HL8.out; omega, zd3, ze3, fun i hi => ?_, Upd.trans (Hid.out UR6) (Upd.trans (Hid.out uv1) (Upd.trans (Hid.out uv2) (Hid.out uv3))), Tb.mono (Hid.out TR6) (Upd.trans (Hid.out uv1) (Upd.trans (Hid.out uv2) (Hid.out uv3))) (by simp)⟩
              · have e := Nt.out
                rw [HTEN.out, HNL.out.eq] at e
                rw [HPV.out, ← HYX.out]
                simpa using e
              · by_cases hik : i = k
                · rw [hik, ← HX.out]; omega
                · exact HDG.out i (by omega)
            case measure => simp [intOf]; omega
    · have hkd : k = d.size := by omega
      have HIS : Hid (IsDig H) := fun c hc => by
        obtain ⟨i, hi, e⟩ := List.mem_iff_getElem.1 hc
        have := HDG.out i (by rw [hkd, HDS.out]; exact hi)
        rw [List.getD_eq_getElem?_getD, List.getElem?_eq_getElem hi] at this
        rw [← e]; exact this
      have HV : Hid (nb L = dval H.reverse) := by show nb L = _; rw [HNL.out.eq, List.take_of_length_le (by rw [hkd, HDS.out]; exact Nat.le_refl _)]
      go_wp2_with fail
      refine (made_any al cl _ false L wr (by omega) hcl hcl2 hL HV.out).mono ?_
      rintro e w2 ⟨hR, hU2⟩
      have hT2 := hT.mono hU2 (by simp)
      have hU02 := hU.trans hU2
      clear hT hU hU2
      rcases hR with ⟨hs', neg', a2, c2, M2, rfl, hTI⟩ | ⟨hs', rfl⟩
      · have HTI : Hid _ := hTI
        have HS : Hid _ := hs'
        clear hTI hs'
        go_wp2_with (refine store_V _ rfl _ _ rfl _ _ _ _ _ _ _ _ _ _ _ _ _ _ _ rfl rfl hT2 rfl ?_; intro w3 hT3 hU3)
        exact ret_Tb Tryd.results29 rfl _ _ _ rfl hT3 rfl rfl ⟨Or.inr ⟨HIS.out, Or.inl ⟨HS.out, neg', a2, c2, M2, rfl, ⟨HTI.out.norm, HTI.out.mem.keep hT2 hU3, HTI.out.len, HTI.out.sgn⟩⟩⟩, hU02.then hU3 (by simp)⟩
      · have HS : Hid _ := hs'
        clear hs'
        go_wp2_with (refine store_V _ rfl _ _ rfl _ _ _ _ _ _ _ _ _ _ _ _ _ _ _ rfl rfl hT2 rfl ?_; intro w3 hT3 hU3)
        exact ret_Tb Tryd.results29 rfl _ _ _ rfl hT3 rfl rfl ⟨Or.inr ⟨HIS.out, Or.inr ⟨HS.out, rfl⟩⟩, hU02.then hU3 (by simp)⟩

set_option maxHeartbeats 4000000 in
set_option maxRecDepth 100000 in
theorem rParse_neg (d : ByteArray) (H : List Nat) (w : World) (hd : d.size = H.length) (hdk : ∀ k (h : k < d.size), (d[k]'h).toNat = H.getD k 0) (hl : 0 < H.length) (hl2 : H.length ≤ 400) (s : ByteArray) (hss : s.size ≤ 1000) (hs0 : 0 < s.size) (hc : (s[0]'hs0).toNat = 45) (hsd : s.extract 1 s.size = d) (hfirst : H.getD 0 0 ≠ 48) :
    Calls Tryd.prog 29 #[.string s] w fun e w' => POut w' e true H ∧ Upd [] w w' := by
  have hsz0 : 0 < d.size := by omega
  have hx0 := hdk 0 hsz0
  obtain ⟨x0, hx00⟩ : ∃ x, x = H.getD 0 0 := ⟨_, rfl⟩
  rw [← hx00] at hx0 hfirst
  have hf48 : ((x0 : Int) == 48) = false := by simp; omega
  have HDK : Hid (∀ k (h : k < d.size), (d[k]'h).toNat = H.getD k 0) := hdk
  have HDS : Hid (d.size = H.length) := hd
  have hdl : d.size ≤ 400 := by omega
  have hd0 : ((d.size : Int) == 0) = false := by rw [beq_eq_false_iff_ne]; omega
  have hd4 : decide ((d.size : Int) > 400) = false := by simp; omega
  have u0 := (Upd.refl [] w).alloc (.cells #[.int .u8 0, .bool false, .slice none 0 0, .string ⟨#[]⟩, .int .i64 0, .slice none 0 0, .slice none 0 0] 26)
  have t0 := Tb.new w #[.int .u8 0, .bool false, .slice none 0 0, .string ⟨#[]⟩, .int .i64 0, .slice none 0 0, .slice none 0 0] _ rfl
  have HU0 : Hid _ := u0
  have HT0 : Hid _ := t0
  clear hdk hd hx00 u0 t0 hfirst
  go_enter Tryd.func29, Tryd.ntmps29
  go_wp2_with fail
  go_loopw [6, 7] (RPInv w d.size H) (fun _ i _ => d.size - (intOf i).toNat)
  case atStart => exact ⟨0, 0, [], none, Nat.zero_le _, rfl, rfl, by simp only [List.take_zero, List.reverse_nil, dval]; exact NormB.zero, BA.nil _ _, by simp, by simp, by omega, fun i hi => by omega, HU0.out, HT0.out⟩
  case round =>
    obtain ⟨k, cl, L, al, hk1, rfl, rfl, nL, hL, hLl, hcl, hcl2, hdg, hU, hT⟩ := hrel
    have HDG : Hid (∀ i, i < k → 48 ≤ H.getD i 0 ∧ H.getD i 0 ≤ 57) := hdg
    have HNL : Hid (NormB L (dval (H.take k).reverse)) := nL
    clear hx0 hdg nL
    by_cases hk : k < d.size
    · have hxk := HDK.out k hk
      have hkH : k < H.length := by rw [← HDS.out]; exact hk
      have HPV : Hid (dval (H.take (k + 1)).reverse = 10 * dval (H.take k).reverse + (H.getD k 0 - 48)) := pv_snoc H k hkH
      have HND : Hid (H.getD k 0 < 48 ∨ 57 < H.getD k 0 → ¬ IsDig H) := fun h => not_dig k hkH h
      obtain ⟨x, hx⟩ : ∃ x, x = H.getD k 0 := ⟨_, rfl⟩
      have HX : Hid (x = H.getD k 0) := hx
      rw [← hx] at hxk HPV HND
      clear hx
      by_cases hx1 : x < 48
      · have hlt : decide ((x : Int) < 48) = true := by simp; omega
        have HB : Hid (¬ IsDig H) := HND.out (Or.inl hx1)
        go_wp2_with (refine store_V _ rfl _ _ rfl _ _ _ _ _ _ _ _ _ _ _ _ _ _ _ rfl rfl hT rfl ?_; intro w3 hT3 hU3)
        exact ret_Tb Tryd.results29 rfl _ _ _ rfl hT3 rfl rfl ⟨POut.bad HB.out, hU.then hU3 (by simp)⟩
      · by_cases hx2 : 57 < x
        · have hlt : decide ((x : Int) < 48) = false := by simp; omega
          have hgt : decide ((x : Int) > 57) = true := by simp; omega
          have HB : Hid (¬ IsDig H) := HND.out (Or.inr hx2)
          go_wp2_with (refine store_V _ rfl _ _ rfl _ _ _ _ _ _ _ _ _ _ _ _ _ _ _ rfl rfl hT rfl ?_; intro w3 hT3 hU3)
          exact ret_Tb Tryd.results29 rfl _ _ _ rfl hT3 rfl rfl ⟨POut.bad HB.out, hU.then hU3 (by simp)⟩
        · have hlt : decide ((x : Int) < 48) = false := by simp; omega
          have hgt : decide ((x : Int) > 57) = false := by simp; omega
          obtain ⟨y, hy⟩ : ∃ y, y = x - 48 := ⟨_, rfl⟩
          have hxy : (x : Int) - 48 = (y : Int) := by omega
          have hy9 : y ≤ 9 := by omega
          have HYX : Hid (y = x - 48) := hy
          clear hy
          have hszr := hU.size
          have HTR : Hid (Tb wr w.heap.size #[.int .u8 0, .bool false, .slice none 0 0, .string ⟨#[]⟩, .int .i64 0, .slice none 0 0, .slice none 0 0]) := hT
          have HUR : Hid (Upd [] w wr) := hU
          have HBL : Hid (BA wr al L) := hL
          clear hT hU hL
          go_wp2_with (first
            | (at_builtin; refine append_bool _ rfl _ _ rfl wr.heap.size [false] L al 1 cl (by simp) (by omega) rfl rfl (BB.one wr false) rfl ((Hid.out HBL).mono ((Upd.refl [] wr).alloc _)) ?_; intro g2 cap2 w3 hg2 hBA2 hU3 hc21 hc22; have hL3 : Hid (BA w3 al L) := BA.past' (Hid.out HBL) hU3; have B23 : Hid (BA w3 (some ⟨g2, 0, none⟩) ([false] ++ L)) := hBA2; have UR3 : Hid (Upd [] w w3) := Upd.then (Upd.alloc (Hid.out HUR) (.cells #[.bool false] 4)) hU3 (by intro z hz; simp at hz; omega); have TR3 : Hid (Tb w3 w.heap.size #[.int .u8 0, .bool false, .slice none 0 0, .string ⟨#[]⟩, .int .i64 0, .slice none 0 0, .slice none 0 0]) := Tb.mono (Tb.old (Hid.out HTR) _) hU3 (by have := (Hid.out HTR).lt; simp; omega); have sz3 : w.heap.size ≤ w3.heap.size := (Hid.out UR3).size; clear hBA2 hU3)
            | (at_builtin; refine append_bool _ rfl _ _ rfl w3.heap.size [false, false, false] L al 3 cl (by simp) (by omega) rfl rfl (BB.three w3 false false false) rfl ((Hid.out hL3).mono ((Upd.refl [] w3).alloc _)) ?_; intro g8 cap8 w4 hg8 hBA8 hU4 hc81 hc82; have B24 : Hid (BA w4 (some ⟨g2, 0, none⟩) ([false] ++ L)) := BA.past' (Hid.out B23) hU4; have B84 : Hid (BA w4 (some ⟨g8, 0, none⟩) ([false, false, false] ++ L)) := hBA8; have UR4 : Hid (Upd [] w w4) := Upd.then (Upd.alloc (Hid.out UR3) (.cells #[.bool false, .bool false, .bool false] 4)) hU4 (by intro z hz; simp at hz; omega); have TR4 : Hid (Tb w4 w.heap.size #[.int .u8 0, .bool false, .slice none 0 0, .string ⟨#[]⟩, .int .i64 0, .slice none 0 0, .slice none 0 0]) := Tb.mono (Tb.old (Hid.out TR3) _) hU4 (by have := (Hid.out TR3).lt; simp; omega); clear hBA8 hU4))
          refine (rOf_any (y : Int) w4 (by omega)).mono ?_
          rintro e w5 ⟨hU5, gn, an, cn, Mn, rfl, T5⟩
          have I5 : Hid (TI w5 gn an Mn (y : Int)) := T5
          have B25 : Hid (BA w5 (some ⟨g2, 0, none⟩) ([false] ++ L)) := BA.mono (Hid.out B24) hU5
          have B85 : Hid (BA w5 (some ⟨g8, 0, none⟩) ([false, false, false] ++ L)) := BA.mono (Hid.out B84) hU5
          have UR5 : Hid (Upd [] w w5) := Upd.trans (Hid.out UR4) hU5
          have TR5 : Hid (Tb w5 w.heap.size #[.int .u8 0, .bool false, .slice none 0 0, .string ⟨#[]⟩, .int .i64 0, .slice none 0 0, .slice none 0 0]) := Tb.mono (Hid.out TR4) hU5 (by simp)
          clear T5 hU5 B24 B84 UR4 TR4 hL3 B23 UR3 TR3 HBL HUR HTR
          go_wp2_with fail
          have u6 := (Upd.refl [] w5).alloc (.cells #[.int .u8 1, .bool gn, .slice an Mn.length cn, .string ⟨#[]⟩, .int .i64 0, .slice none 0 0, .slice none 0 0] 26)
          have tn6 := Tb.new w5 #[.int .u8 1, .bool gn, .slice an Mn.length cn, .string ⟨#[]⟩, .int .i64 0, .slice none 0 0, .slice none 0 0] _ rfl
          obtain ⟨W6, hW6⟩ : ∃ X, X = w5.alloc (.cells #[.int .u8 1, .bool gn, .slice an Mn.length cn, .string ⟨#[]⟩, .int .i64 0, .slice none 0 0, .slice none 0 0] 26) := ⟨_, rfl⟩
          rw [← hW6] at u6 tn6 ⊢
          clear hW6
          have I6 : Hid (TI W6 gn an Mn (y : Int)) := TI.mono (Hid.out I5) u6
          have B2 : Hid (BA W6 (some ⟨g2, 0, none⟩) ([false] ++ L)) := BA.mono (Hid.out B25) u6
          have B8 : Hid (BA W6 (some ⟨g8, 0, none⟩) ([false, false, false] ++ L)) := BA.mono (Hid.out B85) u6
          have UR6 : Hid (Upd [] w W6) := Upd.trans (Hid.out UR5) u6
          have TR6 : Hid (Tb W6 w.heap.size #[.int .u8 0, .bool false, .slice none 0 0, .string ⟨#[]⟩, .int .i64 0, .slice none 0 0, .slice none 0 0]) := Tb.mono (Hid.out TR5) u6 (by simp)
          obtain ⟨X2, hX2⟩ : ∃ X, X = [false] ++ L := ⟨_, rfl⟩
          obtain ⟨X8, hX8⟩ : ∃ X, X = [false, false, false] ++ L := ⟨_, rfl⟩
          have l2 : L.length + 1 = X2.length := by rw [hX2]; simp
          have l8 : L.length + 1 + 1 + 1 = X8.length := by rw [hX8]; simp
          have HTEN : Hid (nb X2 + nb X8 = 10 * nb L) := by show nb X2 + nb X8 = _; rw [hX2, hX8]; exact ten_nb L
          rw [← hX2] at B2
          rw [← hX8] at B8
          rw [l8, l2]
          have x2l : X2.length ≤ 2600 := by omega
          have x8l : X8.length ≤ 2600 := by omega
          have HL2 : Hid (X2.length = L.length + 1) := l2.symm
          have HL8 : Hid (X8.length = L.length + 3) := by show X8.length = L.length + 3; omega
          clear hX2 hX8 l2 l8
          have HX9 : Hid ((y : Int).natAbs < 2 ^ 4) := by show (y : Int).natAbs < 2 ^ 4; simp; omega
          clear u6 I5 B25 B85 UR5 TR5
          have r0 : W6.cell? ⟨w5.heap.size, 0, none⟩ = some (.int .u8 1) := tn6.cell 0
          have r1 : W6.cell? ⟨w5.heap.size, 1, none⟩ = some (.bool gn) := tn6.cell 1
          have r2 : W6.cell? ⟨w5.heap.size, 2, none⟩ = some (.slice an Mn.length cn) := tn6.cell 2
          have r3 : W6.cell? ⟨w5.heap.size, 3, none⟩ = some (.string ⟨#[]⟩) := tn6.cell 3
          have r4 : W6.cell? ⟨w5.heap.size, 4, none⟩ = some (.int .i64 0) := tn6.cell 4
          have r5 : W6.cell? ⟨w5.heap.size, 5, none⟩ = some (.slice none 0 0) := tn6.cell 5
          have r6 : W6.cell? ⟨w5.heap.size, 6, none⟩ = some (.slice none 0 0) := tn6.cell 6
          have htn : Hid (Tb W6 (w5.heap.size) #[.int .u8 1, .bool gn, .slice an Mn.length cn, .string ⟨#[]⟩, .int .i64 0, .slice none 0 0, .slice none 0 0]) := tn6
          clear tn6
          go_region_held3 (fun w' => w'.cell? ⟨w5.heap.size, 0, none⟩ = some (.int .u8 1) ∧ w'.cell? ⟨w5.heap.size, 1, none⟩ = some (.bool gn) ∧ w'.cell? ⟨w5.heap.size, 2, none⟩ = some (.slice an Mn.length cn) ∧ w'.cell? ⟨w5.heap.size, 3, none⟩ = some (.string ⟨#[]⟩) ∧ w'.cell? ⟨w5.heap.size, 4, none⟩ = some (.int .i64 0) ∧ w'.cell? ⟨w5.heap.size, 5, none⟩ = some (.slice none 0 0) ∧ w'.cell? ⟨w5.heap.size, 6, none⟩ = some (.slice none 0 0))
            (go_keep)
            (first
              | (go_at_call 40; refine (rsum_any a10 ab c10 cb _ _ M10 Mb _ ?_ ?_ ?_ ?_ N10.out.eq Nb.out.eq).mono ?_; (omega); (exact Nat.le_trans ((Nb.out.len_le 4).2 HX9.out) (by omega)); (exact BA.mono (Hid.out B10) (Upd.trans (Hid.out uv2) (by repeat (first | exact Upd.refl _ _ | refine Upd.drew ?_)))); (exact BA.mono (Hid.out Bb) (by repeat (first | exact Upd.refl _ _ | refine Upd.drew ?_))); rintro e v3 ⟨hv3, at_, ct, Mt, rfl, zn3, zb3, zf3, zd3, ze3, zl3⟩; have uv3 : Hid (Upd [] v2 v3) := Upd.trans (by repeat (first | exact Upd.refl _ _ | refine Upd.drew ?_)) hv3; have pv3 : Tb v3 (w5.heap.size) #[.int .u8 1, .bool gn, .slice an Mn.length cn, .string ⟨#[]⟩, .int .i64 0, .slice none 0 0, .slice none 0 0] := Tb.mono (Hid.out htnv2) (Hid.out uv3) (by simp); have r0v3 : v3.cell? ⟨w5.heap.size, 0, none⟩ = some (.int .u8 1) := pv3.cell 0; have r1v3 : v3.cell? ⟨w5.heap.size, 1, none⟩ = some (.bool gn) := pv3.cell 1; have r2v3 : v3.cell? ⟨w5.heap.size, 2, none⟩ = some (.slice an Mn.length cn) := pv3.cell 2; have r3v3 : v3.cell? ⟨w5.heap.size, 3, none⟩ = some (.string ⟨#[]⟩) := pv3.cell 3; have r4v3 : v3.cell? ⟨w5.heap.size, 4, none⟩ = some (.int .i64 0) := pv3.cell 4; have r5v3 : v3.cell? ⟨w5.heap.size, 5, none⟩ = some (.slice none 0 0) := pv3.cell 5; have r6v3 : v3.cell? ⟨w5.heap.size, 6, none⟩ = some (.slice none 0 0) := pv3.cell 6; have htnv3 : Hid (Tb v3 (w5.heap.size) #[.int .u8 1, .bool gn, .slice an Mn.length cn, .string ⟨#[]⟩, .int .i64 0, .slice none 0 0, .slice none 0 0]) := pv3; clear pv3; have Nt : Hid (NormB Mt _) := zn3; have Bt : Hid (BA v3 at_ Mt) := zb3; clear zn3 zb3 zf3)
              | (go_at_call 38; refine (bits_any an none none cn 0 0 gn Mn (y : Int) _ ?_).mono ?_; (exact TI.mono (Hid.out I6) (Upd.trans (Hid.out uv1) (by repeat (first | exact Upd.refl _ _ | refine Upd.drew ?_)))); rintro e v2 ⟨hv2, ab, cb, Mb, rfl, zn2, zb2, zf2, zd2, ze2⟩; have uv2 : Hid (Upd [] v1 v2) := Upd.trans (by repeat (first | exact Upd.refl _ _ | refine Upd.drew ?_)) hv2; have pv2 : Tb v2 (w5.heap.size) #[.int .u8 1, .bool gn, .slice an Mn.length cn, .string ⟨#[]⟩, .int .i64 0, .slice none 0 0, .slice none 0 0] := Tb.mono (Hid.out htnv1) (Hid.out uv2) (by simp); have r0v2 : v2.cell? ⟨w5.heap.size, 0, none⟩ = some (.int .u8 1) := pv2.cell 0; have r1v2 : v2.cell? ⟨w5.heap.size, 1, none⟩ = some (.bool gn) := pv2.cell 1; have r2v2 : v2.cell? ⟨w5.heap.size, 2, none⟩ = some (.slice an Mn.length cn) := pv2.cell 2; have r3v2 : v2.cell? ⟨w5.heap.size, 3, none⟩ = some (.string ⟨#[]⟩) := pv2.cell 3; have r4v2 : v2.cell? ⟨w5.heap.size, 4, none⟩ = some (.int .i64 0) := pv2.cell 4; have r5v2 : v2.cell? ⟨w5.heap.size, 5, none⟩ = some (.slice none 0 0) := pv2.cell 5; have r6v2 : v2.cell? ⟨w5.heap.size, 6, none⟩ = some (.slice none 0 0) := pv2.cell 6; have htnv2 : Hid (Tb v2 (w5.heap.size) #[.int .u8 1, .bool gn, .slice an Mn.length cn, .string ⟨#[]⟩, .int .i64 0, .slice none 0 0, .slice none 0 0]) := pv2; clear pv2; have Nb : Hid (NormB Mb _) := zn2; have Bb : Hid (BA v2 ab Mb) := zb2; clear zn2 zb2 zf2)
              | (go_at_call 40; refine (rsum_any (some ⟨g2, 0, none⟩) (some ⟨g8, 0, none⟩) cap2 cap8 (nb X2) (nb X8) X2 X8 _ ?_ ?_ ?_ ?_ rfl rfl).mono ?_; (omega); (omega); (exact BA.mono (Hid.out B2) (by repeat (first | exact Upd.refl _ _ | refine Upd.drew ?_))); (exact BA.mono (Hid.out B8) (by repeat (first | exact Upd.refl _ _ | refine Upd.drew ?_))); rintro e v1 ⟨hv1, a10, c10, M10, rfl, zn1, zb1, zf1, zd1, ze1, zl1⟩; have uv1 : Hid (Upd [] W6 v1) := Upd.trans (by repeat (first | exact Upd.refl _ _ | refine Upd.drew ?_)) hv1; have pv1 : Tb v1 (w5.heap.size) #[.int .u8 1, .bool gn, .slice an Mn.length cn, .string ⟨#[]⟩, .int .i64 0, .slice none 0 0, .slice none 0 0] := Tb.mono (Hid.out htn) (Hid.out uv1) (by simp); have r0v1 : v1.cell? ⟨w5.heap.size, 0, none⟩ = some (.int .u8 1) := pv1.cell 0; have r1v1 : v1.cell? ⟨w5.heap.size, 1, none⟩ = some (.bool gn) := pv1.cell 1; have r2v1 : v1.cell? ⟨w5.heap.size, 2, none⟩ = some (.slice an Mn.length cn) := pv1.cell 2; have r3v1 : v1.cell? ⟨w5.heap.size, 3, none⟩ = some (.string ⟨#[]⟩) := pv1.cell 3; have r4v1 : v1.cell? ⟨w5.heap.size, 4, none⟩ = some (.int .i64 0) := pv1.cell 4; have r5v1 : v1.cell? ⟨w5.heap.size, 5, none⟩ = some (.slice none 0 0) := pv1.cell 5; have r6v1 : v1.cell? ⟨w5.heap.size, 6, none⟩ = some (.slice none 0 0) := pv1.cell 6; have htnv1 : Hid (Tb v1 (w5.heap.size) #[.int .u8 1, .bool gn, .slice an Mn.length cn, .string ⟨#[]⟩, .int .i64 0, .slice none 0 0, .slice none 0 0]) := pv1; clear pv1; have N10 : Hid (NormB M10 _) := zn1; have B10 : Hid (BA v1 a10 M10) := zb1; clear zn1 zb1 zf1))
          all_goals
            go_wp2
            go_roundw
            case rel =>
              refine ⟨k + 1, ct, Mt, at_, by omega, by go_num, rfl, ?_, Bt.out, by have h9 := (Nb.out.len_le 4).2 HX9.out; have h10 := HL2.out; have h11 := HL8.out; omega, zd3, ze3, fun i hi => ?_, Upd.trans (Hid.out UR6) (Upd.trans (Hid.out uv1) (Upd.trans (Hid.out uv2) (Hid.out uv3))), Tb.mono (Hid.out TR6) (Upd.trans (Hid.out uv1) (Upd.trans (Hid.out uv2) (Hid.out uv3))) (by simp)⟩
              · have e := Nt.out
                rw [HTEN.out, HNL.out.eq] at e
                rw [HPV.out, ← HYX.out]
                simpa using e
              · by_cases hik : i = k
                · rw [hik, ← HX.out]; omega
                · exact HDG.out i (by omega)
            case measure => simp [intOf]; omega
    · have hkd : k = d.size := by omega
      have HIS : Hid (IsDig H) := fun c hc => by
        obtain ⟨i, hi, e⟩ := List.mem_iff_getElem.1 hc
        have := HDG.out i (by rw [hkd, HDS.out]; exact hi)
        rw [List.getD_eq_getElem?_getD, List.getElem?_eq_getElem hi] at this
        rw [← e]; exact this
      have HV : Hid (nb L = dval H.reverse) := by show nb L = _; rw [HNL.out.eq, List.take_of_length_le (by rw [hkd, HDS.out]; exact Nat.le_refl _)]
      go_wp2_with fail
      refine (made_any al cl _ true L wr (by omega) hcl hcl2 hL HV.out).mono ?_
      rintro e w2 ⟨hR, hU2⟩
      have hT2 := hT.mono hU2 (by simp)
      have hU02 := hU.trans hU2
      clear hT hU hU2
      rcases hR with ⟨hs', neg', a2, c2, M2, rfl, hTI⟩ | ⟨hs', rfl⟩
      · have HTI : Hid _ := hTI
        have HS : Hid _ := hs'
        clear hTI hs'
        go_wp2_with (refine store_V _ rfl _ _ rfl _ _ _ _ _ _ _ _ _ _ _ _ _ _ _ rfl rfl hT2 rfl ?_; intro w3 hT3 hU3)
        exact ret_Tb Tryd.results29 rfl _ _ _ rfl hT3 rfl rfl ⟨Or.inr ⟨HIS.out, Or.inl ⟨HS.out, neg', a2, c2, M2, rfl, ⟨HTI.out.norm, HTI.out.mem.keep hT2 hU3, HTI.out.len, HTI.out.sgn⟩⟩⟩, hU02.then hU3 (by simp)⟩
      · have HS : Hid _ := hs'
        clear hs'
        go_wp2_with (refine store_V _ rfl _ _ rfl _ _ _ _ _ _ _ _ _ _ _ _ _ _ _ rfl rfl hT2 rfl ?_; intro w3 hT3 hU3)
        exact ret_Tb Tryd.results29 rfl _ _ _ rfl hT3 rfl rfl ⟨Or.inr ⟨HIS.out, Or.inr ⟨HS.out, rfl⟩⟩, hU02.then hU3 (by simp)⟩

end Go.Proofs.YtpeganecbjefoaaDoor
