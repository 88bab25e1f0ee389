/- Text of the reference, by its contract. -/
import Derived.Test.YtpeganecbjefoaaDoorBitF
import Derived.Test.YtpeganecbjefoaaDoorRefR
import Derived.Test.YtpeganecbjefoaaDoorTxtN
import Derived.Test.YtpeganecbjefoaaDoorParT
namespace Go.Proofs.YtpeganecbjefoaaDoor
open Go.RowKit

/-- What is written so far, and what is left. -/
def TxInv (W : World) (n g : Nat) (lv sv : Value) (wr : World) : Prop := ∃ (cl : Nat) (L : List Bool) (al : Option Addr) (T : List Nat), lv = .slice al L.length cl ∧ sv = .string (bs T) ∧ NormB L g ∧ BA wr al L ∧ L.length ≤ 1024 ∧ IsDig T ∧ T.length ≤ 400 ∧ dval T.reverse + 10 ^ T.length * g = n ∧ (g = 0 → T ≠ [] → T.getD 0 0 ≠ 48) ∧ Upd [] W wr

theorem BB.four (w : World) (x y z t : Bool) : BB (w.alloc (.cells #[.bool x, .bool y, .bool z, .bool t] 4)) w.heap.size [x, y, z, t] := heap_alloc_new w _

theorem bs_cons (x : Nat) (T : List Nat) : bs (x :: T) = bs [x] ++ bs T := by
  apply bytes_ext
  rw [bs_data, ByteArray.data_append, Array.toList_append, bs_data, bs_data]
  simp
theorem text_step (T : List Nat) (g d : Nat) (hd : d = g % 10) : dval ((48 + d) :: T).reverse + 10 ^ ((48 + d) :: T).length * (g / 10) = dval T.reverse + 10 ^ T.length * g := by
  rw [List.reverse_cons, dval_append, dval_one, List.length_reverse, List.length_cons, Nat.pow_succ, Nat.mul_assoc, Nat.add_assoc, ← Nat.mul_add, hd, Nat.mod_add_div]

set_option maxHeartbeats 4000000 in
set_option maxRecDepth 100000 in
theorem rText_core (a ai at' : Option Addr) (c ci ct : Nat) (neg : Bool) (A : List Nat) (z : Int) (w : World) (HT : TI w neg a A z) :
    Calls Tryd.prog 31 #[.agg #[.int .u8 1, .bool neg, .slice a A.length c, .string ⟨#[]⟩, .int .i64 0, .slice ai 0 ci, .slice at' 0 ct]] w fun e w' => Upd [] w w' ∧ ∃ T, e = .returned (.string (bs T)) ∧ IsText T z := by
  have IA : Hid (TI w neg a A z) := HT
  clear HT
  go_enter Tryd.func31, Tryd.ntmps31
  go_wp2_with fail
  have u0 := (Upd.refl [] w).alloc (.cells #[.int .u8 1, .bool neg, .slice a A.length c, .string ⟨#[]⟩, .int .i64 0, .slice ai 0 ci, .slice at' 0 ct] 26)
  have t0 := Tb.new w #[.int .u8 1, .bool neg, .slice a A.length c, .string ⟨#[]⟩, .int .i64 0, .slice ai 0 ci, .slice at' 0 ct] _ rfl
  refine (TI.rRight (TI.mono IA.out u0) ai at' c ci ct).mono ?_
  rintro e w1 ⟨rfl, h1⟩
  have u1 := u0.trans h1
  have t1 := t0.mono h1 (by simp)
  clear u0 t0 h1
  go_wp2_with (first | (refine load_G _ _ rfl _ _ rfl t1 rfl rfl ?_))
  refine (bits_any a ai at' c ci ct neg A z w1 (TI.mono IA.out u1)).mono ?_
  rintro e w2 ⟨h2, al, cl, L, rfl, nL, hL, _, hc1, hc2⟩
  have u2 := u1.trans h2
  have t2 := t1.mono h2 (by simp)
  have hz1 : z.natAbs < 2 ^ 1024 := by rw [← pow_eq]; exact IA.out.small
  have hLl := (nL.len_le 1024).2 hz1
  have HNL : Hid (NormB L z.natAbs) := nL
  have U2 : Hid (Upd [] w w2) := u2
  have T2 : Hid (Tb w2 w.heap.size #[.int .u8 1, .bool neg, .slice a A.length c, .string ⟨#[]⟩, .int .i64 0, .slice ai 0 ci, .slice at' 0 ct]) := t2
  have HSG : Hid (neg = decide (z < 0)) := IA.out.sgn
  have HZ32 : Hid (z.natAbs < 4294967296 ^ 32) := IA.out.small
  clear u1 t1 h2 hz1 nL u2 t2 IA
  go_wp2_with fail
  go_loopg [3, 4] z.natAbs (TxInv w2 z.natAbs)
  case atStart => exact ⟨cl, L, al, [], rfl, rfl, HNL.out, hL, hLl, fun c h => by simp at h, by simp, by simp [dval], fun _ h => absurd rfl h, Upd.refl _ _⟩
  case round =>
    rename World => wo
    rename Nat => gq
    obtain ⟨cl', L', al', T, rfl, rfl, nL', hL', hLl', hdT, hTl, hvT, htop, hU⟩ := hrel
    have HV : Hid (dval T.reverse + 10 ^ T.length * gq = z.natAbs) := hvT
    have HNL' : Hid (NormB L' gq) := nL'
    have HTOP : Hid (gq = 0 → T ≠ [] → T.getD 0 0 ≠ 48) := htop
    clear hvT htop
    by_cases hg : gq = 0
    · subst hg
      have hL0 : L' = [] := nL'.nil_iff.2 rfl
      subst hL0
      have hn : dval T.reverse = z.natAbs := by simpa using HV.out
      have HN : Hid (dval T.reverse = z.natAbs) := hn
      have t3 := T2.out.mono hU (by simp)
      have c1 := t3.cell 1
      clear hn nL'
      by_cases hT0 : T = []
      · subst hT0
        have hz0 : z = 0 := by have := HN.out; simp [dval] at this; omega
        have hng : neg = false := by rw [HSG.out, hz0]; rfl
        subst hng
        have hbe : (bs ([] : List Nat)).toList.isEmpty = true := by rw [← decide_eq_emptyBytes]; exact decide_eq_true rfl
        subst hz0
        go_wp2
        go_ret
        exact ⟨U2.out.trans hU, [48], rfl, [48], by simp, Or.inl ⟨rfl, rfl⟩⟩
      · have hbe : (bs T).toList.isEmpty = false := by
          rw [← decide_eq_emptyBytes]
          simp only [decide_eq_false_iff_not]
          intro e
          have := congrArg ByteArray.size e
          rw [bs_size] at this
          exact hT0 (List.eq_nil_of_length_eq_zero this)
        have HTX : Hid (NormD T.reverse z.natAbs) := by
          refine ⟨fun c hc => hdT c (List.mem_reverse.1 hc), HN.out, fun x hx => ?_⟩
          rw [List.getLast?_reverse] at hx
          have := HTOP.out rfl hT0
          cases T with
          | nil => exact absurd rfl hT0
          | cons y t => simp at hx this; omega
        have HP : Hid (0 < z.natAbs) := by
          show 0 < z.natAbs
          have := dval_pos_of_top HTX.out.dig (by simpa using hT0) HTX.out.top
          rw [HTX.out.eq] at this; exact this
        have hbT : (bs T).size ≤ 400 := by rw [bs_size]; exact hTl
        cases neg
        · have hzn : ¬ z < 0 := by have := HSG.out; simpa using this.symm
          have HZN : Hid (¬ z < 0) := hzn
          clear hzn
          go_wp2
          go_ret
          exact ⟨U2.out.trans hU, T, rfl, T, by rw [if_neg (by have := HZN.out; omega)], Or.inr ⟨by have := HP.out; omega, HTX.out⟩⟩
        · have hzn : z < 0 := by have := HSG.out; simpa using this.symm
          have HZN : Hid (z < 0) := hzn
          clear hzn
          go_wp2
          go_ret
          refine ⟨U2.out.trans hU, 45 :: T, ?_, T, by rw [if_pos HZN.out], Or.inr ⟨by have := HP.out; omega, HTX.out⟩⟩
          rw [bs_cons]
          rfl
    · have hpos : 0 < L'.length := by
        cases L' with
        | nil => exact absurd (nL'.nil_iff.1 rfl) hg
        | cons x t => simp
      clear nL'
      go_wp2_with fail
      refine (parts_any al' (some ⟨wo.heap.size, 0, none⟩) cl' 4 gq 10 L' [false, true, false, true] _ (by omega) (by simp) (hL'.mono ((Upd.refl [] wo).alloc _)) (BB.four wo false true false true).ba HNL'.out.eq ⟨rfl, fun x hx => by simp at hx; exact hx⟩ (by omega)).mono ?_
      rintro e w3 ⟨h3, aq, cq, Q, ar, cr, R, rfl, nQ, hQ, hq1, hq2, nR, hR, hr1, hr2, hQl⟩
      have hU3 := (hU.alloc (.cells #[.bool false, .bool true, .bool false, .bool true] 4)).trans h3
      obtain ⟨r, hr⟩ : ∃ r, r = gq % 10 := ⟨_, rfl⟩
      have hr9 : r ≤ 9 := by omega
      rw [← hr] at nR
      have hRl := (nR.len_le 4).2 (by omega)
      have HNQ : Hid (NormB Q (gq / 10)) := nQ
      have HNR : Hid (NormB R r) := nR
      have HR : Hid (r = gq % 10) := hr
      clear nQ nR hr h3 hL'
      go_wp2_with fail
      go_loopw [7, 8] (fun dv i wr => ∃ k : Nat, k ≤ R.length ∧ i = .int .i64 ((k : Int) - 1) ∧ dv = .int .i64 (nb (R.drop k) : Nat) ∧ wr = w3) (fun _ i _ => (intOf i + 1).toNat)
      case atStart => exact ⟨R.length, Nat.le_refl _, by go_num, by rw [List.drop_of_length_le (Nat.le_refl _)]; rfl, by simp⟩
      case round =>
        obtain ⟨k, hk, rfl, hdv, hwr⟩ := hrel
        obtain ⟨dd, hdd⟩ : ∃ dd, dd = nb (R.drop k) := ⟨_, rfl⟩
        rw [← hdd] at hdv
        have hdl : dd ≤ 15 := by
          have h1 := nb_lt (R.drop k)
          have h2 : 2 ^ (R.drop k).length ≤ 2 ^ 4 := Nat.pow_le_pow_right (by decide) (by simp; omega)
          rw [← hdd] at h1
          omega
        have HDD : Hid (dd = nb (R.drop k)) := hdd
        subst hdv
        rw [hwr]
        clear hdd hwr
        by_cases hk0 : k = 0
        · subst hk0
          have hdr : dd = r := by rw [HDD.out, List.drop_zero, HNR.out.eq]
          subst hdr
          have hconv : (convert 71 9 (.slice (some ⟨w3.heap.size, 0, none⟩) 1 1)).run Tryd.prog (w3.alloc (.cells #[.int .u8 (48 + (dd : Int))] 5)) = .ok (.string (bs [48 + dd])) (w3.alloc (.cells #[.int .u8 (48 + (dd : Int))] 5)) := by
            have hb : BRow (w3.alloc (.cells #[.int .u8 (48 + (dd : Int))] 5)) w3.heap.size [48 + dd] [] := by
              unfold BRow
              rw [heap_alloc_new]
              simp
            have := hb.conv (cap := 1) (fun c hc => by simp at hc; omega)
            simpa using this
          have hb1 : (bs [48 + dd]).size = 1 := by rw [bs_size]; rfl
          have hbT : (bs T).size ≤ 400 := by
            rw [bs_size]
            have := digits_few T.reverse gq z.natAbs (by omega) (by rw [List.length_reverse]; exact HV.out) HZ32.out
            rw [List.length_reverse] at this; omega
          go_wp2
          go_roundg (gq / 10)
          case measure => exact Nat.div_lt_self (by omega) (by decide)
          case rel =>
            refine ⟨cq, Q, aq, (48 + dd) :: T, rfl, by rw [← bs_cons], HNQ.out, hQ.mono ((Upd.refl [] w3).alloc _), by omega, ?_, by rw [bs_size] at hbT; have := digits_few T.reverse gq z.natAbs (by omega) (by rw [List.length_reverse]; exact HV.out) HZ32.out; rw [List.length_reverse] at this; simp; omega, ?_, ?_, hU3.alloc _⟩
            · intro c hc
              rcases List.mem_cons.1 hc with h | h
              · omega
              · exact hdT c h
            · rw [← HV.out]; exact text_step T gq dd HR.out
            · intro h0 _
              have := HR.out
              simp
              omega
        · obtain ⟨j, rfl⟩ : ∃ j, k = j + 1 := ⟨k - 1, by omega⟩
          rcases hR with h | ⟨rb, ro, rfl, hltr, hcr⟩
          · rw [h] at hk; simp at hk
          have hcx := hcr j (by omega)
          obtain ⟨x, hx⟩ : ∃ x, x = R.getD j false := ⟨_, rfl⟩
          rw [← hx] at hcx
          have HX : Hid (x = R.getD j false) := hx
          clear hx hcr
          cases x
          · go_wp2
            go_roundw
            case rel =>
              refine ⟨j, by omega, by go_num, ?_, by simp⟩
              rw [nb_drop, ← HX.out, ← HDD.out]
              simp
            case measure => simp [intOf]
          · go_wp2
            go_roundw
            case rel =>
              refine ⟨j, by omega, by go_num, ?_, by simp⟩
              rw [nb_drop, ← HX.out, ← HDD.out]
              simp
              omega
            case measure => simp [intOf]

end Go.Proofs.YtpeganecbjefoaaDoor
