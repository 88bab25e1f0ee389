/- More operations of the laws' regions. -/
import Derived.Test.YtpgjcedonimgnaaDoorJAX
import Derived.Deep.DeepCutAuto
import Derived.BigQuiet

namespace Go.Proofs.YtpgjcedonimgnaaDoor
open Go.RowKit

theorem wp_nf3 {o : Oper} {a : Act} {w : World} {K : Act → World → Prop} {Q : Exit → Act → World → Prop} (x : Operand) (ho : o.op = .fieldAddr 29 x 3) (g : Nat) (hx : a.eval x = .pointer (some ⟨g, 0, none⟩)) (h : K (a.put o.dst (.pointer (some ⟨g, 3, none⟩))) w) : o.wp Tryd.prog a w K Q := by
  refine wp_pure ?_ h
  unfold execOp
  simp only [ho, hx]
  kernel_rfl
theorem wp_add1 {o : Oper} {a : Act} {w : World} {K : Act → World → Prop} {Q : Exit → Act → World → Prop} (x : Operand) (ho : o.op = .binOp .add 3 x (.const (.int .i64 1)) 3) (n : Nat) (hn : n ≤ 2199023255488) (hx : a.eval x = .int .i64 (n : Nat)) (h : K (a.put o.dst (.int .i64 ((n + 1 : Nat) : Int))) w) : o.wp Tryd.prog a w K Q := by
  refine wp_pure ?_ h
  have hw : IntKind.i64.wrap ((n : Int) + 1) = ((n + 1 : Nat) : Int) := by rw [IntKind.wrap_i64]; omega
  have hc : a.eval (.const (.int .i64 1)) = .int .i64 1 := rfl
  unfold execOp
  simp only [ho, hx, hc]
  simp [go_sem, hw]
theorem wp_slo {o : Oper} {a : Act} {w : World} {K : Act → World → Prop} {Q : Exit → Act → World → Prop} (x y : Operand) (ho : o.op = .slice 27 x (some y) none none) (ad : Option Addr) (n c m : Nat) (hm : m ≤ n) (hc : n ≤ c) (hx : a.eval x = .slice ad n c) (hy : a.eval y = .int .i64 (m : Nat)) (h : K (a.put o.dst (.slice (if c = m then ad else ad.map (·.add (m * 5))) (n - m) (c - m))) w) : o.wp Tryd.prog a w K Q := by
  refine wp_pure ?_ h
  unfold execOp
  simp only [ho, hx, Option.map_some, Option.map_none, hy]
  simp only [Sem.run_bind, run_sll ad n c m hm hc, Result.andThen_ok, Sem.run_pure]
/-- A row put together is a row of its module. -/
theorem OwnK.nin {d : Nat} {W w : World} {ad : Option Addr} {m c : Nat} {K : List Nd} (h : OwnK d W w (.slice ad m c) K) (hu : Upd [] W w) (pos : Int) : NIn w (d + 1) [.int .u8 22, .string ⟨#[]⟩, .int .i64 0, .int .i64 pos, .slice ad m c] (.mk 22 ⟨#[]⟩ 0 pos K) := by
  obtain ⟨h1, h2, h3, h4⟩ := h.rowN hu
  subst h2
  exact ⟨ad, c, rfl, h1, h3, h4⟩
theorem sz_app {N : Nat} {A B : List Nd} {pos : Int} (hA : ∀ t ∈ A, nsz t ≤ N) (hB : ∀ t ∈ B, nsz t ≤ N) (hl : A.length + B.length ≤ N) : nsz (.mk 22 ⟨#[]⟩ 0 pos (A ++ B)) ≤ N := by
  rw [nsz]
  refine nszs_le N _ (by simpa using hl) fun i hi => ?_
  rcases List.mem_append.1 (List.getElem_mem hi) with h | h
  · exact hA _ h
  · exact hB _ h
theorem xz_app {N : Nat} {A B : List Nd} {pos : Int} (hA : ∀ t ∈ A, nxz t ≤ N) (hB : ∀ t ∈ B, nxz t ≤ N) : nxz (.mk 22 ⟨#[]⟩ 0 pos (A ++ B)) ≤ N := by
  rw [nxz]
  have : nxzs (A ++ B) ≤ N := nxzs_le N _ fun i hi => by
    rcases List.mem_append.1 (List.getElem_mem hi) with h | h
    · exact hA _ h
    · exact hB _ h
  have hs : (⟨#[]⟩ : ByteArray).size = 0 := rfl
  omega
theorem sz_mem {k num pos : Int} {s : ByteArray} {K : List Nd} {N : Nat} (h : nsz (.mk k s num pos K) ≤ N) : ∀ t ∈ K, nsz t ≤ N := fun t ht => by
  obtain ⟨i, hi, rfl⟩ := List.getElem_of_mem ht
  exact Nat.le_trans (nszs_get K i hi) h
theorem xz_mem {k num pos : Int} {s : ByteArray} {K : List Nd} {N : Nat} (h : nxz (.mk k s num pos K) ≤ N) : ∀ t ∈ K, nxz t ≤ N := fun t ht => by
  obtain ⟨i, hi, rfl⟩ := List.getElem_of_mem ht
  rw [nxz] at h
  exact Nat.le_trans (nxzs_get K i hi) (by omega)
theorem cnt_len {k num pos : Int} {s : ByteArray} {K : List Nd} {N : Nat} (h : cntN (.mk k s num pos K) ≤ N) : manR K ≤ N ∧ K.length ≤ N := by
  have h1 := man_cnt (.mk k s num pos K)
  rw [manN] at h1
  have h2 := len_man K
  omega
/-- What is known of a program's function. -/
theorem part_facts {ka na pa : Int} {sa : ByteArray} {KA : List Nd} {k : Nat} {kf nf pf : Int} {sf : ByteArray} {KF : List Nd} (hf : ∃ h : k < KA.length, Nd.mk kf sf nf pf KF = KA[k]) (h : (chkF (.mk ka sa na pa KA)).1 = 0) : (0 ≤ nf ∧ nf ≤ 4611686018427387904) ∧ (calBs sf nf (KA.take k ++ KA.drop (k + 1)) = false → chkF (.mk 22 ⟨#[]⟩ 0 pa (KA.take k ++ KA.drop (k + 1))) = (0, 0)) ∧ (manR KA ≤ 8000 → chkF (.mk 22 ⟨#[]⟩ 0 0 (KA ++ [Nd.mk kf sf nf pf KF])) = (210, pf)) := by
  obtain ⟨hk, hf⟩ := hf
  have hk22 : ka = 22 := (chk_ok h).1
  subst hk22
  have hmem : Nd.mk kf sf nf pf KF ∈ KA := by rw [hf]; exact List.getElem_mem hk
  refine ⟨?_, fun hc => ?_, fun hm => part_twice h hmem hm⟩
  · obtain ⟨⟨h1, h2⟩, _⟩ := right_mod.1 (chk_ok h).2.1
    have h3 := fun_num (h1 _ hmem).2
    have h4 := man_mem hmem
    have h5 : 0 ≤ nf ∧ nf ≤ (manN (.mk kf sf nf pf KF) : Nat) := h3
    omega
  · have hs := row_split hk
    rw [← hf] at hs
    have h' : (chkF (.mk 22 sa na pa (KA.take k ++ Nd.mk kf sf nf pf KF :: KA.drop (k + 1)))).1 = 0 := by rw [← hs]; exact h
    exact part_rest h' hc
/-- How many nodes were told. -/
def CXv (t : Nd) (v : Value) : Prop := ∃ z : Int, v = .int .i64 z ∧ 1 ≤ z ∧ z ≤ 60000000003000 ∧ (z ≤ 3000 → z = (cntN t : Nat))
def SXv (s t : Nd) (v : Value) : Prop := ∃ z : Int, v = .int .i64 z ∧ (z ≤ 2000 → cntN s + cntN t ≤ 2000)
theorem wp_addI {o : Oper} {a : Act} {w : World} {K : Act → World → Prop} {Q : Exit → Act → World → Prop} (x y : Operand) (ho : o.op = .binOp .add 3 x y 3) (n m : Int) (hn : 0 ≤ n ∧ n ≤ 4611686018427387904) (hm : 0 ≤ m ∧ m ≤ 4000000000000000000) (hx : a.eval x = .int .i64 n) (hy : a.eval y = .int .i64 m) (h : K (a.put o.dst (.int .i64 (n + m))) w) : o.wp Tryd.prog a w K Q := by
  refine wp_pure ?_ h
  have hw : IntKind.i64.wrap (n + m) = n + m := by rw [IntKind.wrap_i64]; omega
  unfold execOp
  simp only [ho, hx, hy]
  simp [go_sem, hw]
theorem wp_gtrI {o : Oper} {a : Act} {w : World} {K : Act → World → Prop} {Q : Exit → Act → World → Prop} (x : Operand) (m : Int) (ho : o.op = .binOp .gtr 3 x (.const (.int .i64 m)) 3) (n : Int) (hx : a.eval x = .int .i64 n) (h : K (a.put o.dst (.bool (decide (m < n)))) w) : o.wp Tryd.prog a w K Q := by
  refine wp_pure ?_ h
  have hc : a.eval (.const (.int .i64 m)) = .int .i64 m := rfl
  unfold execOp
  simp only [ho, hx, hc]
  simp [go_sem]
theorem part_both3 {ka na pa kb nb pb : Int} {sa sb : ByteArray} {A B : List Nd} (h : (chkF (.mk ka sa na pa A)).1 = 0) (h' : (chkF (.mk kb sb nb pb B)).1 = 0) (hc : manR A + manR B ≤ 16000) (hd : ∀ x ∈ A, ∀ y ∈ B, ¬ (x.txt = y.txt ∧ x.num = y.num)) : chkF (.mk 22 ⟨#[]⟩ 0 0 (A ++ B)) = (0, 0) := by
  have e1 : ka = 22 := (chk_ok h).1
  have e2 : kb = 22 := (chk_ok h').1
  subst e1
  subst e2
  exact part_both h h' hc hd

end Go.Proofs.YtpgjcedonimgnaaDoor

/- LintParts, walked. -/
namespace Go.Proofs.YtpgjcedonimgnaaDoor
open Go.RowKit

set_option maxHeartbeats 8000000 in
set_option maxRecDepth 100000 in
theorem Parts_walk (A : Nat → Option Addr) (C : Nat → Nat) (d : Nat) (w : World) (ka na pa kb nb pb x : Int) (sa sb : ByteArray) (KA KB : List Nd) (aA aB : Option Addr) (cA cB : Nat)
    (hA : NIn w (d + 1) [.int .u8 ka, .string sa, .int .i64 na, .int .i64 pa, .slice aA KA.length cA] (.mk ka sa na pa KA)) (hB : NIn w (d + 1) [.int .u8 kb, .string sb, .int .i64 nb, .int .i64 pb, .slice aB KB.length cB] (.mk kb sb nb pb KB))
    (zA : nsz (.mk ka sa na pa KA) ≤ 2199023255488) (xA : nxz (.mk ka sa na pa KA) ≤ 140737488355328) (zB : nsz (.mk kb sb nb pb KB) ≤ 2199023255488) (xB : nxz (.mk kb sb nb pb KB) ≤ 140737488355328) (hF : Frm A C w) (hO : Ops w) (hBl : Blt w) :
    Calls Tryd.prog 6 #[.agg #[.int .u8 ka, .string sa, .int .i64 na, .int .i64 pa, .slice aA KA.length cA], .agg #[.int .u8 kb, .string sb, .int .i64 nb, .int .i64 pb, .slice aB KB.length cB], .int .i64 x] w fun e w' => e = .returned (.bool true) ∧ Upd [] w w' := by
  have HF : Hid (Frm A C w ∧ Ops w ∧ Blt w) := ⟨hF, hO, hBl⟩
  have HA : Hid (NIn w (d + 1) [.int .u8 ka, .string sa, .int .i64 na, .int .i64 pa, .slice aA KA.length cA] (.mk ka sa na pa KA)) := hA
  have HB : Hid (NIn w (d + 1) [.int .u8 kb, .string sb, .int .i64 nb, .int .i64 pb, .slice aB KB.length cB] (.mk kb sb nb pb KB)) := hB
  have HZ : Hid ((nsz (.mk ka sa na pa KA) ≤ 2199023255488 ∧ nxz (.mk ka sa na pa KA) ≤ 140737488355328) ∧ nsz (.mk kb sb nb pb KB) ≤ 2199023255488 ∧ nxz (.mk kb sb nb pb KB) ≤ 140737488355328) := ⟨⟨zA, xA⟩, zB, xB⟩
  clear hA hB zA xA zB xB hF hO hBl
  obtain ⟨fa, hfa⟩ : ∃ fa, fa = chkF (.mk ka sa na pa KA) := ⟨_, rfl⟩
  obtain ⟨fb, hfb⟩ : ∃ fb, fb = chkF (.mk kb sb nb pb KB) := ⟨_, rfl⟩
  have HFA : Hid (fa = chkF (.mk ka sa na pa KA)) := hfa
  have HFB : Hid (fb = chkF (.mk kb sb nb pb KB)) := hfb
  have HCK : Hid (∀ W cs m, Upd [] w W → NIn W (d + 1) cs m → nsz m ≤ 2199023255488 → nxz m ≤ 140737488355328 → Calls Tryd.prog 11 #[.agg cs.toArray] W fun e w' => e = .returned (.agg #[.int .i64 (chkF m).1, .int .i64 (chkF m).2]) ∧ Upd [] W w') := fun W cs m hu hin h1 h2 => Check_any A C (d + 1) W cs m hin h1 h2 (HF.out.1.mono hu) (HF.out.2.1.mono hu) (HF.out.2.2.mono hu)
  have HCA : Hid (∀ W, Upd [] w W → Calls Tryd.prog 11 #[.agg #[.int .u8 ka, .string sa, .int .i64 na, .int .i64 pa, .slice aA KA.length cA]] W fun e w' => e = .returned (.agg #[.int .i64 fa.1, .int .i64 fa.2]) ∧ Upd [] W w') := fun W hu => by rw [hfa]; exact HCK.out W _ _ hu (NIn.mono hu _ _ _ HA.out) HZ.out.1.1 HZ.out.1.2
  have HCB : Hid (∀ W, Upd [] w W → Calls Tryd.prog 11 #[.agg #[.int .u8 kb, .string sb, .int .i64 nb, .int .i64 pb, .slice aB KB.length cB]] W fun e w' => e = .returned (.agg #[.int .i64 fb.1, .int .i64 fb.2]) ∧ Upd [] W w') := fun W hu => by rw [hfb]; exact HCK.out W _ _ hu (NIn.mono hu _ _ _ HB.out) HZ.out.2.1 HZ.out.2.2
  clear hfa hfb
  obtain ⟨fs, hdesc⟩ := term_desc
  have hfld : ∀ (u v : Int) (w : World), (Instr.field 33 (.agg #[.int .i64 u, .int .i64 v]) 0).run Tryd.prog w = .ok (.int .i64 u) w := fun u v w => by kernel_rfl
  obtain ⟨w1, hw1⟩ : ∃ w1, w1 = (w.alloc (.cells #[.int .u8 ka, .string sa, .int .i64 na, .int .i64 pa, .slice aA KA.length cA] 29)).alloc (.cells #[.int .u8 kb, .string sb, .int .i64 nb, .int .i64 pb, .slice aB KB.length cB] 29) := ⟨_, rfl⟩
  have tA1 : Tb w1 w.heap.size #[.int .u8 ka, .string sa, .int .i64 na, .int .i64 pa, .slice aA KA.length cA] := by rw [hw1]; exact (Tb.new _ _ _ rfl).old _
  have tB1 : Tb w1 (w.heap.size + 1) #[.int .u8 kb, .string sb, .int .i64 nb, .int .i64 pb, .slice aB KB.length cB] := by rw [hw1]; exact Tb.new _ _ _ (by simp)
  have U1 : Hid (Upd [] w w1) := by rw [hw1]; exact ((Upd.refl [] w).alloc _).alloc _
  go_enter Tryd.func6, Tryd.ntmps6
  go_wp2_with fail
  rw [← hw1]
  clear hw1
  refine Calls.mono (awake_any A C w1 (HF.out.1.mono U1.out) (HF.out.2.1.mono U1.out) (HF.out.2.2.mono U1.out)) ?_
  rintro e w2 ⟨rfl, u2⟩
  have tA2 := tA1.mono u2 (by simp)
  have tB2 := tB1.mono u2 (by simp)
  have U2 : Hid (Upd [] w w2) := U1.out.trans u2
  clear tA1 tB1 U1 u2
  go_wp2_with (first | (refine load_T _ rfl _ rfl _ _ rfl tA2 rfl ?_) | fail)
  refine Calls.mono (small_in (d + 1) w2 _ _ (NIn.mono U2.out _ _ _ HA.out) HZ.out.1.1 HZ.out.1.2) ?_
  rintro e w3 ⟨⟨b1, rfl, hb1⟩, u3⟩
  have tA3 := tA2.mono u3 (by simp)
  have tB3 := tB2.mono u3 (by simp)
  have U3 : Hid (Upd [] w w3) := U2.out.trans u3
  have HS1 : Hid (b1 = true → cntN (.mk ka sa na pa KA) ≤ 3000) := hb1
  clear tA2 tB2 U2 u3 hb1
  cases b1 with
  | false =>
    go_wp2_with fail
    go_ret
    exact ⟨rfl, U3.out⟩
  | true =>
    have HC1 : Hid (cntN (.mk ka sa na pa KA) ≤ 3000) := HS1.out rfl
    clear HS1
    go_wp2_with (first | (refine load_G _ _ rfl _ _ rfl tB3 rfl rfl ?_) | fail)
    refine Calls.mono (small_in (d + 1) w3 _ _ (NIn.mono U3.out _ _ _ HB.out) HZ.out.2.1 HZ.out.2.2) ?_
    rintro e w4 ⟨⟨b2, rfl, hb2⟩, u4⟩
    have tA4 := tA3.mono u4 (by simp)
    have tB4 := tB3.mono u4 (by simp)
    have U4 : Hid (Upd [] w w4) := U3.out.trans u4
    have HS2 : Hid (b2 = true → cntN (.mk kb sb nb pb KB) ≤ 3000) := hb2
    clear tA3 tB3 U3 u4 hb2
    cases b2 with
    | false =>
      go_wp2_with fail
      go_ret
      exact ⟨rfl, U4.out⟩
    | true =>
      have HC2 : Hid (cntN (.mk kb sb nb pb KB) ≤ 3000) := HS2.out rfl
      clear HS2
      go_wp2_with (first | (refine load_G _ _ rfl _ _ rfl tA4 rfl rfl ?_) | fail)
      refine Calls.mono (HCA.out w4 U4.out) ?_
      rintro e w5 ⟨rfl, u5⟩
      have tA5 := tA4.mono u5 (by simp)
      have tB5 := tB4.mono u5 (by simp)
      have U5 : Hid (Upd [] w w5) := U4.out.trans u5
      clear tA4 tB4 U4 u5
      have qA5 : w5.cell? ⟨w.heap.size, 4, none⟩ = some (.slice aA KA.length cA) := tA5.cell 4
      by_cases hfa : fa.1 = 0
      · have HFA0 : Hid (fa.1 = 0) := hfa
        have e1 : (fa.1 == 0) = true := by simp [hfa]
        have e2 : (fa.1 != 0) = false := by simp [hfa]
        clear hfa
        by_cases hl : KA.length = 0
        · have e3 : ((KA.length : Int) == 0) = true := by simp [hl]
          clear hl
          go_wp2_with fail
          go_ret
          exact ⟨rfl, U5.out⟩
        · have e3 : ((KA.length : Int) == 0) = false := by simpa using hl
          have HL0 : Hid (0 < KA.length) := by show 0 < KA.length; omega
          clear hl
          go_wp2_with fail
          have hR5 : RowN (NIn w5 d) w5 aA KA := by
            obtain ⟨a', c', e, hR, _⟩ := HA.out
            simp only [List.cons.injEq, Value.slice.injEq, and_true, true_and] at e
            rw [e.1]
            exact hR.imp U5.out (fun cs t h => NIn.mono U5.out _ _ _ h)
          have hKs : KA.length ≤ 2199023255488 := Nat.le_trans (nszs_len KA) HZ.out.1.1
          refine Calls.mono (Pick_in x KA.length HL0.out hKs w5) ?_
          rintro e w6 ⟨⟨k, hk, rfl⟩, hw5⟩
          subst hw5
          obtain ⟨bA, oA, haA, cs, hcl, hcc, hcin⟩ := hR5.atK k hk
          obtain ⟨f, hf⟩ : ∃ f, f = KA[k] := ⟨_, rfl⟩
          rw [← hf] at hcin
          obtain ⟨kf, sf, nf, pf, KF⟩ := f
          obtain ⟨af, cf, hcs⟩ := hcin.cells
          subst hcs
          subst haA
          have HFK : Hid (∃ h : k < KA.length, Nd.mk kf sf nf pf KF = KA[k]) := ⟨hk, hf⟩
          have HFI : Hid (NIn w6 d [.int .u8 kf, .string sf, .int .i64 nf, .int .i64 pf, .slice af KF.length cf] (.mk kf sf nf pf KF)) := hcin
          clear hf hcin hcl
          have hx0 : w6.cell? ⟨bA, oA + k * 5, none⟩ = some (.int .u8 kf) := by have := hcc 0 (by omega); simpa using this
          have hx1 : w6.cell? ⟨bA, oA + k * 5 + 1, none⟩ = some (.string sf) := by have := hcc 1 (by omega); simpa [Nat.add_assoc] using this
          have hx2 : w6.cell? ⟨bA, oA + k * 5 + 2, none⟩ = some (.int .i64 nf) := by have := hcc 2 (by omega); simpa [Nat.add_assoc] using this
          have hx3 : w6.cell? ⟨bA, oA + k * 5 + 3, none⟩ = some (.int .i64 pf) := by have := hcc 3 (by omega); simpa [Nat.add_assoc] using this
          have hx4 : w6.cell? ⟨bA, oA + k * 5 + 4, none⟩ = some (.slice af KF.length cf) := by have := hcc 4 (by omega); simpa [Nat.add_assoc] using this
          have hki : (k : Int) < (KA.length : Int) := by omega
          have HK : Hid (k < KA.length) := hk
          have HR5 : Hid (RowN (NIn w6 d) w6 (some ⟨bA, oA, none⟩) KA) := hR5
          have HKS : Hid (KA.length ≤ 2199023255488) := hKs
          clear hcc hk hR5 hKs
          go_wp2_with fail
          rename_i K1 hK1
          obtain ⟨w7, hw7⟩ : ∃ w7, w7 = w6.alloc (.cells #[.int .u8 kf, .string sf, .int .i64 nf, .int .i64 pf, .slice af KF.length cf] 29) := ⟨_, rfl⟩
          have u67 : Upd [] w6 w7 := by rw [hw7]; exact (Upd.refl [] w6).alloc _
          have tF7 : Tb w7 w6.heap.size #[.int .u8 kf, .string sf, .int .i64 nf, .int .i64 pf, .slice af KF.length cf] := by rw [hw7]; exact Tb.new _ _ _ rfl
          have tA7 : Tb w7 w.heap.size #[.int .u8 ka, .string sa, .int .i64 na, .int .i64 pa, .slice (some ⟨bA, oA, none⟩) KA.length cA] := tA5.mono u67 (by simp)
          have tB7 : Tb w7 (w.heap.size + 1) #[.int .u8 kb, .string sb, .int .i64 nb, .int .i64 pb, .slice aB KB.length cB] := tB5.mono u67 (by simp)
          have U7 : Hid (Upd [] w w7) := U5.out.trans u67
          have HR7 : Hid (RowN (NIn w7 d) w7 (some ⟨bA, oA, none⟩) KA) := HR5.out.imp u67 (fun cs t h => NIn.mono u67 _ _ _ h)
          have HFI7 : Hid (NIn w7 d [.int .u8 kf, .string sf, .int .i64 nf, .int .i64 pf, .slice af KF.length cf] (.mk kf sf nf pf KF)) := NIn.mono u67 _ _ _ HFI.out
          rw [← hw7]
          have HCA1 : Hid (KA.length ≤ cA ∧ cA ≤ 9223372036854775807) := by
            obtain ⟨a', c', e, _, hc⟩ := HA.out
            simp only [List.cons.injEq, Value.slice.injEq, and_true, true_and] at e
            rw [e.2]
            exact hc
          clear hw7 u67 tA5 tB5 U5 HR5 HFI hx0 hx1 hx2 hx3 hx4 qA5
          have hlen : (KA.take k).length = k := by have := HK.out; simp; omega
          have hlend : (KA.drop (k + 1)).length = KA.length - (k + 1) := by simp
          refine region_app (by kernel_rfl) 16 rfl [some 47, some 48, some 49, some 50, some 51, some 52, some 53, some 54, some 55, some 56, some 57, some 58, some 59, some 60, some 61, some 9, none] rfl (by decide) rfl (by kernel_rfl) (by kernel_rfl) d w7 (KA.take k) (KA.drop (k + 1)) #[] (fun v => .agg #[.int .u8 22, .string ⟨#[]⟩, .int .i64 0, .int .i64 pa, v]) (Upd.refl _ _) (by have := HK.out; have := HKS.out; have := cnt_len HC1.out; rw [hlen, hlend]; omega) 2 7 13 14 15 99 6 12 (by decide) (by decide) (fun j v => match j with | 0 => v = .pointer (some ⟨w.heap.size, 3, none⟩) | 1 => v = .int .i64 pa | 3 => v = .pointer (some ⟨w.heap.size, 4, none⟩) | 4 => v = .slice (some ⟨bA, oA, none⟩) KA.length cA | 5 => v = .int .i64 (k : Nat) | 6 => v = .slice (some ⟨bA, oA, none⟩) k cA | 8 => v = .pointer (some ⟨w.heap.size, 4, none⟩) | 9 => v = .slice (some ⟨bA, oA, none⟩) KA.length cA | 10 => v = .int .i64 (k : Nat) | 11 => v = .int .i64 ((k + 1 : Nat) : Int) | 12 => v = .slice (if cA = k + 1 then some ⟨bA, oA, none⟩ else (some ⟨bA, oA, none⟩ : Option Addr).map (·.add ((k + 1) * 5))) (KA.length - (k + 1)) (cA - (k + 1)) | _ => True) ⟨_, rfl, rfl, rfl⟩ ⟨_, rfl, rfl, rfl⟩ ⟨_, 49, 53, rfl, rfl, rfl, rfl, rfl, by kernel_rfl, by kernel_rfl⟩ ⟨_, 54, 59, rfl, rfl, rfl, rfl, rfl, by kernel_rfl, by kernel_rfl⟩ ⟨by decide, fun v hv => ⟨_, cA, hv.trans (by rw [hlen]), HR7.out.take k⟩⟩ (Or.inl ⟨by decide, fun v hv => ⟨_, _, hv.trans (by rw [hlend]), HR7.out.low (k + 1) HCA1.out.1⟩⟩) ⟨_, 60, rfl, rfl, rfl, by kernel_rfl, fun D vs a' w8 K ad m c hA hV hS haf hx hK => wp_bmodP (.tmp 60) (.tmp 48) rfl pa ad m c (by have D1 := haf ⟨1, .data⟩ (by simp) rfl; exact ((hS 1 48 rfl D1).trans (hV 1 D1 (by decide)))) hx hK⟩ (fun o ho => by simp at ho) ?_ ?_
          · intro D vs a' w8 i o' hA hU hV hS hi hni ho haf
            have hc5 : i = 0 ∨ i = 1 ∨ i = 3 ∨ i = 4 ∨ i = 5 ∨ i = 6 ∨ i = 8 ∨ i = 9 ∨ i = 10 ∨ i = 11 ∨ i = 12 := by simp at hni; omega
            have t8 := tA7.mono hU (by simp)
            rcases hc5 with rfl | rfl | rfl | rfl | rfl | rfl | rfl | rfl | rfl | rfl | rfl <;> cases ho
            · exact ops_wp rfl rfl (wp_nf3 (.tmp 3) rfl _ (hA.ev 3 (by decide)) ⟨_, rfl, rfl, rfl⟩)
            · have D0 := haf ⟨0, .data⟩ (by simp) rfl
              exact ops_wp rfl rfl (wp_lint (.tmp 47) rfl _ _ ((hS 0 47 rfl D0).trans (hV 0 D0 (by decide))) (t8.cell 3) ⟨_, rfl, rfl, rfl⟩)
            · exact ops_wp rfl rfl (wp_nf4 (.tmp 3) rfl _ (hA.ev 3 (by decide)) ⟨_, rfl, rfl, rfl⟩)
            · have D3 := haf ⟨3, .data⟩ (by simp) rfl
              exact ops_wp rfl rfl (wp_lrow (.tmp 50) rfl _ _ ((hS 3 50 rfl D3).trans (hV 3 D3 (by decide))) (t8.cell 4) ⟨_, rfl, rfl, rfl⟩)
            · exact ops_wp rfl rfl (wp_move (.tmp 7) rfl _ (hA.ev 7 (by decide)) ⟨_, rfl, rfl, rfl⟩)
            · have D4 := haf ⟨4, .data⟩ (by simp) rfl
              have D5 := haf ⟨5, .data⟩ (by simp) rfl
              exact ops_wp rfl rfl (wp_slh (.tmp 51) (.tmp 52) rfl _ _ _ _ (by have := HK.out; have := HCA1.out.1; omega) ((hS 4 51 rfl D4).trans (hV 4 D4 (by decide))) ((hS 5 52 rfl D5).trans (hV 5 D5 (by decide))) ⟨_, rfl, rfl, rfl⟩)
            · exact ops_wp rfl rfl (wp_nf4 (.tmp 3) rfl _ (hA.ev 3 (by decide)) ⟨_, rfl, rfl, rfl⟩)
            · have D8 := haf ⟨8, .data⟩ (by simp) rfl
              exact ops_wp rfl rfl (wp_lrow (.tmp 55) rfl _ _ ((hS 8 55 rfl D8).trans (hV 8 D8 (by decide))) (t8.cell 4) ⟨_, rfl, rfl, rfl⟩)
            · exact ops_wp rfl rfl (wp_move (.tmp 7) rfl _ (hA.ev 7 (by decide)) ⟨_, rfl, rfl, rfl⟩)
            · have D10 := haf ⟨10, .data⟩ (by simp) rfl
              exact ops_wp rfl rfl (wp_add1 (.tmp 57) rfl _ (by have := HK.out; have := HKS.out; omega) ((hS 10 57 rfl D10).trans (hV 10 D10 (by decide))) ⟨_, rfl, rfl, rfl⟩)
            · have D9 := haf ⟨9, .data⟩ (by simp) rfl
              have D11 := haf ⟨11, .data⟩ (by simp) rfl
              exact ops_wp rfl rfl (wp_slo (.tmp 56) (.tmp 58) rfl _ _ _ _ (by have := HK.out; omega) HCA1.out.1 ((hS 9 56 rfl D9).trans (hV 9 D9 (by decide))) ((hS 11 58 rfl D11).trans (hV 11 D11 (by decide))) ⟨_, rfl, rfl, rfl⟩)
          · intro vs a' w8 o' g ad m c hv hA hU hS e8 e7 hg tg hk8 ho
            cases ho
            refine ops_wp rfl rfl (wp_store_row 29 (.tmp 9) (.tmp 61) rfl g _ ((hS 15 9 rfl (by omega)).trans e8) ((hS 14 61 rfl (by omega)).trans e7) 29 #[.int .u8 0, .string ⟨#[]⟩, .int .i64 0, .int .i64 0, .slice none 0 0] tg (by rw [info_term]; rfl) rfl (by simp [Value.oneCell']) ⟨undef, rfl, ?_⟩)
            have hu8 := setRow_upd w8 g #[.int .u8 22, .string ⟨#[]⟩, .int .i64 0, .int .i64 pa, .slice ad m c]
            have t9 := setRow_tb tg #[.int .u8 22, .string ⟨#[]⟩, .int .i64 0, .int .i64 pa, .slice ad m c]
            obtain ⟨u9, own9⟩ := hk8 _ hu8
            obtain ⟨w9, hw9⟩ : ∃ w9, w9 = w8.setRow g #[.int .u8 22, .string ⟨#[]⟩, .int .i64 0, .int .i64 pa, .slice ad m c] := ⟨_, rfl⟩
            rw [← hw9] at t9 u9 own9 ⊢
            obtain ⟨v0, r0, rfl, hv0⟩ := list_cons hv
            obtain ⟨v1, r1, rfl, hv1⟩ := list_cons hv0
            obtain ⟨v2, r2, rfl, hv2⟩ := list_cons hv1
            obtain ⟨v3, r3, rfl, hv3⟩ := list_cons hv2
            obtain ⟨v4, r4, rfl, hv4⟩ := list_cons hv3
            obtain ⟨v5, r5, rfl, hv5⟩ := list_cons hv4
            obtain ⟨v6, r6, rfl, hv6⟩ := list_cons hv5
            obtain ⟨v7, r7, rfl, hv7⟩ := list_cons hv6
            obtain ⟨v8, r8, rfl, hv8⟩ := list_cons hv7
            obtain ⟨v9, r9, rfl, hv9⟩ := list_cons hv8
            obtain ⟨v10, r10, rfl, hv10⟩ := list_cons hv9
            obtain ⟨v11, r11, rfl, hv11⟩ := list_cons hv10
            obtain ⟨v12, r12, rfl, hv12⟩ := list_cons hv11
            obtain ⟨v13, r13, rfl, hv13⟩ := list_cons hv12
            obtain ⟨v14, r14, rfl, hv14⟩ := list_cons hv13
            obtain ⟨v15, r15, rfl, hv15⟩ := list_cons hv14
            obtain ⟨v16, r16, rfl, hv16⟩ := list_cons hv15
            have e8' : v15 = .pointer (some ⟨g, 0, none⟩) := e8
            subst e8'
            have tA9 : Tb w9 w.heap.size #[.int .u8 ka, .string sa, .int .i64 na, .int .i64 pa, .slice (some ⟨bA, oA, none⟩) KA.length cA] := tA7.mono u9 (by simp)
            have tB9 : Tb w9 (w.heap.size + 1) #[.int .u8 kb, .string sb, .int .i64 nb, .int .i64 pb, .slice aB KB.length cB] := tB7.mono u9 (by simp)
            have tF9 : Tb w9 w6.heap.size #[.int .u8 kf, .string sf, .int .i64 nf, .int .i64 pf, .slice af KF.length cf] := tF7.mono u9 (by simp)
            have U9 : Hid (Upd [] w w9) := U7.out.trans u9
            have HR9 : Hid (RowN (NIn w9 d) w9 (some ⟨bA, oA, none⟩) KA) := HR7.out.imp u9 (fun cs t h => NIn.mono u9 _ _ _ h)
            have HFI9 : Hid (NIn w9 d [.int .u8 kf, .string sf, .int .i64 nf, .int .i64 pf, .slice af KF.length cf] (.mk kf sf nf pf KF)) := NIn.mono u9 _ _ _ HFI7.out
            have HM9 : Hid (NIn w9 (d + 1) [.int .u8 22, .string ⟨#[]⟩, .int .i64 0, .int .i64 pa, .slice ad m c] (.mk 22 ⟨#[]⟩ 0 pa (KA.take k ++ KA.drop (k + 1)))) := own9.nin u9 pa
            clear u9 own9 tA7 tB7 tF7 U7 HR7 HFI7 hlen hlend
            clear hw9 hS hA hU hu8 hk8 tg e8 e7 hv hv0 hv1 hv2 hv3 hv4 hv5 hv6 hv7 hv8 hv9 hv10 hv11 hv12 hv13 hv14 hv15 hv16
            simp only [List.set_cons_succ, List.set_cons_zero, putAll, Act.put, List.setIfInBounds_toArray]
            show K1 _ _
            refine hK1 _ _ ?_
            clear hK1
            have HPF : Hid _ := part_facts HFK.out (HFA.out ▸ HFA0.out)
            have HML : Hid (KA.take k ++ KA.drop (k + 1) = KA.take k ++ KA.drop (k + 1)) := rfl
            obtain ⟨KM, hKM⟩ : ∃ KM, KM = KA.take k ++ KA.drop (k + 1) := ⟨_, rfl⟩
            have HSZ : Hid (nsz (.mk 22 ⟨#[]⟩ 0 pa KM) ≤ 2199023255488 ∧ nxz (.mk 22 ⟨#[]⟩ 0 pa KM) ≤ 140737488355328) := by
              rw [hKM]
              refine ⟨sz_app (fun t ht => sz_mem HZ.out.1.1 t (List.mem_of_mem_take ht)) (fun t ht => sz_mem HZ.out.1.1 t (List.mem_of_mem_drop ht)) (by have := HKS.out; have := HK.out; simp; omega), xz_app (fun t ht => xz_mem HZ.out.1.2 t (List.mem_of_mem_take ht)) (fun t ht => xz_mem HZ.out.1.2 t (List.mem_of_mem_drop ht))⟩
            have HPF0 : Hid (0 ≤ nf ∧ nf ≤ 4611686018427387904) := HPF.out.1
            have HPF1 : Hid (calBs sf nf KM = false → chkF (.mk 22 ⟨#[]⟩ 0 pa KM) = (0, 0)) := by rw [hKM]; exact HPF.out.2.1
            have HPF2 : Hid (manR KA ≤ 8000 → chkF (.mk 22 ⟨#[]⟩ 0 0 (KA ++ [Nd.mk kf sf nf pf KF])) = (210, pf)) := HPF.out.2.2
            rw [← hKM] at HM9
            clear hKM HPF HML
            have q94 : w9.cell? ⟨g, 4, none⟩ = some (.slice ad m c) := t9.cell 4
            have q91 : w9.cell? ⟨w6.heap.size, 1, none⟩ = some (.string sf) := tF9.cell 1
            have q92 : w9.cell? ⟨w6.heap.size, 2, none⟩ = some (.int .i64 nf) := tF9.cell 2
            go_upto_region 8 with fail
            go_cut [80] (fun s80 wx => s80 = .bool false ∧ Upd [] w9 wx)
            case first =>
              by_cases hm0 : m = 0
              · have e4 : decide ((0 : Int) < (m : Int)) = false := by simp [hm0]
                have e5 : decide ((m : Int) > 0) = false := by simp [hm0]
                have e7 : decide (0 < m) = false := by simp [hm0]
                have e8 : ¬ 0 < m := by omega
                clear hm0
                go_wp2_with fail
                go_meet
                exact ⟨rfl, Upd.refl _ _⟩
              · have e4 : decide ((0 : Int) < (m : Int)) = true := by simp; omega
                have e5 : decide ((m : Int) > 0) = true := by simp; omega
                have e6 : (0 : Int) < (m : Int) := by omega
                have e7 : decide (0 < m) = true := by simp; omega
                have e8 : 0 < m := by omega
                clear hm0
                go_wp2_with (first | (refine load_G _ _ rfl _ _ rfl t9 rfl rfl ?_) | fail)
                refine Calls.mono (calls_in sf nf HPF0.out (d + 1) w9 _ _ HM9.out HSZ.out.1) ?_
                rintro e w10 ⟨he, u10⟩
                rw [calB_mod] at he
                have t10 := t9.mono u10 (by simp)
                have V10 : Hid (Upd [] w9 w10) := u10
                clear u10
                cases hz : calBs sf nf KM with
                | true =>
                  rw [hz] at he
                  subst he
                  clear hz
                  go_wp2_with fail
                  go_meet
                  exact ⟨rfl, V10.out⟩
                | false =>
                  rw [hz] at he
                  subst he
                  have HE0 : Hid (chkF (.mk 22 ⟨#[]⟩ 0 pa KM) = (0, 0)) := HPF1.out hz
                  clear hz
                  go_wp2_with (first | (refine load_G _ _ rfl _ _ rfl t10 rfl rfl ?_) | fail)
                  refine Calls.mono (HCK.out w10 _ _ (U9.out.trans V10.out) (NIn.mono V10.out _ _ _ HM9.out) HSZ.out.1 HSZ.out.2) ?_
                  rintro e w11 ⟨he, u11⟩
                  rw [HE0.out] at he
                  subst he
                  have V11 : Hid (Upd [] w9 w11) := V10.out.trans u11
                  clear u11
                  go_wp2_with fail
                  go_meet
                  exact ⟨rfl, V11.out⟩
            case rest =>
              obtain ⟨rfl, hu12⟩ := hcut
              rename World => w12
              have tA12 : Tb w12 w.heap.size #[.int .u8 ka, .string sa, .int .i64 na, .int .i64 pa, .slice (some ⟨bA, oA, none⟩) KA.length cA] := tA9.mono hu12 (by simp)
              have tB12 : Tb w12 (w.heap.size + 1) #[.int .u8 kb, .string sb, .int .i64 nb, .int .i64 pb, .slice aB KB.length cB] := tB9.mono hu12 (by simp)
              have tF12 : Tb w12 w6.heap.size #[.int .u8 kf, .string sf, .int .i64 nf, .int .i64 pf, .slice af KF.length cf] := tF9.mono hu12 (by simp)
              have U12 : Hid (Upd [] w w12) := U9.out.trans hu12
              have HR12 : Hid (RowN (NIn w12 d) w12 (some ⟨bA, oA, none⟩) KA) := HR9.out.imp hu12 (fun cs t h => NIn.mono hu12 _ _ _ h)
              have HFI12 : Hid (NIn w12 d [.int .u8 kf, .string sf, .int .i64 nf, .int .i64 pf, .slice af KF.length cf] (.mk kf sf nf pf KF)) := NIn.mono hu12 _ _ _ HFI9.out
              clear tA9 tB9 tF9 U9 HR9 HFI9 hu12 t9 HM9 q94 q91 q92 HSZ HPF0 HPF1
              go_wp2_with fail
              rename_i K2 hK2
              refine region_lastT (by kernel_rfl) 5 rfl [some 81, some 82, some 83, some 84, some 85, some 86] rfl (by decide) rfl (by kernel_rfl) (by kernel_rfl) (fun j v _ => match j with | 0 => v = .agg #[.int .u8 ka, .string sa, .int .i64 na, .int .i64 pa, .slice (some ⟨bA, oA, none⟩) KA.length cA] | 1 => CXv (Nd.mk ka sa na pa KA) v | 2 => v = .agg #[.int .u8 kb, .string sb, .int .i64 nb, .int .i64 pb, .slice aB KB.length cB] | 3 => CXv (Nd.mk kb sb nb pb KB) v | 4 => SXv (Nd.mk ka sa na pa KA) (Nd.mk kb sb nb pb KB) v | _ => True) (fun j v w w' h _ => h) ?_ ?_
              · intro D vs a' w13 i o' hA hU hV hS hi ho haf
                have hc5 : i = 0 ∨ i = 1 ∨ i = 2 ∨ i = 3 ∨ i = 4 := by omega
                have tA := tA12.mono hU (by simp)
                have tB := tB12.mono hU (by simp)
                rcases hc5 with rfl | rfl | rfl | rfl | rfl <;> cases ho
                · exact ops_wp rfl rfl (wp_load_row 29 (.tmp 3) rfl _ (hA.ev 3 (by decide)) 29 _ (0, 0) _ tA hdesc rfl (by rw [info_term]; rfl) ⟨_, rfl, rfl, Upd.refl _ _⟩)
                · have D0 := haf ⟨0, .data⟩ (by simp) rfl
                  refine ops_wp rfl rfl (wp_callA rfl Tryd.call16 (vs := #[.agg #[.int .u8 ka, .string sa, .int .i64 na, .int .i64 pa, .slice (some ⟨bA, oA, none⟩) KA.length cA], .int .i64 3000]) ?_ (R := fun u w' => CXv (Nd.mk ka sa na pa KA) u ∧ Upd [] w13 w') ?_ ?_)
                  · have e0 : a'.eval (.tmp 81) = _ := (hS 0 81 rfl D0).trans (hV 0 D0)
                    simp only [List.map_toArray, List.map_cons, List.map_nil, e0]
                    rfl
                  · exact (NofX_all (d + 1) w13 _ _ 3000 (NIn.mono (U12.out.trans hU) _ _ _ HA.out) HZ.out.1.1 HZ.out.1.2 (by omega) (by omega)).mono fun e w' ⟨⟨z, he, h1, h2, h3⟩, hu⟩ => ⟨_, he, ⟨z, rfl, h1, by omega, h3⟩, hu⟩
                  · rintro u w14 ⟨hc, hu⟩; exact ⟨_, rfl, hc, hu⟩
                · exact ops_wp rfl rfl (wp_load_row 29 (.tmp 4) rfl _ (hA.ev 4 (by decide)) 29 _ (0, 0) _ tB hdesc rfl (by rw [info_term]; rfl) ⟨_, rfl, rfl, Upd.refl _ _⟩)
                · have D2 := haf ⟨2, .data⟩ (by simp) rfl
                  refine ops_wp rfl rfl (wp_callA rfl Tryd.call16 (vs := #[.agg #[.int .u8 kb, .string sb, .int .i64 nb, .int .i64 pb, .slice aB KB.length cB], .int .i64 3000]) ?_ (R := fun u w' => CXv (Nd.mk kb sb nb pb KB) u ∧ Upd [] w13 w') ?_ ?_)
                  · have e0 : a'.eval (.tmp 83) = _ := (hS 2 83 rfl D2).trans (hV 2 D2)
                    simp only [List.map_toArray, List.map_cons, List.map_nil, e0]
                    rfl
                  · exact (NofX_all (d + 1) w13 _ _ 3000 (NIn.mono (U12.out.trans hU) _ _ _ HB.out) HZ.out.2.1 HZ.out.2.2 (by omega) (by omega)).mono fun e w' ⟨⟨z, he, h1, h2, h3⟩, hu⟩ => ⟨_, he, ⟨z, rfl, h1, by omega, h3⟩, hu⟩
                  · rintro u w14 ⟨hc, hu⟩; exact ⟨_, rfl, hc, hu⟩
                · have D1 := haf ⟨1, .data⟩ (by simp) rfl
                  have D3 := haf ⟨3, .data⟩ (by simp) rfl
                  obtain ⟨z1, e1, h1, h2, h3⟩ := hV 1 D1
                  obtain ⟨z2, e2, g1, g2, g3⟩ := hV 3 D3
                  exact ops_wp rfl rfl (wp_addI (.tmp 82) (.tmp 84) rfl z1 z2 (by omega) (by omega) ((hS 1 82 rfl D1).trans e1) ((hS 3 84 rfl D3).trans e2) ⟨_, rfl, ⟨z1 + z2, rfl, fun h => by have := h3 (by omega); have := g3 (by omega); omega⟩, Upd.refl _ _⟩)
              · intro vs a' w13 o' hv hA hU hV hS ho
                cases ho
                obtain ⟨z, ez, hz⟩ := hV 4 (by omega)
                refine ops_wp rfl rfl (wp_gtrI (.tmp 85) 2000 rfl z ((hS 4 85 rfl (by omega)).trans ez) ⟨_, rfl, ?_⟩)
                obtain ⟨v0, r0, rfl, hv0⟩ := list_cons hv
                obtain ⟨v1, r1, rfl, hv1⟩ := list_cons hv0
                obtain ⟨v2, r2, rfl, hv2⟩ := list_cons hv1
                obtain ⟨v3, r3, rfl, hv3⟩ := list_cons hv2
                obtain ⟨v4, r4, rfl, hv4⟩ := list_cons hv3
                obtain ⟨v5, r5, rfl, hv5⟩ := list_cons hv4
                have tA13 : Tb w13 w.heap.size #[.int .u8 ka, .string sa, .int .i64 na, .int .i64 pa, .slice (some ⟨bA, oA, none⟩) KA.length cA] := tA12.mono hU (by simp)
                have tB13 : Tb w13 (w.heap.size + 1) #[.int .u8 kb, .string sb, .int .i64 nb, .int .i64 pb, .slice aB KB.length cB] := tB12.mono hU (by simp)
                have tF13 : Tb w13 w6.heap.size #[.int .u8 kf, .string sf, .int .i64 nf, .int .i64 pf, .slice af KF.length cf] := tF12.mono hU (by simp)
                have U13 : Hid (Upd [] w w13) := U12.out.trans hU
                have HR13 : Hid (RowN (NIn w13 d) w13 (some ⟨bA, oA, none⟩) KA) := HR12.out.imp hU (fun cs t h => NIn.mono hU _ _ _ h)
                have HFI13 : Hid (NIn w13 d [.int .u8 kf, .string sf, .int .i64 nf, .int .i64 pf, .slice af KF.length cf] (.mk kf sf nf pf KF)) := NIn.mono hU _ _ _ HFI12.out
                clear tA12 tB12 tF12 U12 HR12 HFI12
                clear hV hS hA hU ez hv hv0 hv1 hv2 hv3 hv4 hv5
                simp only [List.set_cons_succ, List.set_cons_zero, putAll, Act.put, List.setIfInBounds_toArray]
                show K2 _ _
                refine hK2 _ _ ?_
                clear hK2
                by_cases hz2 : z ≤ 2000
                · have HCN : Hid (cntN (Nd.mk ka sa na pa KA) + cntN (Nd.mk kb sb nb pb KB) ≤ 2000) := hz hz2
                  have e9 : decide ((2000 : Int) < z) = false := by simp; omega
                  have e9b : ¬ (2000 : Int) < z := by omega
                  clear hz hz2
                  go_wp2_with fail
                  rename_i K1 hK1
                  refine region_app (by kernel_rfl) 9 rfl [some 87, some 88, some 89, some 90, some 91, some 92, some 93, some 94, some 10, none] rfl (by decide) rfl (by kernel_rfl) (by kernel_rfl) d w13 KA [(Nd.mk kf sf nf pf KF)] #[.int .u8 kf, .string sf, .int .i64 nf, .int .i64 pf, .slice af KF.length cf] (fun v => .agg #[.int .u8 22, .string ⟨#[]⟩, .int .i64 0, .int .i64 0, v]) (Upd.refl _ _) (by have := (cnt_len HC1.out).2; simp; omega) 0 3 6 7 8 5 2 5 (by decide) (by decide) (fun j v => match j with | 1 => v = .pointer (some ⟨w.heap.size, 4, none⟩) | 2 => v = .slice (some ⟨bA, oA, none⟩) KA.length cA | 4 => v = .agg #[.int .u8 kf, .string sf, .int .i64 nf, .int .i64 pf, .slice af KF.length cf] | _ => True) ⟨_, rfl, rfl, rfl⟩ ⟨_, rfl, rfl, rfl⟩ ⟨_, 87, 89, rfl, rfl, rfl, rfl, rfl, by kernel_rfl, by kernel_rfl⟩ ⟨_, 90, 92, rfl, rfl, rfl, rfl, rfl, by kernel_rfl, by kernel_rfl⟩ ⟨by decide, fun v hv => ⟨_, cA, hv, HR13.out⟩⟩ (Or.inr ⟨rfl, _, rfl, HFI13.out⟩) ⟨_, 93, rfl, rfl, rfl, by kernel_rfl, fun D vs a' w14 K ad m c hA hV hS haf hx hK => wp_bmod (.tmp 93) rfl ad m c hx hK⟩ (fun o ho => by cases ho; exact ⟨rfl, fun D vs a' w14 K hA hU hV hS haf hK => by have D4 := haf ⟨4, .data⟩ (by simp) rfl; exact wp_bs1 (.tmp 91) rfl _ _ _ _ _ _ _ ((hS 4 91 rfl D4).trans (hV 4 D4 (by decide))) hK⟩) ?_ ?_
                  · intro D vs a' w14 i o' hA hU hV hS hi hni ho haf
                    have hc5 : i = 1 ∨ i = 2 ∨ i = 4 := by simp at hni; omega
                    have t8 := tA13.mono hU (by simp)
                    have tf8 := tF13.mono hU (by simp)
                    rcases hc5 with rfl | rfl | rfl <;> cases ho
                    · exact ops_wp rfl rfl (wp_nf4 (.tmp 3) rfl _ (hA.ev 3 (by decide)) ⟨_, rfl, rfl, rfl⟩)
                    · have D1 := haf ⟨1, .data⟩ (by simp) rfl
                      exact ops_wp rfl rfl (wp_lrow (.tmp 88) rfl _ _ ((hS 1 88 rfl D1).trans (hV 1 D1 (by decide))) (t8.cell 4) ⟨_, rfl, rfl, rfl⟩)
                    · exact ops_wp rfl rfl (wp_load_row 29 (.tmp 8) rfl _ (hA.ev 8 (by decide)) 29 _ (0, 0) _ tf8 hdesc rfl (by rw [info_term]; rfl) ⟨_, rfl, rfl, rfl⟩)
                  · intro vs a' w14 o' g ad m c hv hA hU hS e8 e7 hg tg hk8 ho
                    cases ho
                    refine ops_wp rfl rfl (wp_store_row 29 (.tmp 10) (.tmp 94) rfl g _ ((hS 8 10 rfl (by omega)).trans e8) ((hS 7 94 rfl (by omega)).trans e7) 29 #[.int .u8 0, .string ⟨#[]⟩, .int .i64 0, .int .i64 0, .slice none 0 0] tg (by rw [info_term]; rfl) rfl (by simp [Value.oneCell']) ⟨undef, rfl, ?_⟩)
                    have hu14 := setRow_upd w14 g #[.int .u8 22, .string ⟨#[]⟩, .int .i64 0, .int .i64 0, .slice ad m c]
                    have t15 := setRow_tb tg #[.int .u8 22, .string ⟨#[]⟩, .int .i64 0, .int .i64 0, .slice ad m c]
                    obtain ⟨hu15, own15⟩ := hk8 _ hu14
                    obtain ⟨w15, hw15⟩ : ∃ w15, w15 = w14.setRow g #[.int .u8 22, .string ⟨#[]⟩, .int .i64 0, .int .i64 0, .slice ad m c] := ⟨_, rfl⟩
                    rw [← hw15] at t15 hu15 own15 ⊢
                    obtain ⟨v0, r0, rfl, hv0⟩ := list_cons hv
                    obtain ⟨v1, r1, rfl, hv1⟩ := list_cons hv0
                    obtain ⟨v2, r2, rfl, hv2⟩ := list_cons hv1
                    obtain ⟨v3, r3, rfl, hv3⟩ := list_cons hv2
                    obtain ⟨v4, r4, rfl, hv4⟩ := list_cons hv3
                    obtain ⟨v5, r5, rfl, hv5⟩ := list_cons hv4
                    obtain ⟨v6, r6, rfl, hv6⟩ := list_cons hv5
                    obtain ⟨v7, r7, rfl, hv7⟩ := list_cons hv6
                    obtain ⟨v8, r8, rfl, hv8⟩ := list_cons hv7
                    obtain ⟨v9, r9, rfl, hv9⟩ := list_cons hv8
                    have e8' : v8 = .pointer (some ⟨g, 0, none⟩) := e8
                    subst e8'
                    have HM15 : Hid (NIn w15 (d + 1) [.int .u8 22, .string ⟨#[]⟩, .int .i64 0, .int .i64 0, .slice ad m c] (.mk 22 ⟨#[]⟩ 0 0 (KA ++ [(Nd.mk kf sf nf pf KF)]))) := own15.nin hu15 0
                    have tA15 : Tb w15 w.heap.size #[.int .u8 ka, .string sa, .int .i64 na, .int .i64 pa, .slice (some ⟨bA, oA, none⟩) KA.length cA] := tA13.mono hu15 (by simp)
                    have tB15 : Tb w15 (w.heap.size + 1) #[.int .u8 kb, .string sb, .int .i64 nb, .int .i64 pb, .slice aB KB.length cB] := tB13.mono hu15 (by simp)
                    have tF15 : Tb w15 w6.heap.size #[.int .u8 kf, .string sf, .int .i64 nf, .int .i64 pf, .slice af KF.length cf] := tF13.mono hu15 (by simp)
                    have U15 : Hid (Upd [] w w15) := U13.out.trans hu15
                    have HR15 : Hid (RowN (NIn w15 d) w15 (some ⟨bA, oA, none⟩) KA) := HR13.out.imp hu15 (fun cs t h => NIn.mono hu15 _ _ _ h)
                    have HFI15 : Hid (NIn w15 d [.int .u8 kf, .string sf, .int .i64 nf, .int .i64 pf, .slice af KF.length cf] (.mk kf sf nf pf KF)) := NIn.mono hu15 _ _ _ HFI13.out
                    clear tA13 tB13 tF13 U13 HR13 HFI13 hu15 own15
                    clear hw15 hS hA hU hu14 hk8 tg e8 e7 hv hv0 hv1 hv2 hv3 hv4 hv5 hv6 hv7 hv8 hv9
                    simp only [List.set_cons_succ, List.set_cons_zero, putAll, Act.put, List.setIfInBounds_toArray]
                    show K1 _ _
                    refine hK1 _ _ ?_
                    clear hK1
                    have HSZ : Hid (nsz (.mk 22 ⟨#[]⟩ 0 0 (KA ++ [(Nd.mk kf sf nf pf KF)])) ≤ 2199023255488 ∧ nxz (.mk 22 ⟨#[]⟩ 0 0 (KA ++ [(Nd.mk kf sf nf pf KF)])) ≤ 140737488355328) := by
                      obtain ⟨hfk, hfe⟩ := HFK.out
                      have hmem : (Nd.mk kf sf nf pf KF) ∈ KA := by rw [hfe]; exact List.getElem_mem hfk
                      have hl := (cnt_len HC1.out).2
                      have h1 : ∀ t ∈ [(Nd.mk kf sf nf pf KF)], t ∈ KA := fun t ht => by rw [List.mem_singleton.1 ht]; exact hmem
                      exact ⟨sz_app (sz_mem HZ.out.1.1) (fun t ht => sz_mem HZ.out.1.1 t (h1 t ht)) (by simp; omega), xz_app (xz_mem HZ.out.1.2) (fun t ht => xz_mem HZ.out.1.2 t (h1 t ht))⟩
                    have HE2 : Hid (chkF (.mk 22 ⟨#[]⟩ 0 0 (KA ++ [(Nd.mk kf sf nf pf KF)])) = (210, pf)) := HPF2.out (by have := (cnt_len HC1.out).1; omega)
                    go_wp2_with (first | (refine load_T _ rfl _ rfl _ _ rfl t15 rfl ?_) | fail)
                    refine Calls.mono (HCK.out w15 _ _ U15.out HM15.out HSZ.out.1 HSZ.out.2) ?_
                    rintro e w16 ⟨he, hu16⟩
                    rw [HE2.out] at he
                    subst he
                    have tA16 : Tb w16 w.heap.size #[.int .u8 ka, .string sa, .int .i64 na, .int .i64 pa, .slice (some ⟨bA, oA, none⟩) KA.length cA] := tA15.mono hu16 (by simp)
                    have tB16 : Tb w16 (w.heap.size + 1) #[.int .u8 kb, .string sb, .int .i64 nb, .int .i64 pb, .slice aB KB.length cB] := tB15.mono hu16 (by simp)
                    have tF16 : Tb w16 w6.heap.size #[.int .u8 kf, .string sf, .int .i64 nf, .int .i64 pf, .slice af KF.length cf] := tF15.mono hu16 (by simp)
                    have U16 : Hid (Upd [] w w16) := U15.out.trans hu16
                    have HR16 : Hid (RowN (NIn w16 d) w16 (some ⟨bA, oA, none⟩) KA) := HR15.out.imp hu16 (fun cs t h => NIn.mono hu16 _ _ _ h)
                    have HFI16 : Hid (NIn w16 d [.int .u8 kf, .string sf, .int .i64 nf, .int .i64 pf, .slice af KF.length cf] (.mk kf sf nf pf KF)) := NIn.mono hu16 _ _ _ HFI15.out
                    clear tA15 tB15 tF15 U15 HR15 HFI15 hu16 t15 HM15 HSZ HE2 HPF2 HFK
                    have x16 : (w16.alloc (.cells #[.int .i64 210, .int .i64 pf] 33)).cell? ⟨w6.heap.size, 3, none⟩ = some (.int .i64 pf) := (tF16.old _).cell 3
                    have ep : (pf == pf) = true := by simp
                    have ep2 : (pf != pf) = false := by simp
                    go_wp2_with (first | (refine load_T _ rfl _ rfl _ _ rfl (tB16.old _) rfl ?_) | fail)
                    refine Calls.mono (HCB.out _ (U16.out.alloc _)) ?_
                    rintro e w18 ⟨rfl, hu18⟩
                    have hv18 : Upd [] w16 w18 := ((Upd.refl [] w16).alloc _).trans hu18
                    have tA18 : Tb w18 w.heap.size #[.int .u8 ka, .string sa, .int .i64 na, .int .i64 pa, .slice (some ⟨bA, oA, none⟩) KA.length cA] := tA16.mono hv18 (by simp)
                    have tB18 : Tb w18 (w.heap.size + 1) #[.int .u8 kb, .string sb, .int .i64 nb, .int .i64 pb, .slice aB KB.length cB] := tB16.mono hv18 (by simp)
                    have tF18 : Tb w18 w6.heap.size #[.int .u8 kf, .string sf, .int .i64 nf, .int .i64 pf, .slice af KF.length cf] := tF16.mono hv18 (by simp)
                    have U18 : Hid (Upd [] w w18) := U16.out.trans hv18
                    have HR18 : Hid (RowN (NIn w18 d) w18 (some ⟨bA, oA, none⟩) KA) := HR16.out.imp hv18 (fun cs t h => NIn.mono hv18 _ _ _ h)
                    have HFI18 : Hid (NIn w18 d [.int .u8 kf, .string sf, .int .i64 nf, .int .i64 pf, .slice af KF.length cf] (.mk kf sf nf pf KF)) := NIn.mono hv18 _ _ _ HFI16.out
                    clear tA16 tB16 tF16 U16 HR16 HFI16 hv18 hu18 x16 ep ep2
                    by_cases hfb : fb.1 = 0
                    · have HFB0 : Hid (fb.1 = 0) := hfb
                      have e1b : (fb.1 == 0) = true := by simp [hfb]
                      have e2b : (fb.1 != 0) = false := by simp [hfb]
                      clear hfb
                      have HRB : Hid (RowN (NIn w18 d) w18 aB KB) := by
                        obtain ⟨a', c', e, hR, _⟩ := HB.out
                        simp only [List.cons.injEq, Value.slice.injEq, and_true, true_and] at e
                        rw [e.1]
                        exact hR.imp U18.out (fun cs t h => NIn.mono U18.out _ _ _ h)
                      have hKAs : KA.length ≤ 2199023255488 := HKS.out
                      have hKBs : KB.length ≤ 2199023255488 := Nat.le_trans (nszs_len KB) HZ.out.2.1
                      go_wp2_with fail
                      go_loopw [12] (fun i wr => ∃ q : Nat, q ≤ KA.length ∧ i = .int .i64 q ∧ Hid (∀ p (hp : p < KA.length), p < q → ∀ y ∈ KB, ¬ (KA[p].txt = y.txt ∧ KA[p].num = y.num)) ∧ Upd [] w18 wr) (fun i _ => KA.length - (intOf i).toNat)
                      case atStart => exact ⟨0, Nat.zero_le _, rfl, fun p hp h => absurd h (by omega), Upd.refl _ _⟩
                      case round =>
                        rename World => wi
                        obtain ⟨q, hq, rfl, HQ, hui⟩ := hrel
                        have HUI : Hid (Upd [] w18 wi) := hui
                        have z4 : wi.cell? ⟨w.heap.size, 4, none⟩ = some (.slice (some ⟨bA, oA, none⟩) KA.length cA) := (tA18.mono hui (by simp)).cell 4
                        clear hui
                        by_cases hlt : q < KA.length
                        · have i1 : (q : Int) < (KA.length : Int) := by omega
                          obtain ⟨xa, hxa⟩ : ∃ xa, xa = KA[q] := ⟨_, rfl⟩
                          have HXA : Hid (∃ h : q < KA.length, xa = KA[q]) := ⟨hlt, hxa⟩
                          obtain ⟨b3, o3, hae, cs, hl5, hcell, hin⟩ := HR18.out.atK q hlt
                          injection hae with hae
                          injection hae with hb3 ho3 _
                          subst hb3
                          subst ho3
                          rw [← hxa] at hin
                          obtain ⟨k3, s3, n3, p3, K3⟩ := xa
                          obtain ⟨a3, c3, hcs⟩ := hin.cells
                          subst hcs
                          have hx1 : w18.cell? ⟨bA, oA + q * 5 + 1, none⟩ = some (.string s3) := by have := hcell 1 (by omega); simpa [Nat.add_assoc] using this
                          have HX1 : Hid (w18.cell? ⟨bA, oA + q * 5 + 1, none⟩ = some (.string s3)) := hx1
                          have hx2 : w18.cell? ⟨bA, oA + q * 5 + 2, none⟩ = some (.int .i64 n3) := by have := hcell 2 (by omega); simpa [Nat.add_assoc] using this
                          have HX2 : Hid (w18.cell? ⟨bA, oA + q * 5 + 2, none⟩ = some (.int .i64 n3)) := hx2
                          clear hcell hin hl5 hxa hx1 hx2
                          go_wp2_with fail
                          go_loopw [13] (fun j wr => ∃ r : Nat, r ≤ KB.length ∧ j = .int .i64 r ∧ Hid (∀ p (hp : p < KB.length), p < r → ¬ (s3 = KB[p].txt ∧ n3 = KB[p].num)) ∧ Upd [] w18 wr) (fun j _ => KB.length - (intOf j).toNat)
                          case atStart => exact ⟨0, Nat.zero_le _, rfl, fun p hp h => absurd h (by omega), HUI.out⟩
                          case round =>
                            clear HUI z4
                            rename World => wj
                            obtain ⟨r, hr, rfl, HN, huj⟩ := hrel
                            have HUJ : Hid (Upd [] w18 wj) := huj
                            have z4 : wj.cell? ⟨w.heap.size, 4, none⟩ = some (.slice (some ⟨bA, oA, none⟩) KA.length cA) := (tA18.mono huj (by simp)).cell 4
                            have y4 : wj.cell? ⟨w.heap.size + 1, 4, none⟩ = some (.slice aB KB.length cB) := (tB18.mono huj (by simp)).cell 4
                            have y1 : wj.cell? ⟨bA, oA + q * 5 + 1, none⟩ = some (.string s3) := (huj.cell (cell_lt HX1.out) (by simp)).trans HX1.out
                            have y2 : wj.cell? ⟨bA, oA + q * 5 + 2, none⟩ = some (.int .i64 n3) := (huj.cell (cell_lt HX2.out) (by simp)).trans HX2.out
                            by_cases hlr : r < KB.length
                            · have i2 : (r : Int) < (KB.length : Int) := by omega
                              obtain ⟨xb, hxb⟩ : ∃ xb, xb = KB[r] := ⟨_, rfl⟩
                              obtain ⟨b5, o5, hbe, cs, hl5, hcell, hin⟩ := HRB.out.atK r hlr
                              subst hbe
                              rw [← hxb] at hin
                              obtain ⟨k5, s5, n5, p5, K5⟩ := xb
                              have HXB : Hid (∃ h : r < KB.length, Nd.mk k5 s5 n5 p5 K5 = KB[r]) := ⟨hlr, hxb⟩
                              obtain ⟨a5, c5, hcs⟩ := hin.cells
                              subst hcs
                              have x1 : w18.cell? ⟨b5, o5 + r * 5 + 1, none⟩ = some (.string s5) := by have := hcell 1 (by omega); simpa [Nat.add_assoc] using this
                              have x2 : w18.cell? ⟨b5, o5 + r * 5 + 2, none⟩ = some (.int .i64 n5) := by have := hcell 2 (by omega); simpa [Nat.add_assoc] using this
                              have y5 : wj.cell? ⟨b5, o5 + r * 5 + 1, none⟩ = some (.string s5) := (huj.cell (cell_lt x1) (by simp)).trans x1
                              have y6 : wj.cell? ⟨b5, o5 + r * 5 + 2, none⟩ = some (.int .i64 n5) := (huj.cell (cell_lt x2) (by simp)).trans x2
                              clear hcell hin hl5 hxb x1 x2 huj
                              by_cases hst : s3 = s5
                              · have f1 : (s3 == s5) = true := by rw [hst]; exact bytes_eqT s5
                                have f2 : (s3.toList == s5.toList) = true := by rw [hst]; simp
                                have HST : Hid (s3 = s5) := hst
                                clear hst
                                by_cases hnm : n3 = n5
                                · have f3 : (n3 == n5) = true := by simp [hnm]
                                  clear hnm
                                  go_wp2_with fail
                                  go_quiet (fail)
                                  go_wp2_with fail
                                  go_ret
                                  exact ⟨rfl, U18.out.trans (by first | exact HUJ.out | exact HUJ.out.drewN _)⟩
                                · have f3 : (n3 == n5) = false := by simp [hnm]
                                  have HNM : Hid (¬ n3 = n5) := hnm
                                  clear hnm
                                  go_wp2_with fail
                                  go_quiet (fail)
                                  go_wp2_with fail
                                  go_roundw
                                  case rel => exact ⟨r + 1, by omega, by go_num, fun p hp h => by
                                      by_cases e : p < r
                                      · exact HN.out p hp e
                                      · have e : p = r := by omega
                                        subst e
                                        obtain ⟨h1, h2⟩ := HXB.out
                                        rw [← h2]
                                        exact fun h => HNM.out h.2, by first | exact HUJ.out | exact HUJ.out.drewN _⟩
                                  case measure => simp [intOf]; omega
                              · have f1 : (s3 == s5) = false := bytes_eqF hst
                                have f2 : (s3.toList == s5.toList) = false := bytes_lF hst
                                have HST : Hid (¬ s3 = s5) := hst
                                clear hst
                                go_wp2_with fail
                                go_quiet (fail)
                                go_wp2_with fail
                                go_roundw
                                case rel => exact ⟨r + 1, by omega, by go_num, fun p hp h => by
                                    by_cases e : p < r
                                    · exact HN.out p hp e
                                    · have e : p = r := by omega
                                      subst e
                                      obtain ⟨h1, h2⟩ := HXB.out
                                      rw [← h2]
                                      exact fun h => HST.out h.1, by first | exact HUJ.out | exact HUJ.out.drewN _⟩
                                case measure => simp [intOf]; omega
                            · have hd2 : decide ((r : Int) < (KB.length : Int)) = false := by simp; omega
                              have hre : r = KB.length := by omega
                              have HN2 : Hid (∀ p (hp : p < KA.length), p < q + 1 → ∀ y ∈ KB, ¬ (KA[p].txt = y.txt ∧ KA[p].num = y.num)) := fun p hp h y hy => by
                                by_cases e : p < q
                                · exact HQ.out p hp e y hy
                                · have e : p = q := by omega
                                  subst e
                                  obtain ⟨h1, h2⟩ := HXA.out
                                  rw [← h2]
                                  obtain ⟨j, hj, rfl⟩ := List.getElem_of_mem hy
                                  exact HN.out j hj (by omega)
                              clear hre huj
                              go_wp2_with fail
                              go_roundw
                              case rel => exact ⟨q + 1, by omega, by go_num, HN2, HUJ.out⟩
                              case measure => simp [intOf]; omega
                        · have hd1 : decide ((q : Int) < (KA.length : Int)) = false := by simp; omega
                          have hqe : q = KA.length := by omega
                          have HALL : Hid (∀ x ∈ KA, ∀ y ∈ KB, ¬ (x.txt = y.txt ∧ x.num = y.num)) := fun x hx y hy => by
                            obtain ⟨j, hj, rfl⟩ := List.getElem_of_mem hx
                            exact HQ.out j hj (by omega) y hy
                          clear hqe HQ
                          go_wp2_with fail
                          rename_i K1 hK1
                          refine region_app (by kernel_rfl) 9 rfl [some 153, some 154, some 155, some 156, some 157, some 158, some 159, some 160, some 14, none] rfl (by decide) rfl (by kernel_rfl) (by kernel_rfl) d wi KA KB #[] (fun v => .agg #[.int .u8 22, .string ⟨#[]⟩, .int .i64 0, .int .i64 0, v]) (Upd.refl _ _) (by have := (cnt_len HC1.out).2; have := (cnt_len HC2.out).2; omega) 0 3 6 7 8 99 2 5 (by decide) (by decide) (fun j v => match j with | 1 => v = .pointer (some ⟨w.heap.size, 4, none⟩) | 2 => v = .slice (some ⟨bA, oA, none⟩) KA.length cA | 4 => v = .pointer (some ⟨w.heap.size + 1, 4, none⟩) | 5 => v = .slice aB KB.length cB | _ => True) ⟨_, rfl, rfl, rfl⟩ ⟨_, rfl, rfl, rfl⟩ ⟨_, 153, 155, rfl, rfl, rfl, rfl, rfl, by kernel_rfl, by kernel_rfl⟩ ⟨_, 156, 158, rfl, rfl, rfl, rfl, rfl, by kernel_rfl, by kernel_rfl⟩ ⟨by decide, fun v hv => ⟨_, cA, hv, HR18.out.imp HUI.out (fun cs t h => NIn.mono HUI.out _ _ _ h)⟩⟩ (Or.inl ⟨by decide, fun v hv => ⟨_, cB, hv, HRB.out.imp HUI.out (fun cs t h => NIn.mono HUI.out _ _ _ h)⟩⟩) ⟨_, 159, rfl, rfl, rfl, by kernel_rfl, fun D vs a' w19 K ad m c hA hV hS haf hx hK => wp_bmod (.tmp 159) rfl ad m c hx hK⟩ (fun o ho => by simp at ho) ?_ ?_
                          · intro D vs a' w19 i o' hA hU hV hS hi hni ho haf
                            have hc5 : i = 1 ∨ i = 2 ∨ i = 4 ∨ i = 5 := by simp at hni; omega
                            have t8 := tA18.mono (HUI.out.trans hU) (by simp)
                            have tb8 := tB18.mono (HUI.out.trans hU) (by simp)
                            rcases hc5 with rfl | rfl | rfl | rfl <;> cases ho
                            · exact ops_wp rfl rfl (wp_nf4 (.tmp 3) rfl _ (hA.ev 3 (by decide)) ⟨_, rfl, rfl, rfl⟩)
                            · have D1 := haf ⟨1, .data⟩ (by simp) rfl
                              exact ops_wp rfl rfl (wp_lrow (.tmp 154) rfl _ _ ((hS 1 154 rfl D1).trans (hV 1 D1 (by decide))) (t8.cell 4) ⟨_, rfl, rfl, rfl⟩)
                            · exact ops_wp rfl rfl (wp_nf4 (.tmp 4) rfl _ (hA.ev 4 (by decide)) ⟨_, rfl, rfl, rfl⟩)
                            · have D4 := haf ⟨4, .data⟩ (by simp) rfl
                              exact ops_wp rfl rfl (wp_lrow (.tmp 157) rfl _ _ ((hS 4 157 rfl D4).trans (hV 4 D4 (by decide))) (tb8.cell 4) ⟨_, rfl, rfl, rfl⟩)
                          · intro vs a' w19 o' g ad m c hv hA hU hS e8 e7 hg tg hk8 ho
                            cases ho
                            refine ops_wp rfl rfl (wp_store_row 29 (.tmp 14) (.tmp 160) rfl g _ ((hS 8 14 rfl (by omega)).trans e8) ((hS 7 160 rfl (by omega)).trans e7) 29 #[.int .u8 0, .string ⟨#[]⟩, .int .i64 0, .int .i64 0, .slice none 0 0] tg (by rw [info_term]; rfl) rfl (by simp [Value.oneCell']) ⟨undef, rfl, ?_⟩)
                            have hu19 := setRow_upd w19 g #[.int .u8 22, .string ⟨#[]⟩, .int .i64 0, .int .i64 0, .slice ad m c]
                            have t21 := setRow_tb tg #[.int .u8 22, .string ⟨#[]⟩, .int .i64 0, .int .i64 0, .slice ad m c]
                            obtain ⟨hu21, own21⟩ := hk8 _ hu19
                            obtain ⟨w21, hw21⟩ : ∃ w21, w21 = w19.setRow g #[.int .u8 22, .string ⟨#[]⟩, .int .i64 0, .int .i64 0, .slice ad m c] := ⟨_, rfl⟩
                            rw [← hw21] at t21 hu21 own21 ⊢
                            obtain ⟨v0, r0, rfl, hv0⟩ := list_cons hv
                            obtain ⟨v1, r1, rfl, hv1⟩ := list_cons hv0
                            obtain ⟨v2, r2, rfl, hv2⟩ := list_cons hv1
                            obtain ⟨v3, r3, rfl, hv3⟩ := list_cons hv2
                            obtain ⟨v4, r4, rfl, hv4⟩ := list_cons hv3
                            obtain ⟨v5, r5, rfl, hv5⟩ := list_cons hv4
                            obtain ⟨v6, r6, rfl, hv6⟩ := list_cons hv5
                            obtain ⟨v7, r7, rfl, hv7⟩ := list_cons hv6
                            obtain ⟨v8, r8, rfl, hv8⟩ := list_cons hv7
                            obtain ⟨v9, r9, rfl, hv9⟩ := list_cons hv8
                            have e8' : v8 = .pointer (some ⟨g, 0, none⟩) := e8
                            subst e8'
                            have HM21 : Hid (NIn w21 (d + 1) [.int .u8 22, .string ⟨#[]⟩, .int .i64 0, .int .i64 0, .slice ad m c] (.mk 22 ⟨#[]⟩ 0 0 (KA ++ KB))) := own21.nin hu21 0
                            have U21 : Hid (Upd [] w w21) := (U18.out.trans HUI.out).trans hu21
                            clear hu21 own21
                            clear hw21 hS hA hU hu19 hk8 tg e8 e7 hv hv0 hv1 hv2 hv3 hv4 hv5 hv6 hv7 hv8 hv9
                            simp only [List.set_cons_succ, List.set_cons_zero, putAll, Act.put, List.setIfInBounds_toArray]
                            show K1 _ _
                            refine hK1 _ _ ?_
                            clear hK1
                            have HSZ : Hid (nsz (.mk 22 ⟨#[]⟩ 0 0 (KA ++ KB)) ≤ 2199023255488 ∧ nxz (.mk 22 ⟨#[]⟩ 0 0 (KA ++ KB)) ≤ 140737488355328) := by
                              have hl1 := (cnt_len HC1.out).2
                              have hl2 := (cnt_len HC2.out).2
                              exact ⟨sz_app (sz_mem HZ.out.1.1) (sz_mem HZ.out.2.1) (by omega), xz_app (xz_mem HZ.out.1.2) (xz_mem HZ.out.2.2)⟩
                            have HE3 : Hid (chkF (.mk 22 ⟨#[]⟩ 0 0 (KA ++ KB)) = (0, 0)) := part_both3 (HFA.out ▸ HFA0.out) (HFB.out ▸ HFB0.out) (by have := (cnt_len HC1.out).1; have := (cnt_len HC2.out).1; omega) HALL.out
                            go_wp2_with (first | (refine load_T _ rfl _ rfl _ _ rfl t21 rfl ?_) | fail)
                            refine Calls.mono (HCK.out w21 _ _ U21.out HM21.out HSZ.out.1 HSZ.out.2) ?_
                            rintro e w20 ⟨he, hu20⟩
                            rw [HE3.out] at he
                            subst he
                            have UE : Hid (Upd [] w w20) := U21.out.trans hu20
                            clear hu20
                            go_wp2_with fail
                            go_ret
                            exact ⟨rfl, UE.out⟩
                    · have e1b : (fb.1 == 0) = false := by simp [hfb]
                      have e2b : (fb.1 != 0) = true := by simp [hfb]
                      clear hfb
                      go_wp2_with fail
                      go_ret
                      exact ⟨rfl, U18.out⟩
                · have e9 : decide ((2000 : Int) < z) = true := by simp; omega
                  have e9b : (2000 : Int) < z := by omega
                  clear hz hz2
                  go_wp2_with fail
                  go_ret
                  exact ⟨rfl, U13.out⟩
      · have e1 : (fa.1 == 0) = false := by simp [hfa]
        have e2 : (fa.1 != 0) = true := by simp [hfa]
        clear hfa
        go_wp2_with fail
        go_ret
        exact ⟨rfl, U5.out⟩

end Go.Proofs.YtpgjcedonimgnaaDoor
