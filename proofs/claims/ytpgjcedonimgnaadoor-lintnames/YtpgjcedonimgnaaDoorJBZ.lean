/- renamed, walked. -/
import Derived.Test.YtpgjcedonimgnaaDoorJBY
import Derived.Test.YtpgjcedonimgnaaDoorJBU

namespace Go.Proofs.YtpgjcedonimgnaaDoor
open Go.RowKit

set_option maxHeartbeats 4000000 in
set_option maxRecDepth 100000 in
theorem ren_var (wt : ByteArray) (hwt : wt.size ≤ 9) (d : Nat) (IH : Hid (RenS wt d)) (w : World) (num pos : Int) (s : ByteArray) (K : List Nd) (a : Option Addr) (c : Nat) (HR : Hid (RowN (NIn w d) w a K)) (hs0 : K.length ≤ 2199023255488) (HS : Hid (∀ i (hi : i < K.length), nsz K[i] ≤ 2199023255488 ∧ nxz K[i] ≤ 140737488355328)) (hx : s.size ≤ 140737488355328) (hu : s ≠ ⟨#[95]⟩) :
    Calls Tryd.prog 13 #[.agg #[.int .u8 3, .string s, .int .i64 num, .int .i64 pos, .slice a K.length c], .string wt] w fun e w' => Upd [] w w' ∧ ∃ cs' : List Value, e = .returned (.agg cs'.toArray) ∧ NInP (fun b => w.heap.size ≤ b) w' (d + 1) cs' (.mk 3 (s ++ wt) num pos (renL wt K)) := by
  obtain ⟨i0, z0, p1, p2, p3, p4, p5, p6⟩ := nodes_parts
  have e1 : (s == ⟨#[95]⟩) = false := bytes_eqF hu
  have ht95 : (⟨#[95]⟩ : ByteArray).toList = [95] := by kernel_rfl
  have e2 : (s.toList == [95]) = false := by rw [← ht95]; exact bytes_lF hu
  have hadd : ∀ w, (Op.stringOp .add s wt).run Tryd.prog w = .ok (.string (s ++ wt)) w := fun w => run_string_add_sum w s wt (by omega)
  clear hu
  obtain ⟨w1, hw1⟩ : ∃ w1, w1 = ((w.alloc (.cells #[.int .u8 3, .string s, .int .i64 num, .int .i64 pos, .slice a K.length c] 29)).alloc (.cells #[.int .u8 0, .string ⟨#[]⟩, .int .i64 0, .int .i64 0, .slice none 0 0] 29)).alloc (.cells #[.int .u8 3, .string s, .int .i64 num, .int .i64 pos, .slice none 0 0] 29) := ⟨_, rfl⟩
  have b1 : Tb w1 w.heap.size #[.int .u8 3, .string s, .int .i64 num, .int .i64 pos, .slice a K.length c] := by rw [hw1]; exact ((Tb.new _ _ _ rfl).old _).old _
  have r1 : Tb w1 (w.heap.size + 1) #[.int .u8 0, .string ⟨#[]⟩, .int .i64 0, .int .i64 0, .slice none 0 0] := by rw [hw1]; exact (Tb.new _ _ _ (by simp)).old _
  have n1 : Tb w1 (w.heap.size + 1 + 1) #[.int .u8 3, .string s, .int .i64 num, .int .i64 pos, .slice none 0 0] := by rw [hw1]; exact Tb.new _ _ _ (by simp)
  have U1 : Hid (Upd [] w w1) := by rw [hw1]; exact (((Upd.refl [] w).alloc _).alloc _).alloc _
  go_enter Tryd.func13, Tryd.ntmps13
  go_wp2_with fail
  obtain ⟨w2, hw2⟩ : ∃ w2, w2 = ((w.alloc (.cells #[.int .u8 3, .string s, .int .i64 num, .int .i64 pos, .slice a K.length c] 29)).alloc (.cells #[.int .u8 0, .string ⟨#[]⟩, .int .i64 0, .int .i64 0, .slice none 0 0] 29)).alloc (.cells #[.int .u8 3, .string (s ++ wt), .int .i64 num, .int .i64 pos, .slice none 0 0] 29) := ⟨_, rfl⟩
  have b2 : Tb w2 w.heap.size #[.int .u8 3, .string s, .int .i64 num, .int .i64 pos, .slice a K.length c] := by rw [hw2]; exact ((Tb.new _ _ _ rfl).old _).old _
  have r2 : Tb w2 (w.heap.size + 1) #[.int .u8 0, .string ⟨#[]⟩, .int .i64 0, .int .i64 0, .slice none 0 0] := by rw [hw2]; exact (Tb.new _ _ _ (by simp)).old _
  have n2 : Tb w2 (w.heap.size + 1 + 1) #[.int .u8 3, .string (s ++ wt), .int .i64 num, .int .i64 pos, .slice none 0 0] := by rw [hw2]; exact Tb.new _ _ _ (by simp)
  have U2 : Upd [] w w2 := by rw [hw2]; exact (((Upd.refl [] w).alloc _).alloc _).alloc _
  rw [← hw2]
  obtain ⟨S2, hTe⟩ : ∃ S2, S2 = (s ++ wt) := ⟨_, rfl⟩
  have HI : Hid (RnI w d wt #[.int .u8 3, .string s, .int .i64 num, .int .i64 pos, .slice a K.length c] 3 num pos S2 K 0 (.slice none 0 0) w2) := by
    rw [hTe]
    exact ⟨U2, b2, r2, n2, Or.inl ⟨rfl, rfl⟩, fun g e => (by cases e), fun _ => [], Hs.zero _ _ _ _, fun i _ h => absurd h (by omega)⟩
  have HTE : Hid (S2 = (s ++ wt)) := hTe
  clear b1 r1 n1 b2 r2 n2 U1 U2 hw1 hw2 hTe hx e1 e2 ht95 hadd
  go_loopw [6] (fun i wr => ∃ (q : Nat) (v : Value), q ≤ K.length ∧ i = .int .i64 q ∧ RnI w d wt #[.int .u8 3, .string s, .int .i64 num, .int .i64 pos, .slice a K.length c] 3 num pos S2 K q v wr) (fun i _ => K.length - (intOf i).toNat)
  case atStart => exact ⟨0, .slice none 0 0, Nat.zero_le _, rfl, HI.out⟩
  case round =>
    clear HI
    obtain ⟨q, v, hq, rfl, hI⟩ := hrel
    have HI : Hid (RnI w d wt #[.int .u8 3, .string s, .int .i64 num, .int .i64 pos, .slice a K.length c] 3 num pos S2 K q v wr) := hI
    have z4 : wr.cell? ⟨w.heap.size, 4, none⟩ = some (.slice a K.length c) := hI.bx.cell 4
    by_cases hlt : q < K.length
    · have i1 : (q : Int) < (K.length : Int) := by omega
      obtain ⟨b3, o3, hae, cs, hl5, hcell, hin⟩ := HR.out.atK q hlt
      subst hae
      have hin' := NIn.mono hI.u _ _ _ hin
      have hc5 : ∀ j, j < 5 → wr.cell? ⟨b3, o3 + (q * 5 + j), none⟩ = cs[j]? := fun j hj => by
        have := hcell j hj
        rw [List.getElem?_eq_getElem (by omega)] at this ⊢
        exact (hI.u.cell (cell_lt this) (by simp)).trans this
      obtain ⟨q0, q1, q2, q3, q4, rfl⟩ := list5 hl5
      have x0 : wr.cell? ⟨b3, o3 + q * 5, none⟩ = some q0 := hc5 0 (by omega)
      have x1 : wr.cell? ⟨b3, o3 + q * 5 + 1, none⟩ = some q1 := hc5 1 (by omega)
      have x2 : wr.cell? ⟨b3, o3 + q * 5 + 2, none⟩ = some q2 := hc5 2 (by omega)
      have x3 : wr.cell? ⟨b3, o3 + q * 5 + 3, none⟩ = some q3 := hc5 3 (by omega)
      have x4 : wr.cell? ⟨b3, o3 + q * 5 + 4, none⟩ = some q4 := hc5 4 (by omega)
      have HIN : Hid (NIn wr d [q0, q1, q2, q3, q4] K[q]) := hin'
      clear hc5 hcell hin hin' hI
      go_wp2_with fail
      refine Calls.mono (IH.out wr _ _ HIN.out (HS.out q hlt).1 (HS.out q hlt).2) ?_
      rintro e w3 ⟨hu3, cs', rfl, hin3⟩
      obtain ⟨T, hT⟩ : ∃ T, T = renN wt K[q] := ⟨_, rfl⟩
      rw [← hT] at hin3
      obtain ⟨kx, sx, nx, px, KX⟩ := T
      have HT : Hid (Nd.mk kx sx nx px KX = renN wt K[q]) := hT
      clear hT
      obtain ⟨ax, cx, hcs⟩ := (NInP.nin _ _ _ hin3).cells
      subst hcs
      obtain ⟨w5, hw5⟩ : ∃ w5, w5 = (w3.alloc (.cells #[.int .u8 kx, .string sx, .int .i64 nx, .int .i64 px, .slice ax KX.length cx] 29)).alloc (.cells #[.int .u8 kx, .string sx, .int .i64 nx, .int .i64 px, .slice ax KX.length cx] 29) := ⟨_, rfl⟩
      have u5 : Upd [] w3 w5 := by rw [hw5]; exact ((Upd.refl [] w3).alloc _).alloc _
      have hI5 : RnI w d wt (#[.int .u8 3, .string s, .int .i64 num, .int .i64 pos, .slice (some ⟨b3, o3, none⟩) K.length c]) 3 num pos S2 K q v w5 := (HI.out.mono hu3).mono u5
      have HI5 : Hid (RnI w d wt (#[.int .u8 3, .string s, .int .i64 num, .int .i64 pos, .slice (some ⟨b3, o3, none⟩) K.length c]) 3 num pos S2 K q v w5) := hI5
      have t7 : Tb (w3.alloc (.cells #[.int .u8 kx, .string sx, .int .i64 nx, .int .i64 px, .slice ax KX.length cx] 29)) w3.heap.size #[.int .u8 kx, .string sx, .int .i64 nx, .int .i64 px, .slice ax KX.length cx] := Tb.new _ _ _ rfl
      have t5 : Tb w5 (w3.heap.size + 1) #[.int .u8 kx, .string sx, .int .i64 nx, .int .i64 px, .slice ax KX.length cx] := by rw [hw5]; exact Tb.new _ _ _ (by simp)
      have z5 : (w3.alloc (.cells #[.int .u8 kx, .string sx, .int .i64 nx, .int .i64 px, .slice ax KX.length cx] 29)).cell? ⟨w.heap.size + 1 + 1, 4, none⟩ = some v := ((HI.out.mono hu3).nd.old _).cell 4
      have hone : ∀ u ∈ ([.int .u8 kx, .string sx, .int .i64 nx, .int .i64 px, .slice ax KX.length cx] : List Value), u.oneCell' = true := fun u hu => by
        simp only [List.mem_cons, List.not_mem_nil, or_false] at hu
        rcases hu with h | h | h | h | h <;> subst h <;> rfl
      have HIN5 : Hid (NInP (fun b => w.heap.size + 3 ≤ b ∧ v.ownBlock ≠ some b) w5 d [.int .u8 kx, .string sx, .int .i64 nx, .int .i64 px, .slice ax KX.length cx] (renN wt K[q])) := by
        rw [← HT.out]
        exact NInP.upd u5 (fun b _ hb => ⟨by simp, by have := HI.out.nd.lt; omega, fun e => by have := HI.out.row.lt b e; omega⟩) _ _ _ hin3
      have HCL : Hid (∀ j u, ([.int .u8 kx, .string sx, .int .i64 nx, .int .i64 px, .slice ax KX.length cx] : List Value)[j]? = some u → w5.cell? ((⟨w3.heap.size + 1, 0, none⟩ : Addr).add j) = some u) := fun j u hj => by
        rw [Addr.add_lit, Nat.zero_add, t5.cell j]
        simpa using hj
      have HR5 : Hid (RowG w5 5 v q) := hI5.row
      have HND : Hid (∀ g' w', Grew 5 w5 w' v q g' → Tb w' (w.heap.size + 1 + 1) #[.int .u8 3, .string S2, .int .i64 num, .int .i64 pos, v]) := fun g' w' hg => HI5.out.nd.mono hg.upd (by
        have h1 := HI5.out.nd.lt
        simp
        rcases hg.at' with e | e
        · have := HI5.out.own g' e; omega
        · omega)
      clear hu3 hin3 u5 hI5 t5 x0 x1 x2 x3 x4 z4 HIN
      have hw5' : (w3.alloc (.cells #[.int .u8 kx, .string sx, .int .i64 nx, .int .i64 px, .slice ax KX.length cx] 29)).alloc (.cells #[.int .u8 kx, .string sx, .int .i64 nx, .int .i64 px, .slice ax KX.length cx] 29) = w5 := hw5.symm
      go_wp2_with (first | (refine bs_T rfl _ rfl kx nx px sx ax KX.length cx rfl (w3.heap.size + 1) (by simp) ?_; simp only [Act.put, List.setIfInBounds_toArray, List.set_cons_succ, List.set_cons_zero]; rw [hw5']) | (at_builtin; refine wpList_appendG (v := v) (n := q) rfl _ _ 27 rfl p1 p2 p3 p4 p5 p6 rfl HR5.out ⟨w3.heap.size + 1, 0, none⟩ 1 1 [.int .u8 kx, .string sx, .int .i64 nx, .int .i64 px, .slice ax KX.length cx] rfl rfl HCL.out hone (by omega) (by omega) (by omega) ?_; intro g' cap' w6 hr6 hg6 hn6; have nd6 := HND.out g' w6 hg6; have z6 := nd6.cell 4; have f6 := nd6.free 4) | fail)
      exact ⟨⟨q + 1, _, by omega, by simp, HI5.out.step hlt rfl HIN5.out hr6 hg6 hn6 rfl⟩, by simp [intOf]; omega⟩
    · have hd : decide ((q : Int) < (K.length : Int)) = false := by simp; omega
      have hqe : q = K.length := by omega
      subst hqe
      obtain ⟨av, cv, hv, _⟩ := hI.row.form
      subst hv
      have tn := hI.nd
      have tr := hI.rs
      clear hI
      go_wp2_with (first | (refine load_T _ rfl _ rfl _ _ rfl tn rfl ?_) | (refine store_T _ rfl _ _ rfl _ _ _ rfl rfl tr rfl rfl (by simp [Value.oneCell']) ?_; intro w8 tR8 u8) | fail)
      refine ret_T Tryd.results13 rfl _ _ rfl tR8 rfl ⟨HI.out.u.then u8 (by simp), [.int .u8 3, .string S2, .int .i64 num, .int .i64 pos, .slice av K.length cv], rfl, av, cv, by rw [renL_len, HTE.out], ?_, ?_⟩
      · obtain ⟨C, hC, hK⟩ := HI.out.has
        by_cases h0 : K = []
        · exact Or.inl (by rw [h0, renL])
        · rcases HI.out.row with ⟨e, hz⟩ | ⟨g, cap, e, hg, hcp, hm, _⟩
          · exact absurd (List.eq_nil_of_length_eq_zero hz) h0
          · cases e
            have hog := HI.out.own g rfl
            refine Or.inr ⟨g, 0, rfl, by omega, Nat.lt_of_lt_of_le hg u8.size, fun i hi => ?_⟩
            have hi' : i < K.length := by rw [renL_len] at hi; exact hi
            refine ⟨C i, (hK i hi' hi').1, fun j hj => ?_, ?_⟩
            · rw [Nat.zero_add]
              exact (u8.cell (p := ⟨g, i * 5 + j, none⟩) hg (by simp; omega)).trans (hC g _ _ rfl i j hi' hj)
            · have e : (renL wt K)[i]'hi = renN wt (K[i]'hi') := by simp [renL_map]
              rw [e]
              exact NInP.upd u8 (fun b _ hb => ⟨by simp; omega, by omega⟩) _ _ _ (hK i hi' hi').2
      · rw [renL_len]
        rcases HI.out.row with ⟨e, hz⟩ | ⟨g, cap, e, hg, hcp, hm, _⟩
        · simp only [Value.slice.injEq] at e
          omega
        · simp only [Value.slice.injEq] at e
          unfold maxLen at hm
          omega

set_option maxHeartbeats 4000000 in
set_option maxRecDepth 100000 in
theorem ren_und (wt : ByteArray) (_hwt : wt.size ≤ 9) (d : Nat) (IH : Hid (RenS wt d)) (w : World) (num pos : Int) (s : ByteArray) (K : List Nd) (a : Option Addr) (c : Nat) (HR : Hid (RowN (NIn w d) w a K)) (hs0 : K.length ≤ 2199023255488) (HS : Hid (∀ i (hi : i < K.length), nsz K[i] ≤ 2199023255488 ∧ nxz K[i] ≤ 140737488355328)) (_hx : s.size ≤ 140737488355328) (hu : s = ⟨#[95]⟩) :
    Calls Tryd.prog 13 #[.agg #[.int .u8 3, .string s, .int .i64 num, .int .i64 pos, .slice a K.length c], .string wt] w fun e w' => Upd [] w w' ∧ ∃ cs' : List Value, e = .returned (.agg cs'.toArray) ∧ NInP (fun b => w.heap.size ≤ b) w' (d + 1) cs' (.mk 3 s num pos (renL wt K)) := by
  obtain ⟨i0, z0, p1, p2, p3, p4, p5, p6⟩ := nodes_parts
  have e1 : (s == ⟨#[95]⟩) = true := by rw [hu]; exact bytes_eqT _
  have ht95 : (⟨#[95]⟩ : ByteArray).toList = [95] := by kernel_rfl
  have e2 : (s.toList == [95]) = true := by rw [← ht95, hu]; simp
  clear hu
  obtain ⟨w1, hw1⟩ : ∃ w1, w1 = ((w.alloc (.cells #[.int .u8 3, .string s, .int .i64 num, .int .i64 pos, .slice a K.length c] 29)).alloc (.cells #[.int .u8 0, .string ⟨#[]⟩, .int .i64 0, .int .i64 0, .slice none 0 0] 29)).alloc (.cells #[.int .u8 3, .string s, .int .i64 num, .int .i64 pos, .slice none 0 0] 29) := ⟨_, rfl⟩
  have b1 : Tb w1 w.heap.size #[.int .u8 3, .string s, .int .i64 num, .int .i64 pos, .slice a K.length c] := by rw [hw1]; exact ((Tb.new _ _ _ rfl).old _).old _
  have r1 : Tb w1 (w.heap.size + 1) #[.int .u8 0, .string ⟨#[]⟩, .int .i64 0, .int .i64 0, .slice none 0 0] := by rw [hw1]; exact (Tb.new _ _ _ (by simp)).old _
  have n1 : Tb w1 (w.heap.size + 1 + 1) #[.int .u8 3, .string s, .int .i64 num, .int .i64 pos, .slice none 0 0] := by rw [hw1]; exact Tb.new _ _ _ (by simp)
  have U1 : Hid (Upd [] w w1) := by rw [hw1]; exact (((Upd.refl [] w).alloc _).alloc _).alloc _
  go_enter Tryd.func13, Tryd.ntmps13
  go_wp2_with fail
  rw [← hw1]
  obtain ⟨w2, hw2⟩ : ∃ w2, w2 = w1 := ⟨_, rfl⟩
  have b2 : Tb w2 w.heap.size #[.int .u8 3, .string s, .int .i64 num, .int .i64 pos, .slice a K.length c] := by rw [hw2]; exact b1
  have r2 : Tb w2 (w.heap.size + 1) #[.int .u8 0, .string ⟨#[]⟩, .int .i64 0, .int .i64 0, .slice none 0 0] := by rw [hw2]; exact r1
  have n2 : Tb w2 (w.heap.size + 1 + 1) #[.int .u8 3, .string s, .int .i64 num, .int .i64 pos, .slice none 0 0] := by rw [hw2]; exact n1
  have U2 : Upd [] w w2 := by rw [hw2]; exact U1.out
  rw [← hw2]
  obtain ⟨S2, hTe⟩ : ∃ S2, S2 = s := ⟨_, rfl⟩
  have HI : Hid (RnI w d wt #[.int .u8 3, .string s, .int .i64 num, .int .i64 pos, .slice a K.length c] 3 num pos S2 K 0 (.slice none 0 0) w2) := by
    rw [hTe]
    exact ⟨U2, b2, r2, n2, Or.inl ⟨rfl, rfl⟩, fun g e => (by cases e), fun _ => [], Hs.zero _ _ _ _, fun i _ h => absurd h (by omega)⟩
  have HTE : Hid (S2 = s) := hTe
  clear b1 r1 n1 b2 r2 n2 U1 U2 hw1 hw2 hTe _hx e1 e2 ht95
  go_loopw [6] (fun i wr => ∃ (q : Nat) (v : Value), q ≤ K.length ∧ i = .int .i64 q ∧ RnI w d wt #[.int .u8 3, .string s, .int .i64 num, .int .i64 pos, .slice a K.length c] 3 num pos S2 K q v wr) (fun i _ => K.length - (intOf i).toNat)
  case atStart => exact ⟨0, .slice none 0 0, Nat.zero_le _, rfl, HI.out⟩
  case round =>
    clear HI
    obtain ⟨q, v, hq, rfl, hI⟩ := hrel
    have HI : Hid (RnI w d wt #[.int .u8 3, .string s, .int .i64 num, .int .i64 pos, .slice a K.length c] 3 num pos S2 K q v wr) := hI
    have z4 : wr.cell? ⟨w.heap.size, 4, none⟩ = some (.slice a K.length c) := hI.bx.cell 4
    by_cases hlt : q < K.length
    · have i1 : (q : Int) < (K.length : Int) := by omega
      obtain ⟨b3, o3, hae, cs, hl5, hcell, hin⟩ := HR.out.atK q hlt
      subst hae
      have hin' := NIn.mono hI.u _ _ _ hin
      have hc5 : ∀ j, j < 5 → wr.cell? ⟨b3, o3 + (q * 5 + j), none⟩ = cs[j]? := fun j hj => by
        have := hcell j hj
        rw [List.getElem?_eq_getElem (by omega)] at this ⊢
        exact (hI.u.cell (cell_lt this) (by simp)).trans this
      obtain ⟨q0, q1, q2, q3, q4, rfl⟩ := list5 hl5
      have x0 : wr.cell? ⟨b3, o3 + q * 5, none⟩ = some q0 := hc5 0 (by omega)
      have x1 : wr.cell? ⟨b3, o3 + q * 5 + 1, none⟩ = some q1 := hc5 1 (by omega)
      have x2 : wr.cell? ⟨b3, o3 + q * 5 + 2, none⟩ = some q2 := hc5 2 (by omega)
      have x3 : wr.cell? ⟨b3, o3 + q * 5 + 3, none⟩ = some q3 := hc5 3 (by omega)
      have x4 : wr.cell? ⟨b3, o3 + q * 5 + 4, none⟩ = some q4 := hc5 4 (by omega)
      have HIN : Hid (NIn wr d [q0, q1, q2, q3, q4] K[q]) := hin'
      clear hc5 hcell hin hin' hI
      go_wp2_with fail
      refine Calls.mono (IH.out wr _ _ HIN.out (HS.out q hlt).1 (HS.out q hlt).2) ?_
      rintro e w3 ⟨hu3, cs', rfl, hin3⟩
      obtain ⟨T, hT⟩ : ∃ T, T = renN wt K[q] := ⟨_, rfl⟩
      rw [← hT] at hin3
      obtain ⟨kx, sx, nx, px, KX⟩ := T
      have HT : Hid (Nd.mk kx sx nx px KX = renN wt K[q]) := hT
      clear hT
      obtain ⟨ax, cx, hcs⟩ := (NInP.nin _ _ _ hin3).cells
      subst hcs
      obtain ⟨w5, hw5⟩ : ∃ w5, w5 = (w3.alloc (.cells #[.int .u8 kx, .string sx, .int .i64 nx, .int .i64 px, .slice ax KX.length cx] 29)).alloc (.cells #[.int .u8 kx, .string sx, .int .i64 nx, .int .i64 px, .slice ax KX.length cx] 29) := ⟨_, rfl⟩
      have u5 : Upd [] w3 w5 := by rw [hw5]; exact ((Upd.refl [] w3).alloc _).alloc _
      have hI5 : RnI w d wt (#[.int .u8 3, .string s, .int .i64 num, .int .i64 pos, .slice (some ⟨b3, o3, none⟩) K.length c]) 3 num pos S2 K q v w5 := (HI.out.mono hu3).mono u5
      have HI5 : Hid (RnI w d wt (#[.int .u8 3, .string s, .int .i64 num, .int .i64 pos, .slice (some ⟨b3, o3, none⟩) K.length c]) 3 num pos S2 K q v w5) := hI5
      have t7 : Tb (w3.alloc (.cells #[.int .u8 kx, .string sx, .int .i64 nx, .int .i64 px, .slice ax KX.length cx] 29)) w3.heap.size #[.int .u8 kx, .string sx, .int .i64 nx, .int .i64 px, .slice ax KX.length cx] := Tb.new _ _ _ rfl
      have t5 : Tb w5 (w3.heap.size + 1) #[.int .u8 kx, .string sx, .int .i64 nx, .int .i64 px, .slice ax KX.length cx] := by rw [hw5]; exact Tb.new _ _ _ (by simp)
      have z5 : (w3.alloc (.cells #[.int .u8 kx, .string sx, .int .i64 nx, .int .i64 px, .slice ax KX.length cx] 29)).cell? ⟨w.heap.size + 1 + 1, 4, none⟩ = some v := ((HI.out.mono hu3).nd.old _).cell 4
      have hone : ∀ u ∈ ([.int .u8 kx, .string sx, .int .i64 nx, .int .i64 px, .slice ax KX.length cx] : List Value), u.oneCell' = true := fun u hu => by
        simp only [List.mem_cons, List.not_mem_nil, or_false] at hu
        rcases hu with h | h | h | h | h <;> subst h <;> rfl
      have HIN5 : Hid (NInP (fun b => w.heap.size + 3 ≤ b ∧ v.ownBlock ≠ some b) w5 d [.int .u8 kx, .string sx, .int .i64 nx, .int .i64 px, .slice ax KX.length cx] (renN wt K[q])) := by
        rw [← HT.out]
        exact NInP.upd u5 (fun b _ hb => ⟨by simp, by have := HI.out.nd.lt; omega, fun e => by have := HI.out.row.lt b e; omega⟩) _ _ _ hin3
      have HCL : Hid (∀ j u, ([.int .u8 kx, .string sx, .int .i64 nx, .int .i64 px, .slice ax KX.length cx] : List Value)[j]? = some u → w5.cell? ((⟨w3.heap.size + 1, 0, none⟩ : Addr).add j) = some u) := fun j u hj => by
        rw [Addr.add_lit, Nat.zero_add, t5.cell j]
        simpa using hj
      have HR5 : Hid (RowG w5 5 v q) := hI5.row
      have HND : Hid (∀ g' w', Grew 5 w5 w' v q g' → Tb w' (w.heap.size + 1 + 1) #[.int .u8 3, .string S2, .int .i64 num, .int .i64 pos, v]) := fun g' w' hg => HI5.out.nd.mono hg.upd (by
        have h1 := HI5.out.nd.lt
        simp
        rcases hg.at' with e | e
        · have := HI5.out.own g' e; omega
        · omega)
      clear hu3 hin3 u5 hI5 t5 x0 x1 x2 x3 x4 z4 HIN
      have hw5' : (w3.alloc (.cells #[.int .u8 kx, .string sx, .int .i64 nx, .int .i64 px, .slice ax KX.length cx] 29)).alloc (.cells #[.int .u8 kx, .string sx, .int .i64 nx, .int .i64 px, .slice ax KX.length cx] 29) = w5 := hw5.symm
      go_wp2_with (first | (refine bs_T rfl _ rfl kx nx px sx ax KX.length cx rfl (w3.heap.size + 1) (by simp) ?_; simp only [Act.put, List.setIfInBounds_toArray, List.set_cons_succ, List.set_cons_zero]; rw [hw5']) | (at_builtin; refine wpList_appendG (v := v) (n := q) rfl _ _ 27 rfl p1 p2 p3 p4 p5 p6 rfl HR5.out ⟨w3.heap.size + 1, 0, none⟩ 1 1 [.int .u8 kx, .string sx, .int .i64 nx, .int .i64 px, .slice ax KX.length cx] rfl rfl HCL.out hone (by omega) (by omega) (by omega) ?_; intro g' cap' w6 hr6 hg6 hn6; have nd6 := HND.out g' w6 hg6; have z6 := nd6.cell 4; have f6 := nd6.free 4) | fail)
      exact ⟨⟨q + 1, _, by omega, by simp, HI5.out.step hlt rfl HIN5.out hr6 hg6 hn6 rfl⟩, by simp [intOf]; omega⟩
    · have hd : decide ((q : Int) < (K.length : Int)) = false := by simp; omega
      have hqe : q = K.length := by omega
      subst hqe
      obtain ⟨av, cv, hv, _⟩ := hI.row.form
      subst hv
      have tn := hI.nd
      have tr := hI.rs
      clear hI
      go_wp2_with (first | (refine load_T _ rfl _ rfl _ _ rfl tn rfl ?_) | (refine store_T _ rfl _ _ rfl _ _ _ rfl rfl tr rfl rfl (by simp [Value.oneCell']) ?_; intro w8 tR8 u8) | fail)
      refine ret_T Tryd.results13 rfl _ _ rfl tR8 rfl ⟨HI.out.u.then u8 (by simp), [.int .u8 3, .string S2, .int .i64 num, .int .i64 pos, .slice av K.length cv], rfl, av, cv, by rw [renL_len, HTE.out], ?_, ?_⟩
      · obtain ⟨C, hC, hK⟩ := HI.out.has
        by_cases h0 : K = []
        · exact Or.inl (by rw [h0, renL])
        · rcases HI.out.row with ⟨e, hz⟩ | ⟨g, cap, e, hg, hcp, hm, _⟩
          · exact absurd (List.eq_nil_of_length_eq_zero hz) h0
          · cases e
            have hog := HI.out.own g rfl
            refine Or.inr ⟨g, 0, rfl, by omega, Nat.lt_of_lt_of_le hg u8.size, fun i hi => ?_⟩
            have hi' : i < K.length := by rw [renL_len] at hi; exact hi
            refine ⟨C i, (hK i hi' hi').1, fun j hj => ?_, ?_⟩
            · rw [Nat.zero_add]
              exact (u8.cell (p := ⟨g, i * 5 + j, none⟩) hg (by simp; omega)).trans (hC g _ _ rfl i j hi' hj)
            · have e : (renL wt K)[i]'hi = renN wt (K[i]'hi') := by simp [renL_map]
              rw [e]
              exact NInP.upd u8 (fun b _ hb => ⟨by simp; omega, by omega⟩) _ _ _ (hK i hi' hi').2
      · rw [renL_len]
        rcases HI.out.row with ⟨e, hz⟩ | ⟨g, cap, e, hg, hcp, hm, _⟩
        · simp only [Value.slice.injEq] at e
          omega
        · simp only [Value.slice.injEq] at e
          unfold maxLen at hm
          omega

set_option maxHeartbeats 4000000 in
set_option maxRecDepth 100000 in
theorem ren_oth (wt : ByteArray) (_hwt : wt.size ≤ 9) (d : Nat) (IH : Hid (RenS wt d)) (w : World) (k : Int) (num pos : Int) (s : ByteArray) (K : List Nd) (a : Option Addr) (c : Nat) (HR : Hid (RowN (NIn w d) w a K)) (hs0 : K.length ≤ 2199023255488) (HS : Hid (∀ i (hi : i < K.length), nsz K[i] ≤ 2199023255488 ∧ nxz K[i] ≤ 140737488355328)) (_hx : s.size ≤ 140737488355328) (hk : k ≠ 3) :
    Calls Tryd.prog 13 #[.agg #[.int .u8 k, .string s, .int .i64 num, .int .i64 pos, .slice a K.length c], .string wt] w fun e w' => Upd [] w w' ∧ ∃ cs' : List Value, e = .returned (.agg cs'.toArray) ∧ NInP (fun b => w.heap.size ≤ b) w' (d + 1) cs' (.mk k s num pos (renL wt K)) := by
  obtain ⟨i0, z0, p1, p2, p3, p4, p5, p6⟩ := nodes_parts
  have e1 : (k == 3) = false := by simp [hk]
  have e2 : decide (k = 3) = false := decide_eq_false hk
  obtain ⟨w1, hw1⟩ : ∃ w1, w1 = ((w.alloc (.cells #[.int .u8 k, .string s, .int .i64 num, .int .i64 pos, .slice a K.length c] 29)).alloc (.cells #[.int .u8 0, .string ⟨#[]⟩, .int .i64 0, .int .i64 0, .slice none 0 0] 29)).alloc (.cells #[.int .u8 k, .string s, .int .i64 num, .int .i64 pos, .slice none 0 0] 29) := ⟨_, rfl⟩
  have b1 : Tb w1 w.heap.size #[.int .u8 k, .string s, .int .i64 num, .int .i64 pos, .slice a K.length c] := by rw [hw1]; exact ((Tb.new _ _ _ rfl).old _).old _
  have r1 : Tb w1 (w.heap.size + 1) #[.int .u8 0, .string ⟨#[]⟩, .int .i64 0, .int .i64 0, .slice none 0 0] := by rw [hw1]; exact (Tb.new _ _ _ (by simp)).old _
  have n1 : Tb w1 (w.heap.size + 1 + 1) #[.int .u8 k, .string s, .int .i64 num, .int .i64 pos, .slice none 0 0] := by rw [hw1]; exact Tb.new _ _ _ (by simp)
  have U1 : Hid (Upd [] w w1) := by rw [hw1]; exact (((Upd.refl [] w).alloc _).alloc _).alloc _
  go_enter Tryd.func13, Tryd.ntmps13
  go_wp2_with fail
  rw [← hw1]
  obtain ⟨w2, hw2⟩ : ∃ w2, w2 = w1 := ⟨_, rfl⟩
  have b2 : Tb w2 w.heap.size #[.int .u8 k, .string s, .int .i64 num, .int .i64 pos, .slice a K.length c] := by rw [hw2]; exact b1
  have r2 : Tb w2 (w.heap.size + 1) #[.int .u8 0, .string ⟨#[]⟩, .int .i64 0, .int .i64 0, .slice none 0 0] := by rw [hw2]; exact r1
  have n2 : Tb w2 (w.heap.size + 1 + 1) #[.int .u8 k, .string s, .int .i64 num, .int .i64 pos, .slice none 0 0] := by rw [hw2]; exact n1
  have U2 : Upd [] w w2 := by rw [hw2]; exact U1.out
  rw [← hw2]
  obtain ⟨S2, hTe⟩ : ∃ S2, S2 = s := ⟨_, rfl⟩
  have HI : Hid (RnI w d wt #[.int .u8 k, .string s, .int .i64 num, .int .i64 pos, .slice a K.length c] k num pos S2 K 0 (.slice none 0 0) w2) := by
    rw [hTe]
    exact ⟨U2, b2, r2, n2, Or.inl ⟨rfl, rfl⟩, fun g e => (by cases e), fun _ => [], Hs.zero _ _ _ _, fun i _ h => absurd h (by omega)⟩
  have HTE : Hid (S2 = s) := hTe
  clear b1 r1 n1 b2 r2 n2 U1 U2 hw1 hw2 hTe _hx e1 e2
  go_loopw [6] (fun i wr => ∃ (q : Nat) (v : Value), q ≤ K.length ∧ i = .int .i64 q ∧ RnI w d wt #[.int .u8 k, .string s, .int .i64 num, .int .i64 pos, .slice a K.length c] k num pos S2 K q v wr) (fun i _ => K.length - (intOf i).toNat)
  case atStart => exact ⟨0, .slice none 0 0, Nat.zero_le _, rfl, HI.out⟩
  case round =>
    clear HI
    obtain ⟨q, v, hq, rfl, hI⟩ := hrel
    have HI : Hid (RnI w d wt #[.int .u8 k, .string s, .int .i64 num, .int .i64 pos, .slice a K.length c] k num pos S2 K q v wr) := hI
    have z4 : wr.cell? ⟨w.heap.size, 4, none⟩ = some (.slice a K.length c) := hI.bx.cell 4
    by_cases hlt : q < K.length
    · have i1 : (q : Int) < (K.length : Int) := by omega
      obtain ⟨b3, o3, hae, cs, hl5, hcell, hin⟩ := HR.out.atK q hlt
      subst hae
      have hin' := NIn.mono hI.u _ _ _ hin
      have hc5 : ∀ j, j < 5 → wr.cell? ⟨b3, o3 + (q * 5 + j), none⟩ = cs[j]? := fun j hj => by
        have := hcell j hj
        rw [List.getElem?_eq_getElem (by omega)] at this ⊢
        exact (hI.u.cell (cell_lt this) (by simp)).trans this
      obtain ⟨q0, q1, q2, q3, q4, rfl⟩ := list5 hl5
      have x0 : wr.cell? ⟨b3, o3 + q * 5, none⟩ = some q0 := hc5 0 (by omega)
      have x1 : wr.cell? ⟨b3, o3 + q * 5 + 1, none⟩ = some q1 := hc5 1 (by omega)
      have x2 : wr.cell? ⟨b3, o3 + q * 5 + 2, none⟩ = some q2 := hc5 2 (by omega)
      have x3 : wr.cell? ⟨b3, o3 + q * 5 + 3, none⟩ = some q3 := hc5 3 (by omega)
      have x4 : wr.cell? ⟨b3, o3 + q * 5 + 4, none⟩ = some q4 := hc5 4 (by omega)
      have HIN : Hid (NIn wr d [q0, q1, q2, q3, q4] K[q]) := hin'
      clear hc5 hcell hin hin' hI
      go_wp2_with fail
      refine Calls.mono (IH.out wr _ _ HIN.out (HS.out q hlt).1 (HS.out q hlt).2) ?_
      rintro e w3 ⟨hu3, cs', rfl, hin3⟩
      obtain ⟨T, hT⟩ : ∃ T, T = renN wt K[q] := ⟨_, rfl⟩
      rw [← hT] at hin3
      obtain ⟨kx, sx, nx, px, KX⟩ := T
      have HT : Hid (Nd.mk kx sx nx px KX = renN wt K[q]) := hT
      clear hT
      obtain ⟨ax, cx, hcs⟩ := (NInP.nin _ _ _ hin3).cells
      subst hcs
      obtain ⟨w5, hw5⟩ : ∃ w5, w5 = (w3.alloc (.cells #[.int .u8 kx, .string sx, .int .i64 nx, .int .i64 px, .slice ax KX.length cx] 29)).alloc (.cells #[.int .u8 kx, .string sx, .int .i64 nx, .int .i64 px, .slice ax KX.length cx] 29) := ⟨_, rfl⟩
      have u5 : Upd [] w3 w5 := by rw [hw5]; exact ((Upd.refl [] w3).alloc _).alloc _
      have hI5 : RnI w d wt (#[.int .u8 k, .string s, .int .i64 num, .int .i64 pos, .slice (some ⟨b3, o3, none⟩) K.length c]) k num pos S2 K q v w5 := (HI.out.mono hu3).mono u5
      have HI5 : Hid (RnI w d wt (#[.int .u8 k, .string s, .int .i64 num, .int .i64 pos, .slice (some ⟨b3, o3, none⟩) K.length c]) k num pos S2 K q v w5) := hI5
      have t7 : Tb (w3.alloc (.cells #[.int .u8 kx, .string sx, .int .i64 nx, .int .i64 px, .slice ax KX.length cx] 29)) w3.heap.size #[.int .u8 kx, .string sx, .int .i64 nx, .int .i64 px, .slice ax KX.length cx] := Tb.new _ _ _ rfl
      have t5 : Tb w5 (w3.heap.size + 1) #[.int .u8 kx, .string sx, .int .i64 nx, .int .i64 px, .slice ax KX.length cx] := by rw [hw5]; exact Tb.new _ _ _ (by simp)
      have z5 : (w3.alloc (.cells #[.int .u8 kx, .string sx, .int .i64 nx, .int .i64 px, .slice ax KX.length cx] 29)).cell? ⟨w.heap.size + 1 + 1, 4, none⟩ = some v := ((HI.out.mono hu3).nd.old _).cell 4
      have hone : ∀ u ∈ ([.int .u8 kx, .string sx, .int .i64 nx, .int .i64 px, .slice ax KX.length cx] : List Value), u.oneCell' = true := fun u hu => by
        simp only [List.mem_cons, List.not_mem_nil, or_false] at hu
        rcases hu with h | h | h | h | h <;> subst h <;> rfl
      have HIN5 : Hid (NInP (fun b => w.heap.size + 3 ≤ b ∧ v.ownBlock ≠ some b) w5 d [.int .u8 kx, .string sx, .int .i64 nx, .int .i64 px, .slice ax KX.length cx] (renN wt K[q])) := by
        rw [← HT.out]
        exact NInP.upd u5 (fun b _ hb => ⟨by simp, by have := HI.out.nd.lt; omega, fun e => by have := HI.out.row.lt b e; omega⟩) _ _ _ hin3
      have HCL : Hid (∀ j u, ([.int .u8 kx, .string sx, .int .i64 nx, .int .i64 px, .slice ax KX.length cx] : List Value)[j]? = some u → w5.cell? ((⟨w3.heap.size + 1, 0, none⟩ : Addr).add j) = some u) := fun j u hj => by
        rw [Addr.add_lit, Nat.zero_add, t5.cell j]
        simpa using hj
      have HR5 : Hid (RowG w5 5 v q) := hI5.row
      have HND : Hid (∀ g' w', Grew 5 w5 w' v q g' → Tb w' (w.heap.size + 1 + 1) #[.int .u8 k, .string S2, .int .i64 num, .int .i64 pos, v]) := fun g' w' hg => HI5.out.nd.mono hg.upd (by
        have h1 := HI5.out.nd.lt
        simp
        rcases hg.at' with e | e
        · have := HI5.out.own g' e; omega
        · omega)
      clear hu3 hin3 u5 hI5 t5 x0 x1 x2 x3 x4 z4 HIN
      have hw5' : (w3.alloc (.cells #[.int .u8 kx, .string sx, .int .i64 nx, .int .i64 px, .slice ax KX.length cx] 29)).alloc (.cells #[.int .u8 kx, .string sx, .int .i64 nx, .int .i64 px, .slice ax KX.length cx] 29) = w5 := hw5.symm
      go_wp2_with (first | (refine bs_T rfl _ rfl kx nx px sx ax KX.length cx rfl (w3.heap.size + 1) (by simp) ?_; simp only [Act.put, List.setIfInBounds_toArray, List.set_cons_succ, List.set_cons_zero]; rw [hw5']) | (at_builtin; refine wpList_appendG (v := v) (n := q) rfl _ _ 27 rfl p1 p2 p3 p4 p5 p6 rfl HR5.out ⟨w3.heap.size + 1, 0, none⟩ 1 1 [.int .u8 kx, .string sx, .int .i64 nx, .int .i64 px, .slice ax KX.length cx] rfl rfl HCL.out hone (by omega) (by omega) (by omega) ?_; intro g' cap' w6 hr6 hg6 hn6; have nd6 := HND.out g' w6 hg6; have z6 := nd6.cell 4; have f6 := nd6.free 4) | fail)
      exact ⟨⟨q + 1, _, by omega, by simp, HI5.out.step hlt rfl HIN5.out hr6 hg6 hn6 rfl⟩, by simp [intOf]; omega⟩
    · have hd : decide ((q : Int) < (K.length : Int)) = false := by simp; omega
      have hqe : q = K.length := by omega
      subst hqe
      obtain ⟨av, cv, hv, _⟩ := hI.row.form
      subst hv
      have tn := hI.nd
      have tr := hI.rs
      clear hI
      go_wp2_with (first | (refine load_T _ rfl _ rfl _ _ rfl tn rfl ?_) | (refine store_T _ rfl _ _ rfl _ _ _ rfl rfl tr rfl rfl (by simp [Value.oneCell']) ?_; intro w8 tR8 u8) | fail)
      refine ret_T Tryd.results13 rfl _ _ rfl tR8 rfl ⟨HI.out.u.then u8 (by simp), [.int .u8 k, .string S2, .int .i64 num, .int .i64 pos, .slice av K.length cv], rfl, av, cv, by rw [renL_len, HTE.out], ?_, ?_⟩
      · obtain ⟨C, hC, hK⟩ := HI.out.has
        by_cases h0 : K = []
        · exact Or.inl (by rw [h0, renL])
        · rcases HI.out.row with ⟨e, hz⟩ | ⟨g, cap, e, hg, hcp, hm, _⟩
          · exact absurd (List.eq_nil_of_length_eq_zero hz) h0
          · cases e
            have hog := HI.out.own g rfl
            refine Or.inr ⟨g, 0, rfl, by omega, Nat.lt_of_lt_of_le hg u8.size, fun i hi => ?_⟩
            have hi' : i < K.length := by rw [renL_len] at hi; exact hi
            refine ⟨C i, (hK i hi' hi').1, fun j hj => ?_, ?_⟩
            · rw [Nat.zero_add]
              exact (u8.cell (p := ⟨g, i * 5 + j, none⟩) hg (by simp; omega)).trans (hC g _ _ rfl i j hi' hj)
            · have e : (renL wt K)[i]'hi = renN wt (K[i]'hi') := by simp [renL_map]
              rw [e]
              exact NInP.upd u8 (fun b _ hb => ⟨by simp; omega, by omega⟩) _ _ _ (hK i hi' hi').2
      · rw [renL_len]
        rcases HI.out.row with ⟨e, hz⟩ | ⟨g, cap, e, hg, hcp, hm, _⟩
        · simp only [Value.slice.injEq] at e
          omega
        · simp only [Value.slice.injEq] at e
          unfold maxLen at hm
          omega

theorem ren_step (wt : ByteArray) (hwt : wt.size ≤ 9) (d : Nat) (ih : RenS wt d) : RenS wt (d + 1) := by
  intro w cs t hin hz hx
  obtain ⟨k, s, num, pos, K⟩ := t
  obtain ⟨a, c, rfl, hR, hcp⟩ := hin
  have hz1 : nszs K ≤ 2199023255488 := by simpa [nsz] using hz
  have hx1 : s.size ≤ 140737488355328 ∧ nxzs K ≤ 140737488355328 := by rw [nxz] at hx; omega
  have hs0 : K.length ≤ 2199023255488 := Nat.le_trans (nszs_len K) hz1
  have HS : ∀ i (hi : i < K.length), nsz K[i] ≤ 2199023255488 ∧ nxz K[i] ≤ 140737488355328 := fun i hi => ⟨Nat.le_trans (nszs_get K i hi) hz1, Nat.le_trans (nxzs_get K i hi) hx1.2⟩
  by_cases hk : k = 3
  · subst hk
    by_cases hu : s = ⟨#[95]⟩
    · have e : renN wt (.mk 3 s num pos K) = .mk 3 s num pos (renL wt K) := by rw [renN]; simp [hu]
      rw [e]
      exact ren_und wt hwt d ih w num pos s K a c hR hs0 HS hx1.1 hu
    · have e : renN wt (.mk 3 s num pos K) = .mk 3 (s ++ wt) num pos (renL wt K) := by rw [renN]; simp [hu]
      rw [e]
      exact ren_var wt hwt d ih w num pos s K a c hR hs0 HS hx1.1 hu
  · rw [ren_n hk]
    exact ren_oth wt hwt d ih w k num pos s K a c hR hs0 HS hx1.1 hk
theorem renamed_in (wt : ByteArray) (hwt : wt.size ≤ 9) : ∀ d, RenS wt d
  | 0 => fun _ _ _ h => absurd h (fun h => h)
  | d + 1 => ren_step wt hwt d (renamed_in wt hwt d)

end Go.Proofs.YtpgjcedonimgnaaDoor

/- Operations of LintNames' last region. -/
namespace Go.Proofs.YtpgjcedonimgnaaDoor
open Go.RowKit

theorem wp_asg {o : Oper} {a : Act} {w : World} {K : Act → World → Prop} {Q : Exit → Act → World → Prop} (x : Operand) (ho : o.op = .assign x) (v : Value) (hx : a.eval x = v) (h : K (a.put o.dst v) w) : o.wp Tryd.prog a w K Q := by
  refine wp_pure ?_ h
  unfold execOp
  simp only [ho, hx]
  rfl
theorem wp_eqlF {o : Oper} {a : Act} {w : World} {K : Act → World → Prop} {Q : Exit → Act → World → Prop} (x y : Operand) (ho : o.op = .binOp .eql 33 x y 33) (n m : Int) (hx : a.eval x = .agg #[.int .i64 n, .int .i64 m]) (hy : a.eval y = .agg #[.int .i64 n, .int .i64 m]) (h : K (a.put o.dst (.bool true)) w) : o.wp Tryd.prog a w K Q := by
  refine wp_pure ?_ h
  unfold execOp
  simp only [ho, hx, hy]
  simp [go_sem]

end Go.Proofs.YtpgjcedonimgnaaDoor

/- LintNames, walked. -/
namespace Go.Proofs.YtpgjcedonimgnaaDoor
open Go.RowKit

/-- What the operations of the last region have put. -/
def NmR (d : Nat) (wt : ByteArray) (m : Nd) (ac : Array Value) (fa : Flt) : Nat → Value → World → Prop
  | 0, v, _ => v = .agg ac
  | 1, v, _ => v = .string wt
  | 2, v, w => ∃ cs : List Value, v = .agg cs.toArray ∧ NIn w d cs (renN wt m)
  | 3, v, _ => v = .agg #[.int .i64 fa.1, .int .i64 fa.2]
  | 4, v, _ => v = .agg ac
  | 5, v, _ => v = .agg #[.int .i64 fa.1, .int .i64 fa.2]
  | 6, v, _ => v = .bool true
  | _, _, _ => True
theorem NmR.stab {d : Nat} {wt : ByteArray} {m : Nd} {ac : Array Value} {fa : Flt} (j : Nat) (v : Value) (w w' : World) (h : NmR d wt m ac fa j v w) (hu : Upd [] w w') : NmR d wt m ac fa j v w' := by
  match j, h with
  | 0, h => exact h
  | 1, h => exact h
  | 2, ⟨cs, e, hin⟩ => exact ⟨cs, e, NIn.mono hu _ _ _ hin⟩
  | 3, h => exact h
  | 4, h => exact h
  | 5, h => exact h
  | 6, h => exact h
  | _ + 7, _ => trivial

mutual
theorem lon_nxz : ∀ t : Nd, lonN t ≤ nxz t
  | .mk k s num pos K => by
    rw [lonN, nxz]
    have := lon_nxzs K
    split <;> omega
theorem lon_nxzs : ∀ K : List Nd, lonR K ≤ nxzs K
  | [] => by rw [lonR, nxzs]; omega
  | n :: K => by rw [lonR, nxzs]; have := lon_nxz n; have := lon_nxzs K; omega
end
set_option maxHeartbeats 8000000 in
set_option maxRecDepth 100000 in
theorem Names_walk (A : Nat → Option Addr) (C : Nat → Nat) (d : Nat) (w : World) (ka na pa : Int) (sa : ByteArray) (KA : List Nd) (aA : Option Addr) (cA : Nat) (wt : ByteArray)
    (hA : NIn w (d + 1) [.int .u8 ka, .string sa, .int .i64 na, .int .i64 pa, .slice aA KA.length cA] (.mk ka sa na pa KA))
    (zA : nsz (.mk ka sa na pa KA) ≤ 2199023255488) (xA : nxz (.mk ka sa na pa KA) ≤ 140737488355328) (hF : Frm A C w) (hO : Ops w) (hBl : Blt w) :
    Calls Tryd.prog 5 #[.agg #[.int .u8 ka, .string sa, .int .i64 na, .int .i64 pa, .slice aA KA.length cA], .string wt] w fun e w' => e = .returned (.bool true) ∧ Upd [] w w' := by
  have HF : Hid (Frm A C w ∧ Ops w ∧ Blt w) := ⟨hF, hO, hBl⟩
  have HA : Hid (NIn w (d + 1) [.int .u8 ka, .string sa, .int .i64 na, .int .i64 pa, .slice aA KA.length cA] (.mk ka sa na pa KA)) := hA
  have HZ : Hid (nsz (.mk ka sa na pa KA) ≤ 2199023255488 ∧ nxz (.mk ka sa na pa KA) ≤ 140737488355328) := ⟨zA, xA⟩
  clear hA zA xA hF hO hBl
  obtain ⟨fa, hfa⟩ : ∃ fa, fa = chkF (.mk ka sa na pa KA) := ⟨_, rfl⟩
  have HFA : Hid (fa = chkF (.mk ka sa na pa KA)) := hfa
  have HCK : Hid (∀ W cs m, Upd [] w W → NIn W (d + 1) cs m → nsz m ≤ 2199023255488 → nxz m ≤ 140737488355328 → Calls Tryd.prog 11 #[.agg cs.toArray] W fun e w' => e = .returned (.agg #[.int .i64 (chkF m).1, .int .i64 (chkF m).2]) ∧ Upd [] W w') := fun W cs m hu hin h1 h2 => Check_any A C (d + 1) W cs m hin h1 h2 (HF.out.1.mono hu) (HF.out.2.1.mono hu) (HF.out.2.2.mono hu)
  have HCA : Hid (∀ W, Upd [] w W → Calls Tryd.prog 11 #[.agg #[.int .u8 ka, .string sa, .int .i64 na, .int .i64 pa, .slice aA KA.length cA]] W fun e w' => e = .returned (.agg #[.int .i64 fa.1, .int .i64 fa.2]) ∧ Upd [] W w') := fun W hu => by rw [hfa]; exact HCK.out W _ _ hu (NIn.mono hu _ _ _ HA.out) HZ.out.1 HZ.out.2
  clear hfa
  obtain ⟨fs, hdesc⟩ := term_desc
  have hfld : ∀ (u v : Int) (w : World), (Instr.field 33 (.agg #[.int .i64 u, .int .i64 v]) 0).run Tryd.prog w = .ok (.int .i64 u) w := fun u v w => by kernel_rfl
  obtain ⟨w1, hw1⟩ : ∃ w1, w1 = w.alloc (.cells #[.int .u8 ka, .string sa, .int .i64 na, .int .i64 pa, .slice aA KA.length cA] 29) := ⟨_, rfl⟩
  have tA1 : Tb w1 w.heap.size #[.int .u8 ka, .string sa, .int .i64 na, .int .i64 pa, .slice aA KA.length cA] := by rw [hw1]; exact Tb.new _ _ _ rfl
  have U1 : Hid (Upd [] w w1) := by rw [hw1]; exact (Upd.refl [] w).alloc _
  go_enter Tryd.func5, Tryd.ntmps5
  go_wp2_with fail
  rw [← hw1]
  clear hw1
  refine Calls.mono (awake_any A C w1 (HF.out.1.mono U1.out) (HF.out.2.1.mono U1.out) (HF.out.2.2.mono U1.out)) ?_
  rintro e w2 ⟨rfl, u2⟩
  have tA2 := tA1.mono u2 (by simp)
  have U2 : Hid (Upd [] w w2) := U1.out.trans u2
  clear tA1 U1 u2
  go_wp2_with (first | (refine load_T _ rfl _ rfl _ _ rfl tA2 rfl ?_) | fail)
  refine Calls.mono (small_in (d + 1) w2 _ _ (NIn.mono U2.out _ _ _ HA.out) HZ.out.1 HZ.out.2) ?_
  rintro e w3 ⟨⟨b1, rfl, hb1⟩, u3⟩
  have tA3 := tA2.mono u3 (by simp)
  have U3 : Hid (Upd [] w w3) := U2.out.trans u3
  clear tA2 U2 u3 hb1
  cases b1 with
  | false =>
    go_wp2_with fail
    go_ret
    exact ⟨rfl, U3.out⟩
  | true =>
    go_wp2_with (first | (refine load_G _ _ rfl _ _ rfl tA3 rfl rfl ?_) | fail)
    refine Calls.mono (HCA.out w3 U3.out) ?_
    rintro e w4 ⟨rfl, u4⟩
    have tA4 := tA3.mono u4 (by simp)
    have U4 : Hid (Upd [] w w4) := U3.out.trans u4
    clear tA3 U3 u4
    by_cases hfa : fa.1 = 4
    · have e1 : (fa.1 == 4) = true := by simp [hfa]
      clear hfa
      go_wp2_with fail
      go_ret
      exact ⟨rfl, U4.out⟩
    · have e1 : (fa.1 == 4) = false := by simp [hfa]
      have HF4 : Hid (fa.1 ≠ 4) := hfa
      clear hfa
      by_cases h1 : wt.size < 1
      · have e2 : decide ((wt.size : Int) < 1) = true := decide_eq_true (by omega)
        have e2b : decide (wt.size < 1) = true := decide_eq_true h1
        have e2c : (wt.size : Int) < 1 := by omega
        clear h1
        go_wp2_with fail
        go_ret
        exact ⟨rfl, U4.out⟩
      · have e2 : decide ((wt.size : Int) < 1) = false := decide_eq_false (by omega)
        have e2b : decide (wt.size < 1) = false := decide_eq_false h1
        have e2c : ¬ (wt.size : Int) < 1 := by omega
        by_cases h9 : 9 < wt.size
        · have e3 : decide ((9 : Int) < (wt.size : Int)) = true := decide_eq_true (by omega)
          have e3b : decide (9 < wt.size) = true := decide_eq_true h9
          have e3c : (9 : Int) < (wt.size : Int) := by omega
          clear h1 h9
          go_wp2_with fail
          go_ret
          exact ⟨rfl, U4.out⟩
        · have e3 : decide ((9 : Int) < (wt.size : Int)) = false := decide_eq_false (by omega)
          have e3b : decide (9 < wt.size) = false := decide_eq_false h9
          have e3c : ¬ (9 : Int) < (wt.size : Int) := by omega
          have HW : Hid (1 ≤ wt.size ∧ wt.size ≤ 9) := ⟨by omega, by omega⟩
          clear h1 h9
          go_wp2_with (first | (refine load_G _ _ rfl _ _ rfl tA4 rfl rfl ?_) | fail)
          refine Calls.mono (longest_in (d + 1) w4 _ _ (NIn.mono U4.out _ _ _ HA.out) HZ.out.1 HZ.out.2) ?_
          rintro e w5 ⟨rfl, u5⟩
          have tA5 := tA4.mono u5 (by simp)
          have U5 : Hid (Upd [] w w5) := U4.out.trans u5
          clear tA4 U4 u5
          obtain ⟨L, hL⟩ : ∃ L, L = lonN (.mk ka sa na pa KA) := ⟨_, rfl⟩
          rw [← hL]
          have HL : Hid (L = lonN (.mk ka sa na pa KA)) := hL
          have hLb : L ≤ 140737488355328 := by rw [hL]; exact Nat.le_trans (lon_nxz _) HZ.out.2
          clear hL
          have hw9 : wt.size ≤ 9 := HW.out.2
          have hw1 : wrap64 ((L : Int) + (wt.size : Int)) = ((L + wt.size : Nat) : Int) := by unfold wrap64; omega
          have hw2 : IntKind.i64.wrap ((L : Int) + (wt.size : Int)) = ((L + wt.size : Nat) : Int) := by rw [IntKind.wrap_i64]; omega
          by_cases h40 : 40 < L + wt.size
          · have e4 : decide ((40 : Int) < ((L + wt.size : Nat) : Int)) = true := decide_eq_true (by omega)
            have e4b : decide (40 < L + wt.size) = true := decide_eq_true h40
            have e4c : decide ((40 : Int) < (L : Int) + (wt.size : Int)) = true := decide_eq_true (by omega)
            clear h40
            go_wp2_with fail
            go_ret
            exact ⟨rfl, U5.out⟩
          · have e4 : decide ((40 : Int) < ((L + wt.size : Nat) : Int)) = false := decide_eq_false (by omega)
            have e4b : decide (40 < L + wt.size) = false := decide_eq_false h40
            have e4c : decide ((40 : Int) < (L : Int) + (wt.size : Int)) = false := decide_eq_false (by omega)
            have H40 : Hid (lonN (.mk ka sa na pa KA) + wt.size ≤ 40) := by rw [← HL.out]; show L + wt.size ≤ 40; omega
            clear h40
            go_wp2_with fail
            go_loopw [5, 6] (fun i _ wr => ∃ q : Nat, q ≤ wt.size ∧ i = .int .i64 q ∧ Hid (∀ j (h : j < wt.size), j < q → (97 ≤ (wt[j]'h).toNat ∧ (wt[j]'h).toNat ≤ 122) ∨ (48 ≤ (wt[j]'h).toNat ∧ (wt[j]'h).toNat ≤ 57)) ∧ Upd [] w5 wr) (fun i _ _ => wt.size - (intOf i).toNat)
            case atStart => exact ⟨0, Nat.zero_le _, rfl, fun j _ h => absurd h (by omega), Upd.refl _ _⟩
            case round =>
              rename World => wi
              obtain ⟨q, hq, rfl, HQ, hui⟩ := hrel
              have HUI : Hid (Upd [] w wi) := U5.out.trans hui
              have HU5 : Hid (Upd [] w5 wi) := hui
              have tAi := tA5.mono hui (by simp)
              clear hui
              by_cases hlt : q < wt.size
              · have i1 : (q : Int) < (wt.size : Int) := by omega
                by_cases c0 : (wt[q]'hlt).toNat < 48
                · skip
                  have g1 : decide ((((wt[q]'hlt).toNat : Nat) : Int) < 97) = true := decide_eq_true (by omega)
                  have g1b : decide ((wt[q]'hlt).toNat < 97) = true := decide_eq_true (by omega)
                  have g2 : decide ((((wt[q]'hlt).toNat : Nat) : Int) < 48) = true := decide_eq_true (by omega)
                  have g2b : decide ((wt[q]'hlt).toNat < 48) = true := decide_eq_true (by omega)
                  go_wp2_with fail
                  go_ret
                  exact ⟨rfl, HUI.out⟩
                by_cases c1 : (wt[q]'hlt).toNat ≤ 57
                · skip
                  have g1 : decide ((((wt[q]'hlt).toNat : Nat) : Int) < 97) = true := decide_eq_true (by omega)
                  have g1b : decide ((wt[q]'hlt).toNat < 97) = true := decide_eq_true (by omega)
                  have g2 : decide ((((wt[q]'hlt).toNat : Nat) : Int) < 48) = false := decide_eq_false (by omega)
                  have g2b : decide ((wt[q]'hlt).toNat < 48) = false := decide_eq_false (by omega)
                  have g3 : decide ((57 : Int) < (((wt[q]'hlt).toNat : Nat) : Int)) = false := decide_eq_false (by omega)
                  have g3b : decide (57 < (wt[q]'hlt).toNat) = false := decide_eq_false (by omega)
                  have HN : Hid (∀ j (h : j < wt.size), j < q + 1 → (97 ≤ (wt[j]'h).toNat ∧ (wt[j]'h).toNat ≤ 122) ∨ (48 ≤ (wt[j]'h).toNat ∧ (wt[j]'h).toNat ≤ 57)) := fun j h hj => by
                    by_cases e : j = q
                    · subst e; omega
                    · exact HQ.out j h (by omega)
                  clear c0 c1
                  go_wp2_with fail
                  go_roundw
                  case rel => exact ⟨q + 1, by omega, by go_num, HN, HU5.out⟩
                  case measure => simp [intOf]; omega
                by_cases c2 : (wt[q]'hlt).toNat < 97
                · skip
                  have g1 : decide ((((wt[q]'hlt).toNat : Nat) : Int) < 97) = true := decide_eq_true (by omega)
                  have g1b : decide ((wt[q]'hlt).toNat < 97) = true := decide_eq_true (by omega)
                  have g2 : decide ((((wt[q]'hlt).toNat : Nat) : Int) < 48) = false := decide_eq_false (by omega)
                  have g2b : decide ((wt[q]'hlt).toNat < 48) = false := decide_eq_false (by omega)
                  have g3 : decide ((57 : Int) < (((wt[q]'hlt).toNat : Nat) : Int)) = true := decide_eq_true (by omega)
                  have g3b : decide (57 < (wt[q]'hlt).toNat) = true := decide_eq_true (by omega)
                  go_wp2_with fail
                  go_ret
                  exact ⟨rfl, HUI.out⟩
                by_cases c3 : (wt[q]'hlt).toNat ≤ 122
                · skip
                  have g1 : decide ((((wt[q]'hlt).toNat : Nat) : Int) < 97) = false := decide_eq_false (by omega)
                  have g1b : decide ((wt[q]'hlt).toNat < 97) = false := decide_eq_false (by omega)
                  have g4 : decide ((122 : Int) < (((wt[q]'hlt).toNat : Nat) : Int)) = false := decide_eq_false (by omega)
                  have g4b : decide (122 < (wt[q]'hlt).toNat) = false := decide_eq_false (by omega)
                  have HN : Hid (∀ j (h : j < wt.size), j < q + 1 → (97 ≤ (wt[j]'h).toNat ∧ (wt[j]'h).toNat ≤ 122) ∨ (48 ≤ (wt[j]'h).toNat ∧ (wt[j]'h).toNat ≤ 57)) := fun j h hj => by
                    by_cases e : j = q
                    · subst e; omega
                    · exact HQ.out j h (by omega)
                  clear c0 c1 c2 c3
                  go_wp2_with fail
                  go_roundw
                  case rel => exact ⟨q + 1, by omega, by go_num, HN, HU5.out⟩
                  case measure => simp [intOf]; omega
                have g1 : decide ((((wt[q]'hlt).toNat : Nat) : Int) < 97) = false := decide_eq_false (by omega)
                have g1b : decide ((wt[q]'hlt).toNat < 97) = false := decide_eq_false (by omega)
                have g4 : decide ((122 : Int) < (((wt[q]'hlt).toNat : Nat) : Int)) = true := decide_eq_true (by omega)
                have g4b : decide (122 < (wt[q]'hlt).toNat) = true := decide_eq_true (by omega)
                have g2 : decide ((((wt[q]'hlt).toNat : Nat) : Int) < 48) = false := decide_eq_false (by omega)
                have g2b : decide ((wt[q]'hlt).toNat < 48) = false := decide_eq_false (by omega)
                have g3 : decide ((57 : Int) < (((wt[q]'hlt).toNat : Nat) : Int)) = true := decide_eq_true (by omega)
                have g3b : decide (57 < (wt[q]'hlt).toNat) = true := decide_eq_true (by omega)
                go_wp2_with fail
                go_ret
                exact ⟨rfl, HUI.out⟩
              · have hd1 : decide ((q : Int) < (wt.size : Int)) = false := by simp; omega
                have HLW : Hid (LowW wt) := fun j h => HQ.out j h (by omega)
                go_wp2_with fail
                rename_i K2 hK2
                have HRN : Hid (chkF (renN wt (Nd.mk ka sa na pa KA)) = fa) := by rw [HFA.out]; exact chk_ren HLW.out (by have := HW.out; omega) (Nd.mk ka sa na pa KA) H40.out (HFA.out ▸ HF4.out)
                have HRZ : Hid (nsz (renN wt (Nd.mk ka sa na pa KA)) ≤ 2199023255488 ∧ nxz (renN wt (Nd.mk ka sa na pa KA)) ≤ 140737488355328) := ⟨by rw [ren_nsz]; exact HZ.out.1, ren_nxz (by decide) _ H40.out HZ.out.2⟩
                refine region_lastT (by kernel_rfl) 7 rfl [some 59, some 60, some 61, some 62, some 63, some 64, some 65, some 4] rfl (by decide) rfl (by kernel_rfl) (by kernel_rfl) (NmR (d + 1) wt (Nd.mk ka sa na pa KA) #[.int .u8 ka, .string sa, .int .i64 na, .int .i64 pa, .slice aA KA.length cA] fa) NmR.stab ?_ ?_
                · intro D vs a' w8 i o' hA hU hV hS hi ho haf
                  have hc5 : i = 0 ∨ i = 1 ∨ i = 2 ∨ i = 3 ∨ i = 4 ∨ i = 5 ∨ i = 6 := by omega
                  have t8 := tAi.mono hU (by simp)
                  rcases hc5 with rfl | rfl | rfl | rfl | rfl | rfl | rfl <;> cases ho
                  · exact ops_wp rfl rfl (wp_load_row 29 (.tmp 2) rfl _ (hA.ev 2 (by decide)) 29 _ (0, 0) _ t8 hdesc rfl (by rw [info_term]; rfl) ⟨_, rfl, rfl, Upd.refl _ _⟩)
                  · exact ops_wp rfl rfl (wp_move (.tmp 1) rfl _ (hA.ev 1 (by decide)) ⟨_, rfl, rfl, Upd.refl _ _⟩)
                  · have D0 := haf ⟨0, .data⟩ (by simp) rfl
                    have D1 := haf ⟨1, .data⟩ (by simp) rfl
                    refine ops_wp rfl rfl (wp_callA rfl Tryd.call13 (vs := #[.agg #[.int .u8 ka, .string sa, .int .i64 na, .int .i64 pa, .slice aA KA.length cA], .string wt]) ?_ (R := fun u w' => (∃ cs : List Value, u = .agg cs.toArray ∧ NIn w' (d + 1) cs (renN wt (Nd.mk ka sa na pa KA))) ∧ Upd [] w8 w') ?_ ?_)
                    · have e0 : a'.eval (.tmp 59) = _ := (hS 0 59 rfl D0).trans (hV 0 D0)
                      have e1 : a'.eval (.tmp 60) = _ := (hS 1 60 rfl D1).trans (hV 1 D1)
                      simp only [List.map_toArray, List.map_cons, List.map_nil, e0, e1]
                    · exact (renamed_in wt HW.out.2 (d + 1) w8 _ _ (NIn.mono (HUI.out.trans hU) _ _ _ HA.out) HZ.out.1 HZ.out.2).mono fun e w' ⟨hu, cs', he, hin⟩ => ⟨_, he, ⟨cs', rfl, NInP.nin _ _ _ hin⟩, hu⟩
                    · rintro u w9 ⟨hc, hu⟩; exact ⟨_, rfl, hc, hu⟩
                  · have D2 := haf ⟨2, .data⟩ (by simp) rfl
                    obtain ⟨cs', ev, hin⟩ := hV 2 D2
                    refine ops_wp rfl rfl (wp_callA rfl Tryd.call11 (vs := #[.agg cs'.toArray]) ?_ (R := fun u w' => u = .agg #[.int .i64 fa.1, .int .i64 fa.2] ∧ Upd [] w8 w') ?_ ?_)
                    · have e0 : a'.eval (.tmp 61) = _ := (hS 2 61 rfl D2).trans ev
                      simp only [List.map_toArray, List.map_cons, List.map_nil, e0]
                    · refine (HCK.out w8 _ _ (HUI.out.trans hU) hin HRZ.out.1 HRZ.out.2).mono fun e w' ⟨he, hu⟩ => ⟨_, he, ?_, hu⟩
                      rw [HRN.out]
                    · rintro u w9 ⟨hc, hu⟩; exact ⟨_, rfl, hc, hu⟩
                  · exact ops_wp rfl rfl (wp_load_row 29 (.tmp 2) rfl _ (hA.ev 2 (by decide)) 29 _ (0, 0) _ t8 hdesc rfl (by rw [info_term]; rfl) ⟨_, rfl, rfl, Upd.refl _ _⟩)
                  · have D4 := haf ⟨4, .data⟩ (by simp) rfl
                    refine ops_wp rfl rfl (wp_callA rfl Tryd.call11 (vs := #[.agg #[.int .u8 ka, .string sa, .int .i64 na, .int .i64 pa, .slice aA KA.length cA]]) ?_ (R := fun u w' => u = .agg #[.int .i64 fa.1, .int .i64 fa.2] ∧ Upd [] w8 w') ?_ ?_)
                    · have e0 : a'.eval (.tmp 63) = _ := (hS 4 63 rfl D4).trans (hV 4 D4)
                      simp only [List.map_toArray, List.map_cons, List.map_nil, e0]
                    · exact (HCA.out w8 (HUI.out.trans hU)).mono fun e w' ⟨he, hu⟩ => ⟨_, he, rfl, hu⟩
                    · rintro u w9 ⟨hc, hu⟩; exact ⟨_, rfl, hc, hu⟩
                  · have D3 := haf ⟨3, .data⟩ (by simp) rfl
                    have D5 := haf ⟨5, .data⟩ (by simp) rfl
                    exact ops_wp rfl rfl (wp_eqlF (.tmp 62) (.tmp 64) rfl _ _ ((hS 3 62 rfl D3).trans (hV 3 D3)) ((hS 5 64 rfl D5).trans (hV 5 D5)) ⟨_, rfl, rfl, Upd.refl _ _⟩)
                · intro vs a' w8 o' hv hA hU hV hS ho
                  cases ho
                  refine ops_wp rfl rfl (wp_asg (.tmp 65) rfl _ ((hS 6 65 rfl (by omega)).trans (hV 6 (by omega))) ⟨_, rfl, ?_⟩)
                  obtain ⟨v0, r0, rfl, hv0⟩ := list_cons hv
                  obtain ⟨v1, r1, rfl, hv1⟩ := list_cons hv0
                  obtain ⟨v2, r2, rfl, hv2⟩ := list_cons hv1
                  obtain ⟨v3, r3, rfl, hv3⟩ := list_cons hv2
                  obtain ⟨v4, r4, rfl, hv4⟩ := list_cons hv3
                  obtain ⟨v5, r5, rfl, hv5⟩ := list_cons hv4
                  obtain ⟨v6, r6, rfl, hv6⟩ := list_cons hv5
                  obtain ⟨v7, r7, rfl, hv7⟩ := list_cons hv6
                  have UE : Hid (Upd [] w w8) := HUI.out.trans hU
                  clear hV hS hA hU hv hv0 hv1 hv2 hv3 hv4 hv5 hv6 hv7
                  simp only [List.set_cons_succ, List.set_cons_zero, putAll, Act.put, List.setIfInBounds_toArray]
                  show K2 _ _
                  refine hK2 _ _ ?_
                  clear hK2
                  go_wp2_with fail
                  go_ret
                  exact ⟨rfl, UE.out⟩

end Go.Proofs.YtpgjcedonimgnaaDoor

/- The card of LintNames: whatever tree and whatever text it is given, the call returns true (what variables are called makes no difference to what is told of a tree). Conditions: the row's own alone. -/
namespace Go.Proofs.YtpgjcedonimgnaaDoor
open Go.RowKit

/-- The card: LintNames returns true. -/
theorem lintNames_card_holds : Rows.LintNamesCardSaid := lintNames_card (fun d cs0 t0 wt W hg in0 y0 x0 => by
  obtain ⟨A, C, hF, hO, hB⟩ := hg
  cases d with
  | zero => exact in0.elim
  | succ d =>
    obtain ⟨k0, s0, n0, p0, K0⟩ := t0
    obtain ⟨a0, c0, rfl⟩ := in0.cells
    exact Names_walk A C d W k0 n0 p0 s0 K0 a0 c0 wt in0 y0 x0 hF hO hB)

end Go.Proofs.YtpgjcedonimgnaaDoor
