/- MailOrder, walked. -/
import Derived.Test.YtmdkhkeljpdbiaaMoA
import Derived.Deep.DeepCutAuto
import Derived.Deep.CutBlock
namespace Go.Proofs.Ytmdkhkeljpdbiaa
open Go.RowKit

/-- The steps: what each Op is. -/
def Ops (w : World) (a : Option Addr) (n : Nat) : Prop := ∀ i, i < n → ∃ gl ol op, a = some ⟨gl, ol, none⟩ ∧ gl < w.heap.size ∧ w.cell? ⟨gl, ol + i * 8, none⟩ = some (.int .i64 op)
def OrdR (w0 w : World) (b x n : Nat) (s4 s6 : Value) : Prop := ∃ c i v k g, s4 = .int .i64 (c : Nat) ∧ s6 = .int .i64 (i : Nat) ∧ c ≤ i ∧ i ≤ n ∧ Ord w0 w b x v c k g
def OrdC (w0 w : World) (b x i : Nat) (s4 : Value) : Prop := ∃ c v k g, s4 = .int .i64 (c : Nat) ∧ c ≤ i + 1 ∧ Ord w0 w b x v c k g
theorem zero_gone (w : World) (cs : Array Value) (x : Nat) (hx : x = w.heap.size) (h : cs = Array.replicate 80 (.bool false)) : Gb (w.alloc (.cells cs 51)) x (fun _ => false) := by
  subst hx
  refine ⟨cs, heap_alloc_new w _, by rw [h]; simp, fun i hi => ?_⟩
  rw [h, Array.getElem?_replicate, if_pos hi]

/-- All that was there ahead stays. -/
structure LowB (w0 w : World) (b : Nat) (v : Value) : Prop where
  low : Upd [] w0 w
  bl : w0.heap.size ≤ b
  vl : ∀ y, v.ownBlock = some y → w0.heap.size ≤ y
theorem LowB.step {w0 w w' : World} {b : Nat} {v v' : Value} (h : LowB w0 w b v) (hu : UpdB b v w w' v') : LowB w0 w' b v' := by
  have hs := h.low.size
  refine ⟨⟨hu.os.trans h.low.os, hu.tape.trans h.low.tape, hu.output.trans h.low.output, Nat.le_trans hs hu.size, fun i hi _ => ?_⟩, h.bl, fun y hy => ?_⟩
  · have hv : v.ownBlock ≠ some i := fun e => by have := h.vl i e; omega
    exact (hu.block i (by omega) (by have := h.bl; omega) hv).trans (h.low.block i hi (by simp))
  · rcases Nat.lt_or_ge y w0.heap.size with hlt | hge
    · have hv : v.ownBlock ≠ some y := fun e => by have := h.vl y e; omega
      exact absurd hy (hu.own y (by omega) hv)
    · exact hge
def LastR (w0 w : World) (b : Nat) (s12 : Value) : Prop := ∃ v R la, s12 = .int .i64 la ∧ BoxV w b v (List.map lf R) 0 ∧ R.Pairwise (· < ·) ∧ (∀ m ∈ R, la < (m : Int)) ∧ R.length ≤ 80 ∧ LowB w0 w b v
def lenAt (w : World) (b : Nat) : Nat := match w.cell? ⟨b, 1, none⟩ with | some (.slice _ n _) => n | _ => 0
theorem BoxV.lenAt {w : World} {b : Nat} {v : Value} {L : List (List Value)} {k : Nat} (h : BoxV w b v L k) : lenAt w b = L.length := by
  obtain ⟨p, c, rfl⟩ := h.form
  unfold Go.Proofs.Ytmdkhkeljpdbiaa.lenAt
  rw [h.bx.c1]
def InR (g : Nat → Bool) (c : Nat) (s10 s11 : Value) : Prop := ∃ kk : Nat, kk ≤ c ∧ s10 = .int .i64 ((left g kk).length : Nat) ∧ s11 = .int .i64 (kk : Nat)
theorem all_left (w : World) (b : Nat) (v : Value) (g : Nat → Bool) (c k : Nat) (hn : (left g c).length ≤ 1024) (h : BoxV w b v ((left g c).map lf) k) :
    Calls Try.prog 14 #[.pointer (some ⟨b, 0, none⟩)] w fun e w' => ∃ a cp, e = .returned (.slice a (left g c).length cp) ∧ Upd [] w w' ∧ ∀ j m, (left g c)[j]? = some m → ∃ go, a = some ⟨go, 0, none⟩ ∧ w'.cell? ⟨go, j * 7 + 4, none⟩ = some (.int .i64 (m : Nat)) := by
  have hml : ((left g c).map lf).length = (left g c).length := List.length_map ..
  by_cases h0 : (left g c).length = 0
  · have he : left g c = [] := List.eq_nil_of_length_eq_zero h0
    rw [he] at h ⊢
    refine (all_Ve w b v k h).mono ?_
    rintro e w' ⟨rfl, rfl⟩
    exact ⟨none, 0, rfl, Upd.refl _ _, fun j m hj => by simp at hj⟩
  · refine (all_V w b v _ k (by omega) (by omega) (lf_flat _) h).mono ?_
    rintro e w' ⟨go, rfl, _, h2, h3, h4⟩
    refine ⟨some ⟨go, 0, none⟩, _, by rw [hml], h4, fun j m hj => ⟨go, rfl, ?_⟩⟩
    have hlt := (List.getElem?_eq_some_iff.1 hj).1
    rw [h3 go _ _ rfl j 4 (by omega) (by omega)]
    show ((List.map lf (left g c)).getD j [])[4]? = _
    rw [lf_getD _ _ _ hj]
    rfl

set_option maxHeartbeats 8000000 in
set_option maxRecDepth 100000 in
theorem Order_walk (w : World) (a : Option Addr) (n0 c0 : Nat) (hn0 : n0 ≤ c0) (hcm : n0 ≤ 9223372036854775807) (hop : Ops w a n0) : Calls Try.prog 5 #[.slice a n0 c0] w fun e w' => e = .returned (.bool true) ∧ Upd [] w w' := by
  by_cases h80 : n0 ≤ 80
  · have hd : decide ((80 : Int) < (n0 : Int)) = false := decide_eq_false (by omega)
    have hd2 : ¬ (80 : Int) < (n0 : Int) := by omega
    have HN : Hid (n0 ≤ 80 ∧ Ops w a n0) := ⟨h80, hop⟩
    clear hop
    obtain ⟨gz, hgz, hzv⟩ : ∃ gz : Array Value, gz = Array.replicate 80 (.bool false) ∧ ∀ w, (zeroValue 51).run Try.prog w = .ok (.agg gz) w := ⟨_, rfl, fun w => by kernel_rfl⟩
    have HGZ : Hid (gz = Array.replicate 80 (.bool false)) := hgz
    clear hgz
    go_enter Try.func5, Try.ntmps5
    go_wp2_with fail
    refine Calls.mono (awake_any _) ?_
    rintro e w1 ⟨rfl, hu⟩
    have U1 : Hid (Upd [] w w1) := hu
    clear hu
    go_wp2_with fail
    refine Calls.mono (new_V _) ?_
    rintro e w2 ⟨rfl, hB, hu⟩
    obtain ⟨b, hb⟩ : ∃ b, b = w1.heap.size := ⟨_, rfl⟩
    rw [← hb] at hB ⊢
    have HB : Hid (BoxV w2 b (.slice none 0 0) [] 0 ∧ Upd [] w w2 ∧ w.heap.size ≤ b) := ⟨hB, U1.out.trans hu, by rw [hb]; exact U1.out.size⟩
    clear hB hu hb U1
    go_wp2_with fail
    generalize hw3 : World.alloc _ _ = w3
    have hgb : Gb w3 w2.heap.size (fun _ => false) := by rw [← hw3]; exact zero_gone w2 _ _ rfl HGZ.out
    have hu3 : Upd [] w2 w3 := by rw [← hw3]; exact (Upd.refl [] w2).alloc _
    obtain ⟨x, hx⟩ : ∃ x, x = w2.heap.size := ⟨_, rfl⟩
    rw [← hx] at hgb ⊢
    have hbx := HB.out.1.lt
    have H3 : Hid (OrdR w w3 b x n0 (.int .i64 0) (.int .i64 0)) := ⟨0, 0, .slice none 0 0, 0, fun _ => false, rfl, rfl, Nat.le_refl _, Nat.zero_le _, ⟨HB.out.1.up hu3, Nat.le_refl _, hgb, by omega, by simp [Value.ownBlock], fun _ _ => rfl, HB.out.2.1.trans hu3, HB.out.2.2, by rw [hx]; exact HB.out.2.1.size, fun y hy => by simp [Value.ownBlock] at hy⟩⟩
    clear hgb hu3 hx hbx hw3 HB
    go_loopw [4, 6] (fun s4 s6 wr => OrdR w wr b x n0 s4 s6) (fun _ s6 _ => n0 - (intOf s6).toNat)
    case atStart => exact H3.out
    case round =>
      obtain ⟨c, i, v, k, g, rfl, rfl, hci, hin, hord⟩ := hrel
      have HO : Hid (Ord w wr b x v c k g) := hord
      clear hord H3
      by_cases hlt : i < n0
      · have i1 : (i : Int) < (n0 : Int) := by omega
        obtain ⟨gl, ol, op, hae, hgl, hcl⟩ := HN.out.2 i hlt
        subst hae
        have hcl2 : wr.cell? ⟨gl, ol + i * 8, none⟩ = some (.int .i64 op) := by rw [HO.out.low.cell (p := ⟨gl, ol + i * 8, none⟩) hgl (by simp)]; exact hcl
        clear hcl hgl
        go_wp2_with fail
        refine Calls.mono (pick5 op _) ?_
        rintro e wp ⟨⟨r, hr, rfl⟩, hwp⟩
        rw [hwp]
        clear hwp hcl2 wp
        go_upto_block 2 with fail
        go_cut [4] (fun s4 wx => OrdC w wx b x i s4)
        case first =>
          have hll := left_len_le g c
          have hml : ((left g c).map lf).length = (left g c).length := List.length_map ..
          have HC : Hid ((left g c).length ≤ c ∧ ((left g c).map lf).length = (left g c).length ∧ c ≤ 80) := ⟨hll, hml, by have := HN.out.1; omega⟩
          clear hll hml
          rcases hr with rfl | rfl | rfl | hr
          · go_wp2_with fail
            refine Calls.mono (begin_V _ b v _ k HO.out.box) ?_
            rintro e w4 ⟨rfl, hB, hU⟩
            have H4 : Hid (Ord w w4 b x v c 0 g) := HO.out.step hB (Nat.zero_le _) HO.out.new hU
            clear hB hU
            go_wp2_with fail
            go_meet
            case rel => exact ⟨c, v, 0, g, rfl, by omega, H4.out⟩
          · by_cases hk : k < (left g c).length
            · go_wp2_with fail
              refine Calls.mono (skip_V _ b v _ k (by rw [HC.out.2.1]; exact hk) (by rw [HC.out.2.1]; have := HC.out; omega) HO.out.box) ?_
              rintro e w4 ⟨rfl, hB, hU⟩
              have H4 : Hid (Ord w w4 b x v c (k + 1) g) := HO.out.step hB (by omega) HO.out.new hU
              clear hB hU
              go_wp2_with fail
              go_meet
              case rel => exact ⟨c, v, k + 1, g, rfl, by omega, H4.out⟩
            · go_wp2_with fail
              refine Calls.mono (skip_Ve _ b v _ k (by rw [HC.out.2.1]; have := HO.out.look; omega) HO.out.box) ?_
              rintro e w4 ⟨rfl, hB, hU⟩
              have H4 : Hid (Ord w w4 b x v c k g) := HO.out.step hB HO.out.look HO.out.new hU
              clear hB hU
              go_wp2_with fail
              go_meet
              case rel => exact ⟨c, v, k, g, rfl, by omega, H4.out⟩
          · by_cases hk : k < (left g c).length
            · obtain ⟨m, hm⟩ : ∃ m, (left g c)[k]? = some m := ⟨_, List.getElem?_eq_getElem hk⟩
              have hmm := left_mem.1 (List.mem_of_getElem? hm)
              have HM : Hid ((left g c)[k]? = some m ∧ g m = false ∧ m < c) := ⟨hm, hmm.2, hmm.1⟩
              have j1 : (m : Int) < (c : Int) := by omega
              have j2 : (m : Int) < 80 := by have := HC.out; omega
              have j3 : m < 80 := by omega
              clear hm hmm
              go_wp2_with fail
              refine Calls.mono (take_on _ b v _ k 3 (m : Int) false ⟨#[]⟩ (by rw [HC.out.2.1]; exact hk) (by rw [HC.out.2.1]; have := HC.out; omega) (lf_flat _).sev HO.out.box (lf_getD _ _ _ HM.out.1)) ?_
              rintro e w4 ⟨rfl, v4, hB, hU⟩
              rw [lf_erase] at hB
              have HB4 : Hid (BoxV w4 b v4 (((left g c).eraseIdx k).map lf) 0 ∧ UpdB b v wr w4 v4) := ⟨hB, hU⟩
              have HX : Hid (Loc (w4.alloc (.cells #[.int .u8 0, .bool false, .slice none 0 0, .string ⟨#[]⟩, .int .i64 0, .slice none 0 0, .slice none 0 0] 26)) b v4 w4.heap.size #[.int .u8 0, .bool false, .slice none 0 0, .string ⟨#[]⟩, .int .i64 0, .slice none 0 0, .slice none 0 0] ∧ Upd [] w4 (w4.alloc (.cells #[.int .u8 0, .bool false, .slice none 0 0, .string ⟨#[]⟩, .int .i64 0, .slice none 0 0, .slice none 0 0] 26))) := ⟨Loc.new hB _, (Upd.refl [] _).alloc _⟩
              have HG : Hid (∀ w5, Upd [w4.heap.size] (w4.alloc (.cells #[.int .u8 0, .bool false, .slice none 0 0, .string ⟨#[]⟩, .int .i64 0, .slice none 0 0, .slice none 0 0] 26)) w5 → Gb w5 x g) := fun w5 h5 => by
                have hx4 : x < w4.heap.size := Nat.lt_of_lt_of_le HO.out.gb.lt hU.size
                exact ((HO.out.gb.block (hU.block x HO.out.gb.lt HO.out.xb HO.out.xv)).block (HX.out.2.block x hx4 (by simp))).block (h5.block x (by simp; omega) (by simp; omega))
              clear hB hU
              go_wp2_with (first
                | (refine store_T _ rfl _ _ rfl _ _ _ rfl rfl HX.out.1.1 rfl rfl (fl_one 3 false ⟨#[]⟩ (m : Int)) ?_; intro w5 hT hU0
                   have y0 : w5.cell? ⟨w4.heap.size, 0, none⟩ = some (.int .u8 3) := hT.cell 0
                   have y4 : w5.cell? ⟨w4.heap.size, 4, none⟩ = some (.int .i64 m) := hT.cell 4
                   have yg : w5.cell? ⟨x, m, none⟩ = some (.bool false) := by have h7 := (HG.out w5 hU0).cell j3; rw [HM.out.2.1] at h7; exact h7
                   have yf : w5.frozen? ⟨x, m, none⟩ = false := (HG.out w5 hU0).free m
                   have HT : Hid (Tb w5 w4.heap.size (fl 3 false ⟨#[]⟩ (m : Int)) ∧ Upd [w4.heap.size] (w4.alloc (.cells #[.int .u8 0, .bool false, .slice none 0 0, .string ⟨#[]⟩, .int .i64 0, .slice none 0 0, .slice none 0 0] 26)) w5) := ⟨hT, hU0⟩
                   clear hT hU0)
                | fail)
              have hU5 : UpdB b v4 w4 w5 v4 := UpdB.fresh HX.out.2 HT.out.2
              have hB5 := (HB4.out.1.up HX.out.2).x HX.out.1 HT.out.2
              have hUw := HB4.out.2.trans hU5
              have hs := HO.out.low.size
              have hord : Ord w (w5.setCell ⟨x, m, none⟩ (.bool true)) b x v4 c 0 (goneAt g m) := by
                refine Ord.mark (j := m) hB5 (Nat.zero_le _) j3 HM.out.2.2 (left_gone g c k m HM.out.1) (HG.out w5 HT.out.2) HO.out.xb (hUw.own x HO.out.gb.lt HO.out.xv) HO.out.new ?_ HO.out.bl HO.out.xl (fun y hy => ?_) rfl
                · refine ⟨hUw.os.trans HO.out.low.os, hUw.tape.trans HO.out.low.tape, hUw.output.trans HO.out.low.output, Nat.le_trans hs hUw.size, fun i hi _ => ?_⟩
                  have hv : v.ownBlock ≠ some i := fun e => by have := HO.out.vl i e; omega
                  exact (hUw.block i (by omega) (by have := HO.out.bl; omega) hv).trans (HO.out.low.block i hi (by simp))
                · rcases Nat.lt_or_ge y w.heap.size with hlt2 | hge
                  · have hv : v.ownBlock ≠ some y := fun e => by have := HO.out.vl y e; omega
                    exact absurd hy (hUw.own y (by omega) hv)
                  · exact hge
              go_meet
              case rel => exact ⟨c, v4, 0, goneAt g m, rfl, by omega, hord⟩
            · go_wp2_with fail
              refine Calls.mono (take_Ve _ b v _ k (by rw [HC.out.2.1]; have := HO.out.look; omega) HO.out.box) ?_
              rintro e w4 ⟨rfl, hU⟩
              have H4 : Hid (Ord w w4 b x v c k g) := HO.out.up hU
              have HX : Hid (Tb (w4.alloc (.cells #[.int .u8 0, .bool false, .slice none 0 0, .string ⟨#[]⟩, .int .i64 0, .slice none 0 0, .slice none 0 0] 26)) w4.heap.size #[.int .u8 0, .bool false, .slice none 0 0, .string ⟨#[]⟩, .int .i64 0, .slice none 0 0, .slice none 0 0] ∧ Upd [] w4 (w4.alloc (.cells #[.int .u8 0, .bool false, .slice none 0 0, .string ⟨#[]⟩, .int .i64 0, .slice none 0 0, .slice none 0 0] 26))) := ⟨Tb.new _ _ _ rfl, (Upd.refl [] _).alloc _⟩
              clear hU
              go_wp2_with (first | (refine store_T _ rfl _ _ rfl _ _ _ rfl rfl HX.out.1 rfl rfl (fl_one 0 false ⟨#[]⟩ 0) ?_; intro w5 hT hU0) | fail)
              have hord := H4.out.up (HX.out.2.then hU0 (by simp))
              go_meet
              case rel => exact ⟨c, v, k, g, rfl, by omega, hord⟩
          · have hr0 : (r == 0) = false := beq_eq_false_iff_ne.2 (by omega)
            have hr1 : (r == 1) = false := beq_eq_false_iff_ne.2 (by omega)
            have hr2 : (r == 2) = false := beq_eq_false_iff_ne.2 (by omega)
            clear hr
            go_wp2_with fail
            refine Calls.mono (put_on _ b v _ k 3 (c : Int) false ⟨#[]⟩ (by rw [HC.out.2.1]; have := HC.out; omega) HO.out.box) ?_
            rintro e w4 ⟨rfl, v4, hB, hU⟩
            have hgc : g c = false := HO.out.new c (Nat.le_refl _)
            have hls : left g (c + 1) = left g c ++ [c] := by rw [left_succ, hgc]; rfl
            have hB2 : BoxV w4 b v4 ((left g (c + 1)).map lf) k := by rw [hls, List.map_append]; exact hB
            have H4 : Hid (Ord w w4 b x v4 (c + 1) k g) := HO.out.step hB2 (by rw [hls]; have := HO.out.look; simp; omega) (fun j hj => HO.out.new j (by omega)) hU
            clear hB hU hgc hls hB2
            go_wp2_with fail
            go_meet
            case rel => exact ⟨c + 1, v4, k, g, by go_num, by omega, H4.out⟩
        case rest =>
          obtain ⟨c', v', k', g', rfl, hc', hord⟩ := hcut
          have HQ : Hid (Ord w wc b x v' c' k' g') := hord
          have hcm2 : c' ≤ 80 := by have := HN.out.1; omega
          have hll := left_len_le g' c'
          have HC : Hid ((left g' c').length ≤ c') := hll
          clear hord HO hll
          go_wp2_with fail
          refine Calls.mono (all_left _ b v' g' c' k' (by have := HC.out; omega) HQ.out.box) ?_
          rintro e w6 ⟨a6, cp6, rfl, hu6, hall⟩
          have H6 : Hid (Ord w w6 b x v' c' k' g') := HQ.out.up hu6
          have HA : Hid (∀ j m, (left g' c')[j]? = some m → ∃ go, a6 = some ⟨go, 0, none⟩ ∧ w6.cell? ⟨go, j * 7 + 4, none⟩ = some (.int .i64 (m : Nat))) := hall
          clear hu6 hall HQ
          obtain ⟨nc, hnc⟩ : ∃ nc, nc = (left g' c').length := ⟨_, rfl⟩
          rw [← hnc]
          have HNC : Hid (nc = (left g' c').length) := hnc
          clear hnc
          go_wp2_with fail
          go_loop [10, 11] (fun s10 s11 => InR g' c' s10 s11) (fun _ s11 => c' - (intOf s11).toNat)
          case atStart => exact ⟨0, Nat.zero_le _, rfl, rfl⟩
          case round =>
            obtain ⟨kk, hkk, rfl, rfl⟩ := hrel
            obtain ⟨n1, hn1⟩ : ∃ n1, n1 = (left g' kk).length := ⟨_, rfl⟩
            rw [← hn1]
            have HN1 : Hid (n1 = (left g' kk).length) := hn1
            have hn2 : n1 ≤ kk := by rw [hn1]; exact left_len_le _ _
            clear hn1
            by_cases hl2 : kk < c'
            · have q1 : (kk : Int) < (c' : Int) := by omega
              have q2 : (kk : Int) < 80 := by omega
              have qc : w6.cell? ⟨x, kk, none⟩ = some (.bool (g' kk)) := H6.out.gb.cell (by omega)
              by_cases hg : g' kk = true
              · rw [hg] at qc
                have HG : Hid (g' kk = true) := hg
                clear hg
                go_wp2_with fail
                go_round
                case rel => exact ⟨kk + 1, hl2, by rw [left_len, HG.out, HN1.out]; rfl, by go_num⟩
                case measure => simp [intOf]; omega
              · have hg2 : g' kk = false := by simpa using hg
                rw [hg2] at qc
                have HG : Hid (g' kk = false) := hg2
                obtain ⟨go, ha6, hcl⟩ := HA.out _ kk (left_get g' kk hg2 c' hl2)
                subst ha6
                rw [← HN1.out] at hcl
                have ql : n1 < nc := by rw [HN1.out, HNC.out]; exact left_len_lt hg2 hl2
                have q3 : (n1 : Int) < (nc : Int) := by omega
                have q4 : decide ((nc : Int) ≤ (n1 : Int)) = false := decide_eq_false (by omega)
                have q5 : ((kk : Int) == (kk : Int)) = true := by simp
                clear hg hg2
                go_wp2_with fail
                go_round
                case rel => exact ⟨kk + 1, hl2, by rw [left_len, HG.out, ← HN1.out]; go_num, by go_num⟩
                case measure => simp [intOf]; omega
            · obtain rfl : kk = c' := by omega
              obtain rfl : n1 = nc := by rw [HN1.out, HNC.out]
              have q1 : ((n1 : Int) == (n1 : Int)) = true := by simp
              go_wp2_with fail
              refine Calls.mono (len_V _ b v' _ k' n1 (by rw [HNC.out, List.length_map]) H6.out.box) ?_
              rintro e w7 ⟨rfl, hw7⟩
              rw [hw7]
              clear hw7 w7
              go_wp2_with fail
              go_roundw
              case rel => exact ⟨kk, i + 1, v', k', g', rfl, by go_num, hc', hlt, H6.out⟩
              case measure => simp [intOf]; omega
      · obtain rfl : i = n0 := by omega
        go_wp2_with fail
        refine Calls.mono (begin_V _ b v _ k HO.out.box) ?_
        rintro e w4 ⟨rfl, hB, hU⟩
        have hll := left_len_le g c
        have H4 : Hid (LastR w w4 b (.int .i64 (-1))) := ⟨v, left g c, -1, rfl, hB, left_lt g c, fun m _ => by omega, by have := HN.out.1; omega, (LowB.mk HO.out.low HO.out.bl HO.out.vl).step hU⟩
        clear hB hU hll HO
        go_wp2_with fail
        go_loopw [12] (fun s12 wr => LastR w wr b s12) (fun _ wr => lenAt wr b)
        case atStart => exact H4.out
        case round =>
          obtain ⟨v5, R, la, rfl, hB, hp, hla, hR, hlow⟩ := hrel
          have HB5 : Hid (BoxV wr b v5 (List.map lf R) 0 ∧ LowB w wr b v5) := ⟨hB, hlow⟩
          clear hB hlow H4
          cases R with
          | nil =>
            go_wp2_with fail
            refine Calls.mono (len_V _ b v5 _ 0 0 rfl HB5.out.1) ?_
            rintro e w7 ⟨rfl, hw7⟩
            rw [hw7]
            clear hw7 w7
            go_wp2_with fail
            go_ret
            exact ⟨rfl, HB5.out.2.low⟩
          | cons m R =>
            obtain ⟨nr, hnr⟩ : ∃ nr, nr = R.length := ⟨_, rfl⟩
            have hm : la < (m : Int) := hla m List.mem_cons_self
            have hml : decide ((m : Int) ≤ la) = false := decide_eq_false (by omega)
            have HP : Hid ((m :: R).Pairwise (· < ·) ∧ R.length = nr ∧ nr < 80) := ⟨hp, hnr.symm, by simp at hR; omega⟩
            have h80r : nr < 80 := HP.out.2.2
            have q0 : (0 : Int) < (nr : Int) + 1 := by omega
            clear hp hla hR hnr
            go_wp2_with fail
            refine Calls.mono (len_V _ b v5 _ 0 (nr + 1) (by simp [HP.out.2.1]) HB5.out.1) ?_
            rintro e w7 ⟨rfl, hw7⟩
            rw [hw7]
            clear hw7 w7
            go_wp2_with fail
            refine Calls.mono (take_on _ b v5 _ 0 3 (m : Int) false ⟨#[]⟩ (by simp) (by simp [HP.out.2.1]; omega) (lf_flat _).sev HB5.out.1 rfl) ?_
            rintro e w8 ⟨rfl, v8, hB, hU⟩
            have HB8 : Hid (BoxV w8 b v8 (List.map lf R) 0 ∧ LowB w w8 b v8) := ⟨hB, HB5.out.2.step hU⟩
            have HX : Hid (Loc (w8.alloc (.cells #[.int .u8 0, .bool false, .slice none 0 0, .string ⟨#[]⟩, .int .i64 0, .slice none 0 0, .slice none 0 0] 26)) b v8 w8.heap.size #[.int .u8 0, .bool false, .slice none 0 0, .string ⟨#[]⟩, .int .i64 0, .slice none 0 0, .slice none 0 0] ∧ Upd [] w8 (w8.alloc (.cells #[.int .u8 0, .bool false, .slice none 0 0, .string ⟨#[]⟩, .int .i64 0, .slice none 0 0, .slice none 0 0] 26))) := ⟨Loc.new hB _, (Upd.refl [] _).alloc _⟩
            clear hB hU
            go_wp2_with (first
              | (refine store_T _ rfl _ _ rfl _ _ _ rfl rfl HX.out.1.1 rfl rfl (fl_one 3 false ⟨#[]⟩ (m : Int)) ?_; intro w9 hT hU0
                 have y4 : w9.cell? ⟨w8.heap.size, 4, none⟩ = some (.int .i64 m) := hT.cell 4
                 have HT : Hid (Upd [w8.heap.size] (w8.alloc (.cells #[.int .u8 0, .bool false, .slice none 0 0, .string ⟨#[]⟩, .int .i64 0, .slice none 0 0, .slice none 0 0] 26)) w9) := hU0
                 clear hT hU0)
              | fail)
            have hU9 : UpdB b v8 w8 w9 v8 := UpdB.fresh HX.out.2 HT.out
            have hB9 := (HB8.out.1.up HX.out.2).x HX.out.1 HT.out
            have hpw := List.pairwise_cons.1 HP.out.1
            have hl9 : lenAt w9 b = R.length := by rw [hB9.lenAt, List.length_map]
            have hl5 : lenAt wr b = R.length + 1 := by rw [HB5.out.1.lenAt, List.length_map]; rfl
            go_roundw
            case rel => exact ⟨v8, R, m, rfl, hB9, hpw.2, fun y hy => by have := hpw.1 y hy; omega, by have := HP.out; omega, HB8.out.2.step hU9⟩
            case measure => rw [hl9, hl5]; omega
  · have hd : decide ((80 : Int) < (n0 : Int)) = true := decide_eq_true (by omega)
    have h81 : 80 ≤ n0 := by omega
    have HN : Hid (80 ≤ 80 ∧ Ops w a 80) := ⟨Nat.le_refl _, fun i hi => hop i (by omega)⟩
    clear hop
    obtain ⟨gz, hgz, hzv⟩ : ∃ gz : Array Value, gz = Array.replicate 80 (.bool false) ∧ ∀ w, (zeroValue 51).run Try.prog w = .ok (.agg gz) w := ⟨_, rfl, fun w => by kernel_rfl⟩
    have HGZ : Hid (gz = Array.replicate 80 (.bool false)) := hgz
    clear hgz
    go_enter Try.func5, Try.ntmps5
    go_wp2_with fail
    refine Calls.mono (awake_any _) ?_
    rintro e w1 ⟨rfl, hu⟩
    have U1 : Hid (Upd [] w w1) := hu
    clear hu
    go_wp2_with fail
    refine Calls.mono (new_V _) ?_
    rintro e w2 ⟨rfl, hB, hu⟩
    obtain ⟨b, hb⟩ : ∃ b, b = w1.heap.size := ⟨_, rfl⟩
    rw [← hb] at hB ⊢
    have HB : Hid (BoxV w2 b (.slice none 0 0) [] 0 ∧ Upd [] w w2 ∧ w.heap.size ≤ b) := ⟨hB, U1.out.trans hu, by rw [hb]; exact U1.out.size⟩
    clear hB hu hb U1
    go_wp2_with fail
    generalize hw3 : World.alloc _ _ = w3
    have hgb : Gb w3 w2.heap.size (fun _ => false) := by rw [← hw3]; exact zero_gone w2 _ _ rfl HGZ.out
    have hu3 : Upd [] w2 w3 := by rw [← hw3]; exact (Upd.refl [] w2).alloc _
    obtain ⟨x, hx⟩ : ∃ x, x = w2.heap.size := ⟨_, rfl⟩
    rw [← hx] at hgb ⊢
    have hbx := HB.out.1.lt
    have H3 : Hid (OrdR w w3 b x 80 (.int .i64 0) (.int .i64 0)) := ⟨0, 0, .slice none 0 0, 0, fun _ => false, rfl, rfl, Nat.le_refl _, Nat.zero_le _, ⟨HB.out.1.up hu3, Nat.le_refl _, hgb, by omega, by simp [Value.ownBlock], fun _ _ => rfl, HB.out.2.1.trans hu3, HB.out.2.2, by rw [hx]; exact HB.out.2.1.size, fun y hy => by simp [Value.ownBlock] at hy⟩⟩
    clear hgb hu3 hx hbx hw3 HB
    go_loopw [4, 6] (fun s4 s6 wr => OrdR w wr b x 80 s4 s6) (fun _ s6 _ => 80 - (intOf s6).toNat)
    case atStart => exact H3.out
    case round =>
      obtain ⟨c, i, v, k, g, rfl, rfl, hci, hin, hord⟩ := hrel
      have HO : Hid (Ord w wr b x v c k g) := hord
      clear hord H3
      by_cases hlt : i < 80
      · have i1 : (i : Int) < (80 : Int) := by omega
        obtain ⟨gl, ol, op, hae, hgl, hcl⟩ := HN.out.2 i hlt
        subst hae
        have hcl2 : wr.cell? ⟨gl, ol + i * 8, none⟩ = some (.int .i64 op) := by rw [HO.out.low.cell (p := ⟨gl, ol + i * 8, none⟩) hgl (by simp)]; exact hcl
        clear hcl hgl
        go_wp2_with fail
        refine Calls.mono (pick5 op _) ?_
        rintro e wp ⟨⟨r, hr, rfl⟩, hwp⟩
        rw [hwp]
        clear hwp hcl2 wp
        go_upto_block 2 with fail
        go_cut [4] (fun s4 wx => OrdC w wx b x i s4)
        case first =>
          have hll := left_len_le g c
          have hml : ((left g c).map lf).length = (left g c).length := List.length_map ..
          have HC : Hid ((left g c).length ≤ c ∧ ((left g c).map lf).length = (left g c).length ∧ c ≤ 80) := ⟨hll, hml, by have := HN.out.1; omega⟩
          clear hll hml
          rcases hr with rfl | rfl | rfl | hr
          · go_wp2_with fail
            refine Calls.mono (begin_V _ b v _ k HO.out.box) ?_
            rintro e w4 ⟨rfl, hB, hU⟩
            have H4 : Hid (Ord w w4 b x v c 0 g) := HO.out.step hB (Nat.zero_le _) HO.out.new hU
            clear hB hU
            go_wp2_with fail
            go_meet
            case rel => exact ⟨c, v, 0, g, rfl, by omega, H4.out⟩
          · by_cases hk : k < (left g c).length
            · go_wp2_with fail
              refine Calls.mono (skip_V _ b v _ k (by rw [HC.out.2.1]; exact hk) (by rw [HC.out.2.1]; have := HC.out; omega) HO.out.box) ?_
              rintro e w4 ⟨rfl, hB, hU⟩
              have H4 : Hid (Ord w w4 b x v c (k + 1) g) := HO.out.step hB (by omega) HO.out.new hU
              clear hB hU
              go_wp2_with fail
              go_meet
              case rel => exact ⟨c, v, k + 1, g, rfl, by omega, H4.out⟩
            · go_wp2_with fail
              refine Calls.mono (skip_Ve _ b v _ k (by rw [HC.out.2.1]; have := HO.out.look; omega) HO.out.box) ?_
              rintro e w4 ⟨rfl, hB, hU⟩
              have H4 : Hid (Ord w w4 b x v c k g) := HO.out.step hB HO.out.look HO.out.new hU
              clear hB hU
              go_wp2_with fail
              go_meet
              case rel => exact ⟨c, v, k, g, rfl, by omega, H4.out⟩
          · by_cases hk : k < (left g c).length
            · obtain ⟨m, hm⟩ : ∃ m, (left g c)[k]? = some m := ⟨_, List.getElem?_eq_getElem hk⟩
              have hmm := left_mem.1 (List.mem_of_getElem? hm)
              have HM : Hid ((left g c)[k]? = some m ∧ g m = false ∧ m < c) := ⟨hm, hmm.2, hmm.1⟩
              have j1 : (m : Int) < (c : Int) := by omega
              have j2 : (m : Int) < 80 := by have := HC.out; omega
              have j3 : m < 80 := by omega
              clear hm hmm
              go_wp2_with fail
              refine Calls.mono (take_on _ b v _ k 3 (m : Int) false ⟨#[]⟩ (by rw [HC.out.2.1]; exact hk) (by rw [HC.out.2.1]; have := HC.out; omega) (lf_flat _).sev HO.out.box (lf_getD _ _ _ HM.out.1)) ?_
              rintro e w4 ⟨rfl, v4, hB, hU⟩
              rw [lf_erase] at hB
              have HB4 : Hid (BoxV w4 b v4 (((left g c).eraseIdx k).map lf) 0 ∧ UpdB b v wr w4 v4) := ⟨hB, hU⟩
              have HX : Hid (Loc (w4.alloc (.cells #[.int .u8 0, .bool false, .slice none 0 0, .string ⟨#[]⟩, .int .i64 0, .slice none 0 0, .slice none 0 0] 26)) b v4 w4.heap.size #[.int .u8 0, .bool false, .slice none 0 0, .string ⟨#[]⟩, .int .i64 0, .slice none 0 0, .slice none 0 0] ∧ Upd [] w4 (w4.alloc (.cells #[.int .u8 0, .bool false, .slice none 0 0, .string ⟨#[]⟩, .int .i64 0, .slice none 0 0, .slice none 0 0] 26))) := ⟨Loc.new hB _, (Upd.refl [] _).alloc _⟩
              have HG : Hid (∀ w5, Upd [w4.heap.size] (w4.alloc (.cells #[.int .u8 0, .bool false, .slice none 0 0, .string ⟨#[]⟩, .int .i64 0, .slice none 0 0, .slice none 0 0] 26)) w5 → Gb w5 x g) := fun w5 h5 => by
                have hx4 : x < w4.heap.size := Nat.lt_of_lt_of_le HO.out.gb.lt hU.size
                exact ((HO.out.gb.block (hU.block x HO.out.gb.lt HO.out.xb HO.out.xv)).block (HX.out.2.block x hx4 (by simp))).block (h5.block x (by simp; omega) (by simp; omega))
              clear hB hU
              go_wp2_with (first
                | (refine store_T _ rfl _ _ rfl _ _ _ rfl rfl HX.out.1.1 rfl rfl (fl_one 3 false ⟨#[]⟩ (m : Int)) ?_; intro w5 hT hU0
                   have y0 : w5.cell? ⟨w4.heap.size, 0, none⟩ = some (.int .u8 3) := hT.cell 0
                   have y4 : w5.cell? ⟨w4.heap.size, 4, none⟩ = some (.int .i64 m) := hT.cell 4
                   have yg : w5.cell? ⟨x, m, none⟩ = some (.bool false) := by have h7 := (HG.out w5 hU0).cell j3; rw [HM.out.2.1] at h7; exact h7
                   have yf : w5.frozen? ⟨x, m, none⟩ = false := (HG.out w5 hU0).free m
                   have HT : Hid (Tb w5 w4.heap.size (fl 3 false ⟨#[]⟩ (m : Int)) ∧ Upd [w4.heap.size] (w4.alloc (.cells #[.int .u8 0, .bool false, .slice none 0 0, .string ⟨#[]⟩, .int .i64 0, .slice none 0 0, .slice none 0 0] 26)) w5) := ⟨hT, hU0⟩
                   clear hT hU0)
                | fail)
              have hU5 : UpdB b v4 w4 w5 v4 := UpdB.fresh HX.out.2 HT.out.2
              have hB5 := (HB4.out.1.up HX.out.2).x HX.out.1 HT.out.2
              have hUw := HB4.out.2.trans hU5
              have hs := HO.out.low.size
              have hord : Ord w (w5.setCell ⟨x, m, none⟩ (.bool true)) b x v4 c 0 (goneAt g m) := by
                refine Ord.mark (j := m) hB5 (Nat.zero_le _) j3 HM.out.2.2 (left_gone g c k m HM.out.1) (HG.out w5 HT.out.2) HO.out.xb (hUw.own x HO.out.gb.lt HO.out.xv) HO.out.new ?_ HO.out.bl HO.out.xl (fun y hy => ?_) rfl
                · refine ⟨hUw.os.trans HO.out.low.os, hUw.tape.trans HO.out.low.tape, hUw.output.trans HO.out.low.output, Nat.le_trans hs hUw.size, fun i hi _ => ?_⟩
                  have hv : v.ownBlock ≠ some i := fun e => by have := HO.out.vl i e; omega
                  exact (hUw.block i (by omega) (by have := HO.out.bl; omega) hv).trans (HO.out.low.block i hi (by simp))
                · rcases Nat.lt_or_ge y w.heap.size with hlt2 | hge
                  · have hv : v.ownBlock ≠ some y := fun e => by have := HO.out.vl y e; omega
                    exact absurd hy (hUw.own y (by omega) hv)
                  · exact hge
              go_meet
              case rel => exact ⟨c, v4, 0, goneAt g m, rfl, by omega, hord⟩
            · go_wp2_with fail
              refine Calls.mono (take_Ve _ b v _ k (by rw [HC.out.2.1]; have := HO.out.look; omega) HO.out.box) ?_
              rintro e w4 ⟨rfl, hU⟩
              have H4 : Hid (Ord w w4 b x v c k g) := HO.out.up hU
              have HX : Hid (Tb (w4.alloc (.cells #[.int .u8 0, .bool false, .slice none 0 0, .string ⟨#[]⟩, .int .i64 0, .slice none 0 0, .slice none 0 0] 26)) w4.heap.size #[.int .u8 0, .bool false, .slice none 0 0, .string ⟨#[]⟩, .int .i64 0, .slice none 0 0, .slice none 0 0] ∧ Upd [] w4 (w4.alloc (.cells #[.int .u8 0, .bool false, .slice none 0 0, .string ⟨#[]⟩, .int .i64 0, .slice none 0 0, .slice none 0 0] 26))) := ⟨Tb.new _ _ _ rfl, (Upd.refl [] _).alloc _⟩
              clear hU
              go_wp2_with (first | (refine store_T _ rfl _ _ rfl _ _ _ rfl rfl HX.out.1 rfl rfl (fl_one 0 false ⟨#[]⟩ 0) ?_; intro w5 hT hU0) | fail)
              have hord := H4.out.up (HX.out.2.then hU0 (by simp))
              go_meet
              case rel => exact ⟨c, v, k, g, rfl, by omega, hord⟩
          · have hr0 : (r == 0) = false := beq_eq_false_iff_ne.2 (by omega)
            have hr1 : (r == 1) = false := beq_eq_false_iff_ne.2 (by omega)
            have hr2 : (r == 2) = false := beq_eq_false_iff_ne.2 (by omega)
            clear hr
            go_wp2_with fail
            refine Calls.mono (put_on _ b v _ k 3 (c : Int) false ⟨#[]⟩ (by rw [HC.out.2.1]; have := HC.out; omega) HO.out.box) ?_
            rintro e w4 ⟨rfl, v4, hB, hU⟩
            have hgc : g c = false := HO.out.new c (Nat.le_refl _)
            have hls : left g (c + 1) = left g c ++ [c] := by rw [left_succ, hgc]; rfl
            have hB2 : BoxV w4 b v4 ((left g (c + 1)).map lf) k := by rw [hls, List.map_append]; exact hB
            have H4 : Hid (Ord w w4 b x v4 (c + 1) k g) := HO.out.step hB2 (by rw [hls]; have := HO.out.look; simp; omega) (fun j hj => HO.out.new j (by omega)) hU
            clear hB hU hgc hls hB2
            go_wp2_with fail
            go_meet
            case rel => exact ⟨c + 1, v4, k, g, by go_num, by omega, H4.out⟩
        case rest =>
          obtain ⟨c', v', k', g', rfl, hc', hord⟩ := hcut
          have HQ : Hid (Ord w wc b x v' c' k' g') := hord
          have hcm2 : c' ≤ 80 := by have := HN.out.1; omega
          have hll := left_len_le g' c'
          have HC : Hid ((left g' c').length ≤ c') := hll
          clear hord HO hll
          go_wp2_with fail
          refine Calls.mono (all_left _ b v' g' c' k' (by have := HC.out; omega) HQ.out.box) ?_
          rintro e w6 ⟨a6, cp6, rfl, hu6, hall⟩
          have H6 : Hid (Ord w w6 b x v' c' k' g') := HQ.out.up hu6
          have HA : Hid (∀ j m, (left g' c')[j]? = some m → ∃ go, a6 = some ⟨go, 0, none⟩ ∧ w6.cell? ⟨go, j * 7 + 4, none⟩ = some (.int .i64 (m : Nat))) := hall
          clear hu6 hall HQ
          obtain ⟨nc, hnc⟩ : ∃ nc, nc = (left g' c').length := ⟨_, rfl⟩
          rw [← hnc]
          have HNC : Hid (nc = (left g' c').length) := hnc
          clear hnc
          go_wp2_with fail
          go_loop [10, 11] (fun s10 s11 => InR g' c' s10 s11) (fun _ s11 => c' - (intOf s11).toNat)
          case atStart => exact ⟨0, Nat.zero_le _, rfl, rfl⟩
          case round =>
            obtain ⟨kk, hkk, rfl, rfl⟩ := hrel
            obtain ⟨n1, hn1⟩ : ∃ n1, n1 = (left g' kk).length := ⟨_, rfl⟩
            rw [← hn1]
            have HN1 : Hid (n1 = (left g' kk).length) := hn1
            have hn2 : n1 ≤ kk := by rw [hn1]; exact left_len_le _ _
            clear hn1
            by_cases hl2 : kk < c'
            · have q1 : (kk : Int) < (c' : Int) := by omega
              have q2 : (kk : Int) < 80 := by omega
              have qc : w6.cell? ⟨x, kk, none⟩ = some (.bool (g' kk)) := H6.out.gb.cell (by omega)
              by_cases hg : g' kk = true
              · rw [hg] at qc
                have HG : Hid (g' kk = true) := hg
                clear hg
                go_wp2_with fail
                go_round
                case rel => exact ⟨kk + 1, hl2, by rw [left_len, HG.out, HN1.out]; rfl, by go_num⟩
                case measure => simp [intOf]; omega
              · have hg2 : g' kk = false := by simpa using hg
                rw [hg2] at qc
                have HG : Hid (g' kk = false) := hg2
                obtain ⟨go, ha6, hcl⟩ := HA.out _ kk (left_get g' kk hg2 c' hl2)
                subst ha6
                rw [← HN1.out] at hcl
                have ql : n1 < nc := by rw [HN1.out, HNC.out]; exact left_len_lt hg2 hl2
                have q3 : (n1 : Int) < (nc : Int) := by omega
                have q4 : decide ((nc : Int) ≤ (n1 : Int)) = false := decide_eq_false (by omega)
                have q5 : ((kk : Int) == (kk : Int)) = true := by simp
                clear hg hg2
                go_wp2_with fail
                go_round
                case rel => exact ⟨kk + 1, hl2, by rw [left_len, HG.out, ← HN1.out]; go_num, by go_num⟩
                case measure => simp [intOf]; omega
            · obtain rfl : kk = c' := by omega
              obtain rfl : n1 = nc := by rw [HN1.out, HNC.out]
              have q1 : ((n1 : Int) == (n1 : Int)) = true := by simp
              go_wp2_with fail
              refine Calls.mono (len_V _ b v' _ k' n1 (by rw [HNC.out, List.length_map]) H6.out.box) ?_
              rintro e w7 ⟨rfl, hw7⟩
              rw [hw7]
              clear hw7 w7
              go_wp2_with fail
              go_roundw
              case rel => exact ⟨kk, i + 1, v', k', g', rfl, by go_num, hc', hlt, H6.out⟩
              case measure => simp [intOf]; omega
      · obtain rfl : i = 80 := by omega
        go_wp2_with fail
        refine Calls.mono (begin_V _ b v _ k HO.out.box) ?_
        rintro e w4 ⟨rfl, hB, hU⟩
        have hll := left_len_le g c
        have H4 : Hid (LastR w w4 b (.int .i64 (-1))) := ⟨v, left g c, -1, rfl, hB, left_lt g c, fun m _ => by omega, by have := HN.out.1; omega, (LowB.mk HO.out.low HO.out.bl HO.out.vl).step hU⟩
        clear hB hU hll HO
        go_wp2_with fail
        go_loopw [12] (fun s12 wr => LastR w wr b s12) (fun _ wr => lenAt wr b)
        case atStart => exact H4.out
        case round =>
          obtain ⟨v5, R, la, rfl, hB, hp, hla, hR, hlow⟩ := hrel
          have HB5 : Hid (BoxV wr b v5 (List.map lf R) 0 ∧ LowB w wr b v5) := ⟨hB, hlow⟩
          clear hB hlow H4
          cases R with
          | nil =>
            go_wp2_with fail
            refine Calls.mono (len_V _ b v5 _ 0 0 rfl HB5.out.1) ?_
            rintro e w7 ⟨rfl, hw7⟩
            rw [hw7]
            clear hw7 w7
            go_wp2_with fail
            go_ret
            exact ⟨rfl, HB5.out.2.low⟩
          | cons m R =>
            obtain ⟨nr, hnr⟩ : ∃ nr, nr = R.length := ⟨_, rfl⟩
            have hm : la < (m : Int) := hla m List.mem_cons_self
            have hml : decide ((m : Int) ≤ la) = false := decide_eq_false (by omega)
            have HP : Hid ((m :: R).Pairwise (· < ·) ∧ R.length = nr ∧ nr < 80) := ⟨hp, hnr.symm, by simp at hR; omega⟩
            have h80r : nr < 80 := HP.out.2.2
            have q0 : (0 : Int) < (nr : Int) + 1 := by omega
            clear hp hla hR hnr
            go_wp2_with fail
            refine Calls.mono (len_V _ b v5 _ 0 (nr + 1) (by simp [HP.out.2.1]) HB5.out.1) ?_
            rintro e w7 ⟨rfl, hw7⟩
            rw [hw7]
            clear hw7 w7
            go_wp2_with fail
            refine Calls.mono (take_on _ b v5 _ 0 3 (m : Int) false ⟨#[]⟩ (by simp) (by simp [HP.out.2.1]; omega) (lf_flat _).sev HB5.out.1 rfl) ?_
            rintro e w8 ⟨rfl, v8, hB, hU⟩
            have HB8 : Hid (BoxV w8 b v8 (List.map lf R) 0 ∧ LowB w w8 b v8) := ⟨hB, HB5.out.2.step hU⟩
            have HX : Hid (Loc (w8.alloc (.cells #[.int .u8 0, .bool false, .slice none 0 0, .string ⟨#[]⟩, .int .i64 0, .slice none 0 0, .slice none 0 0] 26)) b v8 w8.heap.size #[.int .u8 0, .bool false, .slice none 0 0, .string ⟨#[]⟩, .int .i64 0, .slice none 0 0, .slice none 0 0] ∧ Upd [] w8 (w8.alloc (.cells #[.int .u8 0, .bool false, .slice none 0 0, .string ⟨#[]⟩, .int .i64 0, .slice none 0 0, .slice none 0 0] 26))) := ⟨Loc.new hB _, (Upd.refl [] _).alloc _⟩
            clear hB hU
            go_wp2_with (first
              | (refine store_T _ rfl _ _ rfl _ _ _ rfl rfl HX.out.1.1 rfl rfl (fl_one 3 false ⟨#[]⟩ (m : Int)) ?_; intro w9 hT hU0
                 have y4 : w9.cell? ⟨w8.heap.size, 4, none⟩ = some (.int .i64 m) := hT.cell 4
                 have HT : Hid (Upd [w8.heap.size] (w8.alloc (.cells #[.int .u8 0, .bool false, .slice none 0 0, .string ⟨#[]⟩, .int .i64 0, .slice none 0 0, .slice none 0 0] 26)) w9) := hU0
                 clear hT hU0)
              | fail)
            have hU9 : UpdB b v8 w8 w9 v8 := UpdB.fresh HX.out.2 HT.out
            have hB9 := (HB8.out.1.up HX.out.2).x HX.out.1 HT.out
            have hpw := List.pairwise_cons.1 HP.out.1
            have hl9 : lenAt w9 b = R.length := by rw [hB9.lenAt, List.length_map]
            have hl5 : lenAt wr b = R.length + 1 := by rw [HB5.out.1.lenAt, List.length_map]; rfl
            go_roundw
            case rel => exact ⟨v8, R, m, rfl, hB9, hpw.2, fun y hy => by have := hpw.1 y hy; omega, by have := HP.out; omega, HB8.out.2.step hU9⟩
            case measure => rw [hl9, hl5]; omega

end Go.Proofs.Ytmdkhkeljpdbiaa
