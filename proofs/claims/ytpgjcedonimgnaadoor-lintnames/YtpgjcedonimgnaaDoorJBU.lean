/- Right modules put together are right. -/
import Derived.Test.YtpgjcedonimgnaaDoorJAT
import Derived.Test.YtpgjcedonimgnaaDoorFrA
import Derived.Test.YtpgjcedonimgnaaDoorFrB
import Derived.Test.YtpgjcedonimgnaaDoorCards
import Derived.Test.YtpgjcedonimgnaaDoorTie
import Derived.ChangeMaps5

namespace Go.Proofs.YtpgjcedonimgnaaDoor
open Go.RowKit

theorem depR_all {K : List Nd} {m : Nat} : depR K ≤ m ↔ ∀ t ∈ K, depN t ≤ m := by
  induction K with
  | nil => simp [depR]
  | cons n r ih => rw [depR, Nat.max_le, ih]; simp
theorem manR_app (A B : List Nd) : manR (A ++ B) = manR A + manR B := by
  induction A with
  | nil => simp [manR]
  | cons n r ih => rw [List.cons_append, manR, manR, ih]; omega
/-- What a right module is. -/
theorem right_mod {s : ByteArray} {num pos : Int} {K : List Nd} : rgtB (.mk 22 s num pos K) = true ↔ ((∀ t ∈ K, depN t ≤ 49 ∧ isB 2 t = true) ∧ 1 + manR K ≤ 16384) ∧ 0 ≤ pos ∧ s.size = 0 ∧ num = 0 := by
  have h0 : isB 0 (.mk 22 s num pos K) = false := by rw [isB, show formAt 22 0 = none from by decide]
  have h1 : isB 1 (.mk 22 s num pos K) = (isR [2] K && fldB (.mk 22 s num pos K)) := by
    rw [isB, show formAt 22 1 = some ⟨1, 22, 0, [2], true⟩ from by rfl]
    simp [kidsN]
  have h2 : isR [2] K = true ↔ ∀ t ∈ K, isB 2 t = true := by
    rw [isR_iff]
    constructor
    · intro h t ht
      obtain ⟨i, hi, rfl⟩ := List.getElem_of_mem ht
      have := h i hi
      rw [show rol [2] i = 2 from by simp [rol]] at this
      exact this
    · intro h i hi
      rw [show rol [2] i = 2 from by simp [rol]]
      exact h _ (List.getElem_mem hi)
  have h3 : fitsN (.mk 22 s num pos K) = true ↔ (∀ t ∈ K, depN t ≤ 49) ∧ 1 + manR K ≤ 16384 := by
    unfold fitsN
    rw [Bool.and_eq_true, decide_eq_true_eq, decide_eq_true_eq, depN, manN, ← depR_all]
    omega
  have h4 : fldB (.mk 22 s num pos K) = true ↔ 0 ≤ pos ∧ s.size = 0 ∧ num = 0 := by simp [fldB, txB, nmB]
  rw [rgtB, h0, Bool.false_or, h1, Bool.and_eq_true, Bool.and_eq_true, h3, h2, h4]
  constructor
  · rintro ⟨⟨a, b⟩, c, d⟩
    exact ⟨⟨fun t ht => ⟨a t ht, c t ht⟩, b⟩, d⟩
  · rintro ⟨⟨a, b⟩, d⟩
    exact ⟨⟨fun t ht => (a t ht).1, b⟩, fun t ht => (a t ht).2, d⟩
theorem right_rest {s : ByteArray} {num pos : Int} {A B : List Nd} {f : Nd} (h : rgtB (.mk 22 s num pos (A ++ f :: B)) = true) : rgtB (.mk 22 ⟨#[]⟩ 0 pos (A ++ B)) = true := by
  obtain ⟨⟨h1, h2⟩, h3, _⟩ := right_mod.1 h
  refine right_mod.2 ⟨⟨fun t ht => h1 t ?_, ?_⟩, h3, rfl, rfl⟩
  · rcases List.mem_append.1 ht with ht | ht
    · exact List.mem_append_left _ ht
    · exact List.mem_append_right _ (List.mem_cons_of_mem f ht)
  · rw [manR_app] at h2 ⊢
    rw [manR] at h2
    omega
theorem right_both {s s' : ByteArray} {num pos num' pos' : Int} {A B : List Nd} (h : rgtB (.mk 22 s num pos A) = true) (h' : rgtB (.mk 22 s' num' pos' B) = true) (hc : manR A + manR B ≤ 16000) : rgtB (.mk 22 ⟨#[]⟩ 0 0 (A ++ B)) = true := by
  obtain ⟨⟨h1, h2⟩, h3, _⟩ := right_mod.1 h
  obtain ⟨⟨g1, g2⟩, g3, _⟩ := right_mod.1 h'
  refine right_mod.2 ⟨⟨fun t ht => ?_, ?_⟩, by omega, rfl, rfl⟩
  · rcases List.mem_append.1 ht with ht | ht
    · exact h1 t ht
    · exact g1 t ht
  · rw [manR_app]; omega
theorem man_mem : ∀ {K : List Nd} {f : Nd}, f ∈ K → manN f ≤ manR K
  | n :: r, f, h => by
    rw [manR]
    rcases List.mem_cons.1 h with rfl | h
    · omega
    · have := man_mem h; omega
theorem right_twice {s : ByteArray} {num pos : Int} {A : List Nd} {f : Nd} (h : rgtB (.mk 22 s num pos A) = true) (hf : f ∈ A) (hc : manR A ≤ 8000) : rgtB (.mk 22 ⟨#[]⟩ 0 0 (A ++ [f])) = true := by
  obtain ⟨⟨h1, h2⟩, h3, _⟩ := right_mod.1 h
  refine right_mod.2 ⟨⟨fun t ht => ?_, ?_⟩, by omega, rfl, rfl⟩
  · rcases List.mem_append.1 ht with ht | ht
    · exact h1 t ht
    · simp at ht; rw [ht]; exact h1 f hf
  · have := man_mem hf
    rw [manR_app, manR, manR]
    omega

end Go.Proofs.YtpgjcedonimgnaaDoor

/- A node that came in, to its depth. -/
namespace Go.Proofs.YtpgjcedonimgnaaDoor
open Go.ChangeShapes Go.WideShapes Go.ChangeAt Go.RowKit Go.Joins

theorem exists_nodes {P : Nat → Nd → Prop} : ∀ n, (∀ i, i < n → ∃ t, P i t) → ∃ I : List Nd, I.length = n ∧ ∀ i (hi : i < I.length), P i I[i] := by
  intro n
  induction n with
  | zero => intro _; exact ⟨[], rfl, fun i hi => by simp at hi⟩
  | succ n ih =>
    intro h
    obtain ⟨I, h1, h2⟩ := ih (fun i hi => h i (by omega))
    obtain ⟨t, ht⟩ := h n (by omega)
    refine ⟨I ++ [t], by simp [h1], fun i hi => ?_⟩
    by_cases e : i < I.length
    · rw [List.getElem_append_left e]; exact h2 i e
    · have : i = n := by simp at hi; omega
      subst this
      rw [List.getElem_append_right (by omega)]
      simpa using ht
theorem weights_allN {H : Type} {P : Program} {e : TypeId} {l : List (DataW H)} {i : Nat} (hi : i < l.length) : ∀ n ∈ DataW.weights P e l[i], n ∈ DataW.weightsAll P e l := by
  induction l generalizing i with
  | nil => simp at hi
  | cons x r ih =>
    intro n hn
    simp only [DataW.weightsAll, List.mem_append]
    cases i with
    | zero => exact Or.inl hn
    | succ i => exact Or.inr (ih (by simpa using hi) n hn)
theorem cells_node : Tryd.prog.cellsOf 29 = 5 := by kernel_rfl
theorem cells_nodes : Tryd.prog.cellsOf 27 = 1 := by kernel_rfl
theorem cells_nkind : Tryd.prog.cellsOf 26 = 1 := by kernel_rfl
theorem cells_strN : Tryd.prog.cellsOf 9 = 1 := by kernel_rfl
theorem cells_intN : Tryd.prog.cellsOf 3 = 1 := by kernel_rfl
theorem bytes_node : Tryd.prog.bytesOf 29 = 64 := by kernel_rfl
/-- A row of nodes that came in, if each of them is opened. -/
theorem nrow_open {H : Type} {enc : TypeId × Value → H} {W : World} {n : Nat} {v : Value} {y : DataW H × List MemPlace}
    (ih : ∀ m, m < n → ∀ cs x, DataW.trod enc Tryd.prog W 0 (fun _ => true) true m 29 cs = some x → (∀ n ∈ DataW.weights Tryd.prog 29 x.1, n ≤ reachBytes) → ∃ t, NIn W m cs t ∧ nsz t ≤ 2199023255488 ∧ nxz t ≤ 140737488355328)
    (h : DataW.trod enc Tryd.prog W 0 (fun _ => true) true n 27 [v] = some y) (hw : ∀ n ∈ DataW.weights Tryd.prog 27 y.1, n ≤ reachBytes) :
    ∃ (a : Option Addr) (I : List Nd) (c : Nat), v = .slice a I.length c ∧ RowN (NIn W n) W a I ∧ nszs I ≤ 2199023255488 ∧ nxzs I ≤ 140737488355328 ∧ I.length ≤ c ∧ c ≤ 9223372036854775807 := by
  rcases DataW.trod_slice Tryd.underlying27 h with ⟨hcs, _⟩ | ⟨a, len, cap, elems, rest, m, hm, hcs, rfl, hb, hl, hmx, hlen, hel, _, _⟩
  · simp only [List.cons.injEq, and_true] at hcs
    subst hcs
    exact ⟨none, [], 0, rfl, Or.inl rfl, by simp [nszs], by simp [nxzs], by simp, by omega⟩
  · simp only [List.cons.injEq, and_true] at hcs
    subst hcs
    rw [cells_node] at hel
    have hw0 := hw ((elems.length + rest.length) * 64) (by simp [DataW.weights, Tryd.underlying27, bytes_node])
    unfold reachBytes at hw0
    have hex : ∀ i, i < len → ∃ t, ∃ cs : List Value, cs.length = 5 ∧ (∀ j, j < 5 → W.cell? ((a.add (i * 5)).add j) = cs[j]?) ∧ NIn W m cs t ∧ nsz t ≤ 2199023255488 ∧ nxz t ≤ 140737488355328 := by
      intro i hi
      have h1 := hel i hi
      have hie : i < elems.length := by omega
      rw [List.getElem?_eq_getElem hie] at h1
      obtain ⟨cs, h2, h3⟩ := Option.bind_eq_some_iff.1 h1
      obtain ⟨_, h4, h5⟩ := World.cells?_some h2
      have hwi : ∀ n ∈ DataW.weights Tryd.prog 29 ((elems.map (·.1))[i]'(by simpa using hie)), n ≤ reachBytes := fun n hn => hw n (by
        have := weights_allN (P := Tryd.prog) (e := 29) (l := elems.map (·.1)) (i := i) (by simpa using hie) n hn
        simp [DataW.weights, Tryd.underlying27, this])
      rw [List.getElem_map] at hwi
      obtain ⟨t, h6, h7⟩ := ih m (by omega) cs _ h3 hwi
      exact ⟨t, cs, h4, h5, h6, h7⟩
    obtain ⟨I, hI, hP⟩ := exists_nodes len hex
    refine ⟨some a, I, cap, by rw [hI], ?_, ?_, ?_, by omega, Nat.le_trans hmx (by decide)⟩
    · by_cases h0 : len = 0
      · exact Or.inl (List.eq_nil_of_length_eq_zero (by omega))
      · obtain ⟨cs0, hc1, hc2, hc3, _⟩ := hP 0 (by omega)
        obtain ⟨b, off, spot⟩ := a
        have hsome : ∃ u, W.cell? (((⟨b, off, spot⟩ : Addr).add (0 * 5)).add 0) = some u := by
          rw [hc2 0 (by omega)]
          exact ⟨cs0[0], List.getElem?_eq_getElem (by omega)⟩
        obtain ⟨u, hu⟩ := hsome
        have hspot : spot = none := by simpa [Addr.add] using World.cell?_spot hu
        subst hspot
        have hlt := World.block_lt_of_cell? _ _ hu
        refine Or.inr ⟨b, off, rfl, by simpa [Addr.add] using hlt, fun i hi => ?_⟩
        obtain ⟨cs, h1, h2, h3, _⟩ := hP i hi
        refine ⟨cs, h1, fun j hj => ?_, ?_⟩
        · have := h2 j hj
          rw [add_at, add_at] at this
          rw [← this, Nat.add_assoc]
        · rw [hm]; exact NIn.up m cs _ h3
    · refine nszs_le _ I (by omega) (fun i hi => ?_)
      obtain ⟨cs, _, _, _, h4, _⟩ := hP i hi
      exact h4
    · refine nxzs_le _ I (fun i hi => ?_)
      obtain ⟨cs, _, _, _, _, h4⟩ := hP i hi
      exact h4

set_option maxRecDepth 100000 in
/-- A node that came in, to its depth. -/
theorem n_open {H : Type} {enc : TypeId × Value → H} {W : World} : ∀ (fuel : Nat) (cs : List Value) (x : DataW H × List MemPlace), DataW.trod enc Tryd.prog W 0 (fun _ => true) true fuel 29 cs = some x → (∀ n ∈ DataW.weights Tryd.prog 29 x.1, n ≤ reachBytes) → ∃ t, NIn W fuel cs t ∧ nsz t ≤ 2199023255488 ∧ nxz t ≤ 140737488355328 := by
  intro fuel
  induction fuel using Nat.strongRecOn with
  | ind fuel ih =>
    intro cs x h hw
    obtain ⟨xs, n, hn, hx, hcl, hlen, hfs⟩ := DataW.trod_struct Tryd.underlying29 h
    obtain ⟨c0, c1, c2, c3, c4, rfl⟩ := list5 (hcl.trans cells_node)
    have f0 : DataW.trod enc Tryd.prog W 0 (fun _ => true) true n 26 (List.take (Tryd.prog.cellsOf 26) (List.drop 0 [c0, c1, c2, c3, c4])) = xs[0]? := hfs 0 _ rfl
    have f1 : DataW.trod enc Tryd.prog W 0 (fun _ => true) true n 9 (List.take (Tryd.prog.cellsOf 9) (List.drop 1 [c0, c1, c2, c3, c4])) = xs[1]? := hfs 1 _ rfl
    have f2 : DataW.trod enc Tryd.prog W 0 (fun _ => true) true n 3 (List.take (Tryd.prog.cellsOf 3) (List.drop 2 [c0, c1, c2, c3, c4])) = xs[2]? := hfs 2 _ rfl
    have f3 : DataW.trod enc Tryd.prog W 0 (fun _ => true) true n 3 (List.take (Tryd.prog.cellsOf 3) (List.drop 3 [c0, c1, c2, c3, c4])) = xs[3]? := hfs 3 _ rfl
    have f4 : DataW.trod enc Tryd.prog W 0 (fun _ => true) true n 27 (List.take (Tryd.prog.cellsOf 27) (List.drop 4 [c0, c1, c2, c3, c4])) = xs[4]? := hfs 4 _ rfl
    have hl5 : xs.length = 5 := hlen
    simp only [cells_nkind, cells_strN, cells_intN, cells_nodes, List.drop_succ_cons, List.drop_zero, List.take_succ_cons, List.take_zero] at f0 f1 f2 f3 f4
    match xs, hl5 with
    | [x0, x1, x2, x3, x4], _ =>
      simp only [List.getElem?_cons_zero, List.getElem?_cons_succ] at f0 f1 f2 f3 f4
      have hw2 : ∀ (j : Nat) (t : TypeId) (d : DataW H), [26, 9, 3, 3, 27][j]? = some t → ([x0, x1, x2, x3, x4].map (·.1))[j]? = some d → ∀ n ∈ DataW.weights Tryd.prog t d, n ≤ reachBytes := fun j t d ht hd n hn => hw n (by
        rw [hx]
        have := DataW.weights_mem_each (P := Tryd.prog) ht hd n hn
        simpa [DataW.weights, Tryd.underlying29] using this)
      obtain ⟨k, e0, _, _⟩ := DataW.trod_int Tryd.underlying26 f0
      obtain ⟨s, e1, e1', _⟩ := DataW.trod_string Tryd.underlying9 f1
      have hss : s.size ≤ 140737488355328 := by
        have := hw2 1 _ _ rfl rfl s.size (by rw [e1']; simp [DataW.weights])
        unfold reachBytes at this
        omega
      obtain ⟨num, e2, _, _⟩ := DataW.trod_int Tryd.underlying3 f2
      obtain ⟨pos, e3, _, _⟩ := DataW.trod_int Tryd.underlying3 f3
      obtain ⟨ai, I, ci, e4, hI, hIs, hIx, hc1, hc2⟩ := nrow_open (fun m hm cs x hx => ih m (by omega) cs x hx) f4 (hw2 4 _ _ rfl rfl)
      simp only [List.cons.injEq, and_true] at e0 e1 e2 e3
      subst e0 e1 e2 e3 e4 hn
      refine ⟨.mk k s num pos I, ⟨ai, ci, rfl, hI, hc1, hc2⟩, ?_, ?_⟩
      · simp only [nsz]
        omega
      · simp only [nxz]
        omega

end Go.Proofs.YtpgjcedonimgnaaDoor

/- The frame of the row of LintNames: what the walk has to show is its one hypothesis. -/
namespace Go.Proofs.YtpgjcedonimgnaaDoor
open Go.ChangeShapes Go.WideShapes Go.ChangeAt Go.RowKit Go.Joins Go.ChangeMaps

/-- What the walk has to show. -/
def LintNamesWalk : Prop := ∀ (d : Nat) (cs0 : List Value) (t0 : Nd) (t1 : ByteArray) (W : World) (_hg : Glb W) (_in0 : NIn W d cs0 t0) (_y0 : nsz t0 ≤ 2199023255488) (_x0 : nxz t0 ≤ 140737488355328),
    Calls Tryd.prog 5 #[.agg cs0.toArray, .string t1] W fun e w' => e = .returned (.bool true) ∧ Upd [] W w'
theorem NIn.liftM {w : World} {d : Nat} {cs : List Value} {t : Nd} (h : NIn w d cs t) : ∀ k, NIn w (d + k) cs t
  | 0 => h
  | k + 1 => NIn.more _ _ _ (NIn.liftM h k)

set_option maxHeartbeats 1000000 in
set_option maxRecDepth 100000 in
theorem lintNames_contract (hwalk : LintNamesWalk) (H : Type) (enc : TypeId × Value → H) (W : World) (base : Nat) (args : Array Value) (ds gs : List (DataW H)) (before : List MemPlace) (hgl : Glb W)
    (hval : ∀ (j : Nat) t v, Tryd.f5.params[j]? = some t → args[j]? = some v → Value.okWide Tryd.prog W .any base t v)
    (hW : DataW.Whole enc Tryd.prog Tryd.f5.params.toList Rows.lintNamesSpec.vars false W args.toList ds gs before)
    (hwt : (DataW.weightsEach Tryd.prog (Tryd.f5.params.toList ++ (OpenSpec.ofChange Rows.lintNamesSpec).bare.plain.varTypes Tryd.prog) (ds ++ gs)).all (· ≤ reachBytes) = true) :
    Calls Tryd.prog 5 args W fun e W' => ∃ v, e = .returned v ∧ Rows.lintNamesSpec.post enc Tryd.prog Tryd.f5 false true false false W args v W' := by
  have hW' := hW
  obtain ⟨p, q, hA0, hV, rfl, hfz, hnd⟩ := hW
  have hA : DataW.TrodAll enc Tryd.prog W 0 (fun _ => true) true Tryd.f5.params.toList args.toList ds p := hA0
  rw [Tryd.params5] at hA hval
  obtain ⟨v0, vs0, d0, ds0, p0, q0, hargs, rfl, rfl, h0, r0⟩ := trodAll_cons hA
  obtain ⟨v1, vs1, d1, ds1, p1, q1, rfl, rfl, rfl, h1, r1⟩ := trodAll_cons r0
  obtain ⟨rfl, rfl, rfl⟩ := trodAll_nil r1
  obtain rfl : args = #[v0, v1] := by cases args; simp_all
  obtain ⟨rfl, rfl⟩ := trodVars_none hV
  clear hA0
  simp only [List.append_nil] at hW'
  rw [Tryd.params5] at hwt
  have hlt0 : ∀ x ∈ p0, x.block < W.heap.size := fun x hx => by simpa using hW'.lt x (by simp [hx])
  have hk0 : ∀ (W' : World), Below W.heap.size W W' → DataW.Trod enc Tryd.prog W' 0 (fun b => decide (b < W.heap.size)) true 29 v0 d0 p0 :=
    fun W' hn => Below.trod laidOut (by kernel_rfl) (of_decide_eq_true (by kernel_rfl)) h0 hn hlt0
  obtain ⟨cs0, rfl, hsz0⟩ := okWide_struct Tryd.underlying29 (hval 0 29 v0 rfl rfl)
  obtain ⟨f0, g0⟩ := h0
  have hw0 : ∀ n ∈ DataW.weights Tryd.prog 29 d0, n ≤ reachBytes := fun n hn => by
    have := List.all_eq_true.1 hwt n (DataW.weights_mem_each (j := 0) (t := 29) (d := d0) rfl rfl n hn)
    simpa using this
  obtain ⟨t0, in0, y0, x0⟩ := n_open f0 cs0.toList _ g0 hw0
  obtain ⟨t1, rfl, rfl, rfl, hs1⟩ := open_string Tryd.underlying9 (hval 1 9 v1 rfl rfl) h1
  have in0' : NIn W (f0) cs0.toList t0 := by have := in0.liftM (0); rwa [show f0 + (0) = f0 by omega] at this
  refine (hwalk _ cs0.toList t0 t1 W hgl in0' y0 x0).mono fun e W' ⟨he, hU⟩ => ?_
  subst he
  have hbel := hU.below
  refine ⟨_, rfl, _, _, _, [], p0 ++ ([] ++ ([])), [], hW', ?_, ?_, rfl, hbel.frame _, fun h => by cases h⟩
  · exact trodAll_cons_mk (shut_bool Tryd.underlying4 _) trodAll_mk0
  · exact (trodAll_cons_mk (hk0 _ hbel) (trodAll_cons_mk (shut_string Tryd.underlying9 hs1) trodAll_mk0))

theorem lintNames_laid (os : Os) : laidMet Tryd.prog Rows.lintNamesRow.laid ((witW os).forCall (fun _ _ => 0) ⟨#[], #[.agg #[.int .u8 0, .string ⟨#[]⟩, .int .i64 0, .int .i64 0, .slice none 0 0], .string ⟨#[]⟩], []⟩).memory := laid_met os _
theorem lintNames_reads (os : Os) {H : Type} (enc : TypeId × Value → H) : ∃ places, DataW.whole enc Tryd.prog ((witW os).forCall (fun _ _ => 0) ⟨#[], #[.agg #[.int .u8 0, .string ⟨#[]⟩, .int .i64 0, .int .i64 0, .slice none 0 0], .string ⟨#[]⟩], []⟩).memory Tryd.f5.params.toList Rows.lintNamesSpec.vars false #[.agg #[.int .u8 0, .string ⟨#[]⟩, .int .i64 0, .int .i64 0, .slice none 0 0], .string ⟨#[]⟩].toList 8 = some ([.agg [.lit (.int .u8 0), .lit (.string []), .lit (.int .i64 0), .lit (.int .i64 0), .nil], .lit (.string [])], [], places) :=
  ⟨[], by kernel_rfl⟩

set_option maxHeartbeats 1000000 in
set_option maxRecDepth 100000 in
theorem lintNames_lifted (hwalk : LintNamesWalk) (os : Os) (started : os.Started) (H : Type) (enc : TypeId × Value → H) (F : Stop.Interp) :
    ReturnsInHanded {} Tryd.checked os 5 .any ((OpenSpec.ofChange Rows.lintNamesSpec).preRow enc Tryd.prog Tryd.f5 Rows.lintNamesRow.domain false Rows.lintNamesRow.laid) (((OpenSpec.ofChange Rows.lintNamesSpec).at F).post enc Tryd.prog Tryd.f5 false true false false) := by
  obtain ⟨places, hx⟩ := lintNames_reads os enc
  refine returnsInHanded_of_row (C := Tryd.checked) (s := OpenSpec.ofChange Rows.lintNamesSpec) own started (by kernel_rfl) Tryd.func5
    (witness_row_atRef (enc := enc) (C := Tryd.checked) false (witW os) #[.agg #[.int .u8 0, .string ⟨#[]⟩, .int .i64 0, .int .i64 0, .slice none 0 0], .string ⟨#[]⟩] rfl (by kernel_rfl) (by kernel_rfl) (by kernel_rfl)
      (OpenSpec.preRow_of_cond 8 hx (by kernel_rfl) (fun k hk => by cases hk) (by kernel_rfl) (lintNames_laid os))) ?_
  intro W base args ds gs before hval hW _ _ hwt hlaid _ _
  exact lintNames_contract hwalk H enc W base args ds gs before (glb_of_laid hlaid) hval hW hwt

set_option maxRecDepth 100000 in
theorem lintNames_said (hwalk : LintNamesWalk) : Rows.LintNamesSaid :=
  OpenClaim.holds_of_cond 5 Tryd.f5 rfl rfl rfl rfl rfl rfl rfl ⟨rfl, rfl, rfl, rfl, rfl⟩ rfl rfl rfl rfl rfl (by kernel_rfl) Tryd.func5 (by kernel_rfl)
    (of_decide_eq_true (by kernel_rfl)) (by unfold Func.isWrapper; first | (rw [if_pos (by decide +kernel)]; kernel_rfl) | (rw [if_neg (by decide +kernel)]; exact ⟨rfl, rfl⟩))
    (fun os started H enc _ F => by rw [OpenClaim.pre_eq_preRow]; exact lintNames_lifted hwalk os started H enc F)

theorem lintNames_plain (f : FuncId) (fn : Func) (hf : Tryd.pinned.checked.prog.funcNamed "pigeonhole/pigeonholelaw07.LintNames" = some f) (hfn : Tryd.pinned.checked.prog.funcs[f]? = some fn) :
    true = Tryd.pinned.checked.prog.looks [] ∧ ∀ (j : Nat) t, fn.params[j]? = some t → Tryd.pinned.checked.prog.wantsStandIn t = false := by
  obtain rfl : f = 5 := Option.some.inj ((show Tryd.prog.funcNamed "pigeonhole/pigeonholelaw07.LintNames" = some 5 by kernel_rfl).symm.trans hf) |>.symm
  obtain rfl : fn = Tryd.f5 := (Option.some.inj (Tryd.func5.symm.trans hfn)).symm
  refine ⟨by kernel_rfl, fun j t ht => ?_⟩
  rw [Tryd.params5] at ht
  have hm : t = 29 ∨ t = 9 := by have := Array.mem_of_getElem? ht; simpa using this
  rcases hm with rfl | rfl
  · exact (show Tryd.prog.wantsStandIn 29 = false by kernel_rfl)
  · exact (show Tryd.prog.wantsStandIn 9 = false by kernel_rfl)

/-- The card, of the walk. -/
theorem lintNames_card (hwalk : LintNamesWalk) : Rows.LintNamesCardSaid :=
  Claim7.holds_tied_plain_at .later [] _ _ _ _ (lintNames_said hwalk) (fun _ h => by cases h) (by kernel_rfl) (fun _ h => by cases h) lintNames_row_tie rfl ⟨rfl, rfl⟩ (by kernel_rfl) rfl lintNames_plain (by kernel_rfl)

end Go.Proofs.YtpgjcedonimgnaaDoor
