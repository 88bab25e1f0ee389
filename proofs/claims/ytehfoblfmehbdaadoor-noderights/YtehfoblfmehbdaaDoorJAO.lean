/- deepest of package node, of whatever row of a tree that is lent. -/
import Derived.Test.YtehfoblfmehbdaaDoorNrA

namespace Go.Proofs.YtehfoblfmehbdaaDoor
open Go.RowKit

/-- The deepest row among kids'. -/
def mxK : List Kid → Nat
  | [] => 0
  | e :: r => max (depR e.K) (mxK r)
theorem mxK_append : ∀ (L M : List Kid), mxK (L ++ M) = max (mxK L) (mxK M)
  | [], M => by simp [mxK]
  | e :: r, M => by rw [List.cons_append, mxK, mxK, mxK_append r M]; omega
theorem mxK_take (L : List Kid) (k : Nat) (hk : k < L.length) : mxK (L.take (k + 1)) = max (mxK (L.take k)) (depR L[k].K) := by
  rw [List.take_succ_eq_append_getElem hk, mxK_append]
  simp [mxK]
theorem mxK_dep : ∀ (L : List Kid), L ≠ [] → 1 + mxK L = depR (L.map Kid.nd)
  | [], h => absurd rfl h
  | [e], _ => by simp [mxK, depR, Kid.nd, depN]
  | e :: f :: r, _ => by
    have := mxK_dep (f :: r) (by simp)
    rw [List.map_cons, depR, ← this, mxK, Kid.nd, depN]
    omega
mutual
theorem depN_man : ∀ t : Nd, depN t ≤ manN t
  | .mk _ _ _ _ K => by
    have := depR_man K
    simp only [depN, manN]; omega
theorem depR_man : ∀ K : List Nd, depR K ≤ manR K
  | [] => by simp [depR, manR]
  | t :: r => by
    have := depN_man t
    have := depR_man r
    simp only [depR, manR]; omega
end

set_option maxHeartbeats 1000000 in
set_option maxRecDepth 100000 in
/-- deepest, of kids whose rows' depths are known. -/
theorem deepest_kd (w : World) (bd bm b c : Nat) (L : List Kid) (l : List (Option Addr × Int × Int)) (hK : RowK w b 0 L) (hl : ∃ l2, l = (none, 0, 0) :: l2) (hlen : L.length ≤ 20000) (hkl : ∀ e ∈ L, e.K.length ≤ 20000)
    (hat : ∀ e ∈ L, e.K.length ≠ 0 → ∃ l1 l2, l = l1 ++ (some ⟨e.g, 0, none⟩, (e.K.length : Int), (depR e.K : Int)) :: l2 ∧ ∀ t ∈ l1, ∀ W, Upd [] w W → Far W (some ⟨e.g, 0, none⟩) t.1) (hbd : FunB w bd (.map (some bm)) 44) (hD : DM w bm l) :
    Calls Tryd.prog 36 #[.slice (some ⟨b, 0, none⟩) L.length c, .func (.func 37) #[] #[.pointer (some ⟨bd, 0, none⟩)]] w fun e w' => e = .returned (.int .i64 (mxK L)) ∧ Upd [] w w' := by
  have HC : Hid (∀ k (hk : k < L.length) W, Upd [] w W → Calls Tryd.prog 37 #[.agg L[k].cs.toArray, .pointer (some ⟨bd, 0, none⟩)] W fun e w' => e = .returned (.int .i64 (depR L[k].K)) ∧ Upd [] W w') := fun k hk W hu => by
    have hm : L[k] ∈ L := List.getElem_mem hk
    by_cases h0 : L[k].K.length = 0
    · have hc := dc1_nil W bd bm L[k].k L[k].num L[k].pos L[k].s l (some ⟨L[k].g, 0, none⟩) L[k].c hl (hbd.mono hu (by simp)) (hD.upd hu (by simp))
      rw [Kid.cs, h0, List.eq_nil_of_length_eq_zero h0, depR]
      exact hc
    · obtain ⟨l1, l2, h1, h2⟩ := hat _ hm h0
      exact dc1_at W bd bm L[k].k L[k].num L[k].pos L[k].s l L[k].g L[k].K.length L[k].c (depR L[k].K) (by omega) (hkl _ hm) l1 l2 h1 (fun t ht V hV => h2 t ht V (hu.trans hV)) (hbd.mono hu (by simp)) (hD.upd hu (by simp))
  have HK : Hid (RowK w b 0 L) := hK
  have eg : ∀ args w, (callFunc 37 args).run Tryd.prog w = .ok (.enter 37 args) w := Tryd.call37
  clear hK hbd hD hl hat hkl
  go_enter Tryd.func36, Tryd.ntmps36
  go_wp2
  go_loopw [10, 5] (fun i m wr => ∃ k : Nat, k ≤ L.length ∧ i = .int .i64 k ∧ m = .int .i64 (mxK (L.take k)) ∧ Upd [] w wr) (fun i _ _ => L.length - (intOf i).toNat)
  case atStart => exact ⟨0, Nat.zero_le _, rfl, by simp [mxK], Upd.refl _ _⟩
  case round =>
    obtain ⟨k, hk, rfl, rfl, hU⟩ := hrel
    by_cases hlt : k < L.length
    · have i1 : (k : Int) < (L.length : Int) := by omega
      obtain ⟨hb, hc⟩ := HK.out.upd hU (by simp)
      have hcell := hc k hlt
      have HC2 := HC.out k hlt
      have hmt := mxK_take L k hlt
      obtain ⟨q0, q1, q2, q3, q4, hq⟩ : ∃ q0 q1 q2 q3 q4, L[k].cs = [q0, q1, q2, q3, q4] := ⟨_, _, _, _, _, rfl⟩
      have hone : (#[q0, q1, q2, q3, q4] : Array Value).all (·.oneCell') = true := by
        rw [Kid.cs] at hq
        simp only [List.cons.injEq, and_true] at hq
        obtain ⟨rfl, rfl, rfl, rfl, rfl⟩ := hq
        simp [Value.oneCell']
      rw [hq] at hcell HC2
      generalize depR L[k].K = dk at HC2 hmt
      generalize mxK (L.take k) = mk at hmt ⊢
      simp only [Nat.zero_add] at hcell
      have x0 : wr.cell? ⟨b, k * 5, none⟩ = some q0 := hcell 0 (by omega)
      have x1 : wr.cell? ⟨b, k * 5 + 1, none⟩ = some q1 := hcell 1 (by omega)
      have x2 : wr.cell? ⟨b, k * 5 + 2, none⟩ = some q2 := hcell 2 (by omega)
      have x3 : wr.cell? ⟨b, k * 5 + 3, none⟩ = some q3 := hcell 3 (by omega)
      have x4 : wr.cell? ⟨b, k * 5 + 4, none⟩ = some q4 := hcell 4 (by omega)
      have HPK : Hid (∀ W, Upd [] w W → Calls Tryd.prog 37 #[.agg #[q0, q1, q2, q3, q4], .pointer (some ⟨bd, 0, none⟩)] W fun e w' => e = .returned (.int .i64 dk) ∧ Upd [] W w') := HC2
      have HMT : Hid (mxK (L.take (k + 1)) = max mk dk) := hmt
      have tz : Tb (wr.alloc (.cells #[.int .u8 0, .string ⟨#[]⟩, .int .i64 0, .int .i64 0, .slice none 0 0] 25)) wr.heap.size #[.int .u8 0, .string ⟨#[]⟩, .int .i64 0, .int .i64 0, .slice none 0 0] := Tb.new _ _ _ rfl
      have HUZ : Hid (Upd [] w wr ∧ Upd [] wr (wr.alloc (.cells #[.int .u8 0, .string ⟨#[]⟩, .int .i64 0, .int .i64 0, .slice none 0 0] 25))) := ⟨hU, (Upd.refl [] wr).alloc _⟩
      clear hc hcell hU HC2 hmt hq hb
      go_wp2_with (first
        | (refine store_T _ rfl _ _ rfl _ #[q0, q1, q2, q3, q4] _ rfl rfl tz rfl rfl hone ?_; intro w1 t1 u1)
        | (refine load_T _ rfl _ rfl _ _ rfl t1 rfl ?_)
        | fail)
      have U1 : Upd [] w w1 := HUZ.out.1.trans (HUZ.out.2.then u1 (by simp))
      refine Calls.mono (HPK.out w1 U1) ?_
      rintro e w2 ⟨rfl, hU2⟩
      have HU2 : Hid (Upd [] w w2) := U1.trans hU2
      clear U1 hU2 t1 u1 tz x0 x1 x2 x3 x4
      by_cases hlm : (mk : Int) < (dk : Int)
      · go_wp2
        go_roundw
        case rel => exact ⟨k + 1, by omega, by go_num, by rw [HMT.out, show max mk dk = dk by omega], HU2.out⟩
        case measure => simp [intOf]; omega
      · go_wp2
        go_roundw
        case rel => exact ⟨k + 1, by omega, by go_num, by rw [HMT.out, show max mk dk = mk by omega], HU2.out⟩
        case measure => simp [intOf]; omega
    · have hd : decide ((k : Int) < (L.length : Int)) = false := by simp; omega
      have hkL : k = L.length := by omega
      subst hkL
      rw [List.take_length]
      clear HC HK
      go_wp2
      go_ret
      exact ⟨rfl, hU⟩

end Go.Proofs.YtehfoblfmehbdaaDoor

/- How Deep goes through a tree that is lent: its stack of rows, its map of depths. -/
namespace Go.Proofs.YtehfoblfmehbdaaDoor
open Go.RowKit

theorem man_mem {t : Nd} : ∀ {K : List Nd}, t ∈ K → manN t ≤ manR K
  | a :: r, h => by
    rcases List.mem_cons.1 h with rfl | h
    · simp only [manR]; omega
    · have := man_mem h
      simp only [manR]; omega
/-- A row of a tree that is lent. -/
def Kid.Ok (W0 : World) (bm : Nat) (e : Kid) : Prop := (∃ d, RowS (NL W0 d) W0 e.g e.c e.K e.Q) ∧ nszs e.K ≤ 20000 ∧ manR e.K ≤ 30000 ∧ ∀ x, e.Q x → x ≠ bm
theorem Kid.Ok.at {W0 : World} {bm : Nat} {e : Kid} (h : e.Ok W0 bm) : e.Q e.g := by
  obtain ⟨⟨d, h⟩, _⟩ := h
  exact h.1
theorem Kid.Ok.unm {W0 : World} {bm : Nat} {e : Kid} (h : e.Ok W0 bm) : Unm W0 e.g := by
  obtain ⟨⟨d, h⟩, _⟩ := h
  exact h.unm
theorem Kid.Ok.len {W0 : World} {bm : Nat} {e : Kid} (h : e.Ok W0 bm) : e.K.length ≤ 20000 := Nat.le_trans (nszs_len _) h.2.1
theorem Kid.Ok.ne {W0 : World} {bm : Nat} {e : Kid} (h : e.Ok W0 bm) : e.g ≠ bm := h.2.2.2 _ h.at
/-- The kids of a row. -/
structure KidsOf (W0 : World) (bm : Nat) (e : Kid) (L : List Kid) : Prop where
  nd : L.map Kid.nd = e.K
  row : RowK W0 e.g 0 L
  ok : ∀ f ∈ L, f.Ok W0 bm
  sub : ∀ f ∈ L, ∀ x, f.Q x → e.Q x ∧ x ≠ e.g
  dis : L.Pairwise (fun f f' => ∀ x, f.Q x → ¬ f'.Q x)
theorem KidsOf.len {W0 : World} {bm : Nat} {e : Kid} {L : List Kid} (h : KidsOf W0 bm e L) : L.length = e.K.length := by rw [← h.nd, List.length_map]
theorem kids_ex {W0 : World} {bm : Nat} {e : Kid} (h : e.Ok W0 bm) : ∃ L, KidsOf W0 bm e L := by
  obtain ⟨⟨d, h1, ⟨cur, h2, h3⟩, h4, h5, Q, h6, h7, h8⟩, hz, hm, hb⟩ := h
  have hlt := lt_of_block h2
  have hex : ∀ i : Fin e.K.length, ∃ f : Kid, f.nd = e.K[i] ∧ f.Q = Q i ∧ (∀ j, j < 5 → W0.cell? ⟨e.g, i * 5 + j, none⟩ = f.cs[j]?) ∧ f.Ok W0 bm := by
    intro i
    obtain ⟨cs, k1, k2, k3⟩ := h8 i i.2
    have hmem : e.K[i] ∈ e.K := List.getElem_mem i.2
    have hzi := nszs_get e.K i i.2
    have hmi := man_mem hmem
    have hsb : ∀ x, Q i x → x ≠ bm := fun x hx => hb x (h6 i x i.2 hx).1
    generalize hq : Q i = Qi at k3 hsb ⊢
    cases d with
    | zero => exact k3.elim
    | succ d =>
      cases ht : e.K[i] with
      | mk k s num pos J =>
        have ht2 : e.K[(i : Nat)] = .mk k s num pos J := ht
        rw [ht2] at k3 hzi
        rw [ht] at hmi
        obtain ⟨g, cap, rfl, r1, r2, r3⟩ := k3
        refine ⟨⟨k, s, num, pos, g, cap, J, Qi⟩, rfl, rfl, k2, ⟨d, r1⟩, ?_, ?_, hsb⟩
        · show nszs J ≤ 20000
          simp only [nsz] at hzi
          omega
        · show manR J ≤ 30000
          simp only [manN] at hmi
          omega
  obtain ⟨F, hF⟩ := Classical.axiomOfChoice hex
  refine ⟨List.ofFn F, ?_, ⟨hlt, fun i hi j hj => ?_⟩, fun f hf => ?_, fun f hf x hx => ?_, ?_⟩
  · apply List.ext_getElem
    · simp
    · intro i h1 h2
      have := (hF ⟨i, h2⟩).1
      simpa using this
  · have hi2 : i < e.K.length := by simpa using hi
    have := (hF ⟨i, hi2⟩).2.2.1 j hj
    simpa using this
  · obtain ⟨i, rfl⟩ := (List.mem_ofFn).1 hf
    exact (hF i).2.2.2
  · obtain ⟨i, rfl⟩ := (List.mem_ofFn).1 hf
    rw [(hF i).2.1] at hx
    exact h6 i x i.2 hx
  · rw [List.pairwise_iff_getElem]
    intro i j hi hj hij x hx hy
    have hi2 : i < e.K.length := by simpa using hi
    have hj2 : j < e.K.length := by simpa using hj
    simp only [List.getElem_ofFn] at hx hy
    rw [(hF ⟨i, hi2⟩).2.1] at hx
    rw [(hF ⟨j, hj2⟩).2.1] at hy
    exact h7 i j x hi2 hj2 (by omega) hx hy

abbrev Ents := List (Option Addr × Int × Int)
/-- Is a row's depth known? -/
def Done (l : Ents) (f : Kid) : Prop := f.K = [] ∨ (some ⟨f.g, 0, none⟩, (f.K.length : Int), (depR f.K : Int)) ∈ l
abbrev Frm' := Kid × Option (List Kid)
/-- What is wanted of a row's kids is known, or stands above it. -/
def KI (l : Ents) : List Frm' → Prop
  | [] => True
  | e :: E2 => (∀ L, e.2 = some L → ∀ f ∈ L, Done l f ∨ ∃ e' ∈ E2, e'.1 = f) ∧ KI l E2
theorem KI.swap {l l' : Ents} {M M' : List Frm'} (hl : ∀ f, Done l f → Done l' f) (hM : ∀ f, (∃ e' ∈ M, e'.1 = f) → Done l' f ∨ ∃ e' ∈ M', e'.1 = f) (hK : KI l' M') : ∀ E0 : List Frm', KI l (E0 ++ M) → KI l' (E0 ++ M')
  | [], _ => hK
  | e :: E0, h => by
    refine ⟨fun L hL f hf => ?_, KI.swap hl hM hK E0 h.2⟩
    rcases h.1 L hL f hf with h1 | ⟨e', h1, h2⟩
    · exact Or.inl (hl f h1)
    · rcases List.mem_append.1 h1 with h1 | h1
      · exact Or.inr ⟨e', List.mem_append.2 (Or.inl h1), h2⟩
      · rcases hM f ⟨e', h1, h2⟩ with h3 | ⟨e2, h3, h4⟩
        · exact Or.inl h3
        · exact Or.inr ⟨e2, List.mem_append.2 (Or.inr h3), h4⟩
theorem KI.last {l : Ents} {e : Kid} {L : List Kid} : ∀ E0 : List Frm', KI l (E0 ++ [(e, some L)]) → ∀ f ∈ L, Done l f
  | [], h => fun f hf => by
    rcases h.1 L rfl f hf with h1 | ⟨e', h1, _⟩
    · exact h1
    · simp at h1
  | _ :: E0, h => KI.last E0 h.2
/-- Rows that are pushed. -/
def fs (L : List Kid) : List Frm' := (L.filter (fun e => e.K.length != 0)).map (fun f => (f, none))
theorem mem_fs {L : List Kid} {x : Frm'} (h : x ∈ fs L) : x.1 ∈ L ∧ x.2 = none ∧ x.1.K ≠ [] := by
  obtain ⟨f, hf, rfl⟩ := List.mem_map.1 h
  obtain ⟨h1, h2⟩ := List.mem_filter.1 hf
  exact ⟨h1, rfl, fun h0 => by rw [show f.K = [] from h0] at h2; simp at h2⟩
theorem fs_mem {L : List Kid} {f : Kid} (h : f ∈ L) (hk : f.K ≠ []) : (f, none) ∈ fs L := by
  refine List.mem_map.2 ⟨f, List.mem_filter.2 ⟨h, ?_⟩, rfl⟩
  simpa using hk
theorem fs_val (L : List Kid) : (fs L).map (fun e => e.1.val) = kv L := by
  rw [fs, kv, List.map_map]
  rfl

/-- What holds of the stack and of the depths. -/
structure GI (W0 : World) (bm : Nat) (root : Kid) (E : List Frm') (l : Ents) : Prop where
  hd : ∃ l2, l = (none, 0, 0) :: l2
  key : ∀ t ∈ l, t.1 = none ∨ ∃ x, t.1 = some ⟨x, 0, none⟩ ∧ Unm W0 x ∧ x ≠ bm
  nod : l.Pairwise (fun s t => s.1 ≠ t.1)
  ok : ∀ e ∈ E, e.1.Ok W0 bm ∧ e.1.K ≠ []
  new : ∀ e ∈ E, e.2 = none → ∀ x, e.1.Q x → ∀ t ∈ l, t.1 ≠ some ⟨x, 0, none⟩
  dis : E.Pairwise (fun e e' => (e.2 = none → ∀ x, e.1.Q x → ¬ e'.1.Q x) ∧ e.1.g ≠ e'.1.g)
  opn : ∀ e ∈ E, ∀ L, e.2 = some L → KidsOf W0 bm e.1 L ∧ (some ⟨e.1.g, 0, none⟩, (e.1.K.length : Int), -1) ∈ l
  kid : KI l E
  rt : Done l root ∨ ∃ e' ∈ E, e'.1 = root
theorem GI.far {W0 W : World} {bm : Nat} {root : Kid} {E : List Frm'} {l : Ents} (h : GI W0 bm root E l) {x : Nat} (hx : Unm W0 x) (hb : x ≠ bm) (hu : Upd [bm] W0 W) {t : Option Addr × Int × Int} (ht : t ∈ l) (hn : t.1 ≠ some ⟨x, 0, none⟩) : Far W (some ⟨x, 0, none⟩) t.1 := by
  rcases h.key t ht with h1 | ⟨y, h1, h2, h3⟩
  · exact Or.inr (Or.inl ⟨h1, x, rfl⟩)
  · refine Or.inr (Or.inr ⟨x, y, rfl, h1, fun e => hn (by rw [h1, e]), hx.upd hu (by simpa using hb), h2.upd hu (by simpa using h3)⟩)
theorem GI.open {W0 : World} {bm : Nat} {root e : Kid} {E0 : List Frm'} {l : Ents} {L : List Kid} (h : GI W0 bm root (E0 ++ [(e, none)]) l) (hL : KidsOf W0 bm e L) :
    GI W0 bm root (E0 ++ (e, some L) :: fs L) (l ++ [(some ⟨e.g, 0, none⟩, (e.K.length : Int), -1)]) := by
  have hme : (e, none) ∈ E0 ++ [(e, none)] := by simp
  have hok := h.ok _ hme
  have hnew := h.new _ hme rfl
  have hpw := List.pairwise_append.1 h.dis
  have hat : e.Q e.g := hok.1.at
  have hfat : ∀ f ∈ L, f.Q f.g := fun f hf => (hL.ok f hf).at
  obtain ⟨l2, hl2⟩ := h.hd
  have hdn : ∀ f, Done l f → Done (l ++ [(some ⟨e.g, 0, none⟩, (e.K.length : Int), -1)]) f := fun f hf => hf.imp id (fun h => List.mem_append.2 (Or.inl h))
  refine ⟨⟨l2 ++ [_], by rw [hl2]; rfl⟩, fun t ht => ?_, ?_, fun x hx => ?_, fun x hx hn y hy t ht => ?_, ?_, fun x hx L2 hL2 => ?_, ?_, ?_⟩
  · rcases List.mem_append.1 ht with ht | ht
    · exact h.key t ht
    · simp only [List.mem_singleton] at ht
      subst ht
      exact Or.inr ⟨e.g, rfl, hok.1.unm, hok.1.ne⟩
  · refine List.pairwise_append.2 ⟨h.nod, by simp, fun s hs t ht => ?_⟩
    simp only [List.mem_singleton] at ht
    subst ht
    exact hnew _ hat s hs
  · rcases List.mem_append.1 hx with hx | hx
    · exact h.ok x (List.mem_append.2 (Or.inl hx))
    · rcases List.mem_cons.1 hx with rfl | hx
      · exact hok
      · obtain ⟨h1, _, h3⟩ := mem_fs hx
        exact ⟨hL.ok _ h1, h3⟩
  · rcases List.mem_append.1 hx with hx | hx
    · rcases List.mem_append.1 ht with ht | ht
      · exact h.new x (List.mem_append.2 (Or.inl hx)) hn y hy t ht
      · simp only [List.mem_singleton] at ht
        subst ht
        intro he
        simp only [Option.some.injEq, Addr.mk.injEq, and_true] at he
        exact (hpw.2.2 x hx _ (List.mem_singleton.2 rfl)).1 hn y hy (he ▸ hat)
    · rcases List.mem_cons.1 hx with rfl | hx
      · cases hn
      · obtain ⟨h1, _, _⟩ := mem_fs hx
        have hs := hL.sub _ h1 y hy
        rcases List.mem_append.1 ht with ht | ht
        · exact hnew y hs.1 t ht
        · simp only [List.mem_singleton] at ht
          subst ht
          intro he
          simp only [Option.some.injEq, Addr.mk.injEq, and_true] at he
          exact hs.2 he.symm
  · refine List.pairwise_append.2 ⟨hpw.1, List.pairwise_cons.2 ⟨fun x hx => ⟨fun hn => (by cases hn), fun hg => ?_⟩, ?_⟩, fun x hx y hy => ?_⟩
    · obtain ⟨h1, _, _⟩ := mem_fs hx
      exact (hL.sub _ h1 _ (hfat _ h1)).2 hg.symm
    · rw [fs, List.pairwise_map]
      refine ((hL.dis.filter _).imp_of_mem ?_)
      intro a b ha hb hab
      refine ⟨fun _ => hab, fun hg => ?_⟩
      have ha2 := hfat a (List.mem_filter.1 ha).1
      have hb2 := hfat b (List.mem_filter.1 hb).1
      exact hab _ ha2 (by rw [show a.g = b.g from hg]; exact hb2)
    · have hxe := hpw.2.2 x hx _ (List.mem_singleton.2 rfl)
      rcases List.mem_cons.1 hy with rfl | hy
      · exact hxe
      · obtain ⟨h1, _, _⟩ := mem_fs hy
        have hyg := (hL.sub _ h1 _ (hfat _ h1)).1
        refine ⟨fun hn z hz hz2 => hxe.1 hn z hz (hL.sub _ h1 z hz2).1, fun hg => ?_⟩
        cases hx2 : x.2 with
        | none =>
          have hxq := (h.ok x (List.mem_append.2 (Or.inl hx))).1.at
          exact hxe.1 hx2 _ hxq (by rw [hg]; exact hyg)
        | some L2 =>
          have hin := (h.opn x (List.mem_append.2 (Or.inl hx)) L2 hx2).2
          exact hnew _ hyg _ hin (by rw [hg])
  · rcases List.mem_append.1 hx with hx | hx
    · obtain ⟨h1, h2⟩ := h.opn x (List.mem_append.2 (Or.inl hx)) L2 hL2
      exact ⟨h1, List.mem_append.2 (Or.inl h2)⟩
    · rcases List.mem_cons.1 hx with rfl | hx
      · cases hL2
        exact ⟨hL, List.mem_append.2 (Or.inr (List.mem_singleton.2 rfl))⟩
      · rw [(mem_fs hx).2.1] at hL2
        cases hL2
  · refine KI.swap hdn (M := [(e, none)]) (M' := (e, some L) :: fs L) (fun f hf => ?_) ⟨fun L2 hL2 f hf => ?_, ?_⟩ E0 h.kid
    · obtain ⟨e', h1, h2⟩ := hf
      simp only [List.mem_singleton] at h1
      subst h1
      exact Or.inr ⟨(e, some L), by simp, h2⟩
    · cases hL2
      by_cases hk : f.K = []
      · exact Or.inl (Or.inl hk)
      · exact Or.inr ⟨(f, none), fs_mem hf hk, rfl⟩
    · have : ∀ M : List Frm', (∀ x ∈ M, x.2 = none) → KI (l ++ [(some ⟨e.g, 0, none⟩, (e.K.length : Int), -1)]) M := by
        intro M
        induction M with
        | nil => intro _; trivial
        | cons a r ih => intro hM; exact ⟨fun L2 hL2 => (by rw [hM a (by simp)] at hL2; cases hL2), ih (fun x hx => hM x (by simp [hx]))⟩
      exact this _ (fun x hx => (mem_fs hx).2.1)
  · rcases h.rt with h1 | ⟨e', h1, h2⟩
    · exact Or.inl (hdn _ h1)
    · rcases List.mem_append.1 h1 with h1 | h1
      · exact Or.inr ⟨e', List.mem_append.2 (Or.inl h1), h2⟩
      · simp only [List.mem_singleton] at h1
        subst h1
        exact Or.inr ⟨(e, some L), by simp, h2⟩
theorem GI.shut {W0 : World} {bm : Nat} {root e : Kid} {E0 : List Frm'} {l : Ents} {L : List Kid} (h : GI W0 bm root (E0 ++ [(e, some L)]) l) :
    KidsOf W0 bm e L ∧ (∀ f ∈ L, Done l f) ∧ ∃ l1 l2, l = l1 ++ (some ⟨e.g, 0, none⟩, (e.K.length : Int), -1) :: l2 ∧ (∀ t ∈ l1, t.1 ≠ some ⟨e.g, 0, none⟩) ∧ GI W0 bm root E0 (l1 ++ (some ⟨e.g, 0, none⟩, (e.K.length : Int), (depR e.K : Int)) :: l2) := by
  have hme : (e, some L) ∈ E0 ++ [(e, some L)] := by simp
  obtain ⟨hKO, hin⟩ := h.opn _ hme L rfl
  have hpw := List.pairwise_append.1 h.dis
  obtain ⟨l1, l2, rfl⟩ := List.append_of_mem hin
  have hnd := List.pairwise_append.1 h.nod
  have hnd2 := List.pairwise_cons.1 hnd.2.1
  have hkeys : ∀ t ∈ l1 ++ (some ⟨e.g, 0, none⟩, (e.K.length : Int), (depR e.K : Int)) :: l2, ∃ s ∈ l1 ++ (some ⟨e.g, 0, none⟩, (e.K.length : Int), -1) :: l2, s.1 = t.1 := by
    intro t ht
    rcases List.mem_append.1 ht with ht | ht
    · exact ⟨t, List.mem_append.2 (Or.inl ht), rfl⟩
    · rcases List.mem_cons.1 ht with rfl | ht
      · exact ⟨_, List.mem_append.2 (Or.inr (List.mem_cons.2 (Or.inl rfl))), rfl⟩
      · exact ⟨t, List.mem_append.2 (Or.inr (List.mem_cons.2 (Or.inr ht))), rfl⟩
  have hstay : ∀ t : Option Addr × Int × Int, t ∈ l1 ++ (some ⟨e.g, 0, none⟩, (e.K.length : Int), -1) :: l2 → (t.1 = some ⟨e.g, 0, none⟩ → t.2.2 = -1 → False) → t ∈ l1 ++ (some ⟨e.g, 0, none⟩, (e.K.length : Int), (depR e.K : Int)) :: l2 := by
    intro t ht hne
    rcases List.mem_append.1 ht with ht | ht
    · exact List.mem_append.2 (Or.inl ht)
    · rcases List.mem_cons.1 ht with rfl | ht
      · exact (hne rfl rfl).elim
      · exact List.mem_append.2 (Or.inr (List.mem_cons.2 (Or.inr ht)))
  have hdn : ∀ f, Done (l1 ++ (some ⟨e.g, 0, none⟩, (e.K.length : Int), -1) :: l2) f → Done (l1 ++ (some ⟨e.g, 0, none⟩, (e.K.length : Int), (depR e.K : Int)) :: l2) f := fun f hf => hf.imp id (fun h1 => hstay _ h1 (fun _ h3 => by simp only at h3; omega))
  have hde : Done (l1 ++ (some ⟨e.g, 0, none⟩, (e.K.length : Int), (depR e.K : Int)) :: l2) e := Or.inr (List.mem_append.2 (Or.inr (List.mem_cons.2 (Or.inl rfl))))
  refine ⟨hKO, KI.last E0 h.kid, l1, l2, rfl, fun t ht => hnd.2.2 t ht _ (List.mem_cons.2 (Or.inl rfl)), ?_, fun t ht => ?_, ?_, fun x hx => h.ok x (List.mem_append.2 (Or.inl hx)), fun x hx hn y hy t ht => ?_, hpw.1, fun x hx L2 hL2 => ?_, ?_, ?_⟩
  · obtain ⟨l3, hl3⟩ := h.hd
    cases l1 with
    | nil => simp at hl3
    | cons a r =>
      simp only [List.cons_append, List.cons.injEq] at hl3
      exact ⟨_, by rw [hl3.1]; rfl⟩
  · obtain ⟨s, h1, h2⟩ := hkeys t ht
    rw [← h2]
    exact h.key s h1
  · exact List.pairwise_append.2 ⟨hnd.1, List.pairwise_cons.2 ⟨fun t ht => hnd2.1 t ht, hnd2.2⟩, fun s hs t ht => by
      rcases List.mem_cons.1 ht with rfl | ht
      · exact hnd.2.2 s hs (some ⟨e.g, 0, none⟩, (e.K.length : Int), -1) (List.mem_cons.2 (Or.inl rfl))
      · exact hnd.2.2 s hs t (List.mem_cons.2 (Or.inr ht))⟩
  · obtain ⟨s, h1, h2⟩ := hkeys t ht
    rw [← h2]
    exact h.new x (List.mem_append.2 (Or.inl hx)) hn y hy s h1
  · obtain ⟨h1, h2⟩ := h.opn x (List.mem_append.2 (Or.inl hx)) L2 hL2
    refine ⟨h1, hstay _ h2 (fun h3 _ => ?_)⟩
    simp only [Option.some.injEq, Addr.mk.injEq, and_true] at h3
    exact (hpw.2.2 x hx _ (List.mem_singleton.2 rfl)).2 h3
  · have := KI.swap hdn (M := [(e, some L)]) (M' := []) (fun f hf => by
      obtain ⟨e', h1, h2⟩ := hf
      simp only [List.mem_singleton] at h1
      subst h1
      subst h2
      exact Or.inl hde) trivial E0 h.kid
    simpa using this
  · rcases h.rt with h1 | ⟨e', h1, h2⟩
    · exact Or.inl (hdn _ h1)
    · rcases List.mem_append.1 h1 with h1 | h1
      · exact Or.inr ⟨e', h1, h2⟩
      · simp only [List.mem_singleton] at h1
        subst h1
        subst h2
        exact Or.inl hde
/-- What is still to be done. -/
def mas : List Frm' → Nat
  | [] => 0
  | (e, none) :: r => 2 * manR e.K + mas r
  | (_, some _) :: r => 1 + mas r
theorem mas_append : ∀ E F : List Frm', mas (E ++ F) = mas E + mas F
  | [], F => by simp [mas]
  | (e, none) :: r, F => by rw [List.cons_append, mas, mas, mas_append r F]; omega
  | (_, some _) :: r, F => by rw [List.cons_append, mas, mas, mas_append r F]; omega
theorem mas_len : ∀ E : List Frm', (∀ e ∈ E, e.1.K ≠ []) → E.length ≤ mas E
  | [], _ => by simp
  | (e, none) :: r, h => by
    have h1 := mas_len r (fun x hx => h x (List.mem_cons.2 (Or.inr hx)))
    have h2 : e.K ≠ [] := h (e, none) (List.mem_cons.2 (Or.inl rfl))
    cases hK : e.K with
    | nil => exact absurd hK h2
    | cons t s =>
      cases t
      rw [mas, hK, manR, manN, List.length_cons]
      omega
  | (_, some _) :: r, h => by
    have h1 := mas_len r (fun x hx => h x (List.mem_cons.2 (Or.inr hx)))
    rw [mas, List.length_cons]
    omega
theorem mas_fs : ∀ L : List Kid, mas (fs L) + 2 * L.length ≤ 2 * manR (L.map Kid.nd)
  | [] => by simp [fs, mas, manR]
  | f :: r => by
    have h1 := mas_fs r
    rw [List.map_cons, manR, Kid.nd, manN, List.length_cons]
    by_cases h : f.K.length = 0
    · have : fs (f :: r) = fs r := by simp [fs, h]
      rw [this]
      omega
    · have : fs (f :: r) = (f, none) :: fs r := by simp [fs, h]
      rw [this, mas]
      omega

end Go.Proofs.YtehfoblfmehbdaaDoor
