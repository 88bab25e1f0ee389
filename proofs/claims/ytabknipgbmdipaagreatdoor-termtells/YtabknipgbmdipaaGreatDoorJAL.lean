/- Text of package term, of right terms without refs, funs and pids, by its contract. -/
import Derived.Test.YtabknipgbmdipaaGreatDoorTxtE

namespace Go.Proofs.YtabknipgbmdipaaGreatDoor
open Go.RowKit

theorem okF_atom {num : Int} {neg : Bool} {L : List Nat} {s : ByteArray} {ni : Nat} {T : List Tm} (h : okF 2 num neg L s ni T = true) : s.size ≤ 40 := by
  unfold okF at h
  simp at h
  omega
theorem At.ofB {P : Nat → Prop} {w : World} {a : Option Addr} {L : List Nat} (h : AtB P w a L) : At w a L := by
  rcases h with h | ⟨b, o, e, _, hlt, hc⟩
  · exact Or.inl h
  · exact Or.inr ⟨b, o, e, hlt, hc⟩

theorem okF_num {k num : Int} {neg : Bool} {L : List Nat} {s : ByteArray} {ni : Nat} {T : List Tm} (hk : k = 3 ∨ k = 4 ∨ k = 5) (h : okF k num neg L s ni T = true) : 0 ≤ num ∧ num ≤ 1099511627776 := by
  unfold okF at h
  rcases hk with rfl | rfl | rfl <;> simp at h <;> omega
theorem okF_kind {k num : Int} {neg : Bool} {L : List Nat} {s : ByteArray} {ni : Nat} {T : List Tm} (h : okF k num neg L s ni T = true) : k = 1 ∨ k = 2 ∨ k = 3 ∨ k = 4 ∨ k = 5 ∨ k = 6 ∨ k = 7 := by
  unfold okF at h
  by_cases h1 : k = 1
  · omega
  by_cases h2 : k = 2
  · omega
  by_cases h3 : k = 3 ∨ k = 5
  · omega
  by_cases h4 : k = 4
  · omega
  by_cases h6 : k = 6
  · omega
  by_cases h7 : k = 7
  · omega
  rw [if_neg h1, if_neg h2, if_neg h3, if_neg h4, if_neg h6, if_neg h7] at h
  simp at h

theorem Write_step (d : Nat) (ih : WriteSaid d) : WriteSaid (d + 1) := by
  intro w b p q r l cs t h hok hs hlen hG hT
  obtain ⟨k, num, neg, L, s, I, T⟩ := t
  obtain ⟨a, ai, at', c, ci, ct, rfl, hA, hD, hI, hT'⟩ := h
  rw [okT', Bool.and_eq_true, Bool.and_eq_true] at hok
  obtain ⟨⟨hf, hoI⟩, hoT⟩ := hok
  simp only [tsz] at hs
  have hsI : tszs I ≤ 1353245080330 := by omega
  have hsT : tszs T ≤ 1353245080330 := by omega
  rcases okF_kind hf with rfl | rfl | rfl | rfl | rfl | rfl | rfl
  · obtain ⟨p1, rfl, rfl, p4, rfl⟩ := okF_int hf
    have p5 := List.eq_nil_of_length_eq_zero p4
    subst p5
    have e : txT (.mk 1 0 neg L ⟨#[]⟩ [] []) = wtx (zv neg L) := by rw [txT, if_pos rfl]
    rw [e] at hlen ⊢
    exact wr_int w b p q r l a ai at' c ci ct neg L p1 hD (At.ofB hA) hT hlen
  · have e : txT (.mk 2 num neg L s I T) = atomTx (byt s) := by rw [txT, if_neg (by decide), if_pos rfl]
    rw [e] at hlen ⊢
    exact wr_atom w b p q r l a ai at' L.length c I.length ci T.length ct neg s num (by have := okF_atom hf; omega) hG.plain hT hlen
  · have e : txT (.mk 3 num neg L s I T) = [35, 82, 101, 102, 60] ++ (Lib.itoa num ++ [62]) := by rw [txT, if_neg (by decide), if_neg (by decide), if_pos rfl]
    rw [e] at hlen ⊢
    have hn := okF_num (by decide) hf
    exact wr_ref w b p q r l a ai at' L.length c I.length ci T.length ct neg s num hn.1 hn.2 hG.plain hT hlen
  · have e : txT (.mk 4 num neg L s I T) = [35, 70, 117, 110, 60] ++ (Lib.itoa num ++ [62]) := by rw [txT, if_neg (by decide), if_neg (by decide), if_neg (by decide), if_pos rfl]
    rw [e] at hlen ⊢
    have hn := okF_num (by decide) hf
    exact wr_fun w b p q r l a ai at' L.length c I.length ci T.length ct neg s num hn.1 hn.2 hG.plain hT hlen
  · have e : txT (.mk 5 num neg L s I T) = [60] ++ (Lib.itoa num ++ [62]) := by rw [txT, if_neg (by decide), if_neg (by decide), if_neg (by decide), if_neg (by decide), if_pos rfl]
    rw [e] at hlen ⊢
    have hn := okF_num (by decide) hf
    exact wr_pid w b p q r l a ai at' L.length c I.length ci T.length ct neg s num hn.1 hn.2 hG.plain hT hlen
  · have e : txT (.mk 6 num neg L s I T) = 123 :: (txI I ++ [125]) := by rw [txT, if_neg (by decide), if_neg (by decide), if_neg (by decide), if_neg (by decide), if_neg (by decide), if_pos rfl]; rfl
    rw [e] at hlen ⊢
    exact wr_tuple d ih w b p q r l a ai at' L.length c ci T.length ct neg s num I hI hoI hsI hG hT hlen
  · rcases okF_tail2 hf with rfl | ⟨u, rfl, _⟩
    · have e : txT (.mk 7 num neg L s I []) = 91 :: (txI I ++ [93]) := by rw [txT, if_neg (by decide), if_neg (by decide), if_neg (by decide), if_neg (by decide), if_neg (by decide), if_neg (by decide), if_pos rfl, txB, List.append_nil]; rfl
      rw [e] at hlen ⊢
      exact wr_list0 d ih w b p q r l a ai at' L.length c ci ct neg s num I hI hoI hsI hG hT hlen
    · have e : txT (.mk 7 num neg L s I [u]) = 91 :: (txI I ++ 124 :: txT u ++ [93]) := by rw [txT, if_neg (by decide), if_neg (by decide), if_neg (by decide), if_neg (by decide), if_neg (by decide), if_neg (by decide), if_pos rfl, txB]; rfl
      rw [e] at hlen ⊢
      have hu : tsz u ≤ 1353245080330 := by have := tszs_get [u] 0 (by simp); simp at this; omega
      exact wr_list1 d ih w b p q r l a ai at' L.length c ci ct neg s num I u hI hT' (okR_get [u] 0 (by simp) hoT) hu hoI hsI hG hT hlen
theorem Write_all (d : Nat) : WriteSaid d := by
  induction d with
  | zero => intro w b p q r l cs t h; exact h.elim
  | succ d ih => exact Write_step d ih
end Go.Proofs.YtabknipgbmdipaaGreatDoor

/- Text of package term, by its contract. -/
namespace Go.Proofs.YtabknipgbmdipaaGreatDoor
open Go.RowKit

theorem GlbB.wide {b b' : Nat} {w : World} (h : GlbB b w) (hb : b ≤ b') : GlbB b' w := by
  obtain ⟨⟨bw, o, c, h0, h1, h2⟩, hp, hl⟩ := h
  exact ⟨⟨bw, o, c, by omega, by omega, h2⟩, hp, by omega⟩
/-- The world with the builder and the three functions. -/
def TxW (w : World) : World := (((w.alloc (.cells #[.pointer none, .slice none 0 0] 54)).alloc (.cells #[.func (.func 42) #[] #[.pointer (some ⟨w.heap.size, 0, none⟩)]] 60)).alloc (.cells #[.func (.func 45) #[] #[.pointer (some ⟨w.heap.size + 1, 0, none⟩), .pointer (some ⟨w.heap.size + 3, 0, none⟩), .pointer (some ⟨w.heap.size + 2, 0, none⟩)]] 34)).alloc (.cells #[.func (.func 44) #[] #[.pointer (some ⟨w.heap.size + 1, 0, none⟩), .pointer (some ⟨w.heap.size + 2, 0, none⟩)]] 61)
theorem TxW.upd (w : World) : Upd [] w (TxW w) := ((((Upd.refl [] w).alloc _).alloc _).alloc _).alloc _
theorem TxW.ts (w : World) : TS (TxW w) w.heap.size (w.heap.size + 1) (w.heap.size + 2) (w.heap.size + 3) [] := by
  refine ⟨?_, ?_, ?_, ?_⟩
  · have h := Bd.fresh w
    exact Bd.upd h ((((Upd.refl [] _).alloc _).alloc _).alloc _)
  · have h : FunB ((w.alloc (.cells #[.pointer none, .slice none 0 0] 54)).alloc (.cells #[.func (.func 42) #[] #[.pointer (some ⟨w.heap.size, 0, none⟩)]] 60)) (w.heap.size + 1) _ _ := FunB.new _ _ _ _ (by simp)
    exact FunB.mono (S := []) h (((Upd.refl [] _).alloc _).alloc _) (by simp)
  · have h : FunB (((w.alloc (.cells #[.pointer none, .slice none 0 0] 54)).alloc (.cells #[.func (.func 42) #[] #[.pointer (some ⟨w.heap.size, 0, none⟩)]] 60)).alloc (.cells #[.func (.func 45) #[] #[.pointer (some ⟨w.heap.size + 1, 0, none⟩), .pointer (some ⟨w.heap.size + 3, 0, none⟩), .pointer (some ⟨w.heap.size + 2, 0, none⟩)]] 34)) (w.heap.size + 2) _ _ := FunB.new _ _ _ _ (by simp)
    exact FunB.mono (S := []) h ((Upd.refl [] _).alloc _) (by simp)
  · exact FunB.new _ _ _ _ (by simp)

set_option maxHeartbeats 4000000 in
set_option maxRecDepth 100000 in
theorem TText_in (d : Nat) (w : World) (cs : List Value) (t : Tm) (h : In w d cs t) (hok : okS t = true) (hs : tsz t ≤ 1353245080330) (hlen : (txT t).length ≤ 140737488355328) (hG : Glb w) :
    Calls Tryz.prog 11 #[.agg cs.toArray] w fun e w' => e = .returned (.string (str (txT t))) ∧ Upd [] w w' := by
  have hone := h.one
  have hsev := h.seven
  have hok' : okT' t = true := by unfold okS at hok; rw [Bool.and_eq_true] at hok; exact hok.1
  have tb0 : Tb (w.alloc (.cells cs.toArray 26)) w.heap.size cs.toArray := Tb.new _ _ _ rfl
  have hU1 : Upd [] w (w.alloc (.cells cs.toArray 26)) := (Upd.refl [] w).alloc _
  have HR : Hid (∀ W, Upd [] w W → Calls Tryz.prog 9 #[.agg cs.toArray] W fun e w' => e = .returned (.bool true) ∧ Upd [] W w') := fun W hU => by
    have := TRight_in d W cs t (In.mono hU _ _ _ h) hs
    rw [hok] at this
    exact this
  have HW : Hid (∀ W1, Upd [] w W1 → Calls Tryz.prog 45 #[.agg cs.toArray, .pointer (some ⟨W1.heap.size + 1, 0, none⟩), .pointer (some ⟨W1.heap.size + 3, 0, none⟩), .pointer (some ⟨W1.heap.size + 2, 0, none⟩)] (TxW W1) (WrP (TxW W1) W1.heap.size (W1.heap.size + 1) (W1.heap.size + 2) (W1.heap.size + 3) [] (txT t))) := fun W1 hU =>
    Write_all d (TxW W1) W1.heap.size _ _ _ [] cs t (In.toB (fun x hx => Nat.lt_of_lt_of_le hx hU.size) (hU.trans (TxW.upd W1)) _ _ _ h) hok' hs (by simpa using hlen) ((hG.toB (hU.trans (TxW.upd W1))).wide hU.size) (TxW.ts W1)
  have HTS : Hid (∀ W1, TS (TxW W1) W1.heap.size (W1.heap.size + 1) (W1.heap.size + 2) (W1.heap.size + 3) []) := TxW.ts
  have hcall3 : ∀ args w, (callFunc 45 args).run Tryz.prog w = .ok (.enter 45 args) w := Tryz.call45
  clear h hok hok' hs hlen hG
  obtain ⟨C, hC⟩ : ∃ C, C = cs.toArray := ⟨_, rfl⟩
  rw [← hC] at hone hsev HR HW tb0 hU1 ⊢
  clear hC
  go_enter Tryz.func11, Tryz.ntmps11
  go_wp2_with (first | (refine load_T _ rfl _ rfl _ _ rfl tb0 hsev ?_) | fail)
  refine Calls.mono (HR.out _ hU1) ?_
  rintro e w1 ⟨rfl, uw1⟩
  have tb1 : Tb (TxW w1) w.heap.size C := (tb0.mono uw1 (by simp)).mono (TxW.upd w1) (by simp)
  have HU1 : Hid (Upd [] w w1) := hU1.trans uw1
  clear hU1 uw1 tb0
  go_wp2_with (first | (refine load_T _ rfl _ rfl _ _ rfl tb1 hsev ?_) | fail)
  refine Calls.mono (HW.out w1 HU1.out) ?_
  rintro e w2 ⟨rfl, hT2, hK2⟩
  have HB2 : Hid (Bd w2 w1.heap.size (Lib.byteCells (txT t))) := by have := hT2.bd; rw [List.nil_append] at this; exact this
  have HU2 : Hid (Upd [] w w2) := Upd.kp (HU1.out.trans (TxW.upd w1)) HU1.out.size hK2
  clear hT2 hK2 tb1
  go_wp2_with fail
  refine Calls.mono (String_any _ (txT t) w2 HB2.out) ?_
  rintro e w3 ⟨rfl, hB3, hK3⟩
  go_wp2
  go_ret
  exact ⟨rfl, Upd.kp HU2.out HU1.out.size hK3⟩
end Go.Proofs.YtabknipgbmdipaaGreatDoor
