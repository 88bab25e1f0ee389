/- Groups: rising. -/
import Derived.Test.YtofcniodobjopaaGreatLkT
import Derived.Test.YtofcniodobjopaaGreatLkS
namespace Go.Proofs.YtofcniodobjopaaGreat
open Go.RowKit Go.Maps Go.Sort Go.Shelf

/-- A row of ints, in a block from B on. -/
def IR (w : World) (B : Nat) (v : Value) (xs : List Int) : Prop := w.ownsRow B 3 1 v xs.length (xs.map encZ)
theorem IR.upP {P : Nat → Prop} {w w' : World} {B : Nat} {v : Value} {xs : List Int} (h : IR w B v xs) (hu : UpP P w w') (hn : ∀ g, v.ownBlock = some g → ¬ P g) : IR w' B v xs := by
  obtain ⟨h1, h2⟩ := h
  refine ⟨h1, ?_⟩
  rcases h2 with h2 | ⟨g, cap, cur, rfl, hB, hg, r⟩
  · exact Or.inl h2
  · exact Or.inr ⟨g, cap, cur, rfl, hB, (hu.block g (Array.getElem?_eq_some_iff.1 hg).1 (hn g rfl)).trans hg, r⟩
theorem IR.upd {w w' : World} {B : Nat} {v : Value} {xs : List Int} (h : IR w B v xs) (hu : Upd [] w w') : IR w' B v xs := h.upP (P := fun _ => False) hu.toN (fun _ _ h => h)
theorem IR.base {w : World} {B B' : Nat} {v : Value} {xs : List Int} (h : IR w B v xs) (hB : B' ≤ B) : IR w B' v xs := by
  obtain ⟨h1, h2⟩ := h
  refine ⟨h1, ?_⟩
  rcases h2 with h2 | ⟨g, cap, cur, rfl, hb, r⟩
  · exact Or.inl h2
  · exact Or.inr ⟨g, cap, cur, rfl, Nat.le_trans hB hb, r⟩
theorem IR.own {w : World} {B : Nat} {v : Value} {xs : List Int} (h : IR w B v xs) {g : Nat} (hg : v.ownBlock = some g) : B ≤ g ∧ g < w.heap.size := by
  rcases h.2 with ⟨h2, _⟩ | ⟨g', cap, cur, rfl, hb, hg', _⟩
  · rw [h2] at hg; cases hg
  · cases hg; exact ⟨hb, (Array.getElem?_eq_some_iff.1 hg').1⟩

theorem enters_keys1 : ∀ args w, (callFunc 69 args).run Tryz.prog w = .ok (.enter 69 args) w := enters_of Tryz.func69 (by kernel_rfl) rfl
theorem enters_sort : ∀ args w, (callFunc 68 args).run Tryz.prog w = .ok (.enter 68 args) w := enters_of Tryz.func68 (by kernel_rfl) rfl
theorem sorts (m : Nat) : AnyZI.SortsIn Tryz.prog sortedA_ren Fence.wide m :=
  ⟨fun blk off cap ss W hH hblk hsz => callsIn_wide.2 (AnyM.slices_Sort_int sortA blk off cap ss W hH hblk hsz),
   fun p cap W => callsIn_wide.2 (AnyM.slices_Sort_int_none sortA p cap W)⟩

/-- maps.Keys of a set: a function over a new box. -/
theorem keys_call (mb : Option Nat) (w : World) : Calls Tryz.prog 33 #[.map mb] w fun e w' => e = .returned (.func (.func 69) #[] #[.pointer (some ⟨w.heap.size, 0, none⟩)]) ∧ w' = w.alloc (.cells #[.map mb] 90) :=
  callsIn_wide.1 (AnyZI.keys_in keysA Fence.wide 5 trivial rfl mb w)

/-- slices.Sorted of it: the members, each once, rising. -/
theorem sorted_call (w : World) (bx b n : Nat) (s : Int → Bool) (hbx : bx < w.heap.size) (hm : w.cell? ⟨bx, 0, none⟩ = some (.map (some b))) (hS : SetB w b n s) (hn : n ≤ 1073741824) :
    Calls Tryz.prog 32 #[.func (.func 69) #[] #[.pointer (some ⟨bx, 0, none⟩)]] w fun e w' => ∃ v xs, e = .returned v ∧ IR w' w.heap.size v xs ∧ xs.Pairwise (· < ·) ∧ (∀ x, x ∈ xs ↔ s x = true) ∧ xs.length ≤ n ∧ (v = .slice none 0 0 ↔ xs = []) ∧ Upd [] w w' := by
  obtain ⟨D, hD, hh, _⟩ := hS
  have hsz : Maps.size D ≤ n := hD.size_le
  have hseq : SeqGives Fence.wide 2 Tryz.prog 69 #[.pointer (some ⟨bx, 0, none⟩)] encZ (fun ss => ss.Perm (intKeys D)) (Maps.size D) w :=
    AnyZI.keys_gives (ρ := keysA_ren) { keysA with } Fence.wide _ trivial rfl (by omega) bx b n D w hbx hm hD
  have cS := AnyZI.sorted_in sortedA Fence.wide 5 trivial trivial trivial trivial rfl (by omega) (sorts _) enters_sort 69 #[.pointer (some ⟨bx, 0, none⟩)] trivial enters_keys1 _ _ (by unfold maxLen; omega) (by omega) _ hseq
  refine (callsIn_wide.1 cS).mono ?_
  rintro e w' ⟨v, ss, rfl, hp, hrow, hnil, hb⟩
  obtain ⟨hnd, hmem, hlen⟩ := MapB.perm hD hh hp
  have hpm := List.mergeSort_perm ss (fun x y : Int => decide (x ≤ y))
  have tr : ∀ a b c : Int, decide (a ≤ b) = true → decide (b ≤ c) = true → decide (a ≤ c) = true := fun a b c h1 h2 => by simp only [decide_eq_true_eq] at *; omega
  have to : ∀ a b : Int, (decide (a ≤ b) || decide (b ≤ a)) = true := fun a b => by simp only [Bool.or_eq_true, decide_eq_true_eq]; omega
  have hpw := List.pairwise_mergeSort tr to ss
  refine ⟨v, ss.mergeSort (fun x y => decide (x ≤ y)), rfl, ?_, ?_, fun x => ?_, ?_, ?_, upd_of_below hb⟩
  · unfold IR
    rw [hpm.length_eq]
    exact hrow
  · have hnd2 : (ss.mergeSort (fun x y : Int => decide (x ≤ y))).Nodup := hpm.nodup_iff.2 hnd
    refine hpw.imp₂ (fun a b h1 h2 => ?_) hnd2
    simp only [decide_eq_true_eq] at h1
    omega
  · rw [hpm.mem_iff, hmem, ne_eq, setF_none]
    cases s x <;> simp
  · rw [hpm.length_eq]; exact hlen
  · rw [hnil]
    constructor
    · intro h; exact List.eq_nil_of_length_eq_zero (hpm.length_eq.trans (by rw [h]; rfl))
    · intro h
      have := hpm.length_eq
      rw [h] at this
      exact List.eq_nil_of_length_eq_zero this.symm
theorem sorted_call_nil (w : World) (bx : Nat) (hbx : bx < w.heap.size) (hm : w.cell? ⟨bx, 0, none⟩ = some (.map none)) :
    Calls Tryz.prog 32 #[.func (.func 69) #[] #[.pointer (some ⟨bx, 0, none⟩)]] w fun e w' => e = .returned (.slice none 0 0) ∧ Upd [] w w' := by
  have hseq : SeqGives Fence.wide 2 Tryz.prog 69 #[.pointer (some ⟨bx, 0, none⟩)] encZ (fun ss : List Int => ss = []) 0 w :=
    AnyZI.keys_gives_nil (ρ := keysA_ren) { keysA with } Fence.wide _ trivial rfl bx w hbx hm
  have cS := AnyZI.sorted_in sortedA Fence.wide 5 trivial trivial trivial trivial rfl (by omega) (sorts _) enters_sort 69 #[.pointer (some ⟨bx, 0, none⟩)] trivial enters_keys1 _ 0 (Nat.zero_le _) (by omega) _ hseq
  refine (callsIn_wide.1 cS).mono ?_
  rintro e w' ⟨v, ss, rfl, rfl, hrow, hnil, hb⟩
  exact ⟨by rw [hnil.2 rfl], upd_of_below hb⟩

set_option maxRecDepth 10000 in
/-- Whose members owner's are: rising, each once. -/
theorem rising_any {w : World} {g n : Nat} {F : Int → Int → Bool} {P : Nat → Prop} (h : Gr w g n F P) (hn : n ≤ 1073741824) {a : Int} (ha : I64 a) :
    Calls Tryz.prog 13 #[.map (some g), .int .i64 a] w fun e w' => ∃ v xs, e = .returned v ∧ IR w' w.heap.size v xs ∧ xs.Pairwise (· < ·) ∧ (∀ x, x ∈ xs ↔ F a x = true) ∧ xs.length ≤ n ∧ (v = .slice none 0 0 ↔ xs = []) ∧ Upd [] w w' := by
  obtain ⟨f, h⟩ := h
  have e1 := h.out.look ha
  have U0 : Hid (Upd [] w (w.alloc (.cells #[.map (f a)] 90))) := (Upd.refl [] w).alloc _
  have C0 : Hid (Cl (w.alloc (.cells #[.map (f a)] 90)) w.heap.size #[.map (f a)] 90) := Cl.new _ _ _ _ rfl
  have hsz : (w.alloc (.cells #[.map (f a)] 90)).heap.size = w.heap.size + 1 := by simp
  cases hf : f a with
  | none =>
    rw [hf] at e1 U0 C0
    have H : Hid (∀ y, F a y = false) := h.no a hf
    clear h hf hsz
    go_enter Tryz.func13, Tryz.ntmps13
    go_wp2_with (first
      | (go_at_call 33; refine (keys_call _ _).mono ?_; rintro e w' ⟨rfl, rfl⟩)
      | (go_at_call 32; refine (sorted_call_nil _ _ (by simp) (by rw [C0.out.cell]; rfl)).mono ?_; rintro e w' ⟨rfl, hu⟩))
    go_ret
    exact ⟨_, [], rfl, ⟨rfl, Or.inl ⟨rfl, rfl⟩⟩, List.Pairwise.nil, fun x => by rw [H.out x]; simp, Nat.zero_le _, by simp, U0.out.trans hu⟩
  | some k =>
    rw [hf] at e1 U0 C0 hsz
    have H : Hid (SetB (w.alloc (.cells #[.map (some k)] 90)) k n (F a)) := (h.set a k hf).2.2.1.upP U0.out.toN (P := fun _ => False) (fun h => h)
    have HN : Hid (n ≤ 1073741824) := hn
    clear h hf hn
    go_enter Tryz.func13, Tryz.ntmps13
    go_wp2_with (first
      | (go_at_call 33; refine (keys_call _ _).mono ?_; rintro e w' ⟨rfl, rfl⟩)
      | (go_at_call 32; refine (sorted_call _ _ k n (F a) (by simp) (by rw [C0.out.cell]; rfl) H.out HN.out).mono ?_; rintro e w' ⟨v, xs, rfl, hr, hp, hm, hl, hnil, hu⟩))
    go_ret
    exact ⟨v, xs, rfl, hr.base (by simp), hp, hm, hl, hnil, U0.out.trans hu⟩

end Go.Proofs.YtofcniodobjopaaGreat
