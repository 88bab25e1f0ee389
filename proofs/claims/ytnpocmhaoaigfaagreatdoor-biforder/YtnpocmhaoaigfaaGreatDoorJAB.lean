/- Terms as trees, their sizes and their order, as plain mathematics. -/
import Derived.Test.YtnpocmhaoaigfaaGreatDoorJAA
import Derived.Test.YtnpocmhaoaigfaaGreatDoorFr

namespace Go.Proofs.YtnpocmhaoaigfaaGreatDoor

/-- A term as a tree. -/
inductive Tm where
  | mk (k num : Int) (neg : Bool) (L : List Nat) (s : ByteArray) (I T : List Tm) : Tm

def Tm.kd : Tm → Int
  | .mk k _ _ _ _ _ _ => k

def cmpZ (x y : Int) : Int := if x < y then -1 else if y < x then 1 else 0
theorem cmpZ_self (x : Int) : cmpZ x x = 0 := by unfold cmpZ; rw [if_neg (by omega), if_neg (by omega)]
theorem cmpZ_zero {x y : Int} : cmpZ x y = 0 ↔ x = y := by
  unfold cmpZ
  split
  · constructor <;> intro h <;> omega
  · split
    · constructor <;> intro h <;> omega
    · constructor <;> intro h <;> omega
theorem cmpZ_neg (x y : Int) : cmpZ y x = - cmpZ x y := by
  unfold cmpZ
  repeat' split
  all_goals omega

/-- By the first place at which they part. -/
def lexZ : List Int → List Int → Int
  | [], [] => 0
  | [], _ :: _ => -1
  | _ :: _, [] => 1
  | x :: r, y :: s => if x = y then lexZ r s else cmpZ x y

theorem lexZ_self (l : List Int) : lexZ l l = 0 := by
  induction l with
  | nil => rfl
  | cons x r ih => simp [lexZ, ih]
theorem lexZ_neg (l m : List Int) : lexZ m l = - lexZ l m := by
  induction l generalizing m with
  | nil => cases m <;> rfl
  | cons x r ih =>
    cases m with
    | nil => rfl
    | cons y s =>
      simp only [lexZ]
      by_cases h : x = y
      · rw [if_pos h, if_pos h.symm, ih]
      · rw [if_neg h, if_neg (fun e => h e.symm), cmpZ_neg]
theorem lexZ_range (l m : List Int) : lexZ l m = -1 ∨ lexZ l m = 0 ∨ lexZ l m = 1 := by
  induction l generalizing m with
  | nil => cases m <;> simp [lexZ]
  | cons x r ih =>
    cases m with
    | nil => simp [lexZ]
    | cons y s =>
      simp only [lexZ]
      split
      · exact ih s
      · unfold cmpZ; repeat' split
        all_goals omega
theorem lexZ_zero {l m : List Int} (h : lexZ l m = 0) : l = m := by
  induction l generalizing m with
  | nil => cases m with
    | nil => rfl
    | cons y s => simp [lexZ] at h
  | cons x r ih =>
    cases m with
    | nil => simp [lexZ] at h
    | cons y s =>
      simp only [lexZ] at h
      by_cases e : x = y
      · rw [if_pos e] at h; rw [e, ih h]
      · rw [if_neg e] at h; exact absurd (cmpZ_zero.1 h) e
theorem lexZ_trans {l m n : List Int} (h : lexZ l m ≤ 0) (k : lexZ m n ≤ 0) : lexZ l n ≤ 0 := by
  induction l generalizing m n with
  | nil => cases n <;> simp [lexZ]
  | cons x r ih =>
    cases m with
    | nil => simp [lexZ] at h
    | cons y s =>
      cases n with
      | nil => simp [lexZ] at k
      | cons z u =>
        simp only [lexZ] at h k ⊢
        by_cases e1 : x = y
        · by_cases e2 : y = z
          · rw [if_pos e1] at h; rw [if_pos e2] at k; rw [if_pos (e1.trans e2)]; exact ih h k
          · rw [if_neg e2] at k; rw [e1, if_neg e2]; exact k
        · rw [if_neg e1] at h
          have h1 : x < y := by unfold cmpZ at h; by_cases q : x < y
                                · exact q
                                · rw [if_neg q, if_pos (by omega)] at h; omega
          by_cases e2 : y = z
          · rw [← e2, if_neg e1]; exact h
          · rw [if_neg e2] at k
            have h2 : y < z := by unfold cmpZ at k; by_cases q : y < z
                                  · exact q
                                  · rw [if_neg q, if_pos (by omega)] at k; omega
            rw [if_neg (by omega)]; unfold cmpZ; rw [if_pos (by omega)]; omega

/-- The first answer, if it is one; else the second. -/
def th (c d : Int) : Int := if c = 0 then d else c
theorem th_zero {c d : Int} : th c d = 0 ↔ c = 0 ∧ d = 0 := by
  unfold th
  split <;> constructor <;> intro h <;> simp_all
theorem th_right (c : Int) : th c 0 = c := by unfold th; split <;> omega
theorem th_assoc (a b c : Int) : th (th a b) c = th a (th b c) := by
  unfold th
  by_cases h : a = 0
  · rw [if_pos h, if_pos h]
  · rw [if_neg h, if_neg h, if_neg h]
theorem th_z (d : Int) : th 0 d = d := by unfold th; rw [if_pos rfl]

/-- An integer by its sign and its limbs. -/
def zv (neg : Bool) (L : List Nat) : Int := if neg then -(val L : Int) else val L
def bz (s : ByteArray) : List Int := s.data.toList.map fun c => (c.toNat : Int)

mutual
/-- The order of two terms. -/
def ordT : Tm → Tm → Int
  | .mk k num neg L s I T, .mk k' num' neg' L' s' I' T' =>
    if k = k' then
      (if k = 1 then cmpZ (zv neg L) (zv neg' L')
      else if k = 2 then lexZ (bz s) (bz s')
      else if k = 7 then th (ordR I I') (ordE T T')
      else th (cmpZ num num') (th (cmpZ I.length I'.length) (ordR I I')))
    else cmpZ k k'
/-- .. of two rows. -/
def ordR : List Tm → List Tm → Int
  | [], [] => 0
  | [], _ :: _ => -1
  | _ :: _, [] => 1
  | t :: r, u :: v => th (ordT t u) (ordR r v)
/-- .. of what stands behind two lists. -/
def ordE : List Tm → List Tm → Int
  | [], [] => 0
  | [], u :: _ => cmpZ 7 u.kd
  | t :: _, [] => cmpZ t.kd 7
  | t :: _, u :: _ => ordT t u
end

mutual
/-- A term said in numbers, so that the order of what is said is the order of terms. -/
def enc : Tm → List Int
  | .mk k num neg L s I T => k :: (if k = 1 then [zv neg L] else if k = 2 then (bz s).map (· + 1) ++ [0] else if k = 7 then encL I ++ encE T else num :: (I.length : Int) :: encR I)
def encR : List Tm → List Int
  | [] => []
  | t :: r => enc t ++ encR r
def encL : List Tm → List Int
  | [] => [0]
  | t :: r => 1 :: (enc t ++ encL r)
def encE : List Tm → List Int
  | [] => [7]
  | t :: _ => enc t
end

/-- A right integer's limbs. -/
def okL (neg : Bool) (L : List Nat) : Bool := if L.length = 0 then !neg else decide (L.length ≤ 32) && decide (L.getD (L.length - 1) 0 ≠ 0)
/-- A term's own fields, where the terms in it are right. -/
def okF (k num : Int) (neg : Bool) (L : List Nat) (s : ByteArray) (ni : Nat) (T : List Tm) : Bool :=
  if k = 1 then okL neg L && decide (s.size = 0 ∧ num = 0 ∧ ni = 0 ∧ T.length = 0)
  else decide (neg = false ∧ L.length = 0) &&
    (if k = 2 then decide (s.size ≤ 40 ∧ num = 0 ∧ ni = 0 ∧ T.length = 0)
    else if k = 3 ∨ k = 5 then decide (s.size = 0 ∧ 0 ≤ num ∧ num ≤ 1099511627776 ∧ ni = 0 ∧ T.length = 0)
    else if k = 4 then decide (s.size = 0 ∧ 0 ≤ num ∧ num ≤ 16384 ∧ T.length = 0)
    else if k = 6 then decide (s.size = 0 ∧ num = 0 ∧ T.length = 0)
    else if k = 7 then decide (s.size = 0 ∧ num = 0) && (match T with | [] => true | [u] => decide (0 < ni) && decide (u.kd ≠ 7) | _ => false)
    else false)
mutual
def okT' : Tm → Bool
  | .mk k num neg L s I T => okF k num neg L s I.length T && okR I && okR T
def okR : List Tm → Bool
  | [] => true
  | t :: r => okT' t && okR r
end
/-- What a term adds to the sizes of the terms in it. -/
def ownZ (k : Int) (nl ni : Nat) : Nat := if k = 1 then 1 + nl else if k = 4 then 2 else if k = 7 then 1 + ni else 1
mutual
def szT : Tm → Nat
  | .mk k _ _ L _ I T => ownZ k L.length I.length + szR I + szR T
def szR : List Tm → Nat
  | [] => 0
  | t :: r => szT t + szR r
end

theorem lexZ_bytes (a b r r' : List Int) (ha : ∀ x ∈ a, 0 ≤ x) (hb : ∀ x ∈ b, 0 ≤ x) : lexZ (a.map (· + 1) ++ 0 :: r) (b.map (· + 1) ++ 0 :: r') = th (lexZ a b) (lexZ r r') := by
  induction a generalizing b with
  | nil =>
    cases b with
    | nil => simp [lexZ, th]
    | cons y s =>
      have := hb y (by simp)
      simp only [List.map_nil, List.nil_append, List.map_cons, List.cons_append, lexZ]
      rw [if_neg (by omega)]; unfold cmpZ th; rw [if_pos (by omega), if_neg (by omega)]
  | cons x l ih =>
    have hx := ha x (by simp)
    cases b with
    | nil =>
      simp only [List.map_nil, List.nil_append, List.map_cons, List.cons_append, lexZ]
      rw [if_neg (by omega)]; unfold cmpZ th; rw [if_neg (by omega), if_pos (by omega), if_neg (by omega)]
    | cons y s =>
      simp only [List.map_cons, List.cons_append, lexZ]
      by_cases e : x = y
      · rw [if_pos (by omega), if_pos e]
        exact ih s (fun z hz => ha z (by simp [hz])) (fun z hz => hb z (by simp [hz]))
      · rw [if_neg (by omega), if_neg e]
        have : cmpZ (x + 1) (y + 1) = cmpZ x y := by unfold cmpZ; repeat' split
                                                     all_goals omega
        rw [this]
        unfold th
        rw [if_neg (fun h => e (cmpZ_zero.1 h))]
theorem bz_nonneg (s : ByteArray) : ∀ x ∈ bz s, 0 ≤ x := by
  intro x hx
  obtain ⟨c, _, rfl⟩ := List.mem_map.1 hx
  omega
theorem cmp_th (x y : Int) (r r' : List Int) : lexZ (x :: r) (y :: r') = th (cmpZ x y) (lexZ r r') := by
  simp only [lexZ]
  by_cases e : x = y
  · rw [if_pos e, e, cmpZ_self]; simp [th]
  · rw [if_neg e]; unfold th; rw [if_neg (fun h => e (cmpZ_zero.1 h))]
theorem enc_head (t : Tm) : ∃ r, enc t = t.kd :: r := by cases t; exact ⟨_, by rw [enc]; rfl⟩

theorem okF_tail {k num : Int} {neg : Bool} {L : List Nat} {s : ByteArray} {ni : Nat} {T : List Tm} (h : okF k num neg L s ni T = true) : T = [] ∨ ∃ u, T = [u] ∧ u.kd ≠ 7 ∧ k = 7 ∧ 0 < ni := by
  unfold okF at h
  by_cases h1 : k = 1
  · rw [if_pos h1] at h; simp at h; exact Or.inl h.2.2.2.2
  · rw [if_neg h1] at h
    simp only [Bool.and_eq_true] at h
    have h := h.2
    by_cases h2 : k = 2
    · rw [if_pos h2] at h; simp at h; exact Or.inl h.2.2.2
    rw [if_neg h2] at h
    by_cases h3 : k = 3 ∨ k = 5
    · rw [if_pos h3] at h; simp at h; exact Or.inl h.2.2.2.2
    rw [if_neg h3] at h
    by_cases h4 : k = 4
    · rw [if_pos h4] at h; simp at h; exact Or.inl h.2.2.2
    rw [if_neg h4] at h
    by_cases h6 : k = 6
    · rw [if_pos h6] at h; simp at h; exact Or.inl h.2.2
    rw [if_neg h6] at h
    by_cases h7 : k = 7
    · rw [if_pos h7] at h
      match T, h with
      | [], _ => exact Or.inl rfl
      | [u], h => simp at h; exact Or.inr ⟨u, rfl, h.2.2, h7, h.2.1⟩
      | _ :: _ :: _, h => simp at h
    · rw [if_neg h7] at h; simp at h
theorem okF_tail2 {k num : Int} {neg : Bool} {L : List Nat} {s : ByteArray} {ni : Nat} {T : List Tm} (h : okF k num neg L s ni T = true) : T = [] ∨ ∃ u, T = [u] ∧ u.kd ≠ 7 := by
  rcases okF_tail h with h | ⟨u, h1, h2, _⟩
  · exact Or.inl h
  · exact Or.inr ⟨u, h1, h2⟩

mutual
theorem enc_ord : ∀ (t u : Tm) (r r' : List Int), okT' t = true → okT' u = true → lexZ (enc t ++ r) (enc u ++ r') = th (ordT t u) (lexZ r r')
  | .mk k num neg L s I T, .mk k' num' neg' L' s' I' T', r, r', h, h' => by
    rw [okT', Bool.and_eq_true, Bool.and_eq_true] at h h'
    rw [enc, enc, ordT, List.cons_append, List.cons_append, cmp_th]
    by_cases hk : k = k'
    · subst hk
      rw [cmpZ_self, if_pos rfl, th_z]
      by_cases h1 : k = 1
      · rw [if_pos h1, if_pos h1, if_pos h1, List.cons_append, List.cons_append, cmp_th, List.nil_append, List.nil_append]
      · rw [if_neg h1, if_neg h1, if_neg h1]
        by_cases h2 : k = 2
        · rw [if_pos h2, if_pos h2, if_pos h2, List.append_assoc, List.append_assoc]
          exact lexZ_bytes _ _ _ _ (bz_nonneg s) (bz_nonneg s')
        · rw [if_neg h2, if_neg h2, if_neg h2]
          by_cases h7 : k = 7
          · rw [if_pos h7, if_pos h7, if_pos h7, List.append_assoc, List.append_assoc, encL_ord I I' _ _ h.1.2 h'.1.2, encE_ord T T' r r' h.2 h'.2 (okF_tail2 h.1.1) (okF_tail2 h'.1.1), th_assoc]
          · rw [if_neg h7, if_neg h7, if_neg h7, List.cons_append, List.cons_append, List.cons_append, List.cons_append, cmp_th, cmp_th]
            by_cases hl : I.length = I'.length
            · rw [encR_ord I I' r r' h.1.2 h'.1.2 hl, th_assoc, th_assoc]
            · have : cmpZ (I.length : Int) (I'.length : Int) ≠ 0 := fun e => hl (by have := cmpZ_zero.1 e; omega)
              rw [th_assoc, th_assoc]
              congr 1
              unfold th
              rw [if_neg this, if_neg this]
    · have : cmpZ k k' ≠ 0 := fun e => hk (cmpZ_zero.1 e)
      rw [if_neg hk]
      unfold th
      rw [if_neg this, if_neg this]
theorem encR_ord : ∀ (I I' : List Tm) (r r' : List Int), okR I = true → okR I' = true → I.length = I'.length → lexZ (encR I ++ r) (encR I' ++ r') = th (ordR I I') (lexZ r r')
  | [], [], r, r', _, _, _ => by rw [encR, ordR, List.nil_append, List.nil_append, th_z]
  | [], _ :: _, _, _, _, _, h => by simp at h
  | _ :: _, [], _, _, _, _, h => by simp at h
  | t :: I, u :: I', r, r', h, h', hl => by
    rw [okR, Bool.and_eq_true] at h h'
    rw [encR, encR, ordR, List.append_assoc, List.append_assoc, enc_ord t u _ _ h.1 h'.1, encR_ord I I' r r' h.2 h'.2 (by simpa using hl), th_assoc]
theorem encL_ord : ∀ (I I' : List Tm) (r r' : List Int), okR I = true → okR I' = true → lexZ (encL I ++ r) (encL I' ++ r') = th (ordR I I') (lexZ r r')
  | [], [], r, r', _, _ => by rw [encL, ordR, List.cons_append, List.cons_append, cmp_th, cmpZ_self, th_z, th_z]; rfl
  | [], u :: I', r, r', _, _ => by rw [encL, encL, ordR, List.cons_append, List.cons_append, cmp_th]; rfl
  | t :: I, [], r, r', _, _ => by rw [encL, encL, ordR, List.cons_append, List.cons_append, cmp_th]; rfl
  | t :: I, u :: I', r, r', h, h' => by
    rw [okR, Bool.and_eq_true] at h h'
    rw [encL, encL, ordR, List.cons_append, List.cons_append, cmp_th, cmpZ_self, th_z, List.append_assoc, List.append_assoc, enc_ord t u _ _ h.1 h'.1, encL_ord I I' r r' h.2 h'.2, th_assoc]
theorem encE_ord : ∀ (T T' : List Tm) (r r' : List Int), okR T = true → okR T' = true → (T = [] ∨ ∃ u, T = [u] ∧ u.kd ≠ 7) → (T' = [] ∨ ∃ u, T' = [u] ∧ u.kd ≠ 7) → lexZ (encE T ++ r) (encE T' ++ r') = th (ordE T T') (lexZ r r')
  | [], [], r, r', _, _, _, _ => by rw [encE, ordE, List.cons_append, List.cons_append, cmp_th, cmpZ_self, th_z, th_z]; rfl
  | [], u :: T', r, r', _, _, _, h => by
    obtain ⟨u', e, h7⟩ := h.resolve_left (by simp)
    have e1 := (List.cons.inj e).1
    obtain ⟨q, hq⟩ := enc_head u
    have : cmpZ 7 u.kd ≠ 0 := fun z => h7 (by rw [← e1]; exact (cmpZ_zero.1 z).symm)
    rw [encE, encE, ordE, hq, List.cons_append, List.cons_append, cmp_th]
    unfold th; rw [if_neg this, if_neg this]
  | t :: T, [], r, r', _, _, h, _ => by
    obtain ⟨u', e, h7⟩ := h.resolve_left (by simp)
    have e1 := (List.cons.inj e).1
    obtain ⟨q, hq⟩ := enc_head t
    have : cmpZ t.kd 7 ≠ 0 := fun z => h7 (by rw [← e1]; exact cmpZ_zero.1 z)
    rw [encE, encE, ordE, hq, List.cons_append, List.cons_append, cmp_th]
    unfold th; rw [if_neg this, if_neg this]
  | t :: T, u :: T', r, r', h, h', _, _ => by
    rw [okR, Bool.and_eq_true] at h h'
    rw [encE, encE, ordE]
    exact enc_ord t u r r' h.1 h'.1
end

theorem ord_lex (t u : Tm) (h : okT' t = true) (h' : okT' u = true) : ordT t u = lexZ (enc t) (enc u) := by
  have := enc_ord t u [] [] h h'
  rw [List.append_nil, List.append_nil] at this
  rw [this]
  exact (th_right _).symm
theorem ordT_self (t : Tm) (h : okT' t = true) : ordT t t = 0 := by rw [ord_lex t t h h, lexZ_self]
theorem ordT_neg (t u : Tm) (h : okT' t = true) (h' : okT' u = true) : ordT u t = - ordT t u := by rw [ord_lex t u h h', ord_lex u t h' h, lexZ_neg]
theorem ordT_range (t u : Tm) (h : okT' t = true) (h' : okT' u = true) : ordT t u = -1 ∨ ordT t u = 0 ∨ ordT t u = 1 := by rw [ord_lex t u h h']; exact lexZ_range _ _
theorem ordT_trans (t u v : Tm) (h : okT' t = true) (h' : okT' u = true) (h'' : okT' v = true) (h1 : ordT t u ≤ 0) (h2 : ordT u v ≤ 0) : ordT t v ≤ 0 := by
  rw [ord_lex _ _ h h'] at h1
  rw [ord_lex _ _ h' h''] at h2
  rw [ord_lex _ _ h h'']
  exact lexZ_trans h1 h2

theorem bz_inj {s s' : ByteArray} (h : bz s = bz s') : s = s' := by
  have : s.data.toList = s'.data.toList := by
    unfold bz at h
    exact List.map_inj_right (fun a b e => UInt8.toNat_inj.1 (by omega)) |>.1 h
  cases s; cases s'
  congr
  exact Array.toList_inj.1 this
theorem bz_empty {s : ByteArray} (h : s.size = 0) : s = ⟨#[]⟩ := by
  cases s with
  | mk d => congr; exact Array.eq_empty_of_size_eq_zero h
theorem zv_inj {neg neg' : Bool} {L L' : List Nat} (hd : Dig L) (hd' : Dig L') (hl : L.getLast? ≠ some 0) (hl' : L'.getLast? ≠ some 0) (hz : L = [] → neg = false) (hz' : L' = [] → neg' = false) (h : zv neg L = zv neg' L') : neg = neg' ∧ L = L' := by
  have top : ∀ x, L.getLast? = some x → x ≠ 0 := fun x hx e => hl (by rw [hx, e])
  have top' : ∀ x, L'.getLast? = some x → x ≠ 0 := fun x hx e => hl' (by rw [hx, e])
  have hv : val L = val L' := by
    unfold zv at h
    split at h <;> split at h <;> omega
  have e : L = L' := Norm.uniq (n := val L) ⟨hd, rfl, top⟩ ⟨hd', hv.symm, top'⟩
  refine ⟨?_, e⟩
  subst e
  by_cases h0 : L = []
  · rw [hz h0, hz' h0]
  · have hp := val_pos_of_top h0 top
    unfold zv at h
    cases neg <;> cases neg' <;> simp at h ⊢ <;> omega

mutual
/-- All limbs are limbs. -/
def digT : Tm → Prop
  | .mk _ _ _ L _ I T => Dig L ∧ digR I ∧ digR T
def digR : List Tm → Prop
  | [] => True
  | t :: r => digT t ∧ digR r
end

theorem okL_top {neg : Bool} {L : List Nat} (h : okL neg L = true) : L.getLast? ≠ some 0 ∧ (L = [] → neg = false) ∧ L.length ≤ 32 := by
  unfold okL at h
  by_cases h0 : L.length = 0
  · rw [if_pos h0] at h
    have : L = [] := List.eq_nil_of_length_eq_zero h0
    subst this
    simp at h
    simp [h]
  · rw [if_neg h0] at h
    simp only [Bool.and_eq_true, decide_eq_true_eq] at h
    refine ⟨fun e => h.2 ?_, fun e => absurd (by rw [e]; rfl) h0, h.1⟩
    rw [List.getLast?_eq_getElem?] at e
    simp [List.getD, e]

mutual
theorem ordT_zero : ∀ (t u : Tm), okT' t = true → okT' u = true → digT t → digT u → ordT t u = 0 → t = u
  | .mk k num neg L s I T, .mk k' num' neg' L' s' I' T', h, h', d, d', e => by
    rw [okT', Bool.and_eq_true, Bool.and_eq_true] at h h'
    rw [digT] at d d'
    rw [ordT] at e
    by_cases hk : k = k'
    · subst hk
      rw [if_pos rfl] at e
      have f := h.1.1
      have f' := h'.1.1
      have hT := okF_tail h.1.1
      have hT' := okF_tail h'.1.1
      unfold okF at f f'
      by_cases h1 : k = 1
      · rw [if_pos h1] at f f' e
        simp only [Bool.and_eq_true, decide_eq_true_eq] at f f'
        obtain ⟨f1, f2, f3, f4, f5⟩ := f
        obtain ⟨g1, g2, g3, g4, g5⟩ := f'
        obtain ⟨a1, a2, _⟩ := okL_top f1
        obtain ⟨b1, b2, _⟩ := okL_top g1
        obtain ⟨e1, e2⟩ := zv_inj d.1 d'.1 a1 b1 a2 b2 (cmpZ_zero.1 e)
        rw [e1, e2, f3, g3, List.eq_nil_of_length_eq_zero f4, List.eq_nil_of_length_eq_zero g4, List.eq_nil_of_length_eq_zero f5, List.eq_nil_of_length_eq_zero g5, bz_empty f2, bz_empty g2]
      · rw [if_neg h1] at f f' e
        simp only [Bool.and_eq_true, decide_eq_true_eq] at f f'
        obtain ⟨⟨n1, n2⟩, f⟩ := f
        obtain ⟨⟨m1, m2⟩, f'⟩ := f'
        rw [n1, m1, List.eq_nil_of_length_eq_zero n2, List.eq_nil_of_length_eq_zero m2]
        by_cases h2 : k = 2
        · rw [if_pos h2] at f f' e
          simp only [decide_eq_true_eq] at f f'
          obtain ⟨_, f3, f4, f5⟩ := f
          obtain ⟨_, g3, g4, g5⟩ := f'
          rw [bz_inj (lexZ_zero e), f3, g3, List.eq_nil_of_length_eq_zero f4, List.eq_nil_of_length_eq_zero g4, List.eq_nil_of_length_eq_zero f5, List.eq_nil_of_length_eq_zero g5]
        · rw [if_neg h2] at f f' e
          by_cases h7 : k = 7
          · rw [if_neg (by omega), if_neg (by omega), if_neg (by omega), if_pos h7] at f f'
            rw [if_pos h7, th_zero] at e
            simp only [Bool.and_eq_true, decide_eq_true_eq] at f f'
            obtain ⟨⟨f2, f3⟩, _⟩ := f
            obtain ⟨⟨g2, g3⟩, _⟩ := f'
            rw [bz_empty f2, bz_empty g2, f3, g3, ordR_zero I I' h.1.2 h'.1.2 d.2.1 d'.2.1 e.1, ordE_zero T T' h.2 h'.2 d.2.2 d'.2.2 (okF_tail2 h.1.1) (okF_tail2 h'.1.1) e.2]
          · rw [if_neg h7, th_zero, th_zero] at e
            have eN := cmpZ_zero.1 e.1
            have eI := ordR_zero I I' h.1.2 h'.1.2 d.2.1 d'.2.1 e.2.2
            have eT : T = T' := by
              rcases hT with hT | ⟨_, _, _, q, _⟩
              · rcases hT' with hT' | ⟨_, _, _, q, _⟩
                · rw [hT, hT']
                · exact absurd q h7
              · exact absurd q h7
            have z : s.size = 0 ∧ s'.size = 0 := by
              by_cases h3 : k = 3 ∨ k = 5
              · rw [if_pos h3] at f f'; simp only [decide_eq_true_eq] at f f'; exact ⟨f.1, f'.1⟩
              rw [if_neg h3] at f f'
              by_cases h4 : k = 4
              · rw [if_pos h4] at f f'; simp only [decide_eq_true_eq] at f f'; exact ⟨f.1, f'.1⟩
              rw [if_neg h4] at f f'
              by_cases h6 : k = 6
              · rw [if_pos h6] at f f'; simp only [decide_eq_true_eq] at f f'; exact ⟨f.1, f'.1⟩
              rw [if_neg h6, if_neg h7] at f
              simp at f
            rw [eN, eI, eT, bz_empty z.1, bz_empty z.2]
    · rw [if_neg hk] at e
      exact absurd (cmpZ_zero.1 e) hk
theorem ordR_zero : ∀ (I I' : List Tm), okR I = true → okR I' = true → digR I → digR I' → ordR I I' = 0 → I = I'
  | [], [], _, _, _, _, _ => rfl
  | [], _ :: _, _, _, _, _, h => by rw [ordR] at h; omega
  | _ :: _, [], _, _, _, _, h => by rw [ordR] at h; omega
  | t :: I, u :: I', h, h', d, d', e => by
    rw [okR, Bool.and_eq_true] at h h'
    rw [digR] at d d'
    rw [ordR, th_zero] at e
    rw [ordT_zero t u h.1 h'.1 d.1 d'.1 e.1, ordR_zero I I' h.2 h'.2 d.2 d'.2 e.2]
theorem ordE_zero : ∀ (T T' : List Tm), okR T = true → okR T' = true → digR T → digR T' → (T = [] ∨ ∃ u, T = [u] ∧ u.kd ≠ 7) → (T' = [] ∨ ∃ u, T' = [u] ∧ u.kd ≠ 7) → ordE T T' = 0 → T = T'
  | [], [], _, _, _, _, _, _, _ => rfl
  | [], u :: T', _, _, _, _, _, h, e => by
    obtain ⟨u', q, h7⟩ := h.resolve_left (by simp)
    rw [ordE] at e
    exact absurd (by rw [← (List.cons.inj q).1]; exact (cmpZ_zero.1 e).symm) h7
  | t :: T, [], _, _, _, _, h, _, e => by
    obtain ⟨u', q, h7⟩ := h.resolve_left (by simp)
    rw [ordE] at e
    exact absurd (by rw [← (List.cons.inj q).1]; exact cmpZ_zero.1 e) h7
  | t :: T, u :: T', h, h', d, d', q, q', e => by
    rw [okR, Bool.and_eq_true] at h h'
    rw [digR] at d d'
    rw [ordE] at e
    obtain ⟨t', q1, _⟩ := q.resolve_left (by simp)
    obtain ⟨u', q2, _⟩ := q'.resolve_left (by simp)
    rw [ordT_zero t u h.1 h'.1 d.1 d'.1 e, (List.cons.inj q1).2, (List.cons.inj q2).2]
end

/-- Kinds stand in order. -/
theorem ordT_kind (t u : Tm) (h : t.kd < u.kd) : ordT t u = -1 := by
  cases t; cases u
  simp only [Tm.kd] at h
  rw [ordT, if_neg (by omega)]
  unfold cmpZ
  rw [if_pos h]

end Go.Proofs.YtnpocmhaoaigfaaGreatDoor

/- Terms as trees, and how they stand in memory. -/
namespace Go.Proofs.YtnpocmhaoaigfaaGreatDoor
open Go.ChangeShapes Go.WideShapes Go.ChangeAt Go.RowKit Go.Joins

/-- A row of terms in memory. -/
def RowAt (R : List Value → Tm → Prop) (w : World) (a : Option Addr) (I : List Tm) : Prop :=
  I = [] ∨ ∃ b o, a = some ⟨b, o, none⟩ ∧ b < w.heap.size ∧ ∀ i (hi : i < I.length), ∃ cs : List Value, cs.length = 7 ∧ (∀ j, j < 7 → w.cell? ⟨b, o + (i * 7 + j), none⟩ = cs[j]?) ∧ R cs I[i]

/-- The seven cells of a term stand for a tree. -/
def In (w : World) : Nat → List Value → Tm → Prop
  | 0, _, _ => False
  | d + 1, cs, .mk k num neg L s I T => ∃ (a ai at' : Option Addr) (c ci ct : Nat), cs = [.int .u8 k, .bool neg, .slice a L.length c, .string s, .int .i64 num, .slice ai I.length ci, .slice at' T.length ct] ∧ At w a L ∧ Dig L ∧ RowAt (In w d) w ai I ∧ RowAt (In w d) w at' T

theorem RowAt.imp {R S : List Value → Tm → Prop} {w w' : World} {a : Option Addr} {I : List Tm} (h : RowAt R w a I) (hu : Upd [] w w') (himp : ∀ cs t, R cs t → S cs t) : RowAt S w' a I := by
  rcases h with h | ⟨b, o, e, hlt, hc⟩
  · exact Or.inl h
  · refine Or.inr ⟨b, o, e, Nat.lt_of_lt_of_le hlt hu.size, fun i hi => ?_⟩
    obtain ⟨cs, h1, h2, h3⟩ := hc i hi
    exact ⟨cs, h1, fun j hj => (hu.cell (p := ⟨b, o + (i * 7 + j), none⟩) hlt (by simp)).trans (h2 j hj), himp _ _ h3⟩
theorem In.mono {w w' : World} (hu : Upd [] w w') : ∀ (d : Nat) (cs : List Value) (t : Tm), In w d cs t → In w' d cs t := by
  intro d
  induction d with
  | zero => intro cs t h; exact h.elim
  | succ d ih =>
    intro cs t h
    cases t with
    | mk k num neg L s I T =>
      obtain ⟨a, ai, at', c, ci, ct, rfl, h1, h2, h3, h4⟩ := h
      exact ⟨a, ai, at', c, ci, ct, rfl, h1.mono hu, h2, h3.imp hu ih, h4.imp hu ih⟩
theorem In.more {w : World} : ∀ (d : Nat) (cs : List Value) (t : Tm), In w d cs t → In w (d + 1) cs t := by
  intro d
  induction d with
  | zero => intro cs t h; exact h.elim
  | succ d ih =>
    intro cs t h
    cases t with
    | mk k num neg L s I T =>
      obtain ⟨a, ai, at', c, ci, ct, rfl, h1, h2, h3, h4⟩ := h
      exact ⟨a, ai, at', c, ci, ct, rfl, h1, h2, h3.imp (Upd.refl [] w) ih, h4.imp (Upd.refl [] w) ih⟩

mutual
/-- How long the longest row in a tree is (a row of limbs counts for a row of terms of the same weight). -/
def tsz : Tm → Nat
  | .mk _ _ _ L _ I T => max (L.length / 26) (max (tszs I) (tszs T))
def tszs : List Tm → Nat
  | [] => 0
  | t :: r => max (r.length + 1) (max (tsz t) (tszs r))
end

theorem tszs_len (I : List Tm) : I.length ≤ tszs I := by
  cases I with
  | nil => simp
  | cons t r => simp only [tszs, List.length_cons]; omega
theorem tszs_get (I : List Tm) (i : Nat) (hi : i < I.length) : tsz I[i] ≤ tszs I := by
  induction I generalizing i with
  | nil => simp at hi
  | cons t r ih =>
    cases i with
    | zero => simp only [tszs, List.getElem_cons_zero]; omega
    | succ i =>
      simp only [tszs, List.getElem_cons_succ]
      have := ih i (by simpa using hi)
      omega
theorem tszs_le (N : Nat) (I : List Tm) (hl : I.length ≤ N) (h : ∀ i (hi : i < I.length), tsz I[i] ≤ N) : tszs I ≤ N := by
  induction I with
  | nil => simp [tszs]
  | cons t r ih =>
    have h0 := h 0 (by simp)
    have h1 := ih (by simp at hl; omega) (fun i hi => by have := h (i + 1) (by simpa using hi); simpa using this)
    simp only [tszs]
    simp at h0 hl
    omega

end Go.Proofs.YtnpocmhaoaigfaaGreatDoor
