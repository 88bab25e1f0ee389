/- The program and its reference answer the same, of terms that stand for the same trees. -/
import Derived.Test.YtpjlhpopoacjdaaDoorJI
import Derived.Test.YtpjlhpopoacjdaaDoorRefS
import Derived.Test.YtpjlhpopoacjdaaDoorJF
import Derived.Test.YtpjlhpopoacjdaaDoorRefA
import Derived.Test.YtpjlhpopoacjdaaDoorRefB
import Derived.Test.YtpjlhpopoacjdaaDoorRefC
import Derived.Test.YtpjlhpopoacjdaaDoorTreeS
namespace Go.Proofs.YtpjlhpopoacjdaaDoor
open Go.RowKit

theorem In.open {w : World} {d : Nat} {cs : List Value} {k num : Int} {neg : Bool} {L : List Nat} {s : ByteArray} {I T : List Tm} (h : In w d cs (.mk k num neg L s I T)) :
    ∃ (a ai at' : Option Addr) (c ci ct : Nat), cs = [.int .u8 k, .bool neg, .slice a L.length c, .string s, .int .i64 num, .slice ai I.length ci, .slice at' T.length ct] ∧ At w a L ∧ Dig L := by
  cases d with
  | zero => exact h.elim
  | succ d =>
    obtain ⟨a, ai, at', c, ci, ct, e, h1, h2, _⟩ := h
    exact ⟨a, ai, at', c, ci, ct, e, h1, h2⟩

/-- What a call of two terms answers: an integer. -/
def AnsT (F : Nat) (cs cs' : List Value) (W : World) (k : Int) (neg : Bool) (L : List Nat) (ok : Bool) : Prop := Calls Tryd.prog F #[.agg cs.toArray, .agg cs'.toArray] W fun e w' => Upd [] W w' ∧ ∃ a c, e = .returned (.tuple #[.agg #[.int .u8 k, .bool neg, .slice a L.length c, .string ⟨#[]⟩, .int .i64 0, .slice none 0 0, .slice none 0 0], .bool ok]) ∧ At w' a L

theorem PT.ans {F : Nat} {cs cs' : List Value} {W : World} {k : Int} {neg : Bool} {L : List Nat} {ok : Bool} (h : PT F #[.agg cs.toArray, .agg cs'.toArray] W k neg L ok) : AnsT F cs cs' W k neg L ok := h W (Upd.refl [] W)

theorem add_in (t0 t1 : Tm) (h0 : tsz t0 ≤ 1353245080330) (h1 : tsz t1 ≤ 1353245080330) : ∃ K neg L ok, L.length ≤ 32 ∧ ∀ d W cs cs', In W d cs t0 → In W d cs' t1 → AnsT 12 cs cs' W K neg L ok ∧ AnsT 13 cs cs' W K neg L ok := by
  cases t0 with
  | mk k num na A s I T =>
  cases t1 with
  | mk k' num' nb B s' I' T' =>
  simp only [tsz] at h0 h1
  have i0 := tszs_len I
  have i1 := tszs_len T
  have i2 := tszs_len I'
  have i3 := tszs_len T'
  cases ha : okT k na A s num I.length T.length
  · refine ⟨0, false, [], false, by simp, fun d W cs cs' hx hy => ?_⟩
    obtain ⟨a, ai, at', c, ci, ct, rfl, HA, dA⟩ := hx.open
    obtain ⟨b, bi, bt, cb, cbi, cbt, rfl, HB, dB⟩ := hy.open
    exact ⟨PT.ans (PT.zero fun V hu => Add_badA k num k' num' na nb A B s s' a ai at' b bi bt c I.length ci T.length ct cb I'.length cbi T'.length cbt V (by omega) (HA.mono hu) (by omega) (by omega) ha), PT.ans (PT.zero fun V hu => rAdd_badA k num k' num' na nb A B s s' a ai at' b bi bt c I.length ci T.length ct cb I'.length cbi T'.length cbt V (by omega) (HA.mono hu) (by omega) (by omega) ha)⟩
  · cases hb : okT k' nb B s' num' I'.length T'.length
    · refine ⟨0, false, [], false, by simp, fun d W cs cs' hx hy => ?_⟩
      obtain ⟨a, ai, at', c, ci, ct, rfl, HA, dA⟩ := hx.open
      obtain ⟨b, bi, bt, cb, cbi, cbt, rfl, HB, dB⟩ := hy.open
      exact ⟨PT.ans (PT.zero fun V hu => Add_badB k num k' num' na nb A B s s' a ai at' b bi bt c I.length ci T.length ct cb I'.length cbi T'.length cbt V (by omega) (HA.mono hu) (by omega) (by omega) ha (by omega) (HB.mono hu) (by omega) (by omega) hb), PT.ans (PT.zero fun V hu => rAdd_badB k num k' num' na nb A B s s' a ai at' b bi bt c I.length ci T.length ct cb I'.length cbi T'.length cbt V (by omega) (HA.mono hu) (by omega) (by omega) ha (by omega) (HB.mono hu) (by omega) (by omega) hb)⟩
    · obtain ⟨L, hL⟩ := Norm.ex (sg na (val A) + sg nb (val B)).natAbs
      by_cases hz : (sg na (val A) + sg nb (val B)).natAbs < 4294967296 ^ 32
      · refine ⟨1, decide ((sg na (val A) + sg nb (val B)) < 0), L, true, (hL.len_le 32).2 hz, fun d W cs cs' hx hy => ?_⟩
        obtain ⟨a, ai, at', c, ci, ct, rfl, HA, dA⟩ := hx.open
        obtain ⟨b, bi, bt, cb, cbi, cbt, rfl, HB, dB⟩ := hy.open
        obtain ⟨rfl, rfl, rfl, hI, hT, X0⟩ := okT_elim ha dA HA
        obtain ⟨rfl, rfl, rfl, hI', hT', X1⟩ := okT_elim hb dB HB
        rw [hI, hT, hI', hT']
        exact ⟨PT.ans (PT.res hz hL fun V hu => Add_any a ai at' b bi bt c ci ct cb cbi cbt na nb A B _ _ V (X0.mono hu) (X1.mono hu)), PT.ans (PT.res hz hL fun V hu => rAdd_any a ai at' b bi bt c ci ct cb cbi cbt na nb A B _ _ V (X0.mono hu) (X1.mono hu))⟩
      · refine ⟨0, false, [], false, by simp, fun d W cs cs' hx hy => ?_⟩
        obtain ⟨a, ai, at', c, ci, ct, rfl, HA, dA⟩ := hx.open
        obtain ⟨b, bi, bt, cb, cbi, cbt, rfl, HB, dB⟩ := hy.open
        obtain ⟨rfl, rfl, rfl, hI, hT, X0⟩ := okT_elim ha dA HA
        obtain ⟨rfl, rfl, rfl, hI', hT', X1⟩ := okT_elim hb dB HB
        rw [hI, hT, hI', hT']
        exact ⟨PT.ans (PT.none hz fun V hu => Add_any a ai at' b bi bt c ci ct cb cbi cbt na nb A B _ _ V (X0.mono hu) (X1.mono hu)), PT.ans (PT.none hz fun V hu => rAdd_any a ai at' b bi bt c ci ct cb cbi cbt na nb A B _ _ V (X0.mono hu) (X1.mono hu))⟩

theorem sub_in (t0 t1 : Tm) (h0 : tsz t0 ≤ 1353245080330) (h1 : tsz t1 ≤ 1353245080330) : ∃ K neg L ok, L.length ≤ 32 ∧ ∀ d W cs cs', In W d cs t0 → In W d cs' t1 → AnsT 14 cs cs' W K neg L ok ∧ AnsT 15 cs cs' W K neg L ok := by
  cases t0 with
  | mk k num na A s I T =>
  cases t1 with
  | mk k' num' nb B s' I' T' =>
  simp only [tsz] at h0 h1
  have i0 := tszs_len I
  have i1 := tszs_len T
  have i2 := tszs_len I'
  have i3 := tszs_len T'
  cases ha : okT k na A s num I.length T.length
  · refine ⟨0, false, [], false, by simp, fun d W cs cs' hx hy => ?_⟩
    obtain ⟨a, ai, at', c, ci, ct, rfl, HA, dA⟩ := hx.open
    obtain ⟨b, bi, bt, cb, cbi, cbt, rfl, HB, dB⟩ := hy.open
    refine ⟨PT.ans (PT.zero fun V hu => Sub_badA k num k' num' na nb A B s s' a ai at' b bi bt c I.length ci T.length ct cb I'.length cbi T'.length cbt V (by omega) (HA.mono hu) (by omega) (by omega) ha), ?_⟩
    cases hb : okT k' nb B s' num' I'.length T'.length
    · exact PT.ans (PT.zero fun V hu => rSub_badB k num k' num' na nb A B s s' a ai at' b bi bt c I.length ci T.length ct cb I'.length cbi T'.length cbt V (by omega) (HB.mono hu) (by omega) (by omega) hb)
    · obtain ⟨rfl, rfl, rfl, hI', hT', X1⟩ := okT_elim hb dB HB
      rw [hI', hT']
      exact PT.ans (PT.zero fun V hu => rSub_badA k num s a ai at' b bi bt c I.length ci T.length ct cb cbi cbt na nb A B _ V (by omega) (HA.mono hu) (by omega) (by omega) ha (X1.mono hu))
  · cases hb : okT k' nb B s' num' I'.length T'.length
    · refine ⟨0, false, [], false, by simp, fun d W cs cs' hx hy => ?_⟩
      obtain ⟨a, ai, at', c, ci, ct, rfl, HA, dA⟩ := hx.open
      obtain ⟨b, bi, bt, cb, cbi, cbt, rfl, HB, dB⟩ := hy.open
      exact ⟨PT.ans (PT.zero fun V hu => Sub_badB k num k' num' na nb A B s s' a ai at' b bi bt c I.length ci T.length ct cb I'.length cbi T'.length cbt V (by omega) (HA.mono hu) (by omega) (by omega) ha (by omega) (HB.mono hu) (by omega) (by omega) hb), PT.ans (PT.zero fun V hu => rSub_badB k num k' num' na nb A B s s' a ai at' b bi bt c I.length ci T.length ct cb I'.length cbi T'.length cbt V (by omega) (HB.mono hu) (by omega) (by omega) hb)⟩
    · obtain ⟨L, hL⟩ := Norm.ex (sg na (val A) - sg nb (val B)).natAbs
      by_cases hz : (sg na (val A) - sg nb (val B)).natAbs < 4294967296 ^ 32
      · refine ⟨1, decide ((sg na (val A) - sg nb (val B)) < 0), L, true, (hL.len_le 32).2 hz, fun d W cs cs' hx hy => ?_⟩
        obtain ⟨a, ai, at', c, ci, ct, rfl, HA, dA⟩ := hx.open
        obtain ⟨b, bi, bt, cb, cbi, cbt, rfl, HB, dB⟩ := hy.open
        obtain ⟨rfl, rfl, rfl, hI, hT, X0⟩ := okT_elim ha dA HA
        obtain ⟨rfl, rfl, rfl, hI', hT', X1⟩ := okT_elim hb dB HB
        rw [hI, hT, hI', hT']
        exact ⟨PT.ans (PT.res hz hL fun V hu => Sub_any a ai at' b bi bt c ci ct cb cbi cbt na nb A B _ _ V (X0.mono hu) (X1.mono hu)), PT.ans (PT.res hz hL fun V hu => rSub_right a ai at' b bi bt c ci ct cb cbi cbt na nb A B _ _ V (X0.mono hu) (X1.mono hu))⟩
      · refine ⟨0, false, [], false, by simp, fun d W cs cs' hx hy => ?_⟩
        obtain ⟨a, ai, at', c, ci, ct, rfl, HA, dA⟩ := hx.open
        obtain ⟨b, bi, bt, cb, cbi, cbt, rfl, HB, dB⟩ := hy.open
        obtain ⟨rfl, rfl, rfl, hI, hT, X0⟩ := okT_elim ha dA HA
        obtain ⟨rfl, rfl, rfl, hI', hT', X1⟩ := okT_elim hb dB HB
        rw [hI, hT, hI', hT']
        exact ⟨PT.ans (PT.none hz fun V hu => Sub_any a ai at' b bi bt c ci ct cb cbi cbt na nb A B _ _ V (X0.mono hu) (X1.mono hu)), PT.ans (PT.none hz fun V hu => rSub_right a ai at' b bi bt c ci ct cb cbi cbt na nb A B _ _ V (X0.mono hu) (X1.mono hu))⟩

/-- What a call answers: this value. -/
def AnsV (F : Nat) (args : Array Value) (W : World) (v : Value) : Prop := Calls Tryd.prog F args W fun e w' => e = .returned v ∧ Upd [] W w'

theorem compare_in (t0 t1 : Tm) (h0 : tsz t0 ≤ 1353245080330) (h1 : tsz t1 ≤ 1353245080330) : ∃ n : Int, ∀ d W cs cs', In W d cs t0 → In W d cs' t1 → AnsV 19 #[.agg cs.toArray, .agg cs'.toArray] W (.int .i64 n) ∧ AnsV 20 #[.agg cs.toArray, .agg cs'.toArray] W (.int .i64 n) := by
  cases t0 with
  | mk k num na A s I T =>
  cases t1 with
  | mk k' num' nb B s' I' T' =>
  simp only [tsz] at h0 h1
  have i0 := tszs_len I
  have i1 := tszs_len T
  have i2 := tszs_len I'
  have i3 := tszs_len T'
  cases ha : okT k na A s num I.length T.length
  · refine ⟨0, fun d W cs cs' hx hy => ?_⟩
    obtain ⟨a, ai, at', c, ci, ct, rfl, HA, dA⟩ := hx.open
    obtain ⟨b, bi, bt, cb, cbi, cbt, rfl, HB, dB⟩ := hy.open
    exact ⟨Compare_badA k num k' num' na nb A B s s' a ai at' b bi bt c I.length ci T.length ct cb I'.length cbi T'.length cbt W (by omega) HA (by omega) (by omega) ha, rCompare_badA k num k' num' na nb A B s s' a ai at' b bi bt c I.length ci T.length ct cb I'.length cbi T'.length cbt W (by omega) HA (by omega) (by omega) ha⟩
  · cases hb : okT k' nb B s' num' I'.length T'.length
    · refine ⟨0, fun d W cs cs' hx hy => ?_⟩
      obtain ⟨a, ai, at', c, ci, ct, rfl, HA, dA⟩ := hx.open
      obtain ⟨b, bi, bt, cb, cbi, cbt, rfl, HB, dB⟩ := hy.open
      exact ⟨Compare_badB k num k' num' na nb A B s s' a ai at' b bi bt c I.length ci T.length ct cb I'.length cbi T'.length cbt W (by omega) HA (by omega) (by omega) ha (by omega) HB (by omega) (by omega) hb, rCompare_badB k num k' num' na nb A B s s' a ai at' b bi bt c I.length ci T.length ct cb I'.length cbi T'.length cbt W (by omega) HA (by omega) (by omega) ha (by omega) HB (by omega) (by omega) hb⟩
    · refine ⟨cmpZ (sg na (val A)) (sg nb (val B)), fun d W cs cs' hx hy => ?_⟩
      obtain ⟨a, ai, at', c, ci, ct, rfl, HA, dA⟩ := hx.open
      obtain ⟨b, bi, bt, cb, cbi, cbt, rfl, HB, dB⟩ := hy.open
      obtain ⟨rfl, rfl, rfl, hI, hT, X0⟩ := okT_elim ha dA HA
      obtain ⟨rfl, rfl, rfl, hI', hT', X1⟩ := okT_elim hb dB HB
      rw [hI, hT, hI', hT']
      exact ⟨Compare_any a ai at' b bi bt c ci ct cb cbi cbt na nb A B _ _ W X0 X1, rCompare_any a ai at' b bi bt c ci ct cb cbi cbt na nb A B _ _ W X0 X1⟩

theorem int_in (t0 : Tm) (h0 : tsz t0 ≤ 1353245080330) : ∃ (n : Int) (ok : Bool), ∀ d W cs, In W d cs t0 → AnsV 16 #[.agg cs.toArray] W (.tuple #[.int .i64 n, .bool ok]) ∧ AnsV 17 #[.agg cs.toArray] W (.tuple #[.int .i64 n, .bool ok]) := by
  cases t0 with
  | mk k num na A s I T =>
  simp only [tsz] at h0
  have i0 := tszs_len I
  have i1 := tszs_len T
  cases ha : okT k na A s num I.length T.length
  · refine ⟨0, false, fun d W cs hx => ?_⟩
    obtain ⟨a, ai, at', c, ci, ct, rfl, HA, dA⟩ := hx.open
    exact ⟨Int_bad k num na A s a ai at' c I.length ci T.length ct W (by omega) HA (by omega) (by omega) ha, rInt_bad k num na A s a ai at' c I.length ci T.length ct W (by omega) HA (by omega) (by omega) ha⟩
  · refine ⟨if isI64 (sg na (val A)) then sg na (val A) else 0, isI64 (sg na (val A)), fun d W cs hx => ?_⟩
    obtain ⟨a, ai, at', c, ci, ct, rfl, HA, dA⟩ := hx.open
    obtain ⟨rfl, rfl, rfl, hI, hT, X0⟩ := okT_elim ha dA HA
    rw [hI, hT]
    exact ⟨Int_any a ai at' c ci ct na A _ W X0, rInt_any a ai at' c ci ct na A _ W X0⟩

theorem right_in (t0 : Tm) (h0 : tsz t0 ≤ 1353245080330) : ∃ ok : Bool, ∀ d W cs, In W d cs t0 → AnsV 21 #[.agg cs.toArray] W (.bool ok) ∧ AnsV 22 #[.agg cs.toArray] W (.bool ok) := by
  cases t0 with
  | mk k num na A s I T =>
  simp only [tsz] at h0
  have i0 := tszs_len I
  have i1 := tszs_len T
  refine ⟨okT k na A s num I.length T.length, fun d W cs hx => ?_⟩
  obtain ⟨a, ai, at', c, ci, ct, rfl, HA, dA⟩ := hx.open
  exact ⟨Right_upd k num na A s a ai at' c I.length ci T.length ct W _ (by omega) HA (by omega) (by omega) rfl, rRight_upd k num na A s a ai at' c I.length ci T.length ct W _ (by omega) HA (by omega) (by omega) rfl⟩

theorem AnsT.go {F : Nat} {cs cs' : List Value} {W : World} {k : Int} {neg : Bool} {L : List Nat} {ok : Bool} (h : AnsT F cs cs' W k neg L ok) {R : Ending → World → Prop} (hR : ∀ e w', (Upd [] W w' ∧ ∃ a c, e = .returned (.tuple #[.agg #[.int .u8 k, .bool neg, .slice a L.length c, .string ⟨#[]⟩, .int .i64 0, .slice none 0 0, .slice none 0 0], .bool ok]) ∧ At w' a L) → R e w') :
    Calls Tryd.prog F #[.agg cs.toArray, .agg cs'.toArray] W R := Calls.mono h hR
theorem AnsV.go {F : Nat} {args : Array Value} {W : World} {v : Value} (h : AnsV F args W v) {R : Ending → World → Prop} (hR : ∀ e w', (e = .returned v ∧ Upd [] W w') → R e w') : Calls Tryd.prog F args W R := Calls.mono h hR
theorem AnsV.at {F : Nat} {args : Array Value} {W : World} {v : Value} (h : AnsV F args W v) : Calls Tryd.prog F args W fun e w' => e = .returned v ∧ Upd [] W w' := h

end Go.Proofs.YtpjlhpopoacjdaaDoor
