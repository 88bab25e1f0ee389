/- What a call answers, wherever it is called. -/
import Derived.Test.YtpeganecbjefoaaDoorLawB
namespace Go.Proofs.YtpeganecbjefoaaDoor
open Go.RowKit

theorem Norm.ex (n : Nat) : ∃ L, Norm L n := by
  induction n using Nat.strongRecOn with
  | ind n ih =>
    by_cases h : n = 0
    · subst h; exact ⟨[], Norm.zero⟩
    · obtain ⟨L, hL⟩ := ih (n / 4294967296) (Nat.div_lt_self (by omega) (by decide))
      refine ⟨n % 4294967296 :: L, ⟨fun x hx => ?_, by rw [val_cons, hL.eq]; omega, fun x hx => ?_⟩⟩
      · rcases List.mem_cons.1 hx with h1 | h1
        · rw [h1]; exact Nat.mod_lt _ (by decide)
        · exact hL.dig x h1
      · by_cases hl : L = []
        · subst hl
          have := hL.nil_iff.1 rfl
          simp at hx
          omega
        · rw [List.getLast?_cons, List.getLast?_eq_some_getLast hl] at hx
          simp at hx
          exact hL.top x (by rw [List.getLast?_eq_some_getLast hl, hx])

/-- What a call that answers one integer answers, wherever it is called. -/
def PT (F : Nat) (args : Array Value) (W : World) (k : Int) (neg : Bool) (L : List Nat) (ok : Bool) : Prop := ∀ V, Upd [] W V → Calls Tryd.prog F args V fun e w' => Upd [] V w' ∧ ∃ a c, e = .returned (.tuple #[.agg #[.int .u8 k, .bool neg, .slice a L.length c, .string ⟨#[]⟩, .int .i64 0, .slice none 0 0, .slice none 0 0], .bool ok]) ∧ At w' a L
/-- .. two. -/
def PD (F : Nat) (args : Array Value) (W : World) (k : Int) (n1 n2 : Bool) (L M : List Nat) (ok : Bool) : Prop := ∀ V, Upd [] W V → Calls Tryd.prog F args V fun e w' => Upd [] V w' ∧ ∃ a c a2 c2, e = .returned (.tuple #[.agg #[.int .u8 k, .bool n1, .slice a L.length c, .string ⟨#[]⟩, .int .i64 0, .slice none 0 0, .slice none 0 0], .agg #[.int .u8 k, .bool n2, .slice a2 M.length c2, .string ⟨#[]⟩, .int .i64 0, .slice none 0 0, .slice none 0 0], .bool ok]) ∧ At w' a L ∧ At w' a2 M

theorem PT.zero {F : Nat} {args : Array Value} {W : World} (h : ∀ V, Upd [] W V → Calls Tryd.prog F args V fun e w' => e = .returned (.tuple #[(.agg #[.int .u8 0, .bool false, .slice none 0 0, .string ⟨#[]⟩, .int .i64 0, .slice none 0 0, .slice none 0 0]), .bool false]) ∧ Upd [] V w') : PT F args W 0 false [] false := fun V hu => (h V hu).mono fun _ _ ⟨he, hU⟩ => ⟨hU, none, 0, he, At.nil _ _⟩
theorem PD.zero {F : Nat} {args : Array Value} {W : World} (h : ∀ V, Upd [] W V → Calls Tryd.prog F args V fun e w' => e = .returned (.tuple #[(.agg #[.int .u8 0, .bool false, .slice none 0 0, .string ⟨#[]⟩, .int .i64 0, .slice none 0 0, .slice none 0 0]), (.agg #[.int .u8 0, .bool false, .slice none 0 0, .string ⟨#[]⟩, .int .i64 0, .slice none 0 0, .slice none 0 0]), .bool false]) ∧ Upd [] V w') : PD F args W 0 false false [] [] false := fun V hu => (h V hu).mono fun _ _ ⟨he, hU⟩ => ⟨hU, none, 0, none, 0, he, At.nil _ _, At.nil _ _⟩
theorem PT.res {F : Nat} {args : Array Value} {W : World} {z : Int} {L : List Nat} (hz : z.natAbs < 4294967296 ^ 32) (hL : Norm L z.natAbs) (h : ∀ V, Upd [] W V → Calls Tryd.prog F args V fun e w' => Res w' e z ∧ Upd [] V w') : PT F args W 1 (decide (z < 0)) L true := fun V hu => (h V hu).mono fun e w' ⟨hR, hU⟩ => by
  obtain ⟨_, ng, a, c, M, he, hT⟩ := hR.resolve_right (fun k => k.1 hz)
  have e1 := hT.norm.uniq hL
  have e2 := hT.sgn
  subst e1 e2
  exact ⟨hU, a, c, he, hT.mem⟩
theorem PT.none {F : Nat} {args : Array Value} {W : World} {z : Int} (hz : ¬ z.natAbs < 4294967296 ^ 32) (h : ∀ V, Upd [] W V → Calls Tryd.prog F args V fun e w' => Res w' e z ∧ Upd [] V w') : PT F args W 0 false [] false :=
  PT.zero fun V hu => (h V hu).mono fun _ _ ⟨hR, hU⟩ => ⟨(hR.resolve_left (fun k => hz k.1)).2, hU⟩
theorem PD.res {F : Nat} {args : Array Value} {W : World} {z r : Int} {L M : List Nat} (hL : Norm L z.natAbs) (hM : Norm M r.natAbs)
    (h : ∀ V, Upd [] W V → Calls Tryd.prog F args V fun e w' => Upd [] V w' ∧ ∃ nq nr a1 a2 c1 c2 Q R, e = .returned (.tuple #[.agg #[.int .u8 1, .bool nq, .slice a1 Q.length c1, .string ⟨#[]⟩, .int .i64 0, .slice none 0 0, .slice none 0 0], .agg #[.int .u8 1, .bool nr, .slice a2 R.length c2, .string ⟨#[]⟩, .int .i64 0, .slice none 0 0, .slice none 0 0], .bool true]) ∧ TI w' nq a1 Q z ∧ TI w' nr a2 R r) : PD F args W 1 (decide (z < 0)) (decide (r < 0)) L M true := fun V hu => (h V hu).mono fun e w' ⟨hU, nq, nr, a1, a2, c1, c2, Q, R, he, h1, h2⟩ => by
  have e1 := h1.norm.uniq hL
  have e2 := h1.sgn
  have e3 := h2.norm.uniq hM
  have e4 := h2.sgn
  subst e1 e2 e3 e4
  exact ⟨hU, a1, c1, a2, c2, he, h1.mem, h2.mem⟩

end Go.Proofs.YtpeganecbjefoaaDoor
