/- The contract of the closure that divides. -/
import Derived.Test.YtpeganecbjefoaaDoorLeaf
namespace Go.Proofs.YtpeganecbjefoaaDoor
open Go.RowKit

theorem quo_wrap (V d : Nat) (hq : V / d < 4294967296) : IntKind.u64.wrap ((V : Int) / (d : Int)) % 4294967296 = ((V / d : Nat) : Int) := by
  have e : (V : Int) / (d : Int) = ((V / d : Nat) : Int) := by simp
  rw [e]
  generalize V / d = q at *
  simp only [IntKind.wrap_u64]
  omega

set_option maxHeartbeats 400000 in
theorem dividing1_core (x c d V bk bb : Nat) (w : World) (hd0 : 0 < d) (hd : d < 4294967296) (hx : x < 4294967296) (hc : c < 4294967296)
    (hk : w.cell? ⟨bk, 0, none⟩ = some (.int .u64 (c : Nat))) (hkf : w.frozen? ⟨bk, 0, none⟩ = false) (_hbb : w.cell? ⟨bb, 0, none⟩ = some (.int .u32 (d : Nat)))
    (hoth : ∀ v, (w.setCell ⟨bk, 0, none⟩ v).cell? ⟨bb, 0, none⟩ = some (.int .u32 (d : Nat))) (hr : V % d < d)
    (hor : bits BinOp.or IntKind.u64 ((c : Int) * 4294967296) (x : Int) = (V : Nat)) :
    Calls Tryd.prog 90 #[.int .u32 (x : Nat), .pointer (some ⟨bk, 0, none⟩), .pointer (some ⟨bb, 0, none⟩)] w fun e w' =>
      e = .returned (.tuple #[.int .u32 (IntKind.u64.wrap ((V : Int) / (d : Int)) % 4294967296), .int .u32 ((V % d : Nat))]) ∧ w' = (w.setCell ⟨bk, 0, none⟩ (.int .u64 ((V % d : Nat)))).drew := by
  go_enter Tryd.func90, Tryd.ntmps90
  go_wp2
  go_region
  all_goals go_wp2
  all_goals go_ret2
  all_goals rw [setCell_twice]
  all_goals exact ⟨by simp, by simp⟩

/-- dividing's closure: the digit, and what is left over. -/
theorem dividing1_any (x c d bk bb : Nat) (w : World) (hx : x < 4294967296) (hd : d < 4294967296) (hcc : c < d) (Hk : One w bk .u64 52 c) (Hb : One w bb .u32 53 d) (hne : bk ≠ bb) :
    Calls Tryd.prog 90 #[.int .u32 (x : Nat), .pointer (some ⟨bk, 0, none⟩), .pointer (some ⟨bb, 0, none⟩)] w fun e w' =>
      e = .returned (.tuple #[.int .u32 (((c * 4294967296 + x) / d : Nat)), .int .u32 (((c * 4294967296 + x) % d : Nat))]) ∧ One w' bk .u64 52 ((c * 4294967296 + x) % d) ∧ Upd [bk] w w' := by
  refine (dividing1_core x c d (c * 4294967296 + x) bk bb w (by omega) hd hx (by omega) Hk.cell Hk.free Hb.cell
    (fun v => (World.cell?_setCell_other _ _ _ _ (by simp)).trans Hb.cell) (Nat.mod_lt _ (by omega)) (or_shift c x (by omega) hx)).mono ?_
  rintro e w' ⟨rfl, rfl⟩
  rw [quo_wrap _ _ (quo_lt x c d hx hcc)]
  exact ⟨rfl, One.set Hk _, ((Upd.refl _ _).setCell (Or.inr (by simp)) _).drew⟩

end Go.Proofs.YtpeganecbjefoaaDoor
