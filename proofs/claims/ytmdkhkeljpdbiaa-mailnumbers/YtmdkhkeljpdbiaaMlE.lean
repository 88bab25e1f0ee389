/- copied of a term without rows. -/
import Derived.Test.YtmdkhkeljpdbiaaMlD
namespace Go.Proofs.Ytmdkhkeljpdbiaa
open Go.RowKit

theorem fl_one (k : Int) (b : Bool) (s : ByteArray) (n : Int) : (fl k b s n).all (·.oneCell') = true := by simp [fl, Value.oneCell']
theorem alloc_at_new {w : World} {o : Obj} {k : Nat} (h : k = w.heap.size) : (w.alloc o).heap[k]? = some o := by subst h; exact heap_alloc_new w o
theorem alloc_at_old {w : World} {o o' : Obj} {k : Nat} (h : k < w.heap.size) (hw : w.heap[k]? = some o') : (w.alloc o).heap[k]? = some o' := (Below.heap_alloc w o k h).trans hw

set_option maxHeartbeats 1000000 in
set_option maxRecDepth 100000 in
theorem copied_fl (w : World) (ap k n : Int) (b : Bool) (s : ByteArray) :
    Calls Try.prog 25 #[.agg (fl k b s n), .int .i64 ap] w fun e w' => e = .returned (.agg (fl k b s n)) ∧ Upd [] w w' := by
  go_enter Try.func25, Try.ntmps25
  go_wp2
  refine wp_loop_rounds 2 ?_
  rw [rounds_succ]
  go_wp2_with fail
  generalize hwc : World.alloc _ _ = wc
  have u0 : Upd [] w wc := by rw [← hwc]; repeat (first | exact Upd.refl _ _ | refine Upd.alloc ?_ _)
  have t1 : Tb wc (w.heap.size + 1) #[.int .u8 0, .bool false, .slice none 0 0, .string ⟨#[]⟩, .int .i64 0, .slice none 0 0, .slice none 0 0] := by rw [← hwc]; unfold Tb; repeat (first | (with_reducible exact alloc_at_new (by simp; done)) | (with_reducible refine alloc_at_old (by simp only [World.size_alloc]; omega) ?_))
  have t8 : Tb wc (w.heap.size + 1 + 1 + 1 + 1 + 1 + 1 + 1 + 1) (fl k b s n) := by rw [← hwc]; unfold Tb; repeat (first | (with_reducible exact alloc_at_new (by simp; done)) | (with_reducible refine alloc_at_old (by simp only [World.size_alloc]; omega) ?_))
  have f6 : FunB wc (w.heap.size + 1 + 1 + 1 + 1 + 1 + 1) (.func (.func 35) #[] #[.pointer (some ⟨w.heap.size + 1 + 1, 0, none⟩), .pointer (some ⟨w.heap.size + 1 + 1 + 1, 0, none⟩)]) 61 := by rw [← hwc]; unfold FunB; repeat (first | (with_reducible exact alloc_at_new (by simp; done)) | (with_reducible refine alloc_at_old (by simp only [World.size_alloc]; omega) ?_))
  have f7 : FunB wc (w.heap.size + 1 + 1 + 1 + 1 + 1 + 1 + 1) (.func (.func 37) #[] #[.pointer (some ⟨w.heap.size + 1 + 1 + 1 + 1, 0, none⟩), .pointer (some ⟨w.heap.size + 1 + 1 + 1 + 1 + 1, 0, none⟩)]) 63 := by rw [← hwc]; unfold FunB; repeat (first | (with_reducible exact alloc_at_new (by simp; done)) | (with_reducible refine alloc_at_old (by simp only [World.size_alloc]; omega) ?_))
  have f10 : FunB wc (w.heap.size + 1 + 1 + 1 + 1 + 1 + 1 + 1 + 1 + 1 + 1) (.slice (some ⟨w.heap.size + 1 + 1 + 1 + 1 + 1 + 1 + 1 + 1 + 1, 0, none⟩) 0 1) 66 := by rw [← hwc]; unfold FunB; repeat (first | (with_reducible exact alloc_at_new (by simp; done)) | (with_reducible refine alloc_at_old (by simp only [World.size_alloc]; omega) ?_))
  clear hwc
  refine Calls.mono (renew_fl wc _ 1 _ _ _ _ 0 k n b s _ _ _ _ t8 f7 f6) ?_
  rintro e w2 ⟨rfl, ht, hu⟩
  have t1' : Tb w2 (w.heap.size + 1) #[.int .u8 0, .bool false, .slice none 0 0, .string ⟨#[]⟩, .int .i64 0, .slice none 0 0, .slice none 0 0] := t1.mono hu (by simp only [List.mem_singleton]; omega)
  have f10' : FunB w2 (w.heap.size + 1 + 1 + 1 + 1 + 1 + 1 + 1 + 1 + 1 + 1) (.slice (some ⟨w.heap.size + 1 + 1 + 1 + 1 + 1 + 1 + 1 + 1 + 1, 0, none⟩) 0 1) 66 := f10.mono hu (by simp only [List.mem_singleton]; omega)
  have e0 := f10'.cell
  have HU : Hid (Upd [] w w2) := u0.then hu (fun x hx => Or.inl (by simp only [List.mem_singleton] at hx; omega))
  have HT : Hid (Tb w2 (w.heap.size + 1 + 1 + 1 + 1 + 1 + 1 + 1 + 1) (fl k b s n) ∧ Tb w2 (w.heap.size + 1) #[.int .u8 0, .bool false, .slice none 0 0, .string ⟨#[]⟩, .int .i64 0, .slice none 0 0, .slice none 0 0]) := ⟨ht, t1'⟩
  clear u0 t1 t8 f6 f7 f10 hu ht t1' f10'
  go_wp2_with fail
  rw [rounds_succ]
  go_wp2_with (first
    | (refine load_T _ rfl _ rfl _ _ rfl HT.out.1 rfl ?_)
    | (refine store_T _ rfl _ _ rfl _ _ _ rfl rfl HT.out.2 rfl rfl (fl_one k b s n) ?_; intro w3 hT3 hU3)
    | fail)
  exact ret_T rfl rfl _ _ rfl hT3 rfl ⟨rfl, HU.out.then hU3 (fun x hx => Or.inl (by simp only [List.mem_singleton] at hx; omega))⟩

end Go.Proofs.Ytmdkhkeljpdbiaa
