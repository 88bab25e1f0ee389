/- lint's expressions, kind by kind: one call. -/
import Derived.Test.YtpgjcedonimgnaaDoorJAQ
namespace Go.Proofs.YtpgjcedonimgnaaDoor
open Go.RowKit

set_option maxHeartbeats 4000000 in
set_option maxRecDepth 100000 in
theorem ex_call (w : World) (num pos : Int) (s : ByteArray) (K : List Nd) (a : Option Addr) (c bc bm b : Nat) (G : Except Flt Fr) (HCALL : Hid (∀ W, Upd [] w W → Calls Tryd.prog 61 #[.pointer (some ⟨bc, 0, none⟩), .agg #[.int .u8 9, .string s, .int .i64 num, .int .i64 pos, .slice a K.length c], .pointer (some ⟨b, 0, none⟩)] W (Ret G bm W))) :
    Calls Tryd.prog 54 #[.pointer (some ⟨bc, 0, none⟩), .agg #[.int .u8 9, .string s, .int .i64 num, .int .i64 pos, .slice a K.length c], .pointer (some ⟨b, 0, none⟩)] w (Ret G bm w) := by
  have U1 : Hid (Upd [] w ((w.alloc (.cells #[.pointer (some ⟨bc, 0, none⟩)] 48)).alloc (.cells #[.int .u8 9, .string s, .int .i64 num, .int .i64 pos, .slice a K.length c] 29))) := ((Upd.refl [] w).alloc _).alloc _
  have tN : Tb ((w.alloc (.cells #[.pointer (some ⟨bc, 0, none⟩)] 48)).alloc (.cells #[.int .u8 9, .string s, .int .i64 num, .int .i64 pos, .slice a K.length c] 29)) (w.heap.size + 1) #[.int .u8 9, .string s, .int .i64 num, .int .i64 pos, .slice a K.length c] := Tb.new _ _ _ (by simp)
  have c3 : ((w.alloc (.cells #[.pointer (some ⟨bc, 0, none⟩)] 48)).alloc (.cells #[.int .u8 9, .string s, .int .i64 num, .int .i64 pos, .slice a K.length c] 29)).cell? ⟨w.heap.size, 0, none⟩ = some (.pointer (some ⟨bc, 0, none⟩)) := cell_of_row _ _ 0 _ _ _ ((Below.heap_alloc _ _ _ (by simp)).trans (heap_alloc_new w _))
  go_enter Tryd.func54, Tryd.ntmps54
  go_wp2_with (first | (refine load_T _ rfl _ rfl _ _ rfl tN rfl ?_) | fail)
  refine Calls.mono (HCALL.out _ U1.out) ?_
  rintro e w1 ⟨hu, hm1⟩
  have HU : Hid (Upd [bm] w w1) := U1.out.into.trans hu
  clear hu tN c3
  cases G with
  | ok g =>
    obtain ⟨⟨u, rfl⟩, hn⟩ := hm1
    have HN : Hid (NmIs w1 bm g) := hn
    clear hn
    go_wp2_with fail
    exact bodyPost_end (results_none rfl _ _ _) rfl (ret_ok rfl HU.out HN.out)
  | error x =>
    have hm3 : e = .panicked [{ v := .iface 33 (.agg #[.int .i64 x.1, .int .i64 x.2]), recovered := false }] := hm1
    subst hm3
    clear hm1
    go_wp2_with fail
    exact ⟨rfl, ret_err rfl HU.out⟩

set_option maxHeartbeats 4000000 in
set_option maxRecDepth 100000 in
theorem ex_receive (w : World) (num pos : Int) (s : ByteArray) (K : List Nd) (a : Option Addr) (c bc bm b : Nat) (G : Except Flt Fr) (HCALL : Hid (∀ W, Upd [] w W → Calls Tryd.prog 63 #[.pointer (some ⟨bc, 0, none⟩), .agg #[.int .u8 14, .string s, .int .i64 num, .int .i64 pos, .slice a K.length c], .pointer (some ⟨b, 0, none⟩)] W (Ret G bm W))) :
    Calls Tryd.prog 54 #[.pointer (some ⟨bc, 0, none⟩), .agg #[.int .u8 14, .string s, .int .i64 num, .int .i64 pos, .slice a K.length c], .pointer (some ⟨b, 0, none⟩)] w (Ret G bm w) := by
  have U1 : Hid (Upd [] w ((w.alloc (.cells #[.pointer (some ⟨bc, 0, none⟩)] 48)).alloc (.cells #[.int .u8 14, .string s, .int .i64 num, .int .i64 pos, .slice a K.length c] 29))) := ((Upd.refl [] w).alloc _).alloc _
  have tN : Tb ((w.alloc (.cells #[.pointer (some ⟨bc, 0, none⟩)] 48)).alloc (.cells #[.int .u8 14, .string s, .int .i64 num, .int .i64 pos, .slice a K.length c] 29)) (w.heap.size + 1) #[.int .u8 14, .string s, .int .i64 num, .int .i64 pos, .slice a K.length c] := Tb.new _ _ _ (by simp)
  have c3 : ((w.alloc (.cells #[.pointer (some ⟨bc, 0, none⟩)] 48)).alloc (.cells #[.int .u8 14, .string s, .int .i64 num, .int .i64 pos, .slice a K.length c] 29)).cell? ⟨w.heap.size, 0, none⟩ = some (.pointer (some ⟨bc, 0, none⟩)) := cell_of_row _ _ 0 _ _ _ ((Below.heap_alloc _ _ _ (by simp)).trans (heap_alloc_new w _))
  go_enter Tryd.func54, Tryd.ntmps54
  go_wp2_with (first | (refine load_T _ rfl _ rfl _ _ rfl tN rfl ?_) | fail)
  refine Calls.mono (HCALL.out _ U1.out) ?_
  rintro e w1 ⟨hu, hm1⟩
  have HU : Hid (Upd [bm] w w1) := U1.out.into.trans hu
  clear hu tN c3
  cases G with
  | ok g =>
    obtain ⟨⟨u, rfl⟩, hn⟩ := hm1
    have HN : Hid (NmIs w1 bm g) := hn
    clear hn
    go_wp2_with fail
    exact bodyPost_end (results_none rfl _ _ _) rfl (ret_ok rfl HU.out HN.out)
  | error x =>
    have hm3 : e = .panicked [{ v := .iface 33 (.agg #[.int .i64 x.1, .int .i64 x.2]), recovered := false }] := hm1
    subst hm3
    clear hm1
    go_wp2_with fail
    exact ⟨rfl, ret_err rfl HU.out⟩

set_option maxHeartbeats 4000000 in
set_option maxRecDepth 100000 in
theorem ex_block (w : World) (num pos : Int) (s : ByteArray) (K : List Nd) (a : Option Addr) (c bc bm b : Nat) (G : Except Flt Fr) (HCALL : Hid (∀ W, Upd [] w W → Calls Tryd.prog 64 #[.pointer (some ⟨bc, 0, none⟩), .agg #[.int .u8 19, .string s, .int .i64 num, .int .i64 pos, .slice a K.length c], .pointer (some ⟨b, 0, none⟩)] W (Ret G bm W))) :
    Calls Tryd.prog 54 #[.pointer (some ⟨bc, 0, none⟩), .agg #[.int .u8 19, .string s, .int .i64 num, .int .i64 pos, .slice a K.length c], .pointer (some ⟨b, 0, none⟩)] w (Ret G bm w) := by
  have U1 : Hid (Upd [] w ((w.alloc (.cells #[.pointer (some ⟨bc, 0, none⟩)] 48)).alloc (.cells #[.int .u8 19, .string s, .int .i64 num, .int .i64 pos, .slice a K.length c] 29))) := ((Upd.refl [] w).alloc _).alloc _
  have tN : Tb ((w.alloc (.cells #[.pointer (some ⟨bc, 0, none⟩)] 48)).alloc (.cells #[.int .u8 19, .string s, .int .i64 num, .int .i64 pos, .slice a K.length c] 29)) (w.heap.size + 1) #[.int .u8 19, .string s, .int .i64 num, .int .i64 pos, .slice a K.length c] := Tb.new _ _ _ (by simp)
  have c3 : ((w.alloc (.cells #[.pointer (some ⟨bc, 0, none⟩)] 48)).alloc (.cells #[.int .u8 19, .string s, .int .i64 num, .int .i64 pos, .slice a K.length c] 29)).cell? ⟨w.heap.size, 0, none⟩ = some (.pointer (some ⟨bc, 0, none⟩)) := cell_of_row _ _ 0 _ _ _ ((Below.heap_alloc _ _ _ (by simp)).trans (heap_alloc_new w _))
  go_enter Tryd.func54, Tryd.ntmps54
  go_wp2_with (first | (refine load_T _ rfl _ rfl _ _ rfl tN rfl ?_) | fail)
  refine Calls.mono (HCALL.out _ U1.out) ?_
  rintro e w1 ⟨hu, hm1⟩
  have HU : Hid (Upd [bm] w w1) := U1.out.into.trans hu
  clear hu tN c3
  cases G with
  | ok g =>
    obtain ⟨⟨u, rfl⟩, hn⟩ := hm1
    have HN : Hid (NmIs w1 bm g) := hn
    clear hn
    go_wp2_with fail
    exact bodyPost_end (results_none rfl _ _ _) rfl (ret_ok rfl HU.out HN.out)
  | error x =>
    have hm3 : e = .panicked [{ v := .iface 33 (.agg #[.int .i64 x.1, .int .i64 x.2]), recovered := false }] := hm1
    subst hm3
    clear hm1
    go_wp2_with fail
    exact ⟨rfl, ret_err rfl HU.out⟩

set_option maxHeartbeats 4000000 in
set_option maxRecDepth 100000 in
theorem ex_if (w : World) (num pos : Int) (s : ByteArray) (K : List Nd) (a : Option Addr) (c bc bm b : Nat) (G : Except Flt Fr) (HCALL : Hid (∀ W, Upd [] w W → Calls Tryd.prog 62 #[.pointer (some ⟨bc, 0, none⟩), .slice a K.length c, .pointer (some ⟨b, 0, none⟩)] W (Ret G bm W))) :
    Calls Tryd.prog 54 #[.pointer (some ⟨bc, 0, none⟩), .agg #[.int .u8 13, .string s, .int .i64 num, .int .i64 pos, .slice a K.length c], .pointer (some ⟨b, 0, none⟩)] w (Ret G bm w) := by
  have U1 : Hid (Upd [] w ((w.alloc (.cells #[.pointer (some ⟨bc, 0, none⟩)] 48)).alloc (.cells #[.int .u8 13, .string s, .int .i64 num, .int .i64 pos, .slice a K.length c] 29))) := ((Upd.refl [] w).alloc _).alloc _
  have tN : Tb ((w.alloc (.cells #[.pointer (some ⟨bc, 0, none⟩)] 48)).alloc (.cells #[.int .u8 13, .string s, .int .i64 num, .int .i64 pos, .slice a K.length c] 29)) (w.heap.size + 1) #[.int .u8 13, .string s, .int .i64 num, .int .i64 pos, .slice a K.length c] := Tb.new _ _ _ (by simp)
  have c3 : ((w.alloc (.cells #[.pointer (some ⟨bc, 0, none⟩)] 48)).alloc (.cells #[.int .u8 13, .string s, .int .i64 num, .int .i64 pos, .slice a K.length c] 29)).cell? ⟨w.heap.size, 0, none⟩ = some (.pointer (some ⟨bc, 0, none⟩)) := cell_of_row _ _ 0 _ _ _ ((Below.heap_alloc _ _ _ (by simp)).trans (heap_alloc_new w _))
  go_enter Tryd.func54, Tryd.ntmps54
  go_wp2_with (first | (refine load_T _ rfl _ rfl _ _ rfl tN rfl ?_) | fail)
  refine Calls.mono (HCALL.out _ U1.out) ?_
  rintro e w1 ⟨hu, hm1⟩
  have HU : Hid (Upd [bm] w w1) := U1.out.into.trans hu
  clear hu tN c3
  cases G with
  | ok g =>
    obtain ⟨⟨u, rfl⟩, hn⟩ := hm1
    have HN : Hid (NmIs w1 bm g) := hn
    clear hn
    go_wp2_with fail
    exact bodyPost_end (results_none rfl _ _ _) rfl (ret_ok rfl HU.out HN.out)
  | error x =>
    have hm3 : e = .panicked [{ v := .iface 33 (.agg #[.int .i64 x.1, .int .i64 x.2]), recovered := false }] := hm1
    subst hm3
    clear hm1
    go_wp2_with fail
    exact ⟨rfl, ret_err rfl HU.out⟩

set_option maxHeartbeats 4000000 in
set_option maxRecDepth 100000 in
theorem ex_rest (w : World) (k : Int) (num pos : Int) (s : ByteArray) (K : List Nd) (a : Option Addr) (c bc bm b : Nat) (G : Except Flt Fr) (h8 : k ≠ 8) (h3 : k ≠ 3) (h9 : k ≠ 9) (h11 : k ≠ 11) (h10 : k ≠ 10) (h12 : k ≠ 12) (h13 : k ≠ 13) (h14 : k ≠ 14) (h16 : k ≠ 16) (h17 : k ≠ 17) (h19 : k ≠ 19) (HCALL : Hid (∀ W, Upd [] w W → Calls Tryd.prog 67 #[.pointer (some ⟨bc, 0, none⟩), .slice a K.length c, .pointer (some ⟨b, 0, none⟩)] W (Ret G bm W))) :
    Calls Tryd.prog 54 #[.pointer (some ⟨bc, 0, none⟩), .agg #[.int .u8 k, .string s, .int .i64 num, .int .i64 pos, .slice a K.length c], .pointer (some ⟨b, 0, none⟩)] w (Ret G bm w) := by
  have U1 : Hid (Upd [] w ((w.alloc (.cells #[.pointer (some ⟨bc, 0, none⟩)] 48)).alloc (.cells #[.int .u8 k, .string s, .int .i64 num, .int .i64 pos, .slice a K.length c] 29))) := ((Upd.refl [] w).alloc _).alloc _
  have tN : Tb ((w.alloc (.cells #[.pointer (some ⟨bc, 0, none⟩)] 48)).alloc (.cells #[.int .u8 k, .string s, .int .i64 num, .int .i64 pos, .slice a K.length c] 29)) (w.heap.size + 1) #[.int .u8 k, .string s, .int .i64 num, .int .i64 pos, .slice a K.length c] := Tb.new _ _ _ (by simp)
  have c3 : ((w.alloc (.cells #[.pointer (some ⟨bc, 0, none⟩)] 48)).alloc (.cells #[.int .u8 k, .string s, .int .i64 num, .int .i64 pos, .slice a K.length c] 29)).cell? ⟨w.heap.size, 0, none⟩ = some (.pointer (some ⟨bc, 0, none⟩)) := cell_of_row _ _ 0 _ _ _ ((Below.heap_alloc _ _ _ (by simp)).trans (heap_alloc_new w _))
  have e8 : (k == 8) = false := by simp [h8]
  have e3 : (k == 3) = false := by simp [h3]
  have e9 : (k == 9) = false := by simp [h9]
  have e11 : (k == 11) = false := by simp [h11]
  have e10 : (k == 10) = false := by simp [h10]
  have e12 : (k == 12) = false := by simp [h12]
  have e13 : (k == 13) = false := by simp [h13]
  have e14 : (k == 14) = false := by simp [h14]
  have e16 : (k == 16) = false := by simp [h16]
  have e17 : (k == 17) = false := by simp [h17]
  have e19 : (k == 19) = false := by simp [h19]
  go_enter Tryd.func54, Tryd.ntmps54
  go_wp2_with (first | (refine load_T _ rfl _ rfl _ _ rfl tN rfl ?_) | fail)
  refine Calls.mono (HCALL.out _ U1.out) ?_
  rintro e w1 ⟨hu, hm1⟩
  have HU : Hid (Upd [bm] w w1) := U1.out.into.trans hu
  clear hu tN c3
  cases G with
  | ok g =>
    obtain ⟨⟨u, rfl⟩, hn⟩ := hm1
    have HN : Hid (NmIs w1 bm g) := hn
    clear hn
    go_wp2_with fail
    exact bodyPost_end (results_none rfl _ _ _) rfl (ret_ok rfl HU.out HN.out)
  | error x =>
    have hm3 : e = .panicked [{ v := .iface 33 (.agg #[.int .i64 x.1, .int .i64 x.2]), recovered := false }] := hm1
    subst hm3
    clear hm1
    go_wp2_with fail
    exact ⟨rfl, ret_err rfl HU.out⟩

set_option maxHeartbeats 4000000 in
set_option maxRecDepth 100000 in
theorem ex_match (w : World) (num pos : Int) (s : ByteArray) (K : List Nd) (a : Option Addr) (c bc bm b : Nat) (G : Except Flt Fr) (HG : Hid (G = .error (216, pos))) :
    Calls Tryd.prog 54 #[.pointer (some ⟨bc, 0, none⟩), .agg #[.int .u8 8, .string s, .int .i64 num, .int .i64 pos, .slice a K.length c], .pointer (some ⟨b, 0, none⟩)] w (Ret G bm w) := by
  have U1 : Hid (Upd [] w ((w.alloc (.cells #[.pointer (some ⟨bc, 0, none⟩)] 48)).alloc (.cells #[.int .u8 8, .string s, .int .i64 num, .int .i64 pos, .slice a K.length c] 29))) := ((Upd.refl [] w).alloc _).alloc _
  have tN : Tb ((w.alloc (.cells #[.pointer (some ⟨bc, 0, none⟩)] 48)).alloc (.cells #[.int .u8 8, .string s, .int .i64 num, .int .i64 pos, .slice a K.length c] 29)) (w.heap.size + 1) #[.int .u8 8, .string s, .int .i64 num, .int .i64 pos, .slice a K.length c] := Tb.new _ _ _ (by simp)
  have c3 : ((w.alloc (.cells #[.pointer (some ⟨bc, 0, none⟩)] 48)).alloc (.cells #[.int .u8 8, .string s, .int .i64 num, .int .i64 pos, .slice a K.length c] 29)).cell? ⟨w.heap.size, 0, none⟩ = some (.pointer (some ⟨bc, 0, none⟩)) := cell_of_row _ _ 0 _ _ _ ((Below.heap_alloc _ _ _ (by simp)).trans (heap_alloc_new w _))
  go_enter Tryd.func54, Tryd.ntmps54
  go_wp2_with (first | (refine load_T _ rfl _ rfl _ _ rfl tN rfl ?_) | fail)
  refine (refuse_yes 216 8 num pos s a K.length c _).mono ?_
  rintro e w1 ⟨rfl, hu⟩
  have HU : Hid (Upd [] w w1) := U1.out.trans hu
  clear hu tN c3
  go_wp2_with fail
  exact ⟨rfl, ret_err HG.out HU.out.into⟩

set_option maxHeartbeats 4000000 in
set_option maxRecDepth 100000 in
theorem ex_var (w : World) (num pos : Int) (s : ByteArray) (K : List Nd) (a : Option Addr) (c bc bm b : Nat) (G : Except Flt Fr) (f : Fr) (o : Option Flt) (HN : Hid (NmIs w bm f)) (HG : Hid (G = (match o with | some e => .error e | none => .ok f))) (HCALL : Hid (∀ W, Upd [] w W → Calls Tryd.prog 47 #[.agg #[.int .u8 3, .string s, .int .i64 num, .int .i64 pos, .slice a K.length c], .pointer (some ⟨b, 0, none⟩)] W (RetO o W))) :
    Calls Tryd.prog 54 #[.pointer (some ⟨bc, 0, none⟩), .agg #[.int .u8 3, .string s, .int .i64 num, .int .i64 pos, .slice a K.length c], .pointer (some ⟨b, 0, none⟩)] w (Ret G bm w) := by
  have U1 : Hid (Upd [] w ((w.alloc (.cells #[.pointer (some ⟨bc, 0, none⟩)] 48)).alloc (.cells #[.int .u8 3, .string s, .int .i64 num, .int .i64 pos, .slice a K.length c] 29))) := ((Upd.refl [] w).alloc _).alloc _
  have tN : Tb ((w.alloc (.cells #[.pointer (some ⟨bc, 0, none⟩)] 48)).alloc (.cells #[.int .u8 3, .string s, .int .i64 num, .int .i64 pos, .slice a K.length c] 29)) (w.heap.size + 1) #[.int .u8 3, .string s, .int .i64 num, .int .i64 pos, .slice a K.length c] := Tb.new _ _ _ (by simp)
  have c3 : ((w.alloc (.cells #[.pointer (some ⟨bc, 0, none⟩)] 48)).alloc (.cells #[.int .u8 3, .string s, .int .i64 num, .int .i64 pos, .slice a K.length c] 29)).cell? ⟨w.heap.size, 0, none⟩ = some (.pointer (some ⟨bc, 0, none⟩)) := cell_of_row _ _ 0 _ _ _ ((Below.heap_alloc _ _ _ (by simp)).trans (heap_alloc_new w _))
  go_enter Tryd.func54, Tryd.ntmps54
  go_wp2_with (first | (refine load_T _ rfl _ rfl _ _ rfl tN rfl ?_) | fail)
  refine Calls.mono (HCALL.out _ U1.out) ?_
  rintro e w1 ⟨hu, hm1⟩
  have HU : Hid (Upd [] w w1) := U1.out.trans hu
  clear hu tN c3
  cases o with
  | none =>
    obtain ⟨u, rfl⟩ := hm1
    have HN1 : Hid (NmIs w1 bm f) := HN.out.mono HU.out (by simp)
    go_wp2_with fail
    exact bodyPost_end (results_none rfl _ _ _) rfl (ret_ok HG.out HU.out.into HN1.out)
  | some x =>
    have hm3 : e = .panicked [{ v := .iface 33 (.agg #[.int .i64 x.1, .int .i64 x.2]), recovered := false }] := hm1
    subst hm3
    clear hm1
    go_wp2_with fail
    exact ⟨rfl, ret_err HG.out HU.out.into⟩

end Go.Proofs.YtpgjcedonimgnaaDoor
