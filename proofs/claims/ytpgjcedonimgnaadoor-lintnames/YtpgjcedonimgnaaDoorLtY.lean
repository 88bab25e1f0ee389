/- The statements' awake. -/
import Derived.Test.YtpgjcedonimgnaaDoorLtX
namespace Go.Proofs.YtpgjcedonimgnaaDoor
open Go.RowKit

theorem beq_f0 (w : World) : (binOp BinOp.eql 33 (.agg #[.int .i64 0, .int .i64 0]) (.agg #[.int .i64 0, .int .i64 0])).run Tryd.prog w = .ok (.bool true) w := by kernel_rfl
theorem beq_f7 (w : World) : (binOp BinOp.eql 33 (.agg #[.int .i64 212, .int .i64 7]) (.agg #[.int .i64 212, .int .i64 7])).run Tryd.prog w = .ok (.bool true) w := by kernel_rfl

set_option maxHeartbeats 4000000 in
set_option maxRecDepth 100000 in
theorem awake_any (A : Nat → Option Addr) (C : Nat → Nat) (w : World) (hF : Frm A C w) (hO : Ops w) (hB : Blt w) : Calls Tryd.prog 7 #[] w fun e w' => e = .returned (.bool true) ∧ Upd [] w w' := by
  have HF : Hid (Frm A C w ∧ Ops w ∧ Blt w) := ⟨hF, hO, hB⟩
  clear hF hO hB
  have q1 : kindS ⟨#[104, 100]⟩ 1 = 2 := by kernel_rfl
  have q2 : kindS ⟨#[33]⟩ 2 = 3 := by kernel_rfl
  have q3 : kindS ⟨#[104, 100]⟩ 2 = 0 := by kernel_rfl
  have Q : Hid (kindS ⟨#[104, 100]⟩ 1 = 2 ∧ kindS ⟨#[33]⟩ 2 = 3 ∧ kindS ⟨#[104, 100]⟩ 2 = 0) := ⟨q1, q2, q3⟩
  clear q1 q2 q3
  have e0 := beq_f0
  have e7 := beq_f7
  go_enter Tryd.func7, Tryd.ntmps7
  go_wp2_with fail
  refine Calls.mono (lnode_any 3 ⟨#[88]⟩ none 0 0 _) ?_
  rintro e w1 ⟨rfl, U1⟩
  have V1 : Hid (Upd [] w w1) := U1
  clear U1
  go_wp2_with fail
  refine Calls.mono (lone_any 3 0 0 ⟨#[88]⟩ none 0 0 w1 (by decide)) ?_
  rintro e w2 ⟨U2, b1, b2, b3, b4, b5, rfl, M2⟩
  have V2 : Hid (Upd [] w w2) := V1.out.trans U2
  have M2' : Hid (OneM w2 w1.heap.size b1 b2 b3 b4 b5 #[.int .u8 3, .string ⟨#[88]⟩, .int .i64 0, .int .i64 0, .slice none 0 0]) := M2
  have tz : Tb (w2.alloc (.cells #[.int .u8 0, .string ⟨#[]⟩, .int .i64 0, .int .i64 0, .slice none 0 0] 29)) w2.heap.size #[.int .u8 0, .string ⟨#[]⟩, .int .i64 0, .int .i64 0, .slice none 0 0] := Tb.new _ _ _ rfl
  have HUZ : Hid (Upd [] w2 (w2.alloc (.cells #[.int .u8 0, .string ⟨#[]⟩, .int .i64 0, .int .i64 0, .slice none 0 0] 29))) := (Upd.refl [] w2).alloc _
  clear U2 M2 V1
  go_wp2_with (first
    | (refine store_T _ rfl _ _ rfl _ #[.int .u8 22, .string ⟨#[]⟩, .int .i64 0, .int .i64 0, .slice (some ⟨b5, 0, none⟩) 1 1] _ rfl rfl tz rfl rfl (by simp [Value.oneCell']) ?_; intro w3 s3 u3; have U3 : Hid (Upd [] w2 w3) := HUZ.out.then u3 (by simp))
    | fail)
  have V3 : Hid (Upd [] w w3) := V2.out.trans U3.out
  have M3 : Hid (OneM w3 w1.heap.size b1 b2 b3 b4 b5 #[.int .u8 3, .string ⟨#[88]⟩, .int .i64 0, .int .i64 0, .slice none 0 0]) := M2'.out.mono U3.out (by simp)
  have S3 : Hid (Tb w3 w2.heap.size #[.int .u8 22, .string ⟨#[]⟩, .int .i64 0, .int .i64 0, .slice (some ⟨b5, 0, none⟩) 1 1]) := s3
  clear V2 M2' tz HUZ s3 u3 U3
  refine Calls.mono (lnode_any 3 ⟨#[89]⟩ none 0 0 _) ?_
  rintro e w4 ⟨rfl, U4⟩
  have V4 : Hid (Upd [] w w4) := V3.out.trans U4
  have M4 : Hid (OneM w4 w1.heap.size b1 b2 b3 b4 b5 #[.int .u8 3, .string ⟨#[88]⟩, .int .i64 0, .int .i64 0, .slice none 0 0]) := M3.out.mono U4 (by simp)
  have S4 : Hid (Tb w4 w2.heap.size #[.int .u8 22, .string ⟨#[]⟩, .int .i64 0, .int .i64 0, .slice (some ⟨b5, 0, none⟩) 1 1]) := S3.out.mono U4 (by simp)
  clear V3 M3 S3 U4
  have tz : Tb (w4.alloc (.cells #[.int .u8 0, .string ⟨#[]⟩, .int .i64 0, .int .i64 0, .slice none 0 0] 29)) w4.heap.size #[.int .u8 0, .string ⟨#[]⟩, .int .i64 0, .int .i64 0, .slice none 0 0] := Tb.new _ _ _ rfl
  have HUZ : Hid (Upd [] w4 (w4.alloc (.cells #[.int .u8 0, .string ⟨#[]⟩, .int .i64 0, .int .i64 0, .slice none 0 0] 29))) := (Upd.refl [] w4).alloc _
  go_wp2_with (first
    | (refine store_T _ rfl _ _ rfl _ #[.int .u8 3, .string ⟨#[89]⟩, .int .i64 0, .int .i64 0, .slice none 0 0] _ rfl rfl tz rfl rfl (by simp [Value.oneCell']) ?_; intro w5 s5 u5; have U5 : Hid (Upd [] w4 w5) := HUZ.out.then u5 (by simp); have y3 : w5.cell? ⟨w4.heap.size, 3, none⟩ = some (.int .i64 0) := s5.cell 3; have z3 := s5.free 3)
    | (refine load_T _ rfl _ rfl _ _ rfl (s5.set 3 (.int .i64 7)) rfl ?_)
    | fail)
  have s6 : Tb (w5.setCell ⟨w4.heap.size, 3, none⟩ (.int .i64 7)) w4.heap.size #[.int .u8 3, .string ⟨#[89]⟩, .int .i64 0, .int .i64 7, .slice none 0 0] := s5.set 3 (.int .i64 7)
  obtain ⟨w6, hw6⟩ : ∃ w6, w6 = w5.setCell ⟨w4.heap.size, 3, none⟩ (.int .i64 7) := ⟨_, rfl⟩
  have U46 : Upd [] w4 w6 := by rw [hw6]; exact U5.out.setCell (Or.inl (Nat.le_refl _)) _
  rw [← hw6] at s6 ⊢
  have V6 : Hid (Upd [] w w6) := V4.out.trans U46
  have M6 : Hid (OneM w6 w1.heap.size b1 b2 b3 b4 b5 #[.int .u8 3, .string ⟨#[88]⟩, .int .i64 0, .int .i64 0, .slice none 0 0]) := M4.out.mono U46 (by simp)
  have S6 : Hid (Tb w6 w2.heap.size #[.int .u8 22, .string ⟨#[]⟩, .int .i64 0, .int .i64 0, .slice (some ⟨b5, 0, none⟩) 1 1]) := S4.out.mono U46 (by simp)
  clear hw6 U46 s5 u5 y3 z3 s6 V4 M4 S4 tz HUZ U5
  refine Calls.mono (lone_any 3 0 7 ⟨#[89]⟩ none 0 0 w6 (by decide)) ?_
  rintro e w7 ⟨U7, d1, d2, d3, d4, d5, rfl, N7⟩
  have V7 : Hid (Upd [] w w7) := V6.out.trans U7
  have M7 : Hid (OneM w7 w1.heap.size b1 b2 b3 b4 b5 #[.int .u8 3, .string ⟨#[88]⟩, .int .i64 0, .int .i64 0, .slice none 0 0]) := M6.out.mono U7 (by simp)
  have S7 : Hid (Tb w7 w2.heap.size #[.int .u8 22, .string ⟨#[]⟩, .int .i64 0, .int .i64 0, .slice (some ⟨b5, 0, none⟩) 1 1]) := S6.out.mono U7 (by simp)
  have N7' : Hid (OneM w7 w6.heap.size d1 d2 d3 d4 d5 #[.int .u8 3, .string ⟨#[89]⟩, .int .i64 0, .int .i64 7, .slice none 0 0]) := N7
  clear V6 M6 S6 U7 N7
  have tz : Tb (w7.alloc (.cells #[.int .u8 0, .string ⟨#[]⟩, .int .i64 0, .int .i64 0, .slice none 0 0] 29)) w7.heap.size #[.int .u8 0, .string ⟨#[]⟩, .int .i64 0, .int .i64 0, .slice none 0 0] := Tb.new _ _ _ rfl
  have HUZ : Hid (Upd [] w7 (w7.alloc (.cells #[.int .u8 0, .string ⟨#[]⟩, .int .i64 0, .int .i64 0, .slice none 0 0] 29))) := (Upd.refl [] w7).alloc _
  go_wp2_with (first
    | (refine store_T _ rfl _ _ rfl _ #[.int .u8 22, .string ⟨#[]⟩, .int .i64 0, .int .i64 0, .slice (some ⟨d5, 0, none⟩) 1 1] _ rfl rfl tz rfl rfl (by simp [Value.oneCell']) ?_; intro w8 s8 u8; have U8 : Hid (Upd [] w7 w8) := HUZ.out.then u8 (by simp); have S8 := S7.out.mono U8.out (by simp))
    | (refine load_T _ rfl _ rfl _ _ rfl S8 rfl ?_)
    | fail)
  have V8 : Hid (Upd [] w w8) := V7.out.trans U8.out
  have M8 := M7.out.mono U8.out (by simp)
  have N8 : Hid (OneM w8 w6.heap.size d1 d2 d3 d4 d5 #[.int .u8 3, .string ⟨#[89]⟩, .int .i64 0, .int .i64 7, .slice none 0 0]) := N7'.out.mono U8.out (by simp)
  clear V7 M7 S7 N7' tz HUZ u8 U8 S8
  refine Calls.mono (Check_E A C false ⟨#[88]⟩ 0 (Or.inl ⟨rfl, rfl, rfl⟩) w1.heap.size b1 b2 b3 b4 b5 w8 (HF.out.1.mono V8.out) (HF.out.2.1.mono V8.out) (HF.out.2.2.mono V8.out) M8) ?_
  rintro e w9 ⟨he, U9⟩
  have he' : e = .returned (.agg #[.int .i64 0, .int .i64 0]) := he
  subst he'
  have V9 : Hid (Upd [] w w9) := V8.out.trans U9
  have N9 : Hid (OneM w9 w6.heap.size d1 d2 d3 d4 d5 #[.int .u8 3, .string ⟨#[89]⟩, .int .i64 0, .int .i64 7, .slice none 0 0]) := N8.out.mono U9 (by simp)
  have s9 := s8.mono U9 (by simp)
  clear he V8 M8 N8 U9 s8
  go_wp2_with (first | (refine load_G _ _ rfl _ _ rfl s9 rfl rfl ?_) | fail)
  refine Calls.mono (Check_E A C true ⟨#[89]⟩ 7 (Or.inr ⟨rfl, rfl, rfl⟩) w6.heap.size d1 d2 d3 d4 d5 w9 (HF.out.1.mono V9.out) (HF.out.2.1.mono V9.out) (HF.out.2.2.mono V9.out) N9.out) ?_
  rintro e w10 ⟨he, U10⟩
  have he' : e = .returned (.agg #[.int .i64 212, .int .i64 7]) := he
  subst he'
  have V10 : Hid (Upd [] w w10) := V9.out.trans U10
  clear he V9 N9 U10 s9
  go_wp2_with fail
  refine Calls.mono (Kind_any _ _ w10 (HF.out.2.2.mono V10.out)) ?_
  rintro e w11 ⟨rfl, rfl⟩
  rw [Q.out.1]
  go_wp2_with fail
  refine Calls.mono (Kind_any _ _ w11 (HF.out.2.2.mono V10.out)) ?_
  rintro e w12 ⟨rfl, rfl⟩
  rw [Q.out.2.1]
  go_wp2_with fail
  refine Calls.mono (Kind_any _ _ w12 (HF.out.2.2.mono V10.out)) ?_
  rintro e w13 ⟨rfl, rfl⟩
  rw [Q.out.2.2]
  go_wp2_with fail
  go_ret
  exact ⟨rfl, V10.out⟩

end Go.Proofs.YtpgjcedonimgnaaDoor
