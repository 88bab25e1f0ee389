/- The regions of kit_flatNameds that draw their order. -/
import Derived.Test.YtpojkmpimnnjiaaGreatNbM
import Derived.Deep.QuietTactic
import Derived.BigQuiet
namespace Go.Proofs.YtpojkmpimnnjiaaGreat
open Go.RowKit

/-- A region of a function's text. -/
def regCode (k : Nat) : Code → Option Code
  | .region id ops d => if id = k then some (.region id ops d) else none
  | .seq a b => match regCode k a with
    | some c => some c
    | none => regCode k b
  | .cond _ a b => match regCode k a with
    | some c => some c
    | none => regCode k b
  | .block _ c => regCode k c
  | .loop c => regCode k c
  | .scope c => regCode k c
  | _ => none
noncomputable def regNam24 : Code := (Tryz.f55.body.bind (regCode 24)).getD .skip
noncomputable def regNam41 : Code := (Tryz.f55.body.bind (regCode 41)).getD .skip

set_option maxHeartbeats 4000000 in
set_option maxRecDepth 1000000 in
theorem rNam24a {x1 x2 x3 x4 x6 x7 x8 x11 x12 x13 x14 x15 x16 x17 x18 x19 x20 x21 x22 x23 x24 x25 x26 x27 x28 x29 x30 x31 x32 x33 x34 x35 x36 x37 x38 x39 x40 x41 x42 x43 x44 x45 x46 x47 x48 x49 x50 x51 x52 x53 x54 x55 x56 x57 x58 x59 x60 x61 x62 x63 x64 x65 x66 x67 x68 x69 x70 x71 x72 x73 x74 x75 x76 x77 x78 x79 x80 x81 x82 x83 x84 x85 x86 x87 x88 x89 x90 x91 x92 x93 x94 x95 x96 x97 x98 x99 x100 x101 x102 x103 x104 x105 x106 x107 x108 x109 x110 x111 x112 x113 x114 x115 x116 x117 x118 x119 x120 x121 x122 x123 x124 x125 x126 x127 x128 x129 x130 x131 x132 x133 x134 x135 x136 x137 x138 x139 x140 x141 x142 x143 x144 x145 x146 x147 x148 x149 x150 x151 x152 x153 x154 x155 x156 x157 x158 x159 x160 x161 x162 x163 x164 x165 x166 x167 x168 x169 x170 x171 x172 x173 x174 x175 x176 x177 x178 x179 x180 x181 x182 x183 x184 x185 x186 x187 x188 x189 x190 x191 x192 : Value} {L G m cL c d N1 xc g N2 cg g2 : Nat} {M : Int} {wr : World} {Q : Exit → Act → World → Prop}
    (zL : ∀ e : Ext wr, e.W.cell? ⟨L, c, none⟩ = some (.slice (some ⟨g2, 0, none⟩) N1 xc))
    (zG : ∀ e : Ext wr, e.W.cell? ⟨G, c, none⟩ = some (.slice (some ⟨g, 0, none⟩) N2 cg))
    (z1 : ∀ e : Ext wr, e.W.cell? ⟨g, d * 2, none⟩ = some (.string ⟨#[]⟩))
    (z2 : ∀ e : Ext wr, e.W.cell? ⟨g, d * 2 + 1, none⟩ = some (.int .i64 M))
    (q1 : ∀ e : Ext wr, e.W.cell? ⟨g2, d * 2, none⟩ = some (.string ⟨#[]⟩))
    (q2 : ∀ e : Ext wr, e.W.cell? ⟨g2, d * 2 + 1, none⟩ = some (.int .i64 M))
    (hcall : ∀ W, Calls Tryz.prog 85 #[.int .i64 c, .int .i64 d] W fun e w' => e = .returned (.agg #[.string ⟨#[]⟩, .int .i64 M]) ∧ Upd [] W w')
    (i1 : (c : Int) < (m : Int)) (i2 : (d : Int) < (N2 : Int))
    (i3 : (d : Int) < (N1 : Int)) (_d1 : decide ((d : Int) < (N1 : Int)) = true) (_d2 : decide (d < N1) = true)
    (hQ : ∀ (y88 y89 y90 y91 y92 y93 y94 y95 y96 y97 y98 y99 y100 y101 y102 y103 y104 y105 y106 y107 y108 y109 y110 y111 y112 y113 y114 y115 y116 y117 y118 y119 y120 y121 : Value) (W : World), Upd [] wr W → Q .normal ⟨(.slice (some ⟨L, 0, none⟩) m cL :: x1 :: x2 :: x3 :: x4 :: .slice (some ⟨G, 0, none⟩) m m :: x6 :: x7 :: x8 :: .int .i64 c :: .int .i64 d :: x11 :: x12 :: x13 :: x14 :: x15 :: x16 :: x17 :: x18 :: x19 :: x20 :: x21 :: x22 :: x23 :: x24 :: x25 :: x26 :: x27 :: x28 :: x29 :: x30 :: x31 :: x32 :: x33 :: x34 :: x35 :: x36 :: x37 :: x38 :: x39 :: x40 :: x41 :: x42 :: x43 :: x44 :: x45 :: x46 :: x47 :: x48 :: x49 :: x50 :: x51 :: x52 :: x53 :: x54 :: x55 :: x56 :: x57 :: x58 :: x59 :: x60 :: x61 :: x62 :: x63 :: x64 :: x65 :: x66 :: x67 :: x68 :: x69 :: x70 :: x71 :: x72 :: x73 :: x74 :: x75 :: x76 :: x77 :: x78 :: x79 :: x80 :: x81 :: x82 :: x83 :: x84 :: x85 :: x86 :: x87 :: y88 :: y89 :: y90 :: y91 :: y92 :: y93 :: y94 :: y95 :: y96 :: y97 :: y98 :: y99 :: y100 :: y101 :: y102 :: y103 :: y104 :: y105 :: y106 :: y107 :: y108 :: y109 :: y110 :: y111 :: y112 :: y113 :: y114 :: y115 :: y116 :: y117 :: y118 :: y119 :: y120 :: y121 :: .bool false :: x123 :: x124 :: x125 :: x126 :: x127 :: x128 :: x129 :: x130 :: x131 :: x132 :: x133 :: x134 :: x135 :: x136 :: x137 :: x138 :: x139 :: x140 :: x141 :: x142 :: x143 :: x144 :: x145 :: x146 :: x147 :: x148 :: x149 :: x150 :: x151 :: x152 :: x153 :: x154 :: x155 :: x156 :: x157 :: x158 :: x159 :: x160 :: x161 :: x162 :: x163 :: x164 :: x165 :: x166 :: x167 :: x168 :: x169 :: x170 :: x171 :: x172 :: x173 :: x174 :: x175 :: x176 :: x177 :: x178 :: x179 :: x180 :: x181 :: x182 :: x183 :: x184 :: x185 :: x186 :: x187 :: x188 :: x189 :: x190 :: x191 :: x192 :: []).toArray, []⟩ W) :
    Code.wp Tryz.prog regNam24 Q ⟨(.slice (some ⟨L, 0, none⟩) m cL :: x1 :: x2 :: x3 :: x4 :: .slice (some ⟨G, 0, none⟩) m m :: x6 :: x7 :: x8 :: .int .i64 c :: .int .i64 d :: x11 :: x12 :: x13 :: x14 :: x15 :: x16 :: x17 :: x18 :: x19 :: x20 :: x21 :: x22 :: x23 :: x24 :: x25 :: x26 :: x27 :: x28 :: x29 :: x30 :: x31 :: x32 :: x33 :: x34 :: x35 :: x36 :: x37 :: x38 :: x39 :: x40 :: x41 :: x42 :: x43 :: x44 :: x45 :: x46 :: x47 :: x48 :: x49 :: x50 :: x51 :: x52 :: x53 :: x54 :: x55 :: x56 :: x57 :: x58 :: x59 :: x60 :: x61 :: x62 :: x63 :: x64 :: x65 :: x66 :: x67 :: x68 :: x69 :: x70 :: x71 :: x72 :: x73 :: x74 :: x75 :: x76 :: x77 :: x78 :: x79 :: x80 :: x81 :: x82 :: x83 :: x84 :: x85 :: x86 :: x87 :: x88 :: x89 :: x90 :: x91 :: x92 :: x93 :: x94 :: x95 :: x96 :: x97 :: x98 :: x99 :: x100 :: x101 :: x102 :: x103 :: x104 :: x105 :: x106 :: x107 :: x108 :: x109 :: x110 :: x111 :: x112 :: x113 :: x114 :: x115 :: x116 :: x117 :: x118 :: x119 :: x120 :: x121 :: x122 :: x123 :: x124 :: x125 :: x126 :: x127 :: x128 :: x129 :: x130 :: x131 :: x132 :: x133 :: x134 :: x135 :: x136 :: x137 :: x138 :: x139 :: x140 :: x141 :: x142 :: x143 :: x144 :: x145 :: x146 :: x147 :: x148 :: x149 :: x150 :: x151 :: x152 :: x153 :: x154 :: x155 :: x156 :: x157 :: x158 :: x159 :: x160 :: x161 :: x162 :: x163 :: x164 :: x165 :: x166 :: x167 :: x168 :: x169 :: x170 :: x171 :: x172 :: x173 :: x174 :: x175 :: x176 :: x177 :: x178 :: x179 :: x180 :: x181 :: x182 :: x183 :: x184 :: x185 :: x186 :: x187 :: x188 :: x189 :: x190 :: x191 :: x192 :: []).toArray, []⟩ wr := by
  have HC : Hid (∀ W, Calls Tryz.prog 85 #[.int .i64 c, .int .i64 d] W fun e w' => e = .returned (.agg #[.string ⟨#[]⟩, .int .i64 M]) ∧ Upd [] W w') := hcall
  clear hcall
  conv => arg 2; whnf
  have hne : Nonempty (Ext wr) := ⟨⟨wr, Upd.refl [] wr⟩⟩
  refine wp_region_ext (by kernel_rfl) (by kernel_rfl) ?_
  repeat (go_big_quiet_step ((go_at_call 85; exact Ext.call (HC.out _))))
  refine wpQuiet_nil ?_
  intro _ hw'
  obtain ⟨nx, hw''⟩ := hw'
  subst hw''
  exact hQ _ _ _ _ _ _ _ _ _ _ _ _ _ _ _ _ _ _ _ _ _ _ _ _ _ _ _ _ _ _ _ _ _ _ _ nx.h

set_option maxHeartbeats 4000000 in
set_option maxRecDepth 1000000 in
theorem rNam24b {x1 x2 x3 x4 x6 x7 x8 x11 x12 x13 x14 x15 x16 x17 x18 x19 x20 x21 x22 x23 x24 x25 x26 x27 x28 x29 x30 x31 x32 x33 x34 x35 x36 x37 x38 x39 x40 x41 x42 x43 x44 x45 x46 x47 x48 x49 x50 x51 x52 x53 x54 x55 x56 x57 x58 x59 x60 x61 x62 x63 x64 x65 x66 x67 x68 x69 x70 x71 x72 x73 x74 x75 x76 x77 x78 x79 x80 x81 x82 x83 x84 x85 x86 x87 x88 x89 x90 x91 x92 x93 x94 x95 x96 x97 x98 x99 x100 x101 x102 x103 x104 x105 x106 x107 x108 x109 x110 x111 x112 x113 x114 x115 x116 x117 x118 x119 x120 x121 x122 x123 x124 x125 x126 x127 x128 x129 x130 x131 x132 x133 x134 x135 x136 x137 x138 x139 x140 x141 x142 x143 x144 x145 x146 x147 x148 x149 x150 x151 x152 x153 x154 x155 x156 x157 x158 x159 x160 x161 x162 x163 x164 x165 x166 x167 x168 x169 x170 x171 x172 x173 x174 x175 x176 x177 x178 x179 x180 x181 x182 x183 x184 x185 x186 x187 x188 x189 x190 x191 x192 : Value} {L G m cL c d N1 xc g N2 cg  : Nat} {M : Int} {xa : Option Addr} {wr : World} {Q : Exit → Act → World → Prop}
    (zL : ∀ e : Ext wr, e.W.cell? ⟨L, c, none⟩ = some (.slice xa N1 xc))
    (zG : ∀ e : Ext wr, e.W.cell? ⟨G, c, none⟩ = some (.slice (some ⟨g, 0, none⟩) N2 cg))
    (z1 : ∀ e : Ext wr, e.W.cell? ⟨g, d * 2, none⟩ = some (.string ⟨#[]⟩))
    (z2 : ∀ e : Ext wr, e.W.cell? ⟨g, d * 2 + 1, none⟩ = some (.int .i64 M))
    (hcall : ∀ W, Calls Tryz.prog 85 #[.int .i64 c, .int .i64 d] W fun e w' => e = .returned (.agg #[.string ⟨#[]⟩, .int .i64 M]) ∧ Upd [] W w')
    (i1 : (c : Int) < (m : Int)) (i2 : (d : Int) < (N2 : Int))
    (_d1 : decide ((d : Int) < (N1 : Int)) = false) (_d2 : decide (d < N1) = false)
    (hQ : ∀ (y88 y89 y90 y91 y92 y93 y94 y95 y96 y97 y98 y99 y100 y101 y102 y103 y104 y105 y106 y107 y108 y109 y110 y111 y112 y113 y114 y115 y116 y117 y118 y119 y120 y121 : Value) (W : World), Upd [] wr W → Q .normal ⟨(.slice (some ⟨L, 0, none⟩) m cL :: x1 :: x2 :: x3 :: x4 :: .slice (some ⟨G, 0, none⟩) m m :: x6 :: x7 :: x8 :: .int .i64 c :: .int .i64 d :: x11 :: x12 :: x13 :: x14 :: x15 :: x16 :: x17 :: x18 :: x19 :: x20 :: x21 :: x22 :: x23 :: x24 :: x25 :: x26 :: x27 :: x28 :: x29 :: x30 :: x31 :: x32 :: x33 :: x34 :: x35 :: x36 :: x37 :: x38 :: x39 :: x40 :: x41 :: x42 :: x43 :: x44 :: x45 :: x46 :: x47 :: x48 :: x49 :: x50 :: x51 :: x52 :: x53 :: x54 :: x55 :: x56 :: x57 :: x58 :: x59 :: x60 :: x61 :: x62 :: x63 :: x64 :: x65 :: x66 :: x67 :: x68 :: x69 :: x70 :: x71 :: x72 :: x73 :: x74 :: x75 :: x76 :: x77 :: x78 :: x79 :: x80 :: x81 :: x82 :: x83 :: x84 :: x85 :: x86 :: x87 :: y88 :: y89 :: y90 :: y91 :: y92 :: y93 :: y94 :: y95 :: y96 :: y97 :: y98 :: y99 :: y100 :: y101 :: y102 :: y103 :: y104 :: y105 :: y106 :: y107 :: y108 :: y109 :: y110 :: y111 :: y112 :: y113 :: y114 :: y115 :: y116 :: y117 :: y118 :: y119 :: y120 :: y121 :: .bool false :: x123 :: x124 :: x125 :: x126 :: x127 :: x128 :: x129 :: x130 :: x131 :: x132 :: x133 :: x134 :: x135 :: x136 :: x137 :: x138 :: x139 :: x140 :: x141 :: x142 :: x143 :: x144 :: x145 :: x146 :: x147 :: x148 :: x149 :: x150 :: x151 :: x152 :: x153 :: x154 :: x155 :: x156 :: x157 :: x158 :: x159 :: x160 :: x161 :: x162 :: x163 :: x164 :: x165 :: x166 :: x167 :: x168 :: x169 :: x170 :: x171 :: x172 :: x173 :: x174 :: x175 :: x176 :: x177 :: x178 :: x179 :: x180 :: x181 :: x182 :: x183 :: x184 :: x185 :: x186 :: x187 :: x188 :: x189 :: x190 :: x191 :: x192 :: []).toArray, []⟩ W) :
    Code.wp Tryz.prog regNam24 Q ⟨(.slice (some ⟨L, 0, none⟩) m cL :: x1 :: x2 :: x3 :: x4 :: .slice (some ⟨G, 0, none⟩) m m :: x6 :: x7 :: x8 :: .int .i64 c :: .int .i64 d :: x11 :: x12 :: x13 :: x14 :: x15 :: x16 :: x17 :: x18 :: x19 :: x20 :: x21 :: x22 :: x23 :: x24 :: x25 :: x26 :: x27 :: x28 :: x29 :: x30 :: x31 :: x32 :: x33 :: x34 :: x35 :: x36 :: x37 :: x38 :: x39 :: x40 :: x41 :: x42 :: x43 :: x44 :: x45 :: x46 :: x47 :: x48 :: x49 :: x50 :: x51 :: x52 :: x53 :: x54 :: x55 :: x56 :: x57 :: x58 :: x59 :: x60 :: x61 :: x62 :: x63 :: x64 :: x65 :: x66 :: x67 :: x68 :: x69 :: x70 :: x71 :: x72 :: x73 :: x74 :: x75 :: x76 :: x77 :: x78 :: x79 :: x80 :: x81 :: x82 :: x83 :: x84 :: x85 :: x86 :: x87 :: x88 :: x89 :: x90 :: x91 :: x92 :: x93 :: x94 :: x95 :: x96 :: x97 :: x98 :: x99 :: x100 :: x101 :: x102 :: x103 :: x104 :: x105 :: x106 :: x107 :: x108 :: x109 :: x110 :: x111 :: x112 :: x113 :: x114 :: x115 :: x116 :: x117 :: x118 :: x119 :: x120 :: x121 :: x122 :: x123 :: x124 :: x125 :: x126 :: x127 :: x128 :: x129 :: x130 :: x131 :: x132 :: x133 :: x134 :: x135 :: x136 :: x137 :: x138 :: x139 :: x140 :: x141 :: x142 :: x143 :: x144 :: x145 :: x146 :: x147 :: x148 :: x149 :: x150 :: x151 :: x152 :: x153 :: x154 :: x155 :: x156 :: x157 :: x158 :: x159 :: x160 :: x161 :: x162 :: x163 :: x164 :: x165 :: x166 :: x167 :: x168 :: x169 :: x170 :: x171 :: x172 :: x173 :: x174 :: x175 :: x176 :: x177 :: x178 :: x179 :: x180 :: x181 :: x182 :: x183 :: x184 :: x185 :: x186 :: x187 :: x188 :: x189 :: x190 :: x191 :: x192 :: []).toArray, []⟩ wr := by
  have HC : Hid (∀ W, Calls Tryz.prog 85 #[.int .i64 c, .int .i64 d] W fun e w' => e = .returned (.agg #[.string ⟨#[]⟩, .int .i64 M]) ∧ Upd [] W w') := hcall
  clear hcall
  conv => arg 2; whnf
  have hne : Nonempty (Ext wr) := ⟨⟨wr, Upd.refl [] wr⟩⟩
  refine wp_region_ext (by kernel_rfl) (by kernel_rfl) ?_
  repeat (go_big_quiet_step ((go_at_call 85; exact Ext.call (HC.out _))))
  refine wpQuiet_nil ?_
  intro _ hw'
  obtain ⟨nx, hw''⟩ := hw'
  subst hw''
  exact hQ _ _ _ _ _ _ _ _ _ _ _ _ _ _ _ _ _ _ _ _ _ _ _ _ _ _ _ _ _ _ _ _ _ _ _ nx.h

set_option maxHeartbeats 4000000 in
set_option maxRecDepth 1000000 in
theorem rNam41 {x1 x2 x3 x4 x6 x7 x8 x9 x10 x11 x12 x13 x16 x17 x18 x19 x20 x21 x22 x23 x24 x25 x26 x27 x28 x29 x30 x31 x32 x33 x34 x35 x36 x37 x38 x39 x40 x41 x42 x43 x44 x45 x46 x47 x48 x49 x50 x51 x52 x53 x54 x55 x56 x57 x58 x59 x60 x61 x62 x63 x64 x65 x66 x67 x68 x69 x70 x71 x72 x73 x74 x75 x76 x77 x78 x79 x80 x81 x82 x83 x84 x85 x86 x87 x88 x89 x90 x91 x92 x93 x94 x95 x96 x97 x98 x99 x100 x101 x102 x103 x104 x105 x106 x107 x108 x109 x110 x111 x112 x113 x114 x115 x116 x117 x118 x119 x120 x121 x122 x123 x124 x125 x126 x127 x128 x129 x130 x131 x132 x133 x134 x135 x136 x137 x138 x139 x140 x141 x142 x143 x144 x145 x146 x147 x148 x149 x150 x151 x152 x153 x154 x155 x156 x157 x158 x159 x160 x161 x162 x163 x164 x165 x166 x167 x168 x169 x170 x171 x172 x173 x174 x175 x176 x177 x178 x179 x180 x181 x182 x183 x184 x185 x186 x187 x188 x189 x190 x191 x192 : Value} {L G m cL c d N1 xc g N2 cg g2 : Nat} {M : Int} {wr : World} {Q : Exit → Act → World → Prop}
    (zL : ∀ e : Ext wr, e.W.cell? ⟨L, c, none⟩ = some (.slice (some ⟨g2, 0, none⟩) N1 xc))
    (zG : ∀ e : Ext wr, e.W.cell? ⟨G, c, none⟩ = some (.slice (some ⟨g, 0, none⟩) N2 cg))
    (z1 : ∀ e : Ext wr, e.W.cell? ⟨g, d * 2, none⟩ = some (.string ⟨#[]⟩))
    (z2 : ∀ e : Ext wr, e.W.cell? ⟨g, d * 2 + 1, none⟩ = some (.int .i64 M))
    (q1 : ∀ e : Ext wr, e.W.cell? ⟨g2, d * 2, none⟩ = some (.string ⟨#[]⟩))
    (q2 : ∀ e : Ext wr, e.W.cell? ⟨g2, d * 2 + 1, none⟩ = some (.int .i64 M))
    (hcall : ∀ W, Calls Tryz.prog 85 #[.int .i64 c, .int .i64 d] W fun e w' => e = .returned (.agg #[.string ⟨#[]⟩, .int .i64 M]) ∧ Upd [] W w')
    (i1 : (c : Int) < (m : Int)) (i2 : (d : Int) < (N2 : Int))
    (i3 : (d : Int) < (N1 : Int)) (_d1 : decide ((d : Int) < (N1 : Int)) = true) (_d2 : decide (d < N1) = true)
    (hQ : ∀ (y167 y168 y169 y170 y171 y172 y173 y174 y175 y176 y177 y178 y179 y180 y181 y182 y183 y184 y185 y186 y187 y188 y189 y190 y191 : Value) (W : World), Upd [] wr W → Q .normal ⟨(.slice (some ⟨L, 0, none⟩) m cL :: x1 :: x2 :: x3 :: x4 :: .slice (some ⟨G, 0, none⟩) m m :: x6 :: x7 :: x8 :: x9 :: x10 :: x11 :: x12 :: x13 :: .int .i64 c :: .int .i64 d :: x16 :: x17 :: x18 :: x19 :: x20 :: x21 :: x22 :: x23 :: x24 :: x25 :: x26 :: x27 :: x28 :: x29 :: x30 :: x31 :: x32 :: x33 :: x34 :: x35 :: x36 :: x37 :: x38 :: x39 :: x40 :: x41 :: x42 :: x43 :: x44 :: x45 :: x46 :: x47 :: x48 :: x49 :: x50 :: x51 :: x52 :: x53 :: x54 :: x55 :: x56 :: x57 :: x58 :: x59 :: x60 :: x61 :: x62 :: x63 :: x64 :: x65 :: x66 :: x67 :: x68 :: x69 :: x70 :: x71 :: x72 :: x73 :: x74 :: x75 :: x76 :: x77 :: x78 :: x79 :: x80 :: x81 :: x82 :: x83 :: x84 :: x85 :: x86 :: x87 :: x88 :: x89 :: x90 :: x91 :: x92 :: x93 :: x94 :: x95 :: x96 :: x97 :: x98 :: x99 :: x100 :: x101 :: x102 :: x103 :: x104 :: x105 :: x106 :: x107 :: x108 :: x109 :: x110 :: x111 :: x112 :: x113 :: x114 :: x115 :: x116 :: x117 :: x118 :: x119 :: x120 :: x121 :: x122 :: x123 :: x124 :: x125 :: x126 :: x127 :: x128 :: x129 :: x130 :: x131 :: x132 :: x133 :: x134 :: x135 :: x136 :: x137 :: x138 :: x139 :: x140 :: x141 :: x142 :: x143 :: x144 :: x145 :: x146 :: x147 :: x148 :: x149 :: x150 :: x151 :: x152 :: x153 :: x154 :: x155 :: x156 :: x157 :: x158 :: x159 :: x160 :: x161 :: x162 :: x163 :: x164 :: x165 :: x166 :: y167 :: y168 :: y169 :: y170 :: y171 :: y172 :: y173 :: y174 :: y175 :: y176 :: y177 :: y178 :: y179 :: y180 :: y181 :: y182 :: y183 :: y184 :: y185 :: y186 :: y187 :: y188 :: y189 :: y190 :: y191 :: .bool false :: []).toArray, []⟩ W) :
    Code.wp Tryz.prog regNam41 Q ⟨(.slice (some ⟨L, 0, none⟩) m cL :: x1 :: x2 :: x3 :: x4 :: .slice (some ⟨G, 0, none⟩) m m :: x6 :: x7 :: x8 :: x9 :: x10 :: x11 :: x12 :: x13 :: .int .i64 c :: .int .i64 d :: x16 :: x17 :: x18 :: x19 :: x20 :: x21 :: x22 :: x23 :: x24 :: x25 :: x26 :: x27 :: x28 :: x29 :: x30 :: x31 :: x32 :: x33 :: x34 :: x35 :: x36 :: x37 :: x38 :: x39 :: x40 :: x41 :: x42 :: x43 :: x44 :: x45 :: x46 :: x47 :: x48 :: x49 :: x50 :: x51 :: x52 :: x53 :: x54 :: x55 :: x56 :: x57 :: x58 :: x59 :: x60 :: x61 :: x62 :: x63 :: x64 :: x65 :: x66 :: x67 :: x68 :: x69 :: x70 :: x71 :: x72 :: x73 :: x74 :: x75 :: x76 :: x77 :: x78 :: x79 :: x80 :: x81 :: x82 :: x83 :: x84 :: x85 :: x86 :: x87 :: x88 :: x89 :: x90 :: x91 :: x92 :: x93 :: x94 :: x95 :: x96 :: x97 :: x98 :: x99 :: x100 :: x101 :: x102 :: x103 :: x104 :: x105 :: x106 :: x107 :: x108 :: x109 :: x110 :: x111 :: x112 :: x113 :: x114 :: x115 :: x116 :: x117 :: x118 :: x119 :: x120 :: x121 :: x122 :: x123 :: x124 :: x125 :: x126 :: x127 :: x128 :: x129 :: x130 :: x131 :: x132 :: x133 :: x134 :: x135 :: x136 :: x137 :: x138 :: x139 :: x140 :: x141 :: x142 :: x143 :: x144 :: x145 :: x146 :: x147 :: x148 :: x149 :: x150 :: x151 :: x152 :: x153 :: x154 :: x155 :: x156 :: x157 :: x158 :: x159 :: x160 :: x161 :: x162 :: x163 :: x164 :: x165 :: x166 :: x167 :: x168 :: x169 :: x170 :: x171 :: x172 :: x173 :: x174 :: x175 :: x176 :: x177 :: x178 :: x179 :: x180 :: x181 :: x182 :: x183 :: x184 :: x185 :: x186 :: x187 :: x188 :: x189 :: x190 :: x191 :: x192 :: []).toArray, []⟩ wr := by
  have HC : Hid (∀ W, Calls Tryz.prog 85 #[.int .i64 c, .int .i64 d] W fun e w' => e = .returned (.agg #[.string ⟨#[]⟩, .int .i64 M]) ∧ Upd [] W w') := hcall
  clear hcall
  conv => arg 2; whnf
  have hne : Nonempty (Ext wr) := ⟨⟨wr, Upd.refl [] wr⟩⟩
  refine wp_region_ext (by kernel_rfl) (by kernel_rfl) ?_
  repeat (go_big_quiet_step ((go_at_call 85; exact Ext.call (HC.out _))))
  refine wpQuiet_nil ?_
  intro _ hw'
  obtain ⟨nx, hw''⟩ := hw'
  subst hw''
  exact hQ _ _ _ _ _ _ _ _ _ _ _ _ _ _ _ _ _ _ _ _ _ _ _ _ _ _ nx.h

end Go.Proofs.YtpojkmpimnnjiaaGreat
