/- The regions of kit_flatLimbs that draw their order. -/
import Derived.Test.YtalhbbabijlngaaGreatDoorJBC
import Derived.Deep.QuietTactic
import Derived.BigQuiet
import Derived.Deep.AppendLies
namespace Go.Proofs.YtalhbbabijlngaaGreatDoor
open Go.RowKit
noncomputable def regLim24 : Code := (Tryz.f92.body.bind (regCode 24)).getD .skip
noncomputable def regLim41 : Code := (Tryz.f92.body.bind (regCode 41)).getD .skip
set_option maxHeartbeats 4000000 in
set_option maxRecDepth 1000000 in
theorem rLim24a {x1 x2 x3 x4 x6 x7 x8 x11 x12 x13 x14 x15 x16 x17 x18 x19 x20 x21 x22 x23 x24 x25 x26 x27 x28 x29 x30 x31 x32 x33 x34 x35 x36 x37 x38 x39 x40 x41 x42 x43 x44 x45 x46 x47 x48 x49 x50 x51 x52 x53 x54 x55 x56 x57 x58 x59 x60 x61 x62 x63 x64 x65 x66 x67 x68 x69 x70 x71 x72 x73 x74 x75 x76 x77 x78 x79 x80 x81 x82 x83 x84 x85 x86 x87 x88 x89 x90 x91 x92 x93 x94 x95 x96 x97 x98 x99 x100 x101 x102 x103 x104 x105 x106 x107 x108 x109 x110 x111 x112 x113 x114 x115 x116 x117 x118 x119 x120 x121 x122 x123 x124 x125 x126 x127 x128 x129 x130 x131 x132 x133 x134 x135 x136 x137 x138 x139 x140 x141 x142 x143 x144 x145 x146 x147 x148 x149 x150 x151 x152 x153 x154 x155 x156 x157 x158 x159 x160 x161 x162 x163 x164 x165 x166 x167 x168 x169 x170 x171 x172 x173 x174 x175 x176 x177 x178 x179 x180 x181 x182 x183 x184 x185 x186 x187 x188 x189 x190 x191 x192 x193 x194 x195 x196 x197 x198 x199 : Value} {L G m cL c d N1 xc g N2 cg g2 : Nat} {M : Int} {wr : World} {Q : Exit → Act → World → Prop}
  (zL : ∀ e : Ext wr, e.W.cell? ⟨L, c, none⟩ = some (.slice (some ⟨g2, 0, none⟩) N1 xc))
  (zG : ∀ e : Ext wr, e.W.cell? ⟨G, c, none⟩ = some (.slice (some ⟨g, 0, none⟩) N2 cg))
  (z0 : ∀ e : Ext wr, e.W.cell? ⟨g, d, none⟩ = some (.int .u32 (M % 4294967296)))
  (q0 : ∀ e : Ext wr, e.W.cell? ⟨g2, d, none⟩ = some (.int .u32 (M % 4294967296)))
  (hcall : ∀ W, Calls Tryz.prog 69 #[.int .i64 c, .int .i64 d] W fun e w' => e = .returned (.int .i64 M) ∧ Upd [] W w')
  (i1 : (c : Int) < (m : Int)) (i2 : (d : Int) < (N2 : Int))
  (i3 : (d : Int) < (N1 : Int)) (_d1 : decide ((d : Int) < (N1 : Int)) = true) (_d2 : decide (d < N1) = true)
  (hQ : ∀ (y90 y91 y92 y93 y94 y95 y96 y97 y98 y99 y100 y101 y102 y103 y104 y105 y106 y107 y108 y109 y110 y111 y112 y113 y114 y115 y116 y117 y118 y119 y120 y121 y122 y123 y124 y125 : Value) (W : World), Upd [] wr W → Q .normal ⟨(.slice (some ⟨L, 0, none⟩) m cL :: x1 :: x2 :: x3 :: x4 :: .slice (some ⟨G, 0, none⟩) m m :: x6 :: x7 :: x8 :: .int .i64 c :: .int .i64 d :: x11 :: x12 :: x13 :: x14 :: x15 :: x16 :: x17 :: x18 :: x19 :: x20 :: x21 :: x22 :: x23 :: x24 :: x25 :: x26 :: x27 :: x28 :: x29 :: x30 :: x31 :: x32 :: x33 :: x34 :: x35 :: x36 :: x37 :: x38 :: x39 :: x40 :: x41 :: x42 :: x43 :: x44 :: x45 :: x46 :: x47 :: x48 :: x49 :: x50 :: x51 :: x52 :: x53 :: x54 :: x55 :: x56 :: x57 :: x58 :: x59 :: x60 :: x61 :: x62 :: x63 :: x64 :: x65 :: x66 :: x67 :: x68 :: x69 :: x70 :: x71 :: x72 :: x73 :: x74 :: x75 :: x76 :: x77 :: x78 :: x79 :: x80 :: x81 :: x82 :: x83 :: x84 :: x85 :: x86 :: x87 :: x88 :: x89 :: y90 :: y91 :: y92 :: y93 :: y94 :: y95 :: y96 :: y97 :: y98 :: y99 :: y100 :: y101 :: y102 :: y103 :: y104 :: y105 :: y106 :: y107 :: y108 :: y109 :: y110 :: y111 :: y112 :: y113 :: y114 :: y115 :: y116 :: y117 :: y118 :: y119 :: y120 :: y121 :: y122 :: y123 :: y124 :: y125 :: .bool false :: x127 :: x128 :: x129 :: x130 :: x131 :: x132 :: x133 :: x134 :: x135 :: x136 :: x137 :: x138 :: x139 :: x140 :: x141 :: x142 :: x143 :: x144 :: x145 :: x146 :: x147 :: x148 :: x149 :: x150 :: x151 :: x152 :: x153 :: x154 :: x155 :: x156 :: x157 :: x158 :: x159 :: x160 :: x161 :: x162 :: x163 :: x164 :: x165 :: x166 :: x167 :: x168 :: x169 :: x170 :: x171 :: x172 :: x173 :: x174 :: x175 :: x176 :: x177 :: x178 :: x179 :: x180 :: x181 :: x182 :: x183 :: x184 :: x185 :: x186 :: x187 :: x188 :: x189 :: x190 :: x191 :: x192 :: x193 :: x194 :: x195 :: x196 :: x197 :: x198 :: x199 :: []).toArray, []⟩ W) :
  Code.wp Tryz.prog regLim24 Q ⟨(.slice (some ⟨L, 0, none⟩) m cL :: x1 :: x2 :: x3 :: x4 :: .slice (some ⟨G, 0, none⟩) m m :: x6 :: x7 :: x8 :: .int .i64 c :: .int .i64 d :: x11 :: x12 :: x13 :: x14 :: x15 :: x16 :: x17 :: x18 :: x19 :: x20 :: x21 :: x22 :: x23 :: x24 :: x25 :: x26 :: x27 :: x28 :: x29 :: x30 :: x31 :: x32 :: x33 :: x34 :: x35 :: x36 :: x37 :: x38 :: x39 :: x40 :: x41 :: x42 :: x43 :: x44 :: x45 :: x46 :: x47 :: x48 :: x49 :: x50 :: x51 :: x52 :: x53 :: x54 :: x55 :: x56 :: x57 :: x58 :: x59 :: x60 :: x61 :: x62 :: x63 :: x64 :: x65 :: x66 :: x67 :: x68 :: x69 :: x70 :: x71 :: x72 :: x73 :: x74 :: x75 :: x76 :: x77 :: x78 :: x79 :: x80 :: x81 :: x82 :: x83 :: x84 :: x85 :: x86 :: x87 :: x88 :: x89 :: x90 :: x91 :: x92 :: x93 :: x94 :: x95 :: x96 :: x97 :: x98 :: x99 :: x100 :: x101 :: x102 :: x103 :: x104 :: x105 :: x106 :: x107 :: x108 :: x109 :: x110 :: x111 :: x112 :: x113 :: x114 :: x115 :: x116 :: x117 :: x118 :: x119 :: x120 :: x121 :: x122 :: x123 :: x124 :: x125 :: x126 :: x127 :: x128 :: x129 :: x130 :: x131 :: x132 :: x133 :: x134 :: x135 :: x136 :: x137 :: x138 :: x139 :: x140 :: x141 :: x142 :: x143 :: x144 :: x145 :: x146 :: x147 :: x148 :: x149 :: x150 :: x151 :: x152 :: x153 :: x154 :: x155 :: x156 :: x157 :: x158 :: x159 :: x160 :: x161 :: x162 :: x163 :: x164 :: x165 :: x166 :: x167 :: x168 :: x169 :: x170 :: x171 :: x172 :: x173 :: x174 :: x175 :: x176 :: x177 :: x178 :: x179 :: x180 :: x181 :: x182 :: x183 :: x184 :: x185 :: x186 :: x187 :: x188 :: x189 :: x190 :: x191 :: x192 :: x193 :: x194 :: x195 :: x196 :: x197 :: x198 :: x199 :: []).toArray, []⟩ wr := by
 have HC : Hid (∀ W, Calls Tryz.prog 69 #[.int .i64 c, .int .i64 d] W fun e w' => e = .returned (.int .i64 M) ∧ Upd [] W w') := hcall
 clear hcall
 conv => arg 2; whnf
 have hne : Nonempty (Ext wr) := ⟨⟨wr, Upd.refl [] wr⟩⟩
 refine wp_region_ext (by kernel_rfl) (by kernel_rfl) ?_
 repeat (go_big_quiet_step ((go_at_call 69; exact Ext.call (HC.out _))))
 refine wpQuiet_nil ?_
 intro _ hw'
 obtain ⟨nx, hw''⟩ := hw'
 subst hw''
 exact hQ _ _ _ _ _ _ _ _ _ _ _ _ _ _ _ _ _ _ _ _ _ _ _ _ _ _ _ _ _ _ _ _ _ _ _ _ _ nx.h
set_option maxHeartbeats 4000000 in
set_option maxRecDepth 1000000 in
theorem rLim24b {x1 x2 x3 x4 x6 x7 x8 x11 x12 x13 x14 x15 x16 x17 x18 x19 x20 x21 x22 x23 x24 x25 x26 x27 x28 x29 x30 x31 x32 x33 x34 x35 x36 x37 x38 x39 x40 x41 x42 x43 x44 x45 x46 x47 x48 x49 x50 x51 x52 x53 x54 x55 x56 x57 x58 x59 x60 x61 x62 x63 x64 x65 x66 x67 x68 x69 x70 x71 x72 x73 x74 x75 x76 x77 x78 x79 x80 x81 x82 x83 x84 x85 x86 x87 x88 x89 x90 x91 x92 x93 x94 x95 x96 x97 x98 x99 x100 x101 x102 x103 x104 x105 x106 x107 x108 x109 x110 x111 x112 x113 x114 x115 x116 x117 x118 x119 x120 x121 x122 x123 x124 x125 x126 x127 x128 x129 x130 x131 x132 x133 x134 x135 x136 x137 x138 x139 x140 x141 x142 x143 x144 x145 x146 x147 x148 x149 x150 x151 x152 x153 x154 x155 x156 x157 x158 x159 x160 x161 x162 x163 x164 x165 x166 x167 x168 x169 x170 x171 x172 x173 x174 x175 x176 x177 x178 x179 x180 x181 x182 x183 x184 x185 x186 x187 x188 x189 x190 x191 x192 x193 x194 x195 x196 x197 x198 x199 : Value} {L G m cL c d N1 xc g N2 cg  : Nat} {M : Int} {xa : Option Addr} {wr : World} {Q : Exit → Act → World → Prop}
  (zL : ∀ e : Ext wr, e.W.cell? ⟨L, c, none⟩ = some (.slice xa N1 xc))
  (zG : ∀ e : Ext wr, e.W.cell? ⟨G, c, none⟩ = some (.slice (some ⟨g, 0, none⟩) N2 cg))
  (z0 : ∀ e : Ext wr, e.W.cell? ⟨g, d, none⟩ = some (.int .u32 (M % 4294967296)))
  (hcall : ∀ W, Calls Tryz.prog 69 #[.int .i64 c, .int .i64 d] W fun e w' => e = .returned (.int .i64 M) ∧ Upd [] W w')
  (i1 : (c : Int) < (m : Int)) (i2 : (d : Int) < (N2 : Int))
  (_d1 : decide ((d : Int) < (N1 : Int)) = false) (_d2 : decide (d < N1) = false)
  (hQ : ∀ (y90 y91 y92 y93 y94 y95 y96 y97 y98 y99 y100 y101 y102 y103 y104 y105 y106 y107 y108 y109 y110 y111 y112 y113 y114 y115 y116 y117 y118 y119 y120 y121 y122 y123 y124 y125 : Value) (W : World), Upd [] wr W → Q .normal ⟨(.slice (some ⟨L, 0, none⟩) m cL :: x1 :: x2 :: x3 :: x4 :: .slice (some ⟨G, 0, none⟩) m m :: x6 :: x7 :: x8 :: .int .i64 c :: .int .i64 d :: x11 :: x12 :: x13 :: x14 :: x15 :: x16 :: x17 :: x18 :: x19 :: x20 :: x21 :: x22 :: x23 :: x24 :: x25 :: x26 :: x27 :: x28 :: x29 :: x30 :: x31 :: x32 :: x33 :: x34 :: x35 :: x36 :: x37 :: x38 :: x39 :: x40 :: x41 :: x42 :: x43 :: x44 :: x45 :: x46 :: x47 :: x48 :: x49 :: x50 :: x51 :: x52 :: x53 :: x54 :: x55 :: x56 :: x57 :: x58 :: x59 :: x60 :: x61 :: x62 :: x63 :: x64 :: x65 :: x66 :: x67 :: x68 :: x69 :: x70 :: x71 :: x72 :: x73 :: x74 :: x75 :: x76 :: x77 :: x78 :: x79 :: x80 :: x81 :: x82 :: x83 :: x84 :: x85 :: x86 :: x87 :: x88 :: x89 :: y90 :: y91 :: y92 :: y93 :: y94 :: y95 :: y96 :: y97 :: y98 :: y99 :: y100 :: y101 :: y102 :: y103 :: y104 :: y105 :: y106 :: y107 :: y108 :: y109 :: y110 :: y111 :: y112 :: y113 :: y114 :: y115 :: y116 :: y117 :: y118 :: y119 :: y120 :: y121 :: y122 :: y123 :: y124 :: y125 :: .bool false :: x127 :: x128 :: x129 :: x130 :: x131 :: x132 :: x133 :: x134 :: x135 :: x136 :: x137 :: x138 :: x139 :: x140 :: x141 :: x142 :: x143 :: x144 :: x145 :: x146 :: x147 :: x148 :: x149 :: x150 :: x151 :: x152 :: x153 :: x154 :: x155 :: x156 :: x157 :: x158 :: x159 :: x160 :: x161 :: x162 :: x163 :: x164 :: x165 :: x166 :: x167 :: x168 :: x169 :: x170 :: x171 :: x172 :: x173 :: x174 :: x175 :: x176 :: x177 :: x178 :: x179 :: x180 :: x181 :: x182 :: x183 :: x184 :: x185 :: x186 :: x187 :: x188 :: x189 :: x190 :: x191 :: x192 :: x193 :: x194 :: x195 :: x196 :: x197 :: x198 :: x199 :: []).toArray, []⟩ W) :
  Code.wp Tryz.prog regLim24 Q ⟨(.slice (some ⟨L, 0, none⟩) m cL :: x1 :: x2 :: x3 :: x4 :: .slice (some ⟨G, 0, none⟩) m m :: x6 :: x7 :: x8 :: .int .i64 c :: .int .i64 d :: x11 :: x12 :: x13 :: x14 :: x15 :: x16 :: x17 :: x18 :: x19 :: x20 :: x21 :: x22 :: x23 :: x24 :: x25 :: x26 :: x27 :: x28 :: x29 :: x30 :: x31 :: x32 :: x33 :: x34 :: x35 :: x36 :: x37 :: x38 :: x39 :: x40 :: x41 :: x42 :: x43 :: x44 :: x45 :: x46 :: x47 :: x48 :: x49 :: x50 :: x51 :: x52 :: x53 :: x54 :: x55 :: x56 :: x57 :: x58 :: x59 :: x60 :: x61 :: x62 :: x63 :: x64 :: x65 :: x66 :: x67 :: x68 :: x69 :: x70 :: x71 :: x72 :: x73 :: x74 :: x75 :: x76 :: x77 :: x78 :: x79 :: x80 :: x81 :: x82 :: x83 :: x84 :: x85 :: x86 :: x87 :: x88 :: x89 :: x90 :: x91 :: x92 :: x93 :: x94 :: x95 :: x96 :: x97 :: x98 :: x99 :: x100 :: x101 :: x102 :: x103 :: x104 :: x105 :: x106 :: x107 :: x108 :: x109 :: x110 :: x111 :: x112 :: x113 :: x114 :: x115 :: x116 :: x117 :: x118 :: x119 :: x120 :: x121 :: x122 :: x123 :: x124 :: x125 :: x126 :: x127 :: x128 :: x129 :: x130 :: x131 :: x132 :: x133 :: x134 :: x135 :: x136 :: x137 :: x138 :: x139 :: x140 :: x141 :: x142 :: x143 :: x144 :: x145 :: x146 :: x147 :: x148 :: x149 :: x150 :: x151 :: x152 :: x153 :: x154 :: x155 :: x156 :: x157 :: x158 :: x159 :: x160 :: x161 :: x162 :: x163 :: x164 :: x165 :: x166 :: x167 :: x168 :: x169 :: x170 :: x171 :: x172 :: x173 :: x174 :: x175 :: x176 :: x177 :: x178 :: x179 :: x180 :: x181 :: x182 :: x183 :: x184 :: x185 :: x186 :: x187 :: x188 :: x189 :: x190 :: x191 :: x192 :: x193 :: x194 :: x195 :: x196 :: x197 :: x198 :: x199 :: []).toArray, []⟩ wr := by
 have HC : Hid (∀ W, Calls Tryz.prog 69 #[.int .i64 c, .int .i64 d] W fun e w' => e = .returned (.int .i64 M) ∧ Upd [] W w') := hcall
 clear hcall
 conv => arg 2; whnf
 have hne : Nonempty (Ext wr) := ⟨⟨wr, Upd.refl [] wr⟩⟩
 refine wp_region_ext (by kernel_rfl) (by kernel_rfl) ?_
 repeat (go_big_quiet_step ((go_at_call 69; exact Ext.call (HC.out _))))
 refine wpQuiet_nil ?_
 intro _ hw'
 obtain ⟨nx, hw''⟩ := hw'
 subst hw''
 exact hQ _ _ _ _ _ _ _ _ _ _ _ _ _ _ _ _ _ _ _ _ _ _ _ _ _ _ _ _ _ _ _ _ _ _ _ _ _ nx.h
set_option maxHeartbeats 4000000 in
set_option maxRecDepth 1000000 in
theorem rLim41 {x1 x2 x3 x4 x6 x7 x8 x9 x10 x11 x12 x13 x16 x17 x18 x19 x20 x21 x22 x23 x24 x25 x26 x27 x28 x29 x30 x31 x32 x33 x34 x35 x36 x37 x38 x39 x40 x41 x42 x43 x44 x45 x46 x47 x48 x49 x50 x51 x52 x53 x54 x55 x56 x57 x58 x59 x60 x61 x62 x63 x64 x65 x66 x67 x68 x69 x70 x71 x72 x73 x74 x75 x76 x77 x78 x79 x80 x81 x82 x83 x84 x85 x86 x87 x88 x89 x90 x91 x92 x93 x94 x95 x96 x97 x98 x99 x100 x101 x102 x103 x104 x105 x106 x107 x108 x109 x110 x111 x112 x113 x114 x115 x116 x117 x118 x119 x120 x121 x122 x123 x124 x125 x126 x127 x128 x129 x130 x131 x132 x133 x134 x135 x136 x137 x138 x139 x140 x141 x142 x143 x144 x145 x146 x147 x148 x149 x150 x151 x152 x153 x154 x155 x156 x157 x158 x159 x160 x161 x162 x163 x164 x165 x166 x167 x168 x169 x170 x171 x172 x173 x174 x175 x176 x177 x178 x179 x180 x181 x182 x183 x184 x185 x186 x187 x188 x189 x190 x191 x192 x193 x194 x195 x196 x197 x198 x199 : Value} {L G m cL c d N1 xc g N2 cg g2 : Nat} {M : Int} {wr : World} {Q : Exit → Act → World → Prop}
  (zL : ∀ e : Ext wr, e.W.cell? ⟨L, c, none⟩ = some (.slice (some ⟨g2, 0, none⟩) N1 xc))
  (zG : ∀ e : Ext wr, e.W.cell? ⟨G, c, none⟩ = some (.slice (some ⟨g, 0, none⟩) N2 cg))
  (z0 : ∀ e : Ext wr, e.W.cell? ⟨g, d, none⟩ = some (.int .u32 (M % 4294967296)))
  (q0 : ∀ e : Ext wr, e.W.cell? ⟨g2, d, none⟩ = some (.int .u32 (M % 4294967296)))
  (hcall : ∀ W, Calls Tryz.prog 69 #[.int .i64 c, .int .i64 d] W fun e w' => e = .returned (.int .i64 M) ∧ Upd [] W w')
  (i1 : (c : Int) < (m : Int)) (i2 : (d : Int) < (N2 : Int))
  (i3 : (d : Int) < (N1 : Int)) (_d1 : decide ((d : Int) < (N1 : Int)) = true) (_d2 : decide (d < N1) = true)
  (hQ : ∀ (y172 y173 y174 y175 y176 y177 y178 y179 y180 y181 y182 y183 y184 y185 y186 y187 y188 y189 y190 y191 y192 y193 y194 y195 y196 y197 y198 : Value) (W : World), Upd [] wr W → Q .normal ⟨(.slice (some ⟨L, 0, none⟩) m cL :: x1 :: x2 :: x3 :: x4 :: .slice (some ⟨G, 0, none⟩) m m :: x6 :: x7 :: x8 :: x9 :: x10 :: x11 :: x12 :: x13 :: .int .i64 c :: .int .i64 d :: x16 :: x17 :: x18 :: x19 :: x20 :: x21 :: x22 :: x23 :: x24 :: x25 :: x26 :: x27 :: x28 :: x29 :: x30 :: x31 :: x32 :: x33 :: x34 :: x35 :: x36 :: x37 :: x38 :: x39 :: x40 :: x41 :: x42 :: x43 :: x44 :: x45 :: x46 :: x47 :: x48 :: x49 :: x50 :: x51 :: x52 :: x53 :: x54 :: x55 :: x56 :: x57 :: x58 :: x59 :: x60 :: x61 :: x62 :: x63 :: x64 :: x65 :: x66 :: x67 :: x68 :: x69 :: x70 :: x71 :: x72 :: x73 :: x74 :: x75 :: x76 :: x77 :: x78 :: x79 :: x80 :: x81 :: x82 :: x83 :: x84 :: x85 :: x86 :: x87 :: x88 :: x89 :: x90 :: x91 :: x92 :: x93 :: x94 :: x95 :: x96 :: x97 :: x98 :: x99 :: x100 :: x101 :: x102 :: x103 :: x104 :: x105 :: x106 :: x107 :: x108 :: x109 :: x110 :: x111 :: x112 :: x113 :: x114 :: x115 :: x116 :: x117 :: x118 :: x119 :: x120 :: x121 :: x122 :: x123 :: x124 :: x125 :: x126 :: x127 :: x128 :: x129 :: x130 :: x131 :: x132 :: x133 :: x134 :: x135 :: x136 :: x137 :: x138 :: x139 :: x140 :: x141 :: x142 :: x143 :: x144 :: x145 :: x146 :: x147 :: x148 :: x149 :: x150 :: x151 :: x152 :: x153 :: x154 :: x155 :: x156 :: x157 :: x158 :: x159 :: x160 :: x161 :: x162 :: x163 :: x164 :: x165 :: x166 :: x167 :: x168 :: x169 :: x170 :: x171 :: y172 :: y173 :: y174 :: y175 :: y176 :: y177 :: y178 :: y179 :: y180 :: y181 :: y182 :: y183 :: y184 :: y185 :: y186 :: y187 :: y188 :: y189 :: y190 :: y191 :: y192 :: y193 :: y194 :: y195 :: y196 :: y197 :: y198 :: .bool false :: []).toArray, []⟩ W) :
  Code.wp Tryz.prog regLim41 Q ⟨(.slice (some ⟨L, 0, none⟩) m cL :: x1 :: x2 :: x3 :: x4 :: .slice (some ⟨G, 0, none⟩) m m :: x6 :: x7 :: x8 :: x9 :: x10 :: x11 :: x12 :: x13 :: .int .i64 c :: .int .i64 d :: x16 :: x17 :: x18 :: x19 :: x20 :: x21 :: x22 :: x23 :: x24 :: x25 :: x26 :: x27 :: x28 :: x29 :: x30 :: x31 :: x32 :: x33 :: x34 :: x35 :: x36 :: x37 :: x38 :: x39 :: x40 :: x41 :: x42 :: x43 :: x44 :: x45 :: x46 :: x47 :: x48 :: x49 :: x50 :: x51 :: x52 :: x53 :: x54 :: x55 :: x56 :: x57 :: x58 :: x59 :: x60 :: x61 :: x62 :: x63 :: x64 :: x65 :: x66 :: x67 :: x68 :: x69 :: x70 :: x71 :: x72 :: x73 :: x74 :: x75 :: x76 :: x77 :: x78 :: x79 :: x80 :: x81 :: x82 :: x83 :: x84 :: x85 :: x86 :: x87 :: x88 :: x89 :: x90 :: x91 :: x92 :: x93 :: x94 :: x95 :: x96 :: x97 :: x98 :: x99 :: x100 :: x101 :: x102 :: x103 :: x104 :: x105 :: x106 :: x107 :: x108 :: x109 :: x110 :: x111 :: x112 :: x113 :: x114 :: x115 :: x116 :: x117 :: x118 :: x119 :: x120 :: x121 :: x122 :: x123 :: x124 :: x125 :: x126 :: x127 :: x128 :: x129 :: x130 :: x131 :: x132 :: x133 :: x134 :: x135 :: x136 :: x137 :: x138 :: x139 :: x140 :: x141 :: x142 :: x143 :: x144 :: x145 :: x146 :: x147 :: x148 :: x149 :: x150 :: x151 :: x152 :: x153 :: x154 :: x155 :: x156 :: x157 :: x158 :: x159 :: x160 :: x161 :: x162 :: x163 :: x164 :: x165 :: x166 :: x167 :: x168 :: x169 :: x170 :: x171 :: x172 :: x173 :: x174 :: x175 :: x176 :: x177 :: x178 :: x179 :: x180 :: x181 :: x182 :: x183 :: x184 :: x185 :: x186 :: x187 :: x188 :: x189 :: x190 :: x191 :: x192 :: x193 :: x194 :: x195 :: x196 :: x197 :: x198 :: x199 :: []).toArray, []⟩ wr := by
 have HC : Hid (∀ W, Calls Tryz.prog 69 #[.int .i64 c, .int .i64 d] W fun e w' => e = .returned (.int .i64 M) ∧ Upd [] W w') := hcall
 clear hcall
 conv => arg 2; whnf
 have hne : Nonempty (Ext wr) := ⟨⟨wr, Upd.refl [] wr⟩⟩
 refine wp_region_ext (by kernel_rfl) (by kernel_rfl) ?_
 repeat (go_big_quiet_step ((go_at_call 69; exact Ext.call (HC.out _))))
 refine wpQuiet_nil ?_
 intro _ hw'
 obtain ⟨nx, hw''⟩ := hw'
 subst hw''
 exact hQ _ _ _ _ _ _ _ _ _ _ _ _ _ _ _ _ _ _ _ _ _ _ _ _ _ _ _ _ nx.h
end Go.Proofs.YtalhbbabijlngaaGreatDoor
namespace Go.Proofs.YtalhbbabijlngaaGreatDoor
open Go.RowKit
def bagT (x y : Value) : Array Value := #[x, .slice none 0 0, .slice none 0 0, .slice none 0 0, .slice none 0 0, .slice none 0 0, .slice none 0 0, y, .slice none 0 0, .slice none 0 0, .slice none 0 0, .slice none 0 0, .slice none 0 0, .slice none 0 0, .slice none 0 0, .slice none 0 0, .slice none 0 0, .slice none 0 0, .slice none 0 0, .slice none 0 0]
theorem inf_u32s : (Tryz.prog.info? 23).map (fun i => (i.zero, i.size, i.bytes)) = some (some (.slice none 0 0), 1, 24) := by kernel_rfl
theorem inf_terms : (Tryz.prog.info? 24).map (fun i => (i.zero, i.size, i.bytes)) = some (some (.slice none 0 0), 1, 24) := by kernel_rfl
def lst (A : List Value) (j : Nat) : List Value := (A[j]?).toList
theorem Hs.congr {w : World} {sz p : Nat} {v : Value} {C C' : Nat → List Value} (h : Hs w sz v p C) (hc : ∀ i, i < p → C i = C' i) : Hs w sz v p C' := fun g l c e i j hi hj => by rw [← hc i hi]; exact h g l c e i j hi hj
theorem lst_last (A : List Value) (v : Value) (j : Nat) (hj : j < 1) : ([v] : List Value)[j]? = (lst (A ++ [v]) A.length)[j]? := by
 have : j = 0 := by omega
 subst this
 unfold lst
 simp
theorem lst_old (A : List Value) (v : Value) (i : Nat) (hi : i < A.length) : lst A i = lst (A ++ [v]) i := by
 unfold lst
 rw [List.getElem?_append_left hi]
structure BagIs (w : World) (gb : Nat) (x y : Value) (A C : List Value) : Prop where
 blk : Bk w gb (bagT x y) 90
 rx : RowG w 1 x A.length
 hx : Hs w 1 x A.length (lst A)
 ry : RowG w 1 y C.length
 hy : Hs w 1 y C.length (lst C)
 ox : ∀ g, x.ownBlock = some g → gb < g
 oy : ∀ g, y.ownBlock = some g → gb < g
 ap : ∀ g, x.ownBlock = some g → y.ownBlock ≠ some g
def bset (gb : Nat) (x y : Value) : List Nat := gb :: (x.ownBlock.toList ++ y.ownBlock.toList)
theorem mem_bset {gb z : Nat} {x y : Value} : z ∈ bset gb x y ↔ z = gb ∨ x.ownBlock = some z ∨ y.ownBlock = some z := by
 unfold bset; simp [List.mem_append]
theorem BagIs.upd {S : List Nat} {w w' : World} {gb : Nat} {x y : Value} {A C : List Value} (h : BagIs w gb x y A C) (hu : Upd S w w') (hS : ∀ z, z ∈ bset gb x y → z ∉ S) : BagIs w' gb x y A C :=
 ⟨h.blk.mono hu (hS gb (mem_bset.2 (Or.inl rfl))), h.rx.upd hu (fun g hg => hS g (mem_bset.2 (Or.inr (Or.inl hg)))), h.hx.upd h.rx hu (fun g hg => hS g (mem_bset.2 (Or.inr (Or.inl hg)))), h.ry.upd hu (fun g hg => hS g (mem_bset.2 (Or.inr (Or.inr hg)))), h.hy.upd h.ry hu (fun g hg => hS g (mem_bset.2 (Or.inr (Or.inr hg)))), h.ox, h.oy, h.ap⟩
structure Put (w : World) (gb : Nat) (x y : Value) (A C : List Value) (e : Ending) (w' : World) : Prop where
 ret : e = .returned (.tuple #[])
 upd : Upd (bset gb x y) w w'
 bag : ∃ x' y', BagIs w' gb x' y' A C ∧ (∀ g, x'.ownBlock = some g → x.ownBlock = some g ∨ w.heap.size ≤ g) ∧ ∀ g, y'.ownBlock = some g → y.ownBlock = some g ∨ w.heap.size ≤ g
theorem Put.trans {w w1 w2 : World} {gb : Nat} {x y x1 y1 : Value} {A1 C1 : List Value} {e : Ending} (hu : Upd (bset gb x y) w w1) (ox : ∀ g, x1.ownBlock = some g → x.ownBlock = some g ∨ w.heap.size ≤ g) (oy : ∀ g, y1.ownBlock = some g → y.ownBlock = some g ∨ w.heap.size ≤ g) (h : Put w1 gb x1 y1 A1 C1 e w2) : Put w gb x y A1 C1 e w2 := by
 refine ⟨h.ret, hu.then h.upd (fun z hz => ?_), ?_⟩
 ·rcases mem_bset.1 hz with rfl | hz | hz
  ·exact Or.inr (mem_bset.2 (Or.inl rfl))
  ·rcases ox z hz with h1 | h1
   ·exact Or.inr (mem_bset.2 (Or.inr (Or.inl h1)))
   ·exact Or.inl h1
  ·rcases oy z hz with h1 | h1
   ·exact Or.inr (mem_bset.2 (Or.inr (Or.inr h1)))
   ·exact Or.inl h1
 ·obtain ⟨x', y', h1, h2, h3⟩ := h.bag
  refine ⟨x', y', h1, fun g hg => ?_, fun g hg => ?_⟩
  ·rcases h2 g hg with h4 | h4
   ·exact ox g h4
   ·exact Or.inr (Nat.le_trans hu.size h4)
  ·rcases h3 g hg with h4 | h4
   ·exact oy g h4
   ·exact Or.inr (Nat.le_trans hu.size h4)
theorem grew_ne {sz : Nat} {w w' : World} {x : Value} {n g' g : Nat} (h : Grew sz w w' x n g') (hx : ∀ b, x.ownBlock = some b → b ≠ g) (hl : g < w.heap.size) : g' ≠ g := by
 rcases h.at' with h1 | h1
 ·exact hx g' h1
 ·omega
theorem put_upd {w w5 : World} {gb i g' : Nat} {x u : Value} {o : Obj} {k : Nat} (hg5 : Grew 1 (w.alloc o) w5 x k g') : Upd (gb :: g' :: []) w (w5.setCell ⟨gb, i, none⟩ u) :=
 ((((Upd.refl [] w).alloc o).wide (by simp)).trans (hg5.upd.wide (by simp))).setCell (Or.inr (by simp)) u
theorem put_bset {w w' : World} {gb g' : Nat} {x y : Value} {k : Nat} {o : Obj} {w5 : World} (hg5 : Grew 1 (w.alloc o) w5 x k g') (hu : Upd [gb, g'] w w') (hx : ∀ z, x.ownBlock = some z → z ∈ bset gb x y) : Upd (bset gb x y) w w' := by
 refine (Upd.refl _ w).then hu (fun z hz => ?_)
 simp at hz
 rcases hz with rfl | rfl
 ·exact Or.inr (mem_bset.2 (Or.inl rfl))
 ·rcases hg5.at' with h1 | h1
  ·exact Or.inr (hx _ h1)
  ·exact Or.inl (by rw [h1]; simp)
theorem lim_done {w w5 : World} {gb g' cap' : Nat} {x y v : Value} {A C : List Value} {o : Obj} (h : BagIs w gb x y A C) (hr5 : RowG w5 1 (.slice (some ⟨g', 0, none⟩) (A.length + 1) cap') (A.length + 1)) (hg5 : Grew 1 (w.alloc o) w5 x A.length g') (hn5 : ∀ j, j < 1 * 1 → w5.cell? ⟨g', A.length * 1 + j, none⟩ = [v][j]?) (hgg : g' ≠ gb) (hB5 : Bk w5 gb (bagT x y) 90) :
  Put w gb x y (A ++ [v]) C (.returned (.tuple #[])) (w5.setCell ⟨gb, 0, none⟩ (.slice (some ⟨g', 0, none⟩) (A.length + 1) cap')) := by
 have hua : Upd [] w (w.alloc o) := (Upd.refl [] w).alloc _
 have hu : Upd [gb] w5 (w5.setCell ⟨gb, 0, none⟩ (.slice (some ⟨g', 0, none⟩) (A.length + 1) cap')) := (Upd.refl [gb] w5).setCell (Or.inr (by simp)) _
 have hat : x.ownBlock = some g' ∨ w.heap.size ≤ g' := by
  rcases hg5.at' with h1 | h1
  ·exact Or.inl h1
  ·exact Or.inr (by rw [h1]; exact hua.size)
 have hyg : ∀ g, y.ownBlock = some g → g ≠ g' := fun g hg e => by
  subst e
  rcases hat with h1 | h1
  ·exact h.ap g h1 hg
  ·have := h.ry.lt g hg; omega
 have hbl := h.blk.lt
 have hh5 : Hs w5 1 (.slice (some ⟨g', 0, none⟩) (A.length + 1) cap') (A.length + 1) (lst (A ++ [v])) :=
  hg5.has1 ((h.hx.upd h.rx hua (by simp)).congr (fun i hi => lst_old A v i hi)) (h.rx.upd hua (by simp)) (fun j hj => by rw [hn5 j (by omega)]; exact lst_last A v j hj)
 have hy5 : Hs w5 1 y C.length (lst C) := (h.hy.upd h.ry hua (by simp)).upd (h.ry.upd hua (by simp)) hg5.upd (fun g hg hm => by simp at hm; exact hyg g hg hm)
 have hry5 : RowG w5 1 y C.length := (h.ry.upd hua (by simp)).upd hg5.upd (fun g hg hm => by simp at hm; exact hyg g hg hm)
 refine ⟨rfl, put_bset hg5 (put_upd hg5) (fun z hz => mem_bset.2 (Or.inr (Or.inl hz))), .slice (some ⟨g', 0, none⟩) (A.length + 1) cap', y, ⟨?_, ?_, ?_, ?_, ?_, ?_, h.oy, ?_⟩, fun g hg => ?_, fun g hg => Or.inl hg⟩
 ·have := hB5.set 0 (.slice (some ⟨g', 0, none⟩) (A.length + 1) cap')
  exact this
 ·rw [List.length_append]
  exact hr5.upd hu (fun b hb hm => by simp [Value.ownBlock] at hb hm; omega)
 ·rw [List.length_append]
  exact hh5.upd hr5 hu (fun b hb hm => by simp [Value.ownBlock] at hb hm; omega)
 ·exact hry5.upd hu (fun g hg hm => by simp at hm; have := h.oy g hg; omega)
 ·exact hy5.upd hry5 hu (fun g hg hm => by simp at hm; have := h.oy g hg; omega)
 ·intro g hg
  simp only [Value.ownBlock, Option.some.injEq] at hg
  subst hg
  rcases hat with h1 | h1
  ·exact h.ox _ h1
  ·omega
 ·intro g hg
  simp only [Value.ownBlock, Option.some.injEq] at hg
  subst hg
  exact fun e => hyg _ e rfl
 ·simp only [Value.ownBlock, Option.some.injEq] at hg
  subst hg
  exact hat
theorem trm_done {w w5 : World} {gb g' cap' : Nat} {x y v : Value} {A C : List Value} {o : Obj} (h : BagIs w gb x y A C) (hr5 : RowG w5 1 (.slice (some ⟨g', 0, none⟩) (C.length + 1) cap') (C.length + 1)) (hg5 : Grew 1 (w.alloc o) w5 y C.length g') (hn5 : ∀ j, j < 1 * 1 → w5.cell? ⟨g', C.length * 1 + j, none⟩ = [v][j]?) (hgg : g' ≠ gb) (hB5 : Bk w5 gb (bagT x y) 90) :
  Put w gb x y A (C ++ [v]) (.returned (.tuple #[])) (w5.setCell ⟨gb, 7, none⟩ (.slice (some ⟨g', 0, none⟩) (C.length + 1) cap')) := by
 have hua : Upd [] w (w.alloc o) := (Upd.refl [] w).alloc _
 have hu : Upd [gb] w5 (w5.setCell ⟨gb, 7, none⟩ (.slice (some ⟨g', 0, none⟩) (C.length + 1) cap')) := (Upd.refl [gb] w5).setCell (Or.inr (by simp)) _
 have hat : y.ownBlock = some g' ∨ w.heap.size ≤ g' := by
  rcases hg5.at' with h1 | h1
  ·exact Or.inl h1
  ·exact Or.inr (by rw [h1]; exact hua.size)
 have hyg : ∀ g, x.ownBlock = some g → g ≠ g' := fun g hg e => by
  subst e
  rcases hat with h1 | h1
  ·exact h.ap g hg h1
  ·have := h.rx.lt g hg; omega
 have hbl := h.blk.lt
 have hh5 : Hs w5 1 (.slice (some ⟨g', 0, none⟩) (C.length + 1) cap') (C.length + 1) (lst (C ++ [v])) :=
  hg5.has1 ((h.hy.upd h.ry hua (by simp)).congr (fun i hi => lst_old C v i hi)) (h.ry.upd hua (by simp)) (fun j hj => by rw [hn5 j (by omega)]; exact lst_last C v j hj)
 have hy5 : Hs w5 1 x A.length (lst A) := (h.hx.upd h.rx hua (by simp)).upd (h.rx.upd hua (by simp)) hg5.upd (fun g hg hm => by simp at hm; exact hyg g hg hm)
 have hry5 : RowG w5 1 x A.length := (h.rx.upd hua (by simp)).upd hg5.upd (fun g hg hm => by simp at hm; exact hyg g hg hm)
 refine ⟨rfl, ?_, x, .slice (some ⟨g', 0, none⟩) (C.length + 1) cap', ⟨?_, ?_, ?_, ?_, ?_, h.ox, ?_, ?_⟩, fun g hg => Or.inl hg, fun g hg => ?_⟩
 ·refine (Upd.refl _ w).then (put_upd hg5) (fun z hz => ?_)
  simp at hz
  rcases hz with rfl | rfl
  ·exact Or.inr (mem_bset.2 (Or.inl rfl))
  ·rcases hat with h1 | h1
   ·exact Or.inr (mem_bset.2 (Or.inr (Or.inr h1)))
   ·exact Or.inl h1
 ·have := hB5.set 7 (.slice (some ⟨g', 0, none⟩) (C.length + 1) cap')
  exact this
 ·exact hry5.upd hu (fun g hg hm => by simp at hm; have := h.ox g hg; omega)
 ·exact hy5.upd hry5 hu (fun g hg hm => by simp at hm; have := h.ox g hg; omega)
 ·rw [List.length_append]
  exact hr5.upd hu (fun b hb hm => by simp [Value.ownBlock] at hb hm; omega)
 ·rw [List.length_append]
  exact hh5.upd hr5 hu (fun b hb hm => by simp [Value.ownBlock] at hb hm; omega)
 ·intro g hg
  simp only [Value.ownBlock, Option.some.injEq] at hg
  subst hg
  rcases hat with h1 | h1
  ·exact h.oy _ h1
  ·omega
 ·intro g hg e
  simp only [Value.ownBlock, Option.some.injEq] at e
  exact hyg g hg e.symm
 ·simp only [Value.ownBlock, Option.some.injEq] at hg
  subst hg
  exact hat
set_option maxHeartbeats 1000000 in
set_option maxRecDepth 100000 in
theorem putLimbs_in (w : World) (gb : Nat) (x y : Value) (A C : List Value) (la : Option Addr) (ln lc : Nat) (h : BagIs w gb x y A C) (hk : A.length ≤ 1000000) :
  Calls Tryz.prog 143 #[.pointer (some ⟨gb, 0, none⟩), .slice la ln lc] w (Put w gb x y (A ++ [.slice la ln lc]) C) := by
 obtain ⟨i0, hi, hz0, hz1, hz2⟩ := info_parts inf_u32s
 obtain ⟨xa, xc, hxe, _⟩ := h.rx.form
 subst hxe
 obtain ⟨k, hkA⟩ : ∃ k, k = A.length := ⟨_, rfl⟩
 rw [← hkA] at hk
 have y0 : w.cell? ⟨gb, 0, none⟩ = some (.slice xa k xc) := by rw [hkA]; exact h.blk.cell 0
 have HR : Hid (RowG w 1 (.slice xa k xc) k) := by show RowG _ _ _ _; rw [hkA]; exact h.rx
 have HG : Hid (BagIs w gb (.slice xa k xc) y A C) := by show BagIs _ _ _ _ _ _; rw [hkA]; exact h
 have HX : Hid (∀ b, (Value.slice xa k xc).ownBlock = some b → b ≠ gb) := fun b hb e => by have := HG.out.ox b hb; omega
 have hgl := h.blk.lt
 have HkA : Hid (k = A.length) := hkA
 rw [← hkA]
 clear h hkA
 go_enter Tryz.func143, Tryz.ntmps143
 go_wp2_with (first
  | (at_builtin; refine wpList_appendG (v := .slice xa k xc) (n := k) rfl _ _ 70 rfl Tryz.underlying70 hi hz0 hz1 hz2 rfl rfl (HR.out.upd ((Upd.refl [] w).alloc _) (by simp)) ⟨w.heap.size, 0, none⟩ 1 1 [.slice la ln lc] rfl rfl (World.news_of_block (heap_alloc_new _ _)) (by intro u hu; simp at hu; subst hu; rfl) (by omega) (by omega) (by omega) ?_; intro g' cap' w5 hr5 hg5 hn5; have hgg : g' ≠ gb := grew_ne hg5 HX.out (by simp; omega); have hB5 : Bk w5 gb (bagT (.slice xa k xc) y) 90 := (HG.out.blk.mono ((Upd.refl [] w).alloc _) (by simp)).mono hg5.upd (by simp; exact fun e => hgg e.symm); have z8 : w5.cell? ⟨gb, 0, none⟩ = some (.slice xa k xc) := hB5.cell 0; have f8 : w5.frozen? ⟨gb, 0, none⟩ = false := hB5.free 0)
  | fail)
 go_end0
 have e := HkA.out
 subst e
 exact lim_done HG.out hr5 hg5 hn5 hgg hB5
set_option maxHeartbeats 1000000 in
set_option maxRecDepth 100000 in
def PutSaid (d : Nat) : Prop := ∀ (w : World) (gb : Nat) (x y : Value) (A C : List Value) (cs : List Value) (t : Tm) (LB RB : List Value), BT 0 w d cs t LB RB → (∀ z, z ∈ KB LB RB → z < gb) → BagIs w gb x y A C → A.length + LB.length ≤ 1000000 → C.length + RB.length ≤ 1000000 → Calls Tryz.prog 91 #[.pointer (some ⟨gb, 0, none⟩), .agg cs.toArray] w (Put w gb x y (A ++ LB) (C ++ RB))
theorem far_bset {w : World} {gb : Nat} {x y : Value} {A C : List Value} (h : BagIs w gb x y A C) {z : Nat} (hz : z < gb) : z ∉ bset gb x y := fun hm => by
 rcases mem_bset.1 hm with h1 | h1 | h1
 ·omega
 ·have := h.ox z h1; omega
 ·have := h.oy z h1; omega
theorem flat_take_len {n k : Nat} (hk : k ≤ n) (f : Nat → List Value) : ((List.range k).flatMap f).length ≤ ((List.range n).flatMap f).length := by
 obtain ⟨m, rfl⟩ : ∃ m, n = k + m := ⟨n - k, by omega⟩
 rw [List.range_add, List.flatMap_append, List.length_append]
 omega
theorem flat_succ (k : Nat) (f : Nat → List Value) : (List.range (k + 1)).flatMap f = (List.range k).flatMap f ++ f k := by rw [List.range_succ, List.flatMap_append]; simp
set_option maxHeartbeats 4000000 in
set_option maxRecDepth 100000 in
theorem putTerms_in (d : Nat) (ih : PutSaid d) (w : World) (gb : Nat) (x y : Value) (A C : List Value) (v : Value) (I : List Tm) (LB RB : List Value) (h : RowBT 0 (BT 0 w d) w v I LB RB) (hlt : ∀ z, z ∈ KB LB RB → z < gb) (hb : BagIs w gb x y A C) (hA : A.length + LB.length ≤ 1000000) (hC : C.length + RB.length ≤ 1000000) :
  Calls Tryz.prog 59 #[.pointer (some ⟨gb, 0, none⟩), v] w (Put w gb x y (A ++ LB) (C ++ RB)) := by
 obtain ⟨i0, hi, hz0, hz1, hz2⟩ := info_parts inf_terms
 obtain ⟨ls, rs, rfl, rfl, ⟨hG, _⟩, hkid⟩ := h
 obtain ⟨va, vc, rfl, hn⟩ := hG.form
 obtain ⟨ya, yc, hye, _⟩ := hb.ry.form
 subst hye
 obtain ⟨k, hkC⟩ : ∃ k, k = C.length := ⟨_, rfl⟩
 have hk : k ≤ 1000000 := by rw [hkC]; omega
 have y0 : w.cell? ⟨gb, 7, none⟩ = some (.slice ya k yc) := by rw [hkC]; exact hb.blk.cell 7
 have HR : Hid (RowG w 1 (.slice ya k yc) k) := by show RowG _ _ _ _; rw [hkC]; exact hb.ry
 have HG : Hid (BagIs w gb x (.slice ya k yc) A C) := by show BagIs _ _ _ _ _ _; rw [hkC]; exact hb
 have HX : Hid (∀ b, (Value.slice ya k yc).ownBlock = some b → b ≠ gb) := fun b hb e => by have := HG.out.oy b hb; omega
 have hgl := hb.blk.lt
 have HkC : Hid (k = C.length) := hkC
 have HA : Hid (A.length + ((List.range I.length).flatMap ls).length ≤ 1000000) := hA
 have HC : Hid (C.length + (Value.slice va I.length vc :: (List.range I.length).flatMap rs).length ≤ 1000000) := hC
 have HK : Hid (∀ i (hi : i < I.length), ∃ cs : List Value, cs.length = 7 ∧ (∀ g' l c, Value.slice va I.length vc = .slice (some ⟨g', 0, none⟩) l c → ∀ j, j < 7 → w.cell? ⟨g', i * 7 + j, none⟩ = cs[j]?) ∧ BT 0 w d cs I[i] (ls i) (rs i)) := hkid
 have HLT : Hid (∀ z, z ∈ KB ((List.range I.length).flatMap ls) (.slice va I.length vc :: (List.range I.length).flatMap rs) → z < gb) := hlt
 have HGr : Hid (RowG w 7 (.slice va I.length vc) I.length) := hG
 have IH : Hid (PutSaid d) := ih
 rw [← hkC]
 clear hb hkC hA hC hkid hlt hG ih
 go_enter Tryz.func59, Tryz.ntmps59
 go_wp2_with (first
  | (at_builtin; refine wpList_appendG (v := .slice ya k yc) (n := k) rfl _ _ 36 rfl Tryz.underlying36 hi hz0 hz1 hz2 rfl rfl (HR.out.upd ((Upd.refl [] w).alloc _) (by simp)) ⟨w.heap.size, 0, none⟩ 1 1 [.slice va I.length vc] rfl rfl (World.news_of_block (heap_alloc_new _ _)) (by intro u hu; simp at hu; subst hu; rfl) (by omega) (by omega) (by omega) ?_; intro g' cap' w5 hr5 hg5 hn5; have hgg : g' ≠ gb := grew_ne hg5 HX.out (by simp; omega); have hB5 : Bk w5 gb (bagT x (.slice ya k yc)) 90 := (HG.out.blk.mono ((Upd.refl [] w).alloc _) (by simp)).mono hg5.upd (by simp; exact fun e => hgg e.symm); have z8 : w5.cell? ⟨gb, 7, none⟩ = some (.slice ya k yc) := hB5.cell 7; have f8 : w5.frozen? ⟨gb, 7, none⟩ = false := hB5.free 7)
  | fail)
 have hP1 : Put w gb x (.slice ya k yc) A (C ++ [.slice va I.length vc]) (.returned (.tuple #[])) (w5.setCell ⟨gb, 7, none⟩ (.slice (some ⟨g', 0, none⟩) (k + 1) cap')) := by
  have e := HkC.out
  subst e
  exact trm_done HG.out hr5 hg5 hn5 hgg hB5
 obtain ⟨W1, hW1⟩ : ∃ W1, W1 = w5.setCell ⟨gb, 7, none⟩ (.slice (some ⟨g', 0, none⟩) (k + 1) cap') := ⟨_, rfl⟩
 rw [← hW1] at hP1
 rw [← hW1]
 have HP1 : Hid (Put w gb x (.slice ya k yc) A (C ++ [.slice va I.length vc]) (.returned (.tuple #[])) W1) := hP1
 clear hP1 hW1 hr5 hg5 hn5 hgg hB5 z8 f8 y0
 go_loopw [4] (fun i wr => ∃ q : Nat, q ≤ I.length ∧ i = .int .i64 q ∧ Put w gb x (.slice ya k yc) (A ++ (List.range q).flatMap ls) (C ++ .slice va I.length vc :: (List.range q).flatMap rs) (.returned (.tuple #[])) wr) (fun i _ => I.length - (intOf i).toNat)
 case atStart => exact ⟨0, Nat.zero_le _, rfl, by simpa using HP1.out⟩
 case round =>
  obtain ⟨q, hq, rfl, hP⟩ := hrel
  clear HP1
  by_cases hq2 : q < I.length
  ·have i1 : (q : Int) < (I.length : Int) := by omega
   obtain ⟨x1, y1, hb1, ox1, oy1⟩ := hP.bag
   obtain ⟨cs, hl7, hcell, hbt⟩ := HK.out q hq2
   have hkb : ∀ z, z ∈ KB (ls q) (rs q) → z < gb := fun z hz => HLT.out z (KB_row.2 (Or.inr ⟨q, hq2, hz⟩))
   have hbt2 : BT 0 wr d cs I[q] (ls q) (rs q) := BT.upd hP.upd _ _ _ _ _ (fun z hz => far_bset HG.out (hkb z hz)) hbt
   obtain ⟨g, hva⟩ : ∃ g, va = some ⟨g, 0, none⟩ := by
    rcases HGr.out with ⟨e, h0⟩ | ⟨g, cap, e, _⟩
    ·omega
    ·simp only [Value.slice.injEq] at e; exact ⟨g, e.1⟩
   subst hva
   have hg0 : g < gb := HLT.out g (KB_row.2 (Or.inl rfl))
   obtain ⟨k1, num1, neg1, s1, v1, v2, v3, rfl⟩ := hbt2.shape
   have mc : ∀ j, j < 7 → wr.cell? ⟨g, q * 7 + j, none⟩ = ([.int .u8 k1, .bool neg1, v1, .string s1, .int .i64 num1, v2, v3] : List Value)[j]? := fun j hj => (hP.upd.cell (p := ⟨g, q * 7 + j, none⟩) (HGr.out.lt g rfl) (far_bset HG.out hg0)).trans (hcell g I.length vc rfl j hj)
   have x0 : wr.cell? ⟨g, q * 7, none⟩ = some (.int .u8 k1) := mc 0 (by omega)
   have x1' : wr.cell? ⟨g, q * 7 + 1, none⟩ = some (.bool neg1) := mc 1 (by omega)
   have x2 : wr.cell? ⟨g, q * 7 + 2, none⟩ = some v1 := mc 2 (by omega)
   have x3 : wr.cell? ⟨g, q * 7 + 3, none⟩ = some (.string s1) := mc 3 (by omega)
   have x4 : wr.cell? ⟨g, q * 7 + 4, none⟩ = some (.int .i64 num1) := mc 4 (by omega)
   have x5 : wr.cell? ⟨g, q * 7 + 5, none⟩ = some v2 := mc 5 (by omega)
   have x6 : wr.cell? ⟨g, q * 7 + 6, none⟩ = some v3 := mc 6 (by omega)
   have hla := flat_take_len (show q + 1 ≤ I.length by omega) ls
   have hlc := flat_take_len (show q + 1 ≤ I.length by omega) rs
   rw [flat_succ, List.length_append] at hla hlc
   have HCl : Hid _ := IH.out wr gb x1 y1 _ _ _ _ _ _ hbt2 hkb hb1 (by have := HA.out; rw [List.length_append]; omega) (by have := HC.out; simp only [List.length_append, List.length_cons] at this ⊢; omega)
   have HT : Hid (∀ e w2, Put wr gb x1 y1 ((A ++ (List.range q).flatMap ls) ++ ls q) ((C ++ .slice (some ⟨g, 0, none⟩) I.length vc :: (List.range q).flatMap rs) ++ rs q) e w2 → Put w gb x (.slice ya k yc) ((A ++ (List.range q).flatMap ls) ++ ls q) ((C ++ .slice (some ⟨g, 0, none⟩) I.length vc :: (List.range q).flatMap rs) ++ rs q) e w2) := fun e w2 hp => Put.trans hP.upd ox1 oy1 hp
   clear hbt hbt2 hcell hl7 mc hP hb1 ox1 oy1 hla hlc hkb
   go_wp2_with fail
   refine Calls.mono HCl.out ?_
   intro e w2 hp
   have hp2 := HT.out e w2 hp
   obtain rfl := hp2.ret
   have HP2 : Hid _ := hp2
   clear hp hp2 x0 x1' x2 x3 x4 x5 x6 HT HCl
   go_wp2
   go_roundw
   case rel => exact ⟨q + 1, by omega, by go_num, by rw [flat_succ, flat_succ]; simpa using HP2.out⟩
   case measure => simp [intOf]; omega
  ·have dd : decide ((q : Int) < (I.length : Int)) = false := by simp; omega
   have hqq : q = I.length := by omega
   rw [hqq] at hP
   have HP : Hid _ := hP
   clear hP hqq
   go_wp2
   go_end0
   exact HP.out
set_option maxHeartbeats 4000000 in
set_option maxRecDepth 100000 in
theorem oneTerm_step (d : Nat) (ih : PutSaid d) : PutSaid (d + 1) := by
 intro w gb x y A C cs t LB RB h hlt hb hA hC
 cases t with
 | mk k num neg L s I T =>
  obtain ⟨vl, vi, vt, l1, l2, r1, r2, rfl, h1, h2, h3, rfl, rfl⟩ := h
  obtain ⟨la, lc, rfl, _⟩ := h1.1.form
  have tX := Tb.new w #[.int .u8 k, .bool neg, .slice la L.length lc, .string s, .int .i64 num, vi, vt] _ rfl
  have u0 := (Upd.refl [] w).alloc (.cells #[.int .u8 k, .bool neg, .slice la L.length lc, .string s, .int .i64 num, vi, vt] 26)
  simp only [List.length_append, List.length_cons] at hA hC
  have hb0 := hb.upd u0 (by simp)
  have HP1 : Hid _ := putLimbs_in _ gb x y A C la L.length lc hb0 (by omega)
  have hbx : w.heap.size ∉ bset gb x y := fun hm => by
   rcases mem_bset.1 hm with h1 | h1 | h1
   ·have := hb.blk.lt; omega
   ·have := hb.rx.lt _ h1; omega
   ·have := hb.ry.lt _ h1; omega
  have HI : Hid (∀ W x1 y1, Upd (bset gb x y) w W → BagIs W gb x1 y1 (A ++ [.slice la L.length lc]) C → Calls Tryz.prog 59 #[.pointer (some ⟨gb, 0, none⟩), vi] W (Put W gb x1 y1 ((A ++ [.slice la L.length lc]) ++ l1) (C ++ r1))) := fun W x1 y1 hu hbW =>
   putTerms_in d ih W gb x1 y1 _ C vi I l1 r1 (h2.upd hu (fun z hz => far_bset hb (hlt z (KB_two.2 (Or.inr (Or.inl hz))))) (fun cs t l q hx hR => BT.upd hu _ _ _ _ _ hx hR)) (fun z hz => hlt z (KB_two.2 (Or.inr (Or.inl hz)))) hbW (by simp; omega) (by omega)
  have HTt : Hid (∀ W x1 y1, Upd (bset gb x y) w W → BagIs W gb x1 y1 ((A ++ [.slice la L.length lc]) ++ l1) (C ++ r1) → Calls Tryz.prog 59 #[.pointer (some ⟨gb, 0, none⟩), vt] W (Put W gb x1 y1 (((A ++ [.slice la L.length lc]) ++ l1) ++ l2) ((C ++ r1) ++ r2))) := fun W x1 y1 hu hbW =>
   putTerms_in d ih W gb x1 y1 _ _ vt T l2 r2 (h3.upd hu (fun z hz => far_bset hb (hlt z (KB_two.2 (Or.inr (Or.inr hz))))) (fun cs t l q hx hR => BT.upd hu _ _ _ _ _ hx hR)) (fun z hz => hlt z (KB_two.2 (Or.inr (Or.inr hz)))) hbW (by simp; omega) (by simp; omega)
  have HBX : Hid (w.heap.size ∉ bset gb x y) := hbx
  have HU0 : Hid (Upd [] w _) := u0
  clear h1 h2 h3 hA hC hlt hb hb0 hbx ih u0
  go_enter Tryz.func91, Tryz.ntmps91
  have x2 : (w.alloc (.cells #[.int .u8 k, .bool neg, .slice la L.length lc, .string s, .int .i64 num, vi, vt] 26)).cell? ⟨w.heap.size, 2, none⟩ = some (.slice la L.length lc) := tX.cell 2
  go_wp2_with fail
  refine Calls.mono HP1.out ?_
  intro e w1 hp1
  obtain rfl := hp1.ret
  have tX1 := tX.mono hp1.upd HBX.out
  have x5 : w1.cell? ⟨w.heap.size, 5, none⟩ = some vi := tX1.cell 5
  obtain ⟨x1, y1, hb1, ox1, oy1⟩ := hp1.bag
  have hU1 : Upd (bset gb x y) w w1 := (HU0.out.wide (by simp)).trans hp1.upd
  have HC1 : Hid _ := HI.out w1 x1 y1 hU1 hb1
  have hs1 : w.heap.size < (w.alloc (.cells #[.int .u8 k, .bool neg, .slice la L.length lc, .string s, .int .i64 num, vi, vt] 26)).heap.size := by simp
  have hbx1 : w.heap.size ∉ bset gb x1 y1 := fun hm => by
   rcases mem_bset.1 hm with h1 | h1 | h1
   ·exact HBX.out (mem_bset.2 (Or.inl h1))
   ·rcases ox1 _ h1 with h2 | h2
    ·exact HBX.out (mem_bset.2 (Or.inr (Or.inl h2)))
    ·omega
   ·rcases oy1 _ h1 with h2 | h2
    ·exact HBX.out (mem_bset.2 (Or.inr (Or.inr h2)))
    ·omega
  have HO1 : Hid ((∀ g, x1.ownBlock = some g → x.ownBlock = some g ∨ w.heap.size ≤ g) ∧ (∀ g, y1.ownBlock = some g → y.ownBlock = some g ∨ w.heap.size ≤ g)) := ⟨fun g hg => (ox1 g hg).imp id (fun h => by omega), fun g hg => (oy1 g hg).imp id (fun h => by omega)⟩
  have HBX1 : Hid (w.heap.size ∉ bset gb x1 y1) := hbx1
  have HU1 : Hid (Upd (bset gb x y) w w1) := hU1
  clear hp1 hb1 ox1 oy1 hU1 hbx1 HP1 HI
  go_wp2_with fail
  refine Calls.mono HC1.out ?_
  intro e w2 hp2
  obtain rfl := hp2.ret
  have tX2 := tX1.mono hp2.upd HBX1.out
  have x6 : w2.cell? ⟨w.heap.size, 6, none⟩ = some vt := tX2.cell 6
  have hp2' := Put.trans HU1.out HO1.out.1 HO1.out.2 hp2
  obtain ⟨x2', y2', hb2, ox2, oy2⟩ := hp2'.bag
  have HC2 : Hid _ := HTt.out w2 x2' y2' hp2'.upd hb2
  have HU2 : Hid (Upd (bset gb x y) w w2) := hp2'.upd
  have HO2 : Hid ((∀ g, x2'.ownBlock = some g → x.ownBlock = some g ∨ w.heap.size ≤ g) ∧ (∀ g, y2'.ownBlock = some g → y.ownBlock = some g ∨ w.heap.size ≤ g)) := ⟨ox2, oy2⟩
  clear hp2 hp2' hb2 ox2 oy2 HC1 HTt
  go_wp2_with fail
  refine Calls.mono HC2.out ?_
  intro e w3 hp3
  obtain rfl := hp3.ret
  have hp3' := Put.trans HU2.out HO2.out.1 HO2.out.2 hp3
  have HP3 : Hid _ := hp3'
  clear hp3 hp3'
  go_wp2
  go_end0
  have := HP3.out
  simpa using this
theorem oneTerm_in : ∀ d, PutSaid d
 | 0 => fun _ _ _ _ _ _ _ _ _ _ h => h.elim
 | d + 1 => oneTerm_step d (oneTerm_in d)
end Go.Proofs.YtalhbbabijlngaaGreatDoor
