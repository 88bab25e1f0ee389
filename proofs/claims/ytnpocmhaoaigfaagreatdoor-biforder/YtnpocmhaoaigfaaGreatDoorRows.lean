/-
  NARROWER THAN 'FOR EVERY INPUT', by the rows' own cells (each row's printed sentence says how): BifOrder: loops, laid · BifWhole: loops, laid.
  DERIVED. THE GIVEN ROWS OF THIS SEAT. 2 by the template 'for every input the law returns true; each argument reads behind the call as it read before'; 0 by the template 'total and deterministic' (their statements: YtnpocmhaoaigfaaGreatDoorTotals.lean).
  GIVEN WITH THE SEED: the statements are not yours to turn. If you find one false, say at which input.
  Laid BY PROGRAM, IN A SANDBOX (cutbox-rows.mjs): the forced cells as the released guide's own fill.sh prints them over the translation c27934dee39de810… (all of the seat's roots in one cut). By AI agents, Wed Nov 11 2026. No macro, syntax, notation, axiom, sorry.
-/
import Derived.Test.YtnpocmhaoaigfaaGreatDoorChecked
import GoSem.PinnedTables
import GoSem.Claim
import GoSem.ClaimJoined
import GoSem.ClaimMapViews
import Derived.JoinedTies
import Derived.KernelRfl
namespace Go.Proofs.YtnpocmhaoaigfaaGreatDoor
/- THE CELL 'sum', in the pinned program and in every row, IS THE sha256 OF THE DUMP (.gsa) THAT YtnpocmhaoaigfaaGreatDoorProg.lean LOADS. Nothing in Lean hashes anything: it is a label: what it is worth is what the hold of that sum in a sandbox is worth. -/
noncomputable def Tryz.pinned : Pinned := { name := "ytnpocmhaoaigfaagreatdoor", sum := "c27934dee39de8101a5b179ea267daa6f725ab117daa4ae0ebd62642e8dd88d1", checked := Tryz.checked }
namespace Rows
def none {H : Type} : Left H := { results := [], args := [] }

/- WHAT THE LISTED PACKAGE-LEVEL VARIABLES READ AS WHEN THE CALL BEGINS. Each datum BY PROGRAM (the guide's laid-datum.mjs) off the statement by which the dump's own 'gosem.cut.vars' lays the variable. In a bare row this is a premise. The card (YtnpocmhaoaigfaaGreatDoorCards.lean) ties it to the program's text. -/
def laid_unicode_utf8_acceptRanges {H : Type} : DataW H := .agg [.agg [.lit (.int .u8 128), .lit (.int .u8 191)], .agg [.lit (.int .u8 160), .lit (.int .u8 191)], .agg [.lit (.int .u8 128), .lit (.int .u8 159)], .agg [.lit (.int .u8 144), .lit (.int .u8 191)], .agg [.lit (.int .u8 128), .lit (.int .u8 143)], .agg [.lit (.int .u8 0), .lit (.int .u8 0)], .agg [.lit (.int .u8 0), .lit (.int .u8 0)], .agg [.lit (.int .u8 0), .lit (.int .u8 0)], .agg [.lit (.int .u8 0), .lit (.int .u8 0)], .agg [.lit (.int .u8 0), .lit (.int .u8 0)], .agg [.lit (.int .u8 0), .lit (.int .u8 0)], .agg [.lit (.int .u8 0), .lit (.int .u8 0)], .agg [.lit (.int .u8 0), .lit (.int .u8 0)], .agg [.lit (.int .u8 0), .lit (.int .u8 0)], .agg [.lit (.int .u8 0), .lit (.int .u8 0)], .agg [.lit (.int .u8 0), .lit (.int .u8 0)]]
def laid_pigeonhole_lint_builtIn {H : Type} : DataW H := .agg [.agg [.nil, .nil, .nil, .nil], .agg [.nil, .slice [.lit (.string [116, 117, 112, 108, 101, 95, 116, 111, 95, 108, 105, 115, 116]), .lit (.string [108, 105, 115, 116, 95, 116, 111, 95, 116, 117, 112, 108, 101]), .lit (.string [97, 116, 111, 109, 95, 116, 111, 95, 108, 105, 115, 116]), .lit (.string [108, 105, 115, 116, 95, 116, 111, 95, 97, 116, 111, 109]), .lit (.string [105, 110, 116, 101, 103, 101, 114, 95, 116, 111, 95, 108, 105, 115, 116]), .lit (.string [108, 105, 115, 116, 95, 116, 111, 95, 105, 110, 116, 101, 103, 101, 114]), .lit (.string [114, 101, 118, 101, 114, 115, 101]), .lit (.string [115, 117, 109]), .lit (.string [115, 111, 114, 116]), .lit (.string [117, 115, 111, 114, 116]), .lit (.string [108, 97, 115, 116]), .lit (.string [116, 104, 114, 111, 119]), .lit (.string [101, 114, 114, 111, 114]), .lit (.string [101, 120, 105, 116])] [], .slice [.lit (.string [43, 43]), .lit (.string [45, 45]), .lit (.string [109, 97, 120]), .lit (.string [109, 105, 110]), .lit (.string [110, 116, 104]), .lit (.string [110, 116, 104, 116, 97, 105, 108]), .lit (.string [109, 101, 109, 98, 101, 114]), .lit (.string [115, 101, 113])] [], .slice [.lit (.string [115, 101, 116, 101, 108, 101, 109, 101, 110, 116])] []], .agg [.nil, .slice [.lit (.string [43]), .lit (.string [45]), .lit (.string [110, 111, 116]), .lit (.string [97, 98, 115]), .lit (.string [104, 100]), .lit (.string [116, 108]), .lit (.string [108, 101, 110, 103, 116, 104]), .lit (.string [116, 117, 112, 108, 101, 95, 115, 105, 122, 101]), .lit (.string [105, 115, 95, 105, 110, 116, 101, 103, 101, 114]), .lit (.string [105, 115, 95, 97, 116, 111, 109]), .lit (.string [105, 115, 95, 116, 117, 112, 108, 101]), .lit (.string [105, 115, 95, 108, 105, 115, 116]), .lit (.string [105, 115, 95, 112, 105, 100]), .lit (.string [105, 115, 95, 114, 101, 102, 101, 114, 101, 110, 99, 101]), .lit (.string [105, 115, 95, 102, 117, 110, 99, 116, 105, 111, 110]), .lit (.string [105, 115, 95, 98, 111, 111, 108, 101, 97, 110])] [], .slice [.lit (.string [43]), .lit (.string [45]), .lit (.string [42]), .lit (.string [100, 105, 118]), .lit (.string [114, 101, 109]), .lit (.string [61, 61]), .lit (.string [47, 61]), .lit (.string [61, 58, 61]), .lit (.string [61, 47, 61]), .lit (.string [60]), .lit (.string [61, 60]), .lit (.string [62]), .lit (.string [62, 61]), .lit (.string [97, 110, 100]), .lit (.string [111, 114]), .lit (.string [120, 111, 114]), .lit (.string [101, 108, 101, 109, 101, 110, 116]), .lit (.string [105, 115, 95, 102, 117, 110, 99, 116, 105, 111, 110])] [], .nil], .agg [.slice [.lit (.string [115, 101, 108, 102]), .lit (.string [109, 97, 107, 101, 95, 114, 101, 102]), .lit (.string [110, 111, 119])] [], .slice [.lit (.string [115, 112, 97, 119, 110]), .lit (.string [115, 112, 97, 119, 110, 95, 108, 105, 110, 107]), .lit (.string [115, 112, 97, 119, 110, 95, 109, 111, 110, 105, 116, 111, 114]), .lit (.string [108, 105, 110, 107]), .lit (.string [117, 110, 108, 105, 110, 107]), .lit (.string [109, 111, 110, 105, 116, 111, 114]), .lit (.string [100, 101, 109, 111, 110, 105, 116, 111, 114]), .lit (.string [116, 114, 97, 112, 95, 101, 120, 105, 116]), .lit (.string [117, 110, 114, 101, 103, 105, 115, 116, 101, 114]), .lit (.string [119, 104, 101, 114, 101, 105, 115]), .lit (.string [112, 114, 105, 110, 116])] [], .slice [.lit (.string [33]), .lit (.string [101, 120, 105, 116]), .lit (.string [114, 101, 103, 105, 115, 116, 101, 114])] [], .nil]]
def laid_pigeonhole_bif_kindTests {H : Type} : DataW H := .agg [.agg [.lit (.string [105, 115, 95, 105, 110, 116, 101, 103, 101, 114]), .lit (.int .u8 1)], .agg [.lit (.string [105, 115, 95, 97, 116, 111, 109]), .lit (.int .u8 2)], .agg [.lit (.string [105, 115, 95, 116, 117, 112, 108, 101]), .lit (.int .u8 6)], .agg [.lit (.string [105, 115, 95, 108, 105, 115, 116]), .lit (.int .u8 7)], .agg [.lit (.string [105, 115, 95, 112, 105, 100]), .lit (.int .u8 5)], .agg [.lit (.string [105, 115, 95, 114, 101, 102, 101, 114, 101, 110, 99, 101]), .lit (.int .u8 3)], .agg [.lit (.string [105, 115, 95, 102, 117, 110, 99, 116, 105, 111, 110]), .lit (.int .u8 4)]]
/-- One of Go's own tables, pinned by name: the form's constant. -/
def laid_unicode_utf8_first : DataW Unit := Go.Pinned.utf8First

/-- 'pigeonholelaw10.BifOrder': WHATEVER THE INPUT: true; the input reads as it did. -/
def bifOrderSpec : ChangeSpec := { name := "bifOrder", fn := fun _ => fun
  | [d1, d2] => { results := [.lit (.bool true)], args := [d1, d2] }
  | _ => none }
def bifOrderRow : OpenClaim := { program := "ytnpocmhaoaigfaagreatdoor", sum := "c27934dee39de8101a5b179ea267daa6f725ab117daa4ae0ebd62642e8dd88d1", func := "pigeonhole/pigeonholelaw10.BifOrder", spec := "bifOrder", inPlace := ["internal/abi.NoEscape", "internal/bytealg.IndexByteString", "internal/bytealg.IndexString", "internal/bytealg.abigen_runtime_cmpstring"], unfollowed := true, recurses := true, named := ["pigeonhole/lint.builtIn", "unicode/utf8.first", "unicode/utf8.acceptRanges", "pigeonhole/bif.kindTests", "internal/bytealg.MaxLen"], loops := true, plainKeys := false, apart := false, laid := [("unicode/utf8.acceptRanges", laid_unicode_utf8_acceptRanges), ("pigeonhole/lint.builtIn", laid_pigeonhole_lint_builtIn), ("pigeonhole/bif.kindTests", laid_pigeonhole_bif_kindTests), ("unicode/utf8.first", laid_unicode_utf8_first)] }
def BifOrderSaid : Prop := bifOrderRow.holds Tryz.pinned (OpenSpec.ofChange bifOrderSpec)

/-- ITS FALSE NEIGHBOUR: 'it returns false'. Refute it at one input. -/
def bifOrderWrong : ChangeSpec := { name := "bifOrder", fn := fun _ => fun
  | [d1, d2] => { results := [.lit (.bool false)], args := [d1, d2] }
  | _ => none }
def BifOrderWrongFalsely : Prop := bifOrderRow.holds Tryz.pinned (OpenSpec.ofChange bifOrderWrong)

/-- 'pigeonholelaw10.BifWhole': WHATEVER THE INPUT: true; the input reads as it did. -/
def bifWholeSpec : ChangeSpec := { name := "bifWhole", fn := fun _ => fun
  | [d1, d2] => { results := [.lit (.bool true)], args := [d1, d2] }
  | _ => none }
def bifWholeRow : OpenClaim := { program := "ytnpocmhaoaigfaagreatdoor", sum := "c27934dee39de8101a5b179ea267daa6f725ab117daa4ae0ebd62642e8dd88d1", func := "pigeonhole/pigeonholelaw10.BifWhole", spec := "bifWhole", inPlace := ["internal/abi.NoEscape", "internal/bytealg.IndexByteString", "internal/bytealg.IndexString", "internal/bytealg.abigen_runtime_cmpstring"], unfollowed := true, recurses := true, named := ["pigeonhole/lint.builtIn", "unicode/utf8.first", "unicode/utf8.acceptRanges", "pigeonhole/bif.kindTests", "internal/bytealg.MaxLen"], loops := true, plainKeys := false, apart := false, laid := [("unicode/utf8.acceptRanges", laid_unicode_utf8_acceptRanges), ("pigeonhole/lint.builtIn", laid_pigeonhole_lint_builtIn), ("pigeonhole/bif.kindTests", laid_pigeonhole_bif_kindTests), ("unicode/utf8.first", laid_unicode_utf8_first)] }
def BifWholeSaid : Prop := bifWholeRow.holds Tryz.pinned (OpenSpec.ofChange bifWholeSpec)

/-- ITS FALSE NEIGHBOUR: 'it returns false'. Refute it at one input. -/
def bifWholeWrong : ChangeSpec := { name := "bifWhole", fn := fun _ => fun
  | [d1, d2] => { results := [.lit (.bool false)], args := [d1, d2] }
  | _ => none }
def BifWholeWrongFalsely : Prop := bifWholeRow.holds Tryz.pinned (OpenSpec.ofChange bifWholeWrong)

/- THE SECOND FORM. 'bulk': how many values and letters a reading holds, each counted each time it is reached (what is shared counts as often as it is met; a slice's spare places count too). A statement '..UptoSaid' is the law's where the arguments, and the package variables that the reading takes, are together of bulk at most 1048576: NARROWER than '..Said'. Prove '..Said' where nothing that the law and all that it calls make is longer than what came in: it says more and counts as full. Else prove '..UptoSaid'. A law counts once. -/
mutual
def uptoBulk {H : Type} : DataW H → Nat
  | .lit (.string bytes) => bytes.length + 1
  | .lit _ => 1
  | .nil => 1
  | .ptr d => uptoBulk d + 1
  | .slice elems spare => uptoBulkAll elems + uptoBulkAll spare + 1
  | .agg parts => uptoBulkAll parts + 1
  | .iface _ d => uptoBulk d + 1
  | .map entries => uptoBulkEntries entries + 1
  | .held _ => 1
def uptoBulkAll {H : Type} : List (DataW H) → Nat
  | [] => 0
  | d :: r => uptoBulk d + uptoBulkAll r
def uptoBulkEntries {H : Type} : List (Lit × DataW H) → Nat
  | [] => 0
  | x :: r => uptoBulkEntry x + uptoBulkEntries r
def uptoBulkEntry {H : Type} : Lit × DataW H → Nat
  | (.string bytes, d) => bytes.length + uptoBulk d + 1
  | (_, d) => uptoBulk d + 1
 end
def uptoSmall : (H : Type) → List (DataW H) → Bool := fun _ ds => decide (uptoBulkAll ds ≤ 1048576)
def OpenSpec.upto (s : _root_.Go.ChangeSpec) : _root_.Go.OpenSpec := { _root_.Go.OpenSpec.ofChange s with cond := some uptoSmall }

/-- 'pigeonholelaw10.BifOrder', WHERE WHAT IT READS IS OF BULK AT MOST 1048576: true; the input reads as it did. -/
def bifOrderUptoRow : OpenClaim := { program := "ytnpocmhaoaigfaagreatdoor", sum := "c27934dee39de8101a5b179ea267daa6f725ab117daa4ae0ebd62642e8dd88d1", func := "pigeonhole/pigeonholelaw10.BifOrder", spec := "bifOrder", inPlace := ["internal/abi.NoEscape", "internal/bytealg.IndexByteString", "internal/bytealg.IndexString", "internal/bytealg.abigen_runtime_cmpstring"], unfollowed := true, recurses := true, named := ["pigeonhole/lint.builtIn", "unicode/utf8.first", "unicode/utf8.acceptRanges", "pigeonhole/bif.kindTests", "internal/bytealg.MaxLen"], loops := true, plainKeys := false, apart := false, laid := [("unicode/utf8.acceptRanges", laid_unicode_utf8_acceptRanges), ("pigeonhole/lint.builtIn", laid_pigeonhole_lint_builtIn), ("pigeonhole/bif.kindTests", laid_pigeonhole_bif_kindTests), ("unicode/utf8.first", laid_unicode_utf8_first)], narrowed := true }
def BifOrderUptoSaid : Prop := bifOrderUptoRow.holds Tryz.pinned (OpenSpec.upto bifOrderSpec)

/-- 'pigeonholelaw10.BifWhole', WHERE WHAT IT READS IS OF BULK AT MOST 1048576: true; the input reads as it did. -/
def bifWholeUptoRow : OpenClaim := { program := "ytnpocmhaoaigfaagreatdoor", sum := "c27934dee39de8101a5b179ea267daa6f725ab117daa4ae0ebd62642e8dd88d1", func := "pigeonhole/pigeonholelaw10.BifWhole", spec := "bifWhole", inPlace := ["internal/abi.NoEscape", "internal/bytealg.IndexByteString", "internal/bytealg.IndexString", "internal/bytealg.abigen_runtime_cmpstring"], unfollowed := true, recurses := true, named := ["pigeonhole/lint.builtIn", "unicode/utf8.first", "unicode/utf8.acceptRanges", "pigeonhole/bif.kindTests", "internal/bytealg.MaxLen"], loops := true, plainKeys := false, apart := false, laid := [("unicode/utf8.acceptRanges", laid_unicode_utf8_acceptRanges), ("pigeonhole/lint.builtIn", laid_pigeonhole_lint_builtIn), ("pigeonhole/bif.kindTests", laid_pigeonhole_bif_kindTests), ("unicode/utf8.first", laid_unicode_utf8_first)], narrowed := true }
def BifWholeUptoSaid : Prop := bifWholeUptoRow.holds Tryz.pinned (OpenSpec.upto bifWholeSpec)

end Rows
end Go.Proofs.YtnpocmhaoaigfaaGreatDoor
