/-
  NARROWER THAN 'FOR EVERY INPUT', by the rows' own cells (each row's printed sentence says how): LintKinds: laid · LintNumbers: laid · LintNames: loops, laid · LintParts: loops, laid.
  DERIVED. THE GIVEN ROWS OF THIS SEAT. 4 by the template 'for every input the law returns true; each argument reads behind the call as it read before'; 0 by the template 'total and deterministic' (their statements: YtpgjcedonimgnaaDoorTotals.lean).
  GIVEN WITH THE SEED: the statements are not yours to turn. If you find one false, say at which input.
  Laid BY PROGRAM, IN A SANDBOX (cutbox-rows.mjs): the forced cells as the released guide's own fill.sh prints them over the translation fe5f95f394b7370b… (all of the seat's roots in one cut). By AI agents, Wed Nov 11 2026. No macro, syntax, notation, axiom, sorry.
-/
import Derived.Test.YtpgjcedonimgnaaDoorChecked
import GoSem.Claim
import GoSem.ClaimJoined
import GoSem.ClaimMapViews
import Derived.JoinedTies
import Derived.KernelRfl
namespace Go.Proofs.YtpgjcedonimgnaaDoor
/- THE CELL 'sum', in the pinned program and in every row, IS THE sha256 OF THE DUMP (.gsa) THAT YtpgjcedonimgnaaDoorProg.lean LOADS. Nothing in Lean hashes anything: it is a label: what it is worth is what the hold of that sum in a sandbox is worth. -/
noncomputable def Tryd.pinned : Pinned := { name := "ytpgjcedonimgnaadoor", sum := "fe5f95f394b7370b84f323cf918d6d5c698ea6e80404fa32147bfae69823ee6a", checked := Tryd.checked }
namespace Rows
def none {H : Type} : Left H := { results := [], args := [] }

/- WHAT THE LISTED PACKAGE-LEVEL VARIABLES READ AS WHEN THE CALL BEGINS. Each datum BY PROGRAM (the guide's laid-datum.mjs) off the statement by which the dump's own 'gosem.cut.vars' lays the variable. In a bare row this is a premise. The card (YtpgjcedonimgnaaDoorCards.lean) ties it to the program's text. -/
def laid_pigeonhole_node_operators {H : Type} : DataW H := .agg [.agg [.lit (.string [45]), .lit (.int .u8 1)], .agg [.lit (.string [43]), .lit (.int .u8 1)], .agg [.lit (.string [110, 111, 116]), .lit (.int .u8 1)], .agg [.lit (.string [33]), .lit (.int .u8 2)], .agg [.lit (.string [111, 114, 101, 108, 115, 101]), .lit (.int .u8 2)], .agg [.lit (.string [97, 110, 100, 97, 108, 115, 111]), .lit (.int .u8 2)], .agg [.lit (.string [61, 61]), .lit (.int .u8 2)], .agg [.lit (.string [47, 61]), .lit (.int .u8 2)], .agg [.lit (.string [61, 58, 61]), .lit (.int .u8 2)], .agg [.lit (.string [61, 47, 61]), .lit (.int .u8 2)], .agg [.lit (.string [60]), .lit (.int .u8 2)], .agg [.lit (.string [61, 60]), .lit (.int .u8 2)], .agg [.lit (.string [62]), .lit (.int .u8 2)], .agg [.lit (.string [62, 61]), .lit (.int .u8 2)], .agg [.lit (.string [43, 43]), .lit (.int .u8 2)], .agg [.lit (.string [45, 45]), .lit (.int .u8 2)], .agg [.lit (.string [43]), .lit (.int .u8 2)], .agg [.lit (.string [45]), .lit (.int .u8 2)], .agg [.lit (.string [111, 114]), .lit (.int .u8 2)], .agg [.lit (.string [120, 111, 114]), .lit (.int .u8 2)], .agg [.lit (.string [42]), .lit (.int .u8 2)], .agg [.lit (.string [100, 105, 118]), .lit (.int .u8 2)], .agg [.lit (.string [114, 101, 109]), .lit (.int .u8 2)], .agg [.lit (.string [97, 110, 100]), .lit (.int .u8 2)]]
def laid_pigeonhole_node_forms {H : Type} : DataW H := .agg [.agg [.lit (.int .u8 0), .lit (.int .u8 1), .lit (.int .u8 0), .nil, .lit (.bool false)], .agg [.lit (.int .u8 0), .lit (.int .u8 2), .lit (.int .u8 0), .nil, .lit (.bool false)], .agg [.lit (.int .u8 0), .lit (.int .u8 3), .lit (.int .u8 0), .nil, .lit (.bool false)], .agg [.lit (.int .u8 0), .lit (.int .u8 4), .lit (.int .u8 0), .nil, .lit (.bool false)], .agg [.lit (.int .u8 0), .lit (.int .u8 5), .lit (.int .u8 0), .slice [.lit (.int .u8 0)] [], .lit (.bool true)], .agg [.lit (.int .u8 0), .lit (.int .u8 6), .lit (.int .u8 0), .slice [.lit (.int .u8 0)] [], .lit (.bool true)], .agg [.lit (.int .u8 0), .lit (.int .u8 7), .lit (.int .u8 1), .slice [.lit (.int .u8 0), .lit (.int .u8 0)] [], .lit (.bool false)], .agg [.lit (.int .u8 0), .lit (.int .u8 8), .lit (.int .u8 2), .slice [.lit (.int .u8 0), .lit (.int .u8 0)] [], .lit (.bool false)], .agg [.lit (.int .u8 0), .lit (.int .u8 9), .lit (.int .u8 1), .slice [.lit (.int .u8 0)] [], .lit (.bool true)], .agg [.lit (.int .u8 0), .lit (.int .u8 10), .lit (.int .u8 1), .slice [.lit (.int .u8 9)] [], .lit (.bool true)], .agg [.lit (.int .u8 0), .lit (.int .u8 11), .lit (.int .u8 0), .nil, .lit (.bool false)], .agg [.lit (.int .u8 0), .lit (.int .u8 12), .lit (.int .u8 2), .slice [.lit (.int .u8 0), .lit (.int .u8 10)] [], .lit (.bool true)], .agg [.lit (.int .u8 0), .lit (.int .u8 13), .lit (.int .u8 1), .slice [.lit (.int .u8 11)] [], .lit (.bool true)], .agg [.lit (.int .u8 0), .lit (.int .u8 14), .lit (.int .u8 1), .slice [.lit (.int .u8 16)] [], .lit (.bool true)], .agg [.lit (.int .u8 0), .lit (.int .u8 16), .lit (.int .u8 2), .slice [.lit (.int .u8 3), .lit (.int .u8 12)] [], .lit (.bool true)], .agg [.lit (.int .u8 0), .lit (.int .u8 17), .lit (.int .u8 2), .slice [.lit (.int .u8 0), .lit (.int .u8 17)] [], .lit (.bool true)], .agg [.lit (.int .u8 0), .lit (.int .u8 19), .lit (.int .u8 1), .slice [.lit (.int .u8 0)] [], .lit (.bool true)], .agg [.lit (.int .u8 1), .lit (.int .u8 22), .lit (.int .u8 0), .slice [.lit (.int .u8 2)] [], .lit (.bool true)], .agg [.lit (.int .u8 2), .lit (.int .u8 21), .lit (.int .u8 1), .slice [.lit (.int .u8 9)] [], .lit (.bool true)], .agg [.lit (.int .u8 3), .lit (.int .u8 19), .lit (.int .u8 1), .slice [.lit (.int .u8 0)] [], .lit (.bool true)], .agg [.lit (.int .u8 4), .lit (.int .u8 19), .lit (.int .u8 0), .slice [.lit (.int .u8 0)] [], .lit (.bool true)], .agg [.lit (.int .u8 5), .lit (.int .u8 19), .lit (.int .u8 1), .slice [.lit (.int .u8 0)] [], .lit (.bool false)], .agg [.lit (.int .u8 6), .lit (.int .u8 19), .lit (.int .u8 0), .nil, .lit (.bool false)], .agg [.lit (.int .u8 7), .lit (.int .u8 19), .lit (.int .u8 0), .slice [.lit (.int .u8 3)] [], .lit (.bool true)], .agg [.lit (.int .u8 8), .lit (.int .u8 19), .lit (.int .u8 1), .slice [.lit (.int .u8 3)] [], .lit (.bool true)], .agg [.lit (.int .u8 9), .lit (.int .u8 20), .lit (.int .u8 3), .slice [.lit (.int .u8 4), .lit (.int .u8 7), .lit (.int .u8 3)] [], .lit (.bool false)], .agg [.lit (.int .u8 10), .lit (.int .u8 20), .lit (.int .u8 3), .slice [.lit (.int .u8 5), .lit (.int .u8 7), .lit (.int .u8 3)] [], .lit (.bool false)], .agg [.lit (.int .u8 11), .lit (.int .u8 20), .lit (.int .u8 3), .slice [.lit (.int .u8 6), .lit (.int .u8 8), .lit (.int .u8 3)] [], .lit (.bool false)], .agg [.lit (.int .u8 12), .lit (.int .u8 20), .lit (.int .u8 3), .slice [.lit (.int .u8 13), .lit (.int .u8 7), .lit (.int .u8 3)] [], .lit (.bool false)], .agg [.lit (.int .u8 13), .lit (.int .u8 19), .lit (.int .u8 1), .slice [.lit (.int .u8 14)] [], .lit (.bool false)], .agg [.lit (.int .u8 14), .lit (.int .u8 5), .lit (.int .u8 2), .slice [.lit (.int .u8 15), .lit (.int .u8 0)] [], .lit (.bool false)], .agg [.lit (.int .u8 15), .lit (.int .u8 2), .lit (.int .u8 0), .nil, .lit (.bool false)], .agg [.lit (.int .u8 15), .lit (.int .u8 3), .lit (.int .u8 0), .nil, .lit (.bool false)], .agg [.lit (.int .u8 16), .lit (.int .u8 20), .lit (.int .u8 3), .slice [.lit (.int .u8 5), .lit (.int .u8 7), .lit (.int .u8 3)] [], .lit (.bool false)], .agg [.lit (.int .u8 16), .lit (.int .u8 15), .lit (.int .u8 2), .slice [.lit (.int .u8 0), .lit (.int .u8 3)] [], .lit (.bool false)], .agg [.lit (.int .u8 17), .lit (.int .u8 18), .lit (.int .u8 2), .slice [.lit (.int .u8 0), .lit (.int .u8 0)] [], .lit (.bool false)]]
def laid_pigeonhole_lint_builtIn {H : Type} : DataW H := .agg [.agg [.nil, .nil, .nil, .nil], .agg [.nil, .slice [.lit (.string [116, 117, 112, 108, 101, 95, 116, 111, 95, 108, 105, 115, 116]), .lit (.string [108, 105, 115, 116, 95, 116, 111, 95, 116, 117, 112, 108, 101]), .lit (.string [97, 116, 111, 109, 95, 116, 111, 95, 108, 105, 115, 116]), .lit (.string [108, 105, 115, 116, 95, 116, 111, 95, 97, 116, 111, 109]), .lit (.string [105, 110, 116, 101, 103, 101, 114, 95, 116, 111, 95, 108, 105, 115, 116]), .lit (.string [108, 105, 115, 116, 95, 116, 111, 95, 105, 110, 116, 101, 103, 101, 114]), .lit (.string [114, 101, 118, 101, 114, 115, 101]), .lit (.string [115, 117, 109]), .lit (.string [115, 111, 114, 116]), .lit (.string [117, 115, 111, 114, 116]), .lit (.string [108, 97, 115, 116]), .lit (.string [116, 104, 114, 111, 119]), .lit (.string [101, 114, 114, 111, 114]), .lit (.string [101, 120, 105, 116])] [], .slice [.lit (.string [43, 43]), .lit (.string [45, 45]), .lit (.string [109, 97, 120]), .lit (.string [109, 105, 110]), .lit (.string [110, 116, 104]), .lit (.string [110, 116, 104, 116, 97, 105, 108]), .lit (.string [109, 101, 109, 98, 101, 114]), .lit (.string [115, 101, 113])] [], .slice [.lit (.string [115, 101, 116, 101, 108, 101, 109, 101, 110, 116])] []], .agg [.nil, .slice [.lit (.string [43]), .lit (.string [45]), .lit (.string [110, 111, 116]), .lit (.string [97, 98, 115]), .lit (.string [104, 100]), .lit (.string [116, 108]), .lit (.string [108, 101, 110, 103, 116, 104]), .lit (.string [116, 117, 112, 108, 101, 95, 115, 105, 122, 101]), .lit (.string [105, 115, 95, 105, 110, 116, 101, 103, 101, 114]), .lit (.string [105, 115, 95, 97, 116, 111, 109]), .lit (.string [105, 115, 95, 116, 117, 112, 108, 101]), .lit (.string [105, 115, 95, 108, 105, 115, 116]), .lit (.string [105, 115, 95, 112, 105, 100]), .lit (.string [105, 115, 95, 114, 101, 102, 101, 114, 101, 110, 99, 101]), .lit (.string [105, 115, 95, 102, 117, 110, 99, 116, 105, 111, 110]), .lit (.string [105, 115, 95, 98, 111, 111, 108, 101, 97, 110])] [], .slice [.lit (.string [43]), .lit (.string [45]), .lit (.string [42]), .lit (.string [100, 105, 118]), .lit (.string [114, 101, 109]), .lit (.string [61, 61]), .lit (.string [47, 61]), .lit (.string [61, 58, 61]), .lit (.string [61, 47, 61]), .lit (.string [60]), .lit (.string [61, 60]), .lit (.string [62]), .lit (.string [62, 61]), .lit (.string [97, 110, 100]), .lit (.string [111, 114]), .lit (.string [120, 111, 114]), .lit (.string [101, 108, 101, 109, 101, 110, 116]), .lit (.string [105, 115, 95, 102, 117, 110, 99, 116, 105, 111, 110])] [], .nil], .agg [.slice [.lit (.string [115, 101, 108, 102]), .lit (.string [109, 97, 107, 101, 95, 114, 101, 102]), .lit (.string [110, 111, 119])] [], .slice [.lit (.string [115, 112, 97, 119, 110]), .lit (.string [115, 112, 97, 119, 110, 95, 108, 105, 110, 107]), .lit (.string [115, 112, 97, 119, 110, 95, 109, 111, 110, 105, 116, 111, 114]), .lit (.string [108, 105, 110, 107]), .lit (.string [117, 110, 108, 105, 110, 107]), .lit (.string [109, 111, 110, 105, 116, 111, 114]), .lit (.string [100, 101, 109, 111, 110, 105, 116, 111, 114]), .lit (.string [116, 114, 97, 112, 95, 101, 120, 105, 116]), .lit (.string [117, 110, 114, 101, 103, 105, 115, 116, 101, 114]), .lit (.string [119, 104, 101, 114, 101, 105, 115]), .lit (.string [112, 114, 105, 110, 116])] [], .slice [.lit (.string [33]), .lit (.string [101, 120, 105, 116]), .lit (.string [114, 101, 103, 105, 115, 116, 101, 114])] [], .nil]]

/-- 'pigeonholelaw07.LintKinds': WHATEVER THE INPUT: true; the input reads as it did. -/
def lintKindsSpec : ChangeSpec := { name := "lintKinds", fn := fun _ => fun
  | [d1, d2] => { results := [.lit (.bool true)], args := [d1, d2] }
  | _ => none }
def lintKindsRow : OpenClaim := { program := "ytpgjcedonimgnaadoor", sum := "fe5f95f394b7370b84f323cf918d6d5c698ea6e80404fa32147bfae69823ee6a", func := "pigeonhole/pigeonholelaw07.LintKinds", spec := "lintKinds", unfollowed := true, recurses := true, named := ["pigeonhole/node.forms", "pigeonhole/node.operators", "pigeonhole/lint.builtIn"], plainKeys := false, apart := false, laid := [("pigeonhole/node.operators", laid_pigeonhole_node_operators), ("pigeonhole/node.forms", laid_pigeonhole_node_forms), ("pigeonhole/lint.builtIn", laid_pigeonhole_lint_builtIn)] }
def LintKindsSaid : Prop := lintKindsRow.holds Tryd.pinned (OpenSpec.ofChange lintKindsSpec)

/-- ITS FALSE NEIGHBOUR: 'it returns false'. Refute it at one input. -/
def lintKindsWrong : ChangeSpec := { name := "lintKinds", fn := fun _ => fun
  | [d1, d2] => { results := [.lit (.bool false)], args := [d1, d2] }
  | _ => none }
def LintKindsWrongFalsely : Prop := lintKindsRow.holds Tryd.pinned (OpenSpec.ofChange lintKindsWrong)

/-- 'pigeonholelaw07.LintNumbers': WHATEVER THE INPUT: true; the input reads as it did. -/
def lintNumbersSpec : ChangeSpec := { name := "lintNumbers", fn := fun _ => fun
  | [] => { results := [.lit (.bool true)], args := [] }
  | _ => none }
def lintNumbersRow : OpenClaim := { program := "ytpgjcedonimgnaadoor", sum := "fe5f95f394b7370b84f323cf918d6d5c698ea6e80404fa32147bfae69823ee6a", func := "pigeonhole/pigeonholelaw07.LintNumbers", spec := "lintNumbers", unfollowed := true, recurses := true, named := ["pigeonhole/node.forms", "pigeonhole/node.operators", "pigeonhole/lint.builtIn"], plainKeys := false, apart := false, laid := [("pigeonhole/node.operators", laid_pigeonhole_node_operators), ("pigeonhole/node.forms", laid_pigeonhole_node_forms), ("pigeonhole/lint.builtIn", laid_pigeonhole_lint_builtIn)] }
def LintNumbersSaid : Prop := lintNumbersRow.holds Tryd.pinned (OpenSpec.ofChange lintNumbersSpec)

/-- ITS FALSE NEIGHBOUR: 'it returns false'. Refute it at one input. -/
def lintNumbersWrong : ChangeSpec := { name := "lintNumbers", fn := fun _ => fun
  | [] => { results := [.lit (.bool false)], args := [] }
  | _ => none }
def LintNumbersWrongFalsely : Prop := lintNumbersRow.holds Tryd.pinned (OpenSpec.ofChange lintNumbersWrong)

/-- 'pigeonholelaw07.LintNames': WHATEVER THE INPUT: true; the input reads as it did. -/
def lintNamesSpec : ChangeSpec := { name := "lintNames", fn := fun _ => fun
  | [d1, d2] => { results := [.lit (.bool true)], args := [d1, d2] }
  | _ => none }
def lintNamesRow : OpenClaim := { program := "ytpgjcedonimgnaadoor", sum := "fe5f95f394b7370b84f323cf918d6d5c698ea6e80404fa32147bfae69823ee6a", func := "pigeonhole/pigeonholelaw07.LintNames", spec := "lintNames", unfollowed := true, recurses := true, named := ["pigeonhole/node.forms", "pigeonhole/node.operators", "pigeonhole/lint.builtIn"], loops := true, plainKeys := false, apart := false, laid := [("pigeonhole/node.operators", laid_pigeonhole_node_operators), ("pigeonhole/node.forms", laid_pigeonhole_node_forms), ("pigeonhole/lint.builtIn", laid_pigeonhole_lint_builtIn)] }
def LintNamesSaid : Prop := lintNamesRow.holds Tryd.pinned (OpenSpec.ofChange lintNamesSpec)

/-- ITS FALSE NEIGHBOUR: 'it returns false'. Refute it at one input. -/
def lintNamesWrong : ChangeSpec := { name := "lintNames", fn := fun _ => fun
  | [d1, d2] => { results := [.lit (.bool false)], args := [d1, d2] }
  | _ => none }
def LintNamesWrongFalsely : Prop := lintNamesRow.holds Tryd.pinned (OpenSpec.ofChange lintNamesWrong)

/-- 'pigeonholelaw07.LintParts': WHATEVER THE INPUT: true; the input reads as it did. -/
def lintPartsSpec : ChangeSpec := { name := "lintParts", fn := fun _ => fun
  | [d1, d2, d3] => { results := [.lit (.bool true)], args := [d1, d2, d3] }
  | _ => none }
def lintPartsRow : OpenClaim := { program := "ytpgjcedonimgnaadoor", sum := "fe5f95f394b7370b84f323cf918d6d5c698ea6e80404fa32147bfae69823ee6a", func := "pigeonhole/pigeonholelaw07.LintParts", spec := "lintParts", unfollowed := true, recurses := true, named := ["pigeonhole/node.forms", "pigeonhole/node.operators", "pigeonhole/lint.builtIn"], loops := true, plainKeys := false, apart := false, laid := [("pigeonhole/node.operators", laid_pigeonhole_node_operators), ("pigeonhole/node.forms", laid_pigeonhole_node_forms), ("pigeonhole/lint.builtIn", laid_pigeonhole_lint_builtIn)] }
def LintPartsSaid : Prop := lintPartsRow.holds Tryd.pinned (OpenSpec.ofChange lintPartsSpec)

/-- ITS FALSE NEIGHBOUR: 'it returns false'. Refute it at one input. -/
def lintPartsWrong : ChangeSpec := { name := "lintParts", fn := fun _ => fun
  | [d1, d2, d3] => { results := [.lit (.bool false)], args := [d1, d2, d3] }
  | _ => none }
def LintPartsWrongFalsely : Prop := lintPartsRow.holds Tryd.pinned (OpenSpec.ofChange lintPartsWrong)

/- THE SECOND FORM. 'bulk': how many values and letters a reading holds, each counted each time it is reached (what is shared counts as often as it is met; a slice's spare places count too). A statement '..UptoSaid' is the law's where the arguments, and the package variables that the reading takes, are together of bulk at most 1048576: NARROWER than '..Said'. Prove '..Said' where nothing that the law and all that it calls make is longer than what came in: it says more and counts as full. Else prove '..UptoSaid'. A law counts once. -/
mutual
def uptoBulk {H : Type} : DataW H → Nat
  | .lit (.string bytes) => bytes.length + 1
  | .lit _ => 1
  | .nil => 1
  | .ptr d => uptoBulk d + 1
  | .slice elems spare => uptoBulkAll elems + uptoBulkAll spare + 1
  | .agg parts => uptoBulkAll parts + 1
  | .iface _ d => uptoBulk d + 1
  | .map entries => uptoBulkEntries entries + 1
  | .held _ => 1
def uptoBulkAll {H : Type} : List (DataW H) → Nat
  | [] => 0
  | d :: r => uptoBulk d + uptoBulkAll r
def uptoBulkEntries {H : Type} : List (Lit × DataW H) → Nat
  | [] => 0
  | x :: r => uptoBulkEntry x + uptoBulkEntries r
def uptoBulkEntry {H : Type} : Lit × DataW H → Nat
  | (.string bytes, d) => bytes.length + uptoBulk d + 1
  | (_, d) => uptoBulk d + 1
 end
def uptoSmall : (H : Type) → List (DataW H) → Bool := fun _ ds => decide (uptoBulkAll ds ≤ 1048576)
def OpenSpec.upto (s : _root_.Go.ChangeSpec) : _root_.Go.OpenSpec := { _root_.Go.OpenSpec.ofChange s with cond := some uptoSmall }

/-- 'pigeonholelaw07.LintKinds', WHERE WHAT IT READS IS OF BULK AT MOST 1048576: true; the input reads as it did. -/
def lintKindsUptoRow : OpenClaim := { program := "ytpgjcedonimgnaadoor", sum := "fe5f95f394b7370b84f323cf918d6d5c698ea6e80404fa32147bfae69823ee6a", func := "pigeonhole/pigeonholelaw07.LintKinds", spec := "lintKinds", unfollowed := true, recurses := true, named := ["pigeonhole/node.forms", "pigeonhole/node.operators", "pigeonhole/lint.builtIn"], plainKeys := false, apart := false, laid := [("pigeonhole/node.operators", laid_pigeonhole_node_operators), ("pigeonhole/node.forms", laid_pigeonhole_node_forms), ("pigeonhole/lint.builtIn", laid_pigeonhole_lint_builtIn)], narrowed := true }
def LintKindsUptoSaid : Prop := lintKindsUptoRow.holds Tryd.pinned (OpenSpec.upto lintKindsSpec)

/-- 'pigeonholelaw07.LintNumbers', WHERE WHAT IT READS IS OF BULK AT MOST 1048576: true; the input reads as it did. -/
def lintNumbersUptoRow : OpenClaim := { program := "ytpgjcedonimgnaadoor", sum := "fe5f95f394b7370b84f323cf918d6d5c698ea6e80404fa32147bfae69823ee6a", func := "pigeonhole/pigeonholelaw07.LintNumbers", spec := "lintNumbers", unfollowed := true, recurses := true, named := ["pigeonhole/node.forms", "pigeonhole/node.operators", "pigeonhole/lint.builtIn"], plainKeys := false, apart := false, laid := [("pigeonhole/node.operators", laid_pigeonhole_node_operators), ("pigeonhole/node.forms", laid_pigeonhole_node_forms), ("pigeonhole/lint.builtIn", laid_pigeonhole_lint_builtIn)], narrowed := true }
def LintNumbersUptoSaid : Prop := lintNumbersUptoRow.holds Tryd.pinned (OpenSpec.upto lintNumbersSpec)

/-- 'pigeonholelaw07.LintNames', WHERE WHAT IT READS IS OF BULK AT MOST 1048576: true; the input reads as it did. -/
def lintNamesUptoRow : OpenClaim := { program := "ytpgjcedonimgnaadoor", sum := "fe5f95f394b7370b84f323cf918d6d5c698ea6e80404fa32147bfae69823ee6a", func := "pigeonhole/pigeonholelaw07.LintNames", spec := "lintNames", unfollowed := true, recurses := true, named := ["pigeonhole/node.forms", "pigeonhole/node.operators", "pigeonhole/lint.builtIn"], loops := true, plainKeys := false, apart := false, laid := [("pigeonhole/node.operators", laid_pigeonhole_node_operators), ("pigeonhole/node.forms", laid_pigeonhole_node_forms), ("pigeonhole/lint.builtIn", laid_pigeonhole_lint_builtIn)], narrowed := true }
def LintNamesUptoSaid : Prop := lintNamesUptoRow.holds Tryd.pinned (OpenSpec.upto lintNamesSpec)

/-- 'pigeonholelaw07.LintParts', WHERE WHAT IT READS IS OF BULK AT MOST 1048576: true; the input reads as it did. -/
def lintPartsUptoRow : OpenClaim := { program := "ytpgjcedonimgnaadoor", sum := "fe5f95f394b7370b84f323cf918d6d5c698ea6e80404fa32147bfae69823ee6a", func := "pigeonhole/pigeonholelaw07.LintParts", spec := "lintParts", unfollowed := true, recurses := true, named := ["pigeonhole/node.forms", "pigeonhole/node.operators", "pigeonhole/lint.builtIn"], loops := true, plainKeys := false, apart := false, laid := [("pigeonhole/node.operators", laid_pigeonhole_node_operators), ("pigeonhole/node.forms", laid_pigeonhole_node_forms), ("pigeonhole/lint.builtIn", laid_pigeonhole_lint_builtIn)], narrowed := true }
def LintPartsUptoSaid : Prop := lintPartsUptoRow.holds Tryd.pinned (OpenSpec.upto lintPartsSpec)

end Rows
end Go.Proofs.YtpgjcedonimgnaaDoor
