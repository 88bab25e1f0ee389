/-
  NARROWER THAN 'FOR EVERY INPUT', by the rows' own cells (each row's printed sentence says how): NodeRights: loops, laid.
  DERIVED. THE GIVEN ROWS OF THIS SEAT. 1 by the template 'for every input the law returns true; each argument reads behind the call as it read before'; 0 by the template 'total and deterministic' (their statements: YtehfoblfmehbdaaDoorTotals.lean).
  GIVEN WITH THE SEED: the statements are not yours to turn. If you find one false, say at which input.
  Laid BY PROGRAM, IN A SANDBOX (cutbox-rows.mjs): the forced cells as the released guide's own fill.sh prints them over the translation 258e94ae2904cb7a… (all of the seat's roots in one cut). By AI agents, Wed Nov 11 2026. No macro, syntax, notation, axiom, sorry.
-/
import Derived.Test.YtehfoblfmehbdaaDoorChecked
import GoSem.Claim
import GoSem.ClaimJoined
import GoSem.ClaimMapViews
import Derived.JoinedTies
import Derived.KernelRfl
namespace Go.Proofs.YtehfoblfmehbdaaDoor
/- THE CELL 'sum', in the pinned program and in every row, IS THE sha256 OF THE DUMP (.gsa) THAT YtehfoblfmehbdaaDoorProg.lean LOADS. Nothing in Lean hashes anything: it is a label: what it is worth is what the hold of that sum in a sandbox is worth. -/
noncomputable def Tryd.pinned : Pinned := { name := "ytehfoblfmehbdaadoor", sum := "258e94ae2904cb7a8e3361d431d891c948d7cd20d0a333f6e86910968d2fb144", checked := Tryd.checked }
namespace Rows
def none {H : Type} : Left H := { results := [], args := [] }

/- WHAT THE LISTED PACKAGE-LEVEL VARIABLES READ AS WHEN THE CALL BEGINS. Each datum BY PROGRAM (the guide's laid-datum.mjs) off the statement by which the dump's own 'gosem.cut.vars' lays the variable. In a bare row this is a premise. The card (YtehfoblfmehbdaaDoorCards.lean) ties it to the program's text. -/
def laid_pigeonhole_node_operators {H : Type} : DataW H := .agg [.agg [.lit (.string [45]), .lit (.int .u8 1)], .agg [.lit (.string [43]), .lit (.int .u8 1)], .agg [.lit (.string [110, 111, 116]), .lit (.int .u8 1)], .agg [.lit (.string [33]), .lit (.int .u8 2)], .agg [.lit (.string [111, 114, 101, 108, 115, 101]), .lit (.int .u8 2)], .agg [.lit (.string [97, 110, 100, 97, 108, 115, 111]), .lit (.int .u8 2)], .agg [.lit (.string [61, 61]), .lit (.int .u8 2)], .agg [.lit (.string [47, 61]), .lit (.int .u8 2)], .agg [.lit (.string [61, 58, 61]), .lit (.int .u8 2)], .agg [.lit (.string [61, 47, 61]), .lit (.int .u8 2)], .agg [.lit (.string [60]), .lit (.int .u8 2)], .agg [.lit (.string [61, 60]), .lit (.int .u8 2)], .agg [.lit (.string [62]), .lit (.int .u8 2)], .agg [.lit (.string [62, 61]), .lit (.int .u8 2)], .agg [.lit (.string [43, 43]), .lit (.int .u8 2)], .agg [.lit (.string [45, 45]), .lit (.int .u8 2)], .agg [.lit (.string [43]), .lit (.int .u8 2)], .agg [.lit (.string [45]), .lit (.int .u8 2)], .agg [.lit (.string [111, 114]), .lit (.int .u8 2)], .agg [.lit (.string [120, 111, 114]), .lit (.int .u8 2)], .agg [.lit (.string [42]), .lit (.int .u8 2)], .agg [.lit (.string [100, 105, 118]), .lit (.int .u8 2)], .agg [.lit (.string [114, 101, 109]), .lit (.int .u8 2)], .agg [.lit (.string [97, 110, 100]), .lit (.int .u8 2)]]
def laid_pigeonhole_node_forms {H : Type} : DataW H := .agg [.agg [.lit (.int .u8 0), .lit (.int .u8 1), .lit (.int .u8 0), .nil, .lit (.bool false)], .agg [.lit (.int .u8 0), .lit (.int .u8 2), .lit (.int .u8 0), .nil, .lit (.bool false)], .agg [.lit (.int .u8 0), .lit (.int .u8 3), .lit (.int .u8 0), .nil, .lit (.bool false)], .agg [.lit (.int .u8 0), .lit (.int .u8 4), .lit (.int .u8 0), .nil, .lit (.bool false)], .agg [.lit (.int .u8 0), .lit (.int .u8 5), .lit (.int .u8 0), .slice [.lit (.int .u8 0)] [], .lit (.bool true)], .agg [.lit (.int .u8 0), .lit (.int .u8 6), .lit (.int .u8 0), .slice [.lit (.int .u8 0)] [], .lit (.bool true)], .agg [.lit (.int .u8 0), .lit (.int .u8 7), .lit (.int .u8 1), .slice [.lit (.int .u8 0), .lit (.int .u8 0)] [], .lit (.bool false)], .agg [.lit (.int .u8 0), .lit (.int .u8 8), .lit (.int .u8 2), .slice [.lit (.int .u8 0), .lit (.int .u8 0)] [], .lit (.bool false)], .agg [.lit (.int .u8 0), .lit (.int .u8 9), .lit (.int .u8 1), .slice [.lit (.int .u8 0)] [], .lit (.bool true)], .agg [.lit (.int .u8 0), .lit (.int .u8 10), .lit (.int .u8 1), .slice [.lit (.int .u8 9)] [], .lit (.bool true)], .agg [.lit (.int .u8 0), .lit (.int .u8 11), .lit (.int .u8 0), .nil, .lit (.bool false)], .agg [.lit (.int .u8 0), .lit (.int .u8 12), .lit (.int .u8 2), .slice [.lit (.int .u8 0), .lit (.int .u8 10)] [], .lit (.bool true)], .agg [.lit (.int .u8 0), .lit (.int .u8 13), .lit (.int .u8 1), .slice [.lit (.int .u8 11)] [], .lit (.bool true)], .agg [.lit (.int .u8 0), .lit (.int .u8 14), .lit (.int .u8 1), .slice [.lit (.int .u8 16)] [], .lit (.bool true)], .agg [.lit (.int .u8 0), .lit (.int .u8 16), .lit (.int .u8 2), .slice [.lit (.int .u8 3), .lit (.int .u8 12)] [], .lit (.bool true)], .agg [.lit (.int .u8 0), .lit (.int .u8 17), .lit (.int .u8 2), .slice [.lit (.int .u8 0), .lit (.int .u8 17)] [], .lit (.bool true)], .agg [.lit (.int .u8 0), .lit (.int .u8 19), .lit (.int .u8 1), .slice [.lit (.int .u8 0)] [], .lit (.bool true)], .agg [.lit (.int .u8 1), .lit (.int .u8 22), .lit (.int .u8 0), .slice [.lit (.int .u8 2)] [], .lit (.bool true)], .agg [.lit (.int .u8 2), .lit (.int .u8 21), .lit (.int .u8 1), .slice [.lit (.int .u8 9)] [], .lit (.bool true)], .agg [.lit (.int .u8 3), .lit (.int .u8 19), .lit (.int .u8 1), .slice [.lit (.int .u8 0)] [], .lit (.bool true)], .agg [.lit (.int .u8 4), .lit (.int .u8 19), .lit (.int .u8 0), .slice [.lit (.int .u8 0)] [], .lit (.bool true)], .agg [.lit (.int .u8 5), .lit (.int .u8 19), .lit (.int .u8 1), .slice [.lit (.int .u8 0)] [], .lit (.bool false)], .agg [.lit (.int .u8 6), .lit (.int .u8 19), .lit (.int .u8 0), .nil, .lit (.bool false)], .agg [.lit (.int .u8 7), .lit (.int .u8 19), .lit (.int .u8 0), .slice [.lit (.int .u8 3)] [], .lit (.bool true)], .agg [.lit (.int .u8 8), .lit (.int .u8 19), .lit (.int .u8 1), .slice [.lit (.int .u8 3)] [], .lit (.bool true)], .agg [.lit (.int .u8 9), .lit (.int .u8 20), .lit (.int .u8 3), .slice [.lit (.int .u8 4), .lit (.int .u8 7), .lit (.int .u8 3)] [], .lit (.bool false)], .agg [.lit (.int .u8 10), .lit (.int .u8 20), .lit (.int .u8 3), .slice [.lit (.int .u8 5), .lit (.int .u8 7), .lit (.int .u8 3)] [], .lit (.bool false)], .agg [.lit (.int .u8 11), .lit (.int .u8 20), .lit (.int .u8 3), .slice [.lit (.int .u8 6), .lit (.int .u8 8), .lit (.int .u8 3)] [], .lit (.bool false)], .agg [.lit (.int .u8 12), .lit (.int .u8 20), .lit (.int .u8 3), .slice [.lit (.int .u8 13), .lit (.int .u8 7), .lit (.int .u8 3)] [], .lit (.bool false)], .agg [.lit (.int .u8 13), .lit (.int .u8 19), .lit (.int .u8 1), .slice [.lit (.int .u8 14)] [], .lit (.bool false)], .agg [.lit (.int .u8 14), .lit (.int .u8 5), .lit (.int .u8 2), .slice [.lit (.int .u8 15), .lit (.int .u8 0)] [], .lit (.bool false)], .agg [.lit (.int .u8 15), .lit (.int .u8 2), .lit (.int .u8 0), .nil, .lit (.bool false)], .agg [.lit (.int .u8 15), .lit (.int .u8 3), .lit (.int .u8 0), .nil, .lit (.bool false)], .agg [.lit (.int .u8 16), .lit (.int .u8 20), .lit (.int .u8 3), .slice [.lit (.int .u8 5), .lit (.int .u8 7), .lit (.int .u8 3)] [], .lit (.bool false)], .agg [.lit (.int .u8 16), .lit (.int .u8 15), .lit (.int .u8 2), .slice [.lit (.int .u8 0), .lit (.int .u8 3)] [], .lit (.bool false)], .agg [.lit (.int .u8 17), .lit (.int .u8 18), .lit (.int .u8 2), .slice [.lit (.int .u8 0), .lit (.int .u8 0)] [], .lit (.bool false)]]

/-- 'pigeonholelaw04.NodeRights': WHATEVER THE INPUT: true; the input reads as it did. -/
def nodeRightsSpec : ChangeSpec := { name := "nodeRights", fn := fun _ => fun
  | [d] => { results := [.lit (.bool true)], args := [d] }
  | _ => none }
def nodeRightsRow : OpenClaim := { program := "ytehfoblfmehbdaadoor", sum := "258e94ae2904cb7a8e3361d431d891c948d7cd20d0a333f6e86910968d2fb144", func := "pigeonhole/pigeonholelaw04.NodeRights", spec := "nodeRights", unfollowed := true, recurses := true, named := ["pigeonhole/node.forms", "pigeonhole/node.operators"], loops := true, plainKeys := false, apart := false, laid := [("pigeonhole/node.operators", laid_pigeonhole_node_operators), ("pigeonhole/node.forms", laid_pigeonhole_node_forms)] }
def NodeRightsSaid : Prop := nodeRightsRow.holds Tryd.pinned (OpenSpec.ofChange nodeRightsSpec)

/-- ITS FALSE NEIGHBOUR: 'it returns false'. Refute it at one input. -/
def nodeRightsWrong : ChangeSpec := { name := "nodeRights", fn := fun _ => fun
  | [d] => { results := [.lit (.bool false)], args := [d] }
  | _ => none }
def NodeRightsWrongFalsely : Prop := nodeRightsRow.holds Tryd.pinned (OpenSpec.ofChange nodeRightsWrong)

/- THE SECOND FORM. 'bulk': how many values and letters a reading holds, each counted each time it is reached (what is shared counts as often as it is met; a slice's spare places count too). A statement '..UptoSaid' is the law's where the arguments, and the package variables that the reading takes, are together of bulk at most 1048576: NARROWER than '..Said'. Prove '..Said' where nothing that the law and all that it calls make is longer than what came in: it says more and counts as full. Else prove '..UptoSaid'. A law counts once. -/
mutual
def uptoBulk {H : Type} : DataW H → Nat
  | .lit (.string bytes) => bytes.length + 1
  | .lit _ => 1
  | .nil => 1
  | .ptr d => uptoBulk d + 1
  | .slice elems spare => uptoBulkAll elems + uptoBulkAll spare + 1
  | .agg parts => uptoBulkAll parts + 1
  | .iface _ d => uptoBulk d + 1
  | .map entries => uptoBulkEntries entries + 1
  | .held _ => 1
def uptoBulkAll {H : Type} : List (DataW H) → Nat
  | [] => 0
  | d :: r => uptoBulk d + uptoBulkAll r
def uptoBulkEntries {H : Type} : List (Lit × DataW H) → Nat
  | [] => 0
  | x :: r => uptoBulkEntry x + uptoBulkEntries r
def uptoBulkEntry {H : Type} : Lit × DataW H → Nat
  | (.string bytes, d) => bytes.length + uptoBulk d + 1
  | (_, d) => uptoBulk d + 1
 end
def uptoSmall : (H : Type) → List (DataW H) → Bool := fun _ ds => decide (uptoBulkAll ds ≤ 1048576)
def OpenSpec.upto (s : _root_.Go.ChangeSpec) : _root_.Go.OpenSpec := { _root_.Go.OpenSpec.ofChange s with cond := some uptoSmall }

/-- 'pigeonholelaw04.NodeRights', WHERE WHAT IT READS IS OF BULK AT MOST 1048576: true; the input reads as it did. -/
def nodeRightsUptoRow : OpenClaim := { program := "ytehfoblfmehbdaadoor", sum := "258e94ae2904cb7a8e3361d431d891c948d7cd20d0a333f6e86910968d2fb144", func := "pigeonhole/pigeonholelaw04.NodeRights", spec := "nodeRights", unfollowed := true, recurses := true, named := ["pigeonhole/node.forms", "pigeonhole/node.operators"], loops := true, plainKeys := false, apart := false, laid := [("pigeonhole/node.operators", laid_pigeonhole_node_operators), ("pigeonhole/node.forms", laid_pigeonhole_node_forms)], narrowed := true }
def NodeRightsUptoSaid : Prop := nodeRightsUptoRow.holds Tryd.pinned (OpenSpec.upto nodeRightsSpec)

end Rows
end Go.Proofs.YtehfoblfmehbdaaDoor
