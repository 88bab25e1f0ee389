/-
  NARROWER THAN 'FOR EVERY INPUT', by the rows' own cells (each row's printed sentence says how): ScanBack: laid · ScanCut: laid.
  DERIVED. THE GIVEN ROWS OF THIS SEAT. 2 by the template 'for every input the law returns true; each argument reads behind the call as it read before'; 0 by the template 'total and deterministic' (their statements: YtfejdflbilakoaaDoorTotals.lean).
  GIVEN WITH THE SEED: the statements are not yours to turn. If you find one false, say at which input.
  Laid BY PROGRAM, IN A SANDBOX (cutbox-rows.mjs): the forced cells as the released guide's own fill.sh prints them over the translation cae177b7ad0769c9… (all of the seat's roots in one cut). By AI agents, Wed Nov 11 2026. No macro, syntax, notation, axiom, sorry.
-/
import Derived.Test.YtfejdflbilakoaaDoorChecked
import GoSem.Claim
import GoSem.ClaimJoined
import GoSem.ClaimMapViews
import Derived.JoinedTies
import Derived.KernelRfl
namespace Go.Proofs.YtfejdflbilakoaaDoor
/- THE CELL 'sum', in the pinned program and in every row, IS THE sha256 OF THE DUMP (.gsa) THAT YtfejdflbilakoaaDoorProg.lean LOADS. Nothing in Lean hashes anything: it is a label: what it is worth is what the hold of that sum in a sandbox is worth. -/
noncomputable def Tryd.pinned : Pinned := { name := "ytfejdflbilakoaadoor", sum := "cae177b7ad0769c99ff2da97fa341315a500c2f2797b1d40ead0b8e76cca47a9", checked := Tryd.checked }
namespace Rows
def none {H : Type} : Left H := { results := [], args := [] }

/- WHAT THE LISTED PACKAGE-LEVEL VARIABLES READ AS WHEN THE CALL BEGINS. Each datum BY PROGRAM (the guide's laid-datum.mjs) off the statement by which the dump's own 'gosem.cut.vars' lays the variable. In a bare row this is a premise. The card (YtfejdflbilakoaaDoorCards.lean) ties it to the program's text. -/
def laid_pigeonhole_scan_escapes {H : Type} : DataW H := .agg [.agg [.lit (.int .u8 110), .lit (.int .u8 10)], .agg [.lit (.int .u8 116), .lit (.int .u8 9)], .agg [.lit (.int .u8 92), .lit (.int .u8 92)], .agg [.lit (.int .u8 39), .lit (.int .u8 39)], .agg [.lit (.int .u8 34), .lit (.int .u8 34)]]
def laid_pigeonhole_scan_words {H : Type} : DataW H := .agg [.lit (.string [97, 102, 116, 101, 114]), .lit (.string [97, 110, 100]), .lit (.string [97, 110, 100, 97, 108, 115, 111]), .lit (.string [98, 101, 103, 105, 110]), .lit (.string [99, 97, 115, 101]), .lit (.string [100, 105, 118]), .lit (.string [101, 110, 100]), .lit (.string [102, 117, 110]), .lit (.string [105, 102]), .lit (.string [110, 111, 116]), .lit (.string [111, 102]), .lit (.string [111, 114]), .lit (.string [111, 114, 101, 108, 115, 101]), .lit (.string [114, 101, 99, 101, 105, 118, 101]), .lit (.string [114, 101, 109]), .lit (.string [116, 114, 121]), .lit (.string [99, 97, 116, 99, 104]), .lit (.string [119, 104, 101, 110]), .lit (.string [120, 111, 114])]
def laid_pigeonhole_scan_signs {H : Type} : DataW H := .agg [.lit (.string [40]), .lit (.string [41]), .lit (.string [123]), .lit (.string [125]), .lit (.string [91]), .lit (.string [93]), .lit (.string [44]), .lit (.string [59]), .lit (.string [58]), .lit (.string [45, 62]), .lit (.string [60, 45]), .lit (.string [124, 124]), .lit (.string [124]), .lit (.string [61]), .lit (.string [61, 61]), .lit (.string [47, 61]), .lit (.string [61, 58, 61]), .lit (.string [61, 47, 61]), .lit (.string [60]), .lit (.string [61, 60]), .lit (.string [62]), .lit (.string [62, 61]), .lit (.string [43]), .lit (.string [45]), .lit (.string [42]), .lit (.string [47]), .lit (.string [43, 43]), .lit (.string [45, 45]), .lit (.string [33])]

/-- 'pigeonholelaw03.ScanBack': WHATEVER THE INPUT: true; the input reads as it did. -/
def scanBackSpec : ChangeSpec := { name := "scanBack", fn := fun _ => fun
  | [d] => { results := [.lit (.bool true)], args := [d] }
  | _ => none }
def scanBackRow : OpenClaim := { program := "ytfejdflbilakoaadoor", sum := "cae177b7ad0769c99ff2da97fa341315a500c2f2797b1d40ead0b8e76cca47a9", func := "pigeonhole/pigeonholelaw03.ScanBack", spec := "scanBack", unfollowed := true, recurses := true, named := ["pigeonhole/scan.words", "pigeonhole/scan.escapes", "pigeonhole/scan.signs"], apart := false, laid := [("pigeonhole/scan.escapes", laid_pigeonhole_scan_escapes), ("pigeonhole/scan.words", laid_pigeonhole_scan_words), ("pigeonhole/scan.signs", laid_pigeonhole_scan_signs)] }
def ScanBackSaid : Prop := scanBackRow.holds Tryd.pinned (OpenSpec.ofChange scanBackSpec)

/-- ITS FALSE NEIGHBOUR: 'it returns false'. Refute it at one input. -/
def scanBackWrong : ChangeSpec := { name := "scanBack", fn := fun _ => fun
  | [d] => { results := [.lit (.bool false)], args := [d] }
  | _ => none }
def ScanBackWrongFalsely : Prop := scanBackRow.holds Tryd.pinned (OpenSpec.ofChange scanBackWrong)

/-- 'pigeonholelaw03.ScanCut': WHATEVER THE INPUT: true; the input reads as it did. -/
def scanCutSpec : ChangeSpec := { name := "scanCut", fn := fun _ => fun
  | [d1, d2] => { results := [.lit (.bool true)], args := [d1, d2] }
  | _ => none }
def scanCutRow : OpenClaim := { program := "ytfejdflbilakoaadoor", sum := "cae177b7ad0769c99ff2da97fa341315a500c2f2797b1d40ead0b8e76cca47a9", func := "pigeonhole/pigeonholelaw03.ScanCut", spec := "scanCut", unfollowed := true, recurses := true, named := ["pigeonhole/scan.words", "pigeonhole/scan.escapes", "pigeonhole/scan.signs"], apart := false, laid := [("pigeonhole/scan.escapes", laid_pigeonhole_scan_escapes), ("pigeonhole/scan.words", laid_pigeonhole_scan_words), ("pigeonhole/scan.signs", laid_pigeonhole_scan_signs)] }
def ScanCutSaid : Prop := scanCutRow.holds Tryd.pinned (OpenSpec.ofChange scanCutSpec)

/-- ITS FALSE NEIGHBOUR: 'it returns false'. Refute it at one input. -/
def scanCutWrong : ChangeSpec := { name := "scanCut", fn := fun _ => fun
  | [d1, d2] => { results := [.lit (.bool false)], args := [d1, d2] }
  | _ => none }
def ScanCutWrongFalsely : Prop := scanCutRow.holds Tryd.pinned (OpenSpec.ofChange scanCutWrong)

/- THE SECOND FORM. 'bulk': how many values and letters a reading holds, each counted each time it is reached (what is shared counts as often as it is met; a slice's spare places count too). A statement '..UptoSaid' is the law's where the arguments, and the package variables that the reading takes, are together of bulk at most 1048576: NARROWER than '..Said'. Prove '..Said' where nothing that the law and all that it calls make is longer than what came in: it says more and counts as full. Else prove '..UptoSaid'. A law counts once. -/
mutual
def uptoBulk {H : Type} : DataW H → Nat
  | .lit (.string bytes) => bytes.length + 1
  | .lit _ => 1
  | .nil => 1
  | .ptr d => uptoBulk d + 1
  | .slice elems spare => uptoBulkAll elems + uptoBulkAll spare + 1
  | .agg parts => uptoBulkAll parts + 1
  | .iface _ d => uptoBulk d + 1
  | .map entries => uptoBulkEntries entries + 1
  | .held _ => 1
def uptoBulkAll {H : Type} : List (DataW H) → Nat
  | [] => 0
  | d :: r => uptoBulk d + uptoBulkAll r
def uptoBulkEntries {H : Type} : List (Lit × DataW H) → Nat
  | [] => 0
  | x :: r => uptoBulkEntry x + uptoBulkEntries r
def uptoBulkEntry {H : Type} : Lit × DataW H → Nat
  | (.string bytes, d) => bytes.length + uptoBulk d + 1
  | (_, d) => uptoBulk d + 1
 end
def uptoSmall : (H : Type) → List (DataW H) → Bool := fun _ ds => decide (uptoBulkAll ds ≤ 1048576)
def OpenSpec.upto (s : _root_.Go.ChangeSpec) : _root_.Go.OpenSpec := { _root_.Go.OpenSpec.ofChange s with cond := some uptoSmall }

/-- 'pigeonholelaw03.ScanBack', WHERE WHAT IT READS IS OF BULK AT MOST 1048576: true; the input reads as it did. -/
def scanBackUptoRow : OpenClaim := { program := "ytfejdflbilakoaadoor", sum := "cae177b7ad0769c99ff2da97fa341315a500c2f2797b1d40ead0b8e76cca47a9", func := "pigeonhole/pigeonholelaw03.ScanBack", spec := "scanBack", unfollowed := true, recurses := true, named := ["pigeonhole/scan.words", "pigeonhole/scan.escapes", "pigeonhole/scan.signs"], apart := false, laid := [("pigeonhole/scan.escapes", laid_pigeonhole_scan_escapes), ("pigeonhole/scan.words", laid_pigeonhole_scan_words), ("pigeonhole/scan.signs", laid_pigeonhole_scan_signs)], narrowed := true }
def ScanBackUptoSaid : Prop := scanBackUptoRow.holds Tryd.pinned (OpenSpec.upto scanBackSpec)

/-- 'pigeonholelaw03.ScanCut', WHERE WHAT IT READS IS OF BULK AT MOST 1048576: true; the input reads as it did. -/
def scanCutUptoRow : OpenClaim := { program := "ytfejdflbilakoaadoor", sum := "cae177b7ad0769c99ff2da97fa341315a500c2f2797b1d40ead0b8e76cca47a9", func := "pigeonhole/pigeonholelaw03.ScanCut", spec := "scanCut", unfollowed := true, recurses := true, named := ["pigeonhole/scan.words", "pigeonhole/scan.escapes", "pigeonhole/scan.signs"], apart := false, laid := [("pigeonhole/scan.escapes", laid_pigeonhole_scan_escapes), ("pigeonhole/scan.words", laid_pigeonhole_scan_words), ("pigeonhole/scan.signs", laid_pigeonhole_scan_signs)], narrowed := true }
def ScanCutUptoSaid : Prop := scanCutUptoRow.holds Tryd.pinned (OpenSpec.upto scanCutSpec)

end Rows
end Go.Proofs.YtfejdflbilakoaaDoor
