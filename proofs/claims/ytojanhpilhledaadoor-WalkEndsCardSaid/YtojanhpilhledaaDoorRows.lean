/-
  NARROWER THAN 'FOR EVERY INPUT', by the rows' own cells (each row's printed sentence says how): TreeMakes: laid · TreePlays: laid · TreeSets: laid · TreeDiffs: laid · TreeFinds: laid · WalkPlays: laid · WalkEnds: laid · WalkNil: laid.
  DERIVED. THE GIVEN ROWS OF THIS SEAT. 8 by the template 'for every input the law returns true; each argument reads behind the call as it read before'; 0 by the template 'total and deterministic' (their statements: YtojanhpilhledaaDoorTotals.lean).
  GIVEN WITH THE SEED: the statements are not yours to turn. If you find one false, say at which input.
  Laid BY PROGRAM, IN A SANDBOX (cutbox-rows.mjs): the forced cells as the released guide's own fill.sh prints them over the translation 5c0706caa297ea30… (all of the seat's roots in one cut). By AI agents, Wed Nov 11 2026. No macro, syntax, notation, axiom, sorry.
-/
import Derived.Test.YtojanhpilhledaaDoorChecked
import GoSem.Claim
import GoSem.ClaimJoined
import GoSem.ClaimMapViews
import Derived.JoinedTies
import Derived.KernelRfl
namespace Go.Proofs.YtojanhpilhledaaDoor
/- THE CELL 'sum', in the pinned program and in every row, IS THE sha256 OF THE DUMP (.gsa) THAT YtojanhpilhledaaDoorProg.lean LOADS. Nothing in Lean hashes anything: it is a label: what it is worth is what the hold of that sum in a sandbox is worth. -/
noncomputable def Tryd.pinned : Pinned := { name := "ytojanhpilhledaadoor", sum := "5c0706caa297ea307e4e644264a2056c1e02cd9ecf18dfc289129b2e6e706d12", checked := Tryd.checked }
namespace Rows
def none {H : Type} : Left H := { results := [], args := [] }

/- WHAT THE LISTED PACKAGE-LEVEL VARIABLES READ AS WHEN THE CALL BEGINS. Each datum BY PROGRAM (the guide's laid-datum.mjs) off the statement by which the dump's own 'gosem.cut.vars' lays the variable. In a bare row this is a premise. The card (YtojanhpilhledaaDoorCards.lean) ties it to the program's text. -/
def laid_pentimento_sha_rounds {H : Type} : DataW H := .agg [.lit (.int .u32 1116352408), .lit (.int .u32 1899447441), .lit (.int .u32 3049323471), .lit (.int .u32 3921009573), .lit (.int .u32 961987163), .lit (.int .u32 1508970993), .lit (.int .u32 2453635748), .lit (.int .u32 2870763221), .lit (.int .u32 3624381080), .lit (.int .u32 310598401), .lit (.int .u32 607225278), .lit (.int .u32 1426881987), .lit (.int .u32 1925078388), .lit (.int .u32 2162078206), .lit (.int .u32 2614888103), .lit (.int .u32 3248222580), .lit (.int .u32 3835390401), .lit (.int .u32 4022224774), .lit (.int .u32 264347078), .lit (.int .u32 604807628), .lit (.int .u32 770255983), .lit (.int .u32 1249150122), .lit (.int .u32 1555081692), .lit (.int .u32 1996064986), .lit (.int .u32 2554220882), .lit (.int .u32 2821834349), .lit (.int .u32 2952996808), .lit (.int .u32 3210313671), .lit (.int .u32 3336571891), .lit (.int .u32 3584528711), .lit (.int .u32 113926993), .lit (.int .u32 338241895), .lit (.int .u32 666307205), .lit (.int .u32 773529912), .lit (.int .u32 1294757372), .lit (.int .u32 1396182291), .lit (.int .u32 1695183700), .lit (.int .u32 1986661051), .lit (.int .u32 2177026350), .lit (.int .u32 2456956037), .lit (.int .u32 2730485921), .lit (.int .u32 2820302411), .lit (.int .u32 3259730800), .lit (.int .u32 3345764771), .lit (.int .u32 3516065817), .lit (.int .u32 3600352804), .lit (.int .u32 4094571909), .lit (.int .u32 275423344), .lit (.int .u32 430227734), .lit (.int .u32 506948616), .lit (.int .u32 659060556), .lit (.int .u32 883997877), .lit (.int .u32 958139571), .lit (.int .u32 1322822218), .lit (.int .u32 1537002063), .lit (.int .u32 1747873779), .lit (.int .u32 1955562222), .lit (.int .u32 2024104815), .lit (.int .u32 2227730452), .lit (.int .u32 2361852424), .lit (.int .u32 2428436474), .lit (.int .u32 2756734187), .lit (.int .u32 3204031479), .lit (.int .u32 3329325298)]

/-- 'pentimentolaw12.TreeMakes': WHATEVER THE INPUT: true; the input reads as it did. -/
def treeMakesSpec : ChangeSpec := { name := "treeMakes", fn := fun _ => fun
  | [d1, d2, d3] => { results := [.lit (.bool true)], args := [d1, d2, d3] }
  | _ => none }
def treeMakesRow : OpenClaim := { program := "ytojanhpilhledaadoor", sum := "5c0706caa297ea307e4e644264a2056c1e02cd9ecf18dfc289129b2e6e706d12", func := "pentimento/pentimentolaw12.TreeMakes", spec := "treeMakes", unfollowed := true, recurses := true, named := ["pentimento/sha.rounds"], apart := false, laid := [("pentimento/sha.rounds", laid_pentimento_sha_rounds)] }
def TreeMakesSaid : Prop := treeMakesRow.holds Tryd.pinned (OpenSpec.ofChange treeMakesSpec)

/-- ITS FALSE NEIGHBOUR: 'it returns false'. Refute it at one input. -/
def treeMakesWrong : ChangeSpec := { name := "treeMakes", fn := fun _ => fun
  | [d1, d2, d3] => { results := [.lit (.bool false)], args := [d1, d2, d3] }
  | _ => none }
def TreeMakesWrongFalsely : Prop := treeMakesRow.holds Tryd.pinned (OpenSpec.ofChange treeMakesWrong)

/-- 'pentimentolaw12.TreePlays': WHATEVER THE INPUT: true; the input reads as it did. -/
def treePlaysSpec : ChangeSpec := { name := "treePlays", fn := fun _ => fun
  | [d1, d2, d3] => { results := [.lit (.bool true)], args := [d1, d2, d3] }
  | _ => none }
def treePlaysRow : OpenClaim := { program := "ytojanhpilhledaadoor", sum := "5c0706caa297ea307e4e644264a2056c1e02cd9ecf18dfc289129b2e6e706d12", func := "pentimento/pentimentolaw12.TreePlays", spec := "treePlays", unfollowed := true, recurses := true, named := ["pentimento/sha.rounds"], apart := false, laid := [("pentimento/sha.rounds", laid_pentimento_sha_rounds)] }
def TreePlaysSaid : Prop := treePlaysRow.holds Tryd.pinned (OpenSpec.ofChange treePlaysSpec)

/-- ITS FALSE NEIGHBOUR: 'it returns false'. Refute it at one input. -/
def treePlaysWrong : ChangeSpec := { name := "treePlays", fn := fun _ => fun
  | [d1, d2, d3] => { results := [.lit (.bool false)], args := [d1, d2, d3] }
  | _ => none }
def TreePlaysWrongFalsely : Prop := treePlaysRow.holds Tryd.pinned (OpenSpec.ofChange treePlaysWrong)

/-- 'pentimentolaw12.TreeSets': WHATEVER THE INPUT: true; the input reads as it did. -/
def treeSetsSpec : ChangeSpec := { name := "treeSets", fn := fun _ => fun
  | [d1, d2, d3] => { results := [.lit (.bool true)], args := [d1, d2, d3] }
  | _ => none }
def treeSetsRow : OpenClaim := { program := "ytojanhpilhledaadoor", sum := "5c0706caa297ea307e4e644264a2056c1e02cd9ecf18dfc289129b2e6e706d12", func := "pentimento/pentimentolaw12.TreeSets", spec := "treeSets", unfollowed := true, recurses := true, named := ["pentimento/sha.rounds"], apart := false, laid := [("pentimento/sha.rounds", laid_pentimento_sha_rounds)] }
def TreeSetsSaid : Prop := treeSetsRow.holds Tryd.pinned (OpenSpec.ofChange treeSetsSpec)

/-- ITS FALSE NEIGHBOUR: 'it returns false'. Refute it at one input. -/
def treeSetsWrong : ChangeSpec := { name := "treeSets", fn := fun _ => fun
  | [d1, d2, d3] => { results := [.lit (.bool false)], args := [d1, d2, d3] }
  | _ => none }
def TreeSetsWrongFalsely : Prop := treeSetsRow.holds Tryd.pinned (OpenSpec.ofChange treeSetsWrong)

/-- 'pentimentolaw12.TreeDiffs': WHATEVER THE INPUT: true; the input reads as it did. -/
def treeDiffsSpec : ChangeSpec := { name := "treeDiffs", fn := fun _ => fun
  | [d1, d2, d3, d4] => { results := [.lit (.bool true)], args := [d1, d2, d3, d4] }
  | _ => none }
def treeDiffsRow : OpenClaim := { program := "ytojanhpilhledaadoor", sum := "5c0706caa297ea307e4e644264a2056c1e02cd9ecf18dfc289129b2e6e706d12", func := "pentimento/pentimentolaw12.TreeDiffs", spec := "treeDiffs", unfollowed := true, recurses := true, named := ["pentimento/sha.rounds"], apart := false, laid := [("pentimento/sha.rounds", laid_pentimento_sha_rounds)] }
def TreeDiffsSaid : Prop := treeDiffsRow.holds Tryd.pinned (OpenSpec.ofChange treeDiffsSpec)

/-- ITS FALSE NEIGHBOUR: 'it returns false'. Refute it at one input. -/
def treeDiffsWrong : ChangeSpec := { name := "treeDiffs", fn := fun _ => fun
  | [d1, d2, d3, d4] => { results := [.lit (.bool false)], args := [d1, d2, d3, d4] }
  | _ => none }
def TreeDiffsWrongFalsely : Prop := treeDiffsRow.holds Tryd.pinned (OpenSpec.ofChange treeDiffsWrong)

/-- 'pentimentolaw12.TreeFinds': WHATEVER THE INPUT: true; the input reads as it did. -/
def treeFindsSpec : ChangeSpec := { name := "treeFinds", fn := fun _ => fun
  | [d1, d2, d3] => { results := [.lit (.bool true)], args := [d1, d2, d3] }
  | _ => none }
def treeFindsRow : OpenClaim := { program := "ytojanhpilhledaadoor", sum := "5c0706caa297ea307e4e644264a2056c1e02cd9ecf18dfc289129b2e6e706d12", func := "pentimento/pentimentolaw12.TreeFinds", spec := "treeFinds", unfollowed := true, recurses := true, named := ["pentimento/sha.rounds"], apart := false, laid := [("pentimento/sha.rounds", laid_pentimento_sha_rounds)] }
def TreeFindsSaid : Prop := treeFindsRow.holds Tryd.pinned (OpenSpec.ofChange treeFindsSpec)

/-- ITS FALSE NEIGHBOUR: 'it returns false'. Refute it at one input. -/
def treeFindsWrong : ChangeSpec := { name := "treeFinds", fn := fun _ => fun
  | [d1, d2, d3] => { results := [.lit (.bool false)], args := [d1, d2, d3] }
  | _ => none }
def TreeFindsWrongFalsely : Prop := treeFindsRow.holds Tryd.pinned (OpenSpec.ofChange treeFindsWrong)

/-- 'pentimentolaw14.WalkPlays': WHATEVER THE INPUT: true; the input reads as it did. -/
def walkPlaysSpec : ChangeSpec := { name := "walkPlays", fn := fun _ => fun
  | [d1, d2, d3, d4] => { results := [.lit (.bool true)], args := [d1, d2, d3, d4] }
  | _ => none }
def walkPlaysRow : OpenClaim := { program := "ytojanhpilhledaadoor", sum := "5c0706caa297ea307e4e644264a2056c1e02cd9ecf18dfc289129b2e6e706d12", func := "pentimento/pentimentolaw14.WalkPlays", spec := "walkPlays", unfollowed := true, recurses := true, named := ["pentimento/sha.rounds"], apart := false, laid := [("pentimento/sha.rounds", laid_pentimento_sha_rounds)] }
def WalkPlaysSaid : Prop := walkPlaysRow.holds Tryd.pinned (OpenSpec.ofChange walkPlaysSpec)

/-- ITS FALSE NEIGHBOUR: 'it returns false'. Refute it at one input. -/
def walkPlaysWrong : ChangeSpec := { name := "walkPlays", fn := fun _ => fun
  | [d1, d2, d3, d4] => { results := [.lit (.bool false)], args := [d1, d2, d3, d4] }
  | _ => none }
def WalkPlaysWrongFalsely : Prop := walkPlaysRow.holds Tryd.pinned (OpenSpec.ofChange walkPlaysWrong)

/-- 'pentimentolaw14.WalkEnds': WHATEVER THE INPUT: true; the input reads as it did. -/
def walkEndsSpec : ChangeSpec := { name := "walkEnds", fn := fun _ => fun
  | [d1, d2, d3] => { results := [.lit (.bool true)], args := [d1, d2, d3] }
  | _ => none }
def walkEndsRow : OpenClaim := { program := "ytojanhpilhledaadoor", sum := "5c0706caa297ea307e4e644264a2056c1e02cd9ecf18dfc289129b2e6e706d12", func := "pentimento/pentimentolaw14.WalkEnds", spec := "walkEnds", unfollowed := true, recurses := true, named := ["pentimento/sha.rounds"], apart := false, laid := [("pentimento/sha.rounds", laid_pentimento_sha_rounds)] }
def WalkEndsSaid : Prop := walkEndsRow.holds Tryd.pinned (OpenSpec.ofChange walkEndsSpec)

/-- ITS FALSE NEIGHBOUR: 'it returns false'. Refute it at one input. -/
def walkEndsWrong : ChangeSpec := { name := "walkEnds", fn := fun _ => fun
  | [d1, d2, d3] => { results := [.lit (.bool false)], args := [d1, d2, d3] }
  | _ => none }
def WalkEndsWrongFalsely : Prop := walkEndsRow.holds Tryd.pinned (OpenSpec.ofChange walkEndsWrong)

/-- 'pentimentolaw14.WalkNil': WHATEVER THE INPUT: true; the input reads as it did. -/
def walkNilSpec : ChangeSpec := { name := "walkNil", fn := fun _ => fun
  | [d1, d2] => { results := [.lit (.bool true)], args := [d1, d2] }
  | _ => none }
def walkNilRow : OpenClaim := { program := "ytojanhpilhledaadoor", sum := "5c0706caa297ea307e4e644264a2056c1e02cd9ecf18dfc289129b2e6e706d12", func := "pentimento/pentimentolaw14.WalkNil", spec := "walkNil", unfollowed := true, recurses := true, named := ["pentimento/sha.rounds"], apart := false, laid := [("pentimento/sha.rounds", laid_pentimento_sha_rounds)] }
def WalkNilSaid : Prop := walkNilRow.holds Tryd.pinned (OpenSpec.ofChange walkNilSpec)

/-- ITS FALSE NEIGHBOUR: 'it returns false'. Refute it at one input. -/
def walkNilWrong : ChangeSpec := { name := "walkNil", fn := fun _ => fun
  | [d1, d2] => { results := [.lit (.bool false)], args := [d1, d2] }
  | _ => none }
def WalkNilWrongFalsely : Prop := walkNilRow.holds Tryd.pinned (OpenSpec.ofChange walkNilWrong)

/- THE SECOND FORM. 'bulk': how many values and letters a reading holds, each counted each time it is reached (what is shared counts as often as it is met; a slice's spare places count too). A statement '..UptoSaid' is the law's where the arguments, and the package variables that the reading takes, are together of bulk at most 1048576: NARROWER than '..Said'. Prove '..Said' where nothing that the law and all that it calls make is longer than what came in: it says more and counts as full. Else prove '..UptoSaid'. A law counts once. -/
mutual
def uptoBulk {H : Type} : DataW H → Nat
  | .lit (.string bytes) => bytes.length + 1
  | .lit _ => 1
  | .nil => 1
  | .ptr d => uptoBulk d + 1
  | .slice elems spare => uptoBulkAll elems + uptoBulkAll spare + 1
  | .agg parts => uptoBulkAll parts + 1
  | .iface _ d => uptoBulk d + 1
  | .map entries => uptoBulkEntries entries + 1
  | .held _ => 1
def uptoBulkAll {H : Type} : List (DataW H) → Nat
  | [] => 0
  | d :: r => uptoBulk d + uptoBulkAll r
def uptoBulkEntries {H : Type} : List (Lit × DataW H) → Nat
  | [] => 0
  | x :: r => uptoBulkEntry x + uptoBulkEntries r
def uptoBulkEntry {H : Type} : Lit × DataW H → Nat
  | (.string bytes, d) => bytes.length + uptoBulk d + 1
  | (_, d) => uptoBulk d + 1
 end
def uptoSmall : (H : Type) → List (DataW H) → Bool := fun _ ds => decide (uptoBulkAll ds ≤ 1048576)
def OpenSpec.upto (s : _root_.Go.ChangeSpec) : _root_.Go.OpenSpec := { _root_.Go.OpenSpec.ofChange s with cond := some uptoSmall }

/-- 'pentimentolaw12.TreeMakes', WHERE WHAT IT READS IS OF BULK AT MOST 1048576: true; the input reads as it did. -/
def treeMakesUptoRow : OpenClaim := { program := "ytojanhpilhledaadoor", sum := "5c0706caa297ea307e4e644264a2056c1e02cd9ecf18dfc289129b2e6e706d12", func := "pentimento/pentimentolaw12.TreeMakes", spec := "treeMakes", unfollowed := true, recurses := true, named := ["pentimento/sha.rounds"], apart := false, laid := [("pentimento/sha.rounds", laid_pentimento_sha_rounds)], narrowed := true }
def TreeMakesUptoSaid : Prop := treeMakesUptoRow.holds Tryd.pinned (OpenSpec.upto treeMakesSpec)

/-- 'pentimentolaw12.TreePlays', WHERE WHAT IT READS IS OF BULK AT MOST 1048576: true; the input reads as it did. -/
def treePlaysUptoRow : OpenClaim := { program := "ytojanhpilhledaadoor", sum := "5c0706caa297ea307e4e644264a2056c1e02cd9ecf18dfc289129b2e6e706d12", func := "pentimento/pentimentolaw12.TreePlays", spec := "treePlays", unfollowed := true, recurses := true, named := ["pentimento/sha.rounds"], apart := false, laid := [("pentimento/sha.rounds", laid_pentimento_sha_rounds)], narrowed := true }
def TreePlaysUptoSaid : Prop := treePlaysUptoRow.holds Tryd.pinned (OpenSpec.upto treePlaysSpec)

/-- 'pentimentolaw12.TreeSets', WHERE WHAT IT READS IS OF BULK AT MOST 1048576: true; the input reads as it did. -/
def treeSetsUptoRow : OpenClaim := { program := "ytojanhpilhledaadoor", sum := "5c0706caa297ea307e4e644264a2056c1e02cd9ecf18dfc289129b2e6e706d12", func := "pentimento/pentimentolaw12.TreeSets", spec := "treeSets", unfollowed := true, recurses := true, named := ["pentimento/sha.rounds"], apart := false, laid := [("pentimento/sha.rounds", laid_pentimento_sha_rounds)], narrowed := true }
def TreeSetsUptoSaid : Prop := treeSetsUptoRow.holds Tryd.pinned (OpenSpec.upto treeSetsSpec)

/-- 'pentimentolaw12.TreeDiffs', WHERE WHAT IT READS IS OF BULK AT MOST 1048576: true; the input reads as it did. -/
def treeDiffsUptoRow : OpenClaim := { program := "ytojanhpilhledaadoor", sum := "5c0706caa297ea307e4e644264a2056c1e02cd9ecf18dfc289129b2e6e706d12", func := "pentimento/pentimentolaw12.TreeDiffs", spec := "treeDiffs", unfollowed := true, recurses := true, named := ["pentimento/sha.rounds"], apart := false, laid := [("pentimento/sha.rounds", laid_pentimento_sha_rounds)], narrowed := true }
def TreeDiffsUptoSaid : Prop := treeDiffsUptoRow.holds Tryd.pinned (OpenSpec.upto treeDiffsSpec)

/-- 'pentimentolaw12.TreeFinds', WHERE WHAT IT READS IS OF BULK AT MOST 1048576: true; the input reads as it did. -/
def treeFindsUptoRow : OpenClaim := { program := "ytojanhpilhledaadoor", sum := "5c0706caa297ea307e4e644264a2056c1e02cd9ecf18dfc289129b2e6e706d12", func := "pentimento/pentimentolaw12.TreeFinds", spec := "treeFinds", unfollowed := true, recurses := true, named := ["pentimento/sha.rounds"], apart := false, laid := [("pentimento/sha.rounds", laid_pentimento_sha_rounds)], narrowed := true }
def TreeFindsUptoSaid : Prop := treeFindsUptoRow.holds Tryd.pinned (OpenSpec.upto treeFindsSpec)

/-- 'pentimentolaw14.WalkPlays', WHERE WHAT IT READS IS OF BULK AT MOST 1048576: true; the input reads as it did. -/
def walkPlaysUptoRow : OpenClaim := { program := "ytojanhpilhledaadoor", sum := "5c0706caa297ea307e4e644264a2056c1e02cd9ecf18dfc289129b2e6e706d12", func := "pentimento/pentimentolaw14.WalkPlays", spec := "walkPlays", unfollowed := true, recurses := true, named := ["pentimento/sha.rounds"], apart := false, laid := [("pentimento/sha.rounds", laid_pentimento_sha_rounds)], narrowed := true }
def WalkPlaysUptoSaid : Prop := walkPlaysUptoRow.holds Tryd.pinned (OpenSpec.upto walkPlaysSpec)

/-- 'pentimentolaw14.WalkEnds', WHERE WHAT IT READS IS OF BULK AT MOST 1048576: true; the input reads as it did. -/
def walkEndsUptoRow : OpenClaim := { program := "ytojanhpilhledaadoor", sum := "5c0706caa297ea307e4e644264a2056c1e02cd9ecf18dfc289129b2e6e706d12", func := "pentimento/pentimentolaw14.WalkEnds", spec := "walkEnds", unfollowed := true, recurses := true, named := ["pentimento/sha.rounds"], apart := false, laid := [("pentimento/sha.rounds", laid_pentimento_sha_rounds)], narrowed := true }
def WalkEndsUptoSaid : Prop := walkEndsUptoRow.holds Tryd.pinned (OpenSpec.upto walkEndsSpec)

/-- 'pentimentolaw14.WalkNil', WHERE WHAT IT READS IS OF BULK AT MOST 1048576: true; the input reads as it did. -/
def walkNilUptoRow : OpenClaim := { program := "ytojanhpilhledaadoor", sum := "5c0706caa297ea307e4e644264a2056c1e02cd9ecf18dfc289129b2e6e706d12", func := "pentimento/pentimentolaw14.WalkNil", spec := "walkNil", unfollowed := true, recurses := true, named := ["pentimento/sha.rounds"], apart := false, laid := [("pentimento/sha.rounds", laid_pentimento_sha_rounds)], narrowed := true }
def WalkNilUptoSaid : Prop := walkNilUptoRow.holds Tryd.pinned (OpenSpec.upto walkNilSpec)

end Rows
end Go.Proofs.YtojanhpilhledaaDoor
