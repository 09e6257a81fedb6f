/-
  No cell of these rows narrows 'for every input' (looked for: loops, veiled, ifaces, maps, wideKeys, modest, calm, conditions, laid).
  DERIVED. THE GIVEN ROWS OF THIS SEAT. 6 by the template 'for every input the law returns true; each argument reads behind the call as it read before'; 0 by the template 'total and deterministic' (their statements: YtppbbmnekeelpaaTotals.lean).
  GIVEN WITH THE SEED: the statements are not yours to turn. If you find one false, say at which input.
  Laid BY PROGRAM, IN A SANDBOX (cutbox-rows.mjs): the forced cells as the released guide's own fill.sh prints them over the translation 40a45cd6a34cbe63… (all of the seat's roots in one cut). By AI agents, Wed Nov 11 2026. No macro, syntax, notation, axiom, sorry.
-/
import Derived.Test.YtppbbmnekeelpaaChecked
import GoSem.Claim
import GoSem.ClaimJoined
import GoSem.ClaimMapViews
import Derived.JoinedTies
import Derived.KernelRfl
namespace Go.Proofs.Ytppbbmnekeelpaa
/- THE CELL 'sum', in the pinned program and in every row, IS THE sha256 OF THE DUMP (.gsa) THAT YtppbbmnekeelpaaProg.lean LOADS. Nothing in Lean hashes anything: it is a label: what it is worth is what the hold of that sum in a sandbox is worth. -/
noncomputable def Try.pinned : Pinned := { name := "ytppbbmnekeelpaa", sum := "40a45cd6a34cbe639befb360104c776ef29d5909b1209e58c7ec7c28c8971aa2", checked := Try.checked }
namespace Rows
def none {H : Type} : Left H := { results := [], args := [] }

/-- 'stemmalaw15.BranchPlays': WHATEVER THE INPUT: true; the input reads as it did. -/
def branchPlaysSpec : ChangeSpec := { name := "branchPlays", fn := fun _ => fun
  | [d1, d2] => { results := [.lit (.bool true)], args := [d1, d2] }
  | _ => none }
def branchPlaysRow : OpenClaim := { program := "ytppbbmnekeelpaa", sum := "40a45cd6a34cbe639befb360104c776ef29d5909b1209e58c7ec7c28c8971aa2", func := "stemma/stemmalaw15.BranchPlays", spec := "branchPlays", unfollowed := true, recurses := true, apart := false }
def BranchPlaysSaid : Prop := branchPlaysRow.holds Try.pinned (OpenSpec.ofChange branchPlaysSpec)

/-- ITS FALSE NEIGHBOUR: 'it returns false'. Refute it at one input. -/
def branchPlaysWrong : ChangeSpec := { name := "branchPlays", fn := fun _ => fun
  | [d1, d2] => { results := [.lit (.bool false)], args := [d1, d2] }
  | _ => none }
def BranchPlaysWrongFalsely : Prop := branchPlaysRow.holds Try.pinned (OpenSpec.ofChange branchPlaysWrong)

/-- 'stemmalaw15.BranchLoads': WHATEVER THE INPUT: true; the input reads as it did. -/
def branchLoadsSpec : ChangeSpec := { name := "branchLoads", fn := fun _ => fun
  | [d] => { results := [.lit (.bool true)], args := [d] }
  | _ => none }
def branchLoadsRow : OpenClaim := { program := "ytppbbmnekeelpaa", sum := "40a45cd6a34cbe639befb360104c776ef29d5909b1209e58c7ec7c28c8971aa2", func := "stemma/stemmalaw15.BranchLoads", spec := "branchLoads", unfollowed := true, recurses := true, apart := false }
def BranchLoadsSaid : Prop := branchLoadsRow.holds Try.pinned (OpenSpec.ofChange branchLoadsSpec)

/-- ITS FALSE NEIGHBOUR: 'it returns false'. Refute it at one input. -/
def branchLoadsWrong : ChangeSpec := { name := "branchLoads", fn := fun _ => fun
  | [d] => { results := [.lit (.bool false)], args := [d] }
  | _ => none }
def BranchLoadsWrongFalsely : Prop := branchLoadsRow.holds Try.pinned (OpenSpec.ofChange branchLoadsWrong)

/-- 'stemmalaw15.BranchForks': WHATEVER THE INPUT: true; the input reads as it did. -/
def branchForksSpec : ChangeSpec := { name := "branchForks", fn := fun _ => fun
  | [d1, d2] => { results := [.lit (.bool true)], args := [d1, d2] }
  | _ => none }
def branchForksRow : OpenClaim := { program := "ytppbbmnekeelpaa", sum := "40a45cd6a34cbe639befb360104c776ef29d5909b1209e58c7ec7c28c8971aa2", func := "stemma/stemmalaw15.BranchForks", spec := "branchForks", unfollowed := true, recurses := true, apart := false }
def BranchForksSaid : Prop := branchForksRow.holds Try.pinned (OpenSpec.ofChange branchForksSpec)

/-- ITS FALSE NEIGHBOUR: 'it returns false'. Refute it at one input. -/
def branchForksWrong : ChangeSpec := { name := "branchForks", fn := fun _ => fun
  | [d1, d2] => { results := [.lit (.bool false)], args := [d1, d2] }
  | _ => none }
def BranchForksWrongFalsely : Prop := branchForksRow.holds Try.pinned (OpenSpec.ofChange branchForksWrong)

/-- 'stemmalaw15.BranchNobody': WHATEVER THE INPUT: true; the input reads as it did. -/
def branchNobodySpec : ChangeSpec := { name := "branchNobody", fn := fun _ => fun
  | [d1, d2] => { results := [.lit (.bool true)], args := [d1, d2] }
  | _ => none }
def branchNobodyRow : OpenClaim := { program := "ytppbbmnekeelpaa", sum := "40a45cd6a34cbe639befb360104c776ef29d5909b1209e58c7ec7c28c8971aa2", func := "stemma/stemmalaw15.BranchNobody", spec := "branchNobody", unfollowed := true, recurses := true, apart := false }
def BranchNobodySaid : Prop := branchNobodyRow.holds Try.pinned (OpenSpec.ofChange branchNobodySpec)

/-- ITS FALSE NEIGHBOUR: 'it returns false'. Refute it at one input. -/
def branchNobodyWrong : ChangeSpec := { name := "branchNobody", fn := fun _ => fun
  | [d1, d2] => { results := [.lit (.bool false)], args := [d1, d2] }
  | _ => none }
def BranchNobodyWrongFalsely : Prop := branchNobodyRow.holds Try.pinned (OpenSpec.ofChange branchNobodyWrong)

/-- 'stemmalaw15.BranchApart': WHATEVER THE INPUT: true; the input reads as it did. -/
def branchApartSpec : ChangeSpec := { name := "branchApart", fn := fun _ => fun
  | [d1, d2, d3] => { results := [.lit (.bool true)], args := [d1, d2, d3] }
  | _ => none }
def branchApartRow : OpenClaim := { program := "ytppbbmnekeelpaa", sum := "40a45cd6a34cbe639befb360104c776ef29d5909b1209e58c7ec7c28c8971aa2", func := "stemma/stemmalaw15.BranchApart", spec := "branchApart", unfollowed := true, recurses := true, apart := false }
def BranchApartSaid : Prop := branchApartRow.holds Try.pinned (OpenSpec.ofChange branchApartSpec)

/-- ITS FALSE NEIGHBOUR: 'it returns false'. Refute it at one input. -/
def branchApartWrong : ChangeSpec := { name := "branchApart", fn := fun _ => fun
  | [d1, d2, d3] => { results := [.lit (.bool false)], args := [d1, d2, d3] }
  | _ => none }
def BranchApartWrongFalsely : Prop := branchApartRow.holds Try.pinned (OpenSpec.ofChange branchApartWrong)

/-- 'stemmalaw15.BranchBack': WHATEVER THE INPUT: true; the input reads as it did. -/
def branchBackSpec : ChangeSpec := { name := "branchBack", fn := fun _ => fun
  | [d] => { results := [.lit (.bool true)], args := [d] }
  | _ => none }
def branchBackRow : OpenClaim := { program := "ytppbbmnekeelpaa", sum := "40a45cd6a34cbe639befb360104c776ef29d5909b1209e58c7ec7c28c8971aa2", func := "stemma/stemmalaw15.BranchBack", spec := "branchBack", unfollowed := true, recurses := true, apart := false }
def BranchBackSaid : Prop := branchBackRow.holds Try.pinned (OpenSpec.ofChange branchBackSpec)

/-- ITS FALSE NEIGHBOUR: 'it returns false'. Refute it at one input. -/
def branchBackWrong : ChangeSpec := { name := "branchBack", fn := fun _ => fun
  | [d] => { results := [.lit (.bool false)], args := [d] }
  | _ => none }
def BranchBackWrongFalsely : Prop := branchBackRow.holds Try.pinned (OpenSpec.ofChange branchBackWrong)

/- THE SECOND FORM. 'bulk': how many values and letters a reading holds, each counted each time it is reached (what is shared counts as often as it is met; a slice's spare places count too). A statement '..UptoSaid' is the law's where the arguments, and the package variables that the reading takes, are together of bulk at most 1048576: NARROWER than '..Said'. Prove '..Said' where nothing that the law and all that it calls make is longer than what came in: it says more and counts as full. Else prove '..UptoSaid'. A law counts once. -/
mutual
def uptoBulk {H : Type} : DataW H → Nat
  | .lit (.string bytes) => bytes.length + 1
  | .lit _ => 1
  | .nil => 1
  | .ptr d => uptoBulk d + 1
  | .slice elems spare => uptoBulkAll elems + uptoBulkAll spare + 1
  | .agg parts => uptoBulkAll parts + 1
  | .iface _ d => uptoBulk d + 1
  | .map entries => uptoBulkEntries entries + 1
  | .held _ => 1
def uptoBulkAll {H : Type} : List (DataW H) → Nat
  | [] => 0
  | d :: r => uptoBulk d + uptoBulkAll r
def uptoBulkEntries {H : Type} : List (Lit × DataW H) → Nat
  | [] => 0
  | x :: r => uptoBulkEntry x + uptoBulkEntries r
def uptoBulkEntry {H : Type} : Lit × DataW H → Nat
  | (.string bytes, d) => bytes.length + uptoBulk d + 1
  | (_, d) => uptoBulk d + 1
 end
def uptoSmall : (H : Type) → List (DataW H) → Bool := fun _ ds => decide (uptoBulkAll ds ≤ 1048576)
def OpenSpec.upto (s : _root_.Go.ChangeSpec) : _root_.Go.OpenSpec := { _root_.Go.OpenSpec.ofChange s with cond := some uptoSmall }

/-- 'stemmalaw15.BranchPlays', WHERE WHAT IT READS IS OF BULK AT MOST 1048576: true; the input reads as it did. -/
def branchPlaysUptoRow : OpenClaim := { program := "ytppbbmnekeelpaa", sum := "40a45cd6a34cbe639befb360104c776ef29d5909b1209e58c7ec7c28c8971aa2", func := "stemma/stemmalaw15.BranchPlays", spec := "branchPlays", unfollowed := true, recurses := true, apart := false, narrowed := true }
def BranchPlaysUptoSaid : Prop := branchPlaysUptoRow.holds Try.pinned (OpenSpec.upto branchPlaysSpec)

/-- 'stemmalaw15.BranchLoads', WHERE WHAT IT READS IS OF BULK AT MOST 1048576: true; the input reads as it did. -/
def branchLoadsUptoRow : OpenClaim := { program := "ytppbbmnekeelpaa", sum := "40a45cd6a34cbe639befb360104c776ef29d5909b1209e58c7ec7c28c8971aa2", func := "stemma/stemmalaw15.BranchLoads", spec := "branchLoads", unfollowed := true, recurses := true, apart := false, narrowed := true }
def BranchLoadsUptoSaid : Prop := branchLoadsUptoRow.holds Try.pinned (OpenSpec.upto branchLoadsSpec)

/-- 'stemmalaw15.BranchForks', WHERE WHAT IT READS IS OF BULK AT MOST 1048576: true; the input reads as it did. -/
def branchForksUptoRow : OpenClaim := { program := "ytppbbmnekeelpaa", sum := "40a45cd6a34cbe639befb360104c776ef29d5909b1209e58c7ec7c28c8971aa2", func := "stemma/stemmalaw15.BranchForks", spec := "branchForks", unfollowed := true, recurses := true, apart := false, narrowed := true }
def BranchForksUptoSaid : Prop := branchForksUptoRow.holds Try.pinned (OpenSpec.upto branchForksSpec)

/-- 'stemmalaw15.BranchNobody', WHERE WHAT IT READS IS OF BULK AT MOST 1048576: true; the input reads as it did. -/
def branchNobodyUptoRow : OpenClaim := { program := "ytppbbmnekeelpaa", sum := "40a45cd6a34cbe639befb360104c776ef29d5909b1209e58c7ec7c28c8971aa2", func := "stemma/stemmalaw15.BranchNobody", spec := "branchNobody", unfollowed := true, recurses := true, apart := false, narrowed := true }
def BranchNobodyUptoSaid : Prop := branchNobodyUptoRow.holds Try.pinned (OpenSpec.upto branchNobodySpec)

/-- 'stemmalaw15.BranchApart', WHERE WHAT IT READS IS OF BULK AT MOST 1048576: true; the input reads as it did. -/
def branchApartUptoRow : OpenClaim := { program := "ytppbbmnekeelpaa", sum := "40a45cd6a34cbe639befb360104c776ef29d5909b1209e58c7ec7c28c8971aa2", func := "stemma/stemmalaw15.BranchApart", spec := "branchApart", unfollowed := true, recurses := true, apart := false, narrowed := true }
def BranchApartUptoSaid : Prop := branchApartUptoRow.holds Try.pinned (OpenSpec.upto branchApartSpec)

/-- 'stemmalaw15.BranchBack', WHERE WHAT IT READS IS OF BULK AT MOST 1048576: true; the input reads as it did. -/
def branchBackUptoRow : OpenClaim := { program := "ytppbbmnekeelpaa", sum := "40a45cd6a34cbe639befb360104c776ef29d5909b1209e58c7ec7c28c8971aa2", func := "stemma/stemmalaw15.BranchBack", spec := "branchBack", unfollowed := true, recurses := true, apart := false, narrowed := true }
def BranchBackUptoSaid : Prop := branchBackUptoRow.holds Try.pinned (OpenSpec.upto branchBackSpec)

end Rows
end Go.Proofs.Ytppbbmnekeelpaa
