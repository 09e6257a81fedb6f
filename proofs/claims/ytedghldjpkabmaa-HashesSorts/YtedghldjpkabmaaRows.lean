/-
  No cell of these rows narrows 'for every input' (looked for: loops, veiled, ifaces, maps, wideKeys, modest, calm, conditions, laid).
  DERIVED. THE GIVEN ROWS OF THIS SEAT. 7 by the template 'for every input the law returns true; each argument reads behind the call as it read before'; 0 by the template 'total and deterministic' (their statements: YtedghldjpkabmaaTotals.lean).
  GIVEN WITH THE SEED: the statements are not yours to turn. If you find one false, say at which input.
  Laid BY PROGRAM, IN A SANDBOX (cutbox-rows.mjs): the forced cells as the released guide's own fill.sh prints them over the translation 6601c628bf1e671d… (all of the seat's roots in one cut). By AI agents, Wed Nov 11 2026. No macro, syntax, notation, axiom, sorry.
-/
import Derived.Test.YtedghldjpkabmaaChecked
import GoSem.Claim
import GoSem.ClaimJoined
import GoSem.ClaimMapViews
import Derived.JoinedTies
import Derived.KernelRfl
namespace Go.Proofs.Ytedghldjpkabmaa
/- THE CELL 'sum', in the pinned program and in every row, IS THE sha256 OF THE DUMP (.gsa) THAT YtedghldjpkabmaaProg.lean LOADS. Nothing in Lean hashes anything: it is a label: what it is worth is what the hold of that sum in a sandbox is worth. -/
noncomputable def Try.pinned : Pinned := { name := "ytedghldjpkabmaa", sum := "6601c628bf1e671dfade53167e185b627ed32099ea31155b8810e1b8041723f1", checked := Try.checked }
namespace Rows
def none {H : Type} : Left H := { results := [], args := [] }

/-- 'stemmalaw06.HashesSorts': WHATEVER THE INPUT: true; the input reads as it did. -/
def hashesSortsSpec : ChangeSpec := { name := "hashesSorts", fn := fun _ => fun
  | [d1, d2, d3] => { results := [.lit (.bool true)], args := [d1, d2, d3] }
  | _ => none }
def hashesSortsRow : OpenClaim := { program := "ytedghldjpkabmaa", sum := "6601c628bf1e671dfade53167e185b627ed32099ea31155b8810e1b8041723f1", func := "stemma/stemmalaw06.HashesSorts", spec := "hashesSorts", inPlace := ["internal/reflectlite.ValueOf", "internal/reflectlite.Swapper", "(internal/reflectlite.Value).Len"], unfollowed := true, recurses := true, plainKeys := false, apart := false }
def HashesSortsSaid : Prop := hashesSortsRow.holds Try.pinned (OpenSpec.ofChange hashesSortsSpec)

/-- ITS FALSE NEIGHBOUR: 'it returns false'. Refute it at one input. -/
def hashesSortsWrong : ChangeSpec := { name := "hashesSorts", fn := fun _ => fun
  | [d1, d2, d3] => { results := [.lit (.bool false)], args := [d1, d2, d3] }
  | _ => none }
def HashesSortsWrongFalsely : Prop := hashesSortsRow.holds Try.pinned (OpenSpec.ofChange hashesSortsWrong)

/-- 'stemmalaw06.HashesSets': WHATEVER THE INPUT: true; the input reads as it did. -/
def hashesSetsSpec : ChangeSpec := { name := "hashesSets", fn := fun _ => fun
  | [d1, d2] => { results := [.lit (.bool true)], args := [d1, d2] }
  | _ => none }
def hashesSetsRow : OpenClaim := { program := "ytedghldjpkabmaa", sum := "6601c628bf1e671dfade53167e185b627ed32099ea31155b8810e1b8041723f1", func := "stemma/stemmalaw06.HashesSets", spec := "hashesSets", inPlace := ["internal/reflectlite.ValueOf", "internal/reflectlite.Swapper", "(internal/reflectlite.Value).Len"], unfollowed := true, recurses := true, plainKeys := false, apart := false }
def HashesSetsSaid : Prop := hashesSetsRow.holds Try.pinned (OpenSpec.ofChange hashesSetsSpec)

/-- ITS FALSE NEIGHBOUR: 'it returns false'. Refute it at one input. -/
def hashesSetsWrong : ChangeSpec := { name := "hashesSets", fn := fun _ => fun
  | [d1, d2] => { results := [.lit (.bool false)], args := [d1, d2] }
  | _ => none }
def HashesSetsWrongFalsely : Prop := hashesSetsRow.holds Try.pinned (OpenSpec.ofChange hashesSetsWrong)

/-- 'stemmalaw06.HashesPuts': WHATEVER THE INPUT: true; the input reads as it did. -/
def hashesPutsSpec : ChangeSpec := { name := "hashesPuts", fn := fun _ => fun
  | [d] => { results := [.lit (.bool true)], args := [d] }
  | _ => none }
def hashesPutsRow : OpenClaim := { program := "ytedghldjpkabmaa", sum := "6601c628bf1e671dfade53167e185b627ed32099ea31155b8810e1b8041723f1", func := "stemma/stemmalaw06.HashesPuts", spec := "hashesPuts", inPlace := ["internal/abi.NoEscape", "internal/bytealg.MakeNoZero", "internal/reflectlite.ValueOf", "internal/reflectlite.Swapper", "(internal/reflectlite.Value).Len"], unfollowed := true, recurses := true, plainKeys := false, apart := false }
def HashesPutsSaid : Prop := hashesPutsRow.holds Try.pinned (OpenSpec.ofChange hashesPutsSpec)

/-- ITS FALSE NEIGHBOUR: 'it returns false'. Refute it at one input. -/
def hashesPutsWrong : ChangeSpec := { name := "hashesPuts", fn := fun _ => fun
  | [d] => { results := [.lit (.bool false)], args := [d] }
  | _ => none }
def HashesPutsWrongFalsely : Prop := hashesPutsRow.holds Try.pinned (OpenSpec.ofChange hashesPutsWrong)

/-- 'stemmalaw06.HashesGets': WHATEVER THE INPUT: true; the input reads as it did. -/
def hashesGetsSpec : ChangeSpec := { name := "hashesGets", fn := fun _ => fun
  | [d1, d2] => { results := [.lit (.bool true)], args := [d1, d2] }
  | _ => none }
def hashesGetsRow : OpenClaim := { program := "ytedghldjpkabmaa", sum := "6601c628bf1e671dfade53167e185b627ed32099ea31155b8810e1b8041723f1", func := "stemma/stemmalaw06.HashesGets", spec := "hashesGets", inPlace := ["internal/reflectlite.ValueOf", "internal/reflectlite.Swapper", "(internal/reflectlite.Value).Len"], unfollowed := true, recurses := true, plainKeys := false, apart := false }
def HashesGetsSaid : Prop := hashesGetsRow.holds Try.pinned (OpenSpec.ofChange hashesGetsSpec)

/-- ITS FALSE NEIGHBOUR: 'it returns false'. Refute it at one input. -/
def hashesGetsWrong : ChangeSpec := { name := "hashesGets", fn := fun _ => fun
  | [d1, d2] => { results := [.lit (.bool false)], args := [d1, d2] }
  | _ => none }
def HashesGetsWrongFalsely : Prop := hashesGetsRow.holds Try.pinned (OpenSpec.ofChange hashesGetsWrong)

/-- 'stemmalaw06.HashesNames': WHATEVER THE INPUT: true; the input reads as it did. -/
def hashesNamesSpec : ChangeSpec := { name := "hashesNames", fn := fun _ => fun
  | [d] => { results := [.lit (.bool true)], args := [d] }
  | _ => none }
def hashesNamesRow : OpenClaim := { program := "ytedghldjpkabmaa", sum := "6601c628bf1e671dfade53167e185b627ed32099ea31155b8810e1b8041723f1", func := "stemma/stemmalaw06.HashesNames", spec := "hashesNames", inPlace := ["internal/reflectlite.ValueOf", "internal/reflectlite.Swapper", "(internal/reflectlite.Value).Len"], unfollowed := true, recurses := true, plainKeys := false, apart := false }
def HashesNamesSaid : Prop := hashesNamesRow.holds Try.pinned (OpenSpec.ofChange hashesNamesSpec)

/-- ITS FALSE NEIGHBOUR: 'it returns false'. Refute it at one input. -/
def hashesNamesWrong : ChangeSpec := { name := "hashesNames", fn := fun _ => fun
  | [d] => { results := [.lit (.bool false)], args := [d] }
  | _ => none }
def HashesNamesWrongFalsely : Prop := hashesNamesRow.holds Try.pinned (OpenSpec.ofChange hashesNamesWrong)

/-- 'stemmalaw06.HashesAlgebra': WHATEVER THE INPUT: true; the input reads as it did. -/
def hashesAlgebraSpec : ChangeSpec := { name := "hashesAlgebra", fn := fun _ => fun
  | [d1, d2, d3] => { results := [.lit (.bool true)], args := [d1, d2, d3] }
  | _ => none }
def hashesAlgebraRow : OpenClaim := { program := "ytedghldjpkabmaa", sum := "6601c628bf1e671dfade53167e185b627ed32099ea31155b8810e1b8041723f1", func := "stemma/stemmalaw06.HashesAlgebra", spec := "hashesAlgebra", inPlace := ["internal/reflectlite.ValueOf", "internal/reflectlite.Swapper", "(internal/reflectlite.Value).Len"], unfollowed := true, recurses := true, plainKeys := false, apart := false }
def HashesAlgebraSaid : Prop := hashesAlgebraRow.holds Try.pinned (OpenSpec.ofChange hashesAlgebraSpec)

/-- ITS FALSE NEIGHBOUR: 'it returns false'. Refute it at one input. -/
def hashesAlgebraWrong : ChangeSpec := { name := "hashesAlgebra", fn := fun _ => fun
  | [d1, d2, d3] => { results := [.lit (.bool false)], args := [d1, d2, d3] }
  | _ => none }
def HashesAlgebraWrongFalsely : Prop := hashesAlgebraRow.holds Try.pinned (OpenSpec.ofChange hashesAlgebraWrong)

/-- 'stemmalaw06.HashesBack': WHATEVER THE INPUT: true; the input reads as it did. -/
def hashesBackSpec : ChangeSpec := { name := "hashesBack", fn := fun _ => fun
  | [d1, d2] => { results := [.lit (.bool true)], args := [d1, d2] }
  | _ => none }
def hashesBackRow : OpenClaim := { program := "ytedghldjpkabmaa", sum := "6601c628bf1e671dfade53167e185b627ed32099ea31155b8810e1b8041723f1", func := "stemma/stemmalaw06.HashesBack", spec := "hashesBack", inPlace := ["internal/reflectlite.ValueOf", "internal/reflectlite.Swapper", "(internal/reflectlite.Value).Len"], unfollowed := true, recurses := true, plainKeys := false, apart := false }
def HashesBackSaid : Prop := hashesBackRow.holds Try.pinned (OpenSpec.ofChange hashesBackSpec)

/-- ITS FALSE NEIGHBOUR: 'it returns false'. Refute it at one input. -/
def hashesBackWrong : ChangeSpec := { name := "hashesBack", fn := fun _ => fun
  | [d1, d2] => { results := [.lit (.bool false)], args := [d1, d2] }
  | _ => none }
def HashesBackWrongFalsely : Prop := hashesBackRow.holds Try.pinned (OpenSpec.ofChange hashesBackWrong)

/- THE SECOND FORM. 'bulk': how many values and letters a reading holds, each counted each time it is reached (what is shared counts as often as it is met; a slice's spare places count too). A statement '..UptoSaid' is the law's where the arguments, and the package variables that the reading takes, are together of bulk at most 1048576: NARROWER than '..Said'. Prove '..Said' where nothing that the law and all that it calls make is longer than what came in: it says more and counts as full. Else prove '..UptoSaid'. A law counts once. -/
mutual
def uptoBulk {H : Type} : DataW H → Nat
  | .lit (.string bytes) => bytes.length + 1
  | .lit _ => 1
  | .nil => 1
  | .ptr d => uptoBulk d + 1
  | .slice elems spare => uptoBulkAll elems + uptoBulkAll spare + 1
  | .agg parts => uptoBulkAll parts + 1
  | .iface _ d => uptoBulk d + 1
  | .map entries => uptoBulkEntries entries + 1
  | .held _ => 1
def uptoBulkAll {H : Type} : List (DataW H) → Nat
  | [] => 0
  | d :: r => uptoBulk d + uptoBulkAll r
def uptoBulkEntries {H : Type} : List (Lit × DataW H) → Nat
  | [] => 0
  | x :: r => uptoBulkEntry x + uptoBulkEntries r
def uptoBulkEntry {H : Type} : Lit × DataW H → Nat
  | (.string bytes, d) => bytes.length + uptoBulk d + 1
  | (_, d) => uptoBulk d + 1
 end
def uptoSmall : (H : Type) → List (DataW H) → Bool := fun _ ds => decide (uptoBulkAll ds ≤ 1048576)
def OpenSpec.upto (s : _root_.Go.ChangeSpec) : _root_.Go.OpenSpec := { _root_.Go.OpenSpec.ofChange s with cond := some uptoSmall }

/-- 'stemmalaw06.HashesSorts', WHERE WHAT IT READS IS OF BULK AT MOST 1048576: true; the input reads as it did. -/
def hashesSortsUptoRow : OpenClaim := { program := "ytedghldjpkabmaa", sum := "6601c628bf1e671dfade53167e185b627ed32099ea31155b8810e1b8041723f1", func := "stemma/stemmalaw06.HashesSorts", spec := "hashesSorts", inPlace := ["internal/reflectlite.ValueOf", "internal/reflectlite.Swapper", "(internal/reflectlite.Value).Len"], unfollowed := true, recurses := true, plainKeys := false, apart := false, narrowed := true }
def HashesSortsUptoSaid : Prop := hashesSortsUptoRow.holds Try.pinned (OpenSpec.upto hashesSortsSpec)

/-- 'stemmalaw06.HashesSets', WHERE WHAT IT READS IS OF BULK AT MOST 1048576: true; the input reads as it did. -/
def hashesSetsUptoRow : OpenClaim := { program := "ytedghldjpkabmaa", sum := "6601c628bf1e671dfade53167e185b627ed32099ea31155b8810e1b8041723f1", func := "stemma/stemmalaw06.HashesSets", spec := "hashesSets", inPlace := ["internal/reflectlite.ValueOf", "internal/reflectlite.Swapper", "(internal/reflectlite.Value).Len"], unfollowed := true, recurses := true, plainKeys := false, apart := false, narrowed := true }
def HashesSetsUptoSaid : Prop := hashesSetsUptoRow.holds Try.pinned (OpenSpec.upto hashesSetsSpec)

/-- 'stemmalaw06.HashesPuts', WHERE WHAT IT READS IS OF BULK AT MOST 1048576: true; the input reads as it did. -/
def hashesPutsUptoRow : OpenClaim := { program := "ytedghldjpkabmaa", sum := "6601c628bf1e671dfade53167e185b627ed32099ea31155b8810e1b8041723f1", func := "stemma/stemmalaw06.HashesPuts", spec := "hashesPuts", inPlace := ["internal/abi.NoEscape", "internal/bytealg.MakeNoZero", "internal/reflectlite.ValueOf", "internal/reflectlite.Swapper", "(internal/reflectlite.Value).Len"], unfollowed := true, recurses := true, plainKeys := false, apart := false, narrowed := true }
def HashesPutsUptoSaid : Prop := hashesPutsUptoRow.holds Try.pinned (OpenSpec.upto hashesPutsSpec)

/-- 'stemmalaw06.HashesGets', WHERE WHAT IT READS IS OF BULK AT MOST 1048576: true; the input reads as it did. -/
def hashesGetsUptoRow : OpenClaim := { program := "ytedghldjpkabmaa", sum := "6601c628bf1e671dfade53167e185b627ed32099ea31155b8810e1b8041723f1", func := "stemma/stemmalaw06.HashesGets", spec := "hashesGets", inPlace := ["internal/reflectlite.ValueOf", "internal/reflectlite.Swapper", "(internal/reflectlite.Value).Len"], unfollowed := true, recurses := true, plainKeys := false, apart := false, narrowed := true }
def HashesGetsUptoSaid : Prop := hashesGetsUptoRow.holds Try.pinned (OpenSpec.upto hashesGetsSpec)

/-- 'stemmalaw06.HashesNames', WHERE WHAT IT READS IS OF BULK AT MOST 1048576: true; the input reads as it did. -/
def hashesNamesUptoRow : OpenClaim := { program := "ytedghldjpkabmaa", sum := "6601c628bf1e671dfade53167e185b627ed32099ea31155b8810e1b8041723f1", func := "stemma/stemmalaw06.HashesNames", spec := "hashesNames", inPlace := ["internal/reflectlite.ValueOf", "internal/reflectlite.Swapper", "(internal/reflectlite.Value).Len"], unfollowed := true, recurses := true, plainKeys := false, apart := false, narrowed := true }
def HashesNamesUptoSaid : Prop := hashesNamesUptoRow.holds Try.pinned (OpenSpec.upto hashesNamesSpec)

/-- 'stemmalaw06.HashesAlgebra', WHERE WHAT IT READS IS OF BULK AT MOST 1048576: true; the input reads as it did. -/
def hashesAlgebraUptoRow : OpenClaim := { program := "ytedghldjpkabmaa", sum := "6601c628bf1e671dfade53167e185b627ed32099ea31155b8810e1b8041723f1", func := "stemma/stemmalaw06.HashesAlgebra", spec := "hashesAlgebra", inPlace := ["internal/reflectlite.ValueOf", "internal/reflectlite.Swapper", "(internal/reflectlite.Value).Len"], unfollowed := true, recurses := true, plainKeys := false, apart := false, narrowed := true }
def HashesAlgebraUptoSaid : Prop := hashesAlgebraUptoRow.holds Try.pinned (OpenSpec.upto hashesAlgebraSpec)

/-- 'stemmalaw06.HashesBack', WHERE WHAT IT READS IS OF BULK AT MOST 1048576: true; the input reads as it did. -/
def hashesBackUptoRow : OpenClaim := { program := "ytedghldjpkabmaa", sum := "6601c628bf1e671dfade53167e185b627ed32099ea31155b8810e1b8041723f1", func := "stemma/stemmalaw06.HashesBack", spec := "hashesBack", inPlace := ["internal/reflectlite.ValueOf", "internal/reflectlite.Swapper", "(internal/reflectlite.Value).Len"], unfollowed := true, recurses := true, plainKeys := false, apart := false, narrowed := true }
def HashesBackUptoSaid : Prop := hashesBackUptoRow.holds Try.pinned (OpenSpec.upto hashesBackSpec)

end Rows
end Go.Proofs.Ytedghldjpkabmaa
