/-
  No cell of these rows narrows 'for every input' (looked for: loops, veiled, ifaces, maps, wideKeys, modest, calm, conditions, laid).
  DERIVED. THE GIVEN ROWS OF THIS SEAT. 8 by the template 'for every input the law returns true; each argument reads behind the call as it read before'; 0 by the template 'total and deterministic' (their statements: YtfeepebiahekkaaTotals.lean).
  GIVEN WITH THE SEED: the statements are not yours to turn. If you find one false, say at which input.
  Laid BY PROGRAM, IN A SANDBOX (cutbox-rows.mjs): the forced cells as the released guide's own fill.sh prints them over the translation 0c54a14dae6f5448… (all of the seat's roots in one cut). By AI agents, Wed Nov 11 2026. No macro, syntax, notation, axiom, sorry.
-/
import Derived.Test.YtfeepebiahekkaaChecked
import GoSem.Claim
import GoSem.ClaimJoined
import GoSem.ClaimMapViews
import Derived.JoinedTies
import Derived.KernelRfl
namespace Go.Proofs.Ytfeepebiahekkaa
/- THE CELL 'sum', in the pinned program and in every row, IS THE sha256 OF THE DUMP (.gsa) THAT YtfeepebiahekkaaProg.lean LOADS. Nothing in Lean hashes anything: it is a label: what it is worth is what the hold of that sum in a sandbox is worth. -/
noncomputable def Try.pinned : Pinned := { name := "ytfeepebiahekkaa", sum := "0c54a14dae6f54489b8e4e1170a58cca8c5c43fd9278f0f3ee3b485c510ce583", checked := Try.checked }
namespace Rows
def none {H : Type} : Left H := { results := [], args := [] }

/-- 'stemmalaw02.LebPuts': WHATEVER THE INPUT: true; the input reads as it did. -/
def lebPutsSpec : ChangeSpec := { name := "lebPuts", fn := fun _ => fun
  | [d1, d2, d3] => { results := [.lit (.bool true)], args := [d1, d2, d3] }
  | _ => none }
def lebPutsRow : OpenClaim := { program := "ytfeepebiahekkaa", sum := "0c54a14dae6f54489b8e4e1170a58cca8c5c43fd9278f0f3ee3b485c510ce583", func := "stemma/stemmalaw02.LebPuts", spec := "lebPuts", apart := false }
def LebPutsSaid : Prop := lebPutsRow.holds Try.pinned (OpenSpec.ofChange lebPutsSpec)

/-- ITS FALSE NEIGHBOUR: 'it returns false'. Refute it at one input. -/
def lebPutsWrong : ChangeSpec := { name := "lebPuts", fn := fun _ => fun
  | [d1, d2, d3] => { results := [.lit (.bool false)], args := [d1, d2, d3] }
  | _ => none }
def LebPutsWrongFalsely : Prop := lebPutsRow.holds Try.pinned (OpenSpec.ofChange lebPutsWrong)

/-- 'stemmalaw02.LebGets': WHATEVER THE INPUT: true; the input reads as it did. -/
def lebGetsSpec : ChangeSpec := { name := "lebGets", fn := fun _ => fun
  | [d] => { results := [.lit (.bool true)], args := [d] }
  | _ => none }
def lebGetsRow : OpenClaim := { program := "ytfeepebiahekkaa", sum := "0c54a14dae6f54489b8e4e1170a58cca8c5c43fd9278f0f3ee3b485c510ce583", func := "stemma/stemmalaw02.LebGets", spec := "lebGets", apart := false }
def LebGetsSaid : Prop := lebGetsRow.holds Try.pinned (OpenSpec.ofChange lebGetsSpec)

/-- ITS FALSE NEIGHBOUR: 'it returns false'. Refute it at one input. -/
def lebGetsWrong : ChangeSpec := { name := "lebGets", fn := fun _ => fun
  | [d] => { results := [.lit (.bool false)], args := [d] }
  | _ => none }
def LebGetsWrongFalsely : Prop := lebGetsRow.holds Try.pinned (OpenSpec.ofChange lebGetsWrong)

/-- 'stemmalaw02.LebTexts': WHATEVER THE INPUT: true; the input reads as it did. -/
def lebTextsSpec : ChangeSpec := { name := "lebTexts", fn := fun _ => fun
  | [d1, d2] => { results := [.lit (.bool true)], args := [d1, d2] }
  | _ => none }
def lebTextsRow : OpenClaim := { program := "ytfeepebiahekkaa", sum := "0c54a14dae6f54489b8e4e1170a58cca8c5c43fd9278f0f3ee3b485c510ce583", func := "stemma/stemmalaw02.LebTexts", spec := "lebTexts", apart := false }
def LebTextsSaid : Prop := lebTextsRow.holds Try.pinned (OpenSpec.ofChange lebTextsSpec)

/-- ITS FALSE NEIGHBOUR: 'it returns false'. Refute it at one input. -/
def lebTextsWrong : ChangeSpec := { name := "lebTexts", fn := fun _ => fun
  | [d1, d2] => { results := [.lit (.bool false)], args := [d1, d2] }
  | _ => none }
def LebTextsWrongFalsely : Prop := lebTextsRow.holds Try.pinned (OpenSpec.ofChange lebTextsWrong)

/-- 'stemmalaw02.LebReads': WHATEVER THE INPUT: true; the input reads as it did. -/
def lebReadsSpec : ChangeSpec := { name := "lebReads", fn := fun _ => fun
  | [d1, d2] => { results := [.lit (.bool true)], args := [d1, d2] }
  | _ => none }
def lebReadsRow : OpenClaim := { program := "ytfeepebiahekkaa", sum := "0c54a14dae6f54489b8e4e1170a58cca8c5c43fd9278f0f3ee3b485c510ce583", func := "stemma/stemmalaw02.LebReads", spec := "lebReads", unfollowed := true, recurses := true, apart := false }
def LebReadsSaid : Prop := lebReadsRow.holds Try.pinned (OpenSpec.ofChange lebReadsSpec)

/-- ITS FALSE NEIGHBOUR: 'it returns false'. Refute it at one input. -/
def lebReadsWrong : ChangeSpec := { name := "lebReads", fn := fun _ => fun
  | [d1, d2] => { results := [.lit (.bool false)], args := [d1, d2] }
  | _ => none }
def LebReadsWrongFalsely : Prop := lebReadsRow.holds Try.pinned (OpenSpec.ofChange lebReadsWrong)

/-- 'stemmalaw02.LebBack': WHATEVER THE INPUT: true; the input reads as it did. -/
def lebBackSpec : ChangeSpec := { name := "lebBack", fn := fun _ => fun
  | [d1, d2, d3] => { results := [.lit (.bool true)], args := [d1, d2, d3] }
  | _ => none }
def lebBackRow : OpenClaim := { program := "ytfeepebiahekkaa", sum := "0c54a14dae6f54489b8e4e1170a58cca8c5c43fd9278f0f3ee3b485c510ce583", func := "stemma/stemmalaw02.LebBack", spec := "lebBack", apart := false }
def LebBackSaid : Prop := lebBackRow.holds Try.pinned (OpenSpec.ofChange lebBackSpec)

/-- ITS FALSE NEIGHBOUR: 'it returns false'. Refute it at one input. -/
def lebBackWrong : ChangeSpec := { name := "lebBack", fn := fun _ => fun
  | [d1, d2, d3] => { results := [.lit (.bool false)], args := [d1, d2, d3] }
  | _ => none }
def LebBackWrongFalsely : Prop := lebBackRow.holds Try.pinned (OpenSpec.ofChange lebBackWrong)

/-- 'stemmalaw02.LebOnly': WHATEVER THE INPUT: true; the input reads as it did. -/
def lebOnlySpec : ChangeSpec := { name := "lebOnly", fn := fun _ => fun
  | [d] => { results := [.lit (.bool true)], args := [d] }
  | _ => none }
def lebOnlyRow : OpenClaim := { program := "ytfeepebiahekkaa", sum := "0c54a14dae6f54489b8e4e1170a58cca8c5c43fd9278f0f3ee3b485c510ce583", func := "stemma/stemmalaw02.LebOnly", spec := "lebOnly", apart := false }
def LebOnlySaid : Prop := lebOnlyRow.holds Try.pinned (OpenSpec.ofChange lebOnlySpec)

/-- ITS FALSE NEIGHBOUR: 'it returns false'. Refute it at one input. -/
def lebOnlyWrong : ChangeSpec := { name := "lebOnly", fn := fun _ => fun
  | [d] => { results := [.lit (.bool false)], args := [d] }
  | _ => none }
def LebOnlyWrongFalsely : Prop := lebOnlyRow.holds Try.pinned (OpenSpec.ofChange lebOnlyWrong)

/-- 'stemmalaw02.LebShort': WHATEVER THE INPUT: true; the input reads as it did. -/
def lebShortSpec : ChangeSpec := { name := "lebShort", fn := fun _ => fun
  | [d] => { results := [.lit (.bool true)], args := [d] }
  | _ => none }
def lebShortRow : OpenClaim := { program := "ytfeepebiahekkaa", sum := "0c54a14dae6f54489b8e4e1170a58cca8c5c43fd9278f0f3ee3b485c510ce583", func := "stemma/stemmalaw02.LebShort", spec := "lebShort", apart := false }
def LebShortSaid : Prop := lebShortRow.holds Try.pinned (OpenSpec.ofChange lebShortSpec)

/-- ITS FALSE NEIGHBOUR: 'it returns false'. Refute it at one input. -/
def lebShortWrong : ChangeSpec := { name := "lebShort", fn := fun _ => fun
  | [d] => { results := [.lit (.bool false)], args := [d] }
  | _ => none }
def LebShortWrongFalsely : Prop := lebShortRow.holds Try.pinned (OpenSpec.ofChange lebShortWrong)

/-- 'stemmalaw02.LebNobody': WHATEVER THE INPUT: true; the input reads as it did. -/
def lebNobodySpec : ChangeSpec := { name := "lebNobody", fn := fun _ => fun
  | [d] => { results := [.lit (.bool true)], args := [d] }
  | _ => none }
def lebNobodyRow : OpenClaim := { program := "ytfeepebiahekkaa", sum := "0c54a14dae6f54489b8e4e1170a58cca8c5c43fd9278f0f3ee3b485c510ce583", func := "stemma/stemmalaw02.LebNobody", spec := "lebNobody", unfollowed := true, recurses := true, apart := false }
def LebNobodySaid : Prop := lebNobodyRow.holds Try.pinned (OpenSpec.ofChange lebNobodySpec)

/-- ITS FALSE NEIGHBOUR: 'it returns false'. Refute it at one input. -/
def lebNobodyWrong : ChangeSpec := { name := "lebNobody", fn := fun _ => fun
  | [d] => { results := [.lit (.bool false)], args := [d] }
  | _ => none }
def LebNobodyWrongFalsely : Prop := lebNobodyRow.holds Try.pinned (OpenSpec.ofChange lebNobodyWrong)

/- THE SECOND FORM. 'bulk': how many values and letters a reading holds, each counted each time it is reached (what is shared counts as often as it is met; a slice's spare places count too). A statement '..UptoSaid' is the law's where the arguments, and the package variables that the reading takes, are together of bulk at most 1048576: NARROWER than '..Said'. Prove '..Said' where nothing that the law and all that it calls make is longer than what came in: it says more and counts as full. Else prove '..UptoSaid'. A law counts once. -/
mutual
def uptoBulk {H : Type} : DataW H → Nat
  | .lit (.string bytes) => bytes.length + 1
  | .lit _ => 1
  | .nil => 1
  | .ptr d => uptoBulk d + 1
  | .slice elems spare => uptoBulkAll elems + uptoBulkAll spare + 1
  | .agg parts => uptoBulkAll parts + 1
  | .iface _ d => uptoBulk d + 1
  | .map entries => uptoBulkEntries entries + 1
  | .held _ => 1
def uptoBulkAll {H : Type} : List (DataW H) → Nat
  | [] => 0
  | d :: r => uptoBulk d + uptoBulkAll r
def uptoBulkEntries {H : Type} : List (Lit × DataW H) → Nat
  | [] => 0
  | x :: r => uptoBulkEntry x + uptoBulkEntries r
def uptoBulkEntry {H : Type} : Lit × DataW H → Nat
  | (.string bytes, d) => bytes.length + uptoBulk d + 1
  | (_, d) => uptoBulk d + 1
 end
def uptoSmall : (H : Type) → List (DataW H) → Bool := fun _ ds => decide (uptoBulkAll ds ≤ 1048576)
def OpenSpec.upto (s : _root_.Go.ChangeSpec) : _root_.Go.OpenSpec := { _root_.Go.OpenSpec.ofChange s with cond := some uptoSmall }

/-- 'stemmalaw02.LebPuts', WHERE WHAT IT READS IS OF BULK AT MOST 1048576: true; the input reads as it did. -/
def lebPutsUptoRow : OpenClaim := { program := "ytfeepebiahekkaa", sum := "0c54a14dae6f54489b8e4e1170a58cca8c5c43fd9278f0f3ee3b485c510ce583", func := "stemma/stemmalaw02.LebPuts", spec := "lebPuts", apart := false, narrowed := true }
def LebPutsUptoSaid : Prop := lebPutsUptoRow.holds Try.pinned (OpenSpec.upto lebPutsSpec)

/-- 'stemmalaw02.LebGets', WHERE WHAT IT READS IS OF BULK AT MOST 1048576: true; the input reads as it did. -/
def lebGetsUptoRow : OpenClaim := { program := "ytfeepebiahekkaa", sum := "0c54a14dae6f54489b8e4e1170a58cca8c5c43fd9278f0f3ee3b485c510ce583", func := "stemma/stemmalaw02.LebGets", spec := "lebGets", apart := false, narrowed := true }
def LebGetsUptoSaid : Prop := lebGetsUptoRow.holds Try.pinned (OpenSpec.upto lebGetsSpec)

/-- 'stemmalaw02.LebTexts', WHERE WHAT IT READS IS OF BULK AT MOST 1048576: true; the input reads as it did. -/
def lebTextsUptoRow : OpenClaim := { program := "ytfeepebiahekkaa", sum := "0c54a14dae6f54489b8e4e1170a58cca8c5c43fd9278f0f3ee3b485c510ce583", func := "stemma/stemmalaw02.LebTexts", spec := "lebTexts", apart := false, narrowed := true }
def LebTextsUptoSaid : Prop := lebTextsUptoRow.holds Try.pinned (OpenSpec.upto lebTextsSpec)

/-- 'stemmalaw02.LebReads', WHERE WHAT IT READS IS OF BULK AT MOST 1048576: true; the input reads as it did. -/
def lebReadsUptoRow : OpenClaim := { program := "ytfeepebiahekkaa", sum := "0c54a14dae6f54489b8e4e1170a58cca8c5c43fd9278f0f3ee3b485c510ce583", func := "stemma/stemmalaw02.LebReads", spec := "lebReads", unfollowed := true, recurses := true, apart := false, narrowed := true }
def LebReadsUptoSaid : Prop := lebReadsUptoRow.holds Try.pinned (OpenSpec.upto lebReadsSpec)

/-- 'stemmalaw02.LebBack', WHERE WHAT IT READS IS OF BULK AT MOST 1048576: true; the input reads as it did. -/
def lebBackUptoRow : OpenClaim := { program := "ytfeepebiahekkaa", sum := "0c54a14dae6f54489b8e4e1170a58cca8c5c43fd9278f0f3ee3b485c510ce583", func := "stemma/stemmalaw02.LebBack", spec := "lebBack", apart := false, narrowed := true }
def LebBackUptoSaid : Prop := lebBackUptoRow.holds Try.pinned (OpenSpec.upto lebBackSpec)

/-- 'stemmalaw02.LebOnly', WHERE WHAT IT READS IS OF BULK AT MOST 1048576: true; the input reads as it did. -/
def lebOnlyUptoRow : OpenClaim := { program := "ytfeepebiahekkaa", sum := "0c54a14dae6f54489b8e4e1170a58cca8c5c43fd9278f0f3ee3b485c510ce583", func := "stemma/stemmalaw02.LebOnly", spec := "lebOnly", apart := false, narrowed := true }
def LebOnlyUptoSaid : Prop := lebOnlyUptoRow.holds Try.pinned (OpenSpec.upto lebOnlySpec)

/-- 'stemmalaw02.LebShort', WHERE WHAT IT READS IS OF BULK AT MOST 1048576: true; the input reads as it did. -/
def lebShortUptoRow : OpenClaim := { program := "ytfeepebiahekkaa", sum := "0c54a14dae6f54489b8e4e1170a58cca8c5c43fd9278f0f3ee3b485c510ce583", func := "stemma/stemmalaw02.LebShort", spec := "lebShort", apart := false, narrowed := true }
def LebShortUptoSaid : Prop := lebShortUptoRow.holds Try.pinned (OpenSpec.upto lebShortSpec)

/-- 'stemmalaw02.LebNobody', WHERE WHAT IT READS IS OF BULK AT MOST 1048576: true; the input reads as it did. -/
def lebNobodyUptoRow : OpenClaim := { program := "ytfeepebiahekkaa", sum := "0c54a14dae6f54489b8e4e1170a58cca8c5c43fd9278f0f3ee3b485c510ce583", func := "stemma/stemmalaw02.LebNobody", spec := "lebNobody", unfollowed := true, recurses := true, apart := false, narrowed := true }
def LebNobodyUptoSaid : Prop := lebNobodyUptoRow.holds Try.pinned (OpenSpec.upto lebNobodySpec)

end Rows
end Go.Proofs.Ytfeepebiahekkaa
