/-
  NARROWER THAN 'FOR EVERY INPUT', by the rows' own cells (each row's printed sentence says how): ChangeChecks: laid · ChangePuts: laid · ChangeGets: laid · ChangeBack: laid · ChangeApart: laid · ChangeLong: laid.
  DERIVED. THE GIVEN ROWS OF THIS SEAT. 6 by the template 'for every input the law returns true; each argument reads behind the call as it read before'; 0 by the template 'total and deterministic' (their statements: YtgmdolpjkaajfaaGreatDoorTotals.lean).
  GIVEN WITH THE SEED: the statements are not yours to turn. If you find one false, say at which input.
  Laid BY PROGRAM, IN A SANDBOX (cutbox-rows.mjs): the forced cells as the released guide's own fill.sh prints them over the translation 4b7dd759bc44f942… (all of the seat's roots in one cut). By AI agents, Wed Nov 11 2026. No macro, syntax, notation, axiom, sorry.
-/
import Derived.Test.YtgmdolpjkaajfaaGreatDoorChecked
import GoSem.Claim
import GoSem.ClaimJoined
import GoSem.ClaimMapViews
import Derived.JoinedTies
import Derived.KernelRfl
namespace Go.Proofs.YtgmdolpjkaajfaaGreatDoor
/- THE CELL 'sum', in the pinned program and in every row, IS THE sha256 OF THE DUMP (.gsa) THAT YtgmdolpjkaajfaaGreatDoorProg.lean LOADS. Nothing in Lean hashes anything: it is a label: what it is worth is what the hold of that sum in a sandbox is worth. -/
noncomputable def Tryz.pinned : Pinned := { name := "ytgmdolpjkaajfaagreatdoor", sum := "4b7dd759bc44f9421338e4ebeb7b4749dfdf857594c7c45d69322574825a8b0c", checked := Tryz.checked }
namespace Rows
def none {H : Type} : Left H := { results := [], args := [] }

/- WHAT THE LISTED PACKAGE-LEVEL VARIABLES READ AS WHEN THE CALL BEGINS. Each datum BY PROGRAM (the guide's laid-datum.mjs) off the statement by which the dump's own 'gosem.cut.vars' lays the variable. In a bare row this is a premise. The card (YtgmdolpjkaajfaaGreatDoorCards.lean) ties it to the program's text. -/
def laid_stemma_sha_roundWords {H : Type} : DataW H := .agg [.lit (.int .u32 1116352408), .lit (.int .u32 1899447441), .lit (.int .u32 3049323471), .lit (.int .u32 3921009573), .lit (.int .u32 961987163), .lit (.int .u32 1508970993), .lit (.int .u32 2453635748), .lit (.int .u32 2870763221), .lit (.int .u32 3624381080), .lit (.int .u32 310598401), .lit (.int .u32 607225278), .lit (.int .u32 1426881987), .lit (.int .u32 1925078388), .lit (.int .u32 2162078206), .lit (.int .u32 2614888103), .lit (.int .u32 3248222580), .lit (.int .u32 3835390401), .lit (.int .u32 4022224774), .lit (.int .u32 264347078), .lit (.int .u32 604807628), .lit (.int .u32 770255983), .lit (.int .u32 1249150122), .lit (.int .u32 1555081692), .lit (.int .u32 1996064986), .lit (.int .u32 2554220882), .lit (.int .u32 2821834349), .lit (.int .u32 2952996808), .lit (.int .u32 3210313671), .lit (.int .u32 3336571891), .lit (.int .u32 3584528711), .lit (.int .u32 113926993), .lit (.int .u32 338241895), .lit (.int .u32 666307205), .lit (.int .u32 773529912), .lit (.int .u32 1294757372), .lit (.int .u32 1396182291), .lit (.int .u32 1695183700), .lit (.int .u32 1986661051), .lit (.int .u32 2177026350), .lit (.int .u32 2456956037), .lit (.int .u32 2730485921), .lit (.int .u32 2820302411), .lit (.int .u32 3259730800), .lit (.int .u32 3345764771), .lit (.int .u32 3516065817), .lit (.int .u32 3600352804), .lit (.int .u32 4094571909), .lit (.int .u32 275423344), .lit (.int .u32 430227734), .lit (.int .u32 506948616), .lit (.int .u32 659060556), .lit (.int .u32 883997877), .lit (.int .u32 958139571), .lit (.int .u32 1322822218), .lit (.int .u32 1537002063), .lit (.int .u32 1747873779), .lit (.int .u32 1955562222), .lit (.int .u32 2024104815), .lit (.int .u32 2227730452), .lit (.int .u32 2361852424), .lit (.int .u32 2428436474), .lit (.int .u32 2756734187), .lit (.int .u32 3204031479), .lit (.int .u32 3329325298)]

/-- 'stemmalaw08.ChangeChecks': WHATEVER THE INPUT: true; the input reads as it did. -/
def changeChecksSpec : ChangeSpec := { name := "changeChecks", fn := fun _ => fun
  | [d1, d2] => { results := [.lit (.bool true)], args := [d1, d2] }
  | _ => none }
def changeChecksRow : OpenClaim := { program := "ytgmdolpjkaajfaagreatdoor", sum := "4b7dd759bc44f9421338e4ebeb7b4749dfdf857594c7c45d69322574825a8b0c", func := "stemma/stemmalaw08.ChangeChecks", spec := "changeChecks", unfollowed := true, recurses := true, named := ["stemma/sha.roundWords"], apart := false, laid := [("stemma/sha.roundWords", laid_stemma_sha_roundWords)] }
def ChangeChecksSaid : Prop := changeChecksRow.holds Tryz.pinned (OpenSpec.ofChange changeChecksSpec)

/-- ITS FALSE NEIGHBOUR: 'it returns false'. Refute it at one input. -/
def changeChecksWrong : ChangeSpec := { name := "changeChecks", fn := fun _ => fun
  | [d1, d2] => { results := [.lit (.bool false)], args := [d1, d2] }
  | _ => none }
def ChangeChecksWrongFalsely : Prop := changeChecksRow.holds Tryz.pinned (OpenSpec.ofChange changeChecksWrong)

/-- 'stemmalaw08.ChangePuts': WHATEVER THE INPUT: true; the input reads as it did. -/
def changePutsSpec : ChangeSpec := { name := "changePuts", fn := fun _ => fun
  | [d] => { results := [.lit (.bool true)], args := [d] }
  | _ => none }
def changePutsRow : OpenClaim := { program := "ytgmdolpjkaajfaagreatdoor", sum := "4b7dd759bc44f9421338e4ebeb7b4749dfdf857594c7c45d69322574825a8b0c", func := "stemma/stemmalaw08.ChangePuts", spec := "changePuts", unfollowed := true, recurses := true, named := ["stemma/sha.roundWords"], apart := false, laid := [("stemma/sha.roundWords", laid_stemma_sha_roundWords)] }
def ChangePutsSaid : Prop := changePutsRow.holds Tryz.pinned (OpenSpec.ofChange changePutsSpec)

/-- ITS FALSE NEIGHBOUR: 'it returns false'. Refute it at one input. -/
def changePutsWrong : ChangeSpec := { name := "changePuts", fn := fun _ => fun
  | [d] => { results := [.lit (.bool false)], args := [d] }
  | _ => none }
def ChangePutsWrongFalsely : Prop := changePutsRow.holds Tryz.pinned (OpenSpec.ofChange changePutsWrong)

/-- 'stemmalaw08.ChangeGets': WHATEVER THE INPUT: true; the input reads as it did. -/
def changeGetsSpec : ChangeSpec := { name := "changeGets", fn := fun _ => fun
  | [d] => { results := [.lit (.bool true)], args := [d] }
  | _ => none }
def changeGetsRow : OpenClaim := { program := "ytgmdolpjkaajfaagreatdoor", sum := "4b7dd759bc44f9421338e4ebeb7b4749dfdf857594c7c45d69322574825a8b0c", func := "stemma/stemmalaw08.ChangeGets", spec := "changeGets", unfollowed := true, recurses := true, named := ["stemma/sha.roundWords"], apart := false, laid := [("stemma/sha.roundWords", laid_stemma_sha_roundWords)] }
def ChangeGetsSaid : Prop := changeGetsRow.holds Tryz.pinned (OpenSpec.ofChange changeGetsSpec)

/-- ITS FALSE NEIGHBOUR: 'it returns false'. Refute it at one input. -/
def changeGetsWrong : ChangeSpec := { name := "changeGets", fn := fun _ => fun
  | [d] => { results := [.lit (.bool false)], args := [d] }
  | _ => none }
def ChangeGetsWrongFalsely : Prop := changeGetsRow.holds Tryz.pinned (OpenSpec.ofChange changeGetsWrong)

/-- 'stemmalaw08.ChangeBack': WHATEVER THE INPUT: true; the input reads as it did. -/
def changeBackSpec : ChangeSpec := { name := "changeBack", fn := fun _ => fun
  | [d] => { results := [.lit (.bool true)], args := [d] }
  | _ => none }
def changeBackRow : OpenClaim := { program := "ytgmdolpjkaajfaagreatdoor", sum := "4b7dd759bc44f9421338e4ebeb7b4749dfdf857594c7c45d69322574825a8b0c", func := "stemma/stemmalaw08.ChangeBack", spec := "changeBack", unfollowed := true, recurses := true, named := ["stemma/sha.roundWords"], apart := false, laid := [("stemma/sha.roundWords", laid_stemma_sha_roundWords)] }
def ChangeBackSaid : Prop := changeBackRow.holds Tryz.pinned (OpenSpec.ofChange changeBackSpec)

/-- ITS FALSE NEIGHBOUR: 'it returns false'. Refute it at one input. -/
def changeBackWrong : ChangeSpec := { name := "changeBack", fn := fun _ => fun
  | [d] => { results := [.lit (.bool false)], args := [d] }
  | _ => none }
def ChangeBackWrongFalsely : Prop := changeBackRow.holds Tryz.pinned (OpenSpec.ofChange changeBackWrong)

/-- 'stemmalaw08.ChangeApart': WHATEVER THE INPUT: true; the input reads as it did. -/
def changeApartSpec : ChangeSpec := { name := "changeApart", fn := fun _ => fun
  | [d1, d2, d3] => { results := [.lit (.bool true)], args := [d1, d2, d3] }
  | _ => none }
def changeApartRow : OpenClaim := { program := "ytgmdolpjkaajfaagreatdoor", sum := "4b7dd759bc44f9421338e4ebeb7b4749dfdf857594c7c45d69322574825a8b0c", func := "stemma/stemmalaw08.ChangeApart", spec := "changeApart", unfollowed := true, recurses := true, named := ["stemma/sha.roundWords"], apart := false, laid := [("stemma/sha.roundWords", laid_stemma_sha_roundWords)] }
def ChangeApartSaid : Prop := changeApartRow.holds Tryz.pinned (OpenSpec.ofChange changeApartSpec)

/-- ITS FALSE NEIGHBOUR: 'it returns false'. Refute it at one input. -/
def changeApartWrong : ChangeSpec := { name := "changeApart", fn := fun _ => fun
  | [d1, d2, d3] => { results := [.lit (.bool false)], args := [d1, d2, d3] }
  | _ => none }
def ChangeApartWrongFalsely : Prop := changeApartRow.holds Tryz.pinned (OpenSpec.ofChange changeApartWrong)

/-- 'stemmalaw08.ChangeLong': WHATEVER THE INPUT: true; the input reads as it did. -/
def changeLongSpec : ChangeSpec := { name := "changeLong", fn := fun _ => fun
  | [d1, d2, d3] => { results := [.lit (.bool true)], args := [d1, d2, d3] }
  | _ => none }
def changeLongRow : OpenClaim := { program := "ytgmdolpjkaajfaagreatdoor", sum := "4b7dd759bc44f9421338e4ebeb7b4749dfdf857594c7c45d69322574825a8b0c", func := "stemma/stemmalaw08.ChangeLong", spec := "changeLong", unfollowed := true, recurses := true, named := ["stemma/sha.roundWords"], apart := false, laid := [("stemma/sha.roundWords", laid_stemma_sha_roundWords)] }
def ChangeLongSaid : Prop := changeLongRow.holds Tryz.pinned (OpenSpec.ofChange changeLongSpec)

/-- ITS FALSE NEIGHBOUR: 'it returns false'. Refute it at one input. -/
def changeLongWrong : ChangeSpec := { name := "changeLong", fn := fun _ => fun
  | [d1, d2, d3] => { results := [.lit (.bool false)], args := [d1, d2, d3] }
  | _ => none }
def ChangeLongWrongFalsely : Prop := changeLongRow.holds Tryz.pinned (OpenSpec.ofChange changeLongWrong)

/- THE SECOND FORM. 'bulk': how many values and letters a reading holds, each counted each time it is reached (what is shared counts as often as it is met; a slice's spare places count too). A statement '..UptoSaid' is the law's where the arguments, and the package variables that the reading takes, are together of bulk at most 1048576: NARROWER than '..Said'. Prove '..Said' where nothing that the law and all that it calls make is longer than what came in: it says more and counts as full. Else prove '..UptoSaid'. A law counts once. -/
mutual
def uptoBulk {H : Type} : DataW H → Nat
  | .lit (.string bytes) => bytes.length + 1
  | .lit _ => 1
  | .nil => 1
  | .ptr d => uptoBulk d + 1
  | .slice elems spare => uptoBulkAll elems + uptoBulkAll spare + 1
  | .agg parts => uptoBulkAll parts + 1
  | .iface _ d => uptoBulk d + 1
  | .map entries => uptoBulkEntries entries + 1
  | .held _ => 1
def uptoBulkAll {H : Type} : List (DataW H) → Nat
  | [] => 0
  | d :: r => uptoBulk d + uptoBulkAll r
def uptoBulkEntries {H : Type} : List (Lit × DataW H) → Nat
  | [] => 0
  | x :: r => uptoBulkEntry x + uptoBulkEntries r
def uptoBulkEntry {H : Type} : Lit × DataW H → Nat
  | (.string bytes, d) => bytes.length + uptoBulk d + 1
  | (_, d) => uptoBulk d + 1
 end
def uptoSmall : (H : Type) → List (DataW H) → Bool := fun _ ds => decide (uptoBulkAll ds ≤ 1048576)
def OpenSpec.upto (s : _root_.Go.ChangeSpec) : _root_.Go.OpenSpec := { _root_.Go.OpenSpec.ofChange s with cond := some uptoSmall }

/-- 'stemmalaw08.ChangeChecks', WHERE WHAT IT READS IS OF BULK AT MOST 1048576: true; the input reads as it did. -/
def changeChecksUptoRow : OpenClaim := { program := "ytgmdolpjkaajfaagreatdoor", sum := "4b7dd759bc44f9421338e4ebeb7b4749dfdf857594c7c45d69322574825a8b0c", func := "stemma/stemmalaw08.ChangeChecks", spec := "changeChecks", unfollowed := true, recurses := true, named := ["stemma/sha.roundWords"], apart := false, laid := [("stemma/sha.roundWords", laid_stemma_sha_roundWords)], narrowed := true }
def ChangeChecksUptoSaid : Prop := changeChecksUptoRow.holds Tryz.pinned (OpenSpec.upto changeChecksSpec)

/-- 'stemmalaw08.ChangePuts', WHERE WHAT IT READS IS OF BULK AT MOST 1048576: true; the input reads as it did. -/
def changePutsUptoRow : OpenClaim := { program := "ytgmdolpjkaajfaagreatdoor", sum := "4b7dd759bc44f9421338e4ebeb7b4749dfdf857594c7c45d69322574825a8b0c", func := "stemma/stemmalaw08.ChangePuts", spec := "changePuts", unfollowed := true, recurses := true, named := ["stemma/sha.roundWords"], apart := false, laid := [("stemma/sha.roundWords", laid_stemma_sha_roundWords)], narrowed := true }
def ChangePutsUptoSaid : Prop := changePutsUptoRow.holds Tryz.pinned (OpenSpec.upto changePutsSpec)

/-- 'stemmalaw08.ChangeGets', WHERE WHAT IT READS IS OF BULK AT MOST 1048576: true; the input reads as it did. -/
def changeGetsUptoRow : OpenClaim := { program := "ytgmdolpjkaajfaagreatdoor", sum := "4b7dd759bc44f9421338e4ebeb7b4749dfdf857594c7c45d69322574825a8b0c", func := "stemma/stemmalaw08.ChangeGets", spec := "changeGets", unfollowed := true, recurses := true, named := ["stemma/sha.roundWords"], apart := false, laid := [("stemma/sha.roundWords", laid_stemma_sha_roundWords)], narrowed := true }
def ChangeGetsUptoSaid : Prop := changeGetsUptoRow.holds Tryz.pinned (OpenSpec.upto changeGetsSpec)

/-- 'stemmalaw08.ChangeBack', WHERE WHAT IT READS IS OF BULK AT MOST 1048576: true; the input reads as it did. -/
def changeBackUptoRow : OpenClaim := { program := "ytgmdolpjkaajfaagreatdoor", sum := "4b7dd759bc44f9421338e4ebeb7b4749dfdf857594c7c45d69322574825a8b0c", func := "stemma/stemmalaw08.ChangeBack", spec := "changeBack", unfollowed := true, recurses := true, named := ["stemma/sha.roundWords"], apart := false, laid := [("stemma/sha.roundWords", laid_stemma_sha_roundWords)], narrowed := true }
def ChangeBackUptoSaid : Prop := changeBackUptoRow.holds Tryz.pinned (OpenSpec.upto changeBackSpec)

/-- 'stemmalaw08.ChangeApart', WHERE WHAT IT READS IS OF BULK AT MOST 1048576: true; the input reads as it did. -/
def changeApartUptoRow : OpenClaim := { program := "ytgmdolpjkaajfaagreatdoor", sum := "4b7dd759bc44f9421338e4ebeb7b4749dfdf857594c7c45d69322574825a8b0c", func := "stemma/stemmalaw08.ChangeApart", spec := "changeApart", unfollowed := true, recurses := true, named := ["stemma/sha.roundWords"], apart := false, laid := [("stemma/sha.roundWords", laid_stemma_sha_roundWords)], narrowed := true }
def ChangeApartUptoSaid : Prop := changeApartUptoRow.holds Tryz.pinned (OpenSpec.upto changeApartSpec)

/-- 'stemmalaw08.ChangeLong', WHERE WHAT IT READS IS OF BULK AT MOST 1048576: true; the input reads as it did. -/
def changeLongUptoRow : OpenClaim := { program := "ytgmdolpjkaajfaagreatdoor", sum := "4b7dd759bc44f9421338e4ebeb7b4749dfdf857594c7c45d69322574825a8b0c", func := "stemma/stemmalaw08.ChangeLong", spec := "changeLong", unfollowed := true, recurses := true, named := ["stemma/sha.roundWords"], apart := false, laid := [("stemma/sha.roundWords", laid_stemma_sha_roundWords)], narrowed := true }
def ChangeLongUptoSaid : Prop := changeLongUptoRow.holds Tryz.pinned (OpenSpec.upto changeLongSpec)

end Rows
end Go.Proofs.YtgmdolpjkaajfaaGreatDoor
