/-
  No cell of these rows narrows 'for every input' (looked for: loops, veiled, ifaces, maps, wideKeys, modest, calm, conditions, laid).
  DERIVED. THE GIVEN ROWS OF THIS SEAT. 5 by the template 'for every input the law returns true; each argument reads behind the call as it read before'; 0 by the template 'total and deterministic' (their statements: YtdcmjmmfclhfbaaTotals.lean).
  GIVEN WITH THE SEED: the statements are not yours to turn. If you find one false, say at which input.
  Laid BY PROGRAM, IN A SANDBOX (cutbox-rows.mjs): the forced cells as the released guide's own fill.sh prints them over the translation 9ea30fd7b8b71f3c… (all of the seat's roots in one cut). By AI agents, Wed Nov 11 2026. No macro, syntax, notation, axiom, sorry.
-/
import Derived.Test.YtdcmjmmfclhfbaaChecked
import GoSem.Claim
import GoSem.ClaimJoined
import GoSem.ClaimMapViews
import Derived.JoinedTies
import Derived.KernelRfl
namespace Go.Proofs.Ytdcmjmmfclhfbaa
/- THE CELL 'sum', in the pinned program and in every row, IS THE sha256 OF THE DUMP (.gsa) THAT YtdcmjmmfclhfbaaProg.lean LOADS. Nothing in Lean hashes anything: it is a label: what it is worth is what the hold of that sum in a sandbox is worth. -/
noncomputable def Try.pinned : Pinned := { name := "ytdcmjmmfclhfbaa", sum := "9ea30fd7b8b71f3c2bcc865d73e554e45ebe1c5e62d5abfb5a086078dff51e5a", checked := Try.checked }
namespace Rows
def none {H : Type} : Left H := { results := [], args := [] }

/-- 'hamperlaw08.DeriveTells': WHATEVER THE INPUT: true; the input reads as it did. -/
def deriveTellsSpec : ChangeSpec := { name := "deriveTells", fn := fun _ => fun
  | [d1, d2, d3, d4] => { results := [.lit (.bool true)], args := [d1, d2, d3, d4] }
  | _ => none }
def deriveTellsRow : OpenClaim := { program := "ytdcmjmmfclhfbaa", sum := "9ea30fd7b8b71f3c2bcc865d73e554e45ebe1c5e62d5abfb5a086078dff51e5a", func := "hamper/hamperlaw08.DeriveTells", spec := "deriveTells", inPlace := ["internal/abi.NoEscape", "internal/bytealg.MakeNoZero"], unfollowed := true, recurses := true, apart := false }
def DeriveTellsSaid : Prop := deriveTellsRow.holds Try.pinned (OpenSpec.ofChange deriveTellsSpec)

/-- ITS FALSE NEIGHBOUR: 'it returns false'. Refute it at one input. -/
def deriveTellsWrong : ChangeSpec := { name := "deriveTells", fn := fun _ => fun
  | [d1, d2, d3, d4] => { results := [.lit (.bool false)], args := [d1, d2, d3, d4] }
  | _ => none }
def DeriveTellsWrongFalsely : Prop := deriveTellsRow.holds Try.pinned (OpenSpec.ofChange deriveTellsWrong)

/-- 'hamperlaw08.DeriveNames': WHATEVER THE INPUT: true; the input reads as it did. -/
def deriveNamesSpec : ChangeSpec := { name := "deriveNames", fn := fun _ => fun
  | [] => { results := [.lit (.bool true)], args := [] }
  | _ => none }
def deriveNamesRow : OpenClaim := { program := "ytdcmjmmfclhfbaa", sum := "9ea30fd7b8b71f3c2bcc865d73e554e45ebe1c5e62d5abfb5a086078dff51e5a", func := "hamper/hamperlaw08.DeriveNames", spec := "deriveNames", inPlace := ["internal/abi.NoEscape", "internal/bytealg.MakeNoZero"], unfollowed := true, recurses := true, apart := false }
def DeriveNamesSaid : Prop := deriveNamesRow.holds Try.pinned (OpenSpec.ofChange deriveNamesSpec)

/-- ITS FALSE NEIGHBOUR: 'it returns false'. Refute it at one input. -/
def deriveNamesWrong : ChangeSpec := { name := "deriveNames", fn := fun _ => fun
  | [] => { results := [.lit (.bool false)], args := [] }
  | _ => none }
def DeriveNamesWrongFalsely : Prop := deriveNamesRow.holds Try.pinned (OpenSpec.ofChange deriveNamesWrong)

/-- 'hamperlaw08.DeriveRounds': WHATEVER THE INPUT: true; the input reads as it did. -/
def deriveRoundsSpec : ChangeSpec := { name := "deriveRounds", fn := fun _ => fun
  | [d1, d2, d3, d4] => { results := [.lit (.bool true)], args := [d1, d2, d3, d4] }
  | _ => none }
def deriveRoundsRow : OpenClaim := { program := "ytdcmjmmfclhfbaa", sum := "9ea30fd7b8b71f3c2bcc865d73e554e45ebe1c5e62d5abfb5a086078dff51e5a", func := "hamper/hamperlaw08.DeriveRounds", spec := "deriveRounds", inPlace := ["internal/abi.NoEscape", "internal/bytealg.MakeNoZero"], unfollowed := true, recurses := true, apart := false }
def DeriveRoundsSaid : Prop := deriveRoundsRow.holds Try.pinned (OpenSpec.ofChange deriveRoundsSpec)

/-- ITS FALSE NEIGHBOUR: 'it returns false'. Refute it at one input. -/
def deriveRoundsWrong : ChangeSpec := { name := "deriveRounds", fn := fun _ => fun
  | [d1, d2, d3, d4] => { results := [.lit (.bool false)], args := [d1, d2, d3, d4] }
  | _ => none }
def DeriveRoundsWrongFalsely : Prop := deriveRoundsRow.holds Try.pinned (OpenSpec.ofChange deriveRoundsWrong)

/-- 'hamperlaw08.DerivePadded': WHATEVER THE INPUT: true; the input reads as it did. -/
def derivePaddedSpec : ChangeSpec := { name := "derivePadded", fn := fun _ => fun
  | [d1, d2, d3] => { results := [.lit (.bool true)], args := [d1, d2, d3] }
  | _ => none }
def derivePaddedRow : OpenClaim := { program := "ytdcmjmmfclhfbaa", sum := "9ea30fd7b8b71f3c2bcc865d73e554e45ebe1c5e62d5abfb5a086078dff51e5a", func := "hamper/hamperlaw08.DerivePadded", spec := "derivePadded", inPlace := ["internal/abi.NoEscape", "internal/bytealg.MakeNoZero"], unfollowed := true, recurses := true, apart := false }
def DerivePaddedSaid : Prop := derivePaddedRow.holds Try.pinned (OpenSpec.ofChange derivePaddedSpec)

/-- ITS FALSE NEIGHBOUR: 'it returns false'. Refute it at one input. -/
def derivePaddedWrong : ChangeSpec := { name := "derivePadded", fn := fun _ => fun
  | [d1, d2, d3] => { results := [.lit (.bool false)], args := [d1, d2, d3] }
  | _ => none }
def DerivePaddedWrongFalsely : Prop := derivePaddedRow.holds Try.pinned (OpenSpec.ofChange derivePaddedWrong)

/-- 'hamperlaw08.DeriveParts': WHATEVER THE INPUT: true; the input reads as it did. -/
def derivePartsSpec : ChangeSpec := { name := "deriveParts", fn := fun _ => fun
  | [d1, d2, d3, d4] => { results := [.lit (.bool true)], args := [d1, d2, d3, d4] }
  | _ => none }
def derivePartsRow : OpenClaim := { program := "ytdcmjmmfclhfbaa", sum := "9ea30fd7b8b71f3c2bcc865d73e554e45ebe1c5e62d5abfb5a086078dff51e5a", func := "hamper/hamperlaw08.DeriveParts", spec := "deriveParts", inPlace := ["internal/abi.NoEscape", "internal/bytealg.MakeNoZero"], unfollowed := true, recurses := true, apart := false }
def DerivePartsSaid : Prop := derivePartsRow.holds Try.pinned (OpenSpec.ofChange derivePartsSpec)

/-- ITS FALSE NEIGHBOUR: 'it returns false'. Refute it at one input. -/
def derivePartsWrong : ChangeSpec := { name := "deriveParts", fn := fun _ => fun
  | [d1, d2, d3, d4] => { results := [.lit (.bool false)], args := [d1, d2, d3, d4] }
  | _ => none }
def DerivePartsWrongFalsely : Prop := derivePartsRow.holds Try.pinned (OpenSpec.ofChange derivePartsWrong)

/- THE SECOND FORM. 'bulk': how many values and letters a reading holds, each counted each time it is reached (what is shared counts as often as it is met; a slice's spare places count too). A statement '..UptoSaid' is the law's where the arguments, and the package variables that the reading takes, are together of bulk at most 1048576: NARROWER than '..Said'. Prove '..Said' where nothing that the law and all that it calls make is longer than what came in: it says more and counts as full. Else prove '..UptoSaid'. A law counts once. -/
mutual
def uptoBulk {H : Type} : DataW H → Nat
  | .lit (.string bytes) => bytes.length + 1
  | .lit _ => 1
  | .nil => 1
  | .ptr d => uptoBulk d + 1
  | .slice elems spare => uptoBulkAll elems + uptoBulkAll spare + 1
  | .agg parts => uptoBulkAll parts + 1
  | .iface _ d => uptoBulk d + 1
  | .map entries => uptoBulkEntries entries + 1
  | .held _ => 1
def uptoBulkAll {H : Type} : List (DataW H) → Nat
  | [] => 0
  | d :: r => uptoBulk d + uptoBulkAll r
def uptoBulkEntries {H : Type} : List (Lit × DataW H) → Nat
  | [] => 0
  | x :: r => uptoBulkEntry x + uptoBulkEntries r
def uptoBulkEntry {H : Type} : Lit × DataW H → Nat
  | (.string bytes, d) => bytes.length + uptoBulk d + 1
  | (_, d) => uptoBulk d + 1
 end
def uptoSmall : (H : Type) → List (DataW H) → Bool := fun _ ds => decide (uptoBulkAll ds ≤ 1048576)
def OpenSpec.upto (s : _root_.Go.ChangeSpec) : _root_.Go.OpenSpec := { _root_.Go.OpenSpec.ofChange s with cond := some uptoSmall }

/-- 'hamperlaw08.DeriveTells', WHERE WHAT IT READS IS OF BULK AT MOST 1048576: true; the input reads as it did. -/
def deriveTellsUptoRow : OpenClaim := { program := "ytdcmjmmfclhfbaa", sum := "9ea30fd7b8b71f3c2bcc865d73e554e45ebe1c5e62d5abfb5a086078dff51e5a", func := "hamper/hamperlaw08.DeriveTells", spec := "deriveTells", inPlace := ["internal/abi.NoEscape", "internal/bytealg.MakeNoZero"], unfollowed := true, recurses := true, apart := false, narrowed := true }
def DeriveTellsUptoSaid : Prop := deriveTellsUptoRow.holds Try.pinned (OpenSpec.upto deriveTellsSpec)

/-- 'hamperlaw08.DeriveNames', WHERE WHAT IT READS IS OF BULK AT MOST 1048576: true; the input reads as it did. -/
def deriveNamesUptoRow : OpenClaim := { program := "ytdcmjmmfclhfbaa", sum := "9ea30fd7b8b71f3c2bcc865d73e554e45ebe1c5e62d5abfb5a086078dff51e5a", func := "hamper/hamperlaw08.DeriveNames", spec := "deriveNames", inPlace := ["internal/abi.NoEscape", "internal/bytealg.MakeNoZero"], unfollowed := true, recurses := true, apart := false, narrowed := true }
def DeriveNamesUptoSaid : Prop := deriveNamesUptoRow.holds Try.pinned (OpenSpec.upto deriveNamesSpec)

/-- 'hamperlaw08.DeriveRounds', WHERE WHAT IT READS IS OF BULK AT MOST 1048576: true; the input reads as it did. -/
def deriveRoundsUptoRow : OpenClaim := { program := "ytdcmjmmfclhfbaa", sum := "9ea30fd7b8b71f3c2bcc865d73e554e45ebe1c5e62d5abfb5a086078dff51e5a", func := "hamper/hamperlaw08.DeriveRounds", spec := "deriveRounds", inPlace := ["internal/abi.NoEscape", "internal/bytealg.MakeNoZero"], unfollowed := true, recurses := true, apart := false, narrowed := true }
def DeriveRoundsUptoSaid : Prop := deriveRoundsUptoRow.holds Try.pinned (OpenSpec.upto deriveRoundsSpec)

/-- 'hamperlaw08.DerivePadded', WHERE WHAT IT READS IS OF BULK AT MOST 1048576: true; the input reads as it did. -/
def derivePaddedUptoRow : OpenClaim := { program := "ytdcmjmmfclhfbaa", sum := "9ea30fd7b8b71f3c2bcc865d73e554e45ebe1c5e62d5abfb5a086078dff51e5a", func := "hamper/hamperlaw08.DerivePadded", spec := "derivePadded", inPlace := ["internal/abi.NoEscape", "internal/bytealg.MakeNoZero"], unfollowed := true, recurses := true, apart := false, narrowed := true }
def DerivePaddedUptoSaid : Prop := derivePaddedUptoRow.holds Try.pinned (OpenSpec.upto derivePaddedSpec)

/-- 'hamperlaw08.DeriveParts', WHERE WHAT IT READS IS OF BULK AT MOST 1048576: true; the input reads as it did. -/
def derivePartsUptoRow : OpenClaim := { program := "ytdcmjmmfclhfbaa", sum := "9ea30fd7b8b71f3c2bcc865d73e554e45ebe1c5e62d5abfb5a086078dff51e5a", func := "hamper/hamperlaw08.DeriveParts", spec := "deriveParts", inPlace := ["internal/abi.NoEscape", "internal/bytealg.MakeNoZero"], unfollowed := true, recurses := true, apart := false, narrowed := true }
def DerivePartsUptoSaid : Prop := derivePartsUptoRow.holds Try.pinned (OpenSpec.upto derivePartsSpec)

end Rows
end Go.Proofs.Ytdcmjmmfclhfbaa
