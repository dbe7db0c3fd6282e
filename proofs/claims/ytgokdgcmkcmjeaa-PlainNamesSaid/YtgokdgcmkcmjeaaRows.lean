/-
  No cell of these rows narrows 'for every input' (looked for: loops, veiled, ifaces, maps, wideKeys, modest, calm, conditions, laid).
  DERIVED. THE GIVEN ROWS OF THIS SEAT. 3 by the template 'for every input the law returns true; each argument reads behind the call as it read before'; 0 by the template 'total and deterministic' (their statements: YtgokdgcmkcmjeaaTotals.lean).
  GIVEN WITH THE SEED: the statements are not yours to turn. If you find one false, say at which input.
  Laid BY PROGRAM, IN A SANDBOX (cutbox-rows.mjs): the forced cells as the released guide's own fill.sh prints them over the translation 8240dd5e2ce7f075… (all of the seat's roots in one cut). By AI agents, Wed Nov 11 2026. No macro, syntax, notation, axiom, sorry.
-/
import Derived.Test.YtgokdgcmkcmjeaaChecked
import GoSem.Claim
import GoSem.ClaimJoined
import GoSem.ClaimMapViews
import Derived.JoinedTies
import Derived.KernelRfl
namespace Go.Proofs.Ytgokdgcmkcmjeaa
/- THE CELL 'sum', in the pinned program and in every row, IS THE sha256 OF THE DUMP (.gsa) THAT YtgokdgcmkcmjeaaProg.lean LOADS. Nothing in Lean hashes anything: it is a label: what it is worth is what the hold of that sum in a sandbox is worth. -/
noncomputable def Try.pinned : Pinned := { name := "ytgokdgcmkcmjeaa", sum := "8240dd5e2ce7f075eaa3ae3981ac7db2b92d0775dc60b5feb6760d6ff8fe833c", checked := Try.checked }
namespace Rows
def none {H : Type} : Left H := { results := [], args := [] }

/-- 'bellowslaw13.PlainNames': WHATEVER THE INPUT: true; the input reads as it did. -/
def plainNamesSpec : ChangeSpec := { name := "plainNames", fn := fun _ => fun
  | [] => { results := [.lit (.bool true)], args := [] }
  | _ => none }
def plainNamesRow : OpenClaim := { program := "ytgokdgcmkcmjeaa", sum := "8240dd5e2ce7f075eaa3ae3981ac7db2b92d0775dc60b5feb6760d6ff8fe833c", func := "bellows/bellowslaw13.PlainNames", spec := "plainNames", unfollowed := true, recurses := true, apart := false }
def PlainNamesSaid : Prop := plainNamesRow.holds Try.pinned (OpenSpec.ofChange plainNamesSpec)

/-- ITS FALSE NEIGHBOUR: 'it returns false'. Refute it at one input. -/
def plainNamesWrong : ChangeSpec := { name := "plainNames", fn := fun _ => fun
  | [] => { results := [.lit (.bool false)], args := [] }
  | _ => none }
def PlainNamesWrongFalsely : Prop := plainNamesRow.holds Try.pinned (OpenSpec.ofChange plainNamesWrong)

/-- 'bellowslaw13.PlainBegins': WHATEVER THE INPUT: true; the input reads as it did. -/
def plainBeginsSpec : ChangeSpec := { name := "plainBegins", fn := fun _ => fun
  | [d1, d2, d3] => { results := [.lit (.bool true)], args := [d1, d2, d3] }
  | _ => none }
def plainBeginsRow : OpenClaim := { program := "ytgokdgcmkcmjeaa", sum := "8240dd5e2ce7f075eaa3ae3981ac7db2b92d0775dc60b5feb6760d6ff8fe833c", func := "bellows/bellowslaw13.PlainBegins", spec := "plainBegins", unfollowed := true, recurses := true, apart := false }
def PlainBeginsSaid : Prop := plainBeginsRow.holds Try.pinned (OpenSpec.ofChange plainBeginsSpec)

/-- ITS FALSE NEIGHBOUR: 'it returns false'. Refute it at one input. -/
def plainBeginsWrong : ChangeSpec := { name := "plainBegins", fn := fun _ => fun
  | [d1, d2, d3] => { results := [.lit (.bool false)], args := [d1, d2, d3] }
  | _ => none }
def PlainBeginsWrongFalsely : Prop := plainBeginsRow.holds Try.pinned (OpenSpec.ofChange plainBeginsWrong)

/-- 'bellowslaw13.PlainLimit': WHATEVER THE INPUT: true; the input reads as it did. -/
def plainLimitSpec : ChangeSpec := { name := "plainLimit", fn := fun _ => fun
  | [d1, d2, d3, d4] => { results := [.lit (.bool true)], args := [d1, d2, d3, d4] }
  | _ => none }
def plainLimitRow : OpenClaim := { program := "ytgokdgcmkcmjeaa", sum := "8240dd5e2ce7f075eaa3ae3981ac7db2b92d0775dc60b5feb6760d6ff8fe833c", func := "bellows/bellowslaw13.PlainLimit", spec := "plainLimit", unfollowed := true, recurses := true, apart := false }
def PlainLimitSaid : Prop := plainLimitRow.holds Try.pinned (OpenSpec.ofChange plainLimitSpec)

/-- ITS FALSE NEIGHBOUR: 'it returns false'. Refute it at one input. -/
def plainLimitWrong : ChangeSpec := { name := "plainLimit", fn := fun _ => fun
  | [d1, d2, d3, d4] => { results := [.lit (.bool false)], args := [d1, d2, d3, d4] }
  | _ => none }
def PlainLimitWrongFalsely : Prop := plainLimitRow.holds Try.pinned (OpenSpec.ofChange plainLimitWrong)

/- THE SECOND FORM. 'bulk': how many values and letters a reading holds, each counted each time it is reached (what is shared counts as often as it is met; a slice's spare places count too). A statement '..UptoSaid' is the law's where the arguments, and the package variables that the reading takes, are together of bulk at most 1048576: NARROWER than '..Said'. Prove '..Said' where nothing that the law and all that it calls make is longer than what came in: it says more and counts as full. Else prove '..UptoSaid'. A law counts once. -/
mutual
def uptoBulk {H : Type} : DataW H → Nat
  | .lit (.string bytes) => bytes.length + 1
  | .lit _ => 1
  | .nil => 1
  | .ptr d => uptoBulk d + 1
  | .slice elems spare => uptoBulkAll elems + uptoBulkAll spare + 1
  | .agg parts => uptoBulkAll parts + 1
  | .iface _ d => uptoBulk d + 1
  | .map entries => uptoBulkEntries entries + 1
  | .held _ => 1
def uptoBulkAll {H : Type} : List (DataW H) → Nat
  | [] => 0
  | d :: r => uptoBulk d + uptoBulkAll r
def uptoBulkEntries {H : Type} : List (Lit × DataW H) → Nat
  | [] => 0
  | x :: r => uptoBulkEntry x + uptoBulkEntries r
def uptoBulkEntry {H : Type} : Lit × DataW H → Nat
  | (.string bytes, d) => bytes.length + uptoBulk d + 1
  | (_, d) => uptoBulk d + 1
 end
def uptoSmall : (H : Type) → List (DataW H) → Bool := fun _ ds => decide (uptoBulkAll ds ≤ 1048576)
def OpenSpec.upto (s : _root_.Go.ChangeSpec) : _root_.Go.OpenSpec := { _root_.Go.OpenSpec.ofChange s with cond := some uptoSmall }

/-- 'bellowslaw13.PlainNames', WHERE WHAT IT READS IS OF BULK AT MOST 1048576: true; the input reads as it did. -/
def plainNamesUptoRow : OpenClaim := { program := "ytgokdgcmkcmjeaa", sum := "8240dd5e2ce7f075eaa3ae3981ac7db2b92d0775dc60b5feb6760d6ff8fe833c", func := "bellows/bellowslaw13.PlainNames", spec := "plainNames", unfollowed := true, recurses := true, apart := false, narrowed := true }
def PlainNamesUptoSaid : Prop := plainNamesUptoRow.holds Try.pinned (OpenSpec.upto plainNamesSpec)

/-- 'bellowslaw13.PlainBegins', WHERE WHAT IT READS IS OF BULK AT MOST 1048576: true; the input reads as it did. -/
def plainBeginsUptoRow : OpenClaim := { program := "ytgokdgcmkcmjeaa", sum := "8240dd5e2ce7f075eaa3ae3981ac7db2b92d0775dc60b5feb6760d6ff8fe833c", func := "bellows/bellowslaw13.PlainBegins", spec := "plainBegins", unfollowed := true, recurses := true, apart := false, narrowed := true }
def PlainBeginsUptoSaid : Prop := plainBeginsUptoRow.holds Try.pinned (OpenSpec.upto plainBeginsSpec)

/-- 'bellowslaw13.PlainLimit', WHERE WHAT IT READS IS OF BULK AT MOST 1048576: true; the input reads as it did. -/
def plainLimitUptoRow : OpenClaim := { program := "ytgokdgcmkcmjeaa", sum := "8240dd5e2ce7f075eaa3ae3981ac7db2b92d0775dc60b5feb6760d6ff8fe833c", func := "bellows/bellowslaw13.PlainLimit", spec := "plainLimit", unfollowed := true, recurses := true, apart := false, narrowed := true }
def PlainLimitUptoSaid : Prop := plainLimitUptoRow.holds Try.pinned (OpenSpec.upto plainLimitSpec)

end Rows
end Go.Proofs.Ytgokdgcmkcmjeaa
