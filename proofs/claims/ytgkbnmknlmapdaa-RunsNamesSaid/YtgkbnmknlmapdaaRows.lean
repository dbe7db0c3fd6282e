/-
  No cell of these rows narrows 'for every input' (looked for: loops, veiled, ifaces, maps, wideKeys, modest, calm, conditions, laid).
  DERIVED. THE GIVEN ROWS OF THIS SEAT. 5 by the template 'for every input the law returns true; each argument reads behind the call as it read before'; 0 by the template 'total and deterministic' (their statements: YtgkbnmknlmapdaaTotals.lean).
  GIVEN WITH THE SEED: the statements are not yours to turn. If you find one false, say at which input.
  Laid BY PROGRAM, IN A SANDBOX (cutbox-rows.mjs): the forced cells as the released guide's own fill.sh prints them over the translation e0ced47583f68310… (all of the seat's roots in one cut). By AI agents, Wed Nov 11 2026. No macro, syntax, notation, axiom, sorry.
-/
import Derived.Test.YtgkbnmknlmapdaaChecked
import GoSem.Claim
import GoSem.ClaimJoined
import GoSem.ClaimMapViews
import Derived.JoinedTies
import Derived.KernelRfl
namespace Go.Proofs.Ytgkbnmknlmapdaa
/- THE CELL 'sum', in the pinned program and in every row, IS THE sha256 OF THE DUMP (.gsa) THAT YtgkbnmknlmapdaaProg.lean LOADS. Nothing in Lean hashes anything: it is a label: what it is worth is what the hold of that sum in a sandbox is worth. -/
noncomputable def Try.pinned : Pinned := { name := "ytgkbnmknlmapdaa", sum := "e0ced47583f68310f11446a95b429d3e10759317a3088ca623ee198d95553745", checked := Try.checked }
namespace Rows
def none {H : Type} : Left H := { results := [], args := [] }

/-- 'bellowslaw10.RunsNames': WHATEVER THE INPUT: true; the input reads as it did. -/
def runsNamesSpec : ChangeSpec := { name := "runsNames", fn := fun _ => fun
  | [] => { results := [.lit (.bool true)], args := [] }
  | _ => none }
def runsNamesRow : OpenClaim := { program := "ytgkbnmknlmapdaa", sum := "e0ced47583f68310f11446a95b429d3e10759317a3088ca623ee198d95553745", func := "bellows/bellowslaw10.RunsNames", spec := "runsNames", unfollowed := true, recurses := true, apart := false }
def RunsNamesSaid : Prop := runsNamesRow.holds Try.pinned (OpenSpec.ofChange runsNamesSpec)

/-- ITS FALSE NEIGHBOUR: 'it returns false'. Refute it at one input. -/
def runsNamesWrong : ChangeSpec := { name := "runsNames", fn := fun _ => fun
  | [] => { results := [.lit (.bool false)], args := [] }
  | _ => none }
def RunsNamesWrongFalsely : Prop := runsNamesRow.holds Try.pinned (OpenSpec.ofChange runsNamesWrong)

/-- 'bellowslaw10.RunsSqueeze': WHATEVER THE INPUT: true; the input reads as it did. -/
def runsSqueezeSpec : ChangeSpec := { name := "runsSqueeze", fn := fun _ => fun
  | [d1, d2] => { results := [.lit (.bool true)], args := [d1, d2] }
  | _ => none }
def runsSqueezeRow : OpenClaim := { program := "ytgkbnmknlmapdaa", sum := "e0ced47583f68310f11446a95b429d3e10759317a3088ca623ee198d95553745", func := "bellows/bellowslaw10.RunsSqueeze", spec := "runsSqueeze", unfollowed := true, recurses := true, apart := false }
def RunsSqueezeSaid : Prop := runsSqueezeRow.holds Try.pinned (OpenSpec.ofChange runsSqueezeSpec)

/-- ITS FALSE NEIGHBOUR: 'it returns false'. Refute it at one input. -/
def runsSqueezeWrong : ChangeSpec := { name := "runsSqueeze", fn := fun _ => fun
  | [d1, d2] => { results := [.lit (.bool false)], args := [d1, d2] }
  | _ => none }
def RunsSqueezeWrongFalsely : Prop := runsSqueezeRow.holds Try.pinned (OpenSpec.ofChange runsSqueezeWrong)

/-- 'bellowslaw10.RunsStretch': WHATEVER THE INPUT: true; the input reads as it did. -/
def runsStretchSpec : ChangeSpec := { name := "runsStretch", fn := fun _ => fun
  | [d1, d2] => { results := [.lit (.bool true)], args := [d1, d2] }
  | _ => none }
def runsStretchRow : OpenClaim := { program := "ytgkbnmknlmapdaa", sum := "e0ced47583f68310f11446a95b429d3e10759317a3088ca623ee198d95553745", func := "bellows/bellowslaw10.RunsStretch", spec := "runsStretch", apart := false }
def RunsStretchSaid : Prop := runsStretchRow.holds Try.pinned (OpenSpec.ofChange runsStretchSpec)

/-- ITS FALSE NEIGHBOUR: 'it returns false'. Refute it at one input. -/
def runsStretchWrong : ChangeSpec := { name := "runsStretch", fn := fun _ => fun
  | [d1, d2] => { results := [.lit (.bool false)], args := [d1, d2] }
  | _ => none }
def RunsStretchWrongFalsely : Prop := runsStretchRow.holds Try.pinned (OpenSpec.ofChange runsStretchWrong)

/-- 'bellowslaw10.RunsBack': WHATEVER THE INPUT: true; the input reads as it did. -/
def runsBackSpec : ChangeSpec := { name := "runsBack", fn := fun _ => fun
  | [d] => { results := [.lit (.bool true)], args := [d] }
  | _ => none }
def runsBackRow : OpenClaim := { program := "ytgkbnmknlmapdaa", sum := "e0ced47583f68310f11446a95b429d3e10759317a3088ca623ee198d95553745", func := "bellows/bellowslaw10.RunsBack", spec := "runsBack", unfollowed := true, recurses := true, apart := false }
def RunsBackSaid : Prop := runsBackRow.holds Try.pinned (OpenSpec.ofChange runsBackSpec)

/-- ITS FALSE NEIGHBOUR: 'it returns false'. Refute it at one input. -/
def runsBackWrong : ChangeSpec := { name := "runsBack", fn := fun _ => fun
  | [d] => { results := [.lit (.bool false)], args := [d] }
  | _ => none }
def RunsBackWrongFalsely : Prop := runsBackRow.holds Try.pinned (OpenSpec.ofChange runsBackWrong)

/-- 'bellowslaw10.RunsCount': WHATEVER THE INPUT: true; the input reads as it did. -/
def runsCountSpec : ChangeSpec := { name := "runsCount", fn := fun _ => fun
  | [d1, d2, d3] => { results := [.lit (.bool true)], args := [d1, d2, d3] }
  | _ => none }
def runsCountRow : OpenClaim := { program := "ytgkbnmknlmapdaa", sum := "e0ced47583f68310f11446a95b429d3e10759317a3088ca623ee198d95553745", func := "bellows/bellowslaw10.RunsCount", spec := "runsCount", unfollowed := true, recurses := true, apart := false }
def RunsCountSaid : Prop := runsCountRow.holds Try.pinned (OpenSpec.ofChange runsCountSpec)

/-- ITS FALSE NEIGHBOUR: 'it returns false'. Refute it at one input. -/
def runsCountWrong : ChangeSpec := { name := "runsCount", fn := fun _ => fun
  | [d1, d2, d3] => { results := [.lit (.bool false)], args := [d1, d2, d3] }
  | _ => none }
def RunsCountWrongFalsely : Prop := runsCountRow.holds Try.pinned (OpenSpec.ofChange runsCountWrong)

/- THE SECOND FORM. 'bulk': how many values and letters a reading holds, each counted each time it is reached (what is shared counts as often as it is met; a slice's spare places count too). A statement '..UptoSaid' is the law's where the arguments, and the package variables that the reading takes, are together of bulk at most 1048576: NARROWER than '..Said'. Prove '..Said' where nothing that the law and all that it calls make is longer than what came in: it says more and counts as full. Else prove '..UptoSaid'. A law counts once. -/
mutual
def uptoBulk {H : Type} : DataW H → Nat
  | .lit (.string bytes) => bytes.length + 1
  | .lit _ => 1
  | .nil => 1
  | .ptr d => uptoBulk d + 1
  | .slice elems spare => uptoBulkAll elems + uptoBulkAll spare + 1
  | .agg parts => uptoBulkAll parts + 1
  | .iface _ d => uptoBulk d + 1
  | .map entries => uptoBulkEntries entries + 1
  | .held _ => 1
def uptoBulkAll {H : Type} : List (DataW H) → Nat
  | [] => 0
  | d :: r => uptoBulk d + uptoBulkAll r
def uptoBulkEntries {H : Type} : List (Lit × DataW H) → Nat
  | [] => 0
  | x :: r => uptoBulkEntry x + uptoBulkEntries r
def uptoBulkEntry {H : Type} : Lit × DataW H → Nat
  | (.string bytes, d) => bytes.length + uptoBulk d + 1
  | (_, d) => uptoBulk d + 1
 end
def uptoSmall : (H : Type) → List (DataW H) → Bool := fun _ ds => decide (uptoBulkAll ds ≤ 1048576)
def OpenSpec.upto (s : _root_.Go.ChangeSpec) : _root_.Go.OpenSpec := { _root_.Go.OpenSpec.ofChange s with cond := some uptoSmall }

/-- 'bellowslaw10.RunsNames', WHERE WHAT IT READS IS OF BULK AT MOST 1048576: true; the input reads as it did. -/
def runsNamesUptoRow : OpenClaim := { program := "ytgkbnmknlmapdaa", sum := "e0ced47583f68310f11446a95b429d3e10759317a3088ca623ee198d95553745", func := "bellows/bellowslaw10.RunsNames", spec := "runsNames", unfollowed := true, recurses := true, apart := false, narrowed := true }
def RunsNamesUptoSaid : Prop := runsNamesUptoRow.holds Try.pinned (OpenSpec.upto runsNamesSpec)

/-- 'bellowslaw10.RunsSqueeze', WHERE WHAT IT READS IS OF BULK AT MOST 1048576: true; the input reads as it did. -/
def runsSqueezeUptoRow : OpenClaim := { program := "ytgkbnmknlmapdaa", sum := "e0ced47583f68310f11446a95b429d3e10759317a3088ca623ee198d95553745", func := "bellows/bellowslaw10.RunsSqueeze", spec := "runsSqueeze", unfollowed := true, recurses := true, apart := false, narrowed := true }
def RunsSqueezeUptoSaid : Prop := runsSqueezeUptoRow.holds Try.pinned (OpenSpec.upto runsSqueezeSpec)

/-- 'bellowslaw10.RunsStretch', WHERE WHAT IT READS IS OF BULK AT MOST 1048576: true; the input reads as it did. -/
def runsStretchUptoRow : OpenClaim := { program := "ytgkbnmknlmapdaa", sum := "e0ced47583f68310f11446a95b429d3e10759317a3088ca623ee198d95553745", func := "bellows/bellowslaw10.RunsStretch", spec := "runsStretch", apart := false, narrowed := true }
def RunsStretchUptoSaid : Prop := runsStretchUptoRow.holds Try.pinned (OpenSpec.upto runsStretchSpec)

/-- 'bellowslaw10.RunsBack', WHERE WHAT IT READS IS OF BULK AT MOST 1048576: true; the input reads as it did. -/
def runsBackUptoRow : OpenClaim := { program := "ytgkbnmknlmapdaa", sum := "e0ced47583f68310f11446a95b429d3e10759317a3088ca623ee198d95553745", func := "bellows/bellowslaw10.RunsBack", spec := "runsBack", unfollowed := true, recurses := true, apart := false, narrowed := true }
def RunsBackUptoSaid : Prop := runsBackUptoRow.holds Try.pinned (OpenSpec.upto runsBackSpec)

/-- 'bellowslaw10.RunsCount', WHERE WHAT IT READS IS OF BULK AT MOST 1048576: true; the input reads as it did. -/
def runsCountUptoRow : OpenClaim := { program := "ytgkbnmknlmapdaa", sum := "e0ced47583f68310f11446a95b429d3e10759317a3088ca623ee198d95553745", func := "bellows/bellowslaw10.RunsCount", spec := "runsCount", unfollowed := true, recurses := true, apart := false, narrowed := true }
def RunsCountUptoSaid : Prop := runsCountUptoRow.holds Try.pinned (OpenSpec.upto runsCountSpec)

end Rows
end Go.Proofs.Ytgkbnmknlmapdaa
