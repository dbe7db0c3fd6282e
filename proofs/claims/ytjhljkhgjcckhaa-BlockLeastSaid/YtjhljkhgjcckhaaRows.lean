/-
  No cell of these rows narrows 'for every input' (looked for: loops, veiled, ifaces, maps, wideKeys, modest, calm, conditions, laid).
  DERIVED. THE GIVEN ROWS OF THIS SEAT. 4 by the template 'for every input the law returns true; each argument reads behind the call as it read before'; 0 by the template 'total and deterministic' (their statements: YtjhljkhgjcckhaaTotals.lean).
  GIVEN WITH THE SEED: the statements are not yours to turn. If you find one false, say at which input.
  Laid BY PROGRAM, IN A SANDBOX (cutbox-rows.mjs): the forced cells as the released guide's own fill.sh prints them over the translation c4547c1ada532333… (all of the seat's roots in one cut). By AI agents, Wed Nov 11 2026. No macro, syntax, notation, axiom, sorry.
-/
import Derived.Test.YtjhljkhgjcckhaaChecked
import GoSem.Claim
import GoSem.ClaimJoined
import GoSem.ClaimMapViews
import Derived.JoinedTies
import Derived.KernelRfl
namespace Go.Proofs.Ytjhljkhgjcckhaa
/- THE CELL 'sum', in the pinned program and in every row, IS THE sha256 OF THE DUMP (.gsa) THAT YtjhljkhgjcckhaaProg.lean LOADS. Nothing in Lean hashes anything: it is a label: what it is worth is what the hold of that sum in a sandbox is worth. -/
noncomputable def Try.pinned : Pinned := { name := "ytjhljkhgjcckhaa", sum := "c4547c1ada5323330976e5de7b3cc6ffc6b652479f175f52a8e24022303ae11e", checked := Try.checked }
namespace Rows
def none {H : Type} : Left H := { results := [], args := [] }

/-- 'bellowslaw11.BlockNames': WHATEVER THE INPUT: true; the input reads as it did. -/
def blockNamesSpec : ChangeSpec := { name := "blockNames", fn := fun _ => fun
  | [] => { results := [.lit (.bool true)], args := [] }
  | _ => none }
def blockNamesRow : OpenClaim := { program := "ytjhljkhgjcckhaa", sum := "c4547c1ada5323330976e5de7b3cc6ffc6b652479f175f52a8e24022303ae11e", func := "bellows/bellowslaw11.BlockNames", spec := "blockNames", unfollowed := true, recurses := true, apart := false }
def BlockNamesSaid : Prop := blockNamesRow.holds Try.pinned (OpenSpec.ofChange blockNamesSpec)

/-- ITS FALSE NEIGHBOUR: 'it returns false'. Refute it at one input. -/
def blockNamesWrong : ChangeSpec := { name := "blockNames", fn := fun _ => fun
  | [] => { results := [.lit (.bool false)], args := [] }
  | _ => none }
def BlockNamesWrongFalsely : Prop := blockNamesRow.holds Try.pinned (OpenSpec.ofChange blockNamesWrong)

/-- 'bellowslaw11.BlockLeast': WHATEVER THE INPUT: true; the input reads as it did. -/
def blockLeastSpec : ChangeSpec := { name := "blockLeast", fn := fun _ => fun
  | [d1, d2, d3, d4, d5] => { results := [.lit (.bool true)], args := [d1, d2, d3, d4, d5] }
  | _ => none }
def blockLeastRow : OpenClaim := { program := "ytjhljkhgjcckhaa", sum := "c4547c1ada5323330976e5de7b3cc6ffc6b652479f175f52a8e24022303ae11e", func := "bellows/bellowslaw11.BlockLeast", spec := "blockLeast", unfollowed := true, recurses := true, apart := false }
def BlockLeastSaid : Prop := blockLeastRow.holds Try.pinned (OpenSpec.ofChange blockLeastSpec)

/-- ITS FALSE NEIGHBOUR: 'it returns false'. Refute it at one input. -/
def blockLeastWrong : ChangeSpec := { name := "blockLeast", fn := fun _ => fun
  | [d1, d2, d3, d4, d5] => { results := [.lit (.bool false)], args := [d1, d2, d3, d4, d5] }
  | _ => none }
def BlockLeastWrongFalsely : Prop := blockLeastRow.holds Try.pinned (OpenSpec.ofChange blockLeastWrong)

/-- 'bellowslaw11.BlockStored': WHATEVER THE INPUT: true; the input reads as it did. -/
def blockStoredSpec : ChangeSpec := { name := "blockStored", fn := fun _ => fun
  | [d1, d2, d3] => { results := [.lit (.bool true)], args := [d1, d2, d3] }
  | _ => none }
def blockStoredRow : OpenClaim := { program := "ytjhljkhgjcckhaa", sum := "c4547c1ada5323330976e5de7b3cc6ffc6b652479f175f52a8e24022303ae11e", func := "bellows/bellowslaw11.BlockStored", spec := "blockStored", unfollowed := true, recurses := true, apart := false }
def BlockStoredSaid : Prop := blockStoredRow.holds Try.pinned (OpenSpec.ofChange blockStoredSpec)

/-- ITS FALSE NEIGHBOUR: 'it returns false'. Refute it at one input. -/
def blockStoredWrong : ChangeSpec := { name := "blockStored", fn := fun _ => fun
  | [d1, d2, d3] => { results := [.lit (.bool false)], args := [d1, d2, d3] }
  | _ => none }
def BlockStoredWrongFalsely : Prop := blockStoredRow.holds Try.pinned (OpenSpec.ofChange blockStoredWrong)

/-- 'bellowslaw11.BlockFixed': WHATEVER THE INPUT: true; the input reads as it did. -/
def blockFixedSpec : ChangeSpec := { name := "blockFixed", fn := fun _ => fun
  | [] => { results := [.lit (.bool true)], args := [] }
  | _ => none }
def blockFixedRow : OpenClaim := { program := "ytjhljkhgjcckhaa", sum := "c4547c1ada5323330976e5de7b3cc6ffc6b652479f175f52a8e24022303ae11e", func := "bellows/bellowslaw11.BlockFixed", spec := "blockFixed", unfollowed := true, recurses := true, apart := false }
def BlockFixedSaid : Prop := blockFixedRow.holds Try.pinned (OpenSpec.ofChange blockFixedSpec)

/-- ITS FALSE NEIGHBOUR: 'it returns false'. Refute it at one input. -/
def blockFixedWrong : ChangeSpec := { name := "blockFixed", fn := fun _ => fun
  | [] => { results := [.lit (.bool false)], args := [] }
  | _ => none }
def BlockFixedWrongFalsely : Prop := blockFixedRow.holds Try.pinned (OpenSpec.ofChange blockFixedWrong)

/- THE SECOND FORM. 'bulk': how many values and letters a reading holds, each counted each time it is reached (what is shared counts as often as it is met; a slice's spare places count too). A statement '..UptoSaid' is the law's where the arguments, and the package variables that the reading takes, are together of bulk at most 1048576: NARROWER than '..Said'. Prove '..Said' where nothing that the law and all that it calls make is longer than what came in: it says more and counts as full. Else prove '..UptoSaid'. A law counts once. -/
mutual
def uptoBulk {H : Type} : DataW H → Nat
  | .lit (.string bytes) => bytes.length + 1
  | .lit _ => 1
  | .nil => 1
  | .ptr d => uptoBulk d + 1
  | .slice elems spare => uptoBulkAll elems + uptoBulkAll spare + 1
  | .agg parts => uptoBulkAll parts + 1
  | .iface _ d => uptoBulk d + 1
  | .map entries => uptoBulkEntries entries + 1
  | .held _ => 1
def uptoBulkAll {H : Type} : List (DataW H) → Nat
  | [] => 0
  | d :: r => uptoBulk d + uptoBulkAll r
def uptoBulkEntries {H : Type} : List (Lit × DataW H) → Nat
  | [] => 0
  | x :: r => uptoBulkEntry x + uptoBulkEntries r
def uptoBulkEntry {H : Type} : Lit × DataW H → Nat
  | (.string bytes, d) => bytes.length + uptoBulk d + 1
  | (_, d) => uptoBulk d + 1
 end
def uptoSmall : (H : Type) → List (DataW H) → Bool := fun _ ds => decide (uptoBulkAll ds ≤ 1048576)
def OpenSpec.upto (s : _root_.Go.ChangeSpec) : _root_.Go.OpenSpec := { _root_.Go.OpenSpec.ofChange s with cond := some uptoSmall }

/-- 'bellowslaw11.BlockNames', WHERE WHAT IT READS IS OF BULK AT MOST 1048576: true; the input reads as it did. -/
def blockNamesUptoRow : OpenClaim := { program := "ytjhljkhgjcckhaa", sum := "c4547c1ada5323330976e5de7b3cc6ffc6b652479f175f52a8e24022303ae11e", func := "bellows/bellowslaw11.BlockNames", spec := "blockNames", unfollowed := true, recurses := true, apart := false, narrowed := true }
def BlockNamesUptoSaid : Prop := blockNamesUptoRow.holds Try.pinned (OpenSpec.upto blockNamesSpec)

/-- 'bellowslaw11.BlockLeast', WHERE WHAT IT READS IS OF BULK AT MOST 1048576: true; the input reads as it did. -/
def blockLeastUptoRow : OpenClaim := { program := "ytjhljkhgjcckhaa", sum := "c4547c1ada5323330976e5de7b3cc6ffc6b652479f175f52a8e24022303ae11e", func := "bellows/bellowslaw11.BlockLeast", spec := "blockLeast", unfollowed := true, recurses := true, apart := false, narrowed := true }
def BlockLeastUptoSaid : Prop := blockLeastUptoRow.holds Try.pinned (OpenSpec.upto blockLeastSpec)

/-- 'bellowslaw11.BlockStored', WHERE WHAT IT READS IS OF BULK AT MOST 1048576: true; the input reads as it did. -/
def blockStoredUptoRow : OpenClaim := { program := "ytjhljkhgjcckhaa", sum := "c4547c1ada5323330976e5de7b3cc6ffc6b652479f175f52a8e24022303ae11e", func := "bellows/bellowslaw11.BlockStored", spec := "blockStored", unfollowed := true, recurses := true, apart := false, narrowed := true }
def BlockStoredUptoSaid : Prop := blockStoredUptoRow.holds Try.pinned (OpenSpec.upto blockStoredSpec)

/-- 'bellowslaw11.BlockFixed', WHERE WHAT IT READS IS OF BULK AT MOST 1048576: true; the input reads as it did. -/
def blockFixedUptoRow : OpenClaim := { program := "ytjhljkhgjcckhaa", sum := "c4547c1ada5323330976e5de7b3cc6ffc6b652479f175f52a8e24022303ae11e", func := "bellows/bellowslaw11.BlockFixed", spec := "blockFixed", unfollowed := true, recurses := true, apart := false, narrowed := true }
def BlockFixedUptoSaid : Prop := blockFixedUptoRow.holds Try.pinned (OpenSpec.upto blockFixedSpec)

end Rows
end Go.Proofs.Ytjhljkhgjcckhaa
