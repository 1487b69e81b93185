/-
  No cell of these rows narrows 'for every input' (looked for: loops, veiled, ifaces, maps, wideKeys, modest, calm, conditions, laid).
  DERIVED. THE GIVEN ROWS OF THIS SEAT. 3 by the template 'for every input the law returns true; each argument reads behind the call as it read before'; 0 by the template 'total and deterministic' (their statements: YtbgdhfnfbahdhaaTotals.lean).
  GIVEN WITH THE SEED: the statements are not yours to turn. If you find one false, say at which input.
  Laid BY PROGRAM, IN A SANDBOX (cutbox-rows.mjs): the forced cells as the released guide's own fill.sh prints them over the translation 6a132fc361fcbc7c… (all of the seat's roots in one cut). By AI agents, Wed Nov 11 2026. No macro, syntax, notation, axiom, sorry.
-/
import Derived.Test.YtbgdhfnfbahdhaaChecked
import GoSem.Claim
import GoSem.ClaimJoined
import GoSem.ClaimMapViews
import Derived.JoinedTies
import Derived.KernelRfl
namespace Go.Proofs.Ytbgdhfnfbahdhaa
/- THE CELL 'sum', in the pinned program and in every row, IS THE sha256 OF THE DUMP (.gsa) THAT YtbgdhfnfbahdhaaProg.lean LOADS. Nothing in Lean hashes anything: it is a label: what it is worth is what the hold of that sum in a sandbox is worth. -/
noncomputable def Try.pinned : Pinned := { name := "ytbgdhfnfbahdhaa", sum := "6a132fc361fcbc7c3cde1fd67e9755317b75526da27f2a169908d4968c3d8a3f", checked := Try.checked }
namespace Rows
def none {H : Type} : Left H := { results := [], args := [] }

/-- 'trestlelaw15.EncodeGates': WHATEVER THE INPUT: true; the input reads as it did. -/
def encodeGatesSpec : ChangeSpec := { name := "encodeGates", fn := fun _ => fun
  | [d1, d2, d3] => { results := [.lit (.bool true)], args := [d1, d2, d3] }
  | _ => none }
def encodeGatesRow : OpenClaim := { program := "ytbgdhfnfbahdhaa", sum := "6a132fc361fcbc7c3cde1fd67e9755317b75526da27f2a169908d4968c3d8a3f", func := "trestle/trestlelaw15.EncodeGates", spec := "encodeGates", inPlace := ["internal/bytealg.IndexByteString", "internal/bytealg.IndexString"], unfollowed := true, recurses := true, named := ["internal/bytealg.MaxLen"], plainKeys := false, apart := false }
def EncodeGatesSaid : Prop := encodeGatesRow.holds Try.pinned (OpenSpec.ofChange encodeGatesSpec)

/-- ITS FALSE NEIGHBOUR: 'it returns false'. Refute it at one input. -/
def encodeGatesWrong : ChangeSpec := { name := "encodeGates", fn := fun _ => fun
  | [d1, d2, d3] => { results := [.lit (.bool false)], args := [d1, d2, d3] }
  | _ => none }
def EncodeGatesWrongFalsely : Prop := encodeGatesRow.holds Try.pinned (OpenSpec.ofChange encodeGatesWrong)

/-- 'trestlelaw15.EncodeModels': WHATEVER THE INPUT: true; the input reads as it did. -/
def encodeModelsSpec : ChangeSpec := { name := "encodeModels", fn := fun _ => fun
  | [d1, d2, d3] => { results := [.lit (.bool true)], args := [d1, d2, d3] }
  | _ => none }
def encodeModelsRow : OpenClaim := { program := "ytbgdhfnfbahdhaa", sum := "6a132fc361fcbc7c3cde1fd67e9755317b75526da27f2a169908d4968c3d8a3f", func := "trestle/trestlelaw15.EncodeModels", spec := "encodeModels", inPlace := ["internal/bytealg.IndexByteString", "internal/bytealg.IndexString"], unfollowed := true, recurses := true, named := ["internal/bytealg.MaxLen"], plainKeys := false, apart := false }
def EncodeModelsSaid : Prop := encodeModelsRow.holds Try.pinned (OpenSpec.ofChange encodeModelsSpec)

/-- ITS FALSE NEIGHBOUR: 'it returns false'. Refute it at one input. -/
def encodeModelsWrong : ChangeSpec := { name := "encodeModels", fn := fun _ => fun
  | [d1, d2, d3] => { results := [.lit (.bool false)], args := [d1, d2, d3] }
  | _ => none }
def EncodeModelsWrongFalsely : Prop := encodeModelsRow.holds Try.pinned (OpenSpec.ofChange encodeModelsWrong)

/-- 'trestlelaw15.EncodeHolds': WHATEVER THE INPUT: true; the input reads as it did. -/
def encodeHoldsSpec : ChangeSpec := { name := "encodeHolds", fn := fun _ => fun
  | [d1, d2, d3] => { results := [.lit (.bool true)], args := [d1, d2, d3] }
  | _ => none }
def encodeHoldsRow : OpenClaim := { program := "ytbgdhfnfbahdhaa", sum := "6a132fc361fcbc7c3cde1fd67e9755317b75526da27f2a169908d4968c3d8a3f", func := "trestle/trestlelaw15.EncodeHolds", spec := "encodeHolds", inPlace := ["internal/bytealg.IndexByteString", "internal/bytealg.IndexString"], unfollowed := true, recurses := true, named := ["internal/bytealg.MaxLen"], plainKeys := false, apart := false }
def EncodeHoldsSaid : Prop := encodeHoldsRow.holds Try.pinned (OpenSpec.ofChange encodeHoldsSpec)

/-- ITS FALSE NEIGHBOUR: 'it returns false'. Refute it at one input. -/
def encodeHoldsWrong : ChangeSpec := { name := "encodeHolds", fn := fun _ => fun
  | [d1, d2, d3] => { results := [.lit (.bool false)], args := [d1, d2, d3] }
  | _ => none }
def EncodeHoldsWrongFalsely : Prop := encodeHoldsRow.holds Try.pinned (OpenSpec.ofChange encodeHoldsWrong)

/- THE SECOND FORM. 'bulk': how many values and letters a reading holds, each counted each time it is reached (what is shared counts as often as it is met; a slice's spare places count too). A statement '..UptoSaid' is the law's where the arguments, and the package variables that the reading takes, are together of bulk at most 1048576: NARROWER than '..Said'. Prove '..Said' where nothing that the law and all that it calls make is longer than what came in: it says more and counts as full. Else prove '..UptoSaid'. A law counts once. -/
mutual
def uptoBulk {H : Type} : DataW H → Nat
  | .lit (.string bytes) => bytes.length + 1
  | .lit _ => 1
  | .nil => 1
  | .ptr d => uptoBulk d + 1
  | .slice elems spare => uptoBulkAll elems + uptoBulkAll spare + 1
  | .agg parts => uptoBulkAll parts + 1
  | .iface _ d => uptoBulk d + 1
  | .map entries => uptoBulkEntries entries + 1
  | .held _ => 1
def uptoBulkAll {H : Type} : List (DataW H) → Nat
  | [] => 0
  | d :: r => uptoBulk d + uptoBulkAll r
def uptoBulkEntries {H : Type} : List (Lit × DataW H) → Nat
  | [] => 0
  | x :: r => uptoBulkEntry x + uptoBulkEntries r
def uptoBulkEntry {H : Type} : Lit × DataW H → Nat
  | (.string bytes, d) => bytes.length + uptoBulk d + 1
  | (_, d) => uptoBulk d + 1
 end
def uptoSmall : (H : Type) → List (DataW H) → Bool := fun _ ds => decide (uptoBulkAll ds ≤ 1048576)
def OpenSpec.upto (s : _root_.Go.ChangeSpec) : _root_.Go.OpenSpec := { _root_.Go.OpenSpec.ofChange s with cond := some uptoSmall }

/-- 'trestlelaw15.EncodeGates', WHERE WHAT IT READS IS OF BULK AT MOST 1048576: true; the input reads as it did. -/
def encodeGatesUptoRow : OpenClaim := { program := "ytbgdhfnfbahdhaa", sum := "6a132fc361fcbc7c3cde1fd67e9755317b75526da27f2a169908d4968c3d8a3f", func := "trestle/trestlelaw15.EncodeGates", spec := "encodeGates", inPlace := ["internal/bytealg.IndexByteString", "internal/bytealg.IndexString"], unfollowed := true, recurses := true, named := ["internal/bytealg.MaxLen"], plainKeys := false, apart := false, narrowed := true }
def EncodeGatesUptoSaid : Prop := encodeGatesUptoRow.holds Try.pinned (OpenSpec.upto encodeGatesSpec)

/-- 'trestlelaw15.EncodeModels', WHERE WHAT IT READS IS OF BULK AT MOST 1048576: true; the input reads as it did. -/
def encodeModelsUptoRow : OpenClaim := { program := "ytbgdhfnfbahdhaa", sum := "6a132fc361fcbc7c3cde1fd67e9755317b75526da27f2a169908d4968c3d8a3f", func := "trestle/trestlelaw15.EncodeModels", spec := "encodeModels", inPlace := ["internal/bytealg.IndexByteString", "internal/bytealg.IndexString"], unfollowed := true, recurses := true, named := ["internal/bytealg.MaxLen"], plainKeys := false, apart := false, narrowed := true }
def EncodeModelsUptoSaid : Prop := encodeModelsUptoRow.holds Try.pinned (OpenSpec.upto encodeModelsSpec)

/-- 'trestlelaw15.EncodeHolds', WHERE WHAT IT READS IS OF BULK AT MOST 1048576: true; the input reads as it did. -/
def encodeHoldsUptoRow : OpenClaim := { program := "ytbgdhfnfbahdhaa", sum := "6a132fc361fcbc7c3cde1fd67e9755317b75526da27f2a169908d4968c3d8a3f", func := "trestle/trestlelaw15.EncodeHolds", spec := "encodeHolds", inPlace := ["internal/bytealg.IndexByteString", "internal/bytealg.IndexString"], unfollowed := true, recurses := true, named := ["internal/bytealg.MaxLen"], plainKeys := false, apart := false, narrowed := true }
def EncodeHoldsUptoSaid : Prop := encodeHoldsUptoRow.holds Try.pinned (OpenSpec.upto encodeHoldsSpec)

end Rows
end Go.Proofs.Ytbgdhfnfbahdhaa
