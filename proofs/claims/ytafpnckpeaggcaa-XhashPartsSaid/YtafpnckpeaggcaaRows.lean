/-
  No cell of these rows narrows 'for every input' (looked for: loops, veiled, ifaces, maps, wideKeys, modest, calm, conditions, laid).
  DERIVED. THE GIVEN ROWS OF THIS SEAT. 5 by the template 'for every input the law returns true; each argument reads behind the call as it read before'; 0 by the template 'total and deterministic' (their statements: YtafpnckpeaggcaaTotals.lean).
  GIVEN WITH THE SEED: the statements are not yours to turn. If you find one false, say at which input.
  Laid BY PROGRAM, IN A SANDBOX (cutbox-rows.mjs): the forced cells as the released guide's own fill.sh prints them over the translation 6098c94c7afd1a64… (all of the seat's roots in one cut). By AI agents, Wed Nov 11 2026. No macro, syntax, notation, axiom, sorry.
-/
import Derived.Test.YtafpnckpeaggcaaChecked
import GoSem.Claim
import GoSem.ClaimJoined
import GoSem.ClaimMapViews
import Derived.JoinedTies
import Derived.KernelRfl
namespace Go.Proofs.Ytafpnckpeaggcaa
/- THE CELL 'sum', in the pinned program and in every row, IS THE sha256 OF THE DUMP (.gsa) THAT YtafpnckpeaggcaaProg.lean LOADS. Nothing in Lean hashes anything: it is a label: what it is worth is what the hold of that sum in a sandbox is worth. -/
noncomputable def Try.pinned : Pinned := { name := "ytafpnckpeaggcaa", sum := "6098c94c7afd1a64b4c52b75f69715a017c19894c165df669942b3e09e212a58", checked := Try.checked }
namespace Rows
def none {H : Type} : Left H := { results := [], args := [] }

/-- 'tallymanlaw02.XhashNames': WHATEVER THE INPUT: true; the input reads as it did. -/
def xhashNamesSpec : ChangeSpec := { name := "xhashNames", fn := fun _ => fun
  | [] => { results := [.lit (.bool true)], args := [] }
  | _ => none }
def xhashNamesRow : OpenClaim := { program := "ytafpnckpeaggcaa", sum := "6098c94c7afd1a64b4c52b75f69715a017c19894c165df669942b3e09e212a58", func := "tallyman/tallymanlaw02.XhashNames", spec := "xhashNames", apart := false }
def XhashNamesSaid : Prop := xhashNamesRow.holds Try.pinned (OpenSpec.ofChange xhashNamesSpec)

/-- ITS FALSE NEIGHBOUR: 'it returns false'. Refute it at one input. -/
def xhashNamesWrong : ChangeSpec := { name := "xhashNames", fn := fun _ => fun
  | [] => { results := [.lit (.bool false)], args := [] }
  | _ => none }
def XhashNamesWrongFalsely : Prop := xhashNamesRow.holds Try.pinned (OpenSpec.ofChange xhashNamesWrong)

/-- 'tallymanlaw02.XhashSums': WHATEVER THE INPUT: true; the input reads as it did. -/
def xhashSumsSpec : ChangeSpec := { name := "xhashSums", fn := fun _ => fun
  | [d1, d2, d3, d4, d5] => { results := [.lit (.bool true)], args := [d1, d2, d3, d4, d5] }
  | _ => none }
def xhashSumsRow : OpenClaim := { program := "ytafpnckpeaggcaa", sum := "6098c94c7afd1a64b4c52b75f69715a017c19894c165df669942b3e09e212a58", func := "tallyman/tallymanlaw02.XhashSums", spec := "xhashSums", apart := false }
def XhashSumsSaid : Prop := xhashSumsRow.holds Try.pinned (OpenSpec.ofChange xhashSumsSpec)

/-- ITS FALSE NEIGHBOUR: 'it returns false'. Refute it at one input. -/
def xhashSumsWrong : ChangeSpec := { name := "xhashSums", fn := fun _ => fun
  | [d1, d2, d3, d4, d5] => { results := [.lit (.bool false)], args := [d1, d2, d3, d4, d5] }
  | _ => none }
def XhashSumsWrongFalsely : Prop := xhashSumsRow.holds Try.pinned (OpenSpec.ofChange xhashSumsWrong)

/-- 'tallymanlaw02.XhashOne': WHATEVER THE INPUT: true; the input reads as it did. -/
def xhashOneSpec : ChangeSpec := { name := "xhashOne", fn := fun _ => fun
  | [d1, d2, d3, d4] => { results := [.lit (.bool true)], args := [d1, d2, d3, d4] }
  | _ => none }
def xhashOneRow : OpenClaim := { program := "ytafpnckpeaggcaa", sum := "6098c94c7afd1a64b4c52b75f69715a017c19894c165df669942b3e09e212a58", func := "tallyman/tallymanlaw02.XhashOne", spec := "xhashOne", apart := false }
def XhashOneSaid : Prop := xhashOneRow.holds Try.pinned (OpenSpec.ofChange xhashOneSpec)

/-- ITS FALSE NEIGHBOUR: 'it returns false'. Refute it at one input. -/
def xhashOneWrong : ChangeSpec := { name := "xhashOne", fn := fun _ => fun
  | [d1, d2, d3, d4] => { results := [.lit (.bool false)], args := [d1, d2, d3, d4] }
  | _ => none }
def XhashOneWrongFalsely : Prop := xhashOneRow.holds Try.pinned (OpenSpec.ofChange xhashOneWrong)

/-- 'tallymanlaw02.XhashBytes': WHATEVER THE INPUT: true; the input reads as it did. -/
def xhashBytesSpec : ChangeSpec := { name := "xhashBytes", fn := fun _ => fun
  | [d1, d2, d3] => { results := [.lit (.bool true)], args := [d1, d2, d3] }
  | _ => none }
def xhashBytesRow : OpenClaim := { program := "ytafpnckpeaggcaa", sum := "6098c94c7afd1a64b4c52b75f69715a017c19894c165df669942b3e09e212a58", func := "tallyman/tallymanlaw02.XhashBytes", spec := "xhashBytes", apart := false }
def XhashBytesSaid : Prop := xhashBytesRow.holds Try.pinned (OpenSpec.ofChange xhashBytesSpec)

/-- ITS FALSE NEIGHBOUR: 'it returns false'. Refute it at one input. -/
def xhashBytesWrong : ChangeSpec := { name := "xhashBytes", fn := fun _ => fun
  | [d1, d2, d3] => { results := [.lit (.bool false)], args := [d1, d2, d3] }
  | _ => none }
def XhashBytesWrongFalsely : Prop := xhashBytesRow.holds Try.pinned (OpenSpec.ofChange xhashBytesWrong)

/-- 'tallymanlaw02.XhashParts': WHATEVER THE INPUT: true; the input reads as it did. -/
def xhashPartsSpec : ChangeSpec := { name := "xhashParts", fn := fun _ => fun
  | [d1, d2, d3, d4, d5] => { results := [.lit (.bool true)], args := [d1, d2, d3, d4, d5] }
  | _ => none }
def xhashPartsRow : OpenClaim := { program := "ytafpnckpeaggcaa", sum := "6098c94c7afd1a64b4c52b75f69715a017c19894c165df669942b3e09e212a58", func := "tallyman/tallymanlaw02.XhashParts", spec := "xhashParts", unfollowed := true, recurses := true, apart := false }
def XhashPartsSaid : Prop := xhashPartsRow.holds Try.pinned (OpenSpec.ofChange xhashPartsSpec)

/-- ITS FALSE NEIGHBOUR: 'it returns false'. Refute it at one input. -/
def xhashPartsWrong : ChangeSpec := { name := "xhashParts", fn := fun _ => fun
  | [d1, d2, d3, d4, d5] => { results := [.lit (.bool false)], args := [d1, d2, d3, d4, d5] }
  | _ => none }
def XhashPartsWrongFalsely : Prop := xhashPartsRow.holds Try.pinned (OpenSpec.ofChange xhashPartsWrong)

/- THE SECOND FORM. 'bulk': how many values and letters a reading holds, each counted each time it is reached (what is shared counts as often as it is met; a slice's spare places count too). A statement '..UptoSaid' is the law's where the arguments, and the package variables that the reading takes, are together of bulk at most 1048576: NARROWER than '..Said'. Prove '..Said' where nothing that the law and all that it calls make is longer than what came in: it says more and counts as full. Else prove '..UptoSaid'. A law counts once. -/
mutual
def uptoBulk {H : Type} : DataW H → Nat
  | .lit (.string bytes) => bytes.length + 1
  | .lit _ => 1
  | .nil => 1
  | .ptr d => uptoBulk d + 1
  | .slice elems spare => uptoBulkAll elems + uptoBulkAll spare + 1
  | .agg parts => uptoBulkAll parts + 1
  | .iface _ d => uptoBulk d + 1
  | .map entries => uptoBulkEntries entries + 1
  | .held _ => 1
def uptoBulkAll {H : Type} : List (DataW H) → Nat
  | [] => 0
  | d :: r => uptoBulk d + uptoBulkAll r
def uptoBulkEntries {H : Type} : List (Lit × DataW H) → Nat
  | [] => 0
  | x :: r => uptoBulkEntry x + uptoBulkEntries r
def uptoBulkEntry {H : Type} : Lit × DataW H → Nat
  | (.string bytes, d) => bytes.length + uptoBulk d + 1
  | (_, d) => uptoBulk d + 1
 end
def uptoSmall : (H : Type) → List (DataW H) → Bool := fun _ ds => decide (uptoBulkAll ds ≤ 1048576)
def OpenSpec.upto (s : _root_.Go.ChangeSpec) : _root_.Go.OpenSpec := { _root_.Go.OpenSpec.ofChange s with cond := some uptoSmall }

/-- 'tallymanlaw02.XhashNames', WHERE WHAT IT READS IS OF BULK AT MOST 1048576: true; the input reads as it did. -/
def xhashNamesUptoRow : OpenClaim := { program := "ytafpnckpeaggcaa", sum := "6098c94c7afd1a64b4c52b75f69715a017c19894c165df669942b3e09e212a58", func := "tallyman/tallymanlaw02.XhashNames", spec := "xhashNames", apart := false, narrowed := true }
def XhashNamesUptoSaid : Prop := xhashNamesUptoRow.holds Try.pinned (OpenSpec.upto xhashNamesSpec)

/-- 'tallymanlaw02.XhashSums', WHERE WHAT IT READS IS OF BULK AT MOST 1048576: true; the input reads as it did. -/
def xhashSumsUptoRow : OpenClaim := { program := "ytafpnckpeaggcaa", sum := "6098c94c7afd1a64b4c52b75f69715a017c19894c165df669942b3e09e212a58", func := "tallyman/tallymanlaw02.XhashSums", spec := "xhashSums", apart := false, narrowed := true }
def XhashSumsUptoSaid : Prop := xhashSumsUptoRow.holds Try.pinned (OpenSpec.upto xhashSumsSpec)

/-- 'tallymanlaw02.XhashOne', WHERE WHAT IT READS IS OF BULK AT MOST 1048576: true; the input reads as it did. -/
def xhashOneUptoRow : OpenClaim := { program := "ytafpnckpeaggcaa", sum := "6098c94c7afd1a64b4c52b75f69715a017c19894c165df669942b3e09e212a58", func := "tallyman/tallymanlaw02.XhashOne", spec := "xhashOne", apart := false, narrowed := true }
def XhashOneUptoSaid : Prop := xhashOneUptoRow.holds Try.pinned (OpenSpec.upto xhashOneSpec)

/-- 'tallymanlaw02.XhashBytes', WHERE WHAT IT READS IS OF BULK AT MOST 1048576: true; the input reads as it did. -/
def xhashBytesUptoRow : OpenClaim := { program := "ytafpnckpeaggcaa", sum := "6098c94c7afd1a64b4c52b75f69715a017c19894c165df669942b3e09e212a58", func := "tallyman/tallymanlaw02.XhashBytes", spec := "xhashBytes", apart := false, narrowed := true }
def XhashBytesUptoSaid : Prop := xhashBytesUptoRow.holds Try.pinned (OpenSpec.upto xhashBytesSpec)

/-- 'tallymanlaw02.XhashParts', WHERE WHAT IT READS IS OF BULK AT MOST 1048576: true; the input reads as it did. -/
def xhashPartsUptoRow : OpenClaim := { program := "ytafpnckpeaggcaa", sum := "6098c94c7afd1a64b4c52b75f69715a017c19894c165df669942b3e09e212a58", func := "tallyman/tallymanlaw02.XhashParts", spec := "xhashParts", unfollowed := true, recurses := true, apart := false, narrowed := true }
def XhashPartsUptoSaid : Prop := xhashPartsUptoRow.holds Try.pinned (OpenSpec.upto xhashPartsSpec)

end Rows
end Go.Proofs.Ytafpnckpeaggcaa
