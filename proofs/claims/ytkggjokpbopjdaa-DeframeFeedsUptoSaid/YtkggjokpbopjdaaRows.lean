/-
  No cell of these rows narrows 'for every input' (looked for: loops, veiled, ifaces, maps, wideKeys, modest, calm, conditions, laid).
  DERIVED. THE GIVEN ROWS OF THIS SEAT. 6 by the template 'for every input the law returns true; each argument reads behind the call as it read before'; 0 by the template 'total and deterministic' (their statements: YtkggjokpbopjdaaTotals.lean).
  GIVEN WITH THE SEED: the statements are not yours to turn. If you find one false, say at which input.
  Laid BY PROGRAM, IN A SANDBOX (cutbox-rows.mjs): the forced cells as the released guide's own fill.sh prints them over the translation 08583ed5c48671ef… (all of the seat's roots in one cut). By AI agents, Wed Nov 11 2026. No macro, syntax, notation, axiom, sorry.
-/
import Derived.Test.YtkggjokpbopjdaaChecked
import GoSem.Claim
import GoSem.ClaimJoined
import GoSem.ClaimMapViews
import Derived.JoinedTies
import Derived.KernelRfl
namespace Go.Proofs.Ytkggjokpbopjdaa
/- THE CELL 'sum', in the pinned program and in every row, IS THE sha256 OF THE DUMP (.gsa) THAT YtkggjokpbopjdaaProg.lean LOADS. Nothing in Lean hashes anything: it is a label: what it is worth is what the hold of that sum in a sandbox is worth. -/
noncomputable def Try.pinned : Pinned := { name := "ytkggjokpbopjdaa", sum := "08583ed5c48671efa8770b1a257d03372df88cffb9cb39b2f3de5cd056356826", checked := Try.checked }
namespace Rows
def none {H : Type} : Left H := { results := [], args := [] }

/-- 'postmarklaw05.FrameReads': WHATEVER THE INPUT: true; the input reads as it did. -/
def frameReadsSpec : ChangeSpec := { name := "frameReads", fn := fun _ => fun
  | [d1, d2, d3] => { results := [.lit (.bool true)], args := [d1, d2, d3] }
  | _ => none }
def frameReadsRow : OpenClaim := { program := "ytkggjokpbopjdaa", sum := "08583ed5c48671efa8770b1a257d03372df88cffb9cb39b2f3de5cd056356826", func := "postmark/postmarklaw05.FrameReads", spec := "frameReads", unfollowed := true, recurses := true, apart := false }
def FrameReadsSaid : Prop := frameReadsRow.holds Try.pinned (OpenSpec.ofChange frameReadsSpec)

/-- ITS FALSE NEIGHBOUR: 'it returns false'. Refute it at one input. -/
def frameReadsWrong : ChangeSpec := { name := "frameReads", fn := fun _ => fun
  | [d1, d2, d3] => { results := [.lit (.bool false)], args := [d1, d2, d3] }
  | _ => none }
def FrameReadsWrongFalsely : Prop := frameReadsRow.holds Try.pinned (OpenSpec.ofChange frameReadsWrong)

/-- 'postmarklaw05.FrameBack': WHATEVER THE INPUT: true; the input reads as it did. -/
def frameBackSpec : ChangeSpec := { name := "frameBack", fn := fun _ => fun
  | [d1, d2, d3, d4, d5] => { results := [.lit (.bool true)], args := [d1, d2, d3, d4, d5] }
  | _ => none }
def frameBackRow : OpenClaim := { program := "ytkggjokpbopjdaa", sum := "08583ed5c48671efa8770b1a257d03372df88cffb9cb39b2f3de5cd056356826", func := "postmark/postmarklaw05.FrameBack", spec := "frameBack", unfollowed := true, recurses := true, apart := false }
def FrameBackSaid : Prop := frameBackRow.holds Try.pinned (OpenSpec.ofChange frameBackSpec)

/-- ITS FALSE NEIGHBOUR: 'it returns false'. Refute it at one input. -/
def frameBackWrong : ChangeSpec := { name := "frameBack", fn := fun _ => fun
  | [d1, d2, d3, d4, d5] => { results := [.lit (.bool false)], args := [d1, d2, d3, d4, d5] }
  | _ => none }
def FrameBackWrongFalsely : Prop := frameBackRow.holds Try.pinned (OpenSpec.ofChange frameBackWrong)

/-- 'postmarklaw05.FrameLong': WHATEVER THE INPUT: true; the input reads as it did. -/
def frameLongSpec : ChangeSpec := { name := "frameLong", fn := fun _ => fun
  | [] => { results := [.lit (.bool true)], args := [] }
  | _ => none }
def frameLongRow : OpenClaim := { program := "ytkggjokpbopjdaa", sum := "08583ed5c48671efa8770b1a257d03372df88cffb9cb39b2f3de5cd056356826", func := "postmark/postmarklaw05.FrameLong", spec := "frameLong", inPlace := ["internal/abi.NoEscape", "internal/bytealg.MakeNoZero"], unfollowed := true, recurses := true, apart := false }
def FrameLongSaid : Prop := frameLongRow.holds Try.pinned (OpenSpec.ofChange frameLongSpec)

/-- ITS FALSE NEIGHBOUR: 'it returns false'. Refute it at one input. -/
def frameLongWrong : ChangeSpec := { name := "frameLong", fn := fun _ => fun
  | [] => { results := [.lit (.bool false)], args := [] }
  | _ => none }
def FrameLongWrongFalsely : Prop := frameLongRow.holds Try.pinned (OpenSpec.ofChange frameLongWrong)

/-- 'postmarklaw06.DeframeFeeds': WHATEVER THE INPUT: true; the input reads as it did. -/
def deframeFeedsSpec : ChangeSpec := { name := "deframeFeeds", fn := fun _ => fun
  | [d] => { results := [.lit (.bool true)], args := [d] }
  | _ => none }
def deframeFeedsRow : OpenClaim := { program := "ytkggjokpbopjdaa", sum := "08583ed5c48671efa8770b1a257d03372df88cffb9cb39b2f3de5cd056356826", func := "postmark/postmarklaw06.DeframeFeeds", spec := "deframeFeeds", inPlace := ["internal/abi.NoEscape", "internal/bytealg.MakeNoZero"], unfollowed := true, recurses := true, apart := false }
def DeframeFeedsSaid : Prop := deframeFeedsRow.holds Try.pinned (OpenSpec.ofChange deframeFeedsSpec)

/-- ITS FALSE NEIGHBOUR: 'it returns false'. Refute it at one input. -/
def deframeFeedsWrong : ChangeSpec := { name := "deframeFeeds", fn := fun _ => fun
  | [d] => { results := [.lit (.bool false)], args := [d] }
  | _ => none }
def DeframeFeedsWrongFalsely : Prop := deframeFeedsRow.holds Try.pinned (OpenSpec.ofChange deframeFeedsWrong)

/-- 'postmarklaw06.DeframeCuts': WHATEVER THE INPUT: true; the input reads as it did. -/
def deframeCutsSpec : ChangeSpec := { name := "deframeCuts", fn := fun _ => fun
  | [d1, d2] => { results := [.lit (.bool true)], args := [d1, d2] }
  | _ => none }
def deframeCutsRow : OpenClaim := { program := "ytkggjokpbopjdaa", sum := "08583ed5c48671efa8770b1a257d03372df88cffb9cb39b2f3de5cd056356826", func := "postmark/postmarklaw06.DeframeCuts", spec := "deframeCuts", inPlace := ["internal/abi.NoEscape"], unfollowed := true, recurses := true, apart := false }
def DeframeCutsSaid : Prop := deframeCutsRow.holds Try.pinned (OpenSpec.ofChange deframeCutsSpec)

/-- ITS FALSE NEIGHBOUR: 'it returns false'. Refute it at one input. -/
def deframeCutsWrong : ChangeSpec := { name := "deframeCuts", fn := fun _ => fun
  | [d1, d2] => { results := [.lit (.bool false)], args := [d1, d2] }
  | _ => none }
def DeframeCutsWrongFalsely : Prop := deframeCutsRow.holds Try.pinned (OpenSpec.ofChange deframeCutsWrong)

/-- 'postmarklaw06.DeframeNone': WHATEVER THE INPUT: true; the input reads as it did. -/
def deframeNoneSpec : ChangeSpec := { name := "deframeNone", fn := fun _ => fun
  | [] => { results := [.lit (.bool true)], args := [] }
  | _ => none }
def deframeNoneRow : OpenClaim := { program := "ytkggjokpbopjdaa", sum := "08583ed5c48671efa8770b1a257d03372df88cffb9cb39b2f3de5cd056356826", func := "postmark/postmarklaw06.DeframeNone", spec := "deframeNone", inPlace := ["internal/abi.NoEscape"], unfollowed := true, recurses := true, apart := false }
def DeframeNoneSaid : Prop := deframeNoneRow.holds Try.pinned (OpenSpec.ofChange deframeNoneSpec)

/-- ITS FALSE NEIGHBOUR: 'it returns false'. Refute it at one input. -/
def deframeNoneWrong : ChangeSpec := { name := "deframeNone", fn := fun _ => fun
  | [] => { results := [.lit (.bool false)], args := [] }
  | _ => none }
def DeframeNoneWrongFalsely : Prop := deframeNoneRow.holds Try.pinned (OpenSpec.ofChange deframeNoneWrong)

/- THE SECOND FORM. 'bulk': how many values and letters a reading holds, each counted each time it is reached (what is shared counts as often as it is met; a slice's spare places count too). A statement '..UptoSaid' is the law's where the arguments, and the package variables that the reading takes, are together of bulk at most 1048576: NARROWER than '..Said'. Prove '..Said' where nothing that the law and all that it calls make is longer than what came in: it says more and counts as full. Else prove '..UptoSaid'. A law counts once. -/
mutual
def uptoBulk {H : Type} : DataW H → Nat
  | .lit (.string bytes) => bytes.length + 1
  | .lit _ => 1
  | .nil => 1
  | .ptr d => uptoBulk d + 1
  | .slice elems spare => uptoBulkAll elems + uptoBulkAll spare + 1
  | .agg parts => uptoBulkAll parts + 1
  | .iface _ d => uptoBulk d + 1
  | .map entries => uptoBulkEntries entries + 1
  | .held _ => 1
def uptoBulkAll {H : Type} : List (DataW H) → Nat
  | [] => 0
  | d :: r => uptoBulk d + uptoBulkAll r
def uptoBulkEntries {H : Type} : List (Lit × DataW H) → Nat
  | [] => 0
  | x :: r => uptoBulkEntry x + uptoBulkEntries r
def uptoBulkEntry {H : Type} : Lit × DataW H → Nat
  | (.string bytes, d) => bytes.length + uptoBulk d + 1
  | (_, d) => uptoBulk d + 1
 end
def uptoSmall : (H : Type) → List (DataW H) → Bool := fun _ ds => decide (uptoBulkAll ds ≤ 1048576)
def OpenSpec.upto (s : _root_.Go.ChangeSpec) : _root_.Go.OpenSpec := { _root_.Go.OpenSpec.ofChange s with cond := some uptoSmall }

/-- 'postmarklaw05.FrameReads', WHERE WHAT IT READS IS OF BULK AT MOST 1048576: true; the input reads as it did. -/
def frameReadsUptoRow : OpenClaim := { program := "ytkggjokpbopjdaa", sum := "08583ed5c48671efa8770b1a257d03372df88cffb9cb39b2f3de5cd056356826", func := "postmark/postmarklaw05.FrameReads", spec := "frameReads", unfollowed := true, recurses := true, apart := false, narrowed := true }
def FrameReadsUptoSaid : Prop := frameReadsUptoRow.holds Try.pinned (OpenSpec.upto frameReadsSpec)

/-- 'postmarklaw05.FrameBack', WHERE WHAT IT READS IS OF BULK AT MOST 1048576: true; the input reads as it did. -/
def frameBackUptoRow : OpenClaim := { program := "ytkggjokpbopjdaa", sum := "08583ed5c48671efa8770b1a257d03372df88cffb9cb39b2f3de5cd056356826", func := "postmark/postmarklaw05.FrameBack", spec := "frameBack", unfollowed := true, recurses := true, apart := false, narrowed := true }
def FrameBackUptoSaid : Prop := frameBackUptoRow.holds Try.pinned (OpenSpec.upto frameBackSpec)

/-- 'postmarklaw05.FrameLong', WHERE WHAT IT READS IS OF BULK AT MOST 1048576: true; the input reads as it did. -/
def frameLongUptoRow : OpenClaim := { program := "ytkggjokpbopjdaa", sum := "08583ed5c48671efa8770b1a257d03372df88cffb9cb39b2f3de5cd056356826", func := "postmark/postmarklaw05.FrameLong", spec := "frameLong", inPlace := ["internal/abi.NoEscape", "internal/bytealg.MakeNoZero"], unfollowed := true, recurses := true, apart := false, narrowed := true }
def FrameLongUptoSaid : Prop := frameLongUptoRow.holds Try.pinned (OpenSpec.upto frameLongSpec)

/-- 'postmarklaw06.DeframeFeeds', WHERE WHAT IT READS IS OF BULK AT MOST 1048576: true; the input reads as it did. -/
def deframeFeedsUptoRow : OpenClaim := { program := "ytkggjokpbopjdaa", sum := "08583ed5c48671efa8770b1a257d03372df88cffb9cb39b2f3de5cd056356826", func := "postmark/postmarklaw06.DeframeFeeds", spec := "deframeFeeds", inPlace := ["internal/abi.NoEscape", "internal/bytealg.MakeNoZero"], unfollowed := true, recurses := true, apart := false, narrowed := true }
def DeframeFeedsUptoSaid : Prop := deframeFeedsUptoRow.holds Try.pinned (OpenSpec.upto deframeFeedsSpec)

/-- 'postmarklaw06.DeframeCuts', WHERE WHAT IT READS IS OF BULK AT MOST 1048576: true; the input reads as it did. -/
def deframeCutsUptoRow : OpenClaim := { program := "ytkggjokpbopjdaa", sum := "08583ed5c48671efa8770b1a257d03372df88cffb9cb39b2f3de5cd056356826", func := "postmark/postmarklaw06.DeframeCuts", spec := "deframeCuts", inPlace := ["internal/abi.NoEscape"], unfollowed := true, recurses := true, apart := false, narrowed := true }
def DeframeCutsUptoSaid : Prop := deframeCutsUptoRow.holds Try.pinned (OpenSpec.upto deframeCutsSpec)

/-- 'postmarklaw06.DeframeNone', WHERE WHAT IT READS IS OF BULK AT MOST 1048576: true; the input reads as it did. -/
def deframeNoneUptoRow : OpenClaim := { program := "ytkggjokpbopjdaa", sum := "08583ed5c48671efa8770b1a257d03372df88cffb9cb39b2f3de5cd056356826", func := "postmark/postmarklaw06.DeframeNone", spec := "deframeNone", inPlace := ["internal/abi.NoEscape"], unfollowed := true, recurses := true, apart := false, narrowed := true }
def DeframeNoneUptoSaid : Prop := deframeNoneUptoRow.holds Try.pinned (OpenSpec.upto deframeNoneSpec)

end Rows
end Go.Proofs.Ytkggjokpbopjdaa
