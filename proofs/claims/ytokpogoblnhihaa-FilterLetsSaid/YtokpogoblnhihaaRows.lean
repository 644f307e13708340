/-
  No cell of these rows narrows 'for every input' (looked for: loops, veiled, ifaces, maps, wideKeys, modest, calm, conditions, laid).
  DERIVED. THE GIVEN ROWS OF THIS SEAT. 4 by the template 'for every input the law returns true; each argument reads behind the call as it read before'; 0 by the template 'total and deterministic' (their statements: YtokpogoblnhihaaTotals.lean).
  GIVEN WITH THE SEED: the statements are not yours to turn. If you find one false, say at which input.
  Laid BY PROGRAM, IN A SANDBOX (cutbox-rows.mjs): the forced cells as the released guide's own fill.sh prints them over the translation 5c0966f8cb672332… (all of the seat's roots in one cut). By AI agents, Wed Nov 11 2026. No macro, syntax, notation, axiom, sorry.
-/
import Derived.Test.YtokpogoblnhihaaChecked
import GoSem.Claim
import GoSem.ClaimJoined
import GoSem.ClaimMapViews
import Derived.JoinedTies
import Derived.KernelRfl
namespace Go.Proofs.Ytokpogoblnhihaa
/- THE CELL 'sum', in the pinned program and in every row, IS THE sha256 OF THE DUMP (.gsa) THAT YtokpogoblnhihaaProg.lean LOADS. Nothing in Lean hashes anything: it is a label: what it is worth is what the hold of that sum in a sandbox is worth. -/
noncomputable def Try.pinned : Pinned := { name := "ytokpogoblnhihaa", sum := "5c0966f8cb67233228c8793b64afe7e73ca870a746c91af0e1bd2346c8a3507f", checked := Try.checked }
namespace Rows
def none {H : Type} : Left H := { results := [], args := [] }

/-- 'acequialaw15.FilterApplies': WHATEVER THE INPUT: true; the input reads as it did. -/
def filterAppliesSpec : ChangeSpec := { name := "filterApplies", fn := fun _ => fun
  | [d1, d2, d3] => { results := [.lit (.bool true)], args := [d1, d2, d3] }
  | _ => none }
def filterAppliesRow : OpenClaim := { program := "ytokpogoblnhihaa", sum := "5c0966f8cb67233228c8793b64afe7e73ca870a746c91af0e1bd2346c8a3507f", func := "acequia/acequialaw15.FilterApplies", spec := "filterApplies", inPlace := ["internal/bytealg.Compare"], unfollowed := true, recurses := true, apart := false }
def FilterAppliesSaid : Prop := filterAppliesRow.holds Try.pinned (OpenSpec.ofChange filterAppliesSpec)

/-- ITS FALSE NEIGHBOUR: 'it returns false'. Refute it at one input. -/
def filterAppliesWrong : ChangeSpec := { name := "filterApplies", fn := fun _ => fun
  | [d1, d2, d3] => { results := [.lit (.bool false)], args := [d1, d2, d3] }
  | _ => none }
def FilterAppliesWrongFalsely : Prop := filterAppliesRow.holds Try.pinned (OpenSpec.ofChange filterAppliesWrong)

/-- 'acequialaw15.FilterLets': WHATEVER THE INPUT: true; the input reads as it did. -/
def filterLetsSpec : ChangeSpec := { name := "filterLets", fn := fun _ => fun
  | [d1, d2, d3] => { results := [.lit (.bool true)], args := [d1, d2, d3] }
  | _ => none }
def filterLetsRow : OpenClaim := { program := "ytokpogoblnhihaa", sum := "5c0966f8cb67233228c8793b64afe7e73ca870a746c91af0e1bd2346c8a3507f", func := "acequia/acequialaw15.FilterLets", spec := "filterLets", inPlace := ["internal/bytealg.Compare"], unfollowed := true, recurses := true, apart := false }
def FilterLetsSaid : Prop := filterLetsRow.holds Try.pinned (OpenSpec.ofChange filterLetsSpec)

/-- ITS FALSE NEIGHBOUR: 'it returns false'. Refute it at one input. -/
def filterLetsWrong : ChangeSpec := { name := "filterLets", fn := fun _ => fun
  | [d1, d2, d3] => { results := [.lit (.bool false)], args := [d1, d2, d3] }
  | _ => none }
def FilterLetsWrongFalsely : Prop := filterLetsRow.holds Try.pinned (OpenSpec.ofChange filterLetsWrong)

/-- 'acequialaw15.FilterSays': WHATEVER THE INPUT: true; the input reads as it did. -/
def filterSaysSpec : ChangeSpec := { name := "filterSays", fn := fun _ => fun
  | [d1, d2, d3] => { results := [.lit (.bool true)], args := [d1, d2, d3] }
  | _ => none }
def filterSaysRow : OpenClaim := { program := "ytokpogoblnhihaa", sum := "5c0966f8cb67233228c8793b64afe7e73ca870a746c91af0e1bd2346c8a3507f", func := "acequia/acequialaw15.FilterSays", spec := "filterSays", inPlace := ["internal/bytealg.Compare"], unfollowed := true, recurses := true, apart := false }
def FilterSaysSaid : Prop := filterSaysRow.holds Try.pinned (OpenSpec.ofChange filterSaysSpec)

/-- ITS FALSE NEIGHBOUR: 'it returns false'. Refute it at one input. -/
def filterSaysWrong : ChangeSpec := { name := "filterSays", fn := fun _ => fun
  | [d1, d2, d3] => { results := [.lit (.bool false)], args := [d1, d2, d3] }
  | _ => none }
def FilterSaysWrongFalsely : Prop := filterSaysRow.holds Try.pinned (OpenSpec.ofChange filterSaysWrong)

/-- 'acequialaw15.FilterSame': WHATEVER THE INPUT: true; the input reads as it did. -/
def filterSameSpec : ChangeSpec := { name := "filterSame", fn := fun _ => fun
  | [d1, d2] => { results := [.lit (.bool true)], args := [d1, d2] }
  | _ => none }
def filterSameRow : OpenClaim := { program := "ytokpogoblnhihaa", sum := "5c0966f8cb67233228c8793b64afe7e73ca870a746c91af0e1bd2346c8a3507f", func := "acequia/acequialaw15.FilterSame", spec := "filterSame", inPlace := ["internal/bytealg.Compare"], unfollowed := true, recurses := true, apart := false }
def FilterSameSaid : Prop := filterSameRow.holds Try.pinned (OpenSpec.ofChange filterSameSpec)

/-- ITS FALSE NEIGHBOUR: 'it returns false'. Refute it at one input. -/
def filterSameWrong : ChangeSpec := { name := "filterSame", fn := fun _ => fun
  | [d1, d2] => { results := [.lit (.bool false)], args := [d1, d2] }
  | _ => none }
def FilterSameWrongFalsely : Prop := filterSameRow.holds Try.pinned (OpenSpec.ofChange filterSameWrong)

/- THE SECOND FORM. 'bulk': how many values and letters a reading holds, each counted each time it is reached (what is shared counts as often as it is met; a slice's spare places count too). A statement '..UptoSaid' is the law's where the arguments, and the package variables that the reading takes, are together of bulk at most 1048576: NARROWER than '..Said'. Prove '..Said' where nothing that the law and all that it calls make is longer than what came in: it says more and counts as full. Else prove '..UptoSaid'. A law counts once. -/
mutual
def uptoBulk {H : Type} : DataW H → Nat
  | .lit (.string bytes) => bytes.length + 1
  | .lit _ => 1
  | .nil => 1
  | .ptr d => uptoBulk d + 1
  | .slice elems spare => uptoBulkAll elems + uptoBulkAll spare + 1
  | .agg parts => uptoBulkAll parts + 1
  | .iface _ d => uptoBulk d + 1
  | .map entries => uptoBulkEntries entries + 1
  | .held _ => 1
def uptoBulkAll {H : Type} : List (DataW H) → Nat
  | [] => 0
  | d :: r => uptoBulk d + uptoBulkAll r
def uptoBulkEntries {H : Type} : List (Lit × DataW H) → Nat
  | [] => 0
  | x :: r => uptoBulkEntry x + uptoBulkEntries r
def uptoBulkEntry {H : Type} : Lit × DataW H → Nat
  | (.string bytes, d) => bytes.length + uptoBulk d + 1
  | (_, d) => uptoBulk d + 1
 end
def uptoSmall : (H : Type) → List (DataW H) → Bool := fun _ ds => decide (uptoBulkAll ds ≤ 1048576)
def OpenSpec.upto (s : _root_.Go.ChangeSpec) : _root_.Go.OpenSpec := { _root_.Go.OpenSpec.ofChange s with cond := some uptoSmall }

/-- 'acequialaw15.FilterApplies', WHERE WHAT IT READS IS OF BULK AT MOST 1048576: true; the input reads as it did. -/
def filterAppliesUptoRow : OpenClaim := { program := "ytokpogoblnhihaa", sum := "5c0966f8cb67233228c8793b64afe7e73ca870a746c91af0e1bd2346c8a3507f", func := "acequia/acequialaw15.FilterApplies", spec := "filterApplies", inPlace := ["internal/bytealg.Compare"], unfollowed := true, recurses := true, apart := false, narrowed := true }
def FilterAppliesUptoSaid : Prop := filterAppliesUptoRow.holds Try.pinned (OpenSpec.upto filterAppliesSpec)

/-- 'acequialaw15.FilterLets', WHERE WHAT IT READS IS OF BULK AT MOST 1048576: true; the input reads as it did. -/
def filterLetsUptoRow : OpenClaim := { program := "ytokpogoblnhihaa", sum := "5c0966f8cb67233228c8793b64afe7e73ca870a746c91af0e1bd2346c8a3507f", func := "acequia/acequialaw15.FilterLets", spec := "filterLets", inPlace := ["internal/bytealg.Compare"], unfollowed := true, recurses := true, apart := false, narrowed := true }
def FilterLetsUptoSaid : Prop := filterLetsUptoRow.holds Try.pinned (OpenSpec.upto filterLetsSpec)

/-- 'acequialaw15.FilterSays', WHERE WHAT IT READS IS OF BULK AT MOST 1048576: true; the input reads as it did. -/
def filterSaysUptoRow : OpenClaim := { program := "ytokpogoblnhihaa", sum := "5c0966f8cb67233228c8793b64afe7e73ca870a746c91af0e1bd2346c8a3507f", func := "acequia/acequialaw15.FilterSays", spec := "filterSays", inPlace := ["internal/bytealg.Compare"], unfollowed := true, recurses := true, apart := false, narrowed := true }
def FilterSaysUptoSaid : Prop := filterSaysUptoRow.holds Try.pinned (OpenSpec.upto filterSaysSpec)

/-- 'acequialaw15.FilterSame', WHERE WHAT IT READS IS OF BULK AT MOST 1048576: true; the input reads as it did. -/
def filterSameUptoRow : OpenClaim := { program := "ytokpogoblnhihaa", sum := "5c0966f8cb67233228c8793b64afe7e73ca870a746c91af0e1bd2346c8a3507f", func := "acequia/acequialaw15.FilterSame", spec := "filterSame", inPlace := ["internal/bytealg.Compare"], unfollowed := true, recurses := true, apart := false, narrowed := true }
def FilterSameUptoSaid : Prop := filterSameUptoRow.holds Try.pinned (OpenSpec.upto filterSameSpec)

end Rows
end Go.Proofs.Ytokpogoblnhihaa
