/-
  No cell of these rows narrows 'for every input' (looked for: loops, veiled, ifaces, maps, wideKeys, modest, calm, conditions, laid).
  DERIVED. THE GIVEN ROWS OF THIS SEAT. 7 by the template 'for every input the law returns true; each argument reads behind the call as it read before'; 0 by the template 'total and deterministic' (their statements: YtlicmfhgjonmnaaTotals.lean).
  GIVEN WITH THE SEED: the statements are not yours to turn. If you find one false, say at which input.
  Laid BY PROGRAM, IN A SANDBOX (cutbox-rows.mjs): the forced cells as the released guide's own fill.sh prints them over the translation af96f0386ea0a944… (all of the seat's roots in one cut). By AI agents, Wed Nov 11 2026. No macro, syntax, notation, axiom, sorry.
-/
import Derived.Test.YtlicmfhgjonmnaaChecked
import GoSem.Claim
import GoSem.ClaimJoined
import GoSem.ClaimMapViews
import Derived.JoinedTies
import Derived.KernelRfl
namespace Go.Proofs.Ytlicmfhgjonmnaa
/- THE CELL 'sum', in the pinned program and in every row, IS THE sha256 OF THE DUMP (.gsa) THAT YtlicmfhgjonmnaaProg.lean LOADS. Nothing in Lean hashes anything: it is a label: what it is worth is what the hold of that sum in a sandbox is worth. -/
noncomputable def Try.pinned : Pinned := { name := "ytlicmfhgjonmnaa", sum := "af96f0386ea0a944fb5d91acde34b82232256a6047e89b41a1afbd29924d201b", checked := Try.checked }
namespace Rows
def none {H : Type} : Left H := { results := [], args := [] }

/-- 'facetlaw.Checks': WHATEVER THE INPUT: true; the input reads as it did. -/
def checksSpec : ChangeSpec := { name := "checks", fn := fun _ => fun
  | [d] => { results := [.lit (.bool true)], args := [d] }
  | _ => none }
def checksRow : OpenClaim := { program := "ytlicmfhgjonmnaa", sum := "af96f0386ea0a944fb5d91acde34b82232256a6047e89b41a1afbd29924d201b", func := "facet/facetlaw.Checks", spec := "checks", unfollowed := true, recurses := true, apart := false }
def ChecksSaid : Prop := checksRow.holds Try.pinned (OpenSpec.ofChange checksSpec)

/-- ITS FALSE NEIGHBOUR: 'it returns false'. Refute it at one input. -/
def checksWrong : ChangeSpec := { name := "checks", fn := fun _ => fun
  | [d] => { results := [.lit (.bool false)], args := [d] }
  | _ => none }
def ChecksWrongFalsely : Prop := checksRow.holds Try.pinned (OpenSpec.ofChange checksWrong)

/-- 'facetlaw.Areas': WHATEVER THE INPUT: true; the input reads as it did. -/
def areasSpec : ChangeSpec := { name := "areas", fn := fun _ => fun
  | [d] => { results := [.lit (.bool true)], args := [d] }
  | _ => none }
def areasRow : OpenClaim := { program := "ytlicmfhgjonmnaa", sum := "af96f0386ea0a944fb5d91acde34b82232256a6047e89b41a1afbd29924d201b", func := "facet/facetlaw.Areas", spec := "areas", unfollowed := true, recurses := true, apart := false }
def AreasSaid : Prop := areasRow.holds Try.pinned (OpenSpec.ofChange areasSpec)

/-- ITS FALSE NEIGHBOUR: 'it returns false'. Refute it at one input. -/
def areasWrong : ChangeSpec := { name := "areas", fn := fun _ => fun
  | [d] => { results := [.lit (.bool false)], args := [d] }
  | _ => none }
def AreasWrongFalsely : Prop := areasRow.holds Try.pinned (OpenSpec.ofChange areasWrong)

/-- 'facetlaw.Places': WHATEVER THE INPUT: true; the input reads as it did. -/
def placesSpec : ChangeSpec := { name := "places", fn := fun _ => fun
  | [d1, d2, d3] => { results := [.lit (.bool true)], args := [d1, d2, d3] }
  | _ => none }
def placesRow : OpenClaim := { program := "ytlicmfhgjonmnaa", sum := "af96f0386ea0a944fb5d91acde34b82232256a6047e89b41a1afbd29924d201b", func := "facet/facetlaw.Places", spec := "places", unfollowed := true, recurses := true, apart := false }
def PlacesSaid : Prop := placesRow.holds Try.pinned (OpenSpec.ofChange placesSpec)

/-- ITS FALSE NEIGHBOUR: 'it returns false'. Refute it at one input. -/
def placesWrong : ChangeSpec := { name := "places", fn := fun _ => fun
  | [d1, d2, d3] => { results := [.lit (.bool false)], args := [d1, d2, d3] }
  | _ => none }
def PlacesWrongFalsely : Prop := placesRow.holds Try.pinned (OpenSpec.ofChange placesWrong)

/-- 'facetlaw.Sums': WHATEVER THE INPUT: true; the input reads as it did. -/
def sumsSpec : ChangeSpec := { name := "sums", fn := fun _ => fun
  | [d] => { results := [.lit (.bool true)], args := [d] }
  | _ => none }
def sumsRow : OpenClaim := { program := "ytlicmfhgjonmnaa", sum := "af96f0386ea0a944fb5d91acde34b82232256a6047e89b41a1afbd29924d201b", func := "facet/facetlaw.Sums", spec := "sums", inPlace := ["math.Float64bits", "math.Float64frombits"], unfollowed := true, recurses := true, apart := false }
def SumsSaid : Prop := sumsRow.holds Try.pinned (OpenSpec.ofChange sumsSpec)

/-- ITS FALSE NEIGHBOUR: 'it returns false'. Refute it at one input. -/
def sumsWrong : ChangeSpec := { name := "sums", fn := fun _ => fun
  | [d] => { results := [.lit (.bool false)], args := [d] }
  | _ => none }
def SumsWrongFalsely : Prop := sumsRow.holds Try.pinned (OpenSpec.ofChange sumsWrong)

/-- 'facetlaw.Visible': WHATEVER THE INPUT: true; the input reads as it did. -/
def visibleSpec : ChangeSpec := { name := "visible", fn := fun _ => fun
  | [d1, d2, d3, d4, d5, d6] => { results := [.lit (.bool true)], args := [d1, d2, d3, d4, d5, d6] }
  | _ => none }
def visibleRow : OpenClaim := { program := "ytlicmfhgjonmnaa", sum := "af96f0386ea0a944fb5d91acde34b82232256a6047e89b41a1afbd29924d201b", func := "facet/facetlaw.Visible", spec := "visible", inPlace := ["math.Float64bits", "math.Float64frombits"], unfollowed := true, recurses := true, apart := false }
def VisibleSaid : Prop := visibleRow.holds Try.pinned (OpenSpec.ofChange visibleSpec)

/-- ITS FALSE NEIGHBOUR: 'it returns false'. Refute it at one input. -/
def visibleWrong : ChangeSpec := { name := "visible", fn := fun _ => fun
  | [d1, d2, d3, d4, d5, d6] => { results := [.lit (.bool false)], args := [d1, d2, d3, d4, d5, d6] }
  | _ => none }
def VisibleWrongFalsely : Prop := visibleRow.holds Try.pinned (OpenSpec.ofChange visibleWrong)

/-- 'facetlaw.Finds': WHATEVER THE INPUT: true; the input reads as it did. -/
def findsSpec : ChangeSpec := { name := "finds", fn := fun _ => fun
  | [d1, d2, d3] => { results := [.lit (.bool true)], args := [d1, d2, d3] }
  | _ => none }
def findsRow : OpenClaim := { program := "ytlicmfhgjonmnaa", sum := "af96f0386ea0a944fb5d91acde34b82232256a6047e89b41a1afbd29924d201b", func := "facet/facetlaw.Finds", spec := "finds", inPlace := ["math.Float64bits", "math.Float64frombits"], unfollowed := true, recurses := true, apart := false }
def FindsSaid : Prop := findsRow.holds Try.pinned (OpenSpec.ofChange findsSpec)

/-- ITS FALSE NEIGHBOUR: 'it returns false'. Refute it at one input. -/
def findsWrong : ChangeSpec := { name := "finds", fn := fun _ => fun
  | [d1, d2, d3] => { results := [.lit (.bool false)], args := [d1, d2, d3] }
  | _ => none }
def FindsWrongFalsely : Prop := findsRow.holds Try.pinned (OpenSpec.ofChange findsWrong)

/-- 'facetlaw.Covered': WHATEVER THE INPUT: true; the input reads as it did. -/
def coveredSpec : ChangeSpec := { name := "covered", fn := fun _ => fun
  | [d1, d2, d3] => { results := [.lit (.bool true)], args := [d1, d2, d3] }
  | _ => none }
def coveredRow : OpenClaim := { program := "ytlicmfhgjonmnaa", sum := "af96f0386ea0a944fb5d91acde34b82232256a6047e89b41a1afbd29924d201b", func := "facet/facetlaw.Covered", spec := "covered", inPlace := ["math.Float64bits", "math.Float64frombits"], unfollowed := true, recurses := true, apart := false }
def CoveredSaid : Prop := coveredRow.holds Try.pinned (OpenSpec.ofChange coveredSpec)

/-- ITS FALSE NEIGHBOUR: 'it returns false'. Refute it at one input. -/
def coveredWrong : ChangeSpec := { name := "covered", fn := fun _ => fun
  | [d1, d2, d3] => { results := [.lit (.bool false)], args := [d1, d2, d3] }
  | _ => none }
def CoveredWrongFalsely : Prop := coveredRow.holds Try.pinned (OpenSpec.ofChange coveredWrong)

/- THE SECOND FORM. 'bulk': how many values and letters a reading holds, each counted each time it is reached (what is shared counts as often as it is met; a slice's spare places count too). A statement '..UptoSaid' is the law's where the arguments, and the package variables that the reading takes, are together of bulk at most 1048576: NARROWER than '..Said'. Prove '..Said' where nothing that the law and all that it calls make is longer than what came in: it says more and counts as full. Else prove '..UptoSaid'. A law counts once. -/
mutual
def uptoBulk {H : Type} : DataW H → Nat
  | .lit (.string bytes) => bytes.length + 1
  | .lit _ => 1
  | .nil => 1
  | .ptr d => uptoBulk d + 1
  | .slice elems spare => uptoBulkAll elems + uptoBulkAll spare + 1
  | .agg parts => uptoBulkAll parts + 1
  | .iface _ d => uptoBulk d + 1
  | .map entries => uptoBulkEntries entries + 1
  | .held _ => 1
def uptoBulkAll {H : Type} : List (DataW H) → Nat
  | [] => 0
  | d :: r => uptoBulk d + uptoBulkAll r
def uptoBulkEntries {H : Type} : List (Lit × DataW H) → Nat
  | [] => 0
  | x :: r => uptoBulkEntry x + uptoBulkEntries r
def uptoBulkEntry {H : Type} : Lit × DataW H → Nat
  | (.string bytes, d) => bytes.length + uptoBulk d + 1
  | (_, d) => uptoBulk d + 1
 end
def uptoSmall : (H : Type) → List (DataW H) → Bool := fun _ ds => decide (uptoBulkAll ds ≤ 1048576)
def OpenSpec.upto (s : _root_.Go.ChangeSpec) : _root_.Go.OpenSpec := { _root_.Go.OpenSpec.ofChange s with cond := some uptoSmall }

/-- 'facetlaw.Checks', WHERE WHAT IT READS IS OF BULK AT MOST 1048576: true; the input reads as it did. -/
def checksUptoRow : OpenClaim := { program := "ytlicmfhgjonmnaa", sum := "af96f0386ea0a944fb5d91acde34b82232256a6047e89b41a1afbd29924d201b", func := "facet/facetlaw.Checks", spec := "checks", unfollowed := true, recurses := true, apart := false, narrowed := true }
def ChecksUptoSaid : Prop := checksUptoRow.holds Try.pinned (OpenSpec.upto checksSpec)

/-- 'facetlaw.Areas', WHERE WHAT IT READS IS OF BULK AT MOST 1048576: true; the input reads as it did. -/
def areasUptoRow : OpenClaim := { program := "ytlicmfhgjonmnaa", sum := "af96f0386ea0a944fb5d91acde34b82232256a6047e89b41a1afbd29924d201b", func := "facet/facetlaw.Areas", spec := "areas", unfollowed := true, recurses := true, apart := false, narrowed := true }
def AreasUptoSaid : Prop := areasUptoRow.holds Try.pinned (OpenSpec.upto areasSpec)

/-- 'facetlaw.Places', WHERE WHAT IT READS IS OF BULK AT MOST 1048576: true; the input reads as it did. -/
def placesUptoRow : OpenClaim := { program := "ytlicmfhgjonmnaa", sum := "af96f0386ea0a944fb5d91acde34b82232256a6047e89b41a1afbd29924d201b", func := "facet/facetlaw.Places", spec := "places", unfollowed := true, recurses := true, apart := false, narrowed := true }
def PlacesUptoSaid : Prop := placesUptoRow.holds Try.pinned (OpenSpec.upto placesSpec)

/-- 'facetlaw.Sums', WHERE WHAT IT READS IS OF BULK AT MOST 1048576: true; the input reads as it did. -/
def sumsUptoRow : OpenClaim := { program := "ytlicmfhgjonmnaa", sum := "af96f0386ea0a944fb5d91acde34b82232256a6047e89b41a1afbd29924d201b", func := "facet/facetlaw.Sums", spec := "sums", inPlace := ["math.Float64bits", "math.Float64frombits"], unfollowed := true, recurses := true, apart := false, narrowed := true }
def SumsUptoSaid : Prop := sumsUptoRow.holds Try.pinned (OpenSpec.upto sumsSpec)

/-- 'facetlaw.Visible', WHERE WHAT IT READS IS OF BULK AT MOST 1048576: true; the input reads as it did. -/
def visibleUptoRow : OpenClaim := { program := "ytlicmfhgjonmnaa", sum := "af96f0386ea0a944fb5d91acde34b82232256a6047e89b41a1afbd29924d201b", func := "facet/facetlaw.Visible", spec := "visible", inPlace := ["math.Float64bits", "math.Float64frombits"], unfollowed := true, recurses := true, apart := false, narrowed := true }
def VisibleUptoSaid : Prop := visibleUptoRow.holds Try.pinned (OpenSpec.upto visibleSpec)

/-- 'facetlaw.Finds', WHERE WHAT IT READS IS OF BULK AT MOST 1048576: true; the input reads as it did. -/
def findsUptoRow : OpenClaim := { program := "ytlicmfhgjonmnaa", sum := "af96f0386ea0a944fb5d91acde34b82232256a6047e89b41a1afbd29924d201b", func := "facet/facetlaw.Finds", spec := "finds", inPlace := ["math.Float64bits", "math.Float64frombits"], unfollowed := true, recurses := true, apart := false, narrowed := true }
def FindsUptoSaid : Prop := findsUptoRow.holds Try.pinned (OpenSpec.upto findsSpec)

/-- 'facetlaw.Covered', WHERE WHAT IT READS IS OF BULK AT MOST 1048576: true; the input reads as it did. -/
def coveredUptoRow : OpenClaim := { program := "ytlicmfhgjonmnaa", sum := "af96f0386ea0a944fb5d91acde34b82232256a6047e89b41a1afbd29924d201b", func := "facet/facetlaw.Covered", spec := "covered", inPlace := ["math.Float64bits", "math.Float64frombits"], unfollowed := true, recurses := true, apart := false, narrowed := true }
def CoveredUptoSaid : Prop := coveredUptoRow.holds Try.pinned (OpenSpec.upto coveredSpec)

end Rows
end Go.Proofs.Ytlicmfhgjonmnaa
