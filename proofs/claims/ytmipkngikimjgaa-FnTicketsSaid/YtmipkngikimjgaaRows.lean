/-
  No cell of these rows narrows 'for every input' (looked for: loops, veiled, ifaces, maps, wideKeys, modest, calm, conditions, laid).
  DERIVED. THE GIVEN ROWS OF THIS SEAT. 6 by the template 'for every input the law returns true; each argument reads behind the call as it read before'; 0 by the template 'total and deterministic' (their statements: YtmipkngikimjgaaTotals.lean).
  GIVEN WITH THE SEED: the statements are not yours to turn. If you find one false, say at which input.
  Laid BY PROGRAM, IN A SANDBOX (cutbox-rows.mjs): the forced cells as the released guide's own fill.sh prints them over the translation c4d5f9cdbda2ea2b… (all of the seat's roots in one cut). By AI agents, Wed Nov 11 2026. No macro, syntax, notation, axiom, sorry.
-/
import Derived.Test.YtmipkngikimjgaaChecked
import GoSem.Claim
import GoSem.ClaimJoined
import GoSem.ClaimMapViews
import Derived.JoinedTies
import Derived.KernelRfl
namespace Go.Proofs.Ytmipkngikimjgaa
/- THE CELL 'sum', in the pinned program and in every row, IS THE sha256 OF THE DUMP (.gsa) THAT YtmipkngikimjgaaProg.lean LOADS. Nothing in Lean hashes anything: it is a label: what it is worth is what the hold of that sum in a sandbox is worth. -/
noncomputable def Try.pinned : Pinned := { name := "ytmipkngikimjgaa", sum := "c4d5f9cdbda2ea2b0a3f2ef1d0f9186fb2188af85612d972a189772ed4581a8c", checked := Try.checked }
namespace Rows
def none {H : Type} : Left H := { results := [], args := [] }

/-- 'laws.FnTickets': WHATEVER THE INPUT: true; the input reads as it did. -/
def fnTicketsSpec : ChangeSpec := { name := "fnTickets", fn := fun _ => fun
  | [d] => { results := [.lit (.bool true)], args := [d] }
  | _ => none }
def fnTicketsRow : OpenClaim := { program := "ytmipkngikimjgaa", sum := "c4d5f9cdbda2ea2b0a3f2ef1d0f9186fb2188af85612d972a189772ed4581a8c", func := "loop.example/g00750/laws.FnTickets", spec := "fnTickets", unfollowed := true, recurses := true, apart := false }
def FnTicketsSaid : Prop := fnTicketsRow.holds Try.pinned (OpenSpec.ofChange fnTicketsSpec)

/-- ITS FALSE NEIGHBOUR: 'it returns false'. Refute it at one input. -/
def fnTicketsWrong : ChangeSpec := { name := "fnTickets", fn := fun _ => fun
  | [d] => { results := [.lit (.bool false)], args := [d] }
  | _ => none }
def FnTicketsWrongFalsely : Prop := fnTicketsRow.holds Try.pinned (OpenSpec.ofChange fnTicketsWrong)

/-- 'laws.FnExactTicketOk': WHATEVER THE INPUT: true; the input reads as it did. -/
def fnExactTicketOkSpec : ChangeSpec := { name := "fnExactTicketOk", fn := fun _ => fun
  | [d] => { results := [.lit (.bool true)], args := [d] }
  | _ => none }
def fnExactTicketOkRow : OpenClaim := { program := "ytmipkngikimjgaa", sum := "c4d5f9cdbda2ea2b0a3f2ef1d0f9186fb2188af85612d972a189772ed4581a8c", func := "loop.example/g00750/laws.FnExactTicketOk", spec := "fnExactTicketOk", unfollowed := true, recurses := true, apart := false }
def FnExactTicketOkSaid : Prop := fnExactTicketOkRow.holds Try.pinned (OpenSpec.ofChange fnExactTicketOkSpec)

/-- ITS FALSE NEIGHBOUR: 'it returns false'. Refute it at one input. -/
def fnExactTicketOkWrong : ChangeSpec := { name := "fnExactTicketOk", fn := fun _ => fun
  | [d] => { results := [.lit (.bool false)], args := [d] }
  | _ => none }
def FnExactTicketOkWrongFalsely : Prop := fnExactTicketOkRow.holds Try.pinned (OpenSpec.ofChange fnExactTicketOkWrong)

/-- 'laws.FnExactNumberOf': WHATEVER THE INPUT: true; the input reads as it did. -/
def fnExactNumberOfSpec : ChangeSpec := { name := "fnExactNumberOf", fn := fun _ => fun
  | [d] => { results := [.lit (.bool true)], args := [d] }
  | _ => none }
def fnExactNumberOfRow : OpenClaim := { program := "ytmipkngikimjgaa", sum := "c4d5f9cdbda2ea2b0a3f2ef1d0f9186fb2188af85612d972a189772ed4581a8c", func := "loop.example/g00750/laws.FnExactNumberOf", spec := "fnExactNumberOf", unfollowed := true, recurses := true, apart := false }
def FnExactNumberOfSaid : Prop := fnExactNumberOfRow.holds Try.pinned (OpenSpec.ofChange fnExactNumberOfSpec)

/-- ITS FALSE NEIGHBOUR: 'it returns false'. Refute it at one input. -/
def fnExactNumberOfWrong : ChangeSpec := { name := "fnExactNumberOf", fn := fun _ => fun
  | [d] => { results := [.lit (.bool false)], args := [d] }
  | _ => none }
def FnExactNumberOfWrongFalsely : Prop := fnExactNumberOfRow.holds Try.pinned (OpenSpec.ofChange fnExactNumberOfWrong)

/-- 'laws.FnExactTicketOf': WHATEVER THE INPUT: true; the input reads as it did. -/
def fnExactTicketOfSpec : ChangeSpec := { name := "fnExactTicketOf", fn := fun _ => fun
  | [d] => { results := [.lit (.bool true)], args := [d] }
  | _ => none }
def fnExactTicketOfRow : OpenClaim := { program := "ytmipkngikimjgaa", sum := "c4d5f9cdbda2ea2b0a3f2ef1d0f9186fb2188af85612d972a189772ed4581a8c", func := "loop.example/g00750/laws.FnExactTicketOf", spec := "fnExactTicketOf", unfollowed := true, recurses := true, apart := false }
def FnExactTicketOfSaid : Prop := fnExactTicketOfRow.holds Try.pinned (OpenSpec.ofChange fnExactTicketOfSpec)

/-- ITS FALSE NEIGHBOUR: 'it returns false'. Refute it at one input. -/
def fnExactTicketOfWrong : ChangeSpec := { name := "fnExactTicketOf", fn := fun _ => fun
  | [d] => { results := [.lit (.bool false)], args := [d] }
  | _ => none }
def FnExactTicketOfWrongFalsely : Prop := fnExactTicketOfRow.holds Try.pinned (OpenSpec.ofChange fnExactTicketOfWrong)

/-- 'laws.FnExactSameModel': WHATEVER THE INPUT: true; the input reads as it did. -/
def fnExactSameModelSpec : ChangeSpec := { name := "fnExactSameModel", fn := fun _ => fun
  | [d1, d2] => { results := [.lit (.bool true)], args := [d1, d2] }
  | _ => none }
def fnExactSameModelRow : OpenClaim := { program := "ytmipkngikimjgaa", sum := "c4d5f9cdbda2ea2b0a3f2ef1d0f9186fb2188af85612d972a189772ed4581a8c", func := "loop.example/g00750/laws.FnExactSameModel", spec := "fnExactSameModel", unfollowed := true, recurses := true, apart := false }
def FnExactSameModelSaid : Prop := fnExactSameModelRow.holds Try.pinned (OpenSpec.ofChange fnExactSameModelSpec)

/-- ITS FALSE NEIGHBOUR: 'it returns false'. Refute it at one input. -/
def fnExactSameModelWrong : ChangeSpec := { name := "fnExactSameModel", fn := fun _ => fun
  | [d1, d2] => { results := [.lit (.bool false)], args := [d1, d2] }
  | _ => none }
def FnExactSameModelWrongFalsely : Prop := fnExactSameModelRow.holds Try.pinned (OpenSpec.ofChange fnExactSameModelWrong)

/-- 'laws.FnExactHeardBy': WHATEVER THE INPUT: true; the input reads as it did. -/
def fnExactHeardBySpec : ChangeSpec := { name := "fnExactHeardBy", fn := fun _ => fun
  | [d1, d2, d3] => { results := [.lit (.bool true)], args := [d1, d2, d3] }
  | _ => none }
def fnExactHeardByRow : OpenClaim := { program := "ytmipkngikimjgaa", sum := "c4d5f9cdbda2ea2b0a3f2ef1d0f9186fb2188af85612d972a189772ed4581a8c", func := "loop.example/g00750/laws.FnExactHeardBy", spec := "fnExactHeardBy", apart := false }
def FnExactHeardBySaid : Prop := fnExactHeardByRow.holds Try.pinned (OpenSpec.ofChange fnExactHeardBySpec)

/-- ITS FALSE NEIGHBOUR: 'it returns false'. Refute it at one input. -/
def fnExactHeardByWrong : ChangeSpec := { name := "fnExactHeardBy", fn := fun _ => fun
  | [d1, d2, d3] => { results := [.lit (.bool false)], args := [d1, d2, d3] }
  | _ => none }
def FnExactHeardByWrongFalsely : Prop := fnExactHeardByRow.holds Try.pinned (OpenSpec.ofChange fnExactHeardByWrong)

/- THE SECOND FORM. 'bulk': how many values and letters a reading holds, each counted each time it is reached (what is shared counts as often as it is met; a slice's spare places count too). A statement '..UptoSaid' is the law's where the arguments, and the package variables that the reading takes, are together of bulk at most 1048576: NARROWER than '..Said'. Prove '..Said' where nothing that the law and all that it calls make is longer than what came in: it says more and counts as full. Else prove '..UptoSaid'. A law counts once. -/
mutual
def uptoBulk {H : Type} : DataW H → Nat
  | .lit (.string bytes) => bytes.length + 1
  | .lit _ => 1
  | .nil => 1
  | .ptr d => uptoBulk d + 1
  | .slice elems spare => uptoBulkAll elems + uptoBulkAll spare + 1
  | .agg parts => uptoBulkAll parts + 1
  | .iface _ d => uptoBulk d + 1
  | .map entries => uptoBulkEntries entries + 1
  | .held _ => 1
def uptoBulkAll {H : Type} : List (DataW H) → Nat
  | [] => 0
  | d :: r => uptoBulk d + uptoBulkAll r
def uptoBulkEntries {H : Type} : List (Lit × DataW H) → Nat
  | [] => 0
  | x :: r => uptoBulkEntry x + uptoBulkEntries r
def uptoBulkEntry {H : Type} : Lit × DataW H → Nat
  | (.string bytes, d) => bytes.length + uptoBulk d + 1
  | (_, d) => uptoBulk d + 1
 end
def uptoSmall : (H : Type) → List (DataW H) → Bool := fun _ ds => decide (uptoBulkAll ds ≤ 1048576)
def OpenSpec.upto (s : _root_.Go.ChangeSpec) : _root_.Go.OpenSpec := { _root_.Go.OpenSpec.ofChange s with cond := some uptoSmall }

/-- 'laws.FnTickets', WHERE WHAT IT READS IS OF BULK AT MOST 1048576: true; the input reads as it did. -/
def fnTicketsUptoRow : OpenClaim := { program := "ytmipkngikimjgaa", sum := "c4d5f9cdbda2ea2b0a3f2ef1d0f9186fb2188af85612d972a189772ed4581a8c", func := "loop.example/g00750/laws.FnTickets", spec := "fnTickets", unfollowed := true, recurses := true, apart := false, narrowed := true }
def FnTicketsUptoSaid : Prop := fnTicketsUptoRow.holds Try.pinned (OpenSpec.upto fnTicketsSpec)

/-- 'laws.FnExactTicketOk', WHERE WHAT IT READS IS OF BULK AT MOST 1048576: true; the input reads as it did. -/
def fnExactTicketOkUptoRow : OpenClaim := { program := "ytmipkngikimjgaa", sum := "c4d5f9cdbda2ea2b0a3f2ef1d0f9186fb2188af85612d972a189772ed4581a8c", func := "loop.example/g00750/laws.FnExactTicketOk", spec := "fnExactTicketOk", unfollowed := true, recurses := true, apart := false, narrowed := true }
def FnExactTicketOkUptoSaid : Prop := fnExactTicketOkUptoRow.holds Try.pinned (OpenSpec.upto fnExactTicketOkSpec)

/-- 'laws.FnExactNumberOf', WHERE WHAT IT READS IS OF BULK AT MOST 1048576: true; the input reads as it did. -/
def fnExactNumberOfUptoRow : OpenClaim := { program := "ytmipkngikimjgaa", sum := "c4d5f9cdbda2ea2b0a3f2ef1d0f9186fb2188af85612d972a189772ed4581a8c", func := "loop.example/g00750/laws.FnExactNumberOf", spec := "fnExactNumberOf", unfollowed := true, recurses := true, apart := false, narrowed := true }
def FnExactNumberOfUptoSaid : Prop := fnExactNumberOfUptoRow.holds Try.pinned (OpenSpec.upto fnExactNumberOfSpec)

/-- 'laws.FnExactTicketOf', WHERE WHAT IT READS IS OF BULK AT MOST 1048576: true; the input reads as it did. -/
def fnExactTicketOfUptoRow : OpenClaim := { program := "ytmipkngikimjgaa", sum := "c4d5f9cdbda2ea2b0a3f2ef1d0f9186fb2188af85612d972a189772ed4581a8c", func := "loop.example/g00750/laws.FnExactTicketOf", spec := "fnExactTicketOf", unfollowed := true, recurses := true, apart := false, narrowed := true }
def FnExactTicketOfUptoSaid : Prop := fnExactTicketOfUptoRow.holds Try.pinned (OpenSpec.upto fnExactTicketOfSpec)

/-- 'laws.FnExactSameModel', WHERE WHAT IT READS IS OF BULK AT MOST 1048576: true; the input reads as it did. -/
def fnExactSameModelUptoRow : OpenClaim := { program := "ytmipkngikimjgaa", sum := "c4d5f9cdbda2ea2b0a3f2ef1d0f9186fb2188af85612d972a189772ed4581a8c", func := "loop.example/g00750/laws.FnExactSameModel", spec := "fnExactSameModel", unfollowed := true, recurses := true, apart := false, narrowed := true }
def FnExactSameModelUptoSaid : Prop := fnExactSameModelUptoRow.holds Try.pinned (OpenSpec.upto fnExactSameModelSpec)

/-- 'laws.FnExactHeardBy', WHERE WHAT IT READS IS OF BULK AT MOST 1048576: true; the input reads as it did. -/
def fnExactHeardByUptoRow : OpenClaim := { program := "ytmipkngikimjgaa", sum := "c4d5f9cdbda2ea2b0a3f2ef1d0f9186fb2188af85612d972a189772ed4581a8c", func := "loop.example/g00750/laws.FnExactHeardBy", spec := "fnExactHeardBy", apart := false, narrowed := true }
def FnExactHeardByUptoSaid : Prop := fnExactHeardByUptoRow.holds Try.pinned (OpenSpec.upto fnExactHeardBySpec)

end Rows
end Go.Proofs.Ytmipkngikimjgaa
