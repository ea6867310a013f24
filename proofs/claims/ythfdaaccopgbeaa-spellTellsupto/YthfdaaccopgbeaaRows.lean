/-
  No cell of these rows narrows 'for every input' (looked for: loops, veiled, ifaces, maps, wideKeys, modest, calm, conditions, laid).
  DERIVED. THE GIVEN ROWS OF THIS SEAT. 4 by the template 'for every input the law returns true; each argument reads behind the call as it read before'; 0 by the template 'total and deterministic' (their statements: YthfdaaccopgbeaaTotals.lean).
  GIVEN WITH THE SEED: the statements are not yours to turn. If you find one false, say at which input.
  Laid BY PROGRAM, IN A SANDBOX (cutbox-rows.mjs): the forced cells as the released guide's own fill.sh prints them over the translation ad0b3a7fab6c27b4… (all of the seat's roots in one cut). By AI agents, Wed Nov 11 2026. No macro, syntax, notation, axiom, sorry.
-/
import Derived.Test.YthfdaaccopgbeaaChecked
import GoSem.Claim
import GoSem.ClaimJoined
import GoSem.ClaimMapViews
import Derived.JoinedTies
import Derived.KernelRfl
namespace Go.Proofs.Ythfdaaccopgbeaa
/- THE CELL 'sum', in the pinned program and in every row, IS THE sha256 OF THE DUMP (.gsa) THAT YthfdaaccopgbeaaProg.lean LOADS. Nothing in Lean hashes anything: it is a label: what it is worth is what the hold of that sum in a sandbox is worth. -/
noncomputable def Try.pinned : Pinned := { name := "ythfdaaccopgbeaa", sum := "ad0b3a7fab6c27b40036991e5e065d5815da07c275f606d14046edfbe349d3dd", checked := Try.checked }
namespace Rows
def none {H : Type} : Left H := { results := [], args := [] }

/-- 'swinggatelaw.SpellTells': WHATEVER THE INPUT: true; the input reads as it did. -/
def spellTellsSpec : ChangeSpec := { name := "spellTells", fn := fun _ => fun
  | [d1, d2] => { results := [.lit (.bool true)], args := [d1, d2] }
  | _ => none }
def spellTellsRow : OpenClaim := { program := "ythfdaaccopgbeaa", sum := "ad0b3a7fab6c27b40036991e5e065d5815da07c275f606d14046edfbe349d3dd", func := "swinggate/swinggatelaw.SpellTells", spec := "spellTells", inPlace := ["internal/abi.NoEscape", "internal/bytealg.IndexByteString", "internal/bytealg.IndexString"], named := ["internal/bytealg.MaxLen"], apart := false }
def SpellTellsSaid : Prop := spellTellsRow.holds Try.pinned (OpenSpec.ofChange spellTellsSpec)

/-- ITS FALSE NEIGHBOUR: 'it returns false'. Refute it at one input. -/
def spellTellsWrong : ChangeSpec := { name := "spellTells", fn := fun _ => fun
  | [d1, d2] => { results := [.lit (.bool false)], args := [d1, d2] }
  | _ => none }
def SpellTellsWrongFalsely : Prop := spellTellsRow.holds Try.pinned (OpenSpec.ofChange spellTellsWrong)

/-- 'swinggatelaw.SpellBack': WHATEVER THE INPUT: true; the input reads as it did. -/
def spellBackSpec : ChangeSpec := { name := "spellBack", fn := fun _ => fun
  | [d] => { results := [.lit (.bool true)], args := [d] }
  | _ => none }
def spellBackRow : OpenClaim := { program := "ythfdaaccopgbeaa", sum := "ad0b3a7fab6c27b40036991e5e065d5815da07c275f606d14046edfbe349d3dd", func := "swinggate/swinggatelaw.SpellBack", spec := "spellBack", inPlace := ["internal/abi.NoEscape", "internal/bytealg.IndexByteString", "internal/bytealg.IndexString"], named := ["internal/bytealg.MaxLen"], apart := false }
def SpellBackSaid : Prop := spellBackRow.holds Try.pinned (OpenSpec.ofChange spellBackSpec)

/-- ITS FALSE NEIGHBOUR: 'it returns false'. Refute it at one input. -/
def spellBackWrong : ChangeSpec := { name := "spellBack", fn := fun _ => fun
  | [d] => { results := [.lit (.bool false)], args := [d] }
  | _ => none }
def SpellBackWrongFalsely : Prop := spellBackRow.holds Try.pinned (OpenSpec.ofChange spellBackWrong)

/-- 'swinggatelaw.SpellFair': WHATEVER THE INPUT: true; the input reads as it did. -/
def spellFairSpec : ChangeSpec := { name := "spellFair", fn := fun _ => fun
  | [d] => { results := [.lit (.bool true)], args := [d] }
  | _ => none }
def spellFairRow : OpenClaim := { program := "ythfdaaccopgbeaa", sum := "ad0b3a7fab6c27b40036991e5e065d5815da07c275f606d14046edfbe349d3dd", func := "swinggate/swinggatelaw.SpellFair", spec := "spellFair", inPlace := ["internal/bytealg.IndexByteString", "internal/bytealg.IndexString", "internal/abi.NoEscape"], named := ["internal/bytealg.MaxLen"], apart := false }
def SpellFairSaid : Prop := spellFairRow.holds Try.pinned (OpenSpec.ofChange spellFairSpec)

/-- ITS FALSE NEIGHBOUR: 'it returns false'. Refute it at one input. -/
def spellFairWrong : ChangeSpec := { name := "spellFair", fn := fun _ => fun
  | [d] => { results := [.lit (.bool false)], args := [d] }
  | _ => none }
def SpellFairWrongFalsely : Prop := spellFairRow.holds Try.pinned (OpenSpec.ofChange spellFairWrong)

/-- 'swinggatelaw.SpellLoose': WHATEVER THE INPUT: true; the input reads as it did. -/
def spellLooseSpec : ChangeSpec := { name := "spellLoose", fn := fun _ => fun
  | [d1, d2] => { results := [.lit (.bool true)], args := [d1, d2] }
  | _ => none }
def spellLooseRow : OpenClaim := { program := "ythfdaaccopgbeaa", sum := "ad0b3a7fab6c27b40036991e5e065d5815da07c275f606d14046edfbe349d3dd", func := "swinggate/swinggatelaw.SpellLoose", spec := "spellLoose", inPlace := ["internal/bytealg.IndexByteString", "internal/bytealg.IndexString", "internal/abi.NoEscape"], named := ["internal/bytealg.MaxLen"], apart := false }
def SpellLooseSaid : Prop := spellLooseRow.holds Try.pinned (OpenSpec.ofChange spellLooseSpec)

/-- ITS FALSE NEIGHBOUR: 'it returns false'. Refute it at one input. -/
def spellLooseWrong : ChangeSpec := { name := "spellLoose", fn := fun _ => fun
  | [d1, d2] => { results := [.lit (.bool false)], args := [d1, d2] }
  | _ => none }
def SpellLooseWrongFalsely : Prop := spellLooseRow.holds Try.pinned (OpenSpec.ofChange spellLooseWrong)

/- THE SECOND FORM. 'bulk': how many values and letters a reading holds, each counted each time it is reached (what is shared counts as often as it is met; a slice's spare places count too). A statement '..UptoSaid' is the law's where the arguments, and the package variables that the reading takes, are together of bulk at most 1048576: NARROWER than '..Said'. Prove '..Said' where nothing that the law and all that it calls make is longer than what came in: it says more and counts as full. Else prove '..UptoSaid'. A law counts once. -/
mutual
def uptoBulk {H : Type} : DataW H → Nat
  | .lit (.string bytes) => bytes.length + 1
  | .lit _ => 1
  | .nil => 1
  | .ptr d => uptoBulk d + 1
  | .slice elems spare => uptoBulkAll elems + uptoBulkAll spare + 1
  | .agg parts => uptoBulkAll parts + 1
  | .iface _ d => uptoBulk d + 1
  | .map entries => uptoBulkEntries entries + 1
  | .held _ => 1
def uptoBulkAll {H : Type} : List (DataW H) → Nat
  | [] => 0
  | d :: r => uptoBulk d + uptoBulkAll r
def uptoBulkEntries {H : Type} : List (Lit × DataW H) → Nat
  | [] => 0
  | x :: r => uptoBulkEntry x + uptoBulkEntries r
def uptoBulkEntry {H : Type} : Lit × DataW H → Nat
  | (.string bytes, d) => bytes.length + uptoBulk d + 1
  | (_, d) => uptoBulk d + 1
 end
def uptoSmall : (H : Type) → List (DataW H) → Bool := fun _ ds => decide (uptoBulkAll ds ≤ 1048576)
def OpenSpec.upto (s : _root_.Go.ChangeSpec) : _root_.Go.OpenSpec := { _root_.Go.OpenSpec.ofChange s with cond := some uptoSmall }

/-- 'swinggatelaw.SpellTells', WHERE WHAT IT READS IS OF BULK AT MOST 1048576: true; the input reads as it did. -/
def spellTellsUptoRow : OpenClaim := { program := "ythfdaaccopgbeaa", sum := "ad0b3a7fab6c27b40036991e5e065d5815da07c275f606d14046edfbe349d3dd", func := "swinggate/swinggatelaw.SpellTells", spec := "spellTells", inPlace := ["internal/abi.NoEscape", "internal/bytealg.IndexByteString", "internal/bytealg.IndexString"], named := ["internal/bytealg.MaxLen"], apart := false, narrowed := true }
def SpellTellsUptoSaid : Prop := spellTellsUptoRow.holds Try.pinned (OpenSpec.upto spellTellsSpec)

/-- 'swinggatelaw.SpellBack', WHERE WHAT IT READS IS OF BULK AT MOST 1048576: true; the input reads as it did. -/
def spellBackUptoRow : OpenClaim := { program := "ythfdaaccopgbeaa", sum := "ad0b3a7fab6c27b40036991e5e065d5815da07c275f606d14046edfbe349d3dd", func := "swinggate/swinggatelaw.SpellBack", spec := "spellBack", inPlace := ["internal/abi.NoEscape", "internal/bytealg.IndexByteString", "internal/bytealg.IndexString"], named := ["internal/bytealg.MaxLen"], apart := false, narrowed := true }
def SpellBackUptoSaid : Prop := spellBackUptoRow.holds Try.pinned (OpenSpec.upto spellBackSpec)

/-- 'swinggatelaw.SpellFair', WHERE WHAT IT READS IS OF BULK AT MOST 1048576: true; the input reads as it did. -/
def spellFairUptoRow : OpenClaim := { program := "ythfdaaccopgbeaa", sum := "ad0b3a7fab6c27b40036991e5e065d5815da07c275f606d14046edfbe349d3dd", func := "swinggate/swinggatelaw.SpellFair", spec := "spellFair", inPlace := ["internal/bytealg.IndexByteString", "internal/bytealg.IndexString", "internal/abi.NoEscape"], named := ["internal/bytealg.MaxLen"], apart := false, narrowed := true }
def SpellFairUptoSaid : Prop := spellFairUptoRow.holds Try.pinned (OpenSpec.upto spellFairSpec)

/-- 'swinggatelaw.SpellLoose', WHERE WHAT IT READS IS OF BULK AT MOST 1048576: true; the input reads as it did. -/
def spellLooseUptoRow : OpenClaim := { program := "ythfdaaccopgbeaa", sum := "ad0b3a7fab6c27b40036991e5e065d5815da07c275f606d14046edfbe349d3dd", func := "swinggate/swinggatelaw.SpellLoose", spec := "spellLoose", inPlace := ["internal/bytealg.IndexByteString", "internal/bytealg.IndexString", "internal/abi.NoEscape"], named := ["internal/bytealg.MaxLen"], apart := false, narrowed := true }
def SpellLooseUptoSaid : Prop := spellLooseUptoRow.holds Try.pinned (OpenSpec.upto spellLooseSpec)

end Rows
end Go.Proofs.Ythfdaaccopgbeaa
