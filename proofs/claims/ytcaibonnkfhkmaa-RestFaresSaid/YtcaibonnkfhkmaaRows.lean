/-
  No cell of these rows narrows 'for every input' (looked for: loops, veiled, ifaces, maps, wideKeys, modest, calm, conditions, laid).
  DERIVED. THE GIVEN ROWS OF THIS SEAT. 6 by the template 'for every input the law returns true; each argument reads behind the call as it read before'; 0 by the template 'total and deterministic' (their statements: YtcaibonnkfhkmaaTotals.lean).
  GIVEN WITH THE SEED: the statements are not yours to turn. If you find one false, say at which input.
  Laid BY PROGRAM, IN A SANDBOX (cutbox-rows.mjs): the forced cells as the released guide's own fill.sh prints them over the translation 75bdbe7fd4d81dfc… (all of the seat's roots in one cut). By AI agents, Wed Nov 11 2026. No macro, syntax, notation, axiom, sorry.
-/
import Derived.Test.YtcaibonnkfhkmaaChecked
import GoSem.Claim
import GoSem.ClaimJoined
import GoSem.ClaimMapViews
import Derived.JoinedTies
import Derived.KernelRfl
namespace Go.Proofs.Ytcaibonnkfhkmaa
/- THE CELL 'sum', in the pinned program and in every row, IS THE sha256 OF THE DUMP (.gsa) THAT YtcaibonnkfhkmaaProg.lean LOADS. Nothing in Lean hashes anything: it is a label: what it is worth is what the hold of that sum in a sandbox is worth. -/
noncomputable def Try.pinned : Pinned := { name := "ytcaibonnkfhkmaa", sum := "75bdbe7fd4d81dfc7325940c417558b14bfed7fd550a34a9c9e293fa16cf27fb", checked := Try.checked }
namespace Rows
def none {H : Type} : Left H := { results := [], args := [] }

/-- 'swinggatelaw.FareTells': WHATEVER THE INPUT: true; the input reads as it did. -/
def fareTellsSpec : ChangeSpec := { name := "fareTells", fn := fun _ => fun
  | [d1, d2, d3, d4, d5] => { results := [.lit (.bool true)], args := [d1, d2, d3, d4, d5] }
  | _ => none }
def fareTellsRow : OpenClaim := { program := "ytcaibonnkfhkmaa", sum := "75bdbe7fd4d81dfc7325940c417558b14bfed7fd550a34a9c9e293fa16cf27fb", func := "swinggate/swinggatelaw.FareTells", spec := "fareTells", unfollowed := true, recurses := true, apart := false }
def FareTellsSaid : Prop := fareTellsRow.holds Try.pinned (OpenSpec.ofChange fareTellsSpec)

/-- ITS FALSE NEIGHBOUR: 'it returns false'. Refute it at one input. -/
def fareTellsWrong : ChangeSpec := { name := "fareTells", fn := fun _ => fun
  | [d1, d2, d3, d4, d5] => { results := [.lit (.bool false)], args := [d1, d2, d3, d4, d5] }
  | _ => none }
def FareTellsWrongFalsely : Prop := fareTellsRow.holds Try.pinned (OpenSpec.ofChange fareTellsWrong)

/-- 'swinggatelaw.MendTells': WHATEVER THE INPUT: true; the input reads as it did. -/
def mendTellsSpec : ChangeSpec := { name := "mendTells", fn := fun _ => fun
  | [d] => { results := [.lit (.bool true)], args := [d] }
  | _ => none }
def mendTellsRow : OpenClaim := { program := "ytcaibonnkfhkmaa", sum := "75bdbe7fd4d81dfc7325940c417558b14bfed7fd550a34a9c9e293fa16cf27fb", func := "swinggate/swinggatelaw.MendTells", spec := "mendTells", unfollowed := true, recurses := true, apart := false }
def MendTellsSaid : Prop := mendTellsRow.holds Try.pinned (OpenSpec.ofChange mendTellsSpec)

/-- ITS FALSE NEIGHBOUR: 'it returns false'. Refute it at one input. -/
def mendTellsWrong : ChangeSpec := { name := "mendTells", fn := fun _ => fun
  | [d] => { results := [.lit (.bool false)], args := [d] }
  | _ => none }
def MendTellsWrongFalsely : Prop := mendTellsRow.holds Try.pinned (OpenSpec.ofChange mendTellsWrong)

/-- 'swinggatelaw.MendFair': WHATEVER THE INPUT: true; the input reads as it did. -/
def mendFairSpec : ChangeSpec := { name := "mendFair", fn := fun _ => fun
  | [d] => { results := [.lit (.bool true)], args := [d] }
  | _ => none }
def mendFairRow : OpenClaim := { program := "ytcaibonnkfhkmaa", sum := "75bdbe7fd4d81dfc7325940c417558b14bfed7fd550a34a9c9e293fa16cf27fb", func := "swinggate/swinggatelaw.MendFair", spec := "mendFair", unfollowed := true, recurses := true, apart := false }
def MendFairSaid : Prop := mendFairRow.holds Try.pinned (OpenSpec.ofChange mendFairSpec)

/-- ITS FALSE NEIGHBOUR: 'it returns false'. Refute it at one input. -/
def mendFairWrong : ChangeSpec := { name := "mendFair", fn := fun _ => fun
  | [d] => { results := [.lit (.bool false)], args := [d] }
  | _ => none }
def MendFairWrongFalsely : Prop := mendFairRow.holds Try.pinned (OpenSpec.ofChange mendFairWrong)

/-- 'swinggatelaw.MendGreatest': WHATEVER THE INPUT: true; the input reads as it did. -/
def mendGreatestSpec : ChangeSpec := { name := "mendGreatest", fn := fun _ => fun
  | [d1, d2] => { results := [.lit (.bool true)], args := [d1, d2] }
  | _ => none }
def mendGreatestRow : OpenClaim := { program := "ytcaibonnkfhkmaa", sum := "75bdbe7fd4d81dfc7325940c417558b14bfed7fd550a34a9c9e293fa16cf27fb", func := "swinggate/swinggatelaw.MendGreatest", spec := "mendGreatest", unfollowed := true, recurses := true, apart := false }
def MendGreatestSaid : Prop := mendGreatestRow.holds Try.pinned (OpenSpec.ofChange mendGreatestSpec)

/-- ITS FALSE NEIGHBOUR: 'it returns false'. Refute it at one input. -/
def mendGreatestWrong : ChangeSpec := { name := "mendGreatest", fn := fun _ => fun
  | [d1, d2] => { results := [.lit (.bool false)], args := [d1, d2] }
  | _ => none }
def MendGreatestWrongFalsely : Prop := mendGreatestRow.holds Try.pinned (OpenSpec.ofChange mendGreatestWrong)

/-- 'swinggatelaw.FareRises': WHATEVER THE INPUT: true; the input reads as it did. -/
def fareRisesSpec : ChangeSpec := { name := "fareRises", fn := fun _ => fun
  | [d1, d2, d3, d4, d5, d6, d7, d8] => { results := [.lit (.bool true)], args := [d1, d2, d3, d4, d5, d6, d7, d8] }
  | _ => none }
def fareRisesRow : OpenClaim := { program := "ytcaibonnkfhkmaa", sum := "75bdbe7fd4d81dfc7325940c417558b14bfed7fd550a34a9c9e293fa16cf27fb", func := "swinggate/swinggatelaw.FareRises", spec := "fareRises", unfollowed := true, recurses := true, apart := false }
def FareRisesSaid : Prop := fareRisesRow.holds Try.pinned (OpenSpec.ofChange fareRisesSpec)

/-- ITS FALSE NEIGHBOUR: 'it returns false'. Refute it at one input. -/
def fareRisesWrong : ChangeSpec := { name := "fareRises", fn := fun _ => fun
  | [d1, d2, d3, d4, d5, d6, d7, d8] => { results := [.lit (.bool false)], args := [d1, d2, d3, d4, d5, d6, d7, d8] }
  | _ => none }
def FareRisesWrongFalsely : Prop := fareRisesRow.holds Try.pinned (OpenSpec.ofChange fareRisesWrong)

/-- 'swinggatelaw.RestFares': WHATEVER THE INPUT: true; the input reads as it did. -/
def restFaresSpec : ChangeSpec := { name := "restFares", fn := fun _ => fun
  | [d] => { results := [.lit (.bool true)], args := [d] }
  | _ => none }
def restFaresRow : OpenClaim := { program := "ytcaibonnkfhkmaa", sum := "75bdbe7fd4d81dfc7325940c417558b14bfed7fd550a34a9c9e293fa16cf27fb", func := "swinggate/swinggatelaw.RestFares", spec := "restFares", unfollowed := true, recurses := true, apart := false }
def RestFaresSaid : Prop := restFaresRow.holds Try.pinned (OpenSpec.ofChange restFaresSpec)

/-- ITS FALSE NEIGHBOUR: 'it returns false'. Refute it at one input. -/
def restFaresWrong : ChangeSpec := { name := "restFares", fn := fun _ => fun
  | [d] => { results := [.lit (.bool false)], args := [d] }
  | _ => none }
def RestFaresWrongFalsely : Prop := restFaresRow.holds Try.pinned (OpenSpec.ofChange restFaresWrong)

/- THE SECOND FORM. 'bulk': how many values and letters a reading holds, each counted each time it is reached (what is shared counts as often as it is met; a slice's spare places count too). A statement '..UptoSaid' is the law's where the arguments, and the package variables that the reading takes, are together of bulk at most 1048576: NARROWER than '..Said'. Prove '..Said' where nothing that the law and all that it calls make is longer than what came in: it says more and counts as full. Else prove '..UptoSaid'. A law counts once. -/
mutual
def uptoBulk {H : Type} : DataW H → Nat
  | .lit (.string bytes) => bytes.length + 1
  | .lit _ => 1
  | .nil => 1
  | .ptr d => uptoBulk d + 1
  | .slice elems spare => uptoBulkAll elems + uptoBulkAll spare + 1
  | .agg parts => uptoBulkAll parts + 1
  | .iface _ d => uptoBulk d + 1
  | .map entries => uptoBulkEntries entries + 1
  | .held _ => 1
def uptoBulkAll {H : Type} : List (DataW H) → Nat
  | [] => 0
  | d :: r => uptoBulk d + uptoBulkAll r
def uptoBulkEntries {H : Type} : List (Lit × DataW H) → Nat
  | [] => 0
  | x :: r => uptoBulkEntry x + uptoBulkEntries r
def uptoBulkEntry {H : Type} : Lit × DataW H → Nat
  | (.string bytes, d) => bytes.length + uptoBulk d + 1
  | (_, d) => uptoBulk d + 1
 end
def uptoSmall : (H : Type) → List (DataW H) → Bool := fun _ ds => decide (uptoBulkAll ds ≤ 1048576)
def OpenSpec.upto (s : _root_.Go.ChangeSpec) : _root_.Go.OpenSpec := { _root_.Go.OpenSpec.ofChange s with cond := some uptoSmall }

/-- 'swinggatelaw.FareTells', WHERE WHAT IT READS IS OF BULK AT MOST 1048576: true; the input reads as it did. -/
def fareTellsUptoRow : OpenClaim := { program := "ytcaibonnkfhkmaa", sum := "75bdbe7fd4d81dfc7325940c417558b14bfed7fd550a34a9c9e293fa16cf27fb", func := "swinggate/swinggatelaw.FareTells", spec := "fareTells", unfollowed := true, recurses := true, apart := false, narrowed := true }
def FareTellsUptoSaid : Prop := fareTellsUptoRow.holds Try.pinned (OpenSpec.upto fareTellsSpec)

/-- 'swinggatelaw.MendTells', WHERE WHAT IT READS IS OF BULK AT MOST 1048576: true; the input reads as it did. -/
def mendTellsUptoRow : OpenClaim := { program := "ytcaibonnkfhkmaa", sum := "75bdbe7fd4d81dfc7325940c417558b14bfed7fd550a34a9c9e293fa16cf27fb", func := "swinggate/swinggatelaw.MendTells", spec := "mendTells", unfollowed := true, recurses := true, apart := false, narrowed := true }
def MendTellsUptoSaid : Prop := mendTellsUptoRow.holds Try.pinned (OpenSpec.upto mendTellsSpec)

/-- 'swinggatelaw.MendFair', WHERE WHAT IT READS IS OF BULK AT MOST 1048576: true; the input reads as it did. -/
def mendFairUptoRow : OpenClaim := { program := "ytcaibonnkfhkmaa", sum := "75bdbe7fd4d81dfc7325940c417558b14bfed7fd550a34a9c9e293fa16cf27fb", func := "swinggate/swinggatelaw.MendFair", spec := "mendFair", unfollowed := true, recurses := true, apart := false, narrowed := true }
def MendFairUptoSaid : Prop := mendFairUptoRow.holds Try.pinned (OpenSpec.upto mendFairSpec)

/-- 'swinggatelaw.MendGreatest', WHERE WHAT IT READS IS OF BULK AT MOST 1048576: true; the input reads as it did. -/
def mendGreatestUptoRow : OpenClaim := { program := "ytcaibonnkfhkmaa", sum := "75bdbe7fd4d81dfc7325940c417558b14bfed7fd550a34a9c9e293fa16cf27fb", func := "swinggate/swinggatelaw.MendGreatest", spec := "mendGreatest", unfollowed := true, recurses := true, apart := false, narrowed := true }
def MendGreatestUptoSaid : Prop := mendGreatestUptoRow.holds Try.pinned (OpenSpec.upto mendGreatestSpec)

/-- 'swinggatelaw.FareRises', WHERE WHAT IT READS IS OF BULK AT MOST 1048576: true; the input reads as it did. -/
def fareRisesUptoRow : OpenClaim := { program := "ytcaibonnkfhkmaa", sum := "75bdbe7fd4d81dfc7325940c417558b14bfed7fd550a34a9c9e293fa16cf27fb", func := "swinggate/swinggatelaw.FareRises", spec := "fareRises", unfollowed := true, recurses := true, apart := false, narrowed := true }
def FareRisesUptoSaid : Prop := fareRisesUptoRow.holds Try.pinned (OpenSpec.upto fareRisesSpec)

/-- 'swinggatelaw.RestFares', WHERE WHAT IT READS IS OF BULK AT MOST 1048576: true; the input reads as it did. -/
def restFaresUptoRow : OpenClaim := { program := "ytcaibonnkfhkmaa", sum := "75bdbe7fd4d81dfc7325940c417558b14bfed7fd550a34a9c9e293fa16cf27fb", func := "swinggate/swinggatelaw.RestFares", spec := "restFares", unfollowed := true, recurses := true, apart := false, narrowed := true }
def RestFaresUptoSaid : Prop := restFaresUptoRow.holds Try.pinned (OpenSpec.upto restFaresSpec)

end Rows
end Go.Proofs.Ytcaibonnkfhkmaa
