/-
  DERIVED. GIVEN WITH THE SEED: THE CARDS: each row of YtkofpijhihghpaaDoorRows.lean that lists a variable, with what it lists TIED to the program's text (the seventh form; the later family's looks); each row that meets fmt, with fmt's text TOLD by the authors' own Lean function (tested against real Go, not proved from fmt's source: count such statements apart). THE CARD IS WHAT COUNTS. Prove the row's statement (the work); the ties are given (YtkofpijhihghpaaDoorTie.lean); close each card by the builder's one call (the guide's Derived/Test/ToyasCard.lean, 'card_holds'). Laid BY PROGRAM, IN A SANDBOX (cutbox-door.mjs). By AI agents, Wed Nov 11 2026. No macro, syntax, notation, axiom, sorry.
-/
import Derived.Test.YtkofpijhihghpaaDoorRows
import GoSem.ClaimSeven
namespace Go.Proofs.YtkofpijhihghpaaDoor
namespace Rows

/-- THE TIED CARD OF 'crossroadslaw07.PlistRule'. -/
def plistRuleCard : Claim7 := { stood := { row := plistRuleRow, standIns := [], harness := (true, "2ac1cdb368167e3a984ac2fe09a2cd9447aee5d5e68268cbf786d56638037e23"), looks := false }, kinds := [], alts := [], laidByText := true, laidKinds := [.data, .data, .data, .data, .pinned], laidTests := true, laidLooks := .later }
def PlistRuleCardSaid : Prop := Claim7.holds Tryd.pinned (.plain (OpenSpec.ofChange plistRuleSpec)) plistRuleCard

/-- THE TIED CARD OF 'crossroadslaw07.PlistParse'. -/
def plistParseCard : Claim7 := { stood := { row := plistParseRow, standIns := [], harness := (true, "2ac1cdb368167e3a984ac2fe09a2cd9447aee5d5e68268cbf786d56638037e23"), looks := false }, kinds := [], alts := [], laidByText := true, laidKinds := [.data, .data, .data, .data, .pinned], laidTests := true, laidLooks := .later }
def PlistParseCardSaid : Prop := Claim7.holds Tryd.pinned (.plain (OpenSpec.ofChange plistParseSpec)) plistParseCard

/-- THE TIED CARD OF 'crossroadslaw07.PlistLists'. -/
def plistListsCard : Claim7 := { stood := { row := plistListsRow, standIns := [], harness := (true, "2ac1cdb368167e3a984ac2fe09a2cd9447aee5d5e68268cbf786d56638037e23"), looks := false }, kinds := [], alts := [], laidByText := true, laidKinds := [.data, .data, .data, .data, .pinned], laidTests := true, laidLooks := .later }
def PlistListsCardSaid : Prop := Claim7.holds Tryd.pinned (.plain (OpenSpec.ofChange plistListsSpec)) plistListsCard

/-- THE TIED CARD OF 'crossroadslaw07.PlistIdle'. -/
def plistIdleCard : Claim7 := { stood := { row := plistIdleRow, standIns := [], harness := (true, "2ac1cdb368167e3a984ac2fe09a2cd9447aee5d5e68268cbf786d56638037e23"), looks := false }, kinds := [], alts := [], laidByText := true, laidKinds := [.data, .data, .data, .data, .pinned], laidTests := true, laidLooks := .later }
def PlistIdleCardSaid : Prop := Claim7.holds Tryd.pinned (.plain (OpenSpec.ofChange plistIdleSpec)) plistIdleCard

/-- THE TIED CARD OF 'crossroadslaw07.PlistBack'. -/
def plistBackCard : Claim7 := { stood := { row := plistBackRow, standIns := [], harness := (true, "2ac1cdb368167e3a984ac2fe09a2cd9447aee5d5e68268cbf786d56638037e23"), looks := false }, kinds := [], alts := [], laidByText := true, laidKinds := [.data, .data, .data, .data, .pinned], laidTests := true, laidLooks := .later }
def PlistBackCardSaid : Prop := Claim7.holds Tryd.pinned (.plain (OpenSpec.ofChange plistBackSpec)) plistBackCard

/-- THE SECOND FORM's CARD OF 'crossroadslaw07.PlistRule'. -/
def plistRuleUptoCard : Claim7 := { stood := { row := plistRuleUptoRow, standIns := [], harness := (true, "2ac1cdb368167e3a984ac2fe09a2cd9447aee5d5e68268cbf786d56638037e23"), looks := false }, kinds := [], alts := [], laidByText := true, laidKinds := [.data, .data, .data, .data, .pinned], laidTests := true, laidLooks := .later }
def PlistRuleUptoCardSaid : Prop := Claim7.holds Tryd.pinned (.plain (OpenSpec.upto plistRuleSpec)) plistRuleUptoCard

/-- THE SECOND FORM's CARD OF 'crossroadslaw07.PlistParse'. -/
def plistParseUptoCard : Claim7 := { stood := { row := plistParseUptoRow, standIns := [], harness := (true, "2ac1cdb368167e3a984ac2fe09a2cd9447aee5d5e68268cbf786d56638037e23"), looks := false }, kinds := [], alts := [], laidByText := true, laidKinds := [.data, .data, .data, .data, .pinned], laidTests := true, laidLooks := .later }
def PlistParseUptoCardSaid : Prop := Claim7.holds Tryd.pinned (.plain (OpenSpec.upto plistParseSpec)) plistParseUptoCard

/-- THE SECOND FORM's CARD OF 'crossroadslaw07.PlistLists'. -/
def plistListsUptoCard : Claim7 := { stood := { row := plistListsUptoRow, standIns := [], harness := (true, "2ac1cdb368167e3a984ac2fe09a2cd9447aee5d5e68268cbf786d56638037e23"), looks := false }, kinds := [], alts := [], laidByText := true, laidKinds := [.data, .data, .data, .data, .pinned], laidTests := true, laidLooks := .later }
def PlistListsUptoCardSaid : Prop := Claim7.holds Tryd.pinned (.plain (OpenSpec.upto plistListsSpec)) plistListsUptoCard

/-- THE SECOND FORM's CARD OF 'crossroadslaw07.PlistIdle'. -/
def plistIdleUptoCard : Claim7 := { stood := { row := plistIdleUptoRow, standIns := [], harness := (true, "2ac1cdb368167e3a984ac2fe09a2cd9447aee5d5e68268cbf786d56638037e23"), looks := false }, kinds := [], alts := [], laidByText := true, laidKinds := [.data, .data, .data, .data, .pinned], laidTests := true, laidLooks := .later }
def PlistIdleUptoCardSaid : Prop := Claim7.holds Tryd.pinned (.plain (OpenSpec.upto plistIdleSpec)) plistIdleUptoCard

/-- THE SECOND FORM's CARD OF 'crossroadslaw07.PlistBack'. -/
def plistBackUptoCard : Claim7 := { stood := { row := plistBackUptoRow, standIns := [], harness := (true, "2ac1cdb368167e3a984ac2fe09a2cd9447aee5d5e68268cbf786d56638037e23"), looks := false }, kinds := [], alts := [], laidByText := true, laidKinds := [.data, .data, .data, .data, .pinned], laidTests := true, laidLooks := .later }
def PlistBackUptoCardSaid : Prop := Claim7.holds Tryd.pinned (.plain (OpenSpec.upto plistBackSpec)) plistBackUptoCard
end Rows
end Go.Proofs.YtkofpijhihghpaaDoor
