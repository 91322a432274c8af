/-
  DERIVED. GIVEN WITH THE SEED: THE CARDS: each row of YtpkbmmepapgogaaGreatDoorRows.lean that lists a variable, with what it lists TIED to the program's text (the seventh form; the later family's looks); each row that meets fmt, with fmt's text TOLD by the authors' own Lean function (tested against real Go, not proved from fmt's source: count such statements apart). THE CARD IS WHAT COUNTS. Prove the row's statement (the work); the ties are given (YtpkbmmepapgogaaGreatDoorTie.lean); close each card by the builder's one call (the guide's Derived/Test/ToyasCard.lean, 'card_holds'). Laid BY PROGRAM, IN A SANDBOX (cutbox-door.mjs). By AI agents, Wed Nov 11 2026. No macro, syntax, notation, axiom, sorry.
-/
import Derived.Test.YtpkbmmepapgogaaGreatDoorRows
import GoSem.ClaimSeven
namespace Go.Proofs.YtpkbmmepapgogaaGreatDoor
namespace Rows

/-- THE TIED CARD OF 'laws.FnExactStoreOpen'. -/
def fnExactStoreOpenCard : Claim7 := { stood := { row := fnExactStoreOpenRow, standIns := [], harness := (true, "43d015582a147e14882d93948e2e094d7c07230da32d1de99e71296b0f24384d"), looks := true }, kinds := [], alts := [], laidByText := true, laidKinds := [.data, .data, .data, .data, .sentinel, .sentinel, .data, .pinned], laidTests := true, laidLooks := .later }
def FnExactStoreOpenCardSaid : Prop := Claim7.holds Tryz.pinned (.plain (OpenSpec.ofChange fnExactStoreOpenSpec)) fnExactStoreOpenCard

/-- THE TIED CARD OF 'laws.FnExactStoreAct'. -/
def fnExactStoreActCard : Claim7 := { stood := { row := fnExactStoreActRow, standIns := [], harness := (true, "43d015582a147e14882d93948e2e094d7c07230da32d1de99e71296b0f24384d"), looks := true }, kinds := [], alts := [], laidByText := true, laidKinds := [.data, .data, .data, .data, .sentinel, .sentinel, .data, .pinned], laidTests := true, laidLooks := .later }
def FnExactStoreActCardSaid : Prop := Claim7.holds Tryz.pinned (.plain (OpenSpec.ofChange fnExactStoreActSpec)) fnExactStoreActCard

/-- THE TIED CARD OF 'laws.FnExactStoreSave'. -/
def fnExactStoreSaveCard : Claim7 := { stood := { row := fnExactStoreSaveRow, standIns := [], harness := (true, "43d015582a147e14882d93948e2e094d7c07230da32d1de99e71296b0f24384d"), looks := true }, kinds := [], alts := [], laidByText := true, laidKinds := [.data, .data, .data, .data, .sentinel, .sentinel, .data, .pinned], laidTests := true, laidLooks := .later }
def FnExactStoreSaveCardSaid : Prop := Claim7.holds Tryz.pinned (.plain (OpenSpec.ofChange fnExactStoreSaveSpec)) fnExactStoreSaveCard

/-- THE TIED CARD OF 'laws.FnStoreOpen'. -/
def fnStoreOpenCard : Claim7 := { stood := { row := fnStoreOpenRow, standIns := [], harness := (true, "43d015582a147e14882d93948e2e094d7c07230da32d1de99e71296b0f24384d"), looks := true }, kinds := [], alts := [], laidByText := true, laidKinds := [.data, .data, .data, .data, .sentinel, .sentinel, .data, .pinned], laidTests := true, laidLooks := .later }
def FnStoreOpenCardSaid : Prop := Claim7.holds Tryz.pinned (.plain (OpenSpec.ofChange fnStoreOpenSpec)) fnStoreOpenCard

/-- THE TIED CARD OF 'laws.FnStoreSave'. -/
def fnStoreSaveCard : Claim7 := { stood := { row := fnStoreSaveRow, standIns := [], harness := (true, "43d015582a147e14882d93948e2e094d7c07230da32d1de99e71296b0f24384d"), looks := true }, kinds := [], alts := [], laidByText := true, laidKinds := [.data, .data, .data, .data, .sentinel, .sentinel, .data, .pinned], laidTests := true, laidLooks := .later }
def FnStoreSaveCardSaid : Prop := Claim7.holds Tryz.pinned (.plain (OpenSpec.ofChange fnStoreSaveSpec)) fnStoreSaveCard

/-- THE TIED CARD OF 'laws.FnStoreAct'. -/
def fnStoreActCard : Claim7 := { stood := { row := fnStoreActRow, standIns := [], harness := (true, "43d015582a147e14882d93948e2e094d7c07230da32d1de99e71296b0f24384d"), looks := true }, kinds := [], alts := [], laidByText := true, laidKinds := [.data, .data, .data, .data, .sentinel, .sentinel, .data, .pinned], laidTests := true, laidLooks := .later }
def FnStoreActCardSaid : Prop := Claim7.holds Tryz.pinned (.plain (OpenSpec.ofChange fnStoreActSpec)) fnStoreActCard

/-- THE SECOND FORM's CARD OF 'laws.FnExactStoreOpen'. -/
def fnExactStoreOpenUptoCard : Claim7 := { stood := { row := fnExactStoreOpenUptoRow, standIns := [], harness := (true, "43d015582a147e14882d93948e2e094d7c07230da32d1de99e71296b0f24384d"), looks := true }, kinds := [], alts := [], laidByText := true, laidKinds := [.data, .data, .data, .data, .sentinel, .sentinel, .data, .pinned], laidTests := true, laidLooks := .later }
def FnExactStoreOpenUptoCardSaid : Prop := Claim7.holds Tryz.pinned (.plain (OpenSpec.upto fnExactStoreOpenSpec)) fnExactStoreOpenUptoCard

/-- THE SECOND FORM's CARD OF 'laws.FnExactStoreAct'. -/
def fnExactStoreActUptoCard : Claim7 := { stood := { row := fnExactStoreActUptoRow, standIns := [], harness := (true, "43d015582a147e14882d93948e2e094d7c07230da32d1de99e71296b0f24384d"), looks := true }, kinds := [], alts := [], laidByText := true, laidKinds := [.data, .data, .data, .data, .sentinel, .sentinel, .data, .pinned], laidTests := true, laidLooks := .later }
def FnExactStoreActUptoCardSaid : Prop := Claim7.holds Tryz.pinned (.plain (OpenSpec.upto fnExactStoreActSpec)) fnExactStoreActUptoCard

/-- THE SECOND FORM's CARD OF 'laws.FnExactStoreSave'. -/
def fnExactStoreSaveUptoCard : Claim7 := { stood := { row := fnExactStoreSaveUptoRow, standIns := [], harness := (true, "43d015582a147e14882d93948e2e094d7c07230da32d1de99e71296b0f24384d"), looks := true }, kinds := [], alts := [], laidByText := true, laidKinds := [.data, .data, .data, .data, .sentinel, .sentinel, .data, .pinned], laidTests := true, laidLooks := .later }
def FnExactStoreSaveUptoCardSaid : Prop := Claim7.holds Tryz.pinned (.plain (OpenSpec.upto fnExactStoreSaveSpec)) fnExactStoreSaveUptoCard

/-- THE SECOND FORM's CARD OF 'laws.FnStoreOpen'. -/
def fnStoreOpenUptoCard : Claim7 := { stood := { row := fnStoreOpenUptoRow, standIns := [], harness := (true, "43d015582a147e14882d93948e2e094d7c07230da32d1de99e71296b0f24384d"), looks := true }, kinds := [], alts := [], laidByText := true, laidKinds := [.data, .data, .data, .data, .sentinel, .sentinel, .data, .pinned], laidTests := true, laidLooks := .later }
def FnStoreOpenUptoCardSaid : Prop := Claim7.holds Tryz.pinned (.plain (OpenSpec.upto fnStoreOpenSpec)) fnStoreOpenUptoCard

/-- THE SECOND FORM's CARD OF 'laws.FnStoreSave'. -/
def fnStoreSaveUptoCard : Claim7 := { stood := { row := fnStoreSaveUptoRow, standIns := [], harness := (true, "43d015582a147e14882d93948e2e094d7c07230da32d1de99e71296b0f24384d"), looks := true }, kinds := [], alts := [], laidByText := true, laidKinds := [.data, .data, .data, .data, .sentinel, .sentinel, .data, .pinned], laidTests := true, laidLooks := .later }
def FnStoreSaveUptoCardSaid : Prop := Claim7.holds Tryz.pinned (.plain (OpenSpec.upto fnStoreSaveSpec)) fnStoreSaveUptoCard

/-- THE SECOND FORM's CARD OF 'laws.FnStoreAct'. -/
def fnStoreActUptoCard : Claim7 := { stood := { row := fnStoreActUptoRow, standIns := [], harness := (true, "43d015582a147e14882d93948e2e094d7c07230da32d1de99e71296b0f24384d"), looks := true }, kinds := [], alts := [], laidByText := true, laidKinds := [.data, .data, .data, .data, .sentinel, .sentinel, .data, .pinned], laidTests := true, laidLooks := .later }
def FnStoreActUptoCardSaid : Prop := Claim7.holds Tryz.pinned (.plain (OpenSpec.upto fnStoreActSpec)) fnStoreActUptoCard
end Rows
end Go.Proofs.YtpkbmmepapgogaaGreatDoor
