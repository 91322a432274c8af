/-
  DERIVED. GIVEN WITH THE SEED: THE CARDS: each row of YtpkbmmepapgogabGreatDoorRows.lean that lists a variable, with what it lists TIED to the program's text (the seventh form; the later family's looks); each row that meets fmt, with fmt's text TOLD by the authors' own Lean function (tested against real Go, not proved from fmt's source: count such statements apart). THE CARD IS WHAT COUNTS. Prove the row's statement (the work); the ties are given (YtpkbmmepapgogabGreatDoorTie.lean); close each card by the builder's one call (the guide's Derived/Test/ToyasCard.lean, 'card_holds'). Laid BY PROGRAM, IN A SANDBOX (cutbox-door.mjs). By AI agents, Wed Nov 11 2026. No macro, syntax, notation, axiom, sorry.
-/
import Derived.Test.YtpkbmmepapgogabGreatDoorRows
import GoSem.ClaimSeven
namespace Go.Proofs.YtpkbmmepapgogabGreatDoor
namespace Rows

/-- THE TIED CARD OF 'laws.FnStoreOk'. -/
def fnStoreOkCard : Claim7 := { stood := { row := fnStoreOkRow, standIns := [], harness := (true, "db3a6c576dae2cbdf1aa1092c6d2c3de64d77e5f00cfe3ff12907381a3ec0260"), looks := true }, kinds := [], alts := [], laidByText := true, laidKinds := [.data, .data, .data, .data, .sentinel, .sentinel, .pinned], laidTests := true, laidLooks := .later }
def FnStoreOkCardSaid : Prop := Claim7.holds Tryz.pinned (.plain (OpenSpec.ofChange fnStoreOkSpec)) fnStoreOkCard

/-- THE TIED CARD OF 'laws.FnStoreNew'. -/
def fnStoreNewCard : Claim7 := { stood := { row := fnStoreNewRow, standIns := [], harness := (true, "db3a6c576dae2cbdf1aa1092c6d2c3de64d77e5f00cfe3ff12907381a3ec0260"), looks := true }, kinds := [], alts := [], laidByText := true, laidKinds := [.data, .data, .data, .data, .sentinel, .sentinel, .data, .pinned], laidTests := true, laidLooks := .later }
def FnStoreNewCardSaid : Prop := Claim7.holds Tryz.pinned (.plain (OpenSpec.ofChange fnStoreNewSpec)) fnStoreNewCard

/-- THE TIED CARD OF 'laws.FnStoreSync'. -/
def fnStoreSyncCard : Claim7 := { stood := { row := fnStoreSyncRow, standIns := [], harness := (true, "db3a6c576dae2cbdf1aa1092c6d2c3de64d77e5f00cfe3ff12907381a3ec0260"), looks := true }, kinds := [], alts := [], laidByText := true, laidKinds := [.data, .data, .data, .data, .sentinel, .sentinel, .pinned], laidTests := true, laidLooks := .later }
def FnStoreSyncCardSaid : Prop := Claim7.holds Tryz.pinned (.plain (OpenSpec.ofChange fnStoreSyncSpec)) fnStoreSyncCard

/-- THE TIED CARD OF 'laws.FnStoreCrash'. -/
def fnStoreCrashCard : Claim7 := { stood := { row := fnStoreCrashRow, standIns := [], harness := (true, "db3a6c576dae2cbdf1aa1092c6d2c3de64d77e5f00cfe3ff12907381a3ec0260"), looks := true }, kinds := [], alts := [], laidByText := true, laidKinds := [.data, .data, .data, .data, .sentinel, .sentinel, .pinned], laidTests := true, laidLooks := .later }
def FnStoreCrashCardSaid : Prop := Claim7.holds Tryz.pinned (.plain (OpenSpec.ofChange fnStoreCrashSpec)) fnStoreCrashCard

/-- THE TIED CARD OF 'laws.FnStoreMend'. -/
def fnStoreMendCard : Claim7 := { stood := { row := fnStoreMendRow, standIns := [], harness := (true, "db3a6c576dae2cbdf1aa1092c6d2c3de64d77e5f00cfe3ff12907381a3ec0260"), looks := true }, kinds := [], alts := [], laidByText := true, laidKinds := [.data, .data, .data, .data, .sentinel, .sentinel, .data, .pinned], laidTests := true, laidLooks := .later }
def FnStoreMendCardSaid : Prop := Claim7.holds Tryz.pinned (.plain (OpenSpec.ofChange fnStoreMendSpec)) fnStoreMendCard

/-- THE TIED CARD OF 'laws.FnStoreNever'. -/
def fnStoreNeverCard : Claim7 := { stood := { row := fnStoreNeverRow, standIns := [], harness := (true, "db3a6c576dae2cbdf1aa1092c6d2c3de64d77e5f00cfe3ff12907381a3ec0260"), looks := true }, kinds := [], alts := [], laidByText := true, laidKinds := [.data, .data, .data, .data, .sentinel, .sentinel, .data, .pinned], laidTests := true, laidLooks := .later }
def FnStoreNeverCardSaid : Prop := Claim7.holds Tryz.pinned (.plain (OpenSpec.ofChange fnStoreNeverSpec)) fnStoreNeverCard

/-- THE SECOND FORM's CARD OF 'laws.FnStoreOk'. -/
def fnStoreOkUptoCard : Claim7 := { stood := { row := fnStoreOkUptoRow, standIns := [], harness := (true, "db3a6c576dae2cbdf1aa1092c6d2c3de64d77e5f00cfe3ff12907381a3ec0260"), looks := true }, kinds := [], alts := [], laidByText := true, laidKinds := [.data, .data, .data, .data, .sentinel, .sentinel, .pinned], laidTests := true, laidLooks := .later }
def FnStoreOkUptoCardSaid : Prop := Claim7.holds Tryz.pinned (.plain (OpenSpec.upto fnStoreOkSpec)) fnStoreOkUptoCard

/-- THE SECOND FORM's CARD OF 'laws.FnStoreNew'. -/
def fnStoreNewUptoCard : Claim7 := { stood := { row := fnStoreNewUptoRow, standIns := [], harness := (true, "db3a6c576dae2cbdf1aa1092c6d2c3de64d77e5f00cfe3ff12907381a3ec0260"), looks := true }, kinds := [], alts := [], laidByText := true, laidKinds := [.data, .data, .data, .data, .sentinel, .sentinel, .data, .pinned], laidTests := true, laidLooks := .later }
def FnStoreNewUptoCardSaid : Prop := Claim7.holds Tryz.pinned (.plain (OpenSpec.upto fnStoreNewSpec)) fnStoreNewUptoCard

/-- THE SECOND FORM's CARD OF 'laws.FnStoreSync'. -/
def fnStoreSyncUptoCard : Claim7 := { stood := { row := fnStoreSyncUptoRow, standIns := [], harness := (true, "db3a6c576dae2cbdf1aa1092c6d2c3de64d77e5f00cfe3ff12907381a3ec0260"), looks := true }, kinds := [], alts := [], laidByText := true, laidKinds := [.data, .data, .data, .data, .sentinel, .sentinel, .pinned], laidTests := true, laidLooks := .later }
def FnStoreSyncUptoCardSaid : Prop := Claim7.holds Tryz.pinned (.plain (OpenSpec.upto fnStoreSyncSpec)) fnStoreSyncUptoCard

/-- THE SECOND FORM's CARD OF 'laws.FnStoreCrash'. -/
def fnStoreCrashUptoCard : Claim7 := { stood := { row := fnStoreCrashUptoRow, standIns := [], harness := (true, "db3a6c576dae2cbdf1aa1092c6d2c3de64d77e5f00cfe3ff12907381a3ec0260"), looks := true }, kinds := [], alts := [], laidByText := true, laidKinds := [.data, .data, .data, .data, .sentinel, .sentinel, .pinned], laidTests := true, laidLooks := .later }
def FnStoreCrashUptoCardSaid : Prop := Claim7.holds Tryz.pinned (.plain (OpenSpec.upto fnStoreCrashSpec)) fnStoreCrashUptoCard

/-- THE SECOND FORM's CARD OF 'laws.FnStoreMend'. -/
def fnStoreMendUptoCard : Claim7 := { stood := { row := fnStoreMendUptoRow, standIns := [], harness := (true, "db3a6c576dae2cbdf1aa1092c6d2c3de64d77e5f00cfe3ff12907381a3ec0260"), looks := true }, kinds := [], alts := [], laidByText := true, laidKinds := [.data, .data, .data, .data, .sentinel, .sentinel, .data, .pinned], laidTests := true, laidLooks := .later }
def FnStoreMendUptoCardSaid : Prop := Claim7.holds Tryz.pinned (.plain (OpenSpec.upto fnStoreMendSpec)) fnStoreMendUptoCard

/-- THE SECOND FORM's CARD OF 'laws.FnStoreNever'. -/
def fnStoreNeverUptoCard : Claim7 := { stood := { row := fnStoreNeverUptoRow, standIns := [], harness := (true, "db3a6c576dae2cbdf1aa1092c6d2c3de64d77e5f00cfe3ff12907381a3ec0260"), looks := true }, kinds := [], alts := [], laidByText := true, laidKinds := [.data, .data, .data, .data, .sentinel, .sentinel, .data, .pinned], laidTests := true, laidLooks := .later }
def FnStoreNeverUptoCardSaid : Prop := Claim7.holds Tryz.pinned (.plain (OpenSpec.upto fnStoreNeverSpec)) fnStoreNeverUptoCard
end Rows
end Go.Proofs.YtpkbmmepapgogabGreatDoor
