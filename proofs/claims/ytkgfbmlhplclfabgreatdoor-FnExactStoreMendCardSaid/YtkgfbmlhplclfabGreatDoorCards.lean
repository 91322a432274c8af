/-
  DERIVED. GIVEN WITH THE SEED: THE CARDS: each row of YtkgfbmlhplclfabGreatDoorRows.lean that lists a variable, with what it lists TIED to the program's text (the seventh form; the later family's looks); each row that meets fmt, with fmt's text TOLD by the authors' own Lean function (tested against real Go, not proved from fmt's source: count such statements apart). THE CARD IS WHAT COUNTS. Prove the row's statement (the work); the ties are given (YtkgfbmlhplclfabGreatDoorTie.lean); close each card by the builder's one call (the guide's Derived/Test/ToyasCard.lean, 'card_holds'). Laid BY PROGRAM, IN A SANDBOX (cutbox-door.mjs). By AI agents, Wed Nov 11 2026. No macro, syntax, notation, axiom, sorry.
-/
import Derived.Test.YtkgfbmlhplclfabGreatDoorRows
import GoSem.ClaimSeven
namespace Go.Proofs.YtkgfbmlhplclfabGreatDoor
namespace Rows

/-- THE TIED CARD OF 'laws.FnExactStoreCrash'. -/
def fnExactStoreCrashCard : Claim7 := { stood := { row := fnExactStoreCrashRow, standIns := [], harness := (true, "d9d8d4734f580d2e6bc0223aaeeeb16de15bc7330916353668b5f6b9c0cae2e5"), looks := true }, kinds := [], alts := [], laidByText := true, laidKinds := [.data, .data, .data, .data, .sentinel, .sentinel, .pinned], laidTests := true, laidLooks := .later }
def FnExactStoreCrashCardSaid : Prop := Claim7.holds Tryz.pinned (.plain (OpenSpec.ofChange fnExactStoreCrashSpec)) fnExactStoreCrashCard

/-- THE TIED CARD OF 'laws.FnExactStoreMend'. -/
def fnExactStoreMendCard : Claim7 := { stood := { row := fnExactStoreMendRow, standIns := [], harness := (true, "d9d8d4734f580d2e6bc0223aaeeeb16de15bc7330916353668b5f6b9c0cae2e5"), looks := true }, kinds := [], alts := [], laidByText := true, laidKinds := [.data, .data, .data, .data, .sentinel, .sentinel, .data, .pinned], laidTests := true, laidLooks := .later }
def FnExactStoreMendCardSaid : Prop := Claim7.holds Tryz.pinned (.plain (OpenSpec.ofChange fnExactStoreMendSpec)) fnExactStoreMendCard

/-- THE TIED CARD OF 'laws.FnStoreOk'. -/
def fnStoreOkCard : Claim7 := { stood := { row := fnStoreOkRow, standIns := [], harness := (true, "d9d8d4734f580d2e6bc0223aaeeeb16de15bc7330916353668b5f6b9c0cae2e5"), looks := true }, kinds := [], alts := [], laidByText := true, laidKinds := [.data, .data, .data, .data, .sentinel, .sentinel, .pinned], laidTests := true, laidLooks := .later }
def FnStoreOkCardSaid : Prop := Claim7.holds Tryz.pinned (.plain (OpenSpec.ofChange fnStoreOkSpec)) fnStoreOkCard

/-- THE TIED CARD OF 'laws.FnStoreSync'. -/
def fnStoreSyncCard : Claim7 := { stood := { row := fnStoreSyncRow, standIns := [], harness := (true, "d9d8d4734f580d2e6bc0223aaeeeb16de15bc7330916353668b5f6b9c0cae2e5"), looks := true }, kinds := [], alts := [], laidByText := true, laidKinds := [.data, .data, .data, .data, .sentinel, .sentinel, .pinned], laidTests := true, laidLooks := .later }
def FnStoreSyncCardSaid : Prop := Claim7.holds Tryz.pinned (.plain (OpenSpec.ofChange fnStoreSyncSpec)) fnStoreSyncCard

/-- THE TIED CARD OF 'laws.FnStoreCrash'. -/
def fnStoreCrashCard : Claim7 := { stood := { row := fnStoreCrashRow, standIns := [], harness := (true, "d9d8d4734f580d2e6bc0223aaeeeb16de15bc7330916353668b5f6b9c0cae2e5"), looks := true }, kinds := [], alts := [], laidByText := true, laidKinds := [.data, .data, .data, .data, .sentinel, .sentinel, .pinned], laidTests := true, laidLooks := .later }
def FnStoreCrashCardSaid : Prop := Claim7.holds Tryz.pinned (.plain (OpenSpec.ofChange fnStoreCrashSpec)) fnStoreCrashCard

/-- THE TIED CARD OF 'laws.FnStoreNew'. -/
def fnStoreNewCard : Claim7 := { stood := { row := fnStoreNewRow, standIns := [], harness := (true, "d9d8d4734f580d2e6bc0223aaeeeb16de15bc7330916353668b5f6b9c0cae2e5"), looks := true }, kinds := [], alts := [], laidByText := true, laidKinds := [.data, .data, .data, .data, .sentinel, .sentinel, .data, .pinned], laidTests := true, laidLooks := .later }
def FnStoreNewCardSaid : Prop := Claim7.holds Tryz.pinned (.plain (OpenSpec.ofChange fnStoreNewSpec)) fnStoreNewCard

/-- THE SECOND FORM's CARD OF 'laws.FnExactStoreCrash'. -/
def fnExactStoreCrashUptoCard : Claim7 := { stood := { row := fnExactStoreCrashUptoRow, standIns := [], harness := (true, "d9d8d4734f580d2e6bc0223aaeeeb16de15bc7330916353668b5f6b9c0cae2e5"), looks := true }, kinds := [], alts := [], laidByText := true, laidKinds := [.data, .data, .data, .data, .sentinel, .sentinel, .pinned], laidTests := true, laidLooks := .later }
def FnExactStoreCrashUptoCardSaid : Prop := Claim7.holds Tryz.pinned (.plain (OpenSpec.upto fnExactStoreCrashSpec)) fnExactStoreCrashUptoCard

/-- THE SECOND FORM's CARD OF 'laws.FnExactStoreMend'. -/
def fnExactStoreMendUptoCard : Claim7 := { stood := { row := fnExactStoreMendUptoRow, standIns := [], harness := (true, "d9d8d4734f580d2e6bc0223aaeeeb16de15bc7330916353668b5f6b9c0cae2e5"), looks := true }, kinds := [], alts := [], laidByText := true, laidKinds := [.data, .data, .data, .data, .sentinel, .sentinel, .data, .pinned], laidTests := true, laidLooks := .later }
def FnExactStoreMendUptoCardSaid : Prop := Claim7.holds Tryz.pinned (.plain (OpenSpec.upto fnExactStoreMendSpec)) fnExactStoreMendUptoCard

/-- THE SECOND FORM's CARD OF 'laws.FnStoreOk'. -/
def fnStoreOkUptoCard : Claim7 := { stood := { row := fnStoreOkUptoRow, standIns := [], harness := (true, "d9d8d4734f580d2e6bc0223aaeeeb16de15bc7330916353668b5f6b9c0cae2e5"), looks := true }, kinds := [], alts := [], laidByText := true, laidKinds := [.data, .data, .data, .data, .sentinel, .sentinel, .pinned], laidTests := true, laidLooks := .later }
def FnStoreOkUptoCardSaid : Prop := Claim7.holds Tryz.pinned (.plain (OpenSpec.upto fnStoreOkSpec)) fnStoreOkUptoCard

/-- THE SECOND FORM's CARD OF 'laws.FnStoreSync'. -/
def fnStoreSyncUptoCard : Claim7 := { stood := { row := fnStoreSyncUptoRow, standIns := [], harness := (true, "d9d8d4734f580d2e6bc0223aaeeeb16de15bc7330916353668b5f6b9c0cae2e5"), looks := true }, kinds := [], alts := [], laidByText := true, laidKinds := [.data, .data, .data, .data, .sentinel, .sentinel, .pinned], laidTests := true, laidLooks := .later }
def FnStoreSyncUptoCardSaid : Prop := Claim7.holds Tryz.pinned (.plain (OpenSpec.upto fnStoreSyncSpec)) fnStoreSyncUptoCard

/-- THE SECOND FORM's CARD OF 'laws.FnStoreCrash'. -/
def fnStoreCrashUptoCard : Claim7 := { stood := { row := fnStoreCrashUptoRow, standIns := [], harness := (true, "d9d8d4734f580d2e6bc0223aaeeeb16de15bc7330916353668b5f6b9c0cae2e5"), looks := true }, kinds := [], alts := [], laidByText := true, laidKinds := [.data, .data, .data, .data, .sentinel, .sentinel, .pinned], laidTests := true, laidLooks := .later }
def FnStoreCrashUptoCardSaid : Prop := Claim7.holds Tryz.pinned (.plain (OpenSpec.upto fnStoreCrashSpec)) fnStoreCrashUptoCard

/-- THE SECOND FORM's CARD OF 'laws.FnStoreNew'. -/
def fnStoreNewUptoCard : Claim7 := { stood := { row := fnStoreNewUptoRow, standIns := [], harness := (true, "d9d8d4734f580d2e6bc0223aaeeeb16de15bc7330916353668b5f6b9c0cae2e5"), looks := true }, kinds := [], alts := [], laidByText := true, laidKinds := [.data, .data, .data, .data, .sentinel, .sentinel, .data, .pinned], laidTests := true, laidLooks := .later }
def FnStoreNewUptoCardSaid : Prop := Claim7.holds Tryz.pinned (.plain (OpenSpec.upto fnStoreNewSpec)) fnStoreNewUptoCard
end Rows
end Go.Proofs.YtkgfbmlhplclfabGreatDoor
