/-
  DERIVED. GIVEN WITH THE SEED: THE CARDS: each row of YtcoieohbmkjpoaaGreatDoorRows.lean that lists a variable, with what it lists TIED to the program's text (the seventh form; the later family's looks); each row that meets fmt, with fmt's text TOLD by the authors' own Lean function (tested against real Go, not proved from fmt's source: count such statements apart). THE CARD IS WHAT COUNTS. Prove the row's statement (the work); the ties are given (YtcoieohbmkjpoaaGreatDoorTie.lean); close each card by the builder's one call (the guide's Derived/Test/ToyasCard.lean, 'card_holds'). Laid BY PROGRAM, IN A SANDBOX (cutbox-door.mjs). By AI agents, Wed Nov 11 2026. No macro, syntax, notation, axiom, sorry.
-/
import Derived.Test.YtcoieohbmkjpoaaGreatDoorRows
import GoSem.ClaimSeven
namespace Go.Proofs.YtcoieohbmkjpoaaGreatDoor
namespace Rows

/-- THE TIED CARD OF 'ostlerlaw11.StoreAtoms'. -/
def storeAtomsCard : Claim7 := { stood := { row := storeAtomsRow, standIns := [], harness := (true, "44958d95d09d2f97584463d1bd1471a08ec90a840bd42ce73871d54105828de9"), looks := false }, kinds := [], alts := [], laidByText := true, laidKinds := [.data, .data, .data, .data, .pinned], laidTests := true, laidLooks := .later }
def StoreAtomsCardSaid : Prop := Claim7.holds Tryz.pinned (.plain (OpenSpec.ofChange storeAtomsSpec)) storeAtomsCard

/-- THE TIED CARD OF 'ostlerlaw11.StoreKeeps'. -/
def storeKeepsCard : Claim7 := { stood := { row := storeKeepsRow, standIns := [], harness := (true, "44958d95d09d2f97584463d1bd1471a08ec90a840bd42ce73871d54105828de9"), looks := false }, kinds := [], alts := [], laidByText := true, laidKinds := [.data, .data, .data, .data, .pinned], laidTests := true, laidLooks := .later }
def StoreKeepsCardSaid : Prop := Claim7.holds Tryz.pinned (.plain (OpenSpec.ofChange storeKeepsSpec)) storeKeepsCard

/-- THE TIED CARD OF 'ostlerlaw11.StoreSorts'. -/
def storeSortsCard : Claim7 := { stood := { row := storeSortsRow, standIns := [], harness := (true, "44958d95d09d2f97584463d1bd1471a08ec90a840bd42ce73871d54105828de9"), looks := false }, kinds := [], alts := [], laidByText := true, laidKinds := [.data, .data, .data, .data, .pinned], laidTests := true, laidLooks := .later }
def StoreSortsCardSaid : Prop := Claim7.holds Tryz.pinned (.plain (OpenSpec.ofChange storeSortsSpec)) storeSortsCard

/-- THE TIED CARD OF 'ostlerlaw11.StoreCopies'. -/
def storeCopiesCard : Claim7 := { stood := { row := storeCopiesRow, standIns := [], harness := (true, "44958d95d09d2f97584463d1bd1471a08ec90a840bd42ce73871d54105828de9"), looks := false }, kinds := [], alts := [], laidByText := true, laidKinds := [.data, .data, .data, .data, .pinned], laidTests := true, laidLooks := .later }
def StoreCopiesCardSaid : Prop := Claim7.holds Tryz.pinned (.plain (OpenSpec.ofChange storeCopiesSpec)) storeCopiesCard

/-- THE TIED CARD OF 'ostlerlaw11.StoreNone'. -/
def storeNoneCard : Claim7 := { stood := { row := storeNoneRow, standIns := [], harness := (true, "44958d95d09d2f97584463d1bd1471a08ec90a840bd42ce73871d54105828de9"), looks := false }, kinds := [], alts := [], laidByText := true, laidKinds := [.data, .data, .data, .data, .pinned], laidTests := true, laidLooks := .later }
def StoreNoneCardSaid : Prop := Claim7.holds Tryz.pinned (.plain (OpenSpec.ofChange storeNoneSpec)) storeNoneCard

/-- THE SECOND FORM's CARD OF 'ostlerlaw11.StoreAtoms'. -/
def storeAtomsUptoCard : Claim7 := { stood := { row := storeAtomsUptoRow, standIns := [], harness := (true, "44958d95d09d2f97584463d1bd1471a08ec90a840bd42ce73871d54105828de9"), looks := false }, kinds := [], alts := [], laidByText := true, laidKinds := [.data, .data, .data, .data, .pinned], laidTests := true, laidLooks := .later }
def StoreAtomsUptoCardSaid : Prop := Claim7.holds Tryz.pinned (.plain (OpenSpec.upto storeAtomsSpec)) storeAtomsUptoCard

/-- THE SECOND FORM's CARD OF 'ostlerlaw11.StoreKeeps'. -/
def storeKeepsUptoCard : Claim7 := { stood := { row := storeKeepsUptoRow, standIns := [], harness := (true, "44958d95d09d2f97584463d1bd1471a08ec90a840bd42ce73871d54105828de9"), looks := false }, kinds := [], alts := [], laidByText := true, laidKinds := [.data, .data, .data, .data, .pinned], laidTests := true, laidLooks := .later }
def StoreKeepsUptoCardSaid : Prop := Claim7.holds Tryz.pinned (.plain (OpenSpec.upto storeKeepsSpec)) storeKeepsUptoCard

/-- THE SECOND FORM's CARD OF 'ostlerlaw11.StoreSorts'. -/
def storeSortsUptoCard : Claim7 := { stood := { row := storeSortsUptoRow, standIns := [], harness := (true, "44958d95d09d2f97584463d1bd1471a08ec90a840bd42ce73871d54105828de9"), looks := false }, kinds := [], alts := [], laidByText := true, laidKinds := [.data, .data, .data, .data, .pinned], laidTests := true, laidLooks := .later }
def StoreSortsUptoCardSaid : Prop := Claim7.holds Tryz.pinned (.plain (OpenSpec.upto storeSortsSpec)) storeSortsUptoCard

/-- THE SECOND FORM's CARD OF 'ostlerlaw11.StoreCopies'. -/
def storeCopiesUptoCard : Claim7 := { stood := { row := storeCopiesUptoRow, standIns := [], harness := (true, "44958d95d09d2f97584463d1bd1471a08ec90a840bd42ce73871d54105828de9"), looks := false }, kinds := [], alts := [], laidByText := true, laidKinds := [.data, .data, .data, .data, .pinned], laidTests := true, laidLooks := .later }
def StoreCopiesUptoCardSaid : Prop := Claim7.holds Tryz.pinned (.plain (OpenSpec.upto storeCopiesSpec)) storeCopiesUptoCard

/-- THE SECOND FORM's CARD OF 'ostlerlaw11.StoreNone'. -/
def storeNoneUptoCard : Claim7 := { stood := { row := storeNoneUptoRow, standIns := [], harness := (true, "44958d95d09d2f97584463d1bd1471a08ec90a840bd42ce73871d54105828de9"), looks := false }, kinds := [], alts := [], laidByText := true, laidKinds := [.data, .data, .data, .data, .pinned], laidTests := true, laidLooks := .later }
def StoreNoneUptoCardSaid : Prop := Claim7.holds Tryz.pinned (.plain (OpenSpec.upto storeNoneSpec)) storeNoneUptoCard
end Rows
end Go.Proofs.YtcoieohbmkjpoaaGreatDoor
