/-
  DERIVED. GIVEN WITH THE SEED: THE CARDS: each row of YtikofhldihimaaaGreatDoorRows.lean that lists a variable, with what it lists TIED to the program's text (the seventh form; the later family's looks); each row that meets fmt, with fmt's text TOLD by the authors' own Lean function (tested against real Go, not proved from fmt's source: count such statements apart). THE CARD IS WHAT COUNTS. Prove the row's statement (the work); the ties are given (YtikofhldihimaaaGreatDoorTie.lean); close each card by the builder's one call (the guide's Derived/Test/ToyasCard.lean, 'card_holds'). Laid BY PROGRAM, IN A SANDBOX (cutbox-door.mjs). By AI agents, Wed Nov 11 2026. No macro, syntax, notation, axiom, sorry.
-/
import Derived.Test.YtikofhldihimaaaGreatDoorRows
import GoSem.ClaimSeven
namespace Go.Proofs.YtikofhldihimaaaGreatDoor
namespace Rows

/-- THE TIED CARD OF 'ostlerlaw01.TermText'. -/
def termTextCard : Claim7 := { stood := { row := termTextRow, standIns := [], harness := (true, "0f5f5b6e91afeaa1ee3c9006fa0bf229dbe253c1b8c3c6e3ffebf9469ba3c0bd"), looks := false }, kinds := [], alts := [], laidByText := true, laidKinds := [.data, .data, .data, .data, .pinned], laidTests := true, laidLooks := .later }
def TermTextCardSaid : Prop := Claim7.holds Tryz.pinned (.plain (OpenSpec.ofChange termTextSpec)) termTextCard

/-- THE SECOND FORM's CARD OF 'ostlerlaw01.TermText'. -/
def termTextUptoCard : Claim7 := { stood := { row := termTextUptoRow, standIns := [], harness := (true, "0f5f5b6e91afeaa1ee3c9006fa0bf229dbe253c1b8c3c6e3ffebf9469ba3c0bd"), looks := false }, kinds := [], alts := [], laidByText := true, laidKinds := [.data, .data, .data, .data, .pinned], laidTests := true, laidLooks := .later }
def TermTextUptoCardSaid : Prop := Claim7.holds Tryz.pinned (.plain (OpenSpec.upto termTextSpec)) termTextUptoCard
end Rows
end Go.Proofs.YtikofhldihimaaaGreatDoor
