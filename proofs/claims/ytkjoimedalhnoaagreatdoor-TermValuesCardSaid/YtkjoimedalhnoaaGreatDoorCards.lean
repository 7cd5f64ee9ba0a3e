/-
  DERIVED. GIVEN WITH THE SEED: THE CARDS: each row of YtkjoimedalhnoaaGreatDoorRows.lean that lists a variable, with what it lists TIED to the program's text (the seventh form; the later family's looks); each row that meets fmt, with fmt's text TOLD by the authors' own Lean function (tested against real Go, not proved from fmt's source: count such statements apart). THE CARD IS WHAT COUNTS. Prove the row's statement (the work); the ties are given (YtkjoimedalhnoaaGreatDoorTie.lean); close each card by the builder's one call (the guide's Derived/Test/ToyasCard.lean, 'card_holds'). Laid BY PROGRAM, IN A SANDBOX (cutbox-door.mjs). By AI agents, Wed Nov 11 2026. No macro, syntax, notation, axiom, sorry.
-/
import Derived.Test.YtkjoimedalhnoaaGreatDoorRows
import GoSem.ClaimSeven
namespace Go.Proofs.YtkjoimedalhnoaaGreatDoor
namespace Rows

/-- THE TIED CARD OF 'ostlerlaw01.TermCompares'. -/
def termComparesCard : Claim7 := { stood := { row := termComparesRow, standIns := [], harness := (true, "6c9ec540991655fbedce5cac8e95e25414a28ff4ca0d6a27e6f6a6671dfecfa1"), looks := false }, kinds := [], alts := [], laidByText := true, laidKinds := [.data, .data, .data, .data, .pinned], laidTests := true, laidLooks := .later }
def TermComparesCardSaid : Prop := Claim7.holds Tryz.pinned (.plain (OpenSpec.ofChange termComparesSpec)) termComparesCard

/-- THE TIED CARD OF 'ostlerlaw01.TermNames'. -/
def termNamesCard : Claim7 := { stood := { row := termNamesRow, standIns := [], harness := (true, "6c9ec540991655fbedce5cac8e95e25414a28ff4ca0d6a27e6f6a6671dfecfa1"), looks := false }, kinds := [], alts := [], laidByText := true, laidKinds := [.data, .data, .data, .data, .pinned], laidTests := true, laidLooks := .later }
def TermNamesCardSaid : Prop := Claim7.holds Tryz.pinned (.plain (OpenSpec.ofChange termNamesSpec)) termNamesCard

/-- THE TIED CARD OF 'ostlerlaw01.TermOrder'. -/
def termOrderCard : Claim7 := { stood := { row := termOrderRow, standIns := [], harness := (true, "6c9ec540991655fbedce5cac8e95e25414a28ff4ca0d6a27e6f6a6671dfecfa1"), looks := false }, kinds := [], alts := [], laidByText := true, laidKinds := [.data, .data, .data, .data, .pinned], laidTests := true, laidLooks := .later }
def TermOrderCardSaid : Prop := Claim7.holds Tryz.pinned (.plain (OpenSpec.ofChange termOrderSpec)) termOrderCard

/-- THE TIED CARD OF 'ostlerlaw01.TermValues'. -/
def termValuesCard : Claim7 := { stood := { row := termValuesRow, standIns := [], harness := (true, "6c9ec540991655fbedce5cac8e95e25414a28ff4ca0d6a27e6f6a6671dfecfa1"), looks := false }, kinds := [], alts := [], laidByText := true, laidKinds := [.data, .data, .data, .data, .pinned], laidTests := true, laidLooks := .later }
def TermValuesCardSaid : Prop := Claim7.holds Tryz.pinned (.plain (OpenSpec.ofChange termValuesSpec)) termValuesCard

/-- THE TIED CARD OF 'ostlerlaw01.TermParts'. -/
def termPartsCard : Claim7 := { stood := { row := termPartsRow, standIns := [], harness := (true, "6c9ec540991655fbedce5cac8e95e25414a28ff4ca0d6a27e6f6a6671dfecfa1"), looks := false }, kinds := [], alts := [], laidByText := true, laidKinds := [.data, .data, .data, .data, .pinned], laidTests := true, laidLooks := .later }
def TermPartsCardSaid : Prop := Claim7.holds Tryz.pinned (.plain (OpenSpec.ofChange termPartsSpec)) termPartsCard

/-- THE TIED CARD OF 'ostlerlaw01.TermText'. -/
def termTextCard : Claim7 := { stood := { row := termTextRow, standIns := [], harness := (true, "6c9ec540991655fbedce5cac8e95e25414a28ff4ca0d6a27e6f6a6671dfecfa1"), looks := false }, kinds := [], alts := [], laidByText := true, laidKinds := [.data, .data, .data, .data, .pinned], laidTests := true, laidLooks := .later }
def TermTextCardSaid : Prop := Claim7.holds Tryz.pinned (.plain (OpenSpec.ofChange termTextSpec)) termTextCard

/-- THE TIED CARD OF 'ostlerlaw02.ArithCalcs'. -/
def arithCalcsCard : Claim7 := { stood := { row := arithCalcsRow, standIns := [], harness := (true, "6c9ec540991655fbedce5cac8e95e25414a28ff4ca0d6a27e6f6a6671dfecfa1"), looks := false }, kinds := [], alts := [], laidByText := true, laidKinds := [.data, .pinned], laidTests := true, laidLooks := .later }
def ArithCalcsCardSaid : Prop := Claim7.holds Tryz.pinned (.plain (OpenSpec.ofChange arithCalcsSpec)) arithCalcsCard

/-- THE TIED CARD OF 'ostlerlaw02.ArithExpands'. -/
def arithExpandsCard : Claim7 := { stood := { row := arithExpandsRow, standIns := [], harness := (true, "6c9ec540991655fbedce5cac8e95e25414a28ff4ca0d6a27e6f6a6671dfecfa1"), looks := false }, kinds := [], alts := [], laidByText := true, laidKinds := [.data, .pinned], laidTests := true, laidLooks := .later }
def ArithExpandsCardSaid : Prop := Claim7.holds Tryz.pinned (.plain (OpenSpec.ofChange arithExpandsSpec)) arithExpandsCard

/-- THE TIED CARD OF 'ostlerlaw02.ArithDivides'. -/
def arithDividesCard : Claim7 := { stood := { row := arithDividesRow, standIns := [], harness := (true, "6c9ec540991655fbedce5cac8e95e25414a28ff4ca0d6a27e6f6a6671dfecfa1"), looks := false }, kinds := [], alts := [], laidByText := true, laidKinds := [.data, .pinned], laidTests := true, laidLooks := .later }
def ArithDividesCardSaid : Prop := Claim7.holds Tryz.pinned (.plain (OpenSpec.ofChange arithDividesSpec)) arithDividesCard

/-- THE TIED CARD OF 'ostlerlaw02.ArithParts'. -/
def arithPartsCard : Claim7 := { stood := { row := arithPartsRow, standIns := [], harness := (true, "6c9ec540991655fbedce5cac8e95e25414a28ff4ca0d6a27e6f6a6671dfecfa1"), looks := false }, kinds := [], alts := [], laidByText := true, laidKinds := [.data, .pinned], laidTests := true, laidLooks := .later }
def ArithPartsCardSaid : Prop := Claim7.holds Tryz.pinned (.plain (OpenSpec.ofChange arithPartsSpec)) arithPartsCard

/-- THE TIED CARD OF 'ostlerlaw02.ArithReplaces'. -/
def arithReplacesCard : Claim7 := { stood := { row := arithReplacesRow, standIns := [], harness := (true, "6c9ec540991655fbedce5cac8e95e25414a28ff4ca0d6a27e6f6a6671dfecfa1"), looks := false }, kinds := [], alts := [], laidByText := true, laidKinds := [.data, .pinned], laidTests := true, laidLooks := .later }
def ArithReplacesCardSaid : Prop := Claim7.holds Tryz.pinned (.plain (OpenSpec.ofChange arithReplacesSpec)) arithReplacesCard

/-- THE SECOND FORM's CARD OF 'ostlerlaw01.TermCompares'. -/
def termComparesUptoCard : Claim7 := { stood := { row := termComparesUptoRow, standIns := [], harness := (true, "6c9ec540991655fbedce5cac8e95e25414a28ff4ca0d6a27e6f6a6671dfecfa1"), looks := false }, kinds := [], alts := [], laidByText := true, laidKinds := [.data, .data, .data, .data, .pinned], laidTests := true, laidLooks := .later }
def TermComparesUptoCardSaid : Prop := Claim7.holds Tryz.pinned (.plain (OpenSpec.upto termComparesSpec)) termComparesUptoCard

/-- THE SECOND FORM's CARD OF 'ostlerlaw01.TermNames'. -/
def termNamesUptoCard : Claim7 := { stood := { row := termNamesUptoRow, standIns := [], harness := (true, "6c9ec540991655fbedce5cac8e95e25414a28ff4ca0d6a27e6f6a6671dfecfa1"), looks := false }, kinds := [], alts := [], laidByText := true, laidKinds := [.data, .data, .data, .data, .pinned], laidTests := true, laidLooks := .later }
def TermNamesUptoCardSaid : Prop := Claim7.holds Tryz.pinned (.plain (OpenSpec.upto termNamesSpec)) termNamesUptoCard

/-- THE SECOND FORM's CARD OF 'ostlerlaw01.TermOrder'. -/
def termOrderUptoCard : Claim7 := { stood := { row := termOrderUptoRow, standIns := [], harness := (true, "6c9ec540991655fbedce5cac8e95e25414a28ff4ca0d6a27e6f6a6671dfecfa1"), looks := false }, kinds := [], alts := [], laidByText := true, laidKinds := [.data, .data, .data, .data, .pinned], laidTests := true, laidLooks := .later }
def TermOrderUptoCardSaid : Prop := Claim7.holds Tryz.pinned (.plain (OpenSpec.upto termOrderSpec)) termOrderUptoCard

/-- THE SECOND FORM's CARD OF 'ostlerlaw01.TermValues'. -/
def termValuesUptoCard : Claim7 := { stood := { row := termValuesUptoRow, standIns := [], harness := (true, "6c9ec540991655fbedce5cac8e95e25414a28ff4ca0d6a27e6f6a6671dfecfa1"), looks := false }, kinds := [], alts := [], laidByText := true, laidKinds := [.data, .data, .data, .data, .pinned], laidTests := true, laidLooks := .later }
def TermValuesUptoCardSaid : Prop := Claim7.holds Tryz.pinned (.plain (OpenSpec.upto termValuesSpec)) termValuesUptoCard

/-- THE SECOND FORM's CARD OF 'ostlerlaw01.TermParts'. -/
def termPartsUptoCard : Claim7 := { stood := { row := termPartsUptoRow, standIns := [], harness := (true, "6c9ec540991655fbedce5cac8e95e25414a28ff4ca0d6a27e6f6a6671dfecfa1"), looks := false }, kinds := [], alts := [], laidByText := true, laidKinds := [.data, .data, .data, .data, .pinned], laidTests := true, laidLooks := .later }
def TermPartsUptoCardSaid : Prop := Claim7.holds Tryz.pinned (.plain (OpenSpec.upto termPartsSpec)) termPartsUptoCard

/-- THE SECOND FORM's CARD OF 'ostlerlaw01.TermText'. -/
def termTextUptoCard : Claim7 := { stood := { row := termTextUptoRow, standIns := [], harness := (true, "6c9ec540991655fbedce5cac8e95e25414a28ff4ca0d6a27e6f6a6671dfecfa1"), looks := false }, kinds := [], alts := [], laidByText := true, laidKinds := [.data, .data, .data, .data, .pinned], laidTests := true, laidLooks := .later }
def TermTextUptoCardSaid : Prop := Claim7.holds Tryz.pinned (.plain (OpenSpec.upto termTextSpec)) termTextUptoCard

/-- THE SECOND FORM's CARD OF 'ostlerlaw02.ArithCalcs'. -/
def arithCalcsUptoCard : Claim7 := { stood := { row := arithCalcsUptoRow, standIns := [], harness := (true, "6c9ec540991655fbedce5cac8e95e25414a28ff4ca0d6a27e6f6a6671dfecfa1"), looks := false }, kinds := [], alts := [], laidByText := true, laidKinds := [.data, .pinned], laidTests := true, laidLooks := .later }
def ArithCalcsUptoCardSaid : Prop := Claim7.holds Tryz.pinned (.plain (OpenSpec.upto arithCalcsSpec)) arithCalcsUptoCard

/-- THE SECOND FORM's CARD OF 'ostlerlaw02.ArithExpands'. -/
def arithExpandsUptoCard : Claim7 := { stood := { row := arithExpandsUptoRow, standIns := [], harness := (true, "6c9ec540991655fbedce5cac8e95e25414a28ff4ca0d6a27e6f6a6671dfecfa1"), looks := false }, kinds := [], alts := [], laidByText := true, laidKinds := [.data, .pinned], laidTests := true, laidLooks := .later }
def ArithExpandsUptoCardSaid : Prop := Claim7.holds Tryz.pinned (.plain (OpenSpec.upto arithExpandsSpec)) arithExpandsUptoCard

/-- THE SECOND FORM's CARD OF 'ostlerlaw02.ArithDivides'. -/
def arithDividesUptoCard : Claim7 := { stood := { row := arithDividesUptoRow, standIns := [], harness := (true, "6c9ec540991655fbedce5cac8e95e25414a28ff4ca0d6a27e6f6a6671dfecfa1"), looks := false }, kinds := [], alts := [], laidByText := true, laidKinds := [.data, .pinned], laidTests := true, laidLooks := .later }
def ArithDividesUptoCardSaid : Prop := Claim7.holds Tryz.pinned (.plain (OpenSpec.upto arithDividesSpec)) arithDividesUptoCard

/-- THE SECOND FORM's CARD OF 'ostlerlaw02.ArithParts'. -/
def arithPartsUptoCard : Claim7 := { stood := { row := arithPartsUptoRow, standIns := [], harness := (true, "6c9ec540991655fbedce5cac8e95e25414a28ff4ca0d6a27e6f6a6671dfecfa1"), looks := false }, kinds := [], alts := [], laidByText := true, laidKinds := [.data, .pinned], laidTests := true, laidLooks := .later }
def ArithPartsUptoCardSaid : Prop := Claim7.holds Tryz.pinned (.plain (OpenSpec.upto arithPartsSpec)) arithPartsUptoCard

/-- THE SECOND FORM's CARD OF 'ostlerlaw02.ArithReplaces'. -/
def arithReplacesUptoCard : Claim7 := { stood := { row := arithReplacesUptoRow, standIns := [], harness := (true, "6c9ec540991655fbedce5cac8e95e25414a28ff4ca0d6a27e6f6a6671dfecfa1"), looks := false }, kinds := [], alts := [], laidByText := true, laidKinds := [.data, .pinned], laidTests := true, laidLooks := .later }
def ArithReplacesUptoCardSaid : Prop := Claim7.holds Tryz.pinned (.plain (OpenSpec.upto arithReplacesSpec)) arithReplacesUptoCard
end Rows
end Go.Proofs.YtkjoimedalhnoaaGreatDoor
