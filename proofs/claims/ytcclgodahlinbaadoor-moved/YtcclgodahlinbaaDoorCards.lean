/-
  DERIVED. GIVEN WITH THE SEED: THE CARDS: each row of YtcclgodahlinbaaDoorRows.lean that lists a variable, with what it lists TIED to the program's text (the seventh form; the later family's looks); each row that meets fmt, with fmt's text TOLD by the authors' own Lean function (tested against real Go, not proved from fmt's source: count such statements apart). THE CARD IS WHAT COUNTS. Prove the row's statement (the work); the ties are given (YtcclgodahlinbaaDoorTie.lean); close each card by the builder's one call (the guide's Derived/Test/ToyasCard.lean, 'card_holds'). Laid BY PROGRAM, IN A SANDBOX (cutbox-door.mjs). By AI agents, Wed Nov 11 2026. No macro, syntax, notation, axiom, sorry.
-/
import Derived.Test.YtcclgodahlinbaaDoorRows
import GoSem.ClaimSeven
namespace Go.Proofs.YtcclgodahlinbaaDoor
namespace Rows

/-- THE TIED CARD OF 'darningkeep.Lettered'. -/
def letteredCard : Claim7 := { stood := { row := letteredRow, standIns := [], harness := (true, "3f8c4d030d35e1a046a922c0ffa55382a10e77318e3c368b2b9f9a212657129c"), looks := true }, kinds := [], alts := [], laidByText := true, laidKinds := [.data, .pinned], laidTests := true, laidLooks := .later }
def LetteredCardSaid : Prop := Claim7.holds Tryd.pinned (.plain (OpenSpec.ofChange letteredSpec)) letteredCard

/-- THE TIED CARD OF 'darningkeep.Shortest'. -/
def shortestCard : Claim7 := { stood := { row := shortestRow, standIns := [], harness := (true, "3f8c4d030d35e1a046a922c0ffa55382a10e77318e3c368b2b9f9a212657129c"), looks := true }, kinds := [], alts := [], laidByText := true, laidKinds := [.data, .pinned], laidTests := true, laidLooks := .later }
def ShortestCardSaid : Prop := Claim7.holds Tryd.pinned (.plain (OpenSpec.ofChange shortestSpec)) shortestCard

/-- THE TIED CARD OF 'darningkeep.Moved'. -/
def movedCard : Claim7 := { stood := { row := movedRow, standIns := [], harness := (true, "3f8c4d030d35e1a046a922c0ffa55382a10e77318e3c368b2b9f9a212657129c"), looks := true }, kinds := [], alts := [], laidByText := true, laidKinds := [.data, .pinned], laidTests := true, laidLooks := .later }
def MovedCardSaid : Prop := Claim7.holds Tryd.pinned (.plain (OpenSpec.ofChange movedSpec)) movedCard

/-- THE TIED CARD OF 'darningkeep.Left'. -/
def leftCard : Claim7 := { stood := { row := leftRow, standIns := [], harness := (true, "3f8c4d030d35e1a046a922c0ffa55382a10e77318e3c368b2b9f9a212657129c"), looks := true }, kinds := [], alts := [], laidByText := true, laidKinds := [.data, .pinned], laidTests := true, laidLooks := .later }
def LeftCardSaid : Prop := Claim7.holds Tryd.pinned (.plain (OpenSpec.ofChange leftSpec)) leftCard

/-- THE TIED CARD OF 'darningkeep.Fuzzy'. -/
def fuzzyCard : Claim7 := { stood := { row := fuzzyRow, standIns := [], harness := (true, "3f8c4d030d35e1a046a922c0ffa55382a10e77318e3c368b2b9f9a212657129c"), looks := true }, kinds := [], alts := [], laidByText := true, laidKinds := [.data, .pinned], laidTests := true, laidLooks := .later }
def FuzzyCardSaid : Prop := Claim7.holds Tryd.pinned (.plain (OpenSpec.ofChange fuzzySpec)) fuzzyCard

/-- THE TIED CARD OF 'darningkeep.Apart'. -/
def apartCard : Claim7 := { stood := { row := apartRow, standIns := [], harness := (true, "3f8c4d030d35e1a046a922c0ffa55382a10e77318e3c368b2b9f9a212657129c"), looks := true }, kinds := [], alts := [], laidByText := true, laidKinds := [.data, .pinned], laidTests := true, laidLooks := .later }
def ApartCardSaid : Prop := Claim7.holds Tryd.pinned (.plain (OpenSpec.ofChange apartSpec)) apartCard

/-- THE SECOND FORM's CARD OF 'darningkeep.Lettered'. -/
def letteredUptoCard : Claim7 := { stood := { row := letteredUptoRow, standIns := [], harness := (true, "3f8c4d030d35e1a046a922c0ffa55382a10e77318e3c368b2b9f9a212657129c"), looks := true }, kinds := [], alts := [], laidByText := true, laidKinds := [.data, .pinned], laidTests := true, laidLooks := .later }
def LetteredUptoCardSaid : Prop := Claim7.holds Tryd.pinned (.plain (OpenSpec.upto letteredSpec)) letteredUptoCard

/-- THE SECOND FORM's CARD OF 'darningkeep.Shortest'. -/
def shortestUptoCard : Claim7 := { stood := { row := shortestUptoRow, standIns := [], harness := (true, "3f8c4d030d35e1a046a922c0ffa55382a10e77318e3c368b2b9f9a212657129c"), looks := true }, kinds := [], alts := [], laidByText := true, laidKinds := [.data, .pinned], laidTests := true, laidLooks := .later }
def ShortestUptoCardSaid : Prop := Claim7.holds Tryd.pinned (.plain (OpenSpec.upto shortestSpec)) shortestUptoCard

/-- THE SECOND FORM's CARD OF 'darningkeep.Moved'. -/
def movedUptoCard : Claim7 := { stood := { row := movedUptoRow, standIns := [], harness := (true, "3f8c4d030d35e1a046a922c0ffa55382a10e77318e3c368b2b9f9a212657129c"), looks := true }, kinds := [], alts := [], laidByText := true, laidKinds := [.data, .pinned], laidTests := true, laidLooks := .later }
def MovedUptoCardSaid : Prop := Claim7.holds Tryd.pinned (.plain (OpenSpec.upto movedSpec)) movedUptoCard

/-- THE SECOND FORM's CARD OF 'darningkeep.Left'. -/
def leftUptoCard : Claim7 := { stood := { row := leftUptoRow, standIns := [], harness := (true, "3f8c4d030d35e1a046a922c0ffa55382a10e77318e3c368b2b9f9a212657129c"), looks := true }, kinds := [], alts := [], laidByText := true, laidKinds := [.data, .pinned], laidTests := true, laidLooks := .later }
def LeftUptoCardSaid : Prop := Claim7.holds Tryd.pinned (.plain (OpenSpec.upto leftSpec)) leftUptoCard

/-- THE SECOND FORM's CARD OF 'darningkeep.Fuzzy'. -/
def fuzzyUptoCard : Claim7 := { stood := { row := fuzzyUptoRow, standIns := [], harness := (true, "3f8c4d030d35e1a046a922c0ffa55382a10e77318e3c368b2b9f9a212657129c"), looks := true }, kinds := [], alts := [], laidByText := true, laidKinds := [.data, .pinned], laidTests := true, laidLooks := .later }
def FuzzyUptoCardSaid : Prop := Claim7.holds Tryd.pinned (.plain (OpenSpec.upto fuzzySpec)) fuzzyUptoCard

/-- THE SECOND FORM's CARD OF 'darningkeep.Apart'. -/
def apartUptoCard : Claim7 := { stood := { row := apartUptoRow, standIns := [], harness := (true, "3f8c4d030d35e1a046a922c0ffa55382a10e77318e3c368b2b9f9a212657129c"), looks := true }, kinds := [], alts := [], laidByText := true, laidKinds := [.data, .pinned], laidTests := true, laidLooks := .later }
def ApartUptoCardSaid : Prop := Claim7.holds Tryd.pinned (.plain (OpenSpec.upto apartSpec)) apartUptoCard
end Rows
end Go.Proofs.YtcclgodahlinbaaDoor
