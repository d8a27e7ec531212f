/-
  DERIVED. GIVEN WITH THE SEED: THE CARDS: each row of YtgammgdckneoiacDoorRows.lean that lists a variable, with what it lists TIED to the program's text (the seventh form; the later family's looks); each row that meets fmt, with fmt's text TOLD by the authors' own Lean function (tested against real Go, not proved from fmt's source: count such statements apart). THE CARD IS WHAT COUNTS. Prove the row's statement (the work); the ties are given (YtgammgdckneoiacDoorTie.lean); close each card by the builder's one call (the guide's Derived/Test/ToyasCard.lean, 'card_holds'). Laid BY PROGRAM, IN A SANDBOX (cutbox-door.mjs). By AI agents, Wed Nov 11 2026. No macro, syntax, notation, axiom, sorry.
-/
import Derived.Test.YtgammgdckneoiacDoorRows
import GoSem.ClaimSeven
namespace Go.Proofs.YtgammgdckneoiacDoor
namespace Rows

/-- THE TIED CARD OF 'lapidarylaw02.WholeRing'. -/
def wholeRingCard : Claim7 := { stood := { row := wholeRingRow, standIns := [], harness := (true, "2396db7ccc6be5554dd467819cdad4d33bb3919022c452af2b144efcf27e1ac2"), looks := false }, kinds := [], alts := [], laidByText := true, laidKinds := [.data, .pinned], laidTests := true, laidLooks := .later }
def WholeRingCardSaid : Prop := Claim7.holds Tryd.pinned (.plain (OpenSpec.ofChange wholeRingSpec)) wholeRingCard

/-- THE TIED CARD OF 'lapidarylaw02.WholeLeft'. -/
def wholeLeftCard : Claim7 := { stood := { row := wholeLeftRow, standIns := [], harness := (true, "2396db7ccc6be5554dd467819cdad4d33bb3919022c452af2b144efcf27e1ac2"), looks := false }, kinds := [], alts := [], laidByText := true, laidKinds := [.data, .pinned], laidTests := true, laidLooks := .later }
def WholeLeftCardSaid : Prop := Claim7.holds Tryd.pinned (.plain (OpenSpec.ofChange wholeLeftSpec)) wholeLeftCard

/-- THE TIED CARD OF 'lapidarylaw02.WholeOrder'. -/
def wholeOrderCard : Claim7 := { stood := { row := wholeOrderRow, standIns := [], harness := (true, "2396db7ccc6be5554dd467819cdad4d33bb3919022c452af2b144efcf27e1ac2"), looks := false }, kinds := [], alts := [], laidByText := true, laidKinds := [.data, .pinned], laidTests := true, laidLooks := .later }
def WholeOrderCardSaid : Prop := Claim7.holds Tryd.pinned (.plain (OpenSpec.ofChange wholeOrderSpec)) wholeOrderCard

/-- THE SECOND FORM's CARD OF 'lapidarylaw02.WholeRing'. -/
def wholeRingUptoCard : Claim7 := { stood := { row := wholeRingUptoRow, standIns := [], harness := (true, "2396db7ccc6be5554dd467819cdad4d33bb3919022c452af2b144efcf27e1ac2"), looks := false }, kinds := [], alts := [], laidByText := true, laidKinds := [.data, .pinned], laidTests := true, laidLooks := .later }
def WholeRingUptoCardSaid : Prop := Claim7.holds Tryd.pinned (.plain (OpenSpec.upto wholeRingSpec)) wholeRingUptoCard

/-- THE SECOND FORM's CARD OF 'lapidarylaw02.WholeLeft'. -/
def wholeLeftUptoCard : Claim7 := { stood := { row := wholeLeftUptoRow, standIns := [], harness := (true, "2396db7ccc6be5554dd467819cdad4d33bb3919022c452af2b144efcf27e1ac2"), looks := false }, kinds := [], alts := [], laidByText := true, laidKinds := [.data, .pinned], laidTests := true, laidLooks := .later }
def WholeLeftUptoCardSaid : Prop := Claim7.holds Tryd.pinned (.plain (OpenSpec.upto wholeLeftSpec)) wholeLeftUptoCard

/-- THE SECOND FORM's CARD OF 'lapidarylaw02.WholeOrder'. -/
def wholeOrderUptoCard : Claim7 := { stood := { row := wholeOrderUptoRow, standIns := [], harness := (true, "2396db7ccc6be5554dd467819cdad4d33bb3919022c452af2b144efcf27e1ac2"), looks := false }, kinds := [], alts := [], laidByText := true, laidKinds := [.data, .pinned], laidTests := true, laidLooks := .later }
def WholeOrderUptoCardSaid : Prop := Claim7.holds Tryd.pinned (.plain (OpenSpec.upto wholeOrderSpec)) wholeOrderUptoCard
end Rows
end Go.Proofs.YtgammgdckneoiacDoor
