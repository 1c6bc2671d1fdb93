/-
  DERIVED. GIVEN WITH THE SEED: THE CARDS: each row of YteajcmkaoahbeaaGreatDoorRows.lean that lists a variable, with what it lists TIED to the program's text (the seventh form; the later family's looks); each row that meets fmt, with fmt's text TOLD by the authors' own Lean function (tested against real Go, not proved from fmt's source: count such statements apart). THE CARD IS WHAT COUNTS. Prove the row's statement (the work); the ties are given (YteajcmkaoahbeaaGreatDoorTie.lean); close each card by the builder's one call (the guide's Derived/Test/ToyasCard.lean, 'card_holds'). Laid BY PROGRAM, IN A SANDBOX (cutbox-door.mjs). By AI agents, Wed Nov 11 2026. No macro, syntax, notation, axiom, sorry.
-/
import Derived.Test.YteajcmkaoahbeaaGreatDoorRows
import GoSem.ClaimSeven
namespace Go.Proofs.YteajcmkaoahbeaaGreatDoor
namespace Rows

/-- THE TIED CARD OF 'laws.FnExactResolve'. -/
def fnExactResolveCard : Claim7 := { stood := { row := fnExactResolveRow, standIns := [], harness := (true, "75fc6460aa2d8bb0ee4eb032078812fc265564ae67ade7447c007aa9dbc03c0e"), looks := true }, kinds := [], alts := [], laidByText := true, laidKinds := [.sentinel, .sentinel, .sentinel, .sentinel], laidTests := true, laidLooks := .later }
def FnExactResolveCardSaid : Prop := Claim7.holds Tryz.pinned (.plain (OpenSpec.ofChange fnExactResolveSpec)) fnExactResolveCard

/-- THE TIED CARD OF 'laws.FnExactStateAhead'. -/
def fnExactStateAheadCard : Claim7 := { stood := { row := fnExactStateAheadRow, standIns := [], harness := (true, "75fc6460aa2d8bb0ee4eb032078812fc265564ae67ade7447c007aa9dbc03c0e"), looks := true }, kinds := [], alts := [], laidByText := true, laidKinds := [.sentinel, .sentinel, .sentinel, .sentinel], laidTests := true, laidLooks := .later }
def FnExactStateAheadCardSaid : Prop := Claim7.holds Tryz.pinned (.plain (OpenSpec.ofChange fnExactStateAheadSpec)) fnExactStateAheadCard

/-- THE TIED CARD OF 'laws.FnExactStateBehind'. -/
def fnExactStateBehindCard : Claim7 := { stood := { row := fnExactStateBehindRow, standIns := [], harness := (true, "75fc6460aa2d8bb0ee4eb032078812fc265564ae67ade7447c007aa9dbc03c0e"), looks := true }, kinds := [], alts := [], laidByText := true, laidKinds := [.sentinel, .sentinel, .sentinel, .sentinel], laidTests := true, laidLooks := .later }
def FnExactStateBehindCardSaid : Prop := Claim7.holds Tryz.pinned (.plain (OpenSpec.ofChange fnExactStateBehindSpec)) fnExactStateBehindCard

/-- THE TIED CARD OF 'laws.FnExactRefused'. -/
def fnExactRefusedCard : Claim7 := { stood := { row := fnExactRefusedRow, standIns := [], harness := (true, "75fc6460aa2d8bb0ee4eb032078812fc265564ae67ade7447c007aa9dbc03c0e"), looks := true }, kinds := [], alts := [], laidByText := true, laidKinds := [.sentinel, .sentinel, .sentinel, .sentinel], laidTests := true, laidLooks := .later }
def FnExactRefusedCardSaid : Prop := Claim7.holds Tryz.pinned (.plain (OpenSpec.ofChange fnExactRefusedSpec)) fnExactRefusedCard

/-- THE TIED CARD OF 'laws.FnExactEndsOf'. -/
def fnExactEndsOfCard : Claim7 := { stood := { row := fnExactEndsOfRow, standIns := [], harness := (true, "75fc6460aa2d8bb0ee4eb032078812fc265564ae67ade7447c007aa9dbc03c0e"), looks := true }, kinds := [], alts := [], laidByText := true, laidKinds := [.sentinel, .sentinel, .sentinel, .sentinel], laidTests := true, laidLooks := .later }
def FnExactEndsOfCardSaid : Prop := Claim7.holds Tryz.pinned (.plain (OpenSpec.ofChange fnExactEndsOfSpec)) fnExactEndsOfCard

/-- THE TIED CARD OF 'laws.FnExactCurrentOf'. -/
def fnExactCurrentOfCard : Claim7 := { stood := { row := fnExactCurrentOfRow, standIns := [], harness := (true, "75fc6460aa2d8bb0ee4eb032078812fc265564ae67ade7447c007aa9dbc03c0e"), looks := true }, kinds := [], alts := [], laidByText := true, laidKinds := [.sentinel, .sentinel, .sentinel, .sentinel], laidTests := true, laidLooks := .later }
def FnExactCurrentOfCardSaid : Prop := Claim7.holds Tryz.pinned (.plain (OpenSpec.ofChange fnExactCurrentOfSpec)) fnExactCurrentOfCard

/-- THE SECOND FORM's CARD OF 'laws.FnExactResolve'. -/
def fnExactResolveUptoCard : Claim7 := { stood := { row := fnExactResolveUptoRow, standIns := [], harness := (true, "75fc6460aa2d8bb0ee4eb032078812fc265564ae67ade7447c007aa9dbc03c0e"), looks := true }, kinds := [], alts := [], laidByText := true, laidKinds := [.sentinel, .sentinel, .sentinel, .sentinel], laidTests := true, laidLooks := .later }
def FnExactResolveUptoCardSaid : Prop := Claim7.holds Tryz.pinned (.plain (OpenSpec.upto fnExactResolveSpec)) fnExactResolveUptoCard

/-- THE SECOND FORM's CARD OF 'laws.FnExactStateAhead'. -/
def fnExactStateAheadUptoCard : Claim7 := { stood := { row := fnExactStateAheadUptoRow, standIns := [], harness := (true, "75fc6460aa2d8bb0ee4eb032078812fc265564ae67ade7447c007aa9dbc03c0e"), looks := true }, kinds := [], alts := [], laidByText := true, laidKinds := [.sentinel, .sentinel, .sentinel, .sentinel], laidTests := true, laidLooks := .later }
def FnExactStateAheadUptoCardSaid : Prop := Claim7.holds Tryz.pinned (.plain (OpenSpec.upto fnExactStateAheadSpec)) fnExactStateAheadUptoCard

/-- THE SECOND FORM's CARD OF 'laws.FnExactStateBehind'. -/
def fnExactStateBehindUptoCard : Claim7 := { stood := { row := fnExactStateBehindUptoRow, standIns := [], harness := (true, "75fc6460aa2d8bb0ee4eb032078812fc265564ae67ade7447c007aa9dbc03c0e"), looks := true }, kinds := [], alts := [], laidByText := true, laidKinds := [.sentinel, .sentinel, .sentinel, .sentinel], laidTests := true, laidLooks := .later }
def FnExactStateBehindUptoCardSaid : Prop := Claim7.holds Tryz.pinned (.plain (OpenSpec.upto fnExactStateBehindSpec)) fnExactStateBehindUptoCard

/-- THE SECOND FORM's CARD OF 'laws.FnExactRefused'. -/
def fnExactRefusedUptoCard : Claim7 := { stood := { row := fnExactRefusedUptoRow, standIns := [], harness := (true, "75fc6460aa2d8bb0ee4eb032078812fc265564ae67ade7447c007aa9dbc03c0e"), looks := true }, kinds := [], alts := [], laidByText := true, laidKinds := [.sentinel, .sentinel, .sentinel, .sentinel], laidTests := true, laidLooks := .later }
def FnExactRefusedUptoCardSaid : Prop := Claim7.holds Tryz.pinned (.plain (OpenSpec.upto fnExactRefusedSpec)) fnExactRefusedUptoCard

/-- THE SECOND FORM's CARD OF 'laws.FnExactEndsOf'. -/
def fnExactEndsOfUptoCard : Claim7 := { stood := { row := fnExactEndsOfUptoRow, standIns := [], harness := (true, "75fc6460aa2d8bb0ee4eb032078812fc265564ae67ade7447c007aa9dbc03c0e"), looks := true }, kinds := [], alts := [], laidByText := true, laidKinds := [.sentinel, .sentinel, .sentinel, .sentinel], laidTests := true, laidLooks := .later }
def FnExactEndsOfUptoCardSaid : Prop := Claim7.holds Tryz.pinned (.plain (OpenSpec.upto fnExactEndsOfSpec)) fnExactEndsOfUptoCard

/-- THE SECOND FORM's CARD OF 'laws.FnExactCurrentOf'. -/
def fnExactCurrentOfUptoCard : Claim7 := { stood := { row := fnExactCurrentOfUptoRow, standIns := [], harness := (true, "75fc6460aa2d8bb0ee4eb032078812fc265564ae67ade7447c007aa9dbc03c0e"), looks := true }, kinds := [], alts := [], laidByText := true, laidKinds := [.sentinel, .sentinel, .sentinel, .sentinel], laidTests := true, laidLooks := .later }
def FnExactCurrentOfUptoCardSaid : Prop := Claim7.holds Tryz.pinned (.plain (OpenSpec.upto fnExactCurrentOfSpec)) fnExactCurrentOfUptoCard
end Rows
end Go.Proofs.YteajcmkaoahbeaaGreatDoor
