/-
  DERIVED. GIVEN WITH THE SEED: THE CARDS: each row of YtfhoielfekeihaaDoorRows.lean that lists a variable, with what it lists TIED to the program's text (the seventh form; the later family's looks); each row that meets fmt, with fmt's text TOLD by the authors' own Lean function (tested against real Go, not proved from fmt's source: count such statements apart). THE CARD IS WHAT COUNTS. Prove the row's statement (the work); the ties are given (YtfhoielfekeihaaDoorTie.lean); close each card by the builder's one call (the guide's Derived/Test/ToyasCard.lean, 'card_holds'). Laid BY PROGRAM, IN A SANDBOX (cutbox-door.mjs). By AI agents, Wed Nov 11 2026. No macro, syntax, notation, axiom, sorry.
-/
import Derived.Test.YtfhoielfekeihaaDoorRows
import GoSem.ClaimSeven
namespace Go.Proofs.YtfhoielfekeihaaDoor
namespace Rows

/-- THE TIED CARD OF 'weftlinelaw09.CookieMakes'. -/
def cookieMakesCard : Claim7 := { stood := { row := cookieMakesRow, standIns := [], harness := (true, "658aee9203d4dfbb09f1f1ac9f759582c28b8d1a46754831244efaf4a78ddc61"), looks := true }, kinds := [], alts := [], laidByText := true, laidKinds := [.data, .data, .data], laidTests := true, laidLooks := .later }
def CookieMakesCardSaid : Prop := Claim7.holds Tryd.pinned (.plain (OpenSpec.ofChange cookieMakesSpec)) cookieMakesCard

/-- THE TIED CARD OF 'weftlinelaw09.CookieOpens'. -/
def cookieOpensCard : Claim7 := { stood := { row := cookieOpensRow, standIns := [], harness := (true, "658aee9203d4dfbb09f1f1ac9f759582c28b8d1a46754831244efaf4a78ddc61"), looks := true }, kinds := [], alts := [], laidByText := true, laidKinds := [.data, .data, .data], laidTests := true, laidLooks := .later }
def CookieOpensCardSaid : Prop := Claim7.holds Tryd.pinned (.plain (OpenSpec.ofChange cookieOpensSpec)) cookieOpensCard

/-- THE TIED CARD OF 'weftlinelaw09.CookieForges'. -/
def cookieForgesCard : Claim7 := { stood := { row := cookieForgesRow, standIns := [], harness := (true, "658aee9203d4dfbb09f1f1ac9f759582c28b8d1a46754831244efaf4a78ddc61"), looks := true }, kinds := [], alts := [], laidByText := true, laidKinds := [.data, .data], laidTests := true, laidLooks := .later }
def CookieForgesCardSaid : Prop := Claim7.holds Tryd.pinned (.plain (OpenSpec.ofChange cookieForgesSpec)) cookieForgesCard

/-- THE TIED CARD OF 'weftlinelaw09.CookieSames'. -/
def cookieSamesCard : Claim7 := { stood := { row := cookieSamesRow, standIns := [], harness := (true, "658aee9203d4dfbb09f1f1ac9f759582c28b8d1a46754831244efaf4a78ddc61"), looks := true }, kinds := [], alts := [], laidByText := true, laidKinds := [.data, .data], laidTests := true, laidLooks := .later }
def CookieSamesCardSaid : Prop := Claim7.holds Tryd.pinned (.plain (OpenSpec.ofChange cookieSamesSpec)) cookieSamesCard

/-- THE SECOND FORM's CARD OF 'weftlinelaw09.CookieMakes'. -/
def cookieMakesUptoCard : Claim7 := { stood := { row := cookieMakesUptoRow, standIns := [], harness := (true, "658aee9203d4dfbb09f1f1ac9f759582c28b8d1a46754831244efaf4a78ddc61"), looks := true }, kinds := [], alts := [], laidByText := true, laidKinds := [.data, .data, .data], laidTests := true, laidLooks := .later }
def CookieMakesUptoCardSaid : Prop := Claim7.holds Tryd.pinned (.plain (OpenSpec.upto cookieMakesSpec)) cookieMakesUptoCard

/-- THE SECOND FORM's CARD OF 'weftlinelaw09.CookieOpens'. -/
def cookieOpensUptoCard : Claim7 := { stood := { row := cookieOpensUptoRow, standIns := [], harness := (true, "658aee9203d4dfbb09f1f1ac9f759582c28b8d1a46754831244efaf4a78ddc61"), looks := true }, kinds := [], alts := [], laidByText := true, laidKinds := [.data, .data, .data], laidTests := true, laidLooks := .later }
def CookieOpensUptoCardSaid : Prop := Claim7.holds Tryd.pinned (.plain (OpenSpec.upto cookieOpensSpec)) cookieOpensUptoCard

/-- THE SECOND FORM's CARD OF 'weftlinelaw09.CookieForges'. -/
def cookieForgesUptoCard : Claim7 := { stood := { row := cookieForgesUptoRow, standIns := [], harness := (true, "658aee9203d4dfbb09f1f1ac9f759582c28b8d1a46754831244efaf4a78ddc61"), looks := true }, kinds := [], alts := [], laidByText := true, laidKinds := [.data, .data], laidTests := true, laidLooks := .later }
def CookieForgesUptoCardSaid : Prop := Claim7.holds Tryd.pinned (.plain (OpenSpec.upto cookieForgesSpec)) cookieForgesUptoCard

/-- THE SECOND FORM's CARD OF 'weftlinelaw09.CookieSames'. -/
def cookieSamesUptoCard : Claim7 := { stood := { row := cookieSamesUptoRow, standIns := [], harness := (true, "658aee9203d4dfbb09f1f1ac9f759582c28b8d1a46754831244efaf4a78ddc61"), looks := true }, kinds := [], alts := [], laidByText := true, laidKinds := [.data, .data], laidTests := true, laidLooks := .later }
def CookieSamesUptoCardSaid : Prop := Claim7.holds Tryd.pinned (.plain (OpenSpec.upto cookieSamesSpec)) cookieSamesUptoCard
end Rows
end Go.Proofs.YtfhoielfekeihaaDoor
