/-
  DERIVED. GIVEN WITH THE SEED: THE CARDS: each row of YtkpfocgcnehajabDoorRows.lean that lists a variable, with what it lists TIED to the program's text (the seventh form; the later family's looks); each row that meets fmt, with fmt's text TOLD by the authors' own Lean function (tested against real Go, not proved from fmt's source: count such statements apart). THE CARD IS WHAT COUNTS. Prove the row's statement (the work); the ties are given (YtkpfocgcnehajabDoorTie.lean); close each card by the builder's one call (the guide's Derived/Test/ToyasCard.lean, 'card_holds'). Laid BY PROGRAM, IN A SANDBOX (cutbox-door.mjs). By AI agents, Wed Nov 11 2026. No macro, syntax, notation, axiom, sorry.
-/
import Derived.Test.YtkpfocgcnehajabDoorRows
import GoSem.ClaimSeven
namespace Go.Proofs.YtkpfocgcnehajabDoor
namespace Rows

/-- THE TIED CARD OF 'narcissuslaw06.UnivForms'. -/
def univFormsCard : Claim7 := { stood := { row := univFormsRow, standIns := [], harness := (true, "c1da94875b3dc693ebb0d108e3951ae2afae2abbd34d9adce7ea3ec68722d880"), looks := false }, kinds := [], alts := [], laidByText := true, laidKinds := [.data, .data, .data], laidTests := true, laidLooks := .later }
def UnivFormsCardSaid : Prop := Claim7.holds Tryd.pinned (.plain (OpenSpec.ofChange univFormsSpec)) univFormsCard

/-- THE TIED CARD OF 'narcissustop.TopUniversal'. -/
def topUniversalCard : Claim7 := { stood := { row := topUniversalRow, standIns := [], harness := (true, "c1da94875b3dc693ebb0d108e3951ae2afae2abbd34d9adce7ea3ec68722d880"), looks := false }, kinds := [], alts := [], laidByText := true, laidKinds := [.data, .data, .data], laidTests := true, laidLooks := .later }
def TopUniversalCardSaid : Prop := Claim7.holds Tryd.pinned (.plain (OpenSpec.ofChange topUniversalSpec)) topUniversalCard

/-- THE TIED CARD OF 'narcissustop.TopItself'. -/
def topItselfCard : Claim7 := { stood := { row := topItselfRow, standIns := [], harness := (true, "c1da94875b3dc693ebb0d108e3951ae2afae2abbd34d9adce7ea3ec68722d880"), looks := false }, kinds := [], alts := [], laidByText := true, laidKinds := [.data, .data, .data], laidTests := true, laidLooks := .later }
def TopItselfCardSaid : Prop := Claim7.holds Tryd.pinned (.plain (OpenSpec.ofChange topItselfSpec)) topItselfCard

/-- THE SECOND FORM's CARD OF 'narcissuslaw06.UnivForms'. -/
def univFormsUptoCard : Claim7 := { stood := { row := univFormsUptoRow, standIns := [], harness := (true, "c1da94875b3dc693ebb0d108e3951ae2afae2abbd34d9adce7ea3ec68722d880"), looks := false }, kinds := [], alts := [], laidByText := true, laidKinds := [.data, .data, .data], laidTests := true, laidLooks := .later }
def UnivFormsUptoCardSaid : Prop := Claim7.holds Tryd.pinned (.plain (OpenSpec.upto univFormsSpec)) univFormsUptoCard

/-- THE SECOND FORM's CARD OF 'narcissustop.TopUniversal'. -/
def topUniversalUptoCard : Claim7 := { stood := { row := topUniversalUptoRow, standIns := [], harness := (true, "c1da94875b3dc693ebb0d108e3951ae2afae2abbd34d9adce7ea3ec68722d880"), looks := false }, kinds := [], alts := [], laidByText := true, laidKinds := [.data, .data, .data], laidTests := true, laidLooks := .later }
def TopUniversalUptoCardSaid : Prop := Claim7.holds Tryd.pinned (.plain (OpenSpec.upto topUniversalSpec)) topUniversalUptoCard

/-- THE SECOND FORM's CARD OF 'narcissustop.TopItself'. -/
def topItselfUptoCard : Claim7 := { stood := { row := topItselfUptoRow, standIns := [], harness := (true, "c1da94875b3dc693ebb0d108e3951ae2afae2abbd34d9adce7ea3ec68722d880"), looks := false }, kinds := [], alts := [], laidByText := true, laidKinds := [.data, .data, .data], laidTests := true, laidLooks := .later }
def TopItselfUptoCardSaid : Prop := Claim7.holds Tryd.pinned (.plain (OpenSpec.upto topItselfSpec)) topItselfUptoCard
end Rows
end Go.Proofs.YtkpfocgcnehajabDoor
