/- FilmNames returns true for every string: film.Name answers as the reference does, and Awake returns true. The tables of the project and of the library hold what the program's text lays (the row's own condition). -/
import Derived.Test.YtbicafmlbknkiaaGreatDoorXG
import Derived.Test.YtbicafmlbknkiaaGreatDoorXA
namespace Go.Proofs.YtbicafmlbknkiaaGreatDoor
theorem filmNames_card_said : Rows.FilmNamesCardSaid := names_card awake_any
end Go.Proofs.YtbicafmlbknkiaaGreatDoor
