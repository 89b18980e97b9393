/-
  NARROWER THAN 'FOR EVERY INPUT', by the rows' own cells (each row's printed sentence says how): FilmNames: laid · FilmChecks: laid · FilmFeet: laid · FilmGaps: laid · FilmYears: laid · FilmCards: laid · FilmCut: laid · FilmDated: laid · FilmShrunk: laid · FilmFurther: laid · FilmTurned: laid · FilmRound: laid · FilmKnown: laid.
  DERIVED. THE GIVEN ROWS OF THIS SEAT. 13 by the template 'for every input the law returns true; each argument reads behind the call as it read before'; 0 by the template 'total and deterministic' (their statements: YtgjpbffoalldkaaGreatDoorTotals.lean).
  GIVEN WITH THE SEED: the statements are not yours to turn. If you find one false, say at which input.
  Laid BY PROGRAM, IN A SANDBOX (cutbox-rows.mjs): the forced cells as the released guide's own fill.sh prints them over the translation b38360cdb7b2e50f… (all of the seat's roots in one cut). By AI agents, Wed Nov 11 2026. No macro, syntax, notation, axiom, sorry.
-/
import Derived.Test.YtgjpbffoalldkaaGreatDoorChecked
import GoSem.PinnedTables
import GoSem.Claim
import GoSem.ClaimJoined
import GoSem.ClaimMapViews
import Derived.JoinedTies
import Derived.KernelRfl
namespace Go.Proofs.YtgjpbffoalldkaaGreatDoor
/- THE CELL 'sum', in the pinned program and in every row, IS THE sha256 OF THE DUMP (.gsa) THAT YtgjpbffoalldkaaGreatDoorProg.lean LOADS. Nothing in Lean hashes anything: it is a label: what it is worth is what the hold of that sum in a sandbox is worth. -/
noncomputable def Tryz.pinned : Pinned := { name := "ytgjpbffoalldkaagreatdoor", sum := "b38360cdb7b2e50f738c7767874bdc4e61684d0f535b524656e3ce301406e835", checked := Tryz.checked }
namespace Rows
def none {H : Type} : Left H := { results := [], args := [] }

/- WHAT THE LISTED PACKAGE-LEVEL VARIABLES READ AS WHEN THE CALL BEGINS. Each datum BY PROGRAM (the guide's laid-datum.mjs) off the statement by which the dump's own 'gosem.cut.vars' lays the variable. In a bare row this is a premise. The card (YtgjpbffoalldkaaGreatDoorCards.lean) ties it to the program's text. -/
def laid_math_bits_deBruijn32tab {H : Type} : DataW H := .agg [.lit (.int .u8 0), .lit (.int .u8 1), .lit (.int .u8 28), .lit (.int .u8 2), .lit (.int .u8 29), .lit (.int .u8 14), .lit (.int .u8 24), .lit (.int .u8 3), .lit (.int .u8 30), .lit (.int .u8 22), .lit (.int .u8 20), .lit (.int .u8 15), .lit (.int .u8 25), .lit (.int .u8 17), .lit (.int .u8 4), .lit (.int .u8 8), .lit (.int .u8 31), .lit (.int .u8 27), .lit (.int .u8 13), .lit (.int .u8 23), .lit (.int .u8 21), .lit (.int .u8 19), .lit (.int .u8 16), .lit (.int .u8 7), .lit (.int .u8 26), .lit (.int .u8 12), .lit (.int .u8 18), .lit (.int .u8 6), .lit (.int .u8 11), .lit (.int .u8 5), .lit (.int .u8 10), .lit (.int .u8 9)]
def laid_math_bits_deBruijn64tab {H : Type} : DataW H := .agg [.lit (.int .u8 0), .lit (.int .u8 1), .lit (.int .u8 56), .lit (.int .u8 2), .lit (.int .u8 57), .lit (.int .u8 49), .lit (.int .u8 28), .lit (.int .u8 3), .lit (.int .u8 61), .lit (.int .u8 58), .lit (.int .u8 42), .lit (.int .u8 50), .lit (.int .u8 38), .lit (.int .u8 29), .lit (.int .u8 17), .lit (.int .u8 4), .lit (.int .u8 62), .lit (.int .u8 47), .lit (.int .u8 59), .lit (.int .u8 36), .lit (.int .u8 45), .lit (.int .u8 43), .lit (.int .u8 51), .lit (.int .u8 22), .lit (.int .u8 53), .lit (.int .u8 39), .lit (.int .u8 33), .lit (.int .u8 30), .lit (.int .u8 24), .lit (.int .u8 18), .lit (.int .u8 12), .lit (.int .u8 5), .lit (.int .u8 63), .lit (.int .u8 55), .lit (.int .u8 48), .lit (.int .u8 27), .lit (.int .u8 60), .lit (.int .u8 41), .lit (.int .u8 37), .lit (.int .u8 16), .lit (.int .u8 46), .lit (.int .u8 35), .lit (.int .u8 44), .lit (.int .u8 21), .lit (.int .u8 52), .lit (.int .u8 32), .lit (.int .u8 23), .lit (.int .u8 11), .lit (.int .u8 54), .lit (.int .u8 26), .lit (.int .u8 40), .lit (.int .u8 15), .lit (.int .u8 34), .lit (.int .u8 20), .lit (.int .u8 31), .lit (.int .u8 10), .lit (.int .u8 25), .lit (.int .u8 14), .lit (.int .u8 19), .lit (.int .u8 9), .lit (.int .u8 13), .lit (.int .u8 8), .lit (.int .u8 7), .lit (.int .u8 6)]
def laid_internal_strconv_uint64pow10 {H : Type} : DataW H := .agg [.lit (.int .u64 1), .lit (.int .u64 10), .lit (.int .u64 100), .lit (.int .u64 1000), .lit (.int .u64 10000), .lit (.int .u64 100000), .lit (.int .u64 1000000), .lit (.int .u64 10000000), .lit (.int .u64 100000000), .lit (.int .u64 1000000000), .lit (.int .u64 10000000000), .lit (.int .u64 100000000000), .lit (.int .u64 1000000000000), .lit (.int .u64 10000000000000), .lit (.int .u64 100000000000000), .lit (.int .u64 1000000000000000), .lit (.int .u64 10000000000000000), .lit (.int .u64 100000000000000000), .lit (.int .u64 1000000000000000000), .lit (.int .u64 10000000000000000000)]
def laid_unicode_utf8_acceptRanges {H : Type} : DataW H := .agg [.agg [.lit (.int .u8 128), .lit (.int .u8 191)], .agg [.lit (.int .u8 160), .lit (.int .u8 191)], .agg [.lit (.int .u8 128), .lit (.int .u8 159)], .agg [.lit (.int .u8 144), .lit (.int .u8 191)], .agg [.lit (.int .u8 128), .lit (.int .u8 143)], .agg [.lit (.int .u8 0), .lit (.int .u8 0)], .agg [.lit (.int .u8 0), .lit (.int .u8 0)], .agg [.lit (.int .u8 0), .lit (.int .u8 0)], .agg [.lit (.int .u8 0), .lit (.int .u8 0)], .agg [.lit (.int .u8 0), .lit (.int .u8 0)], .agg [.lit (.int .u8 0), .lit (.int .u8 0)], .agg [.lit (.int .u8 0), .lit (.int .u8 0)], .agg [.lit (.int .u8 0), .lit (.int .u8 0)], .agg [.lit (.int .u8 0), .lit (.int .u8 0)], .agg [.lit (.int .u8 0), .lit (.int .u8 0)], .agg [.lit (.int .u8 0), .lit (.int .u8 0)]]
def laid_telecine_film_baseWords {H : Type} : DataW H := .agg [.lit (.string [110, 105, 116, 114, 97, 116, 101]), .lit (.string [97, 99, 101, 116, 97, 116, 101]), .lit (.string [112, 111, 108, 121, 101, 115, 116, 101, 114])]
def laid_telecine_film_stocks {H : Type} : DataW H := .agg [.agg [.lit (.int .i64 16), .lit (.int .i64 19000)], .agg [.lit (.int .i64 40), .lit (.int .i64 7620)], .agg [.lit (.int .i64 80), .lit (.int .i64 3810)]]
/-- One of Go's own tables, pinned by name: the form's constant. -/
def laid_unicode_utf8_first : DataW Unit := Go.Pinned.utf8First
def laid_strconv_ErrRange {H : Type} : DataW H := .iface "*errors.errorString" (.ptr (.agg [.lit (.string [118, 97, 108, 117, 101, 32, 111, 117, 116, 32, 111, 102, 32, 114, 97, 110, 103, 101])]))
def laid_strconv_ErrSyntax {H : Type} : DataW H := .iface "*errors.errorString" (.ptr (.agg [.lit (.string [105, 110, 118, 97, 108, 105, 100, 32, 115, 121, 110, 116, 97, 120])]))

/-- 'telecinelaw01.FilmNames': WHATEVER THE INPUT: true; the input reads as it did. -/
def filmNamesSpec : ChangeSpec := { name := "filmNames", fn := fun _ => fun
  | [d] => { results := [.lit (.bool true)], args := [d] }
  | _ => none }
def filmNamesRow : OpenClaim := { program := "ytgjpbffoalldkaagreatdoor", sum := "b38360cdb7b2e50f738c7767874bdc4e61684d0f535b524656e3ce301406e835", func := "telecine/telecinelaw01.FilmNames", spec := "filmNames", inPlace := ["internal/bytealg.CountString", "internal/bytealg.IndexByteString", "internal/bytealg.IndexString", "internal/abi.NoEscape", "internal/bytealg.MakeNoZero"], unfollowed := true, recurses := true, named := ["unicode/utf8.first", "unicode/utf8.acceptRanges", "internal/bytealg.MaxLen", "telecine/film.stocks", "telecine/film.baseWords", "internal/strconv.uint64pow10", "math/bits.deBruijn32tab", "math/bits.deBruijn64tab"], apart := false, laid := [("math/bits.deBruijn32tab", laid_math_bits_deBruijn32tab), ("math/bits.deBruijn64tab", laid_math_bits_deBruijn64tab), ("internal/strconv.uint64pow10", laid_internal_strconv_uint64pow10), ("unicode/utf8.acceptRanges", laid_unicode_utf8_acceptRanges), ("telecine/film.baseWords", laid_telecine_film_baseWords), ("telecine/film.stocks", laid_telecine_film_stocks), ("unicode/utf8.first", laid_unicode_utf8_first)] }
def FilmNamesSaid : Prop := filmNamesRow.holds Tryz.pinned (OpenSpec.ofChange filmNamesSpec)

/-- ITS FALSE NEIGHBOUR: 'it returns false'. Refute it at one input. -/
def filmNamesWrong : ChangeSpec := { name := "filmNames", fn := fun _ => fun
  | [d] => { results := [.lit (.bool false)], args := [d] }
  | _ => none }
def FilmNamesWrongFalsely : Prop := filmNamesRow.holds Tryz.pinned (OpenSpec.ofChange filmNamesWrong)

/-- 'telecinelaw01.FilmChecks': WHATEVER THE INPUT: true; the input reads as it did. -/
def filmChecksSpec : ChangeSpec := { name := "filmChecks", fn := fun _ => fun
  | [d] => { results := [.lit (.bool true)], args := [d] }
  | _ => none }
def filmChecksRow : OpenClaim := { program := "ytgjpbffoalldkaagreatdoor", sum := "b38360cdb7b2e50f738c7767874bdc4e61684d0f535b524656e3ce301406e835", func := "telecine/telecinelaw01.FilmChecks", spec := "filmChecks", inPlace := ["internal/bytealg.CountString", "internal/bytealg.IndexByteString", "internal/bytealg.IndexString", "internal/abi.NoEscape", "internal/bytealg.MakeNoZero"], unfollowed := true, recurses := true, named := ["telecine/film.stocks", "unicode/utf8.first", "unicode/utf8.acceptRanges", "internal/bytealg.MaxLen", "telecine/film.baseWords", "internal/strconv.uint64pow10", "math/bits.deBruijn32tab", "math/bits.deBruijn64tab"], apart := false, laid := [("math/bits.deBruijn32tab", laid_math_bits_deBruijn32tab), ("math/bits.deBruijn64tab", laid_math_bits_deBruijn64tab), ("internal/strconv.uint64pow10", laid_internal_strconv_uint64pow10), ("unicode/utf8.acceptRanges", laid_unicode_utf8_acceptRanges), ("telecine/film.baseWords", laid_telecine_film_baseWords), ("telecine/film.stocks", laid_telecine_film_stocks), ("unicode/utf8.first", laid_unicode_utf8_first)] }
def FilmChecksSaid : Prop := filmChecksRow.holds Tryz.pinned (OpenSpec.ofChange filmChecksSpec)

/-- ITS FALSE NEIGHBOUR: 'it returns false'. Refute it at one input. -/
def filmChecksWrong : ChangeSpec := { name := "filmChecks", fn := fun _ => fun
  | [d] => { results := [.lit (.bool false)], args := [d] }
  | _ => none }
def FilmChecksWrongFalsely : Prop := filmChecksRow.holds Tryz.pinned (OpenSpec.ofChange filmChecksWrong)

/-- 'telecinelaw01.FilmFeet': WHATEVER THE INPUT: true; the input reads as it did. -/
def filmFeetSpec : ChangeSpec := { name := "filmFeet", fn := fun _ => fun
  | [d1, d2] => { results := [.lit (.bool true)], args := [d1, d2] }
  | _ => none }
def filmFeetRow : OpenClaim := { program := "ytgjpbffoalldkaagreatdoor", sum := "b38360cdb7b2e50f738c7767874bdc4e61684d0f535b524656e3ce301406e835", func := "telecine/telecinelaw01.FilmFeet", spec := "filmFeet", inPlace := ["internal/bytealg.CountString", "internal/bytealg.IndexByteString", "internal/bytealg.IndexString", "internal/abi.NoEscape", "internal/bytealg.MakeNoZero"], unfollowed := true, recurses := true, named := ["telecine/film.stocks", "unicode/utf8.first", "unicode/utf8.acceptRanges", "internal/bytealg.MaxLen", "telecine/film.baseWords", "internal/strconv.uint64pow10", "math/bits.deBruijn32tab", "math/bits.deBruijn64tab"], apart := false, laid := [("math/bits.deBruijn32tab", laid_math_bits_deBruijn32tab), ("math/bits.deBruijn64tab", laid_math_bits_deBruijn64tab), ("internal/strconv.uint64pow10", laid_internal_strconv_uint64pow10), ("unicode/utf8.acceptRanges", laid_unicode_utf8_acceptRanges), ("telecine/film.baseWords", laid_telecine_film_baseWords), ("telecine/film.stocks", laid_telecine_film_stocks), ("unicode/utf8.first", laid_unicode_utf8_first)] }
def FilmFeetSaid : Prop := filmFeetRow.holds Tryz.pinned (OpenSpec.ofChange filmFeetSpec)

/-- ITS FALSE NEIGHBOUR: 'it returns false'. Refute it at one input. -/
def filmFeetWrong : ChangeSpec := { name := "filmFeet", fn := fun _ => fun
  | [d1, d2] => { results := [.lit (.bool false)], args := [d1, d2] }
  | _ => none }
def FilmFeetWrongFalsely : Prop := filmFeetRow.holds Tryz.pinned (OpenSpec.ofChange filmFeetWrong)

/-- 'telecinelaw01.FilmGaps': WHATEVER THE INPUT: true; the input reads as it did. -/
def filmGapsSpec : ChangeSpec := { name := "filmGaps", fn := fun _ => fun
  | [d1, d2] => { results := [.lit (.bool true)], args := [d1, d2] }
  | _ => none }
def filmGapsRow : OpenClaim := { program := "ytgjpbffoalldkaagreatdoor", sum := "b38360cdb7b2e50f738c7767874bdc4e61684d0f535b524656e3ce301406e835", func := "telecine/telecinelaw01.FilmGaps", spec := "filmGaps", inPlace := ["internal/bytealg.CountString", "internal/bytealg.IndexByteString", "internal/bytealg.IndexString", "internal/abi.NoEscape", "internal/bytealg.MakeNoZero"], unfollowed := true, recurses := true, named := ["telecine/film.stocks", "unicode/utf8.first", "unicode/utf8.acceptRanges", "internal/bytealg.MaxLen", "telecine/film.baseWords", "internal/strconv.uint64pow10", "math/bits.deBruijn32tab", "math/bits.deBruijn64tab"], apart := false, laid := [("math/bits.deBruijn32tab", laid_math_bits_deBruijn32tab), ("math/bits.deBruijn64tab", laid_math_bits_deBruijn64tab), ("internal/strconv.uint64pow10", laid_internal_strconv_uint64pow10), ("unicode/utf8.acceptRanges", laid_unicode_utf8_acceptRanges), ("telecine/film.baseWords", laid_telecine_film_baseWords), ("telecine/film.stocks", laid_telecine_film_stocks), ("unicode/utf8.first", laid_unicode_utf8_first)] }
def FilmGapsSaid : Prop := filmGapsRow.holds Tryz.pinned (OpenSpec.ofChange filmGapsSpec)

/-- ITS FALSE NEIGHBOUR: 'it returns false'. Refute it at one input. -/
def filmGapsWrong : ChangeSpec := { name := "filmGaps", fn := fun _ => fun
  | [d1, d2] => { results := [.lit (.bool false)], args := [d1, d2] }
  | _ => none }
def FilmGapsWrongFalsely : Prop := filmGapsRow.holds Tryz.pinned (OpenSpec.ofChange filmGapsWrong)

/-- 'telecinelaw01.FilmYears': WHATEVER THE INPUT: true; the input reads as it did. -/
def filmYearsSpec : ChangeSpec := { name := "filmYears", fn := fun _ => fun
  | [d] => { results := [.lit (.bool true)], args := [d] }
  | _ => none }
def filmYearsRow : OpenClaim := { program := "ytgjpbffoalldkaagreatdoor", sum := "b38360cdb7b2e50f738c7767874bdc4e61684d0f535b524656e3ce301406e835", func := "telecine/telecinelaw01.FilmYears", spec := "filmYears", inPlace := ["internal/bytealg.CountString", "internal/bytealg.IndexByteString", "internal/bytealg.IndexString", "internal/abi.NoEscape", "internal/bytealg.MakeNoZero"], unfollowed := true, recurses := true, named := ["telecine/film.stocks", "unicode/utf8.first", "unicode/utf8.acceptRanges", "internal/bytealg.MaxLen", "telecine/film.baseWords", "internal/strconv.uint64pow10", "math/bits.deBruijn32tab", "math/bits.deBruijn64tab"], apart := false, laid := [("math/bits.deBruijn32tab", laid_math_bits_deBruijn32tab), ("math/bits.deBruijn64tab", laid_math_bits_deBruijn64tab), ("internal/strconv.uint64pow10", laid_internal_strconv_uint64pow10), ("unicode/utf8.acceptRanges", laid_unicode_utf8_acceptRanges), ("telecine/film.baseWords", laid_telecine_film_baseWords), ("telecine/film.stocks", laid_telecine_film_stocks), ("unicode/utf8.first", laid_unicode_utf8_first)] }
def FilmYearsSaid : Prop := filmYearsRow.holds Tryz.pinned (OpenSpec.ofChange filmYearsSpec)

/-- ITS FALSE NEIGHBOUR: 'it returns false'. Refute it at one input. -/
def filmYearsWrong : ChangeSpec := { name := "filmYears", fn := fun _ => fun
  | [d] => { results := [.lit (.bool false)], args := [d] }
  | _ => none }
def FilmYearsWrongFalsely : Prop := filmYearsRow.holds Tryz.pinned (OpenSpec.ofChange filmYearsWrong)

/-- 'telecinelaw01.FilmCards': WHATEVER THE INPUT: true; the input reads as it did. -/
def filmCardsSpec : ChangeSpec := { name := "filmCards", fn := fun _ => fun
  | [d1, d2] => { results := [.lit (.bool true)], args := [d1, d2] }
  | _ => none }
def filmCardsRow : OpenClaim := { program := "ytgjpbffoalldkaagreatdoor", sum := "b38360cdb7b2e50f738c7767874bdc4e61684d0f535b524656e3ce301406e835", func := "telecine/telecinelaw01.FilmCards", spec := "filmCards", inPlace := ["internal/bytealg.CountString", "internal/bytealg.IndexByteString", "internal/bytealg.IndexString", "internal/abi.NoEscape", "internal/bytealg.MakeNoZero"], unfollowed := true, recurses := true, named := ["telecine/film.baseWords", "telecine/film.stocks", "unicode/utf8.first", "unicode/utf8.acceptRanges", "internal/bytealg.MaxLen", "internal/strconv.uint64pow10", "math/bits.deBruijn32tab", "math/bits.deBruijn64tab", "strconv.ErrSyntax", "strconv.ErrRange"], apart := false, laid := [("math/bits.deBruijn32tab", laid_math_bits_deBruijn32tab), ("math/bits.deBruijn64tab", laid_math_bits_deBruijn64tab), ("internal/strconv.uint64pow10", laid_internal_strconv_uint64pow10), ("unicode/utf8.acceptRanges", laid_unicode_utf8_acceptRanges), ("strconv.ErrRange", laid_strconv_ErrRange), ("strconv.ErrSyntax", laid_strconv_ErrSyntax), ("telecine/film.baseWords", laid_telecine_film_baseWords), ("telecine/film.stocks", laid_telecine_film_stocks), ("unicode/utf8.first", laid_unicode_utf8_first)] }
def FilmCardsSaid : Prop := filmCardsRow.holds Tryz.pinned (OpenSpec.ofChange filmCardsSpec)

/-- ITS FALSE NEIGHBOUR: 'it returns false'. Refute it at one input. -/
def filmCardsWrong : ChangeSpec := { name := "filmCards", fn := fun _ => fun
  | [d1, d2] => { results := [.lit (.bool false)], args := [d1, d2] }
  | _ => none }
def FilmCardsWrongFalsely : Prop := filmCardsRow.holds Tryz.pinned (OpenSpec.ofChange filmCardsWrong)

/-- 'telecinelaw01.FilmCut': WHATEVER THE INPUT: true; the input reads as it did. -/
def filmCutSpec : ChangeSpec := { name := "filmCut", fn := fun _ => fun
  | [d1, d2, d3] => { results := [.lit (.bool true)], args := [d1, d2, d3] }
  | _ => none }
def filmCutRow : OpenClaim := { program := "ytgjpbffoalldkaagreatdoor", sum := "b38360cdb7b2e50f738c7767874bdc4e61684d0f535b524656e3ce301406e835", func := "telecine/telecinelaw01.FilmCut", spec := "filmCut", inPlace := ["internal/bytealg.CountString", "internal/bytealg.IndexByteString", "internal/bytealg.IndexString", "internal/abi.NoEscape", "internal/bytealg.MakeNoZero"], unfollowed := true, recurses := true, named := ["telecine/film.stocks", "unicode/utf8.first", "unicode/utf8.acceptRanges", "internal/bytealg.MaxLen", "telecine/film.baseWords", "internal/strconv.uint64pow10", "math/bits.deBruijn32tab", "math/bits.deBruijn64tab"], apart := false, laid := [("math/bits.deBruijn32tab", laid_math_bits_deBruijn32tab), ("math/bits.deBruijn64tab", laid_math_bits_deBruijn64tab), ("internal/strconv.uint64pow10", laid_internal_strconv_uint64pow10), ("unicode/utf8.acceptRanges", laid_unicode_utf8_acceptRanges), ("telecine/film.baseWords", laid_telecine_film_baseWords), ("telecine/film.stocks", laid_telecine_film_stocks), ("unicode/utf8.first", laid_unicode_utf8_first)] }
def FilmCutSaid : Prop := filmCutRow.holds Tryz.pinned (OpenSpec.ofChange filmCutSpec)

/-- ITS FALSE NEIGHBOUR: 'it returns false'. Refute it at one input. -/
def filmCutWrong : ChangeSpec := { name := "filmCut", fn := fun _ => fun
  | [d1, d2, d3] => { results := [.lit (.bool false)], args := [d1, d2, d3] }
  | _ => none }
def FilmCutWrongFalsely : Prop := filmCutRow.holds Tryz.pinned (OpenSpec.ofChange filmCutWrong)

/-- 'telecinelaw01.FilmDated': WHATEVER THE INPUT: true; the input reads as it did. -/
def filmDatedSpec : ChangeSpec := { name := "filmDated", fn := fun _ => fun
  | [d1, d2, d3] => { results := [.lit (.bool true)], args := [d1, d2, d3] }
  | _ => none }
def filmDatedRow : OpenClaim := { program := "ytgjpbffoalldkaagreatdoor", sum := "b38360cdb7b2e50f738c7767874bdc4e61684d0f535b524656e3ce301406e835", func := "telecine/telecinelaw01.FilmDated", spec := "filmDated", inPlace := ["internal/bytealg.CountString", "internal/bytealg.IndexByteString", "internal/bytealg.IndexString", "internal/abi.NoEscape", "internal/bytealg.MakeNoZero"], unfollowed := true, recurses := true, named := ["telecine/film.stocks", "unicode/utf8.first", "unicode/utf8.acceptRanges", "internal/bytealg.MaxLen", "telecine/film.baseWords", "internal/strconv.uint64pow10", "math/bits.deBruijn32tab", "math/bits.deBruijn64tab"], apart := false, laid := [("math/bits.deBruijn32tab", laid_math_bits_deBruijn32tab), ("math/bits.deBruijn64tab", laid_math_bits_deBruijn64tab), ("internal/strconv.uint64pow10", laid_internal_strconv_uint64pow10), ("unicode/utf8.acceptRanges", laid_unicode_utf8_acceptRanges), ("telecine/film.baseWords", laid_telecine_film_baseWords), ("telecine/film.stocks", laid_telecine_film_stocks), ("unicode/utf8.first", laid_unicode_utf8_first)] }
def FilmDatedSaid : Prop := filmDatedRow.holds Tryz.pinned (OpenSpec.ofChange filmDatedSpec)

/-- ITS FALSE NEIGHBOUR: 'it returns false'. Refute it at one input. -/
def filmDatedWrong : ChangeSpec := { name := "filmDated", fn := fun _ => fun
  | [d1, d2, d3] => { results := [.lit (.bool false)], args := [d1, d2, d3] }
  | _ => none }
def FilmDatedWrongFalsely : Prop := filmDatedRow.holds Tryz.pinned (OpenSpec.ofChange filmDatedWrong)

/-- 'telecinelaw01.FilmShrunk': WHATEVER THE INPUT: true; the input reads as it did. -/
def filmShrunkSpec : ChangeSpec := { name := "filmShrunk", fn := fun _ => fun
  | [d1, d2, d3] => { results := [.lit (.bool true)], args := [d1, d2, d3] }
  | _ => none }
def filmShrunkRow : OpenClaim := { program := "ytgjpbffoalldkaagreatdoor", sum := "b38360cdb7b2e50f738c7767874bdc4e61684d0f535b524656e3ce301406e835", func := "telecine/telecinelaw01.FilmShrunk", spec := "filmShrunk", inPlace := ["internal/bytealg.CountString", "internal/bytealg.IndexByteString", "internal/bytealg.IndexString", "internal/abi.NoEscape", "internal/bytealg.MakeNoZero"], unfollowed := true, recurses := true, named := ["telecine/film.stocks", "unicode/utf8.first", "unicode/utf8.acceptRanges", "internal/bytealg.MaxLen", "telecine/film.baseWords", "internal/strconv.uint64pow10", "math/bits.deBruijn32tab", "math/bits.deBruijn64tab"], apart := false, laid := [("math/bits.deBruijn32tab", laid_math_bits_deBruijn32tab), ("math/bits.deBruijn64tab", laid_math_bits_deBruijn64tab), ("internal/strconv.uint64pow10", laid_internal_strconv_uint64pow10), ("unicode/utf8.acceptRanges", laid_unicode_utf8_acceptRanges), ("telecine/film.baseWords", laid_telecine_film_baseWords), ("telecine/film.stocks", laid_telecine_film_stocks), ("unicode/utf8.first", laid_unicode_utf8_first)] }
def FilmShrunkSaid : Prop := filmShrunkRow.holds Tryz.pinned (OpenSpec.ofChange filmShrunkSpec)

/-- ITS FALSE NEIGHBOUR: 'it returns false'. Refute it at one input. -/
def filmShrunkWrong : ChangeSpec := { name := "filmShrunk", fn := fun _ => fun
  | [d1, d2, d3] => { results := [.lit (.bool false)], args := [d1, d2, d3] }
  | _ => none }
def FilmShrunkWrongFalsely : Prop := filmShrunkRow.holds Tryz.pinned (OpenSpec.ofChange filmShrunkWrong)

/-- 'telecinelaw01.FilmFurther': WHATEVER THE INPUT: true; the input reads as it did. -/
def filmFurtherSpec : ChangeSpec := { name := "filmFurther", fn := fun _ => fun
  | [d1, d2, d3] => { results := [.lit (.bool true)], args := [d1, d2, d3] }
  | _ => none }
def filmFurtherRow : OpenClaim := { program := "ytgjpbffoalldkaagreatdoor", sum := "b38360cdb7b2e50f738c7767874bdc4e61684d0f535b524656e3ce301406e835", func := "telecine/telecinelaw01.FilmFurther", spec := "filmFurther", inPlace := ["internal/bytealg.CountString", "internal/bytealg.IndexByteString", "internal/bytealg.IndexString", "internal/abi.NoEscape", "internal/bytealg.MakeNoZero"], unfollowed := true, recurses := true, named := ["telecine/film.stocks", "unicode/utf8.first", "unicode/utf8.acceptRanges", "internal/bytealg.MaxLen", "telecine/film.baseWords", "internal/strconv.uint64pow10", "math/bits.deBruijn32tab", "math/bits.deBruijn64tab"], apart := false, laid := [("math/bits.deBruijn32tab", laid_math_bits_deBruijn32tab), ("math/bits.deBruijn64tab", laid_math_bits_deBruijn64tab), ("internal/strconv.uint64pow10", laid_internal_strconv_uint64pow10), ("unicode/utf8.acceptRanges", laid_unicode_utf8_acceptRanges), ("telecine/film.baseWords", laid_telecine_film_baseWords), ("telecine/film.stocks", laid_telecine_film_stocks), ("unicode/utf8.first", laid_unicode_utf8_first)] }
def FilmFurtherSaid : Prop := filmFurtherRow.holds Tryz.pinned (OpenSpec.ofChange filmFurtherSpec)

/-- ITS FALSE NEIGHBOUR: 'it returns false'. Refute it at one input. -/
def filmFurtherWrong : ChangeSpec := { name := "filmFurther", fn := fun _ => fun
  | [d1, d2, d3] => { results := [.lit (.bool false)], args := [d1, d2, d3] }
  | _ => none }
def FilmFurtherWrongFalsely : Prop := filmFurtherRow.holds Tryz.pinned (OpenSpec.ofChange filmFurtherWrong)

/-- 'telecinelaw01.FilmTurned': WHATEVER THE INPUT: true; the input reads as it did. -/
def filmTurnedSpec : ChangeSpec := { name := "filmTurned", fn := fun _ => fun
  | [d1, d2] => { results := [.lit (.bool true)], args := [d1, d2] }
  | _ => none }
def filmTurnedRow : OpenClaim := { program := "ytgjpbffoalldkaagreatdoor", sum := "b38360cdb7b2e50f738c7767874bdc4e61684d0f535b524656e3ce301406e835", func := "telecine/telecinelaw01.FilmTurned", spec := "filmTurned", inPlace := ["internal/bytealg.CountString", "internal/bytealg.IndexByteString", "internal/bytealg.IndexString", "internal/abi.NoEscape", "internal/bytealg.MakeNoZero"], unfollowed := true, recurses := true, named := ["telecine/film.stocks", "unicode/utf8.first", "unicode/utf8.acceptRanges", "internal/bytealg.MaxLen", "telecine/film.baseWords", "internal/strconv.uint64pow10", "math/bits.deBruijn32tab", "math/bits.deBruijn64tab"], apart := false, laid := [("math/bits.deBruijn32tab", laid_math_bits_deBruijn32tab), ("math/bits.deBruijn64tab", laid_math_bits_deBruijn64tab), ("internal/strconv.uint64pow10", laid_internal_strconv_uint64pow10), ("unicode/utf8.acceptRanges", laid_unicode_utf8_acceptRanges), ("telecine/film.baseWords", laid_telecine_film_baseWords), ("telecine/film.stocks", laid_telecine_film_stocks), ("unicode/utf8.first", laid_unicode_utf8_first)] }
def FilmTurnedSaid : Prop := filmTurnedRow.holds Tryz.pinned (OpenSpec.ofChange filmTurnedSpec)

/-- ITS FALSE NEIGHBOUR: 'it returns false'. Refute it at one input. -/
def filmTurnedWrong : ChangeSpec := { name := "filmTurned", fn := fun _ => fun
  | [d1, d2] => { results := [.lit (.bool false)], args := [d1, d2] }
  | _ => none }
def FilmTurnedWrongFalsely : Prop := filmTurnedRow.holds Tryz.pinned (OpenSpec.ofChange filmTurnedWrong)

/-- 'telecinelaw01.FilmRound': WHATEVER THE INPUT: true; the input reads as it did. -/
def filmRoundSpec : ChangeSpec := { name := "filmRound", fn := fun _ => fun
  | [d1, d2] => { results := [.lit (.bool true)], args := [d1, d2] }
  | _ => none }
def filmRoundRow : OpenClaim := { program := "ytgjpbffoalldkaagreatdoor", sum := "b38360cdb7b2e50f738c7767874bdc4e61684d0f535b524656e3ce301406e835", func := "telecine/telecinelaw01.FilmRound", spec := "filmRound", inPlace := ["internal/bytealg.CountString", "internal/bytealg.IndexByteString", "internal/bytealg.IndexString", "internal/abi.NoEscape", "internal/bytealg.MakeNoZero"], unfollowed := true, recurses := true, named := ["telecine/film.baseWords", "telecine/film.stocks", "unicode/utf8.first", "unicode/utf8.acceptRanges", "internal/bytealg.MaxLen", "internal/strconv.uint64pow10", "math/bits.deBruijn32tab", "math/bits.deBruijn64tab", "strconv.ErrSyntax", "strconv.ErrRange"], apart := false, laid := [("math/bits.deBruijn32tab", laid_math_bits_deBruijn32tab), ("math/bits.deBruijn64tab", laid_math_bits_deBruijn64tab), ("internal/strconv.uint64pow10", laid_internal_strconv_uint64pow10), ("unicode/utf8.acceptRanges", laid_unicode_utf8_acceptRanges), ("strconv.ErrRange", laid_strconv_ErrRange), ("strconv.ErrSyntax", laid_strconv_ErrSyntax), ("telecine/film.baseWords", laid_telecine_film_baseWords), ("telecine/film.stocks", laid_telecine_film_stocks), ("unicode/utf8.first", laid_unicode_utf8_first)] }
def FilmRoundSaid : Prop := filmRoundRow.holds Tryz.pinned (OpenSpec.ofChange filmRoundSpec)

/-- ITS FALSE NEIGHBOUR: 'it returns false'. Refute it at one input. -/
def filmRoundWrong : ChangeSpec := { name := "filmRound", fn := fun _ => fun
  | [d1, d2] => { results := [.lit (.bool false)], args := [d1, d2] }
  | _ => none }
def FilmRoundWrongFalsely : Prop := filmRoundRow.holds Tryz.pinned (OpenSpec.ofChange filmRoundWrong)

/-- 'telecinelaw01.FilmKnown': WHATEVER THE INPUT: true; the input reads as it did. -/
def filmKnownSpec : ChangeSpec := { name := "filmKnown", fn := fun _ => fun
  | [] => { results := [.lit (.bool true)], args := [] }
  | _ => none }
def filmKnownRow : OpenClaim := { program := "ytgjpbffoalldkaagreatdoor", sum := "b38360cdb7b2e50f738c7767874bdc4e61684d0f535b524656e3ce301406e835", func := "telecine/telecinelaw01.FilmKnown", spec := "filmKnown", inPlace := ["internal/bytealg.CountString", "internal/bytealg.IndexByteString", "internal/bytealg.IndexString", "internal/abi.NoEscape", "internal/bytealg.MakeNoZero"], unfollowed := true, recurses := true, named := ["telecine/film.stocks", "unicode/utf8.first", "unicode/utf8.acceptRanges", "internal/bytealg.MaxLen", "telecine/film.baseWords", "internal/strconv.uint64pow10", "math/bits.deBruijn32tab", "math/bits.deBruijn64tab"], apart := false, laid := [("math/bits.deBruijn32tab", laid_math_bits_deBruijn32tab), ("math/bits.deBruijn64tab", laid_math_bits_deBruijn64tab), ("internal/strconv.uint64pow10", laid_internal_strconv_uint64pow10), ("unicode/utf8.acceptRanges", laid_unicode_utf8_acceptRanges), ("telecine/film.baseWords", laid_telecine_film_baseWords), ("telecine/film.stocks", laid_telecine_film_stocks), ("unicode/utf8.first", laid_unicode_utf8_first)] }
def FilmKnownSaid : Prop := filmKnownRow.holds Tryz.pinned (OpenSpec.ofChange filmKnownSpec)

/-- ITS FALSE NEIGHBOUR: 'it returns false'. Refute it at one input. -/
def filmKnownWrong : ChangeSpec := { name := "filmKnown", fn := fun _ => fun
  | [] => { results := [.lit (.bool false)], args := [] }
  | _ => none }
def FilmKnownWrongFalsely : Prop := filmKnownRow.holds Tryz.pinned (OpenSpec.ofChange filmKnownWrong)

/- THE SECOND FORM. 'bulk': how many values and letters a reading holds, each counted each time it is reached (what is shared counts as often as it is met; a slice's spare places count too). A statement '..UptoSaid' is the law's where the arguments, and the package variables that the reading takes, are together of bulk at most 1048576: NARROWER than '..Said'. Prove '..Said' where nothing that the law and all that it calls make is longer than what came in: it says more and counts as full. Else prove '..UptoSaid'. A law counts once. -/
mutual
def uptoBulk {H : Type} : DataW H → Nat
  | .lit (.string bytes) => bytes.length + 1
  | .lit _ => 1
  | .nil => 1
  | .ptr d => uptoBulk d + 1
  | .slice elems spare => uptoBulkAll elems + uptoBulkAll spare + 1
  | .agg parts => uptoBulkAll parts + 1
  | .iface _ d => uptoBulk d + 1
  | .map entries => uptoBulkEntries entries + 1
  | .held _ => 1
def uptoBulkAll {H : Type} : List (DataW H) → Nat
  | [] => 0
  | d :: r => uptoBulk d + uptoBulkAll r
def uptoBulkEntries {H : Type} : List (Lit × DataW H) → Nat
  | [] => 0
  | x :: r => uptoBulkEntry x + uptoBulkEntries r
def uptoBulkEntry {H : Type} : Lit × DataW H → Nat
  | (.string bytes, d) => bytes.length + uptoBulk d + 1
  | (_, d) => uptoBulk d + 1
 end
def uptoSmall : (H : Type) → List (DataW H) → Bool := fun _ ds => decide (uptoBulkAll ds ≤ 1048576)
def OpenSpec.upto (s : _root_.Go.ChangeSpec) : _root_.Go.OpenSpec := { _root_.Go.OpenSpec.ofChange s with cond := some uptoSmall }

/-- 'telecinelaw01.FilmNames', WHERE WHAT IT READS IS OF BULK AT MOST 1048576: true; the input reads as it did. -/
def filmNamesUptoRow : OpenClaim := { program := "ytgjpbffoalldkaagreatdoor", sum := "b38360cdb7b2e50f738c7767874bdc4e61684d0f535b524656e3ce301406e835", func := "telecine/telecinelaw01.FilmNames", spec := "filmNames", inPlace := ["internal/bytealg.CountString", "internal/bytealg.IndexByteString", "internal/bytealg.IndexString", "internal/abi.NoEscape", "internal/bytealg.MakeNoZero"], unfollowed := true, recurses := true, named := ["unicode/utf8.first", "unicode/utf8.acceptRanges", "internal/bytealg.MaxLen", "telecine/film.stocks", "telecine/film.baseWords", "internal/strconv.uint64pow10", "math/bits.deBruijn32tab", "math/bits.deBruijn64tab"], apart := false, laid := [("math/bits.deBruijn32tab", laid_math_bits_deBruijn32tab), ("math/bits.deBruijn64tab", laid_math_bits_deBruijn64tab), ("internal/strconv.uint64pow10", laid_internal_strconv_uint64pow10), ("unicode/utf8.acceptRanges", laid_unicode_utf8_acceptRanges), ("telecine/film.baseWords", laid_telecine_film_baseWords), ("telecine/film.stocks", laid_telecine_film_stocks), ("unicode/utf8.first", laid_unicode_utf8_first)], narrowed := true }
def FilmNamesUptoSaid : Prop := filmNamesUptoRow.holds Tryz.pinned (OpenSpec.upto filmNamesSpec)

/-- 'telecinelaw01.FilmChecks', WHERE WHAT IT READS IS OF BULK AT MOST 1048576: true; the input reads as it did. -/
def filmChecksUptoRow : OpenClaim := { program := "ytgjpbffoalldkaagreatdoor", sum := "b38360cdb7b2e50f738c7767874bdc4e61684d0f535b524656e3ce301406e835", func := "telecine/telecinelaw01.FilmChecks", spec := "filmChecks", inPlace := ["internal/bytealg.CountString", "internal/bytealg.IndexByteString", "internal/bytealg.IndexString", "internal/abi.NoEscape", "internal/bytealg.MakeNoZero"], unfollowed := true, recurses := true, named := ["telecine/film.stocks", "unicode/utf8.first", "unicode/utf8.acceptRanges", "internal/bytealg.MaxLen", "telecine/film.baseWords", "internal/strconv.uint64pow10", "math/bits.deBruijn32tab", "math/bits.deBruijn64tab"], apart := false, laid := [("math/bits.deBruijn32tab", laid_math_bits_deBruijn32tab), ("math/bits.deBruijn64tab", laid_math_bits_deBruijn64tab), ("internal/strconv.uint64pow10", laid_internal_strconv_uint64pow10), ("unicode/utf8.acceptRanges", laid_unicode_utf8_acceptRanges), ("telecine/film.baseWords", laid_telecine_film_baseWords), ("telecine/film.stocks", laid_telecine_film_stocks), ("unicode/utf8.first", laid_unicode_utf8_first)], narrowed := true }
def FilmChecksUptoSaid : Prop := filmChecksUptoRow.holds Tryz.pinned (OpenSpec.upto filmChecksSpec)

/-- 'telecinelaw01.FilmFeet', WHERE WHAT IT READS IS OF BULK AT MOST 1048576: true; the input reads as it did. -/
def filmFeetUptoRow : OpenClaim := { program := "ytgjpbffoalldkaagreatdoor", sum := "b38360cdb7b2e50f738c7767874bdc4e61684d0f535b524656e3ce301406e835", func := "telecine/telecinelaw01.FilmFeet", spec := "filmFeet", inPlace := ["internal/bytealg.CountString", "internal/bytealg.IndexByteString", "internal/bytealg.IndexString", "internal/abi.NoEscape", "internal/bytealg.MakeNoZero"], unfollowed := true, recurses := true, named := ["telecine/film.stocks", "unicode/utf8.first", "unicode/utf8.acceptRanges", "internal/bytealg.MaxLen", "telecine/film.baseWords", "internal/strconv.uint64pow10", "math/bits.deBruijn32tab", "math/bits.deBruijn64tab"], apart := false, laid := [("math/bits.deBruijn32tab", laid_math_bits_deBruijn32tab), ("math/bits.deBruijn64tab", laid_math_bits_deBruijn64tab), ("internal/strconv.uint64pow10", laid_internal_strconv_uint64pow10), ("unicode/utf8.acceptRanges", laid_unicode_utf8_acceptRanges), ("telecine/film.baseWords", laid_telecine_film_baseWords), ("telecine/film.stocks", laid_telecine_film_stocks), ("unicode/utf8.first", laid_unicode_utf8_first)], narrowed := true }
def FilmFeetUptoSaid : Prop := filmFeetUptoRow.holds Tryz.pinned (OpenSpec.upto filmFeetSpec)

/-- 'telecinelaw01.FilmGaps', WHERE WHAT IT READS IS OF BULK AT MOST 1048576: true; the input reads as it did. -/
def filmGapsUptoRow : OpenClaim := { program := "ytgjpbffoalldkaagreatdoor", sum := "b38360cdb7b2e50f738c7767874bdc4e61684d0f535b524656e3ce301406e835", func := "telecine/telecinelaw01.FilmGaps", spec := "filmGaps", inPlace := ["internal/bytealg.CountString", "internal/bytealg.IndexByteString", "internal/bytealg.IndexString", "internal/abi.NoEscape", "internal/bytealg.MakeNoZero"], unfollowed := true, recurses := true, named := ["telecine/film.stocks", "unicode/utf8.first", "unicode/utf8.acceptRanges", "internal/bytealg.MaxLen", "telecine/film.baseWords", "internal/strconv.uint64pow10", "math/bits.deBruijn32tab", "math/bits.deBruijn64tab"], apart := false, laid := [("math/bits.deBruijn32tab", laid_math_bits_deBruijn32tab), ("math/bits.deBruijn64tab", laid_math_bits_deBruijn64tab), ("internal/strconv.uint64pow10", laid_internal_strconv_uint64pow10), ("unicode/utf8.acceptRanges", laid_unicode_utf8_acceptRanges), ("telecine/film.baseWords", laid_telecine_film_baseWords), ("telecine/film.stocks", laid_telecine_film_stocks), ("unicode/utf8.first", laid_unicode_utf8_first)], narrowed := true }
def FilmGapsUptoSaid : Prop := filmGapsUptoRow.holds Tryz.pinned (OpenSpec.upto filmGapsSpec)

/-- 'telecinelaw01.FilmYears', WHERE WHAT IT READS IS OF BULK AT MOST 1048576: true; the input reads as it did. -/
def filmYearsUptoRow : OpenClaim := { program := "ytgjpbffoalldkaagreatdoor", sum := "b38360cdb7b2e50f738c7767874bdc4e61684d0f535b524656e3ce301406e835", func := "telecine/telecinelaw01.FilmYears", spec := "filmYears", inPlace := ["internal/bytealg.CountString", "internal/bytealg.IndexByteString", "internal/bytealg.IndexString", "internal/abi.NoEscape", "internal/bytealg.MakeNoZero"], unfollowed := true, recurses := true, named := ["telecine/film.stocks", "unicode/utf8.first", "unicode/utf8.acceptRanges", "internal/bytealg.MaxLen", "telecine/film.baseWords", "internal/strconv.uint64pow10", "math/bits.deBruijn32tab", "math/bits.deBruijn64tab"], apart := false, laid := [("math/bits.deBruijn32tab", laid_math_bits_deBruijn32tab), ("math/bits.deBruijn64tab", laid_math_bits_deBruijn64tab), ("internal/strconv.uint64pow10", laid_internal_strconv_uint64pow10), ("unicode/utf8.acceptRanges", laid_unicode_utf8_acceptRanges), ("telecine/film.baseWords", laid_telecine_film_baseWords), ("telecine/film.stocks", laid_telecine_film_stocks), ("unicode/utf8.first", laid_unicode_utf8_first)], narrowed := true }
def FilmYearsUptoSaid : Prop := filmYearsUptoRow.holds Tryz.pinned (OpenSpec.upto filmYearsSpec)

/-- 'telecinelaw01.FilmCards', WHERE WHAT IT READS IS OF BULK AT MOST 1048576: true; the input reads as it did. -/
def filmCardsUptoRow : OpenClaim := { program := "ytgjpbffoalldkaagreatdoor", sum := "b38360cdb7b2e50f738c7767874bdc4e61684d0f535b524656e3ce301406e835", func := "telecine/telecinelaw01.FilmCards", spec := "filmCards", inPlace := ["internal/bytealg.CountString", "internal/bytealg.IndexByteString", "internal/bytealg.IndexString", "internal/abi.NoEscape", "internal/bytealg.MakeNoZero"], unfollowed := true, recurses := true, named := ["telecine/film.baseWords", "telecine/film.stocks", "unicode/utf8.first", "unicode/utf8.acceptRanges", "internal/bytealg.MaxLen", "internal/strconv.uint64pow10", "math/bits.deBruijn32tab", "math/bits.deBruijn64tab", "strconv.ErrSyntax", "strconv.ErrRange"], apart := false, laid := [("math/bits.deBruijn32tab", laid_math_bits_deBruijn32tab), ("math/bits.deBruijn64tab", laid_math_bits_deBruijn64tab), ("internal/strconv.uint64pow10", laid_internal_strconv_uint64pow10), ("unicode/utf8.acceptRanges", laid_unicode_utf8_acceptRanges), ("strconv.ErrRange", laid_strconv_ErrRange), ("strconv.ErrSyntax", laid_strconv_ErrSyntax), ("telecine/film.baseWords", laid_telecine_film_baseWords), ("telecine/film.stocks", laid_telecine_film_stocks), ("unicode/utf8.first", laid_unicode_utf8_first)], narrowed := true }
def FilmCardsUptoSaid : Prop := filmCardsUptoRow.holds Tryz.pinned (OpenSpec.upto filmCardsSpec)

/-- 'telecinelaw01.FilmCut', WHERE WHAT IT READS IS OF BULK AT MOST 1048576: true; the input reads as it did. -/
def filmCutUptoRow : OpenClaim := { program := "ytgjpbffoalldkaagreatdoor", sum := "b38360cdb7b2e50f738c7767874bdc4e61684d0f535b524656e3ce301406e835", func := "telecine/telecinelaw01.FilmCut", spec := "filmCut", inPlace := ["internal/bytealg.CountString", "internal/bytealg.IndexByteString", "internal/bytealg.IndexString", "internal/abi.NoEscape", "internal/bytealg.MakeNoZero"], unfollowed := true, recurses := true, named := ["telecine/film.stocks", "unicode/utf8.first", "unicode/utf8.acceptRanges", "internal/bytealg.MaxLen", "telecine/film.baseWords", "internal/strconv.uint64pow10", "math/bits.deBruijn32tab", "math/bits.deBruijn64tab"], apart := false, laid := [("math/bits.deBruijn32tab", laid_math_bits_deBruijn32tab), ("math/bits.deBruijn64tab", laid_math_bits_deBruijn64tab), ("internal/strconv.uint64pow10", laid_internal_strconv_uint64pow10), ("unicode/utf8.acceptRanges", laid_unicode_utf8_acceptRanges), ("telecine/film.baseWords", laid_telecine_film_baseWords), ("telecine/film.stocks", laid_telecine_film_stocks), ("unicode/utf8.first", laid_unicode_utf8_first)], narrowed := true }
def FilmCutUptoSaid : Prop := filmCutUptoRow.holds Tryz.pinned (OpenSpec.upto filmCutSpec)

/-- 'telecinelaw01.FilmDated', WHERE WHAT IT READS IS OF BULK AT MOST 1048576: true; the input reads as it did. -/
def filmDatedUptoRow : OpenClaim := { program := "ytgjpbffoalldkaagreatdoor", sum := "b38360cdb7b2e50f738c7767874bdc4e61684d0f535b524656e3ce301406e835", func := "telecine/telecinelaw01.FilmDated", spec := "filmDated", inPlace := ["internal/bytealg.CountString", "internal/bytealg.IndexByteString", "internal/bytealg.IndexString", "internal/abi.NoEscape", "internal/bytealg.MakeNoZero"], unfollowed := true, recurses := true, named := ["telecine/film.stocks", "unicode/utf8.first", "unicode/utf8.acceptRanges", "internal/bytealg.MaxLen", "telecine/film.baseWords", "internal/strconv.uint64pow10", "math/bits.deBruijn32tab", "math/bits.deBruijn64tab"], apart := false, laid := [("math/bits.deBruijn32tab", laid_math_bits_deBruijn32tab), ("math/bits.deBruijn64tab", laid_math_bits_deBruijn64tab), ("internal/strconv.uint64pow10", laid_internal_strconv_uint64pow10), ("unicode/utf8.acceptRanges", laid_unicode_utf8_acceptRanges), ("telecine/film.baseWords", laid_telecine_film_baseWords), ("telecine/film.stocks", laid_telecine_film_stocks), ("unicode/utf8.first", laid_unicode_utf8_first)], narrowed := true }
def FilmDatedUptoSaid : Prop := filmDatedUptoRow.holds Tryz.pinned (OpenSpec.upto filmDatedSpec)

/-- 'telecinelaw01.FilmShrunk', WHERE WHAT IT READS IS OF BULK AT MOST 1048576: true; the input reads as it did. -/
def filmShrunkUptoRow : OpenClaim := { program := "ytgjpbffoalldkaagreatdoor", sum := "b38360cdb7b2e50f738c7767874bdc4e61684d0f535b524656e3ce301406e835", func := "telecine/telecinelaw01.FilmShrunk", spec := "filmShrunk", inPlace := ["internal/bytealg.CountString", "internal/bytealg.IndexByteString", "internal/bytealg.IndexString", "internal/abi.NoEscape", "internal/bytealg.MakeNoZero"], unfollowed := true, recurses := true, named := ["telecine/film.stocks", "unicode/utf8.first", "unicode/utf8.acceptRanges", "internal/bytealg.MaxLen", "telecine/film.baseWords", "internal/strconv.uint64pow10", "math/bits.deBruijn32tab", "math/bits.deBruijn64tab"], apart := false, laid := [("math/bits.deBruijn32tab", laid_math_bits_deBruijn32tab), ("math/bits.deBruijn64tab", laid_math_bits_deBruijn64tab), ("internal/strconv.uint64pow10", laid_internal_strconv_uint64pow10), ("unicode/utf8.acceptRanges", laid_unicode_utf8_acceptRanges), ("telecine/film.baseWords", laid_telecine_film_baseWords), ("telecine/film.stocks", laid_telecine_film_stocks), ("unicode/utf8.first", laid_unicode_utf8_first)], narrowed := true }
def FilmShrunkUptoSaid : Prop := filmShrunkUptoRow.holds Tryz.pinned (OpenSpec.upto filmShrunkSpec)

/-- 'telecinelaw01.FilmFurther', WHERE WHAT IT READS IS OF BULK AT MOST 1048576: true; the input reads as it did. -/
def filmFurtherUptoRow : OpenClaim := { program := "ytgjpbffoalldkaagreatdoor", sum := "b38360cdb7b2e50f738c7767874bdc4e61684d0f535b524656e3ce301406e835", func := "telecine/telecinelaw01.FilmFurther", spec := "filmFurther", inPlace := ["internal/bytealg.CountString", "internal/bytealg.IndexByteString", "internal/bytealg.IndexString", "internal/abi.NoEscape", "internal/bytealg.MakeNoZero"], unfollowed := true, recurses := true, named := ["telecine/film.stocks", "unicode/utf8.first", "unicode/utf8.acceptRanges", "internal/bytealg.MaxLen", "telecine/film.baseWords", "internal/strconv.uint64pow10", "math/bits.deBruijn32tab", "math/bits.deBruijn64tab"], apart := false, laid := [("math/bits.deBruijn32tab", laid_math_bits_deBruijn32tab), ("math/bits.deBruijn64tab", laid_math_bits_deBruijn64tab), ("internal/strconv.uint64pow10", laid_internal_strconv_uint64pow10), ("unicode/utf8.acceptRanges", laid_unicode_utf8_acceptRanges), ("telecine/film.baseWords", laid_telecine_film_baseWords), ("telecine/film.stocks", laid_telecine_film_stocks), ("unicode/utf8.first", laid_unicode_utf8_first)], narrowed := true }
def FilmFurtherUptoSaid : Prop := filmFurtherUptoRow.holds Tryz.pinned (OpenSpec.upto filmFurtherSpec)

/-- 'telecinelaw01.FilmTurned', WHERE WHAT IT READS IS OF BULK AT MOST 1048576: true; the input reads as it did. -/
def filmTurnedUptoRow : OpenClaim := { program := "ytgjpbffoalldkaagreatdoor", sum := "b38360cdb7b2e50f738c7767874bdc4e61684d0f535b524656e3ce301406e835", func := "telecine/telecinelaw01.FilmTurned", spec := "filmTurned", inPlace := ["internal/bytealg.CountString", "internal/bytealg.IndexByteString", "internal/bytealg.IndexString", "internal/abi.NoEscape", "internal/bytealg.MakeNoZero"], unfollowed := true, recurses := true, named := ["telecine/film.stocks", "unicode/utf8.first", "unicode/utf8.acceptRanges", "internal/bytealg.MaxLen", "telecine/film.baseWords", "internal/strconv.uint64pow10", "math/bits.deBruijn32tab", "math/bits.deBruijn64tab"], apart := false, laid := [("math/bits.deBruijn32tab", laid_math_bits_deBruijn32tab), ("math/bits.deBruijn64tab", laid_math_bits_deBruijn64tab), ("internal/strconv.uint64pow10", laid_internal_strconv_uint64pow10), ("unicode/utf8.acceptRanges", laid_unicode_utf8_acceptRanges), ("telecine/film.baseWords", laid_telecine_film_baseWords), ("telecine/film.stocks", laid_telecine_film_stocks), ("unicode/utf8.first", laid_unicode_utf8_first)], narrowed := true }
def FilmTurnedUptoSaid : Prop := filmTurnedUptoRow.holds Tryz.pinned (OpenSpec.upto filmTurnedSpec)

/-- 'telecinelaw01.FilmRound', WHERE WHAT IT READS IS OF BULK AT MOST 1048576: true; the input reads as it did. -/
def filmRoundUptoRow : OpenClaim := { program := "ytgjpbffoalldkaagreatdoor", sum := "b38360cdb7b2e50f738c7767874bdc4e61684d0f535b524656e3ce301406e835", func := "telecine/telecinelaw01.FilmRound", spec := "filmRound", inPlace := ["internal/bytealg.CountString", "internal/bytealg.IndexByteString", "internal/bytealg.IndexString", "internal/abi.NoEscape", "internal/bytealg.MakeNoZero"], unfollowed := true, recurses := true, named := ["telecine/film.baseWords", "telecine/film.stocks", "unicode/utf8.first", "unicode/utf8.acceptRanges", "internal/bytealg.MaxLen", "internal/strconv.uint64pow10", "math/bits.deBruijn32tab", "math/bits.deBruijn64tab", "strconv.ErrSyntax", "strconv.ErrRange"], apart := false, laid := [("math/bits.deBruijn32tab", laid_math_bits_deBruijn32tab), ("math/bits.deBruijn64tab", laid_math_bits_deBruijn64tab), ("internal/strconv.uint64pow10", laid_internal_strconv_uint64pow10), ("unicode/utf8.acceptRanges", laid_unicode_utf8_acceptRanges), ("strconv.ErrRange", laid_strconv_ErrRange), ("strconv.ErrSyntax", laid_strconv_ErrSyntax), ("telecine/film.baseWords", laid_telecine_film_baseWords), ("telecine/film.stocks", laid_telecine_film_stocks), ("unicode/utf8.first", laid_unicode_utf8_first)], narrowed := true }
def FilmRoundUptoSaid : Prop := filmRoundUptoRow.holds Tryz.pinned (OpenSpec.upto filmRoundSpec)

/-- 'telecinelaw01.FilmKnown', WHERE WHAT IT READS IS OF BULK AT MOST 1048576: true; the input reads as it did. -/
def filmKnownUptoRow : OpenClaim := { program := "ytgjpbffoalldkaagreatdoor", sum := "b38360cdb7b2e50f738c7767874bdc4e61684d0f535b524656e3ce301406e835", func := "telecine/telecinelaw01.FilmKnown", spec := "filmKnown", inPlace := ["internal/bytealg.CountString", "internal/bytealg.IndexByteString", "internal/bytealg.IndexString", "internal/abi.NoEscape", "internal/bytealg.MakeNoZero"], unfollowed := true, recurses := true, named := ["telecine/film.stocks", "unicode/utf8.first", "unicode/utf8.acceptRanges", "internal/bytealg.MaxLen", "telecine/film.baseWords", "internal/strconv.uint64pow10", "math/bits.deBruijn32tab", "math/bits.deBruijn64tab"], apart := false, laid := [("math/bits.deBruijn32tab", laid_math_bits_deBruijn32tab), ("math/bits.deBruijn64tab", laid_math_bits_deBruijn64tab), ("internal/strconv.uint64pow10", laid_internal_strconv_uint64pow10), ("unicode/utf8.acceptRanges", laid_unicode_utf8_acceptRanges), ("telecine/film.baseWords", laid_telecine_film_baseWords), ("telecine/film.stocks", laid_telecine_film_stocks), ("unicode/utf8.first", laid_unicode_utf8_first)], narrowed := true }
def FilmKnownUptoSaid : Prop := filmKnownUptoRow.holds Tryz.pinned (OpenSpec.upto filmKnownSpec)

end Rows
end Go.Proofs.YtgjpbffoalldkaaGreatDoor
