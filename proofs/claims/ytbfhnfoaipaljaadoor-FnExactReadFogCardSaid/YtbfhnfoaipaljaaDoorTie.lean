/-
  DERIVED. GIVEN WITH THE SEED: THE PROGRAM's TIES (one call each: nine closed facts by the kernel) AND EACH ROW's TIE, after the 31st guide's Derived/Test/Toyas{Tie, Card}.lean. No idea stands in it: it is a product of the set-up. Laid BY PROGRAM, IN A SANDBOX (cutbox-door.mjs). By AI agents, Wed Nov 11 2026. No macro, syntax, notation, axiom, sorry.
-/
import Derived.Test.YtbfhnfoaipaljaaDoorRows
import Derived.LaidByTextLater
import Derived.SevenTiedAt
import Derived.LaidSub
import Derived.LaidOnce
namespace Go.Proofs.YtbfhnfoaipaljaaDoor
open Go
set_option maxRecDepth 100000
theorem seatTie1 : Tryd.prog.laidByTextLater [("math/bits.deBruijn32tab", Rows.laid_math_bits_deBruijn32tab), ("math/bits.deBruijn64tab", Rows.laid_math_bits_deBruijn64tab), ("internal/strconv.uint64pow10", Rows.laid_internal_strconv_uint64pow10), ("unicode/utf8.acceptRanges", Rows.laid_unicode_utf8_acceptRanges), ("strconv.ErrRange", Rows.laid_strconv_ErrRange), ("strconv.ErrSyntax", Rows.laid_strconv_ErrSyntax), ("loop.example/g00953/impl.errBlasts", Rows.laid_loop_example_g00953_impl_errBlasts), ("loop.example/g00953/impl.errPeriod", Rows.laid_loop_example_g00953_impl_errPeriod), ("loop.example/g00953/impl.errPower", Rows.laid_loop_example_g00953_impl_errPower), ("loop.example/g00953/impl.fogTable", Rows.laid_loop_example_g00953_impl_fogTable), ("loop.example/g00953/impl.soundTable", Rows.laid_loop_example_g00953_impl_soundTable)] [.data, .data, .data, .data, .sentinel, .sentinel, .sentinel, .sentinel, .sentinel, .data, .data] true :=
  Program.laidByTextLater_by_one 148 8 65 (by kernel_rfl) (by kernel_rfl) (by kernel_rfl) (by kernel_rfl) (by kernel_rfl) (by kernel_rfl) (fun _ _ => by kernel_rfl)
theorem pin_laid_unicode_utf8_first : Tryd.pinned.checked.prog.pinnedFits "unicode/utf8.first" = true := by kernel_rfl
theorem noOwnUnsafe : Tryd.pinned.checked.prog.headLifts.contains "ownunsafe" = false := by kernel_rfl
theorem tie : Tryd.prog.laidByTextLater [("loop.example/g00953/impl.fogTable", Rows.laid_loop_example_g00953_impl_fogTable)] [.data] true :=
  Program.laidByTextLater.sub seatTie1 ["loop.example/g00953/impl.fogTable"] (by kernel_rfl) (by kernel_rfl)
theorem fnExactFogName_row_tie : Rows.fnExactFogNameRow.laidByTextAt .later Tryd.pinned [.data] true :=
  OpenClaim.laidByTextAt_later rfl rfl tie noOwnUnsafe
theorem fnExactBlastLength_row_tie : Rows.fnExactBlastLengthRow.laidByTextAt .later Tryd.pinned [.data] true :=
  OpenClaim.laidByTextAt_later rfl rfl tie noOwnUnsafe
theorem tie2 : Tryd.prog.laidByTextLater [("loop.example/g00953/impl.errBlasts", Rows.laid_loop_example_g00953_impl_errBlasts), ("loop.example/g00953/impl.errPeriod", Rows.laid_loop_example_g00953_impl_errPeriod), ("loop.example/g00953/impl.errPower", Rows.laid_loop_example_g00953_impl_errPower), ("loop.example/g00953/impl.fogTable", Rows.laid_loop_example_g00953_impl_fogTable)] [.sentinel, .sentinel, .sentinel, .data] true :=
  Program.laidByTextLater.sub seatTie1 ["loop.example/g00953/impl.errBlasts", "loop.example/g00953/impl.errPeriod", "loop.example/g00953/impl.errPower", "loop.example/g00953/impl.fogTable"] (by kernel_rfl) (by kernel_rfl)
theorem fnExactValidFog_row_tie : Rows.fnExactValidFogRow.laidByTextAt .later Tryd.pinned [.sentinel, .sentinel, .sentinel, .data] true :=
  OpenClaim.laidByTextAt_later rfl rfl tie2 noOwnUnsafe
theorem fnExactLeastFogPeriod_row_tie : Rows.fnExactLeastFogPeriodRow.laidByTextAt .later Tryd.pinned [.sentinel, .sentinel, .sentinel, .data] true :=
  OpenClaim.laidByTextAt_later rfl rfl tie2 noOwnUnsafe
theorem fnExactBlastsOf_row_tie : Rows.fnExactBlastsOfRow.laidByTextAt .later Tryd.pinned [.sentinel, .sentinel, .sentinel, .data] true :=
  OpenClaim.laidByTextAt_later rfl rfl tie2 noOwnUnsafe
theorem fnExactSoundAt_row_tie : Rows.fnExactSoundAtRow.laidByTextAt .later Tryd.pinned [.sentinel, .sentinel, .sentinel, .data] true :=
  OpenClaim.laidByTextAt_later rfl rfl tie2 noOwnUnsafe
theorem fnExactNextBlast_row_tie : Rows.fnExactNextBlastRow.laidByTextAt .later Tryd.pinned [.sentinel, .sentinel, .sentinel, .data] true :=
  OpenClaim.laidByTextAt_later rfl rfl tie2 noOwnUnsafe
theorem tie3 : Tryd.prog.laidByTextLater [("loop.example/g00953/impl.soundTable", Rows.laid_loop_example_g00953_impl_soundTable)] [.data] true :=
  Program.laidByTextLater.sub seatTie1 ["loop.example/g00953/impl.soundTable"] (by kernel_rfl) (by kernel_rfl)
theorem fnExactSoundRange_row_tie : Rows.fnExactSoundRangeRow.laidByTextAt .later Tryd.pinned [.data] true :=
  OpenClaim.laidByTextAt_later rfl rfl tie3 noOwnUnsafe
theorem fnExactPowerFor_row_tie : Rows.fnExactPowerForRow.laidByTextAt .later Tryd.pinned [.data] true :=
  OpenClaim.laidByTextAt_later rfl rfl tie3 noOwnUnsafe
theorem tie4 : Tryd.prog.laidByTextLater [("loop.example/g00953/impl.errBlasts", Rows.laid_loop_example_g00953_impl_errBlasts), ("loop.example/g00953/impl.errPeriod", Rows.laid_loop_example_g00953_impl_errPeriod), ("loop.example/g00953/impl.errPower", Rows.laid_loop_example_g00953_impl_errPower), ("loop.example/g00953/impl.fogTable", Rows.laid_loop_example_g00953_impl_fogTable), ("loop.example/g00953/impl.soundTable", Rows.laid_loop_example_g00953_impl_soundTable)] [.sentinel, .sentinel, .sentinel, .data, .data] true :=
  Program.laidByTextLater.sub seatTie1 ["loop.example/g00953/impl.errBlasts", "loop.example/g00953/impl.errPeriod", "loop.example/g00953/impl.errPower", "loop.example/g00953/impl.fogTable", "loop.example/g00953/impl.soundTable"] (by kernel_rfl) (by kernel_rfl)
theorem fnExactHeardFrom_row_tie : Rows.fnExactHeardFromRow.laidByTextAt .later Tryd.pinned [.sentinel, .sentinel, .sentinel, .data, .data] true :=
  OpenClaim.laidByTextAt_later rfl rfl tie4 noOwnUnsafe
theorem tie5 : Tryd.prog.laidByTextLater [("math/bits.deBruijn32tab", Rows.laid_math_bits_deBruijn32tab), ("math/bits.deBruijn64tab", Rows.laid_math_bits_deBruijn64tab), ("internal/strconv.uint64pow10", Rows.laid_internal_strconv_uint64pow10), ("loop.example/g00953/impl.errBlasts", Rows.laid_loop_example_g00953_impl_errBlasts), ("loop.example/g00953/impl.errPeriod", Rows.laid_loop_example_g00953_impl_errPeriod), ("loop.example/g00953/impl.errPower", Rows.laid_loop_example_g00953_impl_errPower), ("loop.example/g00953/impl.fogTable", Rows.laid_loop_example_g00953_impl_fogTable)] [.data, .data, .data, .sentinel, .sentinel, .sentinel, .data] true :=
  Program.laidByTextLater.sub seatTie1 ["math/bits.deBruijn32tab", "math/bits.deBruijn64tab", "internal/strconv.uint64pow10", "loop.example/g00953/impl.errBlasts", "loop.example/g00953/impl.errPeriod", "loop.example/g00953/impl.errPower", "loop.example/g00953/impl.fogTable"] (by kernel_rfl) (by kernel_rfl)
theorem fnExactFogText_row_tie : Rows.fnExactFogTextRow.laidByTextAt .later Tryd.pinned [.data, .data, .data, .sentinel, .sentinel, .sentinel, .data] true :=
  OpenClaim.laidByTextAt_later rfl rfl tie5 noOwnUnsafe
theorem fits6 : Tryd.pinned.checked.prog.listedFits [("math/bits.deBruijn32tab", Rows.laid_math_bits_deBruijn32tab), ("math/bits.deBruijn64tab", Rows.laid_math_bits_deBruijn64tab), ("internal/strconv.uint64pow10", Rows.laid_internal_strconv_uint64pow10), ("unicode/utf8.acceptRanges", Rows.laid_unicode_utf8_acceptRanges), ("strconv.ErrRange", Rows.laid_strconv_ErrRange), ("strconv.ErrSyntax", Rows.laid_strconv_ErrSyntax), ("loop.example/g00953/impl.errBlasts", Rows.laid_loop_example_g00953_impl_errBlasts), ("loop.example/g00953/impl.errPeriod", Rows.laid_loop_example_g00953_impl_errPeriod), ("loop.example/g00953/impl.errPower", Rows.laid_loop_example_g00953_impl_errPower), ("loop.example/g00953/impl.fogTable", Rows.laid_loop_example_g00953_impl_fogTable), ("unicode/utf8.first", Rows.laid_unicode_utf8_first)] = true := by
  unfold Program.listedFits
  rw [noOwnUnsafe]
  kernel_rfl
theorem tie6 : Tryd.prog.laidByTextLater [("math/bits.deBruijn32tab", Rows.laid_math_bits_deBruijn32tab), ("math/bits.deBruijn64tab", Rows.laid_math_bits_deBruijn64tab), ("internal/strconv.uint64pow10", Rows.laid_internal_strconv_uint64pow10), ("unicode/utf8.acceptRanges", Rows.laid_unicode_utf8_acceptRanges), ("strconv.ErrRange", Rows.laid_strconv_ErrRange), ("strconv.ErrSyntax", Rows.laid_strconv_ErrSyntax), ("loop.example/g00953/impl.errBlasts", Rows.laid_loop_example_g00953_impl_errBlasts), ("loop.example/g00953/impl.errPeriod", Rows.laid_loop_example_g00953_impl_errPeriod), ("loop.example/g00953/impl.errPower", Rows.laid_loop_example_g00953_impl_errPower), ("loop.example/g00953/impl.fogTable", Rows.laid_loop_example_g00953_impl_fogTable)] [.data, .data, .data, .data, .sentinel, .sentinel, .sentinel, .sentinel, .sentinel, .data] true :=
  Program.laidByTextLater.sub seatTie1 ["math/bits.deBruijn32tab", "math/bits.deBruijn64tab", "internal/strconv.uint64pow10", "unicode/utf8.acceptRanges", "strconv.ErrRange", "strconv.ErrSyntax", "loop.example/g00953/impl.errBlasts", "loop.example/g00953/impl.errPeriod", "loop.example/g00953/impl.errPower", "loop.example/g00953/impl.fogTable"] (by kernel_rfl) (by kernel_rfl)
theorem fnExactReadFog_row_tie : Rows.fnExactReadFogRow.laidByTextAt .later Tryd.pinned [.data, .data, .data, .data, .sentinel, .sentinel, .sentinel, .sentinel, .sentinel, .data, .pinned] true :=
  OpenClaim.laidByTextAt_pinned rfl rfl tie6 rfl rfl rfl rfl (fun y hy _e => by
    simp only [Rows.fnExactReadFogRow, List.zip_cons_cons, List.zip_nil_right, List.mem_cons, List.mem_nil_iff, or_false] at hy
    rcases hy with rfl | rfl | rfl | rfl | rfl | rfl | rfl | rfl | rfl | rfl | rfl
    · cases _e
    · cases _e
    · cases _e
    · cases _e
    · cases _e
    · cases _e
    · cases _e
    · cases _e
    · cases _e
    · cases _e
    · exact ⟨pin_laid_unicode_utf8_first, by kernel_rfl⟩) fits6
theorem fnExactFogNameUpto_row_tie : Rows.fnExactFogNameUptoRow.laidByTextAt .later Tryd.pinned [.data] true :=
  OpenClaim.laidByTextAt_later rfl rfl tie noOwnUnsafe
theorem fnExactValidFogUpto_row_tie : Rows.fnExactValidFogUptoRow.laidByTextAt .later Tryd.pinned [.sentinel, .sentinel, .sentinel, .data] true :=
  OpenClaim.laidByTextAt_later rfl rfl tie2 noOwnUnsafe
theorem fnExactBlastLengthUpto_row_tie : Rows.fnExactBlastLengthUptoRow.laidByTextAt .later Tryd.pinned [.data] true :=
  OpenClaim.laidByTextAt_later rfl rfl tie noOwnUnsafe
theorem fnExactLeastFogPeriodUpto_row_tie : Rows.fnExactLeastFogPeriodUptoRow.laidByTextAt .later Tryd.pinned [.sentinel, .sentinel, .sentinel, .data] true :=
  OpenClaim.laidByTextAt_later rfl rfl tie2 noOwnUnsafe
theorem fnExactBlastsOfUpto_row_tie : Rows.fnExactBlastsOfUptoRow.laidByTextAt .later Tryd.pinned [.sentinel, .sentinel, .sentinel, .data] true :=
  OpenClaim.laidByTextAt_later rfl rfl tie2 noOwnUnsafe
theorem fnExactSoundAtUpto_row_tie : Rows.fnExactSoundAtUptoRow.laidByTextAt .later Tryd.pinned [.sentinel, .sentinel, .sentinel, .data] true :=
  OpenClaim.laidByTextAt_later rfl rfl tie2 noOwnUnsafe
theorem fnExactNextBlastUpto_row_tie : Rows.fnExactNextBlastUptoRow.laidByTextAt .later Tryd.pinned [.sentinel, .sentinel, .sentinel, .data] true :=
  OpenClaim.laidByTextAt_later rfl rfl tie2 noOwnUnsafe
theorem fnExactSoundRangeUpto_row_tie : Rows.fnExactSoundRangeUptoRow.laidByTextAt .later Tryd.pinned [.data] true :=
  OpenClaim.laidByTextAt_later rfl rfl tie3 noOwnUnsafe
theorem fnExactHeardFromUpto_row_tie : Rows.fnExactHeardFromUptoRow.laidByTextAt .later Tryd.pinned [.sentinel, .sentinel, .sentinel, .data, .data] true :=
  OpenClaim.laidByTextAt_later rfl rfl tie4 noOwnUnsafe
theorem fnExactPowerForUpto_row_tie : Rows.fnExactPowerForUptoRow.laidByTextAt .later Tryd.pinned [.data] true :=
  OpenClaim.laidByTextAt_later rfl rfl tie3 noOwnUnsafe
theorem fnExactFogTextUpto_row_tie : Rows.fnExactFogTextUptoRow.laidByTextAt .later Tryd.pinned [.data, .data, .data, .sentinel, .sentinel, .sentinel, .data] true :=
  OpenClaim.laidByTextAt_later rfl rfl tie5 noOwnUnsafe
theorem fnExactReadFogUpto_row_tie : Rows.fnExactReadFogUptoRow.laidByTextAt .later Tryd.pinned [.data, .data, .data, .data, .sentinel, .sentinel, .sentinel, .sentinel, .sentinel, .data, .pinned] true :=
  OpenClaim.laidByTextAt_pinned rfl rfl tie6 rfl rfl rfl rfl (fun y hy _e => by
    simp only [Rows.fnExactReadFogUptoRow, List.zip_cons_cons, List.zip_nil_right, List.mem_cons, List.mem_nil_iff, or_false] at hy
    rcases hy with rfl | rfl | rfl | rfl | rfl | rfl | rfl | rfl | rfl | rfl | rfl
    · cases _e
    · cases _e
    · cases _e
    · cases _e
    · cases _e
    · cases _e
    · cases _e
    · cases _e
    · cases _e
    · cases _e
    · exact ⟨pin_laid_unicode_utf8_first, by kernel_rfl⟩) fits6
end Go.Proofs.YtbfhnfoaipaljaaDoor
