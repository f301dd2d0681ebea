/- The model's calendar. -/
import Derived.Test.YtagebpmciimcgaaCalI
import Derived.Test.YtagebpmciimcgaaCalD
namespace Go.Proofs.Ytagebpmciimcgaa
open Go.ChangeShapes Go.WideShapes Go.ChangeAt Go.RowKit Pm





/-- Three numbers are returned, the world as it was. -/
def Same3 (a b c : Int) (w : World) (e : Ending) (w' : World) : Prop := e = .returned (.tuple #[.int .i64 a, .int .i64 b, .int .i64 c]) ∧ w = w'
def Same4 (a b c d : Int) (w : World) (e : Ending) (w' : World) : Prop := e = .returned (.tuple #[.int .i64 a, .int .i64 b, .int .i64 c, .int .i64 d]) ∧ w = w'
def Same2 (a b : Int) (w : World) (e : Ending) (w' : World) : Prop := e = .returned (.tuple #[.int .i64 a, .int .i64 b]) ∧ w = w'
def SameIB (a : Int) (b : Bool) (w : World) (e : Ending) (w' : World) : Prop := e = .returned (.tuple #[.int .i64 a, .bool b]) ∧ w = w'



/-- The number of a date, and whether it is one of the days'. -/
def findV (y m d : Int) : Int × Bool := if findB y m d = true then (dnumOf y m d, decide (dnumOf y m d ≤ 99999)) else (0, false)
theorem findB_of (y m d : Int) : findB y m d = (inB 2000 2273 [y] && inB 1 12 [m] && inB 1 (monthLen y m) [d]) := rfl
end Go.Proofs.Ytagebpmciimcgaa
