/-
  What the contracts of package mld say.
-/
import Derived.Test.YtgpccgcppbdlpaaGreatMdY
import Derived.Test.YtgpccgcppbdlpaaGreatMqB
import Derived.Test.YtgpccgcppbdlpaaGreatMg22
import Derived.Test.YtgpccgcppbdlpaaGreatMg13
namespace Go.Proofs.YtgpccgcppbdlpaaGreat
open Go.RowKit
set_option linter.unusedVariables false

/-- What a reader by any addresses tells. -/
def rd9 (f g : AD) (s : List UInt8) : TK × Int := if f.1 && g.1 then readM (psM f g s.length) s else (zeroT, 1)
def ReadV (w : World) (f g : AD) (s : List UInt8) (x : Ending) (w' : World) : Prop := ∃ us ur, x = .returned (.tuple #[.agg (tkC (rd9 f g s).1 us ur).toArray, .int .i64 (rd9 f g s).2]) ∧ Below w.heap.size w w' ∧ adOk (rd9 f g s).1.g ∧ AdsT w' us (rd9 f g s).1.src ∧ RcT w' ur (rd9 f g s).1.rcs
def isM (s : List UInt8) : Bool := decide (0 < s.length) && (decide (130 ≤ by8 s 0 ∧ by8 s 0 ≤ 132) || decide (by8 s 0 = 143))
/-- A talk's bytes between any addresses, and what is wrong. -/
def wr9 (f g : AD) (t : TK) : List UInt8 := if f.1 && g.1 then (if good9 t then wrtM (psM f g (4 + (restM t).length)) t else []) else []
def wr9E (f g : AD) (t : TK) : Int := if f.1 && g.1 then (if good9 t then 0 else 2) else 1
end Go.Proofs.YtgpccgcppbdlpaaGreat
