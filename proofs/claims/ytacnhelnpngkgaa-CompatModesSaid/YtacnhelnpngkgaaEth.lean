/-
  A frame of Ethernet in memory, and how it is loaded and stored whole.
-/
import Derived.Test.YtacnhelnpngkgaaAgg
import Derived.Test.YtacnhelnpngkgaaMg13
namespace Go.Proofs.Ytacnhelnpngkgaa
open Go.RowKit
set_option linter.unusedVariables false

structure Eth where
  to : List UInt8
  fr : List UInt8
  tg : Bool
  vl : Int
  pr : Int
  ty : Int
  bd : List UInt8
def Eth.ok (e : Eth) : Prop := e.to.length = 6 ∧ e.fr.length = 6
def Eth.good (e : Eth) : Bool := goodEV e.tg e.vl e.pr e.ty e.bd.length
def Eth.wrt (e : Eth) : List UInt8 := wrtL e.to e.fr e.tg e.vl e.pr e.ty e.bd
end Go.Proofs.Ytacnhelnpngkgaa
