/-
  A frame of Ethernet in memory, and how it is loaded and stored whole.
-/
import Derived.Test.YtokpogoblnhihaaMg01
import Derived.Test.YtokpogoblnhihaaMg07
namespace Go.Proofs.Ytokpogoblnhihaa
open Go.RowKit
set_option linter.unusedVariables false

structure Eth where
  to : List UInt8
  fr : List UInt8
  tg : Bool
  vl : Int
  pr : Int
  ty : Int
  bd : List UInt8
def Eth.ok (e : Eth) : Prop := e.to.length = 6 ∧ e.fr.length = 6
def Eth.good (e : Eth) : Bool := goodEV e.tg e.vl e.pr e.ty e.bd.length
end Go.Proofs.Ytokpogoblnhihaa
