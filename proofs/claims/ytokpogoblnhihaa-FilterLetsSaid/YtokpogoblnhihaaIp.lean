/-
  A packet of IPv4 in memory, and how it is loaded and stored whole.
-/
import Derived.Test.YtokpogoblnhihaaMg01
import Derived.Test.YtokpogoblnhihaaMg03
import Derived.Test.YtokpogoblnhihaaMg04
namespace Go.Proofs.Ytokpogoblnhihaa
open Go.RowKit
set_option linter.unusedVariables false

structure Ip where
  tos : Int
  id : Int
  ttl : Int
  pro : Int
  f6 : Bool
  fr : List UInt8
  t6 : Bool
  to : List UInt8
  al : Bool
  bd : List UInt8
def Ip.ok (p : Ip) : Prop := p.fr.length = 16 ∧ p.to.length = 16
end Go.Proofs.Ytokpogoblnhihaa
