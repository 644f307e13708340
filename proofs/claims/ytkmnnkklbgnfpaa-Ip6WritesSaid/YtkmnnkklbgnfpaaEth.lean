/-
  A frame of Ethernet in memory, and how it is loaded and stored whole.
-/
import Derived.Test.YtkmnnkklbgnfpaaAgg
import Derived.Test.YtkmnnkklbgnfpaaPureEth
namespace Go.Proofs.Ytkmnnkklbgnfpaa
open Go.RowKit
set_option linter.unusedVariables false

structure Eth where
  to : List UInt8
  fr : List UInt8
  tg : Bool
  vl : Int
  pr : Int
  ty : Int
  bd : List UInt8
def Eth.ok (e : Eth) : Prop := e.to.length = 6 ∧ e.fr.length = 6
/-- Its cells. -/
def ethC (e : Eth) : List Value := B8 e.to ++ (B8 e.fr ++ [.bool e.tg, .int .i64 e.vl, .int .i64 e.pr, .int .i64 e.ty, .string (Str e.bd)])
def Eth.good (e : Eth) : Bool := goodEV e.tg e.vl e.pr e.ty e.bd.length
def Eth.wrt (e : Eth) : List UInt8 := wrtL e.to e.fr e.tg e.vl e.pr e.ty e.bd
theorem ethC_length {e : Eth} (h : e.ok) : (ethC e).length = 17 := by
  obtain ⟨h1, h2⟩ := h
  simp [ethC, B8_length, h1, h2]
theorem ethC_one (e : Eth) : ∀ x ∈ ethC e, x.oneCell' = true := by
  intro x hx
  simp only [ethC, List.mem_append, List.mem_cons, List.not_mem_nil, or_false] at hx
  rcases hx with hx | hx | rfl | rfl | rfl | rfl | rfl
  · exact B8_one _ x hx
  · exact B8_one _ x hx
  all_goals rfl
theorem fok_eth {e : Eth} (h : e.ok) : fok (ethC e).toArray 17 = true := by
  have h1 : (ethC e).toArray.all (·.oneCell') = true := all_oneCell_toArray (ethC_one e)
  simp only [fok, h1, Bool.and_true]
  simp [ethC_length h]
end Go.Proofs.Ytkmnnkklbgnfpaa
