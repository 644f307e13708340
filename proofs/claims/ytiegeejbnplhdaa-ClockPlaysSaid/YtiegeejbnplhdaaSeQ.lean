/-
  A region that draws its order and whose calls leave a class of worlds: walked once, in the order of the text, guards too.
-/
import Derived.Test.YtiegeejbnplhdaaBase
import Derived.BigQuiet
import Derived.Below
namespace Go.Proofs.Ytiegeejbnplhdaa
open Go.RowKit
set_option linter.unusedVariables false

/-- A world of a class. -/
structure InS (S : World → Prop) where
  W : World
  h : S W
theorem wp_region_inS {P : Program} {id : Nat} {Q : Exit → Act → World → Prop} {a : Act} {w : World} {l : List Oper} (S : World → Prop) (hm : P.follows .mixedOrders = true) (hB : Region.lexB .any l.toArray = true) (h0 : S w.drew)
    (h : wpQuiet P l.toArray (fun w' => ∃ p : InS S, w' = p.W) (fun a' => ∀ w', (∃ p : InS S, w' = p.W) → Q .normal a' w') l a) : (Code.region id l.toArray true).wp P Q a w :=
  wp_region_quiet (C := fun w' => ∃ p : InS S, w' = p.W) hm hB ⟨⟨w.drew, h0⟩, rfl⟩ (by simpa using h)
/-- A callee's contract, met in a world of the class. -/
theorem Calls.inS {P : Program} {f : FuncId} {args : Array Value} {S : World → Prop} {v : Value} (hk : ∀ W W', S W → Below W.heap.size W W' → S W') (p : InS S)
    (h : ∀ W, S W → Calls P f args W fun e w' => e = .returned v ∧ Below W.heap.size W w') : Calls P f args p.W fun e w'' => e = .returned v ∧ ∃ q : InS S, w'' = q.W :=
  (h p.W p.h).mono fun _ _ ⟨he, hb⟩ => ⟨he, ⟨⟨_, hk _ _ p.h hb⟩, rfl⟩⟩
end Go.Proofs.Ytiegeejbnplhdaa
