/-
  Deadlines by keys as a list in order: plain mathematics of layer 12.
-/
import Derived.Test.YtdhjcjofdfjfgaaPureSet
namespace Go.Proofs.Ytdhjcjofdfjfgaa
set_option linter.unusedVariables false
set_option linter.unusedSectionVars false
set_option linter.unusedSimpArgs false

/-- A key, and its deadline. -/
abbrev EN := List UInt8 × Int
def ltK (a b : List UInt8) : Bool := decide (a < b)
def ltE (a b : EN) : Bool := decide (a.2 < b.2) || (decide (a.2 = b.2) && ltK a.1 b.1)
/-- What is held of the document's list. -/
structure CkOk (l : List EN) : Prop where
  s : Sorted ltE l
  u : ∀ x ∈ l, ∀ y ∈ l, x.1 = y.1 → x = y
theorem CkOk.nil : CkOk [] := ⟨List.Pairwise.nil, fun x hx => by cases hx⟩
theorem CkOk.drop {l : List EN} (h : CkOk l) (n : Nat) : CkOk (l.drop n) := ⟨List.Pairwise.sublist (List.drop_sublist n l) h.s, fun x hx y hy e => h.u x (List.mem_of_mem_drop hx) y (List.mem_of_mem_drop hy) e⟩
theorem CkOk.take {l : List EN} (h : CkOk l) (n : Nat) : CkOk (l.take n) := ⟨List.Pairwise.sublist (List.take_sublist n l) h.s, fun x hx y hy e => h.u x (List.mem_of_mem_take hx) y (List.mem_of_mem_take hy) e⟩
end Go.Proofs.Ytdhjcjofdfjfgaa
