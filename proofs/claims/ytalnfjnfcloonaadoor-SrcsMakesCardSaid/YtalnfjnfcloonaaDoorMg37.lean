/-
  Texts joined: Pu, Split, PureSplit, Rough, PureDig, Rprint, Rprint6, SrD.
-/
import Derived.Test.YtalnfjnfcloonaaDoorMg27
import Derived.Test.YtalnfjnfcloonaaDoorMg29
import Derived.Test.YtalnfjnfcloonaaDoorShelf
import Derived.Lib.Strings
import Derived.Lib.ConvBytes
import Derived.Lib.Walk
import Derived.Lib.Hide
import Derived.Laws.Strings3
import Derived.Laws.Closers25
import Derived.Laws.Closers25b
import Derived.WalkKit
import Derived.BigCall
import Derived.BigGuard
import Derived.Deep.Cut
import Derived.Test.YtalnfjnfcloonaaDoorMg05
import Derived.Test.YtalnfjnfcloonaaDoorMg02
import Derived.Lib.SplitLaws
import Derived.Test.YtalnfjnfcloonaaDoorMg00
import Derived.Lib.Split
import Derived.Lib.CountLaws
import Derived.Lib.IndexMore
import Derived.Lib.IndexBytes
import Derived.Lib.Join
import Derived.Lib.Replace
import Derived.Lib.Repeat
import Derived.Test.YtalnfjnfcloonaaDoorMg36
import Derived.Test.YtalnfjnfcloonaaDoorMg08
import Derived.Test.YtalnfjnfcloonaaDoorSrC
/-
  The contract of strconv.ParseUint at base 10 (8 bits) and base 16 (16 bits).
-/
namespace Go.Proofs.YtalnfjnfcloonaaDoor
open Go.RowKit
set_option linter.unusedVariables false

end Go.Proofs.YtalnfjnfcloonaaDoor

/-
  The contract of addr.split.
-/
namespace Go.Proofs.YtalnfjnfcloonaaDoor
open Go.RowKit
set_option linter.unusedVariables false

end Go.Proofs.YtalnfjnfcloonaaDoor

/-
  Texts that are parted at a byte: plain mathematics.
-/
namespace Go.Proofs.YtalnfjnfcloonaaDoor
open Go.RowKit
set_option linter.unusedVariables false

end Go.Proofs.YtalnfjnfcloonaaDoor

/-
  The contract of addr.rough.
-/
namespace Go.Proofs.YtalnfjnfcloonaaDoor
open Go.RowKit
set_option linter.unusedVariables false

end Go.Proofs.YtalnfjnfcloonaaDoor

/-
  Digits are read back, and texts of them are parted again: plain mathematics.
-/
namespace Go.Proofs.YtalnfjnfcloonaaDoor
open Go.RowKit
set_option linter.unusedVariables false

def D16 (n : Nat) : List UInt8 := numD 16 n
end Go.Proofs.YtalnfjnfcloonaaDoor

/-
  The document's own text of an address.
-/
namespace Go.Proofs.YtalnfjnfcloonaaDoor
open Go.RowKit
set_option linter.unusedVariables false

theorem jn16_D (ws : List Nat) : jn16 ws = jnD D16 ws := rfl

/-- The boxed address, as the walk reads it. -/
def PB (w W : World) (l : List UInt8) : Prop := RowAt W w.heap.size 1 l ∧ w.heap.size < W.heap.size ∧ Below w.heap.size w W
theorem PB.drewN {w W : World} {l : List UInt8} (h : PB w W l) (k : Nat) : PB w (W.drewN k) l := ⟨h.1.drewN k, h.2.1, bdrewN h.2.2 k⟩

/-- Numbers of IPv4 so far. -/
def dotP (l : List UInt8) (k : Nat) : List UInt8 := jn10 ((l.take k).map (·.toNat))
theorem dotP_len (l : List UInt8) (k : Nat) : (dotP l k).length ≤ 6 * k := by
  unfold dotP jn10
  have h := join_small (((l.take k).map (·.toNat)).map (numD 10)) 46 5 (fun x hx => by
    obtain ⟨b, _, rfl⟩ := List.mem_map.1 hx
    exact numD_length 10 b)
  rw [List.length_map, List.length_map, List.length_take] at h
  omega

end Go.Proofs.YtalnfjnfcloonaaDoor

/-
  The document's own text of an address of IPv6, and of any.
-/
namespace Go.Proofs.YtalnfjnfcloonaaDoor
open Go.RowKit
set_option linter.unusedVariables false

end Go.Proofs.YtalnfjnfcloonaaDoor

/-
  The contract of the document's Print of layer 11.
-/
namespace Go.Proofs.YtalnfjnfcloonaaDoor
open Go.RowKit
set_option linter.unusedVariables false
set_option linter.unusedSimpArgs false
attribute [local go_sem ↓] ld_addr
attribute [local go_sem] ldr_addr row?_drewN_eq row?_drew_eq


def prtB (a : AD) : List UInt8 := if a.1 then prt6 a.2 else dotP a.2 4
/-- The text of addresses, one by one. -/
def joinA : List AD → List UInt8
  | [] => []
  | [a] => prtB a
  | a :: b :: r => prtB a ++ (44 :: joinA (b :: r))
def prtL (l : List AD) : List UInt8 := if l = [] then [45] else joinA l
theorem joinA_snoc : ∀ (l : List AD) (a : AD), joinA (l ++ [a]) = if l = [] then prtB a else joinA l ++ (44 :: prtB a)
  | [], a => rfl
  | [b], a => by rw [if_neg (by simp)]; rfl
  | b :: c :: r, a => by
    rw [if_neg (by simp)]
    have ih := joinA_snoc (c :: r) a
    rw [if_neg (by simp)] at ih
    show prtB b ++ (44 :: joinA ((c :: r) ++ [a])) = (prtB b ++ (44 :: joinA (c :: r))) ++ (44 :: prtB a)
    rw [ih]; simp
theorem joinA_take {l : List AD} {k : Nat} (h : k < l.length) : joinA (l.take (k + 1)) = if k = 0 then prtB l[k] else joinA (l.take k) ++ (44 :: prtB l[k]) := by
  rw [List.take_succ_eq_append_getElem h, joinA_snoc]
  by_cases e : k = 0
  · subst e; simp
  · rw [if_neg e, if_neg (by intro h2; have := congrArg List.length h2; rw [List.length_take, List.length_nil] at this; omega)]
theorem joinA_length {l : List AD} {n : Nat} (h : ∀ a ∈ l, (prtB a).length ≤ n) : (joinA l).length ≤ l.length * (n + 1) := by
  induction l using joinA.induct with
  | case1 => simp [joinA]
  | case2 a => have := h a (by simp); simp [joinA]; omega
  | case3 a b r ih =>
    have h1 := h a (by simp)
    have h2 := ih (fun x hx => h x (by simp only [List.mem_cons] at hx ⊢; rcases hx with hx | hx; exact Or.inr (Or.inl hx); exact Or.inr (Or.inr hx)))
    simp only [joinA, List.length_append, List.length_cons] at h2 ⊢
    have e : (r.length + 1 + 1) * (n + 1) = (r.length + 1) * (n + 1) + (n + 1) := by rw [Nat.add_mul (r.length + 1) 1, Nat.one_mul]
    omega

end Go.Proofs.YtalnfjnfcloonaaDoor

