/-
  Texts joined: PureRo, Parse, PureParse, OctUnb, Pmac, PureBack.
-/
import Derived.Test.YtalnfjnfcloonaaDoorMg37
import Derived.Test.YtalnfjnfcloonaaDoorMg36
import Derived.Test.YtalnfjnfcloonaaDoorGood
import Derived.Test.YtalnfjnfcloonaaDoorMg29
import Derived.Lib.LazyBuf
import Derived.Lib.Replace
/-
  A text of numbers with a run of zeros left out is read back: plain mathematics.
-/
namespace Go.Proofs.YtalnfjnfcloonaaDoor
open Go.RowKit
set_option linter.unusedVariables false

end Go.Proofs.YtalnfjnfcloonaaDoor

/-
  The contract of addr.Parse.
-/
namespace Go.Proofs.YtalnfjnfcloonaaDoor
open Go.RowKit
set_option linter.unusedVariables false
attribute [local go_sem ↓] bld_addr ld_addr st_addr
attribute [local go_sem] ldr_addr str_addr

/-- The result's own block. -/
def ResAt (w W : World) : Prop := ObjAt W w.heap.size #[.bool false, .int .u8 0, .int .u8 0, .int .u8 0, .int .u8 0, .int .u8 0, .int .u8 0, .int .u8 0, .int .u8 0, .int .u8 0, .int .u8 0, .int .u8 0, .int .u8 0, .int .u8 0, .int .u8 0, .int .u8 0, .int .u8 0] 25 ∧ Below w.heap.size w W ∧ w.heap.size < W.heap.size
theorem ResAt.made (w : World) : ResAt w (w.alloc (.cells #[.bool false, .int .u8 0, .int .u8 0, .int .u8 0, .int .u8 0, .int .u8 0, .int .u8 0, .int .u8 0, .int .u8 0, .int .u8 0, .int .u8 0, .int .u8 0, .int .u8 0, .int .u8 0, .int .u8 0, .int .u8 0, .int .u8 0] 25)) := ⟨ObjAt.made w _ _, (Below.refl _ _).alloc (Nat.le_refl _) _, by simp⟩
theorem ResAt.below {w W W' : World} (h : ResAt w W) (hb : Below W.heap.size W W') : ResAt w W' := ⟨h.1.below hb h.2.2, bstep h.2.1 hb, Nat.lt_of_lt_of_le h.2.2 hb.size⟩
theorem ResAt.free {w W : World} (h : ResAt w W) : free? W w.heap.size 0 17 = true := obj_free h.1 (by simp)
end Go.Proofs.YtalnfjnfcloonaaDoor

/-
  What is read of a text is printed so, and is good.
-/
namespace Go.Proofs.YtalnfjnfcloonaaDoor
open Go.RowKit
set_option linter.unusedVariables false

end Go.Proofs.YtalnfjnfcloonaaDoor

/-
  The contract of octet.Unhex.
-/
namespace Go.Proofs.YtalnfjnfcloonaaDoor
open Go.RowKit
set_option linter.unusedVariables false

end Go.Proofs.YtalnfjnfcloonaaDoor

/-
  The contract of addr.ParseMac.
-/
namespace Go.Proofs.YtalnfjnfcloonaaDoor
open Go.RowKit
set_option linter.unusedVariables false



end Go.Proofs.YtalnfjnfcloonaaDoor

/-
  The text of a good address is read back.
-/
namespace Go.Proofs.YtalnfjnfcloonaaDoor
open Go.RowKit
set_option linter.unusedVariables false

theorem num16_len (n : Nat) (h : n ≤ 65535) : (D16 n).length ≤ 4 := by
  have key : ∀ (f n : Nat), n < 16 ^ (f + 1) → (digs 16 (f + 2) n).length ≤ f + 1 := by
    intro f
    induction f with
    | zero => intro n h; have h' : n < 16 := by simpa using h
              simp [digs, h']
    | succ f ih =>
      intro n h
      unfold digs
      split
      · simp
      · have h1 : n / 16 < 16 ^ (f + 1) := by rw [Nat.div_lt_iff_lt_mul (by omega), ← Nat.pow_succ]; exact h
        have := ih (n / 16) h1
        simp; omega
  exact key 3 n (by omega)
theorem jn4_len : ∀ ws : List Nat, (∀ n ∈ ws, n ≤ 65535) → (jnD D16 ws).length + 1 ≤ 5 * ws.length + 1 ∧ (ws ≠ [] → (jnD D16 ws).length + 1 ≤ 5 * ws.length)
  | [], _ => by simp [jnD, Lib.join_nil]
  | [a], h => by rw [jnD_one]; have := num16_len a (h a (by simp)); simp; omega
  | a :: b :: r, h => by
    have ih := (jn4_len (b :: r) (fun n hn => h n (by simp at hn ⊢; exact .inr hn))).2 (by simp)
    have := num16_len a (h a (by simp))
    rw [jnD_cons2]
    simp at ih ⊢
    omega
theorem prt6_len (l : List UInt8) : (prt6 l).length ≤ 39 := by
  have hw := wordsV_length l
  have hle := wordsV_lt l
  unfold prt6
  split
  · have := (jn4_len (wordsV l) hle).2 (by intro e; rw [e] at hw; simp at hw)
    rw [jn16_D]
    omega
  · rename_i h2
    have hg := (gapK_le (wordsV l) 8).2.2
    have h3 := (jn4_len ((wordsV l).take (gapK (wordsV l) 8).1) (fun n hn => hle n (List.mem_of_mem_take hn))).1
    have h4 := (jn4_len ((wordsV l).drop ((gapK (wordsV l) 8).1 + (gapK (wordsV l) 8).2.1)) (fun n hn => hle n (List.mem_of_mem_drop hn))).1
    rw [List.length_take] at h3
    rw [List.length_drop] at h4
    rw [jn16_D, jn16_D, List.length_append, List.length_append]
    simp only [List.length_cons, List.length_nil]
    omega
/-! The text of an address of Ethernet is read back, too. -/
end Go.Proofs.YtalnfjnfcloonaaDoor

