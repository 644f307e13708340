/-
  Texts joined: Tell, Tell2, Tell3, Tell4.
-/
import Derived.Test.YtkmnnkklbgnfpaaGood
import Derived.WalkLawsBesides
import Derived.LoopTactic
/-
  The document's own answers on one address: Group, Ssm, Zero, Good.
-/
namespace Go.Proofs.Ytkmnnkklbgnfpaa
open Go.RowKit
set_option linter.unusedVariables false

/-- The bytes from a place on, up to another, are zeros. -/
def ZerS (l : List UInt8) (a k : Nat) : Prop := ∀ i (h : i < l.length), a ≤ i → i < k → l[i] = 0
theorem ZerS.start (l : List UInt8) (a : Nat) : ZerS l a a := fun i _ h1 h2 => absurd h2 (by omega)
theorem ZerS.step {l : List UInt8} {a k : Nat} (h : ZerS l a k) (hk : k < l.length) (hz : ((l[k]).toNat : Int) = 0) : ZerS l a (k + 1) := fun i hi h1 h2 => by
  by_cases e : i = k
  · subst e
    apply UInt8.toNat_inj.1
    have : (l[i]).toNat = 0 := by omega
    simpa using this
  · exact h i hi h1 (by omega)
def zeroV (l : List UInt8) : Bool := decide (l = List.replicate 16 0)
theorem zero_yes {l : List UInt8} (hl : l.length = 16) (h : ZerS l 0 16) : zeroV l = true := by
  unfold zeroV
  rw [decide_eq_true_eq]
  apply List.ext_getElem (by simp [hl])
  intro i h1 h2
  rw [List.getElem_replicate]
  exact h i h1 (by omega) (by omega)
theorem zero_no {l : List UInt8} {k : Nat} (hk : k < l.length) (h : ((l[k]).toNat : Int) ≠ 0) : zeroV l = false := by
  unfold zeroV
  rw [decide_eq_false_iff_not]
  intro e
  apply h
  have : l[k] = 0 := by
    have hk2 : k < 16 := by rw [e] at hk; simpa using hk
    have h2 : l[k]? = some 0 := by rw [e, List.getElem?_replicate, if_pos hk2]
    rw [List.getElem?_eq_getElem hk] at h2
    simpa using h2
  rw [this]; rfl
theorem good_yes {l : List UInt8} (hl : l.length = 16) (h : ZerS l 4 16) : goodV false l = true := by
  unfold goodV
  rw [Bool.false_or, decide_eq_true_eq]
  apply List.ext_getElem (by rw [ownV_length _ _ hl, hl])
  intro i h1 h2
  simp only [ownV, ownK, Bool.false_eq_true, if_false]
  by_cases h4 : i < 4
  · rw [List.getElem_append_left (by simp; omega)]; simp
  · rw [List.getElem_append_right (by simp; omega), List.getElem_append_left (by simp; omega), List.getElem_replicate]
    exact h i h1 (by omega) (by omega)
theorem good_no {l : List UInt8} {k : Nat} (hl : l.length = 16) (hk : k < l.length) (h4 : 4 ≤ k) (h : ((l[k]).toNat : Int) ≠ 0) : goodV false l = false := by
  unfold goodV
  rw [Bool.false_or, decide_eq_false_iff_not]
  intro e
  apply h
  have h2 : (ownV false l)[k]? = some 0 := by
    simp only [ownV, ownK, Bool.false_eq_true, if_false]
    rw [List.getElem?_append_right (by simp; omega), List.getElem?_append_left (by simp; omega), List.getElem?_replicate, if_pos (by simp; omega)]
  rw [← e, List.getElem?_eq_getElem hk] at h2
  have : l[k] = 0 := by simpa using h2
  rw [this]; rfl

end Go.Proofs.Ytkmnnkklbgnfpaa

/-
  The document's own Scope and Local; addr.Zero and addr.Many.
-/
namespace Go.Proofs.Ytkmnnkklbgnfpaa
open Go.RowKit
set_option linter.unusedVariables false
attribute [local go_sem ↓] ld_addr ld_b16 bld_b16
attribute [local go_sem] ldr_addr ldr_b16

/-- The boxed address. -/
def OneA (w W : World) (v : Bool) (l : List UInt8) : Prop := BoxAt w W v l ∧ GoA w W l
theorem OneA.made (w : World) (v : Bool) (l : List UInt8) (hl : l.length = 16) : OneA w (w.alloc (.cells (addrC v l).toArray 24)) v l := ⟨BoxAt.made w v l hl 24, GoA.made w v l hl⟩
theorem OneA.keep {w W W' : World} {v : Bool} {l : List UInt8} (h : OneA w W v l) (hb : Below W.heap.size W W') : OneA w W' v l := ⟨h.1.keep hb, h.2.below hb⟩
theorem OneA.facts {w W : World} {v : Bool} {l : List UInt8} (h : OneA w W v l) : W.cell? ⟨w.heap.size, 0, none⟩ = some (.bool v) ∧ row? W w.heap.size 0 17 = some (addrC v l) ∧ W.cell? ⟨w.heap.size, 1, none⟩ = some (.int .u8 (bN l 0)) ∧ W.cell? ⟨w.heap.size, 2, none⟩ = some (.int .u8 (bN l 1)) ∧ W.cell? ⟨w.heap.size, 3, none⟩ = some (.int .u8 (bN l 2)) ∧ row? W w.heap.size 1 16 = some (B8 l) := ⟨h.1.1, h.1.2.2.1, h.2.2.1, h.2.2.2.1, h.2.2.2.2.1, h.2.1⟩
theorem OneA.bel {w W : World} {v : Bool} {l : List UInt8} (h : OneA w W v l) : Below w.heap.size w W := h.1.2.2.2.2
theorem bN_bounds (l : List UInt8) (i : Nat) : 0 ≤ bN l i ∧ bN l i ≤ 255 := by
  have := (l.getD i 0).toNat_lt
  unfold bN
  omega

end Go.Proofs.Ytkmnnkklbgnfpaa

/-
  The document's own Local; addr.Many; addr.Ssm.
-/
namespace Go.Proofs.Ytkmnnkklbgnfpaa
open Go.RowKit
set_option linter.unusedVariables false
attribute [local go_sem ↓] ld_addr ld_b16 bld_b16
attribute [local go_sem] ldr_addr ldr_b16

theorem local_both (v : Bool) (l : List UInt8) : (grpV v l && decide (scpV v l < 3)) = locV v l := by
  cases v
  · rw [Bool.eq_iff_iff]
    unfold locV scpV linkV grpV
    simp only [Bool.false_eq_true, if_false, Bool.and_eq_true, decide_eq_true_eq]
    constructor
    · rintro ⟨⟨h1, h2⟩, h3⟩
      rw [if_neg (by simp [h1, h2])] at h3
      split at h3
      · assumption
      · split at h3
        · omega
        · split at h3 <;> omega
    · rintro ⟨h1, h2, h3⟩
      refine ⟨⟨by omega, by omega⟩, ?_⟩
      rw [if_neg (by simp [h1]), if_pos ⟨h1, h2, h3⟩]
      omega
  · rw [Bool.eq_iff_iff]
    unfold locV
    simp only [if_true, Bool.and_eq_true, decide_eq_true_eq]
    constructor <;> rintro ⟨h1, h2⟩ <;> exact ⟨h1, by omega⟩

/-- Whether it is several nodes'. -/
def manyV (m : List UInt8) : Bool := decide ((m.getD 0 0).toNat % 2 = 1)
theorem and_one : ∀ n : Fin 256, (bits BinOp.and IntKind.u8 (n.val : Int) 1 == 1) = decide (n.val % 2 = 1) := by decide +kernel
end Go.Proofs.Ytkmnnkklbgnfpaa

/-
  addr.Ssm.
-/
namespace Go.Proofs.Ytkmnnkklbgnfpaa
open Go.RowKit
set_option linter.unusedVariables false
attribute [local go_sem ↓] ld_addr
attribute [local go_sem] ldr_addr

theorem two_zero (a b : UInt8) : decide ([a, b] = [0, 0]) = decide ((a.toNat : Int) = 0 ∧ (b.toNat : Int) = 0) := by
  rw [Bool.eq_iff_iff]
  simp [← UInt8.toNat_inj]
end Go.Proofs.Ytkmnnkklbgnfpaa

