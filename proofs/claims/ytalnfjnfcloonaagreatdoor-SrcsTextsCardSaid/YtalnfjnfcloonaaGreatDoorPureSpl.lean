/-
  A text parted at commas, plain.
-/
import Derived.Test.YtalnfjnfcloonaaGreatDoorBase
import Derived.Lib.Bytealg
namespace Go.Proofs.YtalnfjnfcloonaaGreatDoor
set_option linter.unusedVariables false

/-- The pieces of a text between commas. -/
def spl : List UInt8 → List (List UInt8)
  | [] => [[]]
  | c :: r => if c = 44 then [] :: spl r else match spl r with | p :: ps => (c :: p) :: ps | [] => [[c]]
theorem spl_ne : ∀ l, spl l ≠ []
  | [] => by simp [spl]
  | c :: r => by
    unfold spl
    split
    · simp
    · split <;> simp
theorem spl_none : ∀ {l : List UInt8}, (44 : UInt8) ∉ l → spl l = [l]
  | [], _ => rfl
  | c :: r, h => by
    have h1 : c ≠ 44 := fun e => h (by simp [e])
    have h2 := spl_none (l := r) (fun e => h (by simp [e]))
    unfold spl
    rw [if_neg h1, h2]
theorem spl_at : ∀ {a t : List UInt8}, (44 : UInt8) ∉ a → spl (a ++ 44 :: t) = a :: spl t
  | [], t, _ => by simp [spl]
  | c :: r, t, h => by
    have h1 : c ≠ 44 := fun e => h (by simp [e])
    have h2 := spl_at (a := r) (t := t) (fun e => h (by simp [e]))
    show (if c = 44 then [] :: spl (r ++ 44 :: t) else match spl (r ++ 44 :: t) with | p :: ps => (c :: p) :: ps | [] => [[c]]) = _
    rw [if_neg h1, h2]
theorem idx_none : ∀ {l : List UInt8}, (44 : UInt8) ∉ l → Lib.indexByte l 44 = -1
  | [], _ => rfl
  | c :: r, h => by
    have h1 : (c == 44) = false := by simp; exact fun e => h (by simp [e])
    have h2 := idx_none (l := r) (fun e => h (by simp [e]))
    unfold Lib.indexByte
    rw [h1, h2]; rfl
theorem idx_at : ∀ {a t : List UInt8}, (44 : UInt8) ∉ a → Lib.indexByte (a ++ 44 :: t) 44 = (a.length : Int)
  | [], t, _ => by simp [Lib.indexByte]
  | c :: r, t, h => by
    have h1 : (c == 44) = false := by simp; exact fun e => h (by simp [e])
    have h2 := idx_at (a := r) (t := t) (fun e => h (by simp [e]))
    rw [List.cons_append]
    unfold Lib.indexByte
    rw [h1, h2]
    simp only [Bool.false_eq_true, if_false, List.length_cons]
    rw [if_neg (by simp)]
    simp
theorem at_comma : ∀ {l : List UInt8}, (44 : UInt8) ∈ l → ∃ a t, (44 : UInt8) ∉ a ∧ l = a ++ 44 :: t
  | [], h => by cases h
  | c :: r, h => by
    by_cases e : c = 44
    · subst e; exact ⟨[], r, by simp, rfl⟩
    · have hr : (44 : UInt8) ∈ r := by
        rcases List.mem_cons.1 h with h | h
        · exact absurd h.symm e
        · exact h
      obtain ⟨a, t, h1, h2⟩ := at_comma hr
      exact ⟨c :: a, t, by simp; exact ⟨fun h => e h.symm, h1⟩, by rw [h2]; rfl⟩
theorem spl_length : ∀ l, (spl l).length ≤ l.length + 1
  | [] => by simp [spl]
  | c :: r => by
    have := spl_length r
    unfold spl
    split
    · simp; omega
    · split
      · rename_i h; rw [h] at this; simp at this ⊢; omega
      · simp
theorem spl_mem_len : ∀ l, ∀ p ∈ spl l, p.length ≤ l.length
  | [], p, h => by simp [spl] at h; simp [h]
  | c :: r, p, h => by
    have ih := spl_mem_len r
    unfold spl at h
    split at h
    · rcases List.mem_cons.1 h with rfl | h
      · simp
      · have := ih p h; simp; omega
    · split at h
      · rename_i q qs hq
        rcases List.mem_cons.1 h with rfl | h
        · have := ih q (by rw [hq]; simp); simp; omega
        · have := ih p (by rw [hq]; simp [h]); simp; omega
      · simp at h; simp [h]
/-- The pieces put together again. -/
def jnC : List (List UInt8) → List UInt8
  | [] => []
  | [p] => p
  | p :: q :: r => p ++ 44 :: jnC (q :: r)
theorem jnC_spl : ∀ l, jnC (spl l) = l
  | [] => rfl
  | c :: r => by
    have ih := jnC_spl r
    unfold spl
    by_cases e : c = 44
    · rw [if_pos e, e]
      cases hs : spl r with
      | nil => exact absurd hs (spl_ne r)
      | cons p ps => rw [hs] at ih; show [] ++ 44 :: jnC (p :: ps) = _; rw [ih]; rfl
    · rw [if_neg e]
      cases hs : spl r with
      | nil => exact absurd hs (spl_ne r)
      | cons p ps =>
        rw [hs] at ih
        simp only
        cases ps with
        | nil => simp only [jnC] at ih ⊢; rw [ih]
        | cons q qs => simp only [jnC, List.cons_append] at ih ⊢; rw [ih]
theorem spl_jnC : ∀ {ps : List (List UInt8)}, ps ≠ [] → (∀ p ∈ ps, (44 : UInt8) ∉ p) → spl (jnC ps) = ps
  | [], h, _ => absurd rfl h
  | [p], _, h => spl_none (h p (by simp))
  | p :: q :: r, _, h => by
    show spl (p ++ 44 :: jnC (q :: r)) = _
    rw [spl_at (h p (by simp)), spl_jnC (by simp) (fun x hx => h x (List.mem_cons_of_mem _ hx))]
end Go.Proofs.YtalnfjnfcloonaaGreatDoor
