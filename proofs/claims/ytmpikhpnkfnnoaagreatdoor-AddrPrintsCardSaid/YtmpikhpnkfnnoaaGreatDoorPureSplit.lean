/-
  Texts that are parted at a byte: plain mathematics.
-/
import Derived.Test.YtmpikhpnkfnnoaaGreatDoorBase
import Derived.Lib.Split
import Derived.Lib.SplitLaws
import Derived.Lib.CountLaws
import Derived.Lib.IndexMore
import Derived.Lib.IndexBytes
import Derived.Lib.Join
import Derived.Lib.Replace
namespace Go.Proofs.YtmpikhpnkfnnoaaGreatDoor
open Go.RowKit
set_option linter.unusedVariables false

def spL (c : UInt8) : List UInt8 → List (List UInt8)
  | [] => [[]]
  | x :: r => if x = c then [] :: spL c r else match spL c r with
    | [] => [[x]]
    | p :: ps => (x :: p) :: ps
theorem spL_ne (c : UInt8) (l : List UInt8) : spL c l ≠ [] := by
  cases l with
  | nil => simp [spL]
  | cons x r =>
    unfold spL
    split
    · simp
    · split <;> simp
theorem spL_short (c : UInt8) : ∀ (l p : List UInt8), p ∈ spL c l → p.length ≤ l.length
  | [], p, h => by simp [spL] at h; simp [h]
  | x :: r, p, h => by
    unfold spL at h
    split at h
    · rcases List.mem_cons.1 h with rfl | h
      · simp
      · have := spL_short c r p h; simp; omega
    · split at h
      · simp at h; simp [h]
      · rename_i q qs hq
        rcases List.mem_cons.1 h with rfl | h
        · have := spL_short c r q (by rw [hq]; simp); simp; omega
        · have := spL_short c r p (by rw [hq]; simp [h]); simp; omega
theorem index_cons_ne {x c : UInt8} (h : x ≠ c) (r : List UInt8) : Lib.index (x :: r) [c] = if Lib.index r [c] == -1 then -1 else Lib.index r [c] + 1 := by
  have hp : ([c] : List UInt8).isPrefixOf (x :: r) = false := by simp [List.isPrefixOf, Ne.symm h]
  rw [Lib.index, hp]; rfl
theorem index_cons_eq (c : UInt8) (r : List UInt8) : Lib.index (c :: r) [c] = 0 := by
  have hp : ([c] : List UInt8).isPrefixOf (c :: r) = true := by simp [List.isPrefixOf]
  rw [Lib.index, hp]; rfl
theorem splitK_spL (c : UInt8) : ∀ s : List UInt8, Lib.splitK [c] 0 (Lib.count s [c]) s = spL c s
  | [] => by
    rw [Lib.count_one]; rfl
  | x :: r => by
    have ih := splitK_spL c r
    by_cases h : x = c
    · subst h
      rw [Lib.count_cons_eq, Nat.add_comm, Lib.splitK, index_cons_eq, spL, if_pos rfl]
      simpa using ih
    · rw [Lib.count_cons_ne x c r h, spL, if_neg h]
      cases hk : Lib.count r [c] with
      | zero =>
        rw [hk] at ih
        rw [← ih]; rfl
      | succ k =>
        rw [hk] at ih
        obtain ⟨i, hi⟩ := Lib.index_of_count (s := r) (old := [c]) (by omega)
        have e1 : Lib.index (x :: r) [c] = ((i + 1 : Nat) : Int) := by
          rw [index_cons_ne h, hi, if_neg (by simp)]; omega
        have hn1 : ¬ (((i + 1 : Nat) : Int) == -1) = true := by simp <;> omega
        have hn2 : ¬ ((i : Int) == -1) = true := by simp
        rw [Lib.splitK, hi, if_neg hn2] at ih
        rw [← ih, Lib.splitK, e1, if_neg hn1]
        simp
theorem spL_plain (c : UInt8) : ∀ d : List UInt8, c ∉ d → spL c d = [d]
  | [], _ => rfl
  | x :: r, h => by
    simp only [List.mem_cons, not_or] at h
    rw [spL, if_neg (Ne.symm h.1), spL_plain c r h.2]
theorem spL_cut (c : UInt8) : ∀ (d r : List UInt8), c ∉ d → spL c (d ++ c :: r) = d :: spL c r
  | [], r, _ => by simp [spL]
  | x :: d, r, h => by
    simp only [List.mem_cons, not_or] at h
    rw [List.cons_append, spL, if_neg (Ne.symm h.1), spL_cut c d r h.2]
theorem spL_join (c : UInt8) : ∀ (ds : List (List UInt8)), ds ≠ [] → (∀ d ∈ ds, c ∉ d) → spL c (Lib.join ds [c]) = ds
  | [], h, _ => absurd rfl h
  | [d], _, h => by rw [Lib.join_one]; exact spL_plain c d (h d (by simp))
  | d :: e :: r, _, h => by
    have ih := spL_join c (e :: r) (by simp) (fun x hx => h x (by simp [hx]))
    have hj : Lib.join (d :: e :: r) [c] = d ++ c :: Lib.join (e :: r) [c] := by simp [Lib.join, List.intercalate]
    rw [hj, spL_cut c d _ (h d (by simp)), ih]
end Go.Proofs.YtmpikhpnkfnnoaaGreatDoor
