/-
  The calls that come in, as a slice; a copy's blocks; the rest of a slice.
-/
import Derived.Test.YtiegeejbnplhdaaClV
import Derived.Test.YtiegeejbnplhdaaOpen
namespace Go.Proofs.Ytiegeejbnplhdaa
open Go.RowKit
set_option linter.unusedVariables false
set_option linter.unusedSimpArgs false

abbrev actsS := sliceS 3 (pairS 1 (intS .i64) (pairS 1 strS (pairS 1 (intS .i64) unitS)))
theorem opens_actsS : Opens Try.prog 22 actsS :=
  opens_slice Try.underlying22 (by kernel_rfl) (by omega) (opens_struct Try.underlying28
    (opens_cons rfl (by kernel_rfl) (of_decide_eq_true (by kernel_rfl)) (opens_int Try.underlying3)
      (opens_cons rfl (by kernel_rfl) (of_decide_eq_true (by kernel_rfl)) (opens_str Try.underlying9)
        (opens_cons rfl (by kernel_rfl) (of_decide_eq_true (by kernel_rfl)) (opens_int Try.underlying3) (opens_nil (by kernel_rfl))))))
/-- A call: its kind, its key, its time. -/
abbrev AC := Int × (List UInt8 × (Int × Unit))
structure ActAt (w : World) (b o : Nat) (a : AC) : Prop where
  c0 : w.cell? ⟨b, o, none⟩ = some (.int .i64 a.1)
  c1 : w.cell? ⟨b, o + 1, none⟩ = some (.string (Str a.2.1))
  c2 : w.cell? ⟨b, o + 2, none⟩ = some (.int .i64 a.2.2.1)
theorem acts_of {w : World} {v : Value} {l : List AC} (h : actsS w [v] l) : ∃ q cap, v = .slice q l.length cap ∧ l.length ≤ cap ∧ cap ≤ maxLen ∧
    ∀ i (hi : i < l.length), ∃ b o, q = some ⟨b, o, none⟩ ∧ b < w.heap.size ∧ ActAt w b (o + i * 3) l[i] ∧ l[i].2.1.length ≤ maxLen ∧ (Lit.int .i64 l[i].1).wf = true ∧ (Lit.int .i64 l[i].2.2.1).wf = true := by
  rcases h with ⟨e, rfl⟩ | ⟨a, cap, e, h1, h2, h3, h4⟩
  · simp only [List.cons.injEq, and_true] at e
    exact ⟨none, 0, e, Nat.le_refl _, by unfold maxLen; omega, fun i hi => absurd hi (by simp)⟩
  · simp only [List.cons.injEq, and_true] at e
    refine ⟨some a, cap, e, h1, h2, fun i hi => ?_⟩
    obtain ⟨s1, s2⟩ := h3 (fun e => by subst e; simp at hi)
    obtain ⟨c, hc, hcell, c', d', e1, hl1, ⟨e2, w1⟩, c'', d'', e3, hl2, ⟨e4, w2⟩, c3, d3, e5, hl3, ⟨e6, w3⟩, _⟩ := h4 i l[i] (List.getElem?_eq_getElem hi)
    obtain ⟨ab, ao, asp⟩ := a
    simp only at s1 s2 hcell
    subst s1
    subst e2 e4 e6 e3 e1 e5
    refine ⟨ab, ao, rfl, s2, ⟨?_, ?_, ?_⟩, w2, w1, w3⟩
    · have := hcell 0 (by omega); simpa using this
    · have := hcell 1 (by omega); rw [show ao + i * 3 + 1 = ao + (i * 3 + 1) by omega, this]; simp
    · have := hcell 2 (by omega); rw [show ao + i * 3 + 2 = ao + (i * 3 + 2) by omega, this]; simp
theorem ActAt.below {w w' : World} {b o B : Nat} {a : AC} (h : ActAt w b o a) (hb : Below B w w') (hB : b < B) : ActAt w' b o a :=
  ⟨(hb.cell (p := ⟨b, o, none⟩) hB).trans h.c0, (hb.cell (p := ⟨b, o + 1, none⟩) hB).trans h.c1, (hb.cell (p := ⟨b, o + 2, none⟩) hB).trans h.c2⟩
theorem cutB_Str (k : List UInt8) (m : Nat) : cutB (Str k) m = Str (k.take m) := by
  unfold cutB
  rw [Str_size]
  split
  · rename_i h; rw [List.take_of_length_le h]
  · rw [Str_extract]; simp
theorem ClkB.below {w w' : World} {p : Value} {l : List EN} {j : Nat} (hc : ClkV w p l) (h : Below w.heap.size w w') (hj : ClkB w' p j) : ClkB w p j := by
  rcases hj with e | ⟨b, T, e, ho⟩
  · exact .inl e
  · rcases hc with ⟨rfl, _⟩ | ⟨b', m, rfl, ho', hm⟩
    · cases e
    · cases e
      have h1 := ho'.below h ho'.lt
      have := h1.symm.trans ho
      simp only [Option.some.injEq, Obj.cells.injEq] at this
      have hm1 : m = .map (some j) := by simpa using this.1
      subst hm1
      exact .inr ⟨b, _, rfl, ho'⟩
end Go.Proofs.Ytiegeejbnplhdaa
