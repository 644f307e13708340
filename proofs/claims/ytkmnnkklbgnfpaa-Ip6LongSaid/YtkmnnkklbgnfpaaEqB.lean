/-
  Two arrays of bytes are held against each other: a rule for the walk.
-/
import Derived.Test.YtkmnnkklbgnfpaaBase
import Derived.ChangeKeysEq
namespace Go.Proofs.Ytkmnnkklbgnfpaa
open Go.RowKit
set_option linter.unusedVariables false

theorem eqItems_bytes {P : Program} {e : TypeId} (he : P.underlying e = some (.int .u8)) (hp : P.plainKey e = true) (d : Nat) (l m : List UInt8) (w : World) :
    ∀ is : List Nat, (∀ i ∈ is, i < l.length ∧ i < m.length) → (Op.eqItems (d + 1) e 1 (B8 l).toArray (B8 m).toArray is).run P w = .ok (is.all fun i => l.getD i 0 == m.getD i 0) w
  | [], _ => by simp [Op.eqItems]
  | i :: is, h => by
    obtain ⟨h1, h2⟩ := h i (by simp)
    have ih := eqItems_bytes he hp d l m w is (fun j hj => h j (by simp [hj]))
    have p1 : (part e (B8 l).toArray (i * 1)).run P w = .ok (.int .u8 ((l.getD i 0).toNat : Int)) w := run_part_plain w hp (by simp [B8_get, h1])
    have p2 : (part e (B8 m).toArray (i * 1)).run P w = .ok (.int .u8 ((m.getD i 0).toNat : Int)) w := run_part_plain w hp (by simp [B8_get, h2])
    have p3 : (Op.equalIn (d + 1) e (.int .u8 ((l.getD i 0).toNat : Int)) (.int .u8 ((m.getD i 0).toNat : Int))).run P w = .ok (l.getD i 0 == m.getD i 0) w := by
      have hq : (((l.getD i 0).toNat : Int) == ((m.getD i 0).toNat : Int)) = (l.getD i 0 == m.getD i 0) := by
        generalize l.getD i 0 = x; generalize m.getD i 0 = y
        rw [Bool.eq_iff_iff, beq_iff_eq, beq_iff_eq, ← UInt8.toNat_inj]; omega
      generalize l.getD i 0 = x at hq ⊢; generalize m.getD i 0 = y at hq ⊢
      simp [Op.equalIn, run_underlying he, hq]
    simp only [Op.eqItems, Sem.run_bind, p1, p2, p3, Result.andThen_ok, List.all_cons]
    cases l.getD i 0 == m.getD i 0
    · simp
    · simpa using ih
theorem all_range_eq (l m : List UInt8) (h : l.length = m.length) : ((List.range l.length).all fun i => l.getD i 0 == m.getD i 0) = decide (l = m) := by
  rw [Bool.eq_iff_iff]
  simp only [List.all_eq_true, List.mem_range, beq_iff_eq, decide_eq_true_eq]
  constructor
  · intro ha
    apply List.ext_getElem h
    intro i h1 h2
    have := ha i h1
    simpa [List.getD, h1, h2] using this
  · rintro rfl i _; rfl
/-- '==' at two arrays of bytes. -/
theorem run_eq_bytes {P : Program} {t e : TypeId} {n : Nat} {i : TypeInfo} (hu : P.underlying t = some (.array n e)) (he : P.underlying e = some (.int .u8)) (hp : P.plainKey e = true) (hi : P.info? e = some i) (hc : P.cellsOf e = 1) (l m : List UInt8) (hl : l.length = n) (hm : m.length = n) (w : World) :
    (Op.equalIn 10000 t (.agg (B8 l).toArray) (.agg (B8 m).toArray)).run P w = .ok (decide (l = m)) w := by
  rw [show (10000 : Nat) = 9998 + 1 + 1 from rfl, run_equalIn_array w (9998 + 1) _ _ hu hi, hc, eqItems_bytes he hp 9998 l m w _ (by intro j hj; have := List.mem_range.1 hj; omega)]
  subst hl
  rw [all_range_eq l m hm.symm]
theorem info_of {P : Program} {e : TypeId} {k : TypeDesc} (h : P.underlying e = some k) : ∃ i, P.info? e = some i := info_of_underlying h
end Go.Proofs.Ytkmnnkklbgnfpaa
