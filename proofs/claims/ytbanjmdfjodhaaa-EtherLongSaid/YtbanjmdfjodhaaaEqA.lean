/-
  Two addresses are held against each other: a rule for the walk.
-/
import Derived.Test.YtbanjmdfjodhaaaEqB
import Derived.Test.YtbanjmdfjodhaaaAgg
import Derived.Laws.StructEq
namespace Go.Proofs.Ytbanjmdfjodhaaa
open Go.RowKit
set_option linter.unusedVariables false

theorem run_eq_bytes_d {P : Program} {t e : TypeId} {n : Nat} {i : TypeInfo} (hu : P.underlying t = some (.array n e)) (he : P.underlying e = some (.int .u8)) (hp : P.plainKey e = true) (hi : P.info? e = some i) (hc : P.cellsOf e = 1) (l m : List UInt8) (hl : l.length = n) (hm : m.length = n) (d : Nat) (w : World) :
    (Op.equalIn (d + 1 + 1) t (.agg (B8 l).toArray) (.agg (B8 m).toArray)).run P w = .ok (decide (l = m)) w := by
  rw [run_equalIn_array w (d + 1) _ _ hu hi, hc, eqItems_bytes he hp d l m w _ (by intro j hj; have := List.mem_range.1 hj; omega)]
  subst hl
  rw [all_range_eq l m hm.symm]
theorem eq_fin {P : Program} (v v' : Bool) (l l' : List UInt8) (w : World) (S1 S2 : Sem Value) (x y : Value) (E : Value → Value → Sem Bool) (h1 : S1.run P w = .ok x w) (h2 : S2.run P w = .ok y w) (h3 : (E x y).run P w = .ok (decide (l = l')) w) :
    (Sem.run P (if (!v == v') = true then pure false
      else do
        let a ← S1
        let b ← S2
        let r ← E a b
        if (!r) = true then pure false else pure true) w) = .ok (decide (v = v' ∧ l = l')) w := by
  by_cases hv : v = v'
  · subst hv
    by_cases hl : l = l' <;> simp [h1, h2, h3, hl]
  · simp [hv]
end Go.Proofs.Ytbanjmdfjodhaaa
