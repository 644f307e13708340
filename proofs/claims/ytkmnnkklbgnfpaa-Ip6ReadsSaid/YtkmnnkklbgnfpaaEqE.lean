/-
  A frame held against itself: a rule for the walk.
-/
import Derived.Test.YtkmnnkklbgnfpaaEqA
import Derived.Test.YtkmnnkklbgnfpaaEth
namespace Go.Proofs.Ytkmnnkklbgnfpaa
open Go.RowKit
set_option linter.unusedVariables false

theorem eqFields_same {P : Program} (d : Nat) (xs : Array Value) (w : World) : ∀ fs : List Field, (∀ f ∈ fs, ∃ v, (part f.type xs f.offset).run P w = .ok v w ∧ (Op.equalIn d f.type v v).run P w = .ok true w) → (Op.eqFields d xs xs fs).run P w = .ok true w
  | [], _ => by simp [Op.eqFields]
  | f :: fs, h => by
    obtain ⟨v, h1, h2⟩ := h f (by simp)
    have ih := eqFields_same d xs w fs (fun g hg => h g (by simp [hg]))
    simp only [Op.eqFields, Sem.run_bind, Sem.run_ite]
    split
    · simp only [h1, h2, Result.andThen_ok, Bool.not_true, Bool.false_eq_true, if_false]
      exact ih
    · exact ih
theorem part_row {T E : TypeId} {n off : Nat} {xs cs : List Value} (hu : Try.prog.underlying T = some (.array n E)) (hz : (Try.prog.info? T).map (·.size) = some n) (he : (xs.drop off).take n = cs) (w : World) : (part T xs.toArray off).run Try.prog w = .ok (.agg cs.toArray) w := by
  obtain ⟨i, hi⟩ := info_of hu
  rw [hi] at hz
  simp at hz
  have e2 : xs.toArray.extract off (off + n) = cs.toArray := by
    apply Array.ext'
    rw [← he]
    simp [List.extract_eq_take_drop]
  simp only [part, Sem.run_bind, isAgg, run_underlying hu]
  simp [sizeOf, typeInfo, hi, hz, he]
theorem eth_parts (e : Eth) (ho : e.ok) : ((ethC e).drop 0).take 6 = B8 e.to ∧ ((ethC e).drop 6).take 6 = B8 e.fr := by
  have l1 : (B8 e.to).length = 6 := by rw [B8_length, ho.1]
  have l2 : (B8 e.fr).length = 6 := by rw [B8_length, ho.2]
  constructor
  · unfold ethC; rw [List.drop_zero, ← l1]; simp
  · have : (ethC e).drop 6 = B8 e.fr ++ [.bool e.tg, .int .i64 e.vl, .int .i64 e.pr, .int .i64 e.ty, .string (Str e.bd)] := by unfold ethC; rw [← l1]; simp
    rw [this, ← l2]; simp
theorem eth_cell (e : Eth) (ho : e.ok) (j : Nat) (x : Value) (hx : [Value.bool e.tg, .int .i64 e.vl, .int .i64 e.pr, .int .i64 e.ty, .string (Str e.bd)][j]? = some x) : (ethC e).toArray[12 + j]? = some x := by
  rw [List.getElem?_toArray]
  unfold ethC
  rw [List.getElem?_append_right (by rw [B8_length, ho.1]; omega), List.getElem?_append_right (by rw [B8_length, B8_length, ho.1, ho.2]; omega), B8_length, B8_length, ho.1, ho.2, show 12 + j - 6 - 6 = j by omega]
  exact hx
end Go.Proofs.Ytkmnnkklbgnfpaa
