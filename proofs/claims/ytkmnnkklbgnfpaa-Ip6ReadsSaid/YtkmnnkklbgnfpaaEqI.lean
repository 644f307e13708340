/-
  A packet held against itself: a rule for the walk.
-/
import Derived.Test.YtkmnnkklbgnfpaaEqE
import Derived.Test.YtkmnnkklbgnfpaaIp
namespace Go.Proofs.Ytkmnnkklbgnfpaa
open Go.RowKit
set_option linter.unusedVariables false

theorem part_rows {T : TypeId} {n off : Nat} {fs : Array Field} {xs cs : List Value} (hu : Try.prog.underlying T = some (.struct fs)) (hz : (Try.prog.info? T).map (·.size) = some n) (he : (xs.drop off).take n = cs) (w : World) : (part T xs.toArray off).run Try.prog w = .ok (.agg cs.toArray) w := by
  obtain ⟨i, hi⟩ := info_of hu
  rw [hi] at hz
  simp at hz
  have e2 : xs.toArray.extract off (off + n) = cs.toArray := by
    apply Array.ext'
    rw [← he]
    simp [List.extract_eq_take_drop]
  simp only [part, Sem.run_bind, isAgg, run_underlying hu]
  simp [sizeOf, typeInfo, hi, hz, he]
theorem ip_parts (p : Ip) (ho : p.ok) : ((ipC p).drop 4).take 17 = addrC p.f6 p.fr ∧ ((ipC p).drop 21).take 17 = addrC p.t6 p.to := by
  have l1 : (addrC p.f6 p.fr).length = 17 := by rw [addrC_length, ho.1]
  have l2 : (addrC p.t6 p.to).length = 17 := by rw [addrC_length, ho.2]
  constructor
  · have : (ipC p).drop 4 = addrC p.f6 p.fr ++ (addrC p.t6 p.to ++ [.bool p.al, .string (Str p.bd)]) := rfl
    rw [this, ← l1]; simp
  · have : (ipC p).drop 21 = addrC p.t6 p.to ++ [.bool p.al, .string (Str p.bd)] := by
      rw [show (21 : Nat) = 4 + 17 from rfl, ← List.drop_drop]
      rw [show (ipC p).drop 4 = addrC p.f6 p.fr ++ (addrC p.t6 p.to ++ [.bool p.al, .string (Str p.bd)]) from rfl, ← l1]; simp
    rw [this, ← l2]; simp
theorem ip_cell (p : Ip) (j : Nat) (x : Value) (hx : [Value.int .i64 p.tos, .int .i64 p.id, .int .i64 p.ttl, .int .i64 p.pro][j]? = some x) : (ipC p).toArray[j]? = some x := by
  have hj : j < 4 := (List.getElem?_eq_some_iff.1 hx).1
  rw [List.getElem?_toArray]
  unfold ipC
  rw [List.getElem?_append_left hj]
  exact hx
theorem ip_cell2 (p : Ip) (ho : p.ok) (j : Nat) (x : Value) (hx : [Value.bool p.al, .string (Str p.bd)][j]? = some x) : (ipC p).toArray[38 + j]? = some x := by
  rw [List.getElem?_toArray]
  unfold ipC
  rw [List.getElem?_append_right (by simp; omega), List.getElem?_append_right (by simp [addrC_length, ho.1]; omega), List.getElem?_append_right (by simp [addrC_length, ho.1, ho.2]; omega)]
  simp only [List.length_cons, List.length_nil, addrC_length, ho.1, ho.2]
  rw [show 38 + j - (0 + 1 + 1 + 1 + 1) - (16 + 1) - (16 + 1) = j by omega]
  exact hx
end Go.Proofs.Ytkmnnkklbgnfpaa
