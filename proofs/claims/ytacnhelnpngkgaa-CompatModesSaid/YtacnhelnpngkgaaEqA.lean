/-
  Two addresses are held against each other: a rule for the walk.
-/
import Derived.Test.YtacnhelnpngkgaaMg00
import Derived.Test.YtacnhelnpngkgaaAgg
import Derived.Laws.StructEq
namespace Go.Proofs.Ytacnhelnpngkgaa
open Go.RowKit
set_option linter.unusedVariables false

theorem run_eq_bytes_d {P : Program} {t e : TypeId} {n : Nat} {i : TypeInfo} (hu : P.underlying t = some (.array n e)) (he : P.underlying e = some (.int .u8)) (hp : P.plainKey e = true) (hi : P.info? e = some i) (hc : P.cellsOf e = 1) (l m : List UInt8) (hl : l.length = n) (hm : m.length = n) (d : Nat) (w : World) :
    (Op.equalIn (d + 1 + 1) t (.agg (B8 l).toArray) (.agg (B8 m).toArray)).run P w = .ok (decide (l = m)) w := by
  rw [run_equalIn_array w (d + 1) _ _ hu hi, hc, eqItems_bytes he hp d l m w _ (by intro j hj; have := List.mem_range.1 hj; omega)]
  subst hl
  rw [all_range_eq l m hm.symm]
theorem part_bytes (v : Bool) (l : List UInt8) (hl : l.length = 16) (w : World) : (part 22 (addrC v l).toArray 1).run Try.prog w = .ok (.agg (B8 l).toArray) w := by
  obtain ⟨i, hi⟩ := info_of Try.underlying22
  have hs : (Try.prog.info? 22).map (·.size) = some 16 := by kernel_rfl
  rw [hi] at hs
  simp at hs
  have e : ((addrC v l).toArray.extract 1 17) = (B8 l).toArray := by
    apply Array.ext'
    simp [addrC, B8_length, hl, List.take_of_length_le]
  have e2 : List.take 16 (addrC v l).tail = B8 l := by
    rw [addrC]; simp [B8_length, hl, List.take_of_length_le]
  simp [part, isAgg, run_underlying Try.underlying22, sizeOf, typeInfo, hi, hs, e2]
theorem eq_fin {P : Program} (v v' : Bool) (l l' : List UInt8) (w : World) (S1 S2 : Sem Value) (x y : Value) (E : Value → Value → Sem Bool) (h1 : S1.run P w = .ok x w) (h2 : S2.run P w = .ok y w) (h3 : (E x y).run P w = .ok (decide (l = l')) w) :
    (Sem.run P (if (!v == v') = true then pure false
      else do
        let a ← S1
        let b ← S2
        let r ← E a b
        if (!r) = true then pure false else pure true) w) = .ok (decide (v = v' ∧ l = l')) w := by
  by_cases hv : v = v'
  · subst hv
    by_cases hl : l = l' <;> simp [h1, h2, h3, hl]
  · simp [hv]
theorem eq_addr_d (d : Nat) (v v' : Bool) (l l' : List UInt8) (hl : l.length = 16) (hl' : l'.length = 16) (w : World) :
    (Op.equalIn (d + 1 + 1 + 1) 24 (.agg (addrC v l).toArray) (.agg (addrC v' l').toArray)).run Try.prog w = .ok (decide (v = v' ∧ l = l')) w := by
  have hf : Try.prog.underlying 24 = some (.struct (Try.prog.fieldsOf 24)) := by
    have h := Try.underlying24
    rw [Program.fieldsOf, h]
  obtain ⟨i8, hi8⟩ := info_of Try.underlying5
  have hb := run_eq_bytes_d (P := Try.prog) Try.underlying22 Try.underlying5 (by kernel_rfl) hi8 (by kernel_rfl) l l' hl hl' d w
  have hp1 := part_bytes v l hl w
  have hp2 := part_bytes v' l' hl' w
  have q1 : (part 4 (addrC v l).toArray 0).run Try.prog w = .ok (.bool v) w := run_part_plain w (by kernel_rfl) rfl
  have q2 : (part 4 (addrC v' l').toArray 0).run Try.prog w = .ok (.bool v') w := run_part_plain w (by kernel_rfl) rfl
  have q3 : (Op.equalIn (d + 1 + 1) 4 (.bool v) (.bool v')).run Try.prog w = .ok (v == v') w := by
    simp [Op.equalIn, run_underlying Try.underlying4]
  have hF : (Try.prog.fieldsOf 24).toList.map (fun f => (f.name, f.type, f.offset)) = [("V6", 4, 0), ("B", 22, 1)] := by kernel_rfl
  rw [run_equalIn_struct w (d + 1 + 1) _ _ _ hf (by kernel_rfl)]
  generalize (Try.prog.fieldsOf 24).toList = fs at hF
  obtain ⟨f, fs1, rfl, hf1, hF1⟩ := List.map_eq_cons_iff.1 hF
  obtain ⟨g, fs2, rfl, hg1, hF2⟩ := List.map_eq_cons_iff.1 hF1
  obtain rfl := List.map_eq_nil_iff.1 hF2
  simp only [Prod.mk.injEq] at hf1 hg1
  obtain ⟨n1, n2, n3⟩ := hf1
  obtain ⟨n4, n5, n6⟩ := hg1
  simp only [Op.eqFields, n1, n2, n3, n4, n5, n6, ne_eq, String.reduceEq, not_false_eq_true, if_true, Sem.run_bind, q1, q2, q3, Result.andThen_ok]
  have hb' : (Op.equalIn (d + 1 + 1) 22 (.agg (B8 l).toArray) (.agg (B8 l').toArray)).run Try.prog w = .ok (decide (l = l')) w := hb
  clear q1 q2 q3 hb hf hF hF1 hF2 n1 n2 n3 n4 n5 n6 hi8
  generalize part 22 (addrC v l).toArray 1 = S1 at hp1 ⊢
  generalize part 22 (addrC v' l').toArray 1 = S2 at hp2 ⊢
  have hb2 : (Op.equalIn (d + 1 + 1) 22 (.agg (B8 l).toArray) (.agg (B8 l').toArray)).run Try.prog w = .ok (decide (l = l')) w := hb'
  generalize (B8 l).toArray = X1 at hp1 hb2
  generalize (B8 l').toArray = X2 at hp2 hb2
  clear hb'
  exact eq_fin v v' l l' w _ _ _ _ _ hp1 hp2 hb2
theorem eq_addr (v v' : Bool) (l l' : List UInt8) (hl : l.length = 16) (hl' : l'.length = 16) (w : World) :
    (Op.equalIn 10000 24 (.agg (addrC v l).toArray) (.agg (addrC v' l').toArray)).run Try.prog w = .ok (decide (v = v' ∧ l = l')) w :=
  eq_addr_d 9997 v v' l l' hl hl' w
end Go.Proofs.Ytacnhelnpngkgaa
