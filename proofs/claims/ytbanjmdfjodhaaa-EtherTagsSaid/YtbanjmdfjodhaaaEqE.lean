/-
  A frame held against itself: a rule for the walk.
-/
import Derived.Test.YtbanjmdfjodhaaaEqA
import Derived.Test.YtbanjmdfjodhaaaEth
namespace Go.Proofs.Ytbanjmdfjodhaaa
open Go.RowKit
set_option linter.unusedVariables false

theorem eqFields_same {P : Program} (d : Nat) (xs : Array Value) (w : World) : ∀ fs : List Field, (∀ f ∈ fs, ∃ v, (part f.type xs f.offset).run P w = .ok v w ∧ (Op.equalIn d f.type v v).run P w = .ok true w) → (Op.eqFields d xs xs fs).run P w = .ok true w
  | [], _ => by simp [Op.eqFields]
  | f :: fs, h => by
    obtain ⟨v, h1, h2⟩ := h f (by simp)
    have ih := eqFields_same d xs w fs (fun g hg => h g (by simp [hg]))
    simp only [Op.eqFields, Sem.run_bind, Sem.run_ite]
    split
    · simp only [h1, h2, Result.andThen_ok, Bool.not_true, Bool.false_eq_true, if_false]
      exact ih
    · exact ih
theorem part_row {T E : TypeId} {n off : Nat} {xs cs : List Value} (hu : Try.prog.underlying T = some (.array n E)) (hz : (Try.prog.info? T).map (·.size) = some n) (he : (xs.drop off).take n = cs) (w : World) : (part T xs.toArray off).run Try.prog w = .ok (.agg cs.toArray) w := by
  obtain ⟨i, hi⟩ := info_of hu
  rw [hi] at hz
  simp at hz
  have e2 : xs.toArray.extract off (off + n) = cs.toArray := by
    apply Array.ext'
    rw [← he]
    simp [List.extract_eq_take_drop]
  simp only [part, Sem.run_bind, isAgg, run_underlying hu]
  simp [sizeOf, typeInfo, hi, hz, he]
theorem eth_parts (e : Eth) (ho : e.ok) : ((ethC e).drop 0).take 6 = B8 e.to ∧ ((ethC e).drop 6).take 6 = B8 e.fr := by
  have l1 : (B8 e.to).length = 6 := by rw [B8_length, ho.1]
  have l2 : (B8 e.fr).length = 6 := by rw [B8_length, ho.2]
  constructor
  · unfold ethC; rw [List.drop_zero, ← l1]; simp
  · have : (ethC e).drop 6 = B8 e.fr ++ [.bool e.tg, .int .i64 e.vl, .int .i64 e.pr, .int .i64 e.ty, .string (Str e.bd)] := by unfold ethC; rw [← l1]; simp
    rw [this, ← l2]; simp
theorem eth_cell (e : Eth) (ho : e.ok) (j : Nat) (x : Value) (hx : [Value.bool e.tg, .int .i64 e.vl, .int .i64 e.pr, .int .i64 e.ty, .string (Str e.bd)][j]? = some x) : (ethC e).toArray[12 + j]? = some x := by
  rw [List.getElem?_toArray]
  unfold ethC
  rw [List.getElem?_append_right (by rw [B8_length, ho.1]; omega), List.getElem?_append_right (by rw [B8_length, B8_length, ho.1, ho.2]; omega), B8_length, B8_length, ho.1, ho.2, show 12 + j - 6 - 6 = j by omega]
  exact hx
theorem eq_eth_d (d : Nat) (e : Eth) (ho : e.ok) (w : World) :
    (Op.equalIn (d + 1 + 1 + 1) 25 (.agg (ethC e).toArray) (.agg (ethC e).toArray)).run Try.prog w = .ok true w := by
  have hf : Try.prog.underlying 25 = some (.struct (Try.prog.fieldsOf 25)) := by
    have h := Try.underlying25
    rw [Program.fieldsOf, h]
  obtain ⟨i8, hi8⟩ := info_of Try.underlying5
  obtain ⟨p1, p2⟩ := eth_parts e ho
  have a1 : ∃ v, (part 23 (ethC e).toArray 0).run Try.prog w = .ok v w ∧ (Op.equalIn (d + 1 + 1) 23 v v).run Try.prog w = .ok true w :=
    ⟨_, part_row Try.underlying23 (by kernel_rfl) p1 w, by
      rw [run_eq_bytes_d (P := Try.prog) Try.underlying23 Try.underlying5 (by kernel_rfl) hi8 (by kernel_rfl) e.to e.to ho.1 ho.1 d w]; simp⟩
  have a2 : ∃ v, (part 23 (ethC e).toArray 6).run Try.prog w = .ok v w ∧ (Op.equalIn (d + 1 + 1) 23 v v).run Try.prog w = .ok true w :=
    ⟨_, part_row Try.underlying23 (by kernel_rfl) p2 w, by
      rw [run_eq_bytes_d (P := Try.prog) Try.underlying23 Try.underlying5 (by kernel_rfl) hi8 (by kernel_rfl) e.fr e.fr ho.2 ho.2 d w]; simp⟩
  have a3 : ∃ v, (part 4 (ethC e).toArray 12).run Try.prog w = .ok v w ∧ (Op.equalIn (d + 1 + 1) 4 v v).run Try.prog w = .ok true w :=
    ⟨_, run_part_plain w (by kernel_rfl) (eth_cell e ho 0 _ rfl), by rw [run_equalIn_bool' w (d + 1) 4 _ _ Try.underlying4]; simp⟩
  have ai : ∀ (j : Nat) (n : Int), [Value.bool e.tg, .int .i64 e.vl, .int .i64 e.pr, .int .i64 e.ty, .string (Str e.bd)][j]? = some (.int .i64 n) → ∃ v, (part 3 (ethC e).toArray (12 + j)).run Try.prog w = .ok v w ∧ (Op.equalIn (d + 1 + 1) 3 v v).run Try.prog w = .ok true w := fun j n hj =>
    ⟨_, run_part_plain w (by kernel_rfl) (eth_cell e ho j _ hj), by rw [run_equalIn_int w (d + 1) 3 .i64 .i64 _ _ Try.underlying3]; simp⟩
  have a7 : ∃ v, (part 9 (ethC e).toArray 16).run Try.prog w = .ok v w ∧ (Op.equalIn (d + 1 + 1) 9 v v).run Try.prog w = .ok true w :=
    ⟨_, run_part_plain w (by kernel_rfl) (eth_cell e ho 4 _ rfl), by rw [run_equalIn_string w (d + 1) 9 _ _ Try.underlying9]; simp⟩
  have hF : (Try.prog.fieldsOf 25).toList.map (fun f => (f.name, f.type, f.offset)) = [("To", 23, 0), ("From", 23, 6), ("Tagged", 4, 12), ("Vlan", 3, 13), ("Prio", 3, 14), ("Type", 3, 15), ("Body", 9, 16)] := by kernel_rfl
  rw [run_equalIn_struct w (d + 1 + 1) _ _ _ hf (by kernel_rfl)]
  apply eqFields_same
  intro f hfm
  have hm : (f.name, f.type, f.offset) ∈ [("To", 23, 0), ("From", 23, 6), ("Tagged", 4, 12), ("Vlan", 3, 13), ("Prio", 3, 14), ("Type", 3, 15), ("Body", 9, 16)] := by
    rw [← hF]; exact List.mem_map_of_mem hfm
  generalize f.type = T at hm ⊢
  generalize f.offset = O at hm ⊢
  simp only [List.mem_cons, Prod.mk.injEq, List.not_mem_nil, or_false] at hm
  rcases hm with ⟨_, rfl, rfl⟩ | ⟨_, rfl, rfl⟩ | ⟨_, rfl, rfl⟩ | ⟨_, rfl, rfl⟩ | ⟨_, rfl, rfl⟩ | ⟨_, rfl, rfl⟩ | ⟨_, rfl, rfl⟩
  · exact a1
  · exact a2
  · exact a3
  · exact ai 1 _ rfl
  · exact ai 2 _ rfl
  · exact ai 3 _ rfl
  · exact a7
theorem eq_eth (e : Eth) (ho : e.ok) (w : World) : (Op.equalIn 10000 25 (.agg (ethC e).toArray) (.agg (ethC e).toArray)).run Try.prog w = .ok true w := eq_eth_d 9997 e ho w
end Go.Proofs.Ytbanjmdfjodhaaa
