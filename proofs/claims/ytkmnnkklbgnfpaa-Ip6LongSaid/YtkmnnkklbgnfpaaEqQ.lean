/-
  A packet of IPv6 held against itself: a rule for the walk.
-/
import Derived.Test.YtkmnnkklbgnfpaaEqI
import Derived.Test.YtkmnnkklbgnfpaaIq
namespace Go.Proofs.Ytkmnnkklbgnfpaa
open Go.RowKit
set_option linter.unusedVariables false

theorem eq_iq_d (d : Nat) (p : Ip) (ho : p.ok) (w : World) :
    (Op.equalIn (d + 1 + 1 + 1 + 1) 26 (.agg (ipC p).toArray) (.agg (ipC p).toArray)).run Try.prog w = .ok true w := by
  have hf : Try.prog.underlying 26 = some (.struct (Try.prog.fieldsOf 26)) := by
    have h := Try.underlying26
    rw [Program.fieldsOf, h]
  have hu := Try.underlying24
  obtain ⟨p1, p2⟩ := ip_parts p ho
  have a1 : ∃ v, (part 24 (ipC p).toArray 4).run Try.prog w = .ok v w ∧ (Op.equalIn (d + 1 + 1 + 1) 24 v v).run Try.prog w = .ok true w :=
    ⟨_, part_rows hu (by kernel_rfl) p1 w, by
      rw [eq_addr_d d p.f6 p.f6 p.fr p.fr ho.1 ho.1 w]; simp⟩
  have a2 : ∃ v, (part 24 (ipC p).toArray 21).run Try.prog w = .ok v w ∧ (Op.equalIn (d + 1 + 1 + 1) 24 v v).run Try.prog w = .ok true w :=
    ⟨_, part_rows hu (by kernel_rfl) p2 w, by
      rw [eq_addr_d d p.t6 p.t6 p.to p.to ho.2 ho.2 w]; simp⟩
  have a3 : ∃ v, (part 4 (ipC p).toArray 38).run Try.prog w = .ok v w ∧ (Op.equalIn (d + 1 + 1 + 1) 4 v v).run Try.prog w = .ok true w :=
    ⟨_, run_part_plain w (by kernel_rfl) (ip_cell2 p ho 0 _ rfl), by rw [run_equalIn_bool' w (d + 1 + 1) 4 _ _ Try.underlying4]; simp⟩
  have ai : ∀ (j : Nat) (n : Int), [Value.int .i64 p.tos, .int .i64 p.id, .int .i64 p.ttl, .int .i64 p.pro][j]? = some (.int .i64 n) → ∃ v, (part 3 (ipC p).toArray j).run Try.prog w = .ok v w ∧ (Op.equalIn (d + 1 + 1 + 1) 3 v v).run Try.prog w = .ok true w := fun j n hj =>
    ⟨_, run_part_plain w (by kernel_rfl) (ip_cell p j _ hj), by rw [run_equalIn_int w (d + 1 + 1) 3 .i64 .i64 _ _ Try.underlying3]; simp⟩
  have a7 : ∃ v, (part 9 (ipC p).toArray 39).run Try.prog w = .ok v w ∧ (Op.equalIn (d + 1 + 1 + 1) 9 v v).run Try.prog w = .ok true w :=
    ⟨_, run_part_plain w (by kernel_rfl) (ip_cell2 p ho 1 _ rfl), by rw [run_equalIn_string w (d + 1 + 1) 9 _ _ Try.underlying9]; simp⟩
  have hF : (Try.prog.fieldsOf 26).toList.map (fun f => (f.name, f.type, f.offset)) = [("Class", 3, 0), ("Flow", 3, 1), ("Next", 3, 2), ("Hop", 3, 3), ("From", 24, 4), ("To", 24, 21), ("Alert", 4, 38), ("Body", 9, 39)] := by kernel_rfl
  rw [run_equalIn_struct w (d + 1 + 1 + 1) _ _ _ hf (by kernel_rfl)]
  apply eqFields_same
  intro f hfm
  have hm : (f.name, f.type, f.offset) ∈ [("Class", 3, 0), ("Flow", 3, 1), ("Next", 3, 2), ("Hop", 3, 3), ("From", 24, 4), ("To", 24, 21), ("Alert", 4, 38), ("Body", 9, 39)] := by
    rw [← hF]; exact List.mem_map_of_mem hfm
  generalize f.type = T at hm ⊢
  generalize f.offset = O at hm ⊢
  simp only [List.mem_cons, Prod.mk.injEq, List.not_mem_nil, or_false] at hm
  rcases hm with ⟨_, rfl, rfl⟩ | ⟨_, rfl, rfl⟩ | ⟨_, rfl, rfl⟩ | ⟨_, rfl, rfl⟩ | ⟨_, rfl, rfl⟩ | ⟨_, rfl, rfl⟩ | ⟨_, rfl, rfl⟩ | ⟨_, rfl, rfl⟩
  · exact ai 0 _ rfl
  · exact ai 1 _ rfl
  · exact ai 2 _ rfl
  · exact ai 3 _ rfl
  · exact a1
  · exact a2
  · exact a3
  · exact a7
theorem eq_iq (p : Ip) (ho : p.ok) (w : World) : (Op.equalIn 10000 26 (.agg (ipC p).toArray) (.agg (ipC p).toArray)).run Try.prog w = .ok true w := eq_iq_d 9996 p ho w
end Go.Proofs.Ytkmnnkklbgnfpaa
