/-
  The shape of an address that came in.
-/
import Derived.Test.YtkmnnkklbgnfpaaAddr
import Derived.Test.YtkmnnkklbgnfpaaChecked
import Derived.Deep.MidRow
import Derived.ChangeShapes
namespace Go.Proofs.Ytkmnnkklbgnfpaa
open Go.RowKit
set_option linter.unusedVariables false

def addrS : Shape (Bool × (List UInt8 × Unit)) := pairS 1 boolS (pairS 16 (bytesS 16) unitS)
theorem opens_addrS : Opens Try.prog 24 addrS :=
  opens_struct Try.underlying24 (opens_cons rfl (by kernel_rfl) (of_decide_eq_true (by kernel_rfl)) (opens_bool Try.underlying4) (opens_cons rfl (by kernel_rfl) (of_decide_eq_true (by kernel_rfl)) (opens_bytes Try.underlying22 Try.underlying5 (by kernel_rfl) (by kernel_rfl)) (opens_nil (by kernel_rfl))))
theorem addrS_cells {w : World} {cs : List Value} {x : Bool × (List UInt8 × Unit)} (h : addrS w cs x) : cs = addrC x.1 x.2.1 ∧ x.2.1.length = 16 := by
  obtain ⟨c, d, rfl, _, h1, c', d', rfl, _, h2, h3⟩ := h
  obtain ⟨h4, h5⟩ := h2
  have h1' : c = [.bool x.1] := h1
  have h3' : d' = [] := h3
  subst h1' h3' h4
  exact ⟨by simp [addrC], h5⟩

/-- The cells that lie in a block from an offset on. -/
def row? (w : World) (b o n : Nat) : Option (List Value) := w.cells? 0 ⟨b, o, none⟩ n
theorem row?_of {w : World} {b o : Nat} {cs : List Value} (h : w.rangeAt b o cs) : row? w b o cs.length = some cs := by
  unfold row?
  exact Go.ChangeShapes.cells?_of (Nat.zero_le _) rfl (fun i hi => by rw [h i cs[i] (List.getElem?_eq_getElem hi), List.getElem?_eq_getElem hi])
theorem rangeAt_of_row? {w : World} {b o n : Nat} {cs : List Value} (h : row? w b o n = some cs) : w.rangeAt b o cs ∧ cs.length = n := by
  obtain ⟨_, h1, h2⟩ := World.cells?_some h
  refine ⟨fun j v hv => ?_, h1⟩
  have hlt := (List.getElem?_eq_some_iff.1 hv).1
  have := h2 j (by omega)
  rw [Addr.add_mid] at this
  rw [this, hv]
theorem row?_below {w w' : World} {b o n B : Nat} {cs : List Value} (h : row? w b o n = some cs) (hB : b < B) (hb : Below B w w') : row? w' b o n = some cs := by
  obtain ⟨h1, h2⟩ := rangeAt_of_row? h
  subst h2
  exact row?_of (fun j v hv => by rw [hb.cell (p := ⟨b, o + j, none⟩) hB]; exact h1 j v hv)
theorem row?_drewN {w : World} {b o n : Nat} {cs : List Value} (h : row? w b o n = some cs) (k : Nat) : row? (w.drewN k) b o n = some cs := h

/-- An address is loaded whole. -/
noncomputable def addrLoad (a : Addr) : Sem Value := loadVar 24 a
theorem addrLoad_eq (a : Addr) : loadVar 24 a = addrLoad a := rfl
/-- What else an address's load comes to. -/
noncomputable def addrSlow (b o : Nat) (w : World) : Result Value := (addrLoad ⟨b, o, none⟩).run Try.prog w
theorem addrLoad_run (b o : Nat) (w : World) : (addrLoad ⟨b, o, none⟩).run Try.prog w = match row? w b o 17 with | some cs => .ok (.agg cs.toArray) w | none => addrSlow b o w := by
  split
  · rename_i cs h
    obtain ⟨h1, h2⟩ := rangeAt_of_row? h
    exact run_loadVar_mid w b o _ cs _ h1 Try.underlying24 rfl (by rw [h2]; kernel_rfl)
  · rfl
end Go.Proofs.Ytkmnnkklbgnfpaa
