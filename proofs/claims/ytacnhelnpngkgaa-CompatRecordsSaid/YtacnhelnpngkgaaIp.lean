/-
  A packet of IPv4 in memory, and how it is loaded and stored whole.
-/
import Derived.Test.YtacnhelnpngkgaaAgg
import Derived.Test.YtacnhelnpngkgaaMg07
namespace Go.Proofs.Ytacnhelnpngkgaa
open Go.RowKit
set_option linter.unusedVariables false

structure Ip where
  tos : Int
  id : Int
  ttl : Int
  pro : Int
  f6 : Bool
  fr : List UInt8
  t6 : Bool
  to : List UInt8
  al : Bool
  bd : List UInt8
def Ip.ok (p : Ip) : Prop := p.fr.length = 16 ∧ p.to.length = 16
/-- An address is stored whole at an offset. -/
noncomputable def aggStSlowO (T : TypeId) (b o : Nat) (v : Value) (w : World) : Result Unit := (aggSt T ⟨b, o, none⟩ v).run Try.prog w
theorem st_run_at {T : TypeId} {n : Nat} (hi : (Try.prog.info? T).map (·.size) = some n) (b o : Nat) (cs : Array Value) (w : World) :
    (aggSt T ⟨b, o, none⟩ (.agg cs)).run Try.prog w = match free? w b o n && fok cs n with | true => .ok () (aggO w b o cs.toList) | false => aggStSlowO T b o (.agg cs) w := by
  split
  · rename_i h
    simp only [Bool.and_eq_true, fok, beq_iff_eq] at h
    obtain ⟨h1, h2, h3⟩ := h
    rw [aggO_eq]
    exact run_storeVar_mid w b o T cs (by rw [h2]; exact of_free h1) (by rw [h2]; exact hi) h3
  · rfl
theorem str_addr_at (b o : Nat) (cs : Array Value) (w : World) : (aggSt 24 ⟨b, o, none⟩ (.agg cs)).run Try.prog w = match free? w b o 17 && fok cs 17 with | true => .ok () (aggO w b o cs.toList) | false => aggStSlowO 24 b o (.agg cs) w :=
  st_run_at (by kernel_rfl) b o cs w
end Go.Proofs.Ytacnhelnpngkgaa
