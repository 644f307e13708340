/-
  addr.Ssm.
-/
import Derived.Test.YtmpikhpnkfnnoaaGreatDoorTell3
namespace Go.Proofs.YtmpikhpnkfnnoaaGreatDoor
open Go.RowKit
set_option linter.unusedVariables false
attribute [local go_sem ↓] ld_addr
attribute [local go_sem] ldr_addr

theorem two_zero (a b : UInt8) : decide ([a, b] = [0, 0]) = decide ((a.toNat : Int) = 0 ∧ (b.toNat : Int) = 0) := by
  rw [Bool.eq_iff_iff]
  simp [← UInt8.toNat_inj]
set_option maxRecDepth 100000 in
set_option maxHeartbeats 2000000 in
theorem ssm6 (l : List UInt8) (hl : l.length = 16) (w : World) : Calls Tryz.prog 20 #[.agg (addrC true l).toArray] w fun e w' => e = .returned (.bool (ssmV true l)) ∧ Below w.heap.size w w' := by
  have HO := Lib.hid (OneA.made w true l hl)
  have HG := Lib.hid (fun w => group_any true l hl w)
  obtain ⟨i8, hi8⟩ := info_of Tryz.underlying5
  have hat : ∀ w0, (Instr.arrayAt 47 (.slice (some ⟨w.heap.size, 3, none⟩) 2 14)).run Tryz.prog w0 = .ok (.pointer (some ⟨w.heap.size, 3, none⟩)) w0 := fun w0 => run_arrayAt w0 47 _ 2 _ 2 14 Tryz.underlying47 (by omega)
  have heq : ∀ w0, (Op.equalIn 10000 47 (.agg #[.int .u8 (bN l 2), .int .u8 (bN l 3)]) (.agg #[.int .u8 0, .int .u8 0])).run Tryz.prog w0 = .ok (decide (bN l 2 = 0 ∧ bN l 3 = 0)) w0 := fun w0 => by
    have h := run_eq_bytes Tryz.underlying47 Tryz.underlying5 (by kernel_rfl) hi8 (by kernel_rfl) [l.getD 2 0, l.getD 3 0] [0, 0] rfl rfl w0
    rw [two_zero] at h
    exact h
  clear hi8
  have hg : grpV true l = (bN l 0 == 255) := rfl
  have HV : Hid (ssmV true l = ((bN l 0 == 255) && (decide (48 ≤ bN l 1) && (decide (bN l 1 ≤ 63) && decide (bN l 2 = 0 ∧ bN l 3 = 0))))) := Lib.hid (by rw [Bool.eq_iff_iff]; simp [ssmV])
  rw [HV.out]
  rw [hg] at HG
  clear hg HV
  generalize decide (bN l 2 = 0 ∧ bN l 3 = 0) = z at heq ⊢
  cases hx : (bN l 0 == 255) <;> rw [hx] at HG
  all_goals
    go_enter Tryz.func20, Tryz.ntmps20
    go_upto_region 1 with (fail)
    generalize w.alloc _ = W at HO ⊢
    obtain ⟨k0, k1, k2, k3, k4, k5⟩ := HO.out.facts
    go_wp2_with (go_at_call 16; refine (HG.out _).mono ?_; rintro e w1 ⟨rfl, hb1⟩; have HO1 := Lib.hid (HO.out.keep hb1); obtain ⟨s0, s1, s2, s3, s4, s5⟩ := HO1.out.facts; have s6 : w1.cell? ⟨w.heap.size, 4, none⟩ = some (.int .u8 (bN l 3)) := HO1.out.2.2.2.2.2.1; clear hb1 k0 k1 k2 k3 k4 k5 s1 s5)
    all_goals
      go_ret
      exact ⟨ret_bool (by simp_all <;> (intros; first | omega | (exfalso; omega))), HO1.out.bel⟩
theorem ssm_any (v : Bool) (l : List UInt8) (hl : l.length = 16) (w : World) : Calls Tryz.prog 20 #[.agg (addrC v l).toArray] w fun e w' => e = .returned (.bool (ssmV v l)) ∧ Below w.heap.size w w' := by
  cases v
  · exact ssm4 l hl w
  · exact ssm6 l hl w
end Go.Proofs.YtmpikhpnkfnnoaaGreatDoor
