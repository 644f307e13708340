/-
  The document's own Scope and Local; addr.Zero and addr.Many.
-/
import Derived.Test.YtmpikhpnkfnnoaaGreatDoorTell
namespace Go.Proofs.YtmpikhpnkfnnoaaGreatDoor
open Go.RowKit
set_option linter.unusedVariables false
attribute [local go_sem ↓] ld_addr ld_b16 bld_b16
attribute [local go_sem] ldr_addr ldr_b16

/-- The boxed address. -/
def OneA (w W : World) (v : Bool) (l : List UInt8) : Prop := BoxAt w W v l ∧ GoA w W l
theorem OneA.made (w : World) (v : Bool) (l : List UInt8) (hl : l.length = 16) : OneA w (w.alloc (.cells (addrC v l).toArray 24)) v l := ⟨BoxAt.made w v l hl 24, GoA.made w v l hl⟩
theorem OneA.keep {w W W' : World} {v : Bool} {l : List UInt8} (h : OneA w W v l) (hb : Below W.heap.size W W') : OneA w W' v l := ⟨h.1.keep hb, h.2.below hb⟩
theorem OneA.facts {w W : World} {v : Bool} {l : List UInt8} (h : OneA w W v l) : W.cell? ⟨w.heap.size, 0, none⟩ = some (.bool v) ∧ row? W w.heap.size 0 17 = some (addrC v l) ∧ W.cell? ⟨w.heap.size, 1, none⟩ = some (.int .u8 (bN l 0)) ∧ W.cell? ⟨w.heap.size, 2, none⟩ = some (.int .u8 (bN l 1)) ∧ W.cell? ⟨w.heap.size, 3, none⟩ = some (.int .u8 (bN l 2)) ∧ row? W w.heap.size 1 16 = some (B8 l) := ⟨h.1.1, h.1.2.2.1, h.2.2.1, h.2.2.2.1, h.2.2.2.2.1, h.2.1⟩
theorem OneA.bel {w W : World} {v : Bool} {l : List UInt8} (h : OneA w W v l) : Below w.heap.size w W := h.1.2.2.2.2
theorem bN_bounds (l : List UInt8) (i : Nat) : 0 ≤ bN l i ∧ bN l i ≤ 255 := by
  have := (l.getD i 0).toNat_lt
  unfold bN
  omega

set_option maxRecDepth 100000 in
set_option maxHeartbeats 2000000 in
theorem rscope_any (v : Bool) (l : List UInt8) (hl : l.length = 16) (w : World) : Calls Tryz.prog 23 #[.agg (addrC v l).toArray] w fun e w' => e = .returned (.int .i64 (scpV v l)) ∧ Below w.heap.size w w' := by
  obtain ⟨R, hR⟩ : ∃ R, R = scpV v l := ⟨_, rfl⟩
  rw [← hR]
  have HO := Lib.hid (OneA.made w v l hl)
  have HG := Lib.hid (fun w => rgroup_any v l hl w)
  obtain ⟨y0, y1⟩ := bN_bounds l 1
  unfold scpV linkV at hR
  have hRR := Lib.hid hR; clear hR
  cases hg : grpV v l <;> rw [hg] at HG hRR
  all_goals
    cases v
    all_goals
      go_enter Tryz.func23, Tryz.ntmps23
      go_upto_region 1 with (fail)
      generalize w.alloc _ = W at HO ⊢
      obtain ⟨k0, k1, k2, k3, k4, k5⟩ := HO.out.facts
      go_wp2_with (go_at_call 17; refine (HG.out _).mono ?_; rintro e w1 ⟨rfl, hb1⟩; have HO1 := Lib.hid (HO.out.keep hb1); obtain ⟨s0, s1, s2, s3, s4, s5⟩ := HO1.out.facts; clear hb1)
      all_goals
        go_ret
        exact ⟨ret_int (by have h := hRR.out; clear HO HO1 HG hRR; simp_all <;> omega), HO1.out.bel⟩

set_option maxRecDepth 100000 in
set_option maxHeartbeats 1000000 in
theorem zero_any (v : Bool) (l : List UInt8) (hl : l.length = 16) (w : World) : Calls Tryz.prog 13 #[.agg (addrC v l).toArray] w fun e w' => e = .returned (.bool (zeroV l)) ∧ Below w.heap.size w w' := by
  have HO := Lib.hid (OneA.made w v l hl)
  obtain ⟨i8, hi8⟩ := info_of Tryz.underlying5
  have heq : ∀ w0, (Op.equalIn 10000 22 (.agg (B8 l).toArray) (.agg #[.int .u8 0, .int .u8 0, .int .u8 0, .int .u8 0, .int .u8 0, .int .u8 0, .int .u8 0, .int .u8 0, .int .u8 0, .int .u8 0, .int .u8 0, .int .u8 0, .int .u8 0, .int .u8 0, .int .u8 0, .int .u8 0])).run Tryz.prog w0 = .ok (zeroV l) w0 := fun w0 => run_eq_bytes_d (P := Tryz.prog) Tryz.underlying22 Tryz.underlying5 (by kernel_rfl) hi8 (by kernel_rfl) l (List.replicate 16 0) hl rfl 9998 w0
  have hbld : ∀ w0, (aggBuild 22 #[]).run Tryz.prog w0 = .ok (.agg #[.int .u8 0, .int .u8 0, .int .u8 0, .int .u8 0, .int .u8 0, .int .u8 0, .int .u8 0, .int .u8 0, .int .u8 0, .int .u8 0, .int .u8 0, .int .u8 0, .int .u8 0, .int .u8 0, .int .u8 0, .int .u8 0]) w0 := bld_run _ _ _ (by kernel_rfl)
  clear hi8
  generalize zeroV l = R at heq ⊢
  go_enter Tryz.func13, Tryz.ntmps13
  go_upto_region 1 with (fail)
  generalize w.alloc _ = W at HO ⊢
  obtain ⟨k0, k1, k2, k3, k4, k5⟩ := HO.out.facts
  go_wp2
  go_ret
  exact ⟨rfl, HO.out.bel⟩
end Go.Proofs.YtmpikhpnkfnnoaaGreatDoor
