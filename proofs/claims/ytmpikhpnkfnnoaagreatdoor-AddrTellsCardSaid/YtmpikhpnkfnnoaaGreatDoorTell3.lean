/-
  The document's own Local; addr.Many; addr.Ssm.
-/
import Derived.Test.YtmpikhpnkfnnoaaGreatDoorTell2
namespace Go.Proofs.YtmpikhpnkfnnoaaGreatDoor
open Go.RowKit
set_option linter.unusedVariables false
attribute [local go_sem ↓] ld_addr ld_b16 bld_b16
attribute [local go_sem] ldr_addr ldr_b16

theorem local_both (v : Bool) (l : List UInt8) : (grpV v l && decide (scpV v l < 3)) = locV v l := by
  cases v
  · rw [Bool.eq_iff_iff]
    unfold locV scpV linkV grpV
    simp only [Bool.false_eq_true, if_false, Bool.and_eq_true, decide_eq_true_eq]
    constructor
    · rintro ⟨⟨h1, h2⟩, h3⟩
      rw [if_neg (by simp [h1, h2])] at h3
      split at h3
      · assumption
      · split at h3
        · omega
        · split at h3 <;> omega
    · rintro ⟨h1, h2, h3⟩
      refine ⟨⟨by omega, by omega⟩, ?_⟩
      rw [if_neg (by simp [h1]), if_pos ⟨h1, h2, h3⟩]
      omega
  · rw [Bool.eq_iff_iff]
    unfold locV
    simp only [if_true, Bool.and_eq_true, decide_eq_true_eq]
    constructor <;> rintro ⟨h1, h2⟩ <;> exact ⟨h1, by omega⟩

set_option maxRecDepth 100000 in
set_option maxHeartbeats 2000000 in
theorem rlocal_any (v : Bool) (l : List UInt8) (hl : l.length = 16) (w : World) : Calls Tryz.prog 19 #[.agg (addrC v l).toArray] w fun e w' => e = .returned (.bool (locV v l)) ∧ Below w.heap.size w w' := by
  rw [← local_both]
  have HO := Lib.hid (OneA.made w v l hl)
  have HG := Lib.hid (fun w => rgroup_any v l hl w)
  have HS := Lib.hid (fun w => rscope_any v l hl w)
  generalize scpV v l = s at HS ⊢
  cases hg : grpV v l <;> rw [hg] at HG
  · go_enter Tryz.func19, Tryz.ntmps19
    go_upto_region 1 with (fail)
    generalize w.alloc _ = W at HO ⊢
    obtain ⟨k0, k1, k2, k3, k4, k5⟩ := HO.out.facts
    go_wp2_with (go_at_call 17; refine (HG.out _).mono ?_; rintro e w1 ⟨rfl, hb1⟩; have HO1 := Lib.hid (HO.out.keep hb1); clear hb1)
    go_ret
    exact ⟨ret_bool (by simp), HO1.out.bel⟩
  · go_enter Tryz.func19, Tryz.ntmps19
    go_upto_region 1 with (fail)
    generalize w.alloc _ = W at HO ⊢
    obtain ⟨k0, k1, k2, k3, k4, k5⟩ := HO.out.facts
    go_wp2_with (first
      | (go_at_call 17; refine (HG.out _).mono ?_; rintro e w1 ⟨rfl, hb1⟩; have HO1 := Lib.hid (HO.out.keep hb1); obtain ⟨s0, s1, s2, s3, s4, s5⟩ := HO1.out.facts; clear hb1)
      | (go_at_call 23; refine (HS.out _).mono ?_; rintro e w2 ⟨rfl, hb2⟩; have HO2 := Lib.hid (HO1.out.keep hb2); clear hb2))
    all_goals
      go_ret
      exact ⟨ret_bool (by simp_all), HO2.out.bel⟩

/-- Whether it is several nodes'. -/
def manyV (m : List UInt8) : Bool := decide ((m.getD 0 0).toNat % 2 = 1)
theorem and_one : ∀ n : Fin 256, (bits BinOp.and IntKind.u8 (n.val : Int) 1 == 1) = decide (n.val % 2 = 1) := by decide +kernel
set_option maxRecDepth 100000 in
set_option maxHeartbeats 1000000 in
theorem many_any (m : List UInt8) (hm : m.length = 6) (w : World) : Calls Tryz.prog 15 #[.agg (B8 m).toArray] w fun e w' => e = .returned (.bool (manyV m)) ∧ Below w.heap.size w w' := by
  obtain ⟨b0, b1, b2, b3, b4, b5, rfl⟩ := list6 hm
  clear hm
  show Calls Tryz.prog 15 #[.agg #[.int .u8 b0.toNat, .int .u8 b1.toNat, .int .u8 b2.toNat, .int .u8 b3.toNat, .int .u8 b4.toNat, .int .u8 b5.toNat]] w _
  go_enter Tryz.func15, Tryz.ntmps15
  go_wp2
  go_ret
  exact ⟨ret_bool (and_one ⟨b0.toNat, b0.toNat_lt⟩), (Below.refl _ _).alloc (Nat.le_refl _) _⟩

set_option maxRecDepth 100000 in
set_option maxHeartbeats 1000000 in
theorem ssm4 (l : List UInt8) (hl : l.length = 16) (w : World) : Calls Tryz.prog 20 #[.agg (addrC false l).toArray] w fun e w' => e = .returned (.bool (ssmV false l)) ∧ Below w.heap.size w w' := by
  have HO := Lib.hid (OneA.made w false l hl)
  go_enter Tryz.func20, Tryz.ntmps20
  go_upto_region 1 with (fail)
  generalize w.alloc _ = W at HO ⊢
  obtain ⟨k0, k1, k2, k3, k4, k5⟩ := HO.out.facts
  go_wp2
  go_ret
  exact ⟨ret_bool (by rw [Bool.eq_iff_iff]; simp [ssmV]), HO.out.bel⟩
end Go.Proofs.YtmpikhpnkfnnoaaGreatDoor
