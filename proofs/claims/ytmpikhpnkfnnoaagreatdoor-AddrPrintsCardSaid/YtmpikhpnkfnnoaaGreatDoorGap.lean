/-
  The contract of addr.gap.
-/
import Derived.Test.YtmpikhpnkfnnoaaGreatDoorPureGap
import Derived.Test.YtmpikhpnkfnnoaaGreatDoorAgg
import Derived.Deep.Cut
import Derived.ChangeKeysEq
namespace Go.Proofs.YtmpikhpnkfnnoaaGreatDoor
open Go.RowKit
set_option linter.unusedVariables false
attribute [local go_sem ↓] ld_u8x
attribute [local go_sem] ldr_u8x

def U16 (ws : List Nat) : List Value := ws.map fun (n : Nat) => Value.int .u16 (n : Int)
theorem U16_length (ws : List Nat) : (U16 ws).length = ws.length := by simp [U16]
set_option maxRecDepth 100000 in
set_option maxHeartbeats 1000000 in
theorem gap_any (ws : List Nat) (h8 : ws.length = 8) (w : World) : Calls Tryz.prog 51 #[.agg (U16 ws).toArray] w fun e w' => e = .returned (.tuple #[.int .i64 ((gapK ws 8).1 : Int), .int .i64 ((gapK ws 8).2.1 : Int)]) ∧ Below w.heap.size w w' := by
  have hrow : row? (w.alloc (.cells (U16 ws).toArray 68)) w.heap.size 0 8 = some (U16 ws) := obj_row (A := []) (C := []) (by simpa using ObjAt.made w (U16 ws).toArray 68) rfl (by rw [U16_length, h8])
  have hb : Below w.heap.size w (w.alloc (.cells (U16 ws).toArray 68)) := (Below.refl _ _).alloc (Nat.le_refl _) _
  have HR := Lib.hid hrow
  have HB := Lib.hid hb
  have H8 := Lib.hid h8
  clear hrow hb h8
  go_enter Tryz.func51, Tryz.ntmps51
  go_upto_region 1 with (fail)
  have hrow := HR.out
  clear HR
  generalize w.alloc (.cells (U16 ws).toArray 68) = W at hrow HB ⊢
  go_wp2
  clear hrow
  go_loop [4, 5, 6, 10] (fun vf vm vr vi => ∃ k : Nat, k ≤ 8 ∧ vi = .int .i64 (k : Int) ∧ vf = .int .i64 ((gapK ws k).1 : Int) ∧ vm = .int .i64 ((gapK ws k).2.1 : Int) ∧ vr = .int .i64 ((gapK ws k).2.2 : Int)) (fun _ _ _ vi => 8 - (intOf vi).toNat)
  case atStart => exact ⟨0, by omega, rfl, rfl, rfl, rfl⟩
  case round =>
    obtain ⟨k, hk, rfl, rfl, rfl, rfl⟩ := hrel
    have hle := gapK_le ws k
    by_cases hlt : k < 8
    · have hix : ∀ w0, (Instr.index 68 (.agg (U16 ws).toArray) (.int .i64 (k : Int))).run Tryz.prog w0 = .ok (.int .u16 ((ws.getD k 1 : Nat) : Int)) w0 := fun w0 => by
        have hp : (part 67 (U16 ws).toArray (k * 1)).run Tryz.prog w0 = .ok (.int .u16 ((ws.getD k 1 : Nat) : Int)) w0 := run_part_plain w0 (by kernel_rfl) (by
          have h8 := H8.out
          simp [U16, List.getD, show k < ws.length by omega])
        have hz : (sizeOf 67).run Tryz.prog w0 = .ok 1 w0 := Tryz.sizeOf67 w0
        rw [Nat.mul_one] at hp
        simp only [List.getD_eq_getElem?_getD] at hp ⊢
        simp [Instr.index, asIntOf, run_underlying Tryz.underlying68, hz, hp, hlt]
      have Hst := Lib.hid (show gapK ws (k + 1) = gapSt k (ws.getD k 1) (gapK ws k) from rfl)
      generalize ws.getD k 1 = n at hix Hst
      generalize gapK ws k = st at hle Hst ⊢
      obtain ⟨f, m, r⟩ := st
      simp only at hle
      obtain ⟨g1, g2, g3⟩ := hle
      by_cases hz : n = 0
      · by_cases hm : m < r + 1
        · have HS := Lib.hid (Hst.out.trans (show gapSt k n (f, m, r) = (k + 1 - (r + 1), r + 1, r + 1) by simp [gapSt, hz, hm]))
          have hn0 : ((n : Int) != 0) = false := by simp [hz]
          have hmi : (m : Int) < (r : Int) + 1 := by omega
          clear Hst hz hm
          go_wp2
          refine ⟨⟨k + 1, by omega, by go_num, ?_, ?_, ?_⟩, by simp [intOf]; omega⟩
          · rw [HS.out]; congr 1; show _ = ((k + 1 - (r + 1) : Nat) : Int); omega
          · rw [HS.out]; congr 1
          · rw [HS.out]; congr 1
        · have HS := Lib.hid (Hst.out.trans (show gapSt k n (f, m, r) = (f, m, r + 1) by simp [gapSt, hz, hm]))
          have hn0 : ((n : Int) != 0) = false := by simp [hz]
          have hmi : (r : Int) + 1 ≤ (m : Int) := by omega
          clear Hst hz hm
          go_wp2
          refine ⟨⟨k + 1, by omega, by go_num, ?_, ?_, ?_⟩, by simp [intOf]; omega⟩
          · rw [HS.out]
          · rw [HS.out]
          · rw [HS.out]; congr 1
      · have HS := Lib.hid (Hst.out.trans (show gapSt k n (f, m, r) = (f, m, 0) by simp [gapSt, hz]))
        have hn0 : ((n : Int) != 0) = true := by simp [bne]; omega
        clear Hst hz
        go_wp2
        refine ⟨⟨k + 1, by omega, by go_num, ?_, ?_, ?_⟩, by simp [intOf]; omega⟩
        · rw [HS.out]
        · rw [HS.out]
        · rw [HS.out]; rfl
    · have hk8 : k = 8 := by omega
      subst hk8
      rw [show ((8 : Nat) : Int) = 8 from rfl]
      go_wp2
      go_ret2
      exact ⟨rfl, HB.out⟩
end Go.Proofs.YtmpikhpnkfnnoaaGreatDoor
