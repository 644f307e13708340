/-
  The document's own Mac.
-/
import Derived.Test.YtmpikhpnkfnnoaaGreatDoorMac6
import Derived.Test.YtmpikhpnkfnnoaaGreatDoorTell
namespace Go.Proofs.YtmpikhpnkfnnoaaGreatDoor
open Go.RowKit
set_option linter.unusedVariables false
attribute [local go_sem ↓] bld_mac ld_addr ld_mac st_mac
attribute [local go_sem] ldr_addr ldr_mac str_mac

/-- What lies in the address behind so many rounds. -/
def rawM (v : Bool) (l : List UInt8) (k : Nat) : List UInt8 := (if v then [51, 51, l.getD 12 0, l.getD 13 0, l.getD 14 0, l.getD 15 0] else [0, 0, 0, l.getD 1 0, l.getD 2 0, l.getD 3 0]).take k ++ List.replicate (6 - k) 0
theorem raw6 (l : List UInt8) (hl : l.length = 16) : rawM true l 6 = macB true l := by
  obtain ⟨b0, b1, b2, b3, b4, b5, b6, b7, b8, b9, ba, bb, bc, bd, be, bf, rfl⟩ := list16 hl
  rfl
theorem M3.atD {w W : World} {n : Nat} {v : Bool} {l M : List UInt8} (h : M3 w W n v l M) (hl : l.length = 16) (j : Nat) (hj : j < 16) : W.cell? ⟨w.heap.size, 1 + j, none⟩ = some (.int .u8 ((l.getD j 0).toNat : Int)) := by
  have := h.at j (by omega)
  rw [this]
  simp [List.getD, List.getElem?_eq_getElem (show j < l.length by omega)]
theorem M3.cel {w W : World} {n : Nat} {v : Bool} {l : List UInt8} {k : Nat} (h : M3 w W n v l (rawM v l k)) (j : Nat) (hj : j < 6) : ∃ x, W.cell? ⟨n, j, none⟩ = some x := ⟨_, h.mat j (by rw [h.2.2.2.1]; exact hj)⟩

set_option maxRecDepth 100000 in
set_option maxHeartbeats 4000000 in
theorem rmac_6 (l : List UInt8) (hl : l.length = 16) (hg : Hid (grpV true l = true)) (w : World) : Calls Tryz.prog 10 #[.agg (addrC true l).toArray] w fun e w' => e = .returned (.tuple #[.agg (B8 (macB true l)).toArray, .bool true]) ∧ Below w.heap.size w w' := by
  have hm0 := M2.start w true l
  rw [show (B8 [0, 0, 0, 0, 0, 0]).toArray = #[.int .u8 0, .int .u8 0, .int .u8 0, .int .u8 0, .int .u8 0, .int .u8 0] from rfl] at hm0
  have HM := Lib.hid hm0; clear hm0
  have HC := Lib.hid (fun w => rgroup_any true l hl w)
  have hok := fok_bytes [0, 0, 0, 0, 0, 0] 6 rfl
  have hok2 := fok_bytes (macB true l) 6 (macB_length true l hl)
  have hbld : ∀ w0, (aggBuild 28 #[]).run Tryz.prog w0 = .ok (.agg (B8 [0, 0, 0, 0, 0, 0]).toArray) w0 := bld_run _ _ _ (by kernel_rfl)
  have HL := Lib.hid hl
  clear hl
  go_enter Tryz.func10, Tryz.ntmps10
  go_upto_region 1 with (fail)
  generalize (w.alloc (.cells (addrC true l).toArray 24)).alloc (.cells #[.int .u8 0, .int .u8 0, .int .u8 0, .int .u8 0, .int .u8 0, .int .u8 0] 28) = W at HM ⊢
  have hf := free_made W #[.int .u8 0, .int .u8 0, .int .u8 0, .int .u8 0, .int .u8 0, .int .u8 0] 28 6 (by simp)
  have H3 := Lib.hid (show M3 w (aggW (W.alloc (.cells #[.int .u8 0, .int .u8 0, .int .u8 0, .int .u8 0, .int .u8 0, .int .u8 0] 28)) W.heap.size (B8 [0, 0, 0, 0, 0, 0])) W.heap.size true l [0, 0, 0, 0, 0, 0] from M3.made HM.out _ rfl)
  go_upto_region 2 with (fail)
  generalize aggW (W.alloc (.cells #[.int .u8 0, .int .u8 0, .int .u8 0, .int .u8 0, .int .u8 0, .int .u8 0] 28)) W.heap.size _ = W3 at H3 ⊢
  clear hf
  generalize W.heap.size = n at H3 ⊢
  have hr := H3.out.m2.row HL.out
  go_upto_region 4 with (go_at_call 17; refine (HC.out _).mono ?_; rintro e w1 ⟨rfl, hb1⟩; rw [hg.out]; have H4 := Lib.hid (show M3 w w1 n true l (rawM true l 0) from H3.out.below hb1); clear hb1 hr)
  go_upto_region 5 with (fail)
  go_loopw [5] (fun vi wr => ∃ k : Nat, k ≤ 6 ∧ vi = .int .i64 (k : Int) ∧ Hid (M3 w wr n true l (rawM true l k))) (fun vi _ => 6 - (intOf vi).toNat)
  case atStart => exact ⟨0, by omega, rfl, H4⟩
  case round _ wr =>
    obtain ⟨k, hk, rfl, hq⟩ := hrel
    have k0 := hq.out.m2.fam
    rcases (show k = 0 ∨ k = 1 ∨ k = 2 ∨ k = 3 ∨ k = 4 ∨ k = 5 ∨ k = 6 by omega) with rfl | rfl | rfl | rfl | rfl | rfl | rfl
    · obtain ⟨x, hx⟩ := hq.out.cel 0 (by omega)
      have hf := hq.out.frz 0
      have HN : Hid (M3 w (wr.setCell ⟨n, 0, none⟩ (.int .u8 51)) n true l (rawM true l 1)) := Lib.hid (hq.out.set 0 (51))
      go_wp2
      go_roundw
      case rel => exact ⟨1, by omega, by go_num, HN⟩
      case measure => simp [intOf]
    · obtain ⟨x, hx⟩ := hq.out.cel 1 (by omega)
      have hf := hq.out.frz 1
      have HN : Hid (M3 w (wr.setCell ⟨n, 1, none⟩ (.int .u8 51)) n true l (rawM true l 2)) := Lib.hid (hq.out.set 1 (51))
      go_wp2
      go_roundw
      case rel => exact ⟨2, by omega, by go_num, HN⟩
      case measure => simp [intOf]
    · obtain ⟨x, hx⟩ := hq.out.cel 2 (by omega)
      have hf := hq.out.frz 2
      have hs := hq.out.atD HL.out 12 (by omega)
      have HN : Hid (M3 w (wr.setCell ⟨n, 2, none⟩ (.int .u8 ((l.getD 12 0).toNat : Int))) n true l (rawM true l 3)) := Lib.hid (hq.out.set 2 (l.getD 12 0))
      go_wp2
      go_roundw
      case rel => exact ⟨3, by omega, by go_num, HN⟩
      case measure => simp [intOf]
    · obtain ⟨x, hx⟩ := hq.out.cel 3 (by omega)
      have hf := hq.out.frz 3
      have hs := hq.out.atD HL.out 13 (by omega)
      have HN : Hid (M3 w (wr.setCell ⟨n, 3, none⟩ (.int .u8 ((l.getD 13 0).toNat : Int))) n true l (rawM true l 4)) := Lib.hid (hq.out.set 3 (l.getD 13 0))
      go_wp2
      go_roundw
      case rel => exact ⟨4, by omega, by go_num, HN⟩
      case measure => simp [intOf]
    · obtain ⟨x, hx⟩ := hq.out.cel 4 (by omega)
      have hf := hq.out.frz 4
      have hs := hq.out.atD HL.out 14 (by omega)
      have HN : Hid (M3 w (wr.setCell ⟨n, 4, none⟩ (.int .u8 ((l.getD 14 0).toNat : Int))) n true l (rawM true l 5)) := Lib.hid (hq.out.set 4 (l.getD 14 0))
      go_wp2
      go_roundw
      case rel => exact ⟨5, by omega, by go_num, HN⟩
      case measure => simp [intOf]
    · obtain ⟨x, hx⟩ := hq.out.cel 5 (by omega)
      have hf := hq.out.frz 5
      have hs := hq.out.atD HL.out 15 (by omega)
      have HN : Hid (M3 w (wr.setCell ⟨n, 5, none⟩ (.int .u8 ((l.getD 15 0).toNat : Int))) n true l (rawM true l 6)) := Lib.hid (hq.out.set 5 (l.getD 15 0))
      go_wp2
      go_roundw
      case rel => exact ⟨6, by omega, by go_num, HN⟩
      case measure => simp [intOf]
    · have hmr := hq.out.mrow
      rw [raw6 l HL.out] at hmr
      have hf2 := hq.out.m2.free
      go_wp2
      obtain ⟨q1, q2⟩ := hq.out.m2.done (macB true l) (macB_length true l HL.out)
      exact bodyPost_ret (results_cell2 Tryz.results10 rfl (ld_some q1 (ldr_mac _ _ _))) rfl ⟨rfl, q2⟩

set_option maxRecDepth 100000 in
set_option maxHeartbeats 4000000 in
theorem rmac_4 (l : List UInt8) (hl : l.length = 16) (hg : Hid (grpV false l = true)) (w : World) : Calls Tryz.prog 10 #[.agg (addrC false l).toArray] w fun e w' => e = .returned (.tuple #[.agg (B8 (macB false l)).toArray, .bool true]) ∧ Below w.heap.size w w' := by
  have hm0 := M2.start w false l
  rw [show (B8 [0, 0, 0, 0, 0, 0]).toArray = #[.int .u8 0, .int .u8 0, .int .u8 0, .int .u8 0, .int .u8 0, .int .u8 0] from rfl] at hm0
  have HM := Lib.hid hm0; clear hm0
  have HC := Lib.hid (fun w => rgroup_any false l hl w)
  have hok := fok_bytes [0, 0, 0, 0, 0, 0] 6 rfl
  have hok2 := fok_bytes (macB false l) 6 (macB_length false l hl)
  have hbld : ∀ w0, (aggBuild 28 #[]).run Tryz.prog w0 = .ok (.agg (B8 [0, 0, 0, 0, 0, 0]).toArray) w0 := bld_run _ _ _ (by kernel_rfl)
  have HL := Lib.hid hl
  clear hl
  go_enter Tryz.func10, Tryz.ntmps10
  go_upto_region 1 with (fail)
  generalize (w.alloc (.cells (addrC false l).toArray 24)).alloc (.cells #[.int .u8 0, .int .u8 0, .int .u8 0, .int .u8 0, .int .u8 0, .int .u8 0] 28) = W at HM ⊢
  have hf := free_made W #[.int .u8 0, .int .u8 0, .int .u8 0, .int .u8 0, .int .u8 0, .int .u8 0] 28 6 (by simp)
  have H3 := Lib.hid (show M3 w (aggW (W.alloc (.cells #[.int .u8 0, .int .u8 0, .int .u8 0, .int .u8 0, .int .u8 0, .int .u8 0] 28)) W.heap.size (B8 [0, 0, 0, 0, 0, 0])) W.heap.size false l [0, 0, 0, 0, 0, 0] from M3.made HM.out _ rfl)
  go_upto_region 2 with (fail)
  generalize aggW (W.alloc (.cells #[.int .u8 0, .int .u8 0, .int .u8 0, .int .u8 0, .int .u8 0, .int .u8 0] 28)) W.heap.size _ = W3 at H3 ⊢
  clear hf
  generalize W.heap.size = n at H3 ⊢
  have hr := H3.out.m2.row HL.out
  go_upto_region 4 with (go_at_call 17; refine (HC.out _).mono ?_; rintro e w1 ⟨rfl, hb1⟩; rw [hg.out]; have H4 := Lib.hid (show M3 w w1 n false l (rawM false l 0) from H3.out.below hb1); clear hb1 hr)
  go_upto_region 5 with (fail)
  go_loopw [5] (fun vi wr => ∃ k : Nat, k ≤ 6 ∧ vi = .int .i64 (k : Int) ∧ Hid (M3 w wr n false l (rawM false l k))) (fun vi _ => 6 - (intOf vi).toNat)
  case atStart => exact ⟨0, by omega, rfl, H4⟩
  case round _ wr =>
    obtain ⟨k, hk, rfl, hq⟩ := hrel
    have k0 := hq.out.m2.fam
    rcases (show k = 0 ∨ k = 1 ∨ k = 2 ∨ k = 3 ∨ k = 4 ∨ k = 5 ∨ k = 6 by omega) with rfl | rfl | rfl | rfl | rfl | rfl | rfl
    · have HN : Hid (M3 w wr n false l (rawM false l 1)) := Lib.hid hq.out
      go_wp2
      go_roundw
      case rel => exact ⟨1, by omega, by go_num, HN⟩
      case measure => simp [intOf]
    · have HN : Hid (M3 w wr n false l (rawM false l 2)) := Lib.hid hq.out
      go_wp2
      go_roundw
      case rel => exact ⟨2, by omega, by go_num, HN⟩
      case measure => simp [intOf]
    · have HN : Hid (M3 w wr n false l (rawM false l 3)) := Lib.hid hq.out
      go_wp2
      go_roundw
      case rel => exact ⟨3, by omega, by go_num, HN⟩
      case measure => simp [intOf]
    · obtain ⟨x, hx⟩ := hq.out.cel 3 (by omega)
      have hf := hq.out.frz 3
      have hs := hq.out.atD HL.out 1 (by omega)
      have HN : Hid (M3 w (wr.setCell ⟨n, 3, none⟩ (.int .u8 ((l.getD 1 0).toNat : Int))) n false l (rawM false l 4)) := Lib.hid (hq.out.set 3 (l.getD 1 0))
      go_wp2
      go_roundw
      case rel => exact ⟨4, by omega, by go_num, HN⟩
      case measure => simp [intOf]
    · obtain ⟨x, hx⟩ := hq.out.cel 4 (by omega)
      have hf := hq.out.frz 4
      have hs := hq.out.atD HL.out 2 (by omega)
      have HN : Hid (M3 w (wr.setCell ⟨n, 4, none⟩ (.int .u8 ((l.getD 2 0).toNat : Int))) n false l (rawM false l 5)) := Lib.hid (hq.out.set 4 (l.getD 2 0))
      go_wp2
      go_roundw
      case rel => exact ⟨5, by omega, by go_num, HN⟩
      case measure => simp [intOf]
    · obtain ⟨x, hx⟩ := hq.out.cel 5 (by omega)
      have hf := hq.out.frz 5
      have hs := hq.out.atD HL.out 3 (by omega)
      have HN : Hid (M3 w (wr.setCell ⟨n, 5, none⟩ (.int .u8 ((l.getD 3 0).toNat : Int))) n false l (rawM false l 6)) := Lib.hid (hq.out.set 5 (l.getD 3 0))
      go_wp2
      go_roundw
      case rel => exact ⟨6, by omega, by go_num, HN⟩
      case measure => simp [intOf]
    · obtain ⟨x0, hx0⟩ := hq.out.cel 0 (by omega)
      obtain ⟨x2, hx2⟩ := hq.out.cel 2 (by omega)
      have hx3 : wr.cell? ⟨n, 3, none⟩ = some (.int .u8 ((l.getD 1 0).toNat : Int)) := hq.out.mat 3 (by rw [hq.out.2.2.2.1]; omega)
      have hf0 := hq.out.frz 0
      have hf2 := hq.out.frz 2
      have hf3 := hq.out.frz 3
      have hlt := (l.getD 1 0).toNat_lt
      have s1 := hq.out.set 0 1
      have s2 := s1.set 2 94
      have s3 := s2.set 3 (UInt8.ofNat ((l.getD 1 0).toNat % 128))
      rw [show ((UInt8.ofNat ((l.getD 1 0).toNat % 128)).toNat : Int) = Int.tmod ((l.getD 1 0).toNat : Int) 128 by rw [UInt8.toNat_ofNat', Int.tmod_eq_emod_of_nonneg (by omega)]; omega] at s3
      have HN : Hid (M3 w (((wr.setCell ⟨n, 0, none⟩ (.int .u8 1)).setCell ⟨n, 2, none⟩ (.int .u8 94)).setCell ⟨n, 3, none⟩ (.int .u8 (Int.tmod ((l.getD 1 0).toNat : Int) 128))) n false l (macB false l)) := Lib.hid s3
      generalize ((l.getD 1 0).toNat : Int) = z at hx3 HN
      clear s1 s2 s3 hlt
      go_upto_region 15 with (fail)
      generalize World.setCell _ _ _ = W9 at HN ⊢
      have hmr := HN.out.mrow
      have hf9 := HN.out.m2.free
      clear hx0 hx2 hx3 hf0 hf2 hf3
      go_wp2
      obtain ⟨q1, q2⟩ := HN.out.m2.done (macB false l) (macB_length false l HL.out)
      exact bodyPost_ret (results_cell2 Tryz.results10 rfl (ld_some q1 (ldr_mac _ _ _))) rfl ⟨rfl, q2⟩

set_option maxRecDepth 100000 in
set_option maxHeartbeats 1000000 in
theorem rmac_none (v : Bool) (l : List UInt8) (hl : l.length = 16) (hg : Hid (grpV v l = false)) (w : World) : Calls Tryz.prog 10 #[.agg (addrC v l).toArray] w fun e w' => e = .returned (.tuple #[.agg (B8 [0, 0, 0, 0, 0, 0]).toArray, .bool false]) ∧ Below w.heap.size w w' := by
  have hm0 := M2.start w v l
  rw [show (B8 [0, 0, 0, 0, 0, 0]).toArray = #[.int .u8 0, .int .u8 0, .int .u8 0, .int .u8 0, .int .u8 0, .int .u8 0] from rfl] at hm0
  have HM := Lib.hid hm0; clear hm0
  have HC := Lib.hid (fun w => rgroup_any v l hl w)
  have hok := fok_bytes [0, 0, 0, 0, 0, 0] 6 rfl
  have hbld : ∀ w0, (aggBuild 28 #[]).run Tryz.prog w0 = .ok (.agg (B8 [0, 0, 0, 0, 0, 0]).toArray) w0 := bld_run _ _ _ (by kernel_rfl)
  have HL := Lib.hid hl
  clear hl
  go_enter Tryz.func10, Tryz.ntmps10
  go_upto_region 1 with (fail)
  generalize (w.alloc (.cells (addrC v l).toArray 24)).alloc (.cells #[.int .u8 0, .int .u8 0, .int .u8 0, .int .u8 0, .int .u8 0, .int .u8 0] 28) = W at HM ⊢
  have hf := free_made W #[.int .u8 0, .int .u8 0, .int .u8 0, .int .u8 0, .int .u8 0, .int .u8 0] 28 6 (by simp)
  have H3 := Lib.hid (show M3 w (aggW (W.alloc (.cells #[.int .u8 0, .int .u8 0, .int .u8 0, .int .u8 0, .int .u8 0, .int .u8 0] 28)) W.heap.size (B8 [0, 0, 0, 0, 0, 0])) W.heap.size v l [0, 0, 0, 0, 0, 0] from M3.made HM.out _ rfl)
  go_upto_region 2 with (fail)
  generalize aggW (W.alloc (.cells #[.int .u8 0, .int .u8 0, .int .u8 0, .int .u8 0, .int .u8 0, .int .u8 0] 28)) W.heap.size _ = W3 at H3 ⊢
  clear hf
  generalize W.heap.size = n at H3 ⊢
  have hr := H3.out.m2.row HL.out
  go_wp2_with (go_at_call 17; refine (HC.out _).mono ?_; rintro e w1 ⟨rfl, hb1⟩; rw [hg.out]; have H4 := Lib.hid (H3.out.below hb1); have hmr := H4.out.mrow; have hf9 := H4.out.m2.free; clear hb1 hr)
  obtain ⟨q1, q2⟩ := H4.out.m2.done [0, 0, 0, 0, 0, 0] rfl
  exact bodyPost_ret (results_cell2 Tryz.results10 rfl (ld_some q1 (ldr_mac _ _ _))) rfl ⟨rfl, q2⟩

theorem rmac_any (v : Bool) (l : List UInt8) (hl : l.length = 16) (w : World) : Calls Tryz.prog 10 #[.agg (addrC v l).toArray] w fun e w' => e = .returned (.tuple #[.agg (B8 (macG v l)).toArray, .bool (grpV v l)]) ∧ Below w.heap.size w w' := by
  cases hg : grpV v l with
  | false =>
    have e : macG v l = [0, 0, 0, 0, 0, 0] := by unfold macG; rw [hg]; rfl
    rw [e]
    exact rmac_none v l hl (Lib.hid hg) w
  | true =>
    have e : macG v l = macB v l := by unfold macG; rw [hg]; rfl
    rw [e]
    cases v with
    | true => exact rmac_6 l hl (Lib.hid hg) w
    | false => exact rmac_4 l hl (Lib.hid hg) w
end Go.Proofs.YtmpikhpnkfnnoaaGreatDoor
