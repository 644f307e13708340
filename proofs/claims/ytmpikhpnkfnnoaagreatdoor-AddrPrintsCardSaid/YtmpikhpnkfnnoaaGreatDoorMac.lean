/-
  The contract of addr.Mac.
-/
import Derived.Test.YtmpikhpnkfnnoaaGreatDoorAd1
import Derived.Test.YtmpikhpnkfnnoaaGreatDoorAgg
import Derived.Laws.CopyOwn
namespace Go.Proofs.YtmpikhpnkfnnoaaGreatDoor
open Go.RowKit
set_option linter.unusedVariables false
attribute [local go_sem ↓] bld_mac ld_addr ld_mac st_mac
attribute [local go_sem] ldr_addr ldr_mac str_mac

theorem bits_and_u8_any (m : Nat) (hm : m < 256) (k : Nat) (hk : m = 2 ^ k - 1) (a : Nat) (ha : a < 256) : bits .and .u8 (a : Int) (m : Int) = ((a % 2 ^ k : Nat) : Int) := by
  rw [bits_and_u8_nat a m ha hm, hk, Nat.and_two_pow_sub_one_eq_mod]
theorem and127 (a : Nat) (ha : a < 256) : bits .and .u8 (a : Int) 127 = (a : Int) % 128 := by
  have h := bits_and_u8_any 127 (by omega) 7 rfl a ha
  rw [show ((127 : Nat) : Int) = 127 from rfl] at h
  rw [h]; rfl
/-- What an address of IPv4 is mapped to. -/
def mac4V (l : List UInt8) : List Value := [.int .u8 1, .int .u8 0, .int .u8 94, .int .u8 (bN l 1 % 128), .int .u8 (bN l 2), .int .u8 (bN l 3)]
def MacAt (w W : World) (v : Bool) (l : List UInt8) : Prop := BoxAt w W v l ∧ ObjAt W (w.heap.size + 1) #[.int .u8 0, .int .u8 0, .int .u8 0, .int .u8 0, .int .u8 0, .int .u8 0] 28
theorem MacAt.made (w : World) (v : Bool) (l : List UInt8) (hl : l.length = 16) : MacAt w ((w.alloc (.cells (addrC v l).toArray 24)).alloc (.cells #[.int .u8 0, .int .u8 0, .int .u8 0, .int .u8 0, .int .u8 0, .int .u8 0] 28)) v l := by
  refine ⟨(BoxAt.made w v l hl _).alloc _, ?_⟩
  have := ObjAt.made (w.alloc (.cells (addrC v l).toArray 24)) #[.int .u8 0, .int .u8 0, .int .u8 0, .int .u8 0, .int .u8 0, .int .u8 0] 28
  simpa using this
theorem MacAt.keep {w W W' : World} {v : Bool} {l : List UInt8} (h : MacAt w W v l) (hb : Below W.heap.size W W') : MacAt w W' v l := ⟨h.1.keep hb, h.2.below hb h.2.lt⟩
theorem MacAt.free {w W : World} {v : Bool} {l : List UInt8} (h : MacAt w W v l) : free? W (w.heap.size + 1) 0 6 = true := obj_free h.2 (by simp)
set_option maxRecDepth 100000 in
set_option maxHeartbeats 1000000 in
theorem mac_none (v : Bool) (l : List UInt8) (hl : l.length = 16) (hg : Hid (grpV v l = false)) (w : World) : Calls Tryz.prog 9 #[.agg (addrC v l).toArray] w fun e w' => e = .returned (.tuple #[.agg #[.int .u8 0, .int .u8 0, .int .u8 0, .int .u8 0, .int .u8 0, .int .u8 0], .bool false]) ∧ Below w.heap.size w w' := by
  have HM := Lib.hid (MacAt.made w v l hl)
  have hok : fok #[.int .u8 0, .int .u8 0, .int .u8 0, .int .u8 0, .int .u8 0, .int .u8 0] 6 = true := by simp [fok, Value.oneCell']
  have hbld : ∀ w0, (aggBuild 28 #[]).run Tryz.prog w0 = .ok (.agg #[.int .u8 0, .int .u8 0, .int .u8 0, .int .u8 0, .int .u8 0, .int .u8 0]) w0 := bld_run _ _ _ (by kernel_rfl)
  have HC := Lib.hid (fun w => group_any v l hl w)
  clear hl
  go_enter Tryz.func9, Tryz.ntmps9
  go_upto_region 1 with (fail)
  generalize (w.alloc (.cells (addrC v l).toArray 24)).alloc (.cells #[.int .u8 0, .int .u8 0, .int .u8 0, .int .u8 0, .int .u8 0, .int .u8 0] 28) = W at HM ⊢
  obtain ⟨k0, k1, k2, k3, k4⟩ := id HM.out.1
  clear k1 k4
  go_wp2_with (go_at_call 16; refine (HC.out _).mono ?_; rintro e w1 ⟨rfl, hb1⟩; rw [hg.out]; have HM1 := Lib.hid (HM.out.keep hb1); have hf1 := HM1.out.free; clear hb1 k0 k2 k3)
  have hr := aggW_row (cs := [.int .u8 0, .int .u8 0, .int .u8 0, .int .u8 0, .int .u8 0, .int .u8 0]) hf1 rfl
  exact bodyPost_ret (results_cell2 Tryz.results9 rfl (ld_some hr (ldr_mac _ _ _))) rfl ⟨rfl, aggW_below HM1.out.1.2.2.2.2 (by omega) _⟩
set_option maxRecDepth 100000 in
set_option maxHeartbeats 1000000 in
theorem mac4_any (l : List UInt8) (hl : l.length = 16) (hg : Hid (grpV false l = true)) (w : World) : Calls Tryz.prog 9 #[.agg (addrC false l).toArray] w fun e w' => e = .returned (.tuple #[.agg (mac4V l).toArray, .bool true]) ∧ Below w.heap.size w w' := by
  have HM := Lib.hid (MacAt.made w false l hl)
  have HC := Lib.hid (fun w => group_any false l hl w)
  have e1 : bN l 1 = ((l[1]'(by omega)).toNat : Int) := by simp [bN, List.getD, List.getElem?_eq_getElem (show 1 < l.length by omega)]
  have e2 : bN l 2 = ((l[2]'(by omega)).toNat : Int) := by simp [bN, List.getD, List.getElem?_eq_getElem (show 2 < l.length by omega)]
  have e3 : bN l 3 = ((l[3]'(by omega)).toNat : Int) := by simp [bN, List.getD, List.getElem?_eq_getElem (show 3 < l.length by omega)]
  have HR := Lib.hid (show mac4V l = [.int .u8 1, .int .u8 0, .int .u8 94, .int .u8 (((l[1]'(by omega)).toNat : Int) % 128), .int .u8 ((l[2]'(by omega)).toNat : Int), .int .u8 ((l[3]'(by omega)).toNat : Int)] by unfold mac4V; rw [e1, e2, e3])
  have HX : Hid (∀ W, BoxAt w W false l → W.cell? ⟨w.heap.size, 2, none⟩ = some (.int .u8 ((l[1]'(by omega)).toNat : Int)) ∧ W.cell? ⟨w.heap.size, 3, none⟩ = some (.int .u8 ((l[2]'(by omega)).toNat : Int)) ∧ W.cell? ⟨w.heap.size, 4, none⟩ = some (.int .u8 ((l[3]'(by omega)).toNat : Int))) :=
    Lib.hid fun W h => ⟨h.at 1 (by omega), h.at 2 (by omega), h.at 3 (by omega)⟩
  have b1 := (l[1]'(by omega)).toNat_lt
  generalize l[1]'(by omega) = c1 at HR HX b1
  generalize l[2]'(by omega) = c2 at HR HX
  generalize l[3]'(by omega) = c3 at HR HX
  have ha := and127 c1.toNat (by omega)
  have hok : fok #[.int .u8 1, .int .u8 0, .int .u8 94, .int .u8 ((c1.toNat : Int) % 128), .int .u8 (c2.toNat : Int), .int .u8 (c3.toNat : Int)] 6 = true := by simp [fok, Value.oneCell']
  have hbld : ∀ w0, (aggBuild 28 #[(0, .int .u8 1), (1, .int .u8 0), (2, .int .u8 94), (3, .int .u8 ((c1.toNat : Int) % 128)), (4, .int .u8 (c2.toNat : Int)), (5, .int .u8 (c3.toNat : Int))]).run Tryz.prog w0 = .ok (.agg #[.int .u8 1, .int .u8 0, .int .u8 94, .int .u8 ((c1.toNat : Int) % 128), .int .u8 (c2.toNat : Int), .int .u8 (c3.toNat : Int)]) w0 := bld_run _ _ _ (by kernel_rfl)
  clear e1 e2 e3 hl b1
  go_enter Tryz.func9, Tryz.ntmps9
  go_upto_region 1 with (fail)
  generalize (w.alloc (.cells (addrC false l).toArray 24)).alloc (.cells #[.int .u8 0, .int .u8 0, .int .u8 0, .int .u8 0, .int .u8 0, .int .u8 0] 28) = W at HM ⊢
  obtain ⟨k0, k1, k2, k3, k4⟩ := id HM.out.1
  clear k1 k4
  go_wp2_with (go_at_call 16; refine (HC.out _).mono ?_; rintro e w1 ⟨rfl, hb1⟩; rw [hg.out]; have HM1 := Lib.hid (HM.out.keep hb1); have hf1 := HM1.out.free; obtain ⟨x1, x2, x3⟩ := HX.out _ HM1.out.1; have k0 := HM1.out.1.1; clear hb1 k2 k3)
  have hr := aggW_row (cs := [.int .u8 1, .int .u8 0, .int .u8 94, .int .u8 ((c1.toNat : Int) % 128), .int .u8 (c2.toNat : Int), .int .u8 (c3.toNat : Int)]) hf1 rfl
  exact bodyPost_ret (results_cell2 Tryz.results9 rfl (ld_some hr (ldr_mac _ _ _))) rfl ⟨by rw [HR.out]; rfl, aggW_below HM1.out.1.2.2.2.2 (by omega) _⟩
end Go.Proofs.YtmpikhpnkfnnoaaGreatDoor
