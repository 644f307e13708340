/-
  The contract of the statements' small living call.
-/
import Derived.Test.YtmpikhpnkfnnoaaGreatDoorParse
import Derived.Test.YtmpikhpnkfnnoaaGreatDoorMac
namespace Go.Proofs.YtmpikhpnkfnnoaaGreatDoor
open Go.RowKit
set_option linter.unusedVariables false
attribute [local go_sem ↓] ld_addr st_addr ld_mac st_mac
attribute [local go_sem] ldr_addr str_addr ldr_mac str_mac

def liveL : List UInt8 := [255, 2, 0, 0, 0, 0, 0, 0, 0, 0, 0, 0, 0, 0, 0, 1]
set_option maxRecDepth 100000 in
theorem live_parse : parseV [102, 102, 48, 50, 58, 58, 49] = some (true, liveL) := by decide +kernel
set_option maxRecDepth 100000 in
theorem live_print : prtV true liveL = [102, 102, 48, 50, 58, 58, 49] := by decide +kernel
theorem live_mac : macT [1, 0, 94, 1, 2, 3] = [48, 49, 58, 48, 48, 58, 53, 101, 58, 48, 49, 58, 48, 50, 58, 48, 51] := by decide +kernel
theorem live_c1 (w : World) (h : Env w) : Calls Tryz.prog 25 #[.string ⟨#[102, 102, 48, 50, 58, 58, 49]⟩] w fun e w' => e = .returned (.tuple #[.agg (addrC true liveL).toArray, .int .i64 0]) ∧ Below w.heap.size w w' := by
  have c := parse_any [102, 102, 48, 50, 58, 58, 49] (by decide) w h
  rw [live_parse] at c
  exact c
theorem live_c2 (w : World) (h : Env w) : Calls Tryz.prog 29 #[.agg (addrC true liveL).toArray] w fun e w' => e = .returned (.string ⟨#[102, 102, 48, 50, 58, 58, 49]⟩) ∧ Below w.heap.size w w' := by
  have c := print_any true liveL rfl w h
  rw [live_print] at c
  exact c
theorem live_c3 (w : World) : Calls Tryz.prog 9 #[.agg #[.bool false, .int .u8 239, .int .u8 129, .int .u8 2, .int .u8 3, .int .u8 0, .int .u8 0, .int .u8 0, .int .u8 0, .int .u8 0, .int .u8 0, .int .u8 0, .int .u8 0, .int .u8 0, .int .u8 0, .int .u8 0, .int .u8 0]] w fun e w' => e = .returned (.tuple #[.agg #[.int .u8 1, .int .u8 0, .int .u8 94, .int .u8 1, .int .u8 2, .int .u8 3], .bool true]) ∧ Below w.heap.size w w' := by
  exact mac4_any [239, 129, 2, 3, 0, 0, 0, 0, 0, 0, 0, 0, 0, 0, 0, 0] rfl (Lib.hid (by decide)) w
theorem live_c4 (w : World) : Calls Tryz.prog 30 #[.agg #[.int .u8 1, .int .u8 0, .int .u8 94, .int .u8 1, .int .u8 2, .int .u8 3]] w fun e w' => e = .returned (.string ⟨#[48, 49, 58, 48, 48, 58, 53, 101, 58, 48, 49, 58, 48, 50, 58, 48, 51]⟩) ∧ Below w.heap.size w w' := by
  have c := printMac_any [1, 0, 94, 1, 2, 3] rfl w
  rw [live_mac] at c
  exact c
theorem live_c5 (w : World) : Calls Tryz.prog 32 #[.int .u8 239, .int .u8 129, .int .u8 2, .int .u8 3] w fun e w' => e = .returned (.agg #[.bool false, .int .u8 239, .int .u8 129, .int .u8 2, .int .u8 3, .int .u8 0, .int .u8 0, .int .u8 0, .int .u8 0, .int .u8 0, .int .u8 0, .int .u8 0, .int .u8 0, .int .u8 0, .int .u8 0, .int .u8 0, .int .u8 0]) ∧ Below w.heap.size w w' := ip4_any 239 129 2 3 w
/-- The address stands in its block. -/
def LvA (w W : World) (b : Nat) : Prop := ObjAt W b (addrC true liveL).toArray 24 ∧ Below w.heap.size w W
theorem LvA.below {w W W' : World} {b : Nat} (h : LvA w W b) (hb : Below W.heap.size W W') : LvA w W' b := ⟨h.1.below hb h.1.lt, bstep h.2 hb⟩
theorem LvA.facts {w W : World} {b : Nat} (h : LvA w W b) : W.cell? ⟨b, 0, none⟩ = some (.bool true) ∧ W.cell? ⟨b, 1, none⟩ = some (.int .u8 255) ∧ W.cell? ⟨b, 16, none⟩ = some (.int .u8 1) ∧ row? W b 0 17 = some (addrC true liveL) :=
  ⟨h.1.cell 0, h.1.cell 1, h.1.cell 16, obj_row (A := []) (M := addrC true liveL) (C := []) (by simpa using h.1) rfl rfl⟩
set_option maxRecDepth 100000 in
set_option maxHeartbeats 2000000 in
theorem lives3_any (w : World) (h : Env w) : Calls Tryz.prog 24 #[] w fun e w' => e = .returned (.bool true) ∧ Below w.heap.size w w' := by
  have HE := Lib.hid h; clear h
  have hok1 : fok (addrC true liveL).toArray 17 = true := fok_addr true liveL rfl
  have hok2 : fok #[.int .u8 1, .int .u8 0, .int .u8 94, .int .u8 1, .int .u8 2, .int .u8 3] 6 = true := by simp [fok, Value.oneCell']
  go_enter Tryz.func24, Tryz.ntmps24
  go_wp2_with (first
    | (go_at_call 25; refine (live_c1 _ HE.out).mono ?_; rintro e w1 ⟨rfl, hb1⟩; have HB1 := Lib.hid hb1; have hf1 := free_made w1 #[.bool false, .int .u8 0, .int .u8 0, .int .u8 0, .int .u8 0, .int .u8 0, .int .u8 0, .int .u8 0, .int .u8 0, .int .u8 0, .int .u8 0, .int .u8 0, .int .u8 0, .int .u8 0, .int .u8 0, .int .u8 0, .int .u8 0] 24 17 (by simp); have HA1 := Lib.hid (show LvA w (aggW (w1.alloc (.cells #[.bool false, .int .u8 0, .int .u8 0, .int .u8 0, .int .u8 0, .int .u8 0, .int .u8 0, .int .u8 0, .int .u8 0, .int .u8 0, .int .u8 0, .int .u8 0, .int .u8 0, .int .u8 0, .int .u8 0, .int .u8 0, .int .u8 0] 24)) w1.heap.size (addrC true liveL)) w1.heap.size from ⟨aggW_obj (cs := addrC true liveL) (ObjAt.made w1 #[.bool false, .int .u8 0, .int .u8 0, .int .u8 0, .int .u8 0, .int .u8 0, .int .u8 0, .int .u8 0, .int .u8 0, .int .u8 0, .int .u8 0, .int .u8 0, .int .u8 0, .int .u8 0, .int .u8 0, .int .u8 0, .int .u8 0] 24) rfl (addrC_one _ _), aggW_below (hb1.alloc hb1.size _) hb1.size _⟩); clear hb1)
    | (go_at_call 32; refine (live_c5 _).mono ?_; rintro e w2 ⟨rfl, hb2⟩; have HA2 := Lib.hid (HA1.out.below hb2); clear hb2 hf1)
    | (go_at_call 9; refine (live_c3 _).mono ?_; rintro e w3 ⟨rfl, hb3⟩; have HA3 := Lib.hid (HA2.out.below hb3); have hf3 := free_made w3 #[.int .u8 0, .int .u8 0, .int .u8 0, .int .u8 0, .int .u8 0, .int .u8 0] 28 6 (by simp); have HA4 := Lib.hid (show LvA w (aggW (w3.alloc (.cells #[.int .u8 0, .int .u8 0, .int .u8 0, .int .u8 0, .int .u8 0, .int .u8 0] 28)) w3.heap.size [.int .u8 1, .int .u8 0, .int .u8 94, .int .u8 1, .int .u8 2, .int .u8 3]) w1.heap.size from ⟨aggW_other (HA3.out.1.alloc _) _ (by have := HA3.out.1.lt; omega), aggW_below (HA3.out.2.alloc HA3.out.2.size _) HA3.out.2.size _⟩); have HM4 := Lib.hid (show ObjAt (aggW (w3.alloc (.cells #[.int .u8 0, .int .u8 0, .int .u8 0, .int .u8 0, .int .u8 0, .int .u8 0] 28)) w3.heap.size [.int .u8 1, .int .u8 0, .int .u8 94, .int .u8 1, .int .u8 2, .int .u8 3]) w3.heap.size #[.int .u8 1, .int .u8 0, .int .u8 94, .int .u8 1, .int .u8 2, .int .u8 3] 28 from aggW_obj (cs := [.int .u8 1, .int .u8 0, .int .u8 94, .int .u8 1, .int .u8 2, .int .u8 3]) (ObjAt.made w3 #[.int .u8 0, .int .u8 0, .int .u8 0, .int .u8 0, .int .u8 0, .int .u8 0] 28) rfl (by simp [Value.oneCell'])); obtain ⟨k0, k1, k2, k3⟩ := HA4.out.facts; clear hb3)
    | (go_at_call 29; refine (live_c2 _ (HE.out.below HA4.out.2)).mono ?_; rintro e w5 ⟨rfl, hb5⟩; have HA5 := Lib.hid (HA4.out.below hb5); have HM5 := Lib.hid (HM4.out.below hb5 HM4.out.lt); have hr5 := obj_row (A := []) (M := [.int .u8 1, .int .u8 0, .int .u8 94, .int .u8 1, .int .u8 2, .int .u8 3]) (C := []) (o := 0) (n := 6) (by simpa using HM5.out) rfl rfl; clear hb5 k0 k1 k2 k3 hf3)
    | (go_at_call 30; refine (live_c4 _).mono ?_; rintro e w6 ⟨rfl, hb6⟩; have HA6 := Lib.hid (HA5.out.below hb6); clear hb6 hr5))
  go_ret
  exact ⟨rfl, HA6.out.2⟩
end Go.Proofs.YtmpikhpnkfnnoaaGreatDoor
