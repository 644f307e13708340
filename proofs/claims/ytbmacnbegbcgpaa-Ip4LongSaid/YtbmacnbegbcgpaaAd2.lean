/-
  Contracts of addr: functions that answer addresses.
-/
import Derived.Test.YtbmacnbegbcgpaaAd1
import Derived.Test.YtbmacnbegbcgpaaAgg
namespace Go.Proofs.Ytbmacnbegbcgpaa
open Go.RowKit
set_option linter.unusedVariables false
attribute [local go_sem ↓] bld_addr bld_b16 ld_addr st_addr ld_b16
attribute [local go_sem] ldr_addr str_addr ldr_b16
theorem ret_agg {a b : Array Value} (h : a = b) : Ending.returned (.agg a) = .returned (.agg b) := by rw [h]

set_option maxRecDepth 100000 in
set_option maxHeartbeats 1000000 in
theorem ip4_any (a b c d : Int) (w : World) : Calls Try.prog 28 #[.int .u8 a, .int .u8 b, .int .u8 c, .int .u8 d] w fun e w' => e = .returned (.agg #[.bool false, .int .u8 a, .int .u8 b, .int .u8 c, .int .u8 d, .int .u8 0, .int .u8 0, .int .u8 0, .int .u8 0, .int .u8 0, .int .u8 0, .int .u8 0, .int .u8 0, .int .u8 0, .int .u8 0, .int .u8 0, .int .u8 0]) ∧ Below w.heap.size w w' := by
  have hok : fok #[.bool false, .int .u8 a, .int .u8 b, .int .u8 c, .int .u8 d, .int .u8 0, .int .u8 0, .int .u8 0, .int .u8 0, .int .u8 0, .int .u8 0, .int .u8 0, .int .u8 0, .int .u8 0, .int .u8 0, .int .u8 0, .int .u8 0] 17 = true := by simp [fok, Value.oneCell']
  have hb1 : ∀ w0, (aggBuild 22 #[(0, .int .u8 a), (1, .int .u8 b), (2, .int .u8 c), (3, .int .u8 d)]).run Try.prog w0 = .ok (.agg #[.int .u8 a, .int .u8 b, .int .u8 c, .int .u8 d, .int .u8 0, .int .u8 0, .int .u8 0, .int .u8 0, .int .u8 0, .int .u8 0, .int .u8 0, .int .u8 0, .int .u8 0, .int .u8 0, .int .u8 0, .int .u8 0]) w0 := bld_run _ _ _ (by kernel_rfl)
  have hb2 : ∀ w0, (aggBuild 24 #[(1, .agg #[.int .u8 a, .int .u8 b, .int .u8 c, .int .u8 d, .int .u8 0, .int .u8 0, .int .u8 0, .int .u8 0, .int .u8 0, .int .u8 0, .int .u8 0, .int .u8 0, .int .u8 0, .int .u8 0, .int .u8 0, .int .u8 0])]).run Try.prog w0 = .ok (.agg #[.bool false, .int .u8 a, .int .u8 b, .int .u8 c, .int .u8 d, .int .u8 0, .int .u8 0, .int .u8 0, .int .u8 0, .int .u8 0, .int .u8 0, .int .u8 0, .int .u8 0, .int .u8 0, .int .u8 0, .int .u8 0, .int .u8 0]) w0 := bld_run _ _ _ (by kernel_rfl)
  go_enter Try.func28, Try.ntmps28
  go_upto_region 1 with (fail)
  have hf := free_made w #[.bool false, .int .u8 0, .int .u8 0, .int .u8 0, .int .u8 0, .int .u8 0, .int .u8 0, .int .u8 0, .int .u8 0, .int .u8 0, .int .u8 0, .int .u8 0, .int .u8 0, .int .u8 0, .int .u8 0, .int .u8 0, .int .u8 0] 24 17 (by simp)
  have hb : Below w.heap.size w (w.alloc (.cells #[.bool false, .int .u8 0, .int .u8 0, .int .u8 0, .int .u8 0, .int .u8 0, .int .u8 0, .int .u8 0, .int .u8 0, .int .u8 0, .int .u8 0, .int .u8 0, .int .u8 0, .int .u8 0, .int .u8 0, .int .u8 0, .int .u8 0] 24)) := (Below.refl _ _).alloc (Nat.le_refl _) _
  generalize w.alloc (.cells #[.bool false, .int .u8 0, .int .u8 0, .int .u8 0, .int .u8 0, .int .u8 0, .int .u8 0, .int .u8 0, .int .u8 0, .int .u8 0, .int .u8 0, .int .u8 0, .int .u8 0, .int .u8 0, .int .u8 0, .int .u8 0, .int .u8 0] 24) = W at hf hb ⊢
  have Hb := Lib.hid hb; clear hb
  go_wp2
  have hr := aggW_row (cs := [.bool false, .int .u8 a, .int .u8 b, .int .u8 c, .int .u8 d, .int .u8 0, .int .u8 0, .int .u8 0, .int .u8 0, .int .u8 0, .int .u8 0, .int .u8 0, .int .u8 0, .int .u8 0, .int .u8 0, .int .u8 0, .int .u8 0]) hf rfl
  exact bodyPost_ret (results_cell Try.results28 rfl (ld_some hr (ldr_addr _ _ _))) rfl ⟨rfl, aggW_below Hb.out (Nat.le_refl _) _⟩

/-- An address's bytes. -/
def bytesV (v : Bool) (l : List UInt8) : List UInt8 := if v then l else l.take 4
set_option maxHeartbeats 1000000 in
theorem bytes_any (v : Bool) (l : List UInt8) (hl : l.length = 16) (w : World) : Calls Try.prog 19 #[.agg (addrC v l).toArray] w fun e w' => e = .returned (.string (Str (bytesV v l))) ∧ Below w.heap.size w w' := by
  have HB := Lib.hid (BoxAt.made w v l hl 24)
  go_enter Try.func19, Try.ntmps19
  go_upto_region 1 with (fail)
  have hbx := HB.out
  clear HB
  generalize w.alloc (.cells (addrC v l).toArray 24) = W at hbx ⊢
  have HB := Lib.hid hbx
  obtain ⟨k0, k1, k2, k3, k4⟩ := hbx

  have hc16 := run_string_row (P := Try.prog) 40 9 5 Try.underlying40 Try.underlying5 Try.underlying9 k1 16 16 (by omega)
  have hc4 := run_string_row (P := Try.prog) 40 9 5 Try.underlying40 Try.underlying5 Try.underlying9 k1 4 16 (by omega)
  rw [List.take_of_length_le (by omega)] at hc16
  clear k1 k2 k3 k4 hl
  cases v with
  | true =>
    go_wp2
    go_ret
    exact ⟨rfl, HB.out.2.2.2.2⟩
  | false =>
    go_wp2
    go_ret
    exact ⟨rfl, HB.out.2.2.2.2⟩
/-- Which address bytes are. -/
def readV (s : List UInt8) : List UInt8 := s ++ List.replicate (16 - s.length) 0
theorem readV_length (s : List UInt8) (h : s.length ≤ 16) : (readV s).length = 16 := by simp [readV]; omega
def zero17 : List Value := addrC false (List.replicate 16 0)
theorem over_read (v : Bool) (l : List UInt8) (h : l.length ≤ 16) : over (addrC v (List.replicate 16 0)) 1 (B8 l) = addrC v (readV l) := by
  have e1 : (List.replicate 16 (0 : UInt8)).drop l.length = List.replicate (16 - l.length) 0 := by rw [List.drop_replicate]
  show (addrC v (List.replicate 16 0)).take 1 ++ (B8 l ++ (addrC v (List.replicate 16 0)).drop (1 + (B8 l).length)) = _
  rw [B8_length, Nat.add_comm 1 l.length, show addrC v (List.replicate 16 0) = .bool v :: B8 (List.replicate 16 0) from rfl, List.drop_succ_cons]
  unfold B8 addrC readV B8
  rw [← List.map_drop, e1, List.map_append]
  rfl
end Go.Proofs.Ytbmacnbegbcgpaa
