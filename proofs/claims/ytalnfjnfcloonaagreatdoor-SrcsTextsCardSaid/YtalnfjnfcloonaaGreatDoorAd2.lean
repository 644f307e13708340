/-
  Contracts of addr: functions that answer addresses.
-/
import Derived.Test.YtalnfjnfcloonaaGreatDoorMg09
import Derived.Test.YtalnfjnfcloonaaGreatDoorAgg
namespace Go.Proofs.YtalnfjnfcloonaaGreatDoor
open Go.RowKit
set_option linter.unusedVariables false
attribute [local go_sem ↓] bld_addr bld_b16 bld_u8x ld_addr st_addr ld_b16 ld_u8x st_u8x
attribute [local go_sem] ldr_addr str_addr ldr_b16 ldr_u8x str_u8x
set_option maxRecDepth 100000 in
set_option maxHeartbeats 1000000 in
theorem ip4_any (a b c d : Int) (w : World) : Calls Tryz.prog 45 #[.int .u8 a, .int .u8 b, .int .u8 c, .int .u8 d] w fun e w' => e = .returned (.agg #[.bool false, .int .u8 a, .int .u8 b, .int .u8 c, .int .u8 d, .int .u8 0, .int .u8 0, .int .u8 0, .int .u8 0, .int .u8 0, .int .u8 0, .int .u8 0, .int .u8 0, .int .u8 0, .int .u8 0, .int .u8 0, .int .u8 0]) ∧ Below w.heap.size w w' := by
  have hok : fok #[.bool false, .int .u8 a, .int .u8 b, .int .u8 c, .int .u8 d, .int .u8 0, .int .u8 0, .int .u8 0, .int .u8 0, .int .u8 0, .int .u8 0, .int .u8 0, .int .u8 0, .int .u8 0, .int .u8 0, .int .u8 0, .int .u8 0] 17 = true := by simp [fok, Value.oneCell']
  have hb1 : ∀ w0, (aggBuild 34 #[(0, .int .u8 a), (1, .int .u8 b), (2, .int .u8 c), (3, .int .u8 d)]).run Tryz.prog w0 = .ok (.agg #[.int .u8 a, .int .u8 b, .int .u8 c, .int .u8 d, .int .u8 0, .int .u8 0, .int .u8 0, .int .u8 0, .int .u8 0, .int .u8 0, .int .u8 0, .int .u8 0, .int .u8 0, .int .u8 0, .int .u8 0, .int .u8 0]) w0 := bld_run _ _ _ (by kernel_rfl)
  have hb2 : ∀ w0, (aggBuild 36 #[(1, .agg #[.int .u8 a, .int .u8 b, .int .u8 c, .int .u8 d, .int .u8 0, .int .u8 0, .int .u8 0, .int .u8 0, .int .u8 0, .int .u8 0, .int .u8 0, .int .u8 0, .int .u8 0, .int .u8 0, .int .u8 0, .int .u8 0])]).run Tryz.prog w0 = .ok (.agg #[.bool false, .int .u8 a, .int .u8 b, .int .u8 c, .int .u8 d, .int .u8 0, .int .u8 0, .int .u8 0, .int .u8 0, .int .u8 0, .int .u8 0, .int .u8 0, .int .u8 0, .int .u8 0, .int .u8 0, .int .u8 0, .int .u8 0]) w0 := bld_run _ _ _ (by kernel_rfl)
  go_enter Tryz.func45, Tryz.ntmps45
  go_upto_region 1 with (fail)
  have hf := free_made w #[.bool false, .int .u8 0, .int .u8 0, .int .u8 0, .int .u8 0, .int .u8 0, .int .u8 0, .int .u8 0, .int .u8 0, .int .u8 0, .int .u8 0, .int .u8 0, .int .u8 0, .int .u8 0, .int .u8 0, .int .u8 0, .int .u8 0] 36 17 (by simp)
  have hb : Below w.heap.size w (w.alloc (.cells #[.bool false, .int .u8 0, .int .u8 0, .int .u8 0, .int .u8 0, .int .u8 0, .int .u8 0, .int .u8 0, .int .u8 0, .int .u8 0, .int .u8 0, .int .u8 0, .int .u8 0, .int .u8 0, .int .u8 0, .int .u8 0, .int .u8 0] 36)) := (Below.refl _ _).alloc (Nat.le_refl _) _
  generalize w.alloc (.cells #[.bool false, .int .u8 0, .int .u8 0, .int .u8 0, .int .u8 0, .int .u8 0, .int .u8 0, .int .u8 0, .int .u8 0, .int .u8 0, .int .u8 0, .int .u8 0, .int .u8 0, .int .u8 0, .int .u8 0, .int .u8 0, .int .u8 0] 36) = W at hf hb ⊢
  have Hb := Lib.hid hb; clear hb
  go_wp2
  have hr := aggW_row (cs := [.bool false, .int .u8 a, .int .u8 b, .int .u8 c, .int .u8 d, .int .u8 0, .int .u8 0, .int .u8 0, .int .u8 0, .int .u8 0, .int .u8 0, .int .u8 0, .int .u8 0, .int .u8 0, .int .u8 0, .int .u8 0, .int .u8 0]) hf rfl
  exact bodyPost_ret (results_cell Tryz.results45 rfl (ld_some hr (ldr_addr _ _ _))) rfl ⟨rfl, aggW_below Hb.out (Nat.le_refl _) _⟩

/-- An address's bytes. -/
def bytesV (v : Bool) (l : List UInt8) : List UInt8 := if v then l else l.take 4
set_option maxHeartbeats 1000000 in
theorem bytes_any (v : Bool) (l : List UInt8) (hl : l.length = 16) (w : World) : Calls Tryz.prog 50 #[.agg (addrC v l).toArray] w fun e w' => e = .returned (.string (Str (bytesV v l))) ∧ Below w.heap.size w w' := by
  have HB := Lib.hid (BoxAt.made w v l hl 36)
  go_enter Tryz.func50, Tryz.ntmps50
  go_upto_region 1 with (fail)
  have hbx := HB.out
  clear HB
  generalize w.alloc (.cells (addrC v l).toArray 36) = W at hbx ⊢
  have HB := Lib.hid hbx
  obtain ⟨k0, k1, k2, k3, k4⟩ := hbx

  have hc16 := run_string_row (P := Tryz.prog) 45 9 5 Tryz.underlying45 Tryz.underlying5 Tryz.underlying9 k1 16 16 (by omega)
  have hc4 := run_string_row (P := Tryz.prog) 45 9 5 Tryz.underlying45 Tryz.underlying5 Tryz.underlying9 k1 4 16 (by omega)
  rw [List.take_of_length_le (by omega)] at hc16
  clear k1 k2 k3 k4 hl
  cases v with
  | true =>
    go_wp2
    go_ret
    exact ⟨rfl, HB.out.2.2.2.2⟩
  | false =>
    go_wp2
    go_ret
    exact ⟨rfl, HB.out.2.2.2.2⟩
/-- Which address bytes are. -/
def readV (s : List UInt8) : List UInt8 := s ++ List.replicate (16 - s.length) 0
theorem readV_length (s : List UInt8) (h : s.length ≤ 16) : (readV s).length = 16 := by simp [readV]; omega
theorem over_read (v : Bool) (l : List UInt8) (h : l.length ≤ 16) : over (addrC v (List.replicate 16 0)) 1 (B8 l) = addrC v (readV l) := by
  have e1 : (List.replicate 16 (0 : UInt8)).drop l.length = List.replicate (16 - l.length) 0 := by rw [List.drop_replicate]
  show (addrC v (List.replicate 16 0)).take 1 ++ (B8 l ++ (addrC v (List.replicate 16 0)).drop (1 + (B8 l).length)) = _
  rw [B8_length, Nat.add_comm 1 l.length, show addrC v (List.replicate 16 0) = .bool v :: B8 (List.replicate 16 0) from rfl, List.drop_succ_cons]
  unfold B8 addrC readV B8
  rw [← List.map_drop, e1, List.map_append]
  rfl
set_option maxRecDepth 100000 in
set_option maxHeartbeats 1000000 in
theorem read_bad (l : List UInt8) (h1 : l.length ≤ 1000000) (h4 : decide ((l.length : Int) = 4) = false) (h16 : decide ((l.length : Int) = 16) = false) (w : World) :
    Calls Tryz.prog 27 #[.string (Str l)] w fun e w' => e = .returned (.tuple #[.agg (addrC false (List.replicate 16 0)).toArray, .int .i64 2]) ∧ Below w.heap.size w w' := by
  have hsz := Str_size l
  have g4 : ((l.length : Int) == 4) = false := by simpa using h4
  have g16 : ((l.length : Int) == 16) = false := by simpa using h16
  have i4 : ((l.length : Int) != 4) = true := by simp [bne, g4]
  have i16 : ((l.length : Int) != 16) = true := by simp [bne, g16]
  have hok : fok #[.bool false, .int .u8 0, .int .u8 0, .int .u8 0, .int .u8 0, .int .u8 0, .int .u8 0, .int .u8 0, .int .u8 0, .int .u8 0, .int .u8 0, .int .u8 0, .int .u8 0, .int .u8 0, .int .u8 0, .int .u8 0, .int .u8 0] 17 = true := by simp [fok, Value.oneCell']
  have hbld : ∀ w0, (aggBuild 36 #[]).run Tryz.prog w0 = .ok (.agg #[.bool false, .int .u8 0, .int .u8 0, .int .u8 0, .int .u8 0, .int .u8 0, .int .u8 0, .int .u8 0, .int .u8 0, .int .u8 0, .int .u8 0, .int .u8 0, .int .u8 0, .int .u8 0, .int .u8 0, .int .u8 0, .int .u8 0]) w0 := bld_run _ _ _ (by kernel_rfl)
  go_enter Tryz.func27, Tryz.ntmps27
  go_upto_region 1 with (fail)
  have hf := free_made w #[.bool false, .int .u8 0, .int .u8 0, .int .u8 0, .int .u8 0, .int .u8 0, .int .u8 0, .int .u8 0, .int .u8 0, .int .u8 0, .int .u8 0, .int .u8 0, .int .u8 0, .int .u8 0, .int .u8 0, .int .u8 0, .int .u8 0] 36 17 (by simp)
  have hb : Below w.heap.size w (w.alloc (.cells #[.bool false, .int .u8 0, .int .u8 0, .int .u8 0, .int .u8 0, .int .u8 0, .int .u8 0, .int .u8 0, .int .u8 0, .int .u8 0, .int .u8 0, .int .u8 0, .int .u8 0, .int .u8 0, .int .u8 0, .int .u8 0, .int .u8 0] 36)) := (Below.refl _ _).alloc (Nat.le_refl _) _
  generalize w.alloc (.cells #[.bool false, .int .u8 0, .int .u8 0, .int .u8 0, .int .u8 0, .int .u8 0, .int .u8 0, .int .u8 0, .int .u8 0, .int .u8 0, .int .u8 0, .int .u8 0, .int .u8 0, .int .u8 0, .int .u8 0, .int .u8 0, .int .u8 0] 36) = W at hf hb ⊢
  have Hb := Lib.hid hb; clear hb
  go_wp2
  have hr := aggW_row (cs := addrC false (List.replicate 16 0)) hf rfl
  exact bodyPost_ret (results_cell2 Tryz.results27 rfl (ld_some hr (ldr_addr _ _ _))) rfl ⟨rfl, aggW_below Hb.out (Nat.le_refl _) _⟩

set_option maxRecDepth 100000 in
set_option maxHeartbeats 1000000 in
theorem read_good (v : Bool) (l : List UInt8) (h1 : l.length ≤ 16) (hv : ((l.length : Int) == 16) = v) (g : ((l.length : Int) == 4) = !v) (w : World) :
    Calls Tryz.prog 27 #[.string (Str l)] w fun e w' => e = .returned (.tuple #[.agg (addrC v (readV l)).toArray, .int .i64 0]) ∧ Below w.heap.size w w' := by
  have hsz := Str_size l
  have i4 : ((l.length : Int) != 4) = v := by simp [bne, g]
  have i16 : ((l.length : Int) != 16) = !v := by simp [bne, hv]
  have HV := Lib.hid hv
  have hok : fok #[.bool v, .int .u8 0, .int .u8 0, .int .u8 0, .int .u8 0, .int .u8 0, .int .u8 0, .int .u8 0, .int .u8 0, .int .u8 0, .int .u8 0, .int .u8 0, .int .u8 0, .int .u8 0, .int .u8 0, .int .u8 0, .int .u8 0] 17 = true := by simp [fok, Value.oneCell']
  have hbld : ∀ w0, (aggBuild 36 #[(0, .bool v)]).run Tryz.prog w0 = .ok (.agg #[.bool v, .int .u8 0, .int .u8 0, .int .u8 0, .int .u8 0, .int .u8 0, .int .u8 0, .int .u8 0, .int .u8 0, .int .u8 0, .int .u8 0, .int .u8 0, .int .u8 0, .int .u8 0, .int .u8 0, .int .u8 0, .int .u8 0]) w0 := bld_run _ _ _ (by kernel_rfl)
  have hok2 := fok_addr v (readV l) (readV_length l h1)
  go_enter Tryz.func27, Tryz.ntmps27
  go_upto_region 1 with (fail)
  have ho := ObjAt.made w #[.bool false, .int .u8 0, .int .u8 0, .int .u8 0, .int .u8 0, .int .u8 0, .int .u8 0, .int .u8 0, .int .u8 0, .int .u8 0, .int .u8 0, .int .u8 0, .int .u8 0, .int .u8 0, .int .u8 0, .int .u8 0, .int .u8 0] 36
  have hb : Below w.heap.size w (w.alloc (.cells #[.bool false, .int .u8 0, .int .u8 0, .int .u8 0, .int .u8 0, .int .u8 0, .int .u8 0, .int .u8 0, .int .u8 0, .int .u8 0, .int .u8 0, .int .u8 0, .int .u8 0, .int .u8 0, .int .u8 0, .int .u8 0, .int .u8 0] 36)) := (Below.refl _ _).alloc (Nat.le_refl _) _
  have hz : w.heap.size < (w.alloc (.cells #[.bool false, .int .u8 0, .int .u8 0, .int .u8 0, .int .u8 0, .int .u8 0, .int .u8 0, .int .u8 0, .int .u8 0, .int .u8 0, .int .u8 0, .int .u8 0, .int .u8 0, .int .u8 0, .int .u8 0, .int .u8 0, .int .u8 0] 36)).heap.size := by simp
  generalize w.alloc (.cells #[.bool false, .int .u8 0, .int .u8 0, .int .u8 0, .int .u8 0, .int .u8 0, .int .u8 0, .int .u8 0, .int .u8 0, .int .u8 0, .int .u8 0, .int .u8 0, .int .u8 0, .int .u8 0, .int .u8 0, .int .u8 0, .int .u8 0] 36) = W at ho hb hz ⊢
  have Hb := Lib.hid hb; clear hb
  have Ho := Lib.hid ho; clear ho
  have hf2 := free_made W #[.bool false, .int .u8 0, .int .u8 0, .int .u8 0, .int .u8 0, .int .u8 0, .int .u8 0, .int .u8 0, .int .u8 0, .int .u8 0, .int .u8 0, .int .u8 0, .int .u8 0, .int .u8 0, .int .u8 0, .int .u8 0, .int .u8 0] 36 17 (by simp)
  have hA := ObjAt.made W #[.bool false, .int .u8 0, .int .u8 0, .int .u8 0, .int .u8 0, .int .u8 0, .int .u8 0, .int .u8 0, .int .u8 0, .int .u8 0, .int .u8 0, .int .u8 0, .int .u8 0, .int .u8 0, .int .u8 0, .int .u8 0, .int .u8 0] 36
  have h0A : ObjAt (W.alloc (.cells #[.bool false, .int .u8 0, .int .u8 0, .int .u8 0, .int .u8 0, .int .u8 0, .int .u8 0, .int .u8 0, .int .u8 0, .int .u8 0, .int .u8 0, .int .u8 0, .int .u8 0, .int .u8 0, .int .u8 0, .int .u8 0, .int .u8 0] 36)) w.heap.size _ _ := Ho.out.alloc _
  have hbA : Below w.heap.size w (W.alloc (.cells #[.bool false, .int .u8 0, .int .u8 0, .int .u8 0, .int .u8 0, .int .u8 0, .int .u8 0, .int .u8 0, .int .u8 0, .int .u8 0, .int .u8 0, .int .u8 0, .int .u8 0, .int .u8 0, .int .u8 0, .int .u8 0, .int .u8 0] 36)) := Hb.out.alloc (by omega) _
  have hB := aggW_obj (cs := [.bool v, .int .u8 0, .int .u8 0, .int .u8 0, .int .u8 0, .int .u8 0, .int .u8 0, .int .u8 0, .int .u8 0, .int .u8 0, .int .u8 0, .int .u8 0, .int .u8 0, .int .u8 0, .int .u8 0, .int .u8 0, .int .u8 0]) hA rfl (addrC_one v (List.replicate 16 0))
  have h0B := aggW_other h0A [.bool v, .int .u8 0, .int .u8 0, .int .u8 0, .int .u8 0, .int .u8 0, .int .u8 0, .int .u8 0, .int .u8 0, .int .u8 0, .int .u8 0, .int .u8 0, .int .u8 0, .int .u8 0, .int .u8 0, .int .u8 0, .int .u8 0] (b := W.heap.size) (by omega)
  have hbB := aggW_below hbA (b := W.heap.size) (by omega) [.bool v, .int .u8 0, .int .u8 0, .int .u8 0, .int .u8 0, .int .u8 0, .int .u8 0, .int .u8 0, .int .u8 0, .int .u8 0, .int .u8 0, .int .u8 0, .int .u8 0, .int .u8 0, .int .u8 0, .int .u8 0, .int .u8 0]
  have hC := aggO_obj hB (o := 1) (cs := B8 l) (by rw [B8_length]; simp; omega) (B8_one l)
  rw [show over [.bool v, .int .u8 0, .int .u8 0, .int .u8 0, .int .u8 0, .int .u8 0, .int .u8 0, .int .u8 0, .int .u8 0, .int .u8 0, .int .u8 0, .int .u8 0, .int .u8 0, .int .u8 0, .int .u8 0, .int .u8 0, .int .u8 0] 1 (B8 l) = addrC v (readV l) from over_read v l h1] at hC
  have h0C := aggO_other (o := 1) h0B (B8 l) (b := W.heap.size) (by omega)
  have hbC := aggO_below hbB (b := W.heap.size) (by omega) 1 (B8 l)
  have hrC := obj_row (A := []) (M := addrC v (readV l)) (C := []) (o := 0) (n := 17) (by simpa using hC) rfl (by rw [addrC_length, readV_length l h1])
  have hfC := obj_free (n := 17) h0C (by simp)
  have HB := Lib.hid hB; have HbC := Lib.hid hbC
  have hrD := aggW_row (cs := addrC v (readV l)) hfC (by rw [addrC_length, readV_length l h1])
  have HrD := Lib.hid hrD
  clear hA h0A hbA hB h0B hbB hC h0C hbC hrD
  cases v <;>
  · go_wp2_with (with_reducible refine wpList_copy_str rfl (.tmp 19) (.tmp 20) 45 9 rfl Tryz.underlying45 W.heap.size 1 16 16 rfl l rfl (by omega) _ _ HB.out (by simp; omega) ?_)
    exact bodyPost_ret (results_cell2 Tryz.results27 rfl (ld_some HrD.out (ldr_addr _ _ _))) rfl ⟨rfl, aggW_below HbC.out (Nat.le_refl _) _⟩
end Go.Proofs.YtalnfjnfcloonaaGreatDoor
