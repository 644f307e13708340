/-
  The contract of strconv.FormatUint at base 10, for numbers up to 255.
-/
import Derived.Test.YtalnfjnfcloonaaDoorFmt
import Derived.Lib.OwnBridge
namespace Go.Proofs.YtalnfjnfcloonaaDoor
open Go.RowKit Go.Sort
set_option linter.unusedVariables false

theorem digL_dec (n : Nat) (h : n < 10) : digL n = UInt8.ofNat (48 + n) := by simp [digL, h]
theorem dec_small (n : Nat) (h : n < 100) : Lib.decDigits n = numD 10 n := by
  by_cases h1 : n < 10
  · rw [Lib.decDigits_one h1, numD_small 10 n h1, digL_dec n h1]
  · rw [Lib.decDigits_two h1 h, numD_step 10 n (by omega) (by omega) (by omega), numD_small 10 (n / 10) (by omega), digL_dec _ (by omega), digL_dec _ (by omega)]; rfl
theorem numD_three (n : Nat) (h1 : 100 ≤ n) (h : n ≤ 255) : numD 10 n = [Lib.dg n 2, Lib.dg n 1, Lib.dg n 0] := by
  rw [numD_step 10 n (by omega) (by omega) (by omega), numD_step 10 (n / 10) (by omega) (by omega) (by omega), numD_small 10 (n / 10 / 10) (by omega), digL_dec _ (by omega), digL_dec _ (by omega), digL_dec _ (by omega)]
  have e2 : n / 10 ^ 2 % 10 = n / 10 / 10 := by omega
  have e1 : n / 10 ^ 1 % 10 = n / 10 % 10 := by omega
  simp [Lib.dg, e2]
theorem below_put {enc : UInt8 → Value} {B : Nat} {w0 w : World} {g : Nat} {d : Array UInt8} (h : Below B w0 w) (hg : B ≤ g) : Below B w0 (putRow enc w g 0 d) :=
  ⟨h.os, h.tape, h.output, by simpa [putRow, mapBlock] using h.size, fun k hk => by
    rw [← h.block k hk]
    simp [putRow, mapBlock, Array.getElem?_modify, show g ≠ k by omega]⟩
theorem fmt10_small (n : Nat) (hn : n < 100) (w : World) : Calls Tryd.prog 77 #[.int .u64 n, .int .i64 10] w fun e w' => e = .returned (.string (Str (numD 10 n))) ∧ Below w.heap.size w w' := by
  have hw : IntKind.i64.wrap (n : Int) = n := by simp only [IntKind.wrap_i64]; omega
  have Hd := Lib.hid (dec_small n hn)
  go_enter Tryd.func77, Tryd.ntmps77
  go_wp2_with (go_at_call 81; refine (Tryd.internal_strconv_small n hn _).mono ?_; rintro e w1 ⟨rfl, rfl⟩)
  go_ret
  exact ⟨by rw [Hd.out]; rfl, Below.refl _ _⟩
set_option maxRecDepth 100000 in
set_option maxHeartbeats 1000000 in
theorem fmt10_big (n : Nat) (h1 : 100 ≤ n) (hn : n ≤ 255) (w : World) (h : Env w) : Calls Tryd.prog 77 #[.int .u64 n, .int .i64 10] w fun e w' => e = .returned (.string (Str (numD 10 n))) ∧ Below w.heap.size w w' := by
  have HE := Lib.hid h; clear h
  have hnd : Lib.nDigits n = 3 := Lib.nDigits_unique 2 n (by omega) (by omega)
  have Hnd := Lib.hid hnd; clear hnd
  have HD := Lib.hid (numD_three n h1 hn)
  go_enter Tryd.func77, Tryd.ntmps77
  go_upto_region 5 with (fail)
  have hz : (#[.int .u8 0, .int .u8 0, .int .u8 0, .int .u8 0, .int .u8 0, .int .u8 0, .int .u8 0, .int .u8 0, .int .u8 0, .int .u8 0, .int .u8 0, .int .u8 0, .int .u8 0, .int .u8 0, .int .u8 0, .int .u8 0, .int .u8 0, .int .u8 0, .int .u8 0, .int .u8 0, .int .u8 0, .int .u8 0, .int .u8 0, .int .u8 0] : Array Value) = (B8 (List.replicate 24 0)).toArray := rfl
  have ho := ObjAt.made w (B8 (List.replicate 24 0)).toArray 104
  rw [hz]
  clear hz
  have hb : Below w.heap.size w (w.alloc (.cells (B8 (List.replicate 24 0)).toArray 104)) := (Below.refl _ _).alloc (Nat.le_refl _) _
  generalize w.alloc (.cells (B8 (List.replicate 24 0)).toArray 104) = W at ho hb ⊢
  have hH : Holds (fun (b : UInt8) => Value.int .u8 (b.toNat : Int)) W w.heap.size 0 #[0, 0, 0] := fun j hj => by
    have hj3 : j < 3 := hj
    refine ⟨?_, ho.free (0 + j)⟩
    rw [ho.cell (0 + j), List.getElem?_toArray, B8_get, List.getElem?_replicate_of_lt (by omega)]
    rcases j with _ | _ | _ | j
    · rfl
    · rfl
    · rfl
    · omega
  have HE1 := Lib.hid (HE.out.below hb)
  have Hb := Lib.hid hb
  have HH := Lib.hid hH
  have Ho := Lib.hid ho
  clear hb ho hH
  go_wp2_with (first
    | (go_at_call 82; refine (Tryd.internal_strconv_numDigits n (by omega) (by omega) _ HE1.out.tab).mono ?_; rintro e w1 ⟨rfl, rfl⟩; rw [Hnd.out])
    | (go_at_call 83; refine (Tryd.internal_strconv_formatBase10 w.heap.size 0 24 n #[0, 0, 0] _ HH.out (by show n < 10 ^ 3; omega) (by omega) (by decide)).mono ?_; rintro e w2 ⟨rfl, k, v', dk, rfl, hF⟩; have HF := Lib.hid hF; clear hF; refine Hid.out ?_))
  have hsz : dk.size = 3 := HF.out.size
  have hdk : dk.toList = numD 10 n := by
    rw [HD.out]
    have d0 := HF.out.done 0 (Nat.zero_le _) (by decide)
    have d1 := HF.out.done 1 (Nat.zero_le _) (by decide)
    have d2 := HF.out.done 2 (Nat.zero_le _) (by decide)
    obtain ⟨l⟩ := dk
    match l, hsz with
    | [a, b, c], _ => simp_all
  have hr : RowAt ((putRow (fun (b : UInt8) => Value.int .u8 (b.toNat : Int)) w1 w.heap.size 0 dk).drewN k) w.heap.size 0 dk.toList := fun i hi => by
    have := cell?_putRow (fun (b : UInt8) => Value.int .u8 (b.toNat : Int)) w1 w.heap.size 0 #[0, 0, 0] dk HH.out hsz i (by simpa using hi)
    rw [World.cell?_drewN, this, getElem!_pos dk i (by simpa using hi)]; rfl
  have hbl : Below w.heap.size w ((putRow (fun (b : UInt8) => Value.int .u8 (b.toNat : Int)) w1 w.heap.size 0 dk).drewN k) := bdrewN (below_put Hb.out (Nat.le_refl _)) k
  generalize (putRow (fun (b : UInt8) => Value.int .u8 (b.toNat : Int)) w1 w.heap.size 0 dk).drewN k = W2 at hr hbl ⊢
  rw [hdk] at hr
  have hcv := run_string_row (P := Tryd.prog) 48 9 5 Tryd.underlying48 Tryd.underlying5 Tryd.underlying9 hr 3 24 (by rw [HD.out]; simp)
  rw [List.take_of_length_le (by rw [HD.out]; simp)] at hcv
  have Hbl := Lib.hid hbl
  clear hr hdk hsz hbl
  refine Lib.hid ?_
  go_wp2
  go_ret
  exact ⟨rfl, Hbl.out⟩
theorem fmt10_any (n : Nat) (hn : n ≤ 255) (w : World) (h : Env w) : Calls Tryd.prog 67 #[.int .u64 n, .int .i64 10] w fun e w' => e = .returned (.string (Str (numD 10 n))) ∧ Below w.heap.size w w' := by
  have HC : Hid (∀ w, Env w → Calls Tryd.prog 77 #[.int .u64 n, .int .i64 10] w fun e w' => e = .returned (.string (Str (numD 10 n))) ∧ Below w.heap.size w w') := by
    by_cases h1 : n < 100
    · exact Lib.hid fun w _ => fmt10_small n h1 w
    · exact Lib.hid fun w h => fmt10_big n (by omega) hn w h
  have HE := Lib.hid h; clear h
  go_enter Tryd.func67, Tryd.ntmps67
  go_wp2_with (go_at_call 77; refine (HC.out _ HE.out).mono ?_; rintro e w1 ⟨rfl, hb1⟩; have Hb1 := Lib.hid hb1; clear hb1)
  go_ret
  exact ⟨rfl, Hb1.out⟩
end Go.Proofs.YtalnfjnfcloonaaDoor
