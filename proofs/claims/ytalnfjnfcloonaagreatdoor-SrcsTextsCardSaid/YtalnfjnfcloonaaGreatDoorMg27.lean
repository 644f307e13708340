/-
  Texts joined: Fmt, Fmtb.
-/
import Derived.Test.YtalnfjnfcloonaaGreatDoorMg25
import Derived.Test.YtalnfjnfcloonaaGreatDoorMg26
import Derived.Test.YtalnfjnfcloonaaGreatDoorObj
import Derived.Test.YtalnfjnfcloonaaGreatDoorMg06
import Derived.Test.YtalnfjnfcloonaaGreatDoorShelf
import Derived.Laws.Cover3
import Derived.Deep.Cut
import Derived.Lib.Hide
import Derived.Test.YtalnfjnfcloonaaGreatDoorMg14
import Derived.Lib.OwnBridge
/-
  The contract of strconv.FormatUint at base 16 and base 10, for small numbers.
-/
namespace Go.Proofs.YtalnfjnfcloonaaGreatDoor
open Go.RowKit
set_option linter.unusedVariables false

theorem tz16_any (w : World) (h : Env w) : Calls Tryz.prog 115 #[.int .u64 16] w fun e w' => e = .returned (.int .i64 4) ∧ w' = w := by
  have c : w.cell? ⟨7, 15, none⟩ = some (.int .u8 4) := h.db 15 (by decide)
  have hb1 : IntKind.u64.wrap (bits BinOp.and IntKind.u64 16 (IntKind.u64.wrap (-16)) * 285870213051353865) / 288230376151711744 = 15 := by decide +kernel
  go_enter Tryz.func115, Tryz.ntmps115
  go_wp2
  go_ret
  exact ⟨rfl, rfl⟩
theorem and15u (u : Nat) (hu : u < 18446744073709551616) : bits .and .u64 (u : Int) 15 = ((u % 16 : Nat) : Int) := by
  have := bits_and_u64_nat u 15 hu (by omega)
  rw [show ((15 : Nat) : Int) = 15 from rfl] at this
  rw [this, show (15 : Nat) = 2 ^ 4 - 1 from rfl, Nat.and_two_pow_sub_one_eq_mod]
theorem B8_setI (L : List UInt8) (j : Nat) (c : UInt8) : (B8 L).toArray.setIfInBounds j (.int .u8 (c.toNat : Int)) = (B8 (L.set j c)).toArray := by
  rw [List.setIfInBounds_toArray, B8_set]
/-- Where the digits stand that are made already. -/
def FmtSt (w wr : World) (b n u j : Nat) (ds : List UInt8) : Prop := ObjAt wr w.heap.size (B8 (List.replicate j 0 ++ ds)).toArray 144 ∧ Below w.heap.size w wr ∧ ds.length = 65 - j ∧ numD b n = numD b u ++ ds ∧ u * b ^ (65 - j) ≤ n
theorem FmtSt.cell {w wr : World} {b n u m : Nat} {ds : List UInt8} (h : FmtSt w wr b n u (m + 1) ds) : wr.cell? ⟨w.heap.size, m, none⟩ = some (.int .u8 0) := by
  rw [h.1.cell m, List.getElem?_toArray, B8_get, List.getElem?_append_left (by simp), List.getElem?_replicate_of_lt (by omega)]; rfl
theorem FmtSt.free {w wr : World} {b n u m : Nat} {ds : List UInt8} (h : FmtSt w wr b n u m ds) (i : Nat) : wr.frozen? ⟨w.heap.size, i, none⟩ = false := h.1.free i
theorem FmtSt.put {w wr : World} {b n u m : Nat} {ds : List UInt8} (h : FmtSt w wr b n u (m + 1) ds) (c : UInt8) : ObjAt (wr.setCell ⟨w.heap.size, m, none⟩ (.int .u8 (c.toNat : Int))) w.heap.size (B8 (List.replicate m 0 ++ c :: ds)).toArray 144 := by
  have := h.1.set m (.int .u8 (c.toNat : Int))
  rw [B8_setI, set_row] at this
  exact this
theorem FmtSt.step {w wr : World} {b n u m : Nat} {ds : List UInt8} (h : FmtSt w wr b n u (m + 1) ds) (hb : 2 ≤ b) (hm : m < 65) (hu : b ≤ u) (hu5 : u < b ^ 5) : FmtSt w (wr.setCell ⟨w.heap.size, m, none⟩ (.int .u8 ((digL (u % b)).toNat : Int))) b n (u / b) m (digL (u % b) :: ds) := by
  obtain ⟨h1, h2, h3, h4, h5⟩ := h
  refine ⟨FmtSt.put ⟨h1, h2, h3, h4, h5⟩ _, h2.setCell (p := ⟨w.heap.size, m, none⟩) (Nat.le_refl _) _, by simp [h3]; omega, ?_, ?_⟩
  · rw [h4, numD_step b u hb hu hu5, List.append_assoc]; rfl
  · rw [show 65 - m = (65 - (m + 1)) + 1 by omega, Nat.pow_succ, Nat.mul_comm (b ^ _) b, ← Nat.mul_assoc]
    exact Nat.le_trans (Nat.mul_le_mul_right _ (Nat.div_mul_le_self u b)) h5
theorem row_of_obj {w : World} {b o : Nat} {A M : List UInt8} {t : TypeId} (h : ObjAt w b (B8 (A ++ M)).toArray t) (ho : A.length = o) : RowAt w b o M := fun i hi => by
  subst ho
  rw [h.cell, List.getElem?_toArray, B8_get, List.getElem?_append_right (by omega), Nat.add_sub_cancel_left, List.getElem?_eq_getElem hi]; rfl
theorem ipow16 (w : World) : Calls Tryz.prog 114 #[.int .i64 16] w fun e w' => e = .returned (.bool true) ∧ w' = w := by
  have hb1 : bits BinOp.and IntKind.i64 16 15 = 0 := by decide +kernel
  go_enter Tryz.func114, Tryz.ntmps114
  go_wp2
  go_ret
  exact ⟨rfl, rfl⟩
set_option maxRecDepth 100000 in
set_option maxHeartbeats 1000000 in
theorem fbits16 (n : Nat) (hn : n ≤ 65535) (w : World) (h : Env w) : Calls Tryz.prog 90 #[.slice none 0 0, .int .u64 n, .int .i64 16, .bool false, .bool false] w
    fun e w' => e = .returned (.tuple #[.slice none 0 0, .string (Str (numD 16 n))]) ∧ Below w.heap.size w w' := by
  have HE := Lib.hid h; clear h
  go_enter Tryz.func90, Tryz.ntmps90
  go_upto_region 4 with (fail)
  have hz : Tryz.zeroCells144 = (B8 (List.replicate 65 0)).toArray := by kernel_rfl
  have ho := ObjAt.made w (B8 (List.replicate 65 0)).toArray 144
  rw [hz]
  clear hz
  have hb : Below w.heap.size w (w.alloc (.cells (B8 (List.replicate 65 0)).toArray 144)) := (Below.refl _ _).alloc (Nat.le_refl _) _
  generalize w.alloc (.cells (B8 (List.replicate 65 0)).toArray 144) = W at ho hb ⊢
  have HS : Hid (FmtSt w W 16 n n 65 []) := Lib.hid ⟨by simpa using ho, hb, rfl, by simp, by simp⟩
  have HE1 := Lib.hid (HE.out.below hb)
  clear ho hb
  go_wp2_with (first
    | (go_at_call 114; refine (ipow16 _).mono ?_; rintro e w1 ⟨rfl, rfl⟩)
    | (go_at_call 115; refine (tz16_any _ HE1.out).mono ?_; rintro e w1 ⟨rfl, rfl⟩))
  go_loopw [1, 13] (fun vu vi wr => ∃ (j u : Nat) (ds : List UInt8), vu = .int .u64 u ∧ vi = .int .i64 (j : Int) ∧ 61 ≤ j ∧ j ≤ 65 ∧ u ≤ 65535 ∧ Hid (FmtSt w wr 16 n u j ds)) (fun vu _ _ => (intOf vu).toNat)
  case atStart => exact ⟨65, n, [], rfl, rfl, by omega, by omega, by omega, HS⟩
  case round _ _ wr =>
    obtain ⟨j, u, ds, rfl, rfl, hj1, hj2, hu, hs⟩ := hrel
    have hj : 62 ≤ j ∨ u < 16 := by
      by_cases h : 62 ≤ j
      · exact .inl h
      · right
        have h5 := hs.out.2.2.2.2
        rw [show 65 - j = 4 by omega] at h5
        omega
    obtain ⟨m, rfl⟩ : ∃ m, j = m + 1 := ⟨j - 1, by omega⟩
    have ha := and15u u (by omega)
    have c := hs.out.cell
    have f := hs.out.free m
    by_cases hge : 16 ≤ u
    · have Hdg := Lib.hid (digit36' ((u % 16 : Nat) : Int) (u % 16) rfl (by omega))
      have HN := Lib.hid (hs.out.step (by omega) (by omega) hge (by omega))
      go_wp2_with fail
      refine ⟨⟨m, u / 16, digL (u % 16) :: ds, by simp, rfl, by omega, by omega, by omega, ?_⟩, by simp [intOf]; omega⟩
      rw [digit36 ⟨u % 16, Nat.mod_lt _ (by omega)⟩]
      exact HN
    · have hu16 : u < 16 := by omega
      have hp := hs.out.put ((⟨#[48, 49, 50, 51, 52, 53, 54, 55, 56, 57, 97, 98, 99, 100, 101, 102, 103, 104, 105, 106, 107, 108, 109, 110, 111, 112, 113, 114, 115, 116, 117, 118, 119, 120, 121, 122]⟩ : ByteArray)[u]'(Nat.lt_trans hu16 (by decide)))
      have hr := row_of_obj hp (o := m) (by simp)
      have hcv := run_string_row (P := Tryz.prog) 45 9 5 Tryz.underlying45 Tryz.underlying5 Tryz.underlying9 hr (65 - m) (65 - m) (by have := hs.out.2.2.1; simp; omega)
      rw [List.take_of_length_le (by have := hs.out.2.2.1; simp; omega)] at hcv
      have Hp := Lib.hid hp
      clear hp hr
      have hm1 : (m : Int) ≤ 65 := by omega
      have hm2 : ¬ 65 = m := by omega
      go_wp2_with fail
      go_ret2
      refine ⟨?_, hs.out.2.1.setCell (p := ⟨w.heap.size, m, none⟩) (Nat.le_refl _) _⟩
      have hd := hs.out.2.2.2.1
      rw [numD_small 16 u hu16] at hd
      rw [hd, digit36 ⟨u, hu16⟩]
      rfl
theorem fmt16_in (n : Nat) (hn : n ≤ 65535) (w : World) (h : Env w) : Calls Tryz.prog 72 #[.int .u64 n, .int .i64 16] w fun e w' => e = .returned (.string (Str (numD 16 n))) ∧ Below w.heap.size w w' := by
  have HE := Lib.hid h; clear h
  go_enter Tryz.func72, Tryz.ntmps72
  go_wp2_with (go_at_call 90; refine (fbits16 n hn _ HE.out).mono ?_; rintro e w1 ⟨rfl, hb1⟩; have Hb1 := Lib.hid hb1; clear hb1)
  go_ret
  exact ⟨rfl, Hb1.out⟩
theorem fmt16_any (n : Nat) (hn : n ≤ 65535) (w : World) (h : Env w) : Calls Tryz.prog 54 #[.int .u64 n, .int .i64 16] w fun e w' => e = .returned (.string (Str (numD 16 n))) ∧ Below w.heap.size w w' := by
  have HE := Lib.hid h; clear h
  go_enter Tryz.func54, Tryz.ntmps54
  go_wp2_with (go_at_call 72; refine (fmt16_in n hn _ HE.out).mono ?_; rintro e w1 ⟨rfl, hb1⟩; have Hb1 := Lib.hid hb1; clear hb1)
  go_ret
  exact ⟨rfl, Hb1.out⟩
end Go.Proofs.YtalnfjnfcloonaaGreatDoor

/-
  The contract of strconv.FormatUint at base 10, for numbers up to 255.
-/
namespace Go.Proofs.YtalnfjnfcloonaaGreatDoor
open Go.RowKit Go.Sort
set_option linter.unusedVariables false

theorem digL_dec (n : Nat) (h : n < 10) : digL n = UInt8.ofNat (48 + n) := by simp [digL, h]
theorem dec_small (n : Nat) (h : n < 100) : Lib.decDigits n = numD 10 n := by
  by_cases h1 : n < 10
  · rw [Lib.decDigits_one h1, numD_small 10 n h1, digL_dec n h1]
  · rw [Lib.decDigits_two h1 h, numD_step 10 n (by omega) (by omega) (by omega), numD_small 10 (n / 10) (by omega), digL_dec _ (by omega), digL_dec _ (by omega)]; rfl
theorem numD_three (n : Nat) (h1 : 100 ≤ n) (h : n ≤ 255) : numD 10 n = [Lib.dg n 2, Lib.dg n 1, Lib.dg n 0] := by
  rw [numD_step 10 n (by omega) (by omega) (by omega), numD_step 10 (n / 10) (by omega) (by omega) (by omega), numD_small 10 (n / 10 / 10) (by omega), digL_dec _ (by omega), digL_dec _ (by omega), digL_dec _ (by omega)]
  have e2 : n / 10 ^ 2 % 10 = n / 10 / 10 := by omega
  have e1 : n / 10 ^ 1 % 10 = n / 10 % 10 := by omega
  simp [Lib.dg, e2]
theorem below_put {enc : UInt8 → Value} {B : Nat} {w0 w : World} {g : Nat} {d : Array UInt8} (h : Below B w0 w) (hg : B ≤ g) : Below B w0 (putRow enc w g 0 d) :=
  ⟨h.os, h.tape, h.output, by simpa [putRow, mapBlock] using h.size, fun k hk => by
    rw [← h.block k hk]
    simp [putRow, mapBlock, Array.getElem?_modify, show g ≠ k by omega]⟩
theorem fmt10_small (n : Nat) (hn : n < 100) (w : World) : Calls Tryz.prog 72 #[.int .u64 n, .int .i64 10] w fun e w' => e = .returned (.string (Str (numD 10 n))) ∧ Below w.heap.size w w' := by
  have hw : IntKind.i64.wrap (n : Int) = n := by simp only [IntKind.wrap_i64]; omega
  have Hd := Lib.hid (dec_small n hn)
  go_enter Tryz.func72, Tryz.ntmps72
  go_wp2_with (go_at_call 87; refine (Tryz.internal_strconv_small n hn _).mono ?_; rintro e w1 ⟨rfl, rfl⟩)
  go_ret
  exact ⟨by rw [Hd.out]; rfl, Below.refl _ _⟩
set_option maxRecDepth 100000 in
set_option maxHeartbeats 1000000 in
theorem fmt10_big (n : Nat) (h1 : 100 ≤ n) (hn : n ≤ 255) (w : World) (h : Env w) : Calls Tryz.prog 72 #[.int .u64 n, .int .i64 10] w fun e w' => e = .returned (.string (Str (numD 10 n))) ∧ Below w.heap.size w w' := by
  have HE := Lib.hid h; clear h
  have hnd : Lib.nDigits n = 3 := Lib.nDigits_unique 2 n (by omega) (by omega)
  have Hnd := Lib.hid hnd; clear hnd
  have HD := Lib.hid (numD_three n h1 hn)
  go_enter Tryz.func72, Tryz.ntmps72
  go_upto_region 5 with (fail)
  have hz : (#[.int .u8 0, .int .u8 0, .int .u8 0, .int .u8 0, .int .u8 0, .int .u8 0, .int .u8 0, .int .u8 0, .int .u8 0, .int .u8 0, .int .u8 0, .int .u8 0, .int .u8 0, .int .u8 0, .int .u8 0, .int .u8 0, .int .u8 0, .int .u8 0, .int .u8 0, .int .u8 0, .int .u8 0, .int .u8 0, .int .u8 0, .int .u8 0] : Array Value) = (B8 (List.replicate 24 0)).toArray := rfl
  have ho := ObjAt.made w (B8 (List.replicate 24 0)).toArray 121
  rw [hz]
  clear hz
  have hb : Below w.heap.size w (w.alloc (.cells (B8 (List.replicate 24 0)).toArray 121)) := (Below.refl _ _).alloc (Nat.le_refl _) _
  generalize w.alloc (.cells (B8 (List.replicate 24 0)).toArray 121) = W at ho hb ⊢
  have hH : Holds (fun (b : UInt8) => Value.int .u8 (b.toNat : Int)) W w.heap.size 0 #[0, 0, 0] := fun j hj => by
    have hj3 : j < 3 := hj
    refine ⟨?_, ho.free (0 + j)⟩
    rw [ho.cell (0 + j), List.getElem?_toArray, B8_get, List.getElem?_replicate_of_lt (by omega)]
    rcases j with _ | _ | _ | j
    · rfl
    · rfl
    · rfl
    · omega
  have HE1 := Lib.hid (HE.out.below hb)
  have Hb := Lib.hid hb
  have HH := Lib.hid hH
  have Ho := Lib.hid ho
  clear hb ho hH
  go_wp2_with (first
    | (go_at_call 88; refine (Tryz.internal_strconv_numDigits n (by omega) (by omega) _ HE1.out.tab).mono ?_; rintro e w1 ⟨rfl, rfl⟩; rw [Hnd.out])
    | (go_at_call 89; refine (Tryz.internal_strconv_formatBase10 w.heap.size 0 24 n #[0, 0, 0] _ HH.out (by show n < 10 ^ 3; omega) (by omega) (by decide)).mono ?_; rintro e w2 ⟨rfl, k, v', dk, rfl, hF⟩; have HF := Lib.hid hF; clear hF; refine Hid.out ?_))
  have hsz : dk.size = 3 := HF.out.size
  have hdk : dk.toList = numD 10 n := by
    rw [HD.out]
    have d0 := HF.out.done 0 (Nat.zero_le _) (by decide)
    have d1 := HF.out.done 1 (Nat.zero_le _) (by decide)
    have d2 := HF.out.done 2 (Nat.zero_le _) (by decide)
    obtain ⟨l⟩ := dk
    match l, hsz with
    | [a, b, c], _ => simp_all
  have hr : RowAt ((putRow (fun (b : UInt8) => Value.int .u8 (b.toNat : Int)) w1 w.heap.size 0 dk).drewN k) w.heap.size 0 dk.toList := fun i hi => by
    have := cell?_putRow (fun (b : UInt8) => Value.int .u8 (b.toNat : Int)) w1 w.heap.size 0 #[0, 0, 0] dk HH.out hsz i (by simpa using hi)
    rw [World.cell?_drewN, this, getElem!_pos dk i (by simpa using hi)]; rfl
  have hbl : Below w.heap.size w ((putRow (fun (b : UInt8) => Value.int .u8 (b.toNat : Int)) w1 w.heap.size 0 dk).drewN k) := bdrewN (below_put Hb.out (Nat.le_refl _)) k
  generalize (putRow (fun (b : UInt8) => Value.int .u8 (b.toNat : Int)) w1 w.heap.size 0 dk).drewN k = W2 at hr hbl ⊢
  rw [hdk] at hr
  have hcv := run_string_row (P := Tryz.prog) 45 9 5 Tryz.underlying45 Tryz.underlying5 Tryz.underlying9 hr 3 24 (by rw [HD.out]; simp)
  rw [List.take_of_length_le (by rw [HD.out]; simp)] at hcv
  have Hbl := Lib.hid hbl
  clear hr hdk hsz hbl
  refine Lib.hid ?_
  go_wp2
  go_ret
  exact ⟨rfl, Hbl.out⟩
theorem fmt10_any (n : Nat) (hn : n ≤ 255) (w : World) (h : Env w) : Calls Tryz.prog 54 #[.int .u64 n, .int .i64 10] w fun e w' => e = .returned (.string (Str (numD 10 n))) ∧ Below w.heap.size w w' := by
  have HC : Hid (∀ w, Env w → Calls Tryz.prog 72 #[.int .u64 n, .int .i64 10] w fun e w' => e = .returned (.string (Str (numD 10 n))) ∧ Below w.heap.size w w') := by
    by_cases h1 : n < 100
    · exact Lib.hid fun w _ => fmt10_small n h1 w
    · exact Lib.hid fun w h => fmt10_big n (by omega) hn w h
  have HE := Lib.hid h; clear h
  go_enter Tryz.func54, Tryz.ntmps54
  go_wp2_with (go_at_call 72; refine (HC.out _ HE.out).mono ?_; rintro e w1 ⟨rfl, hb1⟩; have Hb1 := Lib.hid hb1; clear hb1)
  go_ret
  exact ⟨rfl, Hb1.out⟩
end Go.Proofs.YtalnfjnfcloonaaGreatDoor

