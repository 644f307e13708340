/-
  The contract of addr.Parse.
-/
import Derived.Test.YtalnfjnfcloonaaGreatDoorMg31
import Derived.Test.YtalnfjnfcloonaaGreatDoorMg34
namespace Go.Proofs.YtalnfjnfcloonaaGreatDoor
open Go.RowKit
set_option linter.unusedVariables false
attribute [local go_sem ↓] bld_addr ld_addr st_addr
attribute [local go_sem] ldr_addr str_addr

/-- Which address a text tells. -/
def parseV (s : List UInt8) : Option (Bool × List UInt8) :=
  if 39 < s.length then none
  else if (roughV s).length = 4 ∨ (roughV s).length = 16 then
    (if prtV (decide ((roughV s).length = 16)) (readV (roughV s)) = s then some (decide ((roughV s).length = 16), readV (roughV s)) else none)
  else none
def zero16 : List UInt8 := List.replicate 16 0
def ParseEnd (w : World) (o : Option (Bool × List UInt8)) (e : Ending) (w' : World) : Prop :=
  (match o with
    | some (v, l) => e = .returned (.tuple #[.agg (addrC v l).toArray, .int .i64 0])
    | none => e = .returned (.tuple #[.agg (addrC false zero16).toArray, .int .i64 2])) ∧ Below w.heap.size w w'
/-- The result's own block. -/
def ResAt (w W : World) : Prop := ObjAt W w.heap.size #[.bool false, .int .u8 0, .int .u8 0, .int .u8 0, .int .u8 0, .int .u8 0, .int .u8 0, .int .u8 0, .int .u8 0, .int .u8 0, .int .u8 0, .int .u8 0, .int .u8 0, .int .u8 0, .int .u8 0, .int .u8 0, .int .u8 0] 36 ∧ Below w.heap.size w W ∧ w.heap.size < W.heap.size
theorem ResAt.made (w : World) : ResAt w (w.alloc (.cells #[.bool false, .int .u8 0, .int .u8 0, .int .u8 0, .int .u8 0, .int .u8 0, .int .u8 0, .int .u8 0, .int .u8 0, .int .u8 0, .int .u8 0, .int .u8 0, .int .u8 0, .int .u8 0, .int .u8 0, .int .u8 0, .int .u8 0] 36)) := ⟨ObjAt.made w _ _, (Below.refl _ _).alloc (Nat.le_refl _) _, by simp⟩
theorem ResAt.below {w W W' : World} (h : ResAt w W) (hb : Below W.heap.size W W') : ResAt w W' := ⟨h.1.below hb h.2.2, bstep h.2.1 hb, Nat.lt_of_lt_of_le h.2.2 hb.size⟩
theorem ResAt.free {w W : World} (h : ResAt w W) : free? W w.heap.size 0 17 = true := obj_free h.1 (by simp)
set_option maxRecDepth 100000 in
set_option maxHeartbeats 1000000 in
theorem parse_long (s : List UInt8) (h1 : s.length ≤ 1000000) (h39 : 39 < (s.length : Int)) (w : World) :
    Calls Tryz.prog 14 #[.string (Str s)] w (ParseEnd w none) := by
  have hsz := Str_size s
  have hok : fok #[.bool false, .int .u8 0, .int .u8 0, .int .u8 0, .int .u8 0, .int .u8 0, .int .u8 0, .int .u8 0, .int .u8 0, .int .u8 0, .int .u8 0, .int .u8 0, .int .u8 0, .int .u8 0, .int .u8 0, .int .u8 0, .int .u8 0] 17 = true := by simp [fok, Value.oneCell']
  have hbld : ∀ w0, (aggBuild 36 #[]).run Tryz.prog w0 = .ok (.agg #[.bool false, .int .u8 0, .int .u8 0, .int .u8 0, .int .u8 0, .int .u8 0, .int .u8 0, .int .u8 0, .int .u8 0, .int .u8 0, .int .u8 0, .int .u8 0, .int .u8 0, .int .u8 0, .int .u8 0, .int .u8 0, .int .u8 0]) w0 := bld_run _ _ _ (by kernel_rfl)
  have HW := Lib.hid (ResAt.made w)
  go_enter Tryz.func14, Tryz.ntmps14
  go_upto_region 1 with (fail)
  generalize w.alloc (.cells #[.bool false, .int .u8 0, .int .u8 0, .int .u8 0, .int .u8 0, .int .u8 0, .int .u8 0, .int .u8 0, .int .u8 0, .int .u8 0, .int .u8 0, .int .u8 0, .int .u8 0, .int .u8 0, .int .u8 0, .int .u8 0, .int .u8 0] 36) = W at HW ⊢
  have hf := HW.out.free
  go_wp2
  have hr := aggW_row (cs := addrC false zero16) hf rfl
  exact bodyPost_ret (results_cell2 Tryz.results14 rfl (ld_some hr (ldr_addr _ _ _))) rfl ⟨rfl, aggW_below HW.out.2.1 (Nat.le_refl _) _⟩
set_option maxRecDepth 100000 in
set_option maxHeartbeats 1000000 in
theorem parse_len (s : List UInt8) (h39 : (s.length : Int) ≤ 39) (h4 : decide (((roughV s).length : Int) = 4) = false) (h16 : decide (((roughV s).length : Int) = 16) = false) (w : World) (h : Env w) :
    Calls Tryz.prog 14 #[.string (Str s)] w (ParseEnd w none) := by
  have hsz := Str_size s
  have hok : fok #[.bool false, .int .u8 0, .int .u8 0, .int .u8 0, .int .u8 0, .int .u8 0, .int .u8 0, .int .u8 0, .int .u8 0, .int .u8 0, .int .u8 0, .int .u8 0, .int .u8 0, .int .u8 0, .int .u8 0, .int .u8 0, .int .u8 0] 17 = true := by simp [fok, Value.oneCell']
  have hok2 : fok (addrC false zero16).toArray 17 = true := fok_addr false zero16 rfl
  have hbld : ∀ w0, (aggBuild 36 #[]).run Tryz.prog w0 = .ok (.agg #[.bool false, .int .u8 0, .int .u8 0, .int .u8 0, .int .u8 0, .int .u8 0, .int .u8 0, .int .u8 0, .int .u8 0, .int .u8 0, .int .u8 0, .int .u8 0, .int .u8 0, .int .u8 0, .int .u8 0, .int .u8 0, .int .u8 0]) w0 := bld_run _ _ _ (by kernel_rfl)
  have HW := Lib.hid (ResAt.made w)
  have HE := Lib.hid h; clear h
  have HRL := Lib.hid (show (roughV s).length ≤ 1000000 by
    have hs : s.length ≤ 39 := by omega
    obtain ⟨g1, g2⟩ := cut_short s [58, 58]
    have a1 := splH_length 58 (Lib.cut s [58, 58]).1
    have a2 := splH_length 58 (Lib.cut s [58, 58]).2.1
    have a3 : (splD 46 s).length ≤ s.length + 1 := by
      unfold splD
      split
      · simp
      · rw [flatD_length]; have := pcs_count 46 s; omega
    unfold roughV
    split
    · simp only [List.length_append, List.length_replicate]; omega
    · omega)
  have HRO := Lib.hid (fun w h => rough_any s (by omega) w h)
  generalize roughV s = r at h4 h16 HRL HRO
  have HRD : Hid (∀ w, Calls Tryz.prog 27 #[.string (Str r)] w fun e w' => e = .returned (.tuple #[.agg (addrC false zero16).toArray, .int .i64 2]) ∧ Below w.heap.size w w') := Lib.hid (fun w => read_bad r HRL.out h4 h16 w)
  clear h4 h16
  go_enter Tryz.func14, Tryz.ntmps14
  go_upto_region 1 with (fail)
  generalize w.alloc (.cells #[.bool false, .int .u8 0, .int .u8 0, .int .u8 0, .int .u8 0, .int .u8 0, .int .u8 0, .int .u8 0, .int .u8 0, .int .u8 0, .int .u8 0, .int .u8 0, .int .u8 0, .int .u8 0, .int .u8 0, .int .u8 0, .int .u8 0] 36) = W at HW ⊢
  go_wp2_with (first
    | (go_at_call 28; refine (HRO.out _ (HE.out.below HW.out.2.1)).mono ?_; rintro e w1 ⟨rfl, hb1⟩; have HW1 := Lib.hid (HW.out.below hb1); clear hb1)
    | (go_at_call 27; refine (HRD.out _).mono ?_; rintro e w2 ⟨rfl, hb2⟩; have HW2 := Lib.hid (HW1.out.below hb2); have hf2 := free_made w2 #[.bool false, .int .u8 0, .int .u8 0, .int .u8 0, .int .u8 0, .int .u8 0, .int .u8 0, .int .u8 0, .int .u8 0, .int .u8 0, .int .u8 0, .int .u8 0, .int .u8 0, .int .u8 0, .int .u8 0, .int .u8 0, .int .u8 0] 36 17 (by simp); have HA := Lib.hid ((HW2.out.below ((Below.refl _ _).alloc (Nat.le_refl _) (.cells #[.bool false, .int .u8 0, .int .u8 0, .int .u8 0, .int .u8 0, .int .u8 0, .int .u8 0, .int .u8 0, .int .u8 0, .int .u8 0, .int .u8 0, .int .u8 0, .int .u8 0, .int .u8 0, .int .u8 0, .int .u8 0, .int .u8 0] 36))).1); have HA2 := Lib.hid (Below.alloc HW2.out.2.1 HW2.out.2.1.size (.cells #[.bool false, .int .u8 0, .int .u8 0, .int .u8 0, .int .u8 0, .int .u8 0, .int .u8 0, .int .u8 0, .int .u8 0, .int .u8 0, .int .u8 0, .int .u8 0, .int .u8 0, .int .u8 0, .int .u8 0, .int .u8 0, .int .u8 0] 36)); have hf3 := obj_free (n := 17) (aggW_other HA.out (addrC false zero16) (b := w2.heap.size) (by have := HW2.out.2.2; omega)) (by simp); clear hb2))
  have hr := aggW_row (cs := addrC false zero16) hf3 rfl
  exact bodyPost_ret (results_cell2 Tryz.results14 rfl (ld_some hr (ldr_addr _ _ _))) rfl ⟨rfl, aggW_below (aggW_below HA2.out HW2.out.2.1.size _) (Nat.le_refl _) _⟩
theorem str_beq (a b : List UInt8) : ((Str a).toList == (Str b).toList) = decide (a = b) := by
  rw [ByteArray.toList_eq, ByteArray.toList_eq, Str_data, Str_data]
  rw [Bool.eq_iff_iff, beq_iff_eq, decide_eq_true_eq]
set_option maxRecDepth 100000 in
set_option maxHeartbeats 1000000 in
theorem parse_good (s r l : List UInt8) (v : Bool) (h39 : (s.length : Int) ≤ 39) (hl : l.length = 16) (HRO : Hid (∀ w, Env w → Calls Tryz.prog 28 #[.string (Str s)] w fun e w' => e = .returned (.string (Str r)) ∧ Below w.heap.size w w'))
    (HRD : Hid (∀ w, Calls Tryz.prog 27 #[.string (Str r)] w fun e w' => e = .returned (.tuple #[.agg (addrC v l).toArray, .int .i64 0]) ∧ Below w.heap.size w w')) (hq : Hid (prtV v l = s)) (w : World) (h : Env w) :
    Calls Tryz.prog 14 #[.string (Str s)] w (ParseEnd w (some (v, l))) := by
  have hsz := Str_size s
  have hok : fok #[.bool false, .int .u8 0, .int .u8 0, .int .u8 0, .int .u8 0, .int .u8 0, .int .u8 0, .int .u8 0, .int .u8 0, .int .u8 0, .int .u8 0, .int .u8 0, .int .u8 0, .int .u8 0, .int .u8 0, .int .u8 0, .int .u8 0] 17 = true := by simp [fok, Value.oneCell']
  have hok2 : fok (addrC v l).toArray 17 = true := fok_addr v l hl
  have hbld : ∀ w0, (aggBuild 36 #[]).run Tryz.prog w0 = .ok (.agg #[.bool false, .int .u8 0, .int .u8 0, .int .u8 0, .int .u8 0, .int .u8 0, .int .u8 0, .int .u8 0, .int .u8 0, .int .u8 0, .int .u8 0, .int .u8 0, .int .u8 0, .int .u8 0, .int .u8 0, .int .u8 0, .int .u8 0]) w0 := bld_run _ _ _ (by kernel_rfl)
  have HPR := Lib.hid (fun w h => print_any v l hl w h)
  have hbe : ((Str (prtV v l)).toList == (Str s).toList) = true := by rw [str_beq]; simpa using hq.out
  generalize prtV v l = p at hbe HPR
  clear hq
  have HL := Lib.hid (addrC_length v l)
  have H1 := Lib.hid (addrC_one v l)
  have HL2 := Lib.hid hl
  have HW := Lib.hid (ResAt.made w)
  have HE := Lib.hid h; clear h hl
  go_enter Tryz.func14, Tryz.ntmps14
  go_upto_region 1 with (fail)
  generalize w.alloc (.cells #[.bool false, .int .u8 0, .int .u8 0, .int .u8 0, .int .u8 0, .int .u8 0, .int .u8 0, .int .u8 0, .int .u8 0, .int .u8 0, .int .u8 0, .int .u8 0, .int .u8 0, .int .u8 0, .int .u8 0, .int .u8 0, .int .u8 0] 36) = W at HW ⊢
  go_wp2_with (first
    | (go_at_call 28; refine (HRO.out _ (HE.out.below HW.out.2.1)).mono ?_; rintro e w1 ⟨rfl, hb1⟩; have HW1 := Lib.hid (HW.out.below hb1); clear hb1)
    | (go_at_call 27; refine (HRD.out _).mono ?_; rintro e w2 ⟨rfl, hb2⟩; have HW2 := Lib.hid (HW1.out.below hb2); have hf2 := free_made w2 #[.bool false, .int .u8 0, .int .u8 0, .int .u8 0, .int .u8 0, .int .u8 0, .int .u8 0, .int .u8 0, .int .u8 0, .int .u8 0, .int .u8 0, .int .u8 0, .int .u8 0, .int .u8 0, .int .u8 0, .int .u8 0, .int .u8 0] 36 17 (by simp); have HA := Lib.hid (aggW_other (HW2.out.below ((Below.refl _ _).alloc (Nat.le_refl _) (.cells #[.bool false, .int .u8 0, .int .u8 0, .int .u8 0, .int .u8 0, .int .u8 0, .int .u8 0, .int .u8 0, .int .u8 0, .int .u8 0, .int .u8 0, .int .u8 0, .int .u8 0, .int .u8 0, .int .u8 0, .int .u8 0, .int .u8 0] 36))).1 (addrC v l) (b := w2.heap.size) (by have := HW2.out.2.2; omega)); have HB2 := Lib.hid (aggW_below (Below.alloc HW2.out.2.1 HW2.out.2.1.size (.cells #[.bool false, .int .u8 0, .int .u8 0, .int .u8 0, .int .u8 0, .int .u8 0, .int .u8 0, .int .u8 0, .int .u8 0, .int .u8 0, .int .u8 0, .int .u8 0, .int .u8 0, .int .u8 0, .int .u8 0, .int .u8 0, .int .u8 0] 36)) HW2.out.2.1.size (addrC v l)); have HO := Lib.hid (aggW_obj (cs := addrC v l) (ObjAt.made w2 #[.bool false, .int .u8 0, .int .u8 0, .int .u8 0, .int .u8 0, .int .u8 0, .int .u8 0, .int .u8 0, .int .u8 0, .int .u8 0, .int .u8 0, .int .u8 0, .int .u8 0, .int .u8 0, .int .u8 0, .int .u8 0, .int .u8 0] 36) (by rw [HL.out, HL2.out]; rfl) H1.out); have hrw := obj_row (A := []) (M := addrC v l) (C := []) (o := 0) (n := 17) (by simpa using HO.out) rfl (by rw [HL.out, HL2.out]); clear hb2)
    | (go_at_call 18; refine (HPR.out _ (HE.out.below HB2.out)).mono ?_; rintro e w3 ⟨rfl, hb3⟩; have HW3 := Lib.hid (show ResAt w w3 from ⟨HA.out.below hb3 HA.out.lt, bstep HB2.out hb3, Nat.lt_of_lt_of_le HA.out.lt hb3.size⟩); have hr3 := row?_below hrw HO.out.lt hb3; have hf3 := HW3.out.free; clear hb3 hrw hf2))
  have hr := aggW_row (cs := addrC v l) hf3 (by first | rfl | rw [HL.out, HL2.out])
  exact bodyPost_ret (results_cell2 Tryz.results14 rfl (ld_some hr (ldr_addr _ _ _))) rfl ⟨rfl, aggW_below HW3.out.2.1 (Nat.le_refl _) _⟩
set_option maxRecDepth 100000 in
set_option maxHeartbeats 1000000 in
theorem parse_diff (s r l : List UInt8) (v : Bool) (h39 : (s.length : Int) ≤ 39) (hl : l.length = 16) (HRO : Hid (∀ w, Env w → Calls Tryz.prog 28 #[.string (Str s)] w fun e w' => e = .returned (.string (Str r)) ∧ Below w.heap.size w w'))
    (HRD : Hid (∀ w, Calls Tryz.prog 27 #[.string (Str r)] w fun e w' => e = .returned (.tuple #[.agg (addrC v l).toArray, .int .i64 0]) ∧ Below w.heap.size w w')) (hq : Hid (prtV v l ≠ s)) (w : World) (h : Env w) :
    Calls Tryz.prog 14 #[.string (Str s)] w (ParseEnd w none) := by
  have hsz := Str_size s
  have hok : fok #[.bool false, .int .u8 0, .int .u8 0, .int .u8 0, .int .u8 0, .int .u8 0, .int .u8 0, .int .u8 0, .int .u8 0, .int .u8 0, .int .u8 0, .int .u8 0, .int .u8 0, .int .u8 0, .int .u8 0, .int .u8 0, .int .u8 0] 17 = true := by simp [fok, Value.oneCell']
  have hok2 : fok (addrC v l).toArray 17 = true := fok_addr v l hl
  have hbld : ∀ w0, (aggBuild 36 #[]).run Tryz.prog w0 = .ok (.agg #[.bool false, .int .u8 0, .int .u8 0, .int .u8 0, .int .u8 0, .int .u8 0, .int .u8 0, .int .u8 0, .int .u8 0, .int .u8 0, .int .u8 0, .int .u8 0, .int .u8 0, .int .u8 0, .int .u8 0, .int .u8 0, .int .u8 0]) w0 := bld_run _ _ _ (by kernel_rfl)
  have HPR := Lib.hid (fun w h => print_any v l hl w h)
  have hbe : ((Str (prtV v l)).toList == (Str s).toList) = false := by rw [str_beq]; simpa using hq.out
  generalize prtV v l = p at hbe HPR
  clear hq
  have HL := Lib.hid (addrC_length v l)
  have H1 := Lib.hid (addrC_one v l)
  have HL2 := Lib.hid hl
  have HW := Lib.hid (ResAt.made w)
  have HE := Lib.hid h; clear h hl
  go_enter Tryz.func14, Tryz.ntmps14
  go_upto_region 1 with (fail)
  generalize w.alloc (.cells #[.bool false, .int .u8 0, .int .u8 0, .int .u8 0, .int .u8 0, .int .u8 0, .int .u8 0, .int .u8 0, .int .u8 0, .int .u8 0, .int .u8 0, .int .u8 0, .int .u8 0, .int .u8 0, .int .u8 0, .int .u8 0, .int .u8 0] 36) = W at HW ⊢
  go_wp2_with (first
    | (go_at_call 28; refine (HRO.out _ (HE.out.below HW.out.2.1)).mono ?_; rintro e w1 ⟨rfl, hb1⟩; have HW1 := Lib.hid (HW.out.below hb1); clear hb1)
    | (go_at_call 27; refine (HRD.out _).mono ?_; rintro e w2 ⟨rfl, hb2⟩; have HW2 := Lib.hid (HW1.out.below hb2); have hf2 := free_made w2 #[.bool false, .int .u8 0, .int .u8 0, .int .u8 0, .int .u8 0, .int .u8 0, .int .u8 0, .int .u8 0, .int .u8 0, .int .u8 0, .int .u8 0, .int .u8 0, .int .u8 0, .int .u8 0, .int .u8 0, .int .u8 0, .int .u8 0] 36 17 (by simp); have HA := Lib.hid (aggW_other (HW2.out.below ((Below.refl _ _).alloc (Nat.le_refl _) (.cells #[.bool false, .int .u8 0, .int .u8 0, .int .u8 0, .int .u8 0, .int .u8 0, .int .u8 0, .int .u8 0, .int .u8 0, .int .u8 0, .int .u8 0, .int .u8 0, .int .u8 0, .int .u8 0, .int .u8 0, .int .u8 0, .int .u8 0] 36))).1 (addrC v l) (b := w2.heap.size) (by have := HW2.out.2.2; omega)); have HB2 := Lib.hid (aggW_below (Below.alloc HW2.out.2.1 HW2.out.2.1.size (.cells #[.bool false, .int .u8 0, .int .u8 0, .int .u8 0, .int .u8 0, .int .u8 0, .int .u8 0, .int .u8 0, .int .u8 0, .int .u8 0, .int .u8 0, .int .u8 0, .int .u8 0, .int .u8 0, .int .u8 0, .int .u8 0, .int .u8 0] 36)) HW2.out.2.1.size (addrC v l)); have HO := Lib.hid (aggW_obj (cs := addrC v l) (ObjAt.made w2 #[.bool false, .int .u8 0, .int .u8 0, .int .u8 0, .int .u8 0, .int .u8 0, .int .u8 0, .int .u8 0, .int .u8 0, .int .u8 0, .int .u8 0, .int .u8 0, .int .u8 0, .int .u8 0, .int .u8 0, .int .u8 0, .int .u8 0] 36) (by rw [HL.out, HL2.out]; rfl) H1.out); have hrw := obj_row (A := []) (M := addrC v l) (C := []) (o := 0) (n := 17) (by simpa using HO.out) rfl (by rw [HL.out, HL2.out]); clear hb2)
    | (go_at_call 18; refine (HPR.out _ (HE.out.below HB2.out)).mono ?_; rintro e w3 ⟨rfl, hb3⟩; have HW3 := Lib.hid (show ResAt w w3 from ⟨HA.out.below hb3 HA.out.lt, bstep HB2.out hb3, Nat.lt_of_lt_of_le HA.out.lt hb3.size⟩); have hr3 := row?_below hrw HO.out.lt hb3; have hf3 := HW3.out.free; clear hb3 hrw hf2))
  have hr := aggW_row (cs := addrC false zero16) hf3 (by first | rfl | rw [HL.out, HL2.out])
  exact bodyPost_ret (results_cell2 Tryz.results14 rfl (ld_some hr (ldr_addr _ _ _))) rfl ⟨rfl, aggW_below HW3.out.2.1 (Nat.le_refl _) _⟩
theorem parse_any (s : List UInt8) (hs : s.length ≤ 1000000) (w : World) (h : Env w) : Calls Tryz.prog 14 #[.string (Str s)] w (ParseEnd w (parseV s)) := by
  unfold parseV
  by_cases h39 : 39 < s.length
  · rw [if_pos h39]; exact parse_long s hs (by omega) w
  · rw [if_neg h39]
    have HRO := Lib.hid (fun w h => rough_any s (by omega) w h)
    by_cases hlen : (roughV s).length = 4 ∨ (roughV s).length = 16
    · rw [if_pos hlen]
      generalize roughV s = r at HRO hlen ⊢
      have HRD := Lib.hid (fun w => read_good (decide (r.length = 16)) r (by omega) (by rcases hlen with e | e <;> simp [e]) (by rcases hlen with e | e <;> simp [e]) w)
      have hl := readV_length r (by omega)
      by_cases hp : prtV (decide (r.length = 16)) (readV r) = s
      · rw [if_pos hp]; exact parse_good s r _ _ (by omega) hl HRO HRD (Lib.hid hp) w h
      · rw [if_neg hp]; exact parse_diff s r _ _ (by omega) hl HRO HRD (Lib.hid hp) w h
    · rw [if_neg hlen]
      exact parse_len s (by omega) (decide_eq_false (by omega)) (decide_eq_false (by omega)) w h
end Go.Proofs.YtalnfjnfcloonaaGreatDoor
