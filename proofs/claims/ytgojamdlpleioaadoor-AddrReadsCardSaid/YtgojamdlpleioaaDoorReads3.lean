/-
  The law's walk: an address is read, by the program and by the document.
-/
import Derived.Test.YtgojamdlpleioaaDoorRread
import Derived.Test.YtgojamdlpleioaaDoorEqA
import Derived.Test.YtgojamdlpleioaaDoorLives
import Derived.Test.YtgojamdlpleioaaDoorAd2
namespace Go.Proofs.YtgojamdlpleioaaDoor
open Go.RowKit
set_option linter.unusedVariables false
attribute [local go_sem ↓] bld_addr bld_mac bld_b16 ld_addr st_addr ld_mac st_mac ld_b16
attribute [local go_sem] ldr_addr str_addr ldr_mac str_mac ldr_b16

/-- An address stands in its block. -/
def StA (w W : World) (b : Nat) (L : List Value) : Prop := ObjAt W b L.toArray 25 ∧ Below w.heap.size w W
theorem StA.below {w W W' : World} {b : Nat} {L : List Value} (h : StA w W b L) (hb : Below W.heap.size W W') : StA w W' b L := ⟨h.1.below hb h.1.lt, bstep h.2 hb⟩
theorem StA.made {w w1 : World} (h : Below w.heap.size w w1) (v : Bool) (l : List UInt8) (hl : l.length = 16) : StA w (aggW (w1.alloc (.cells #[.bool false, .int .u8 0, .int .u8 0, .int .u8 0, .int .u8 0, .int .u8 0, .int .u8 0, .int .u8 0, .int .u8 0, .int .u8 0, .int .u8 0, .int .u8 0, .int .u8 0, .int .u8 0, .int .u8 0, .int .u8 0, .int .u8 0] 25)) w1.heap.size (addrC v l)) w1.heap.size (addrC v l) :=
  ⟨aggW_obj (cs := addrC v l) (ObjAt.made w1 #[.bool false, .int .u8 0, .int .u8 0, .int .u8 0, .int .u8 0, .int .u8 0, .int .u8 0, .int .u8 0, .int .u8 0, .int .u8 0, .int .u8 0, .int .u8 0, .int .u8 0, .int .u8 0, .int .u8 0, .int .u8 0, .int .u8 0] 25) (by rw [addrC_length, hl]; rfl) (addrC_one _ _), aggW_below (h.alloc h.size _) h.size _⟩
theorem StA.keep {w w2 : World} {b : Nat} {L : List Value} (h : StA w w2 b L) (cs : List Value) : StA w (aggW (w2.alloc (.cells #[.bool false, .int .u8 0, .int .u8 0, .int .u8 0, .int .u8 0, .int .u8 0, .int .u8 0, .int .u8 0, .int .u8 0, .int .u8 0, .int .u8 0, .int .u8 0, .int .u8 0, .int .u8 0, .int .u8 0, .int .u8 0, .int .u8 0] 25)) w2.heap.size cs) b L :=
  ⟨aggW_other (h.1.alloc _) _ (by have := h.1.lt; omega), aggW_below (h.2.alloc h.2.size _) h.2.size _⟩
theorem StA.row {w W : World} {b : Nat} {v : Bool} {l : List UInt8} (h : StA w W b (addrC v l)) (hl : l.length = 16) : row? W b 0 17 = some (addrC v l) :=
  obj_row (A := []) (M := addrC v l) (C := []) (by simpa using h.1) rfl (by rw [addrC_length, hl])

set_option maxRecDepth 100000 in
set_option maxHeartbeats 2000000 in
theorem reads_bad (a0 : ByteArray) (w0 : a0.size ≤ maxLen) (l : List UInt8) (hs : cutB a0 20 = Str l) (h1 : l.length ≤ 20) (h4 : decide ((l.length : Int) = 4) = false) (h16 : decide ((l.length : Int) = 16) = false) (w : World) (h : Env w) :
    Calls Tryd.prog 3 #[.string a0] w fun e w' => e = .returned (.bool true) ∧ Below w.heap.size w w' := by
  have HS := Lib.hid hs; clear hs
  have HE := Lib.hid h; clear h
  have HR := Lib.hid (fun w => read_bad l (by omega) h4 h16 w)
  have HX := Lib.hid (fun w => rread_bad l (by omega) h4 h16 w)
  have heq : ∀ w0, (Op.equalIn 10000 25 (.agg (addrC false (List.replicate 16 0)).toArray) (.agg (addrC false (List.replicate 16 0)).toArray)).run Tryd.prog w0 = .ok true w0 := fun w0 => by
    have := eq_addr false false (List.replicate 16 0) (List.replicate 16 0) rfl rfl w0
    simpa using this
  have hok : fok (addrC false (List.replicate 16 0)).toArray 17 = true := fok_addr _ _ rfl
  have hl : (List.replicate 16 (0 : UInt8)).length = 16 := rfl
  generalize hz : List.replicate 16 (0 : UInt8) = zs at HR HX heq hok hl
  clear h1 h4 h16 hz
  go_enter Tryd.func3, Tryd.ntmps3
  go_wp2_with (first
    | (go_at_call 5; refine (cut_any a0 w0 20 (by omega) _).mono ?_; rintro e w1 ⟨rfl, rfl⟩; rw [HS.out])
    | (go_at_call 6; refine (HR.out _).mono ?_; rintro e w1 ⟨rfl, hb1⟩; have HA1 := Lib.hid (StA.made hb1 false zs hl); have hf1 := free_made w1 #[.bool false, .int .u8 0, .int .u8 0, .int .u8 0, .int .u8 0, .int .u8 0, .int .u8 0, .int .u8 0, .int .u8 0, .int .u8 0, .int .u8 0, .int .u8 0, .int .u8 0, .int .u8 0, .int .u8 0, .int .u8 0, .int .u8 0] 25 17 (by simp); clear hb1)
    | (go_at_call 7; refine (HX.out _).mono ?_; rintro e w2 ⟨rfl, hb2⟩; have HA2 := Lib.hid (((HA1.out.below hb2)).keep (addrC false zs)); have HB2 := Lib.hid (StA.made (HA1.out.below hb2).2 false zs hl); have hr1 := HA2.out.row hl; have hr2 := HB2.out.row hl; have hf2 := free_made w2 #[.bool false, .int .u8 0, .int .u8 0, .int .u8 0, .int .u8 0, .int .u8 0, .int .u8 0, .int .u8 0, .int .u8 0, .int .u8 0, .int .u8 0, .int .u8 0, .int .u8 0, .int .u8 0, .int .u8 0, .int .u8 0, .int .u8 0] 25 17 (by simp); clear hb2 hf1)
    | (go_at_call 9; refine (lives3_any _ (HE.out.below HA2.out.2)).mono ?_; rintro e w4 ⟨rfl, hb4⟩; have HA4 := Lib.hid (HA2.out.below hb4); clear hb4))
  go_ret
  exact ⟨rfl, HA4.out.2⟩

theorem bytes_readV (v : Bool) (l : List UInt8) (h1 : l.length ≤ 16) (hv : ((l.length : Int) == 16) = v) (g : ((l.length : Int) == 4) = !v) : bytesV v (readV l) = l := by
  cases v
  · have : l.length = 4 := by
      have : (l.length : Int) = 4 := by simpa using g
      omega
    simp [bytesV, readV, this]
  · have : l.length = 16 := by
      have : (l.length : Int) = 16 := by simpa using hv
      omega
    simp [bytesV, readV, this]

set_option maxRecDepth 100000 in
set_option maxHeartbeats 2000000 in
theorem reads_good (a0 : ByteArray) (w0 : a0.size ≤ maxLen) (l : List UInt8) (hs : cutB a0 20 = Str l) (v : Bool) (h1 : l.length ≤ 16) (hv : ((l.length : Int) == 16) = v) (g : ((l.length : Int) == 4) = !v) (w : World) (h : Env w) :
    Calls Tryd.prog 3 #[.string a0] w fun e w' => e = .returned (.bool true) ∧ Below w.heap.size w w' := by
  have HS := Lib.hid hs; clear hs
  have HE := Lib.hid h; clear h
  have HR := Lib.hid (fun w => read_good v l h1 hv g w)
  have HX := Lib.hid (fun w => rread_good v l h1 hv g w)
  have hl := readV_length l h1
  have HY := Lib.hid (fun w => bytes_any v (readV l) hl w)
  rw [bytes_readV v l h1 hv g] at HY
  have hcmp : ((Str l).toList == (Str l).toList) = true := by simp
  have heq : ∀ w0, (Op.equalIn 10000 25 (.agg (addrC v (readV l)).toArray) (.agg (addrC v (readV l)).toArray)).run Tryd.prog w0 = .ok true w0 := fun w0 => by
    have := eq_addr v v (readV l) (readV l) hl hl w0
    simpa using this
  have hok : fok (addrC v (readV l)).toArray 17 = true := fok_addr _ _ hl
  generalize readV l = zs at HR HX heq hok hl HY
  clear h1 hv g
  go_enter Tryd.func3, Tryd.ntmps3
  go_wp2_with (first
    | (go_at_call 5; refine (cut_any a0 w0 20 (by omega) _).mono ?_; rintro e w1 ⟨rfl, rfl⟩; rw [HS.out])
    | (go_at_call 6; refine (HR.out _).mono ?_; rintro e w1 ⟨rfl, hb1⟩; have HA1 := Lib.hid (StA.made hb1 v zs hl); have hf1 := free_made w1 #[.bool false, .int .u8 0, .int .u8 0, .int .u8 0, .int .u8 0, .int .u8 0, .int .u8 0, .int .u8 0, .int .u8 0, .int .u8 0, .int .u8 0, .int .u8 0, .int .u8 0, .int .u8 0, .int .u8 0, .int .u8 0, .int .u8 0] 25 17 (by simp); clear hb1)
    | (go_at_call 7; refine (HX.out _).mono ?_; rintro e w2 ⟨rfl, hb2⟩; have HA2 := Lib.hid (((HA1.out.below hb2)).keep (addrC v zs)); have HB2 := Lib.hid (StA.made (HA1.out.below hb2).2 v zs hl); have hr1 := HA2.out.row hl; have hr2 := HB2.out.row hl; have hf2 := free_made w2 #[.bool false, .int .u8 0, .int .u8 0, .int .u8 0, .int .u8 0, .int .u8 0, .int .u8 0, .int .u8 0, .int .u8 0, .int .u8 0, .int .u8 0, .int .u8 0, .int .u8 0, .int .u8 0, .int .u8 0, .int .u8 0, .int .u8 0] 25 17 (by simp); clear hb2 hf1)
    | (go_at_call 8; refine (HY.out _).mono ?_; rintro e w3 ⟨rfl, hb3⟩; have HA3 := Lib.hid (HA2.out.below hb3); clear hb3)
    | (go_at_call 9; refine (lives3_any _ (HE.out.below HA3.out.2)).mono ?_; rintro e w4 ⟨rfl, hb4⟩; have HA4 := Lib.hid (HA3.out.below hb4); clear hb4))
  go_ret
  exact ⟨rfl, HA4.out.2⟩

theorem reads_any (a0 : ByteArray) (w0 : a0.size ≤ maxLen) (w : World) (h : Env w) :
    Calls Tryd.prog 3 #[.string a0] w fun e w' => e = .returned (.bool true) ∧ Below w.heap.size w w' := by
  have hcs := cutB_size a0 20
  generalize hs : cutB a0 20 = s at hcs
  obtain ⟨l, rfl⟩ : ∃ l, s = Str l := ⟨s.data.toList, (Str_of s).symm⟩
  rw [Str_size] at hcs
  by_cases h4 : l.length = 4
  · exact reads_good a0 w0 l hs false (by omega) (by simp [h4]) (by simp [h4]) w h
  · by_cases h16 : l.length = 16
    · exact reads_good a0 w0 l hs true (by omega) (by simp [h16]) (by simp [h16]) w h
    · exact reads_bad a0 w0 l hs hcs (by simp; omega) (by simp; omega) w h
end Go.Proofs.YtgojamdlpleioaaDoor
