/-
  The document's own reading of an address.
-/
import Derived.Test.YtchbkamjmkfikaaMg06
import Derived.Test.YtchbkamjmkfikaaMg07
namespace Go.Proofs.Ytchbkamjmkfikaa
open Go.RowKit
set_option linter.unusedVariables false
attribute [local go_sem ↓] bld_addr bld_b16 ld_addr st_addr ld_b16
attribute [local go_sem] ldr_addr str_addr ldr_b16

/-- The two objects while the bytes are laid down. -/
def RdS (w wr : World) (v : Bool) (s : List UInt8) (k : Nat) : Prop :=
  ObjAt wr w.heap.size (addrC false (List.replicate 16 0)).toArray 25 ∧ ObjAt wr (w.heap.size + 1) (addrC v (s.take k ++ List.replicate (16 - k) 0)).toArray 25 ∧ Below w.heap.size w wr
theorem addrC_set (v : Bool) (l : List UInt8) (k : Nat) (c : UInt8) : (addrC v l).toArray.setIfInBounds (1 + k) (.int .u8 (c.toNat : Int)) = (addrC v (l.set k c)).toArray := by
  apply Array.ext'
  rw [Array.toList_setIfInBounds]
  show (Value.bool v :: B8 l).set (1 + k) _ = Value.bool v :: B8 (l.set k c)
  rw [Nat.add_comm, List.set_cons_succ]
  unfold B8
  rw [List.map_set]
theorem RdS.step {w wr : World} {v : Bool} {s : List UInt8} {k : Nat} (h : RdS w wr v s k) (hk : k < s.length) (h16 : s.length ≤ 16) : RdS w (wr.setCell ⟨w.heap.size + 1, 1 + k, none⟩ (.int .u8 ((s[k]).toNat : Int))) v s (k + 1) := by
  obtain ⟨h1, h2, h3⟩ := h
  refine ⟨ObjAt.other h1 ⟨w.heap.size + 1, 1 + k, none⟩ _ (by simp), ?_, h3.setCell (p := ⟨w.heap.size + 1, 1 + k, none⟩) (by simp) _⟩
  have o1 := h2.set (1 + k) (.int .u8 ((s[k]).toNat : Int))
  rw [addrC_set] at o1
  have e : (s.take k ++ List.replicate (16 - k) 0).set k s[k] = s.take (k + 1) ++ List.replicate (16 - (k + 1)) 0 := by
    rw [List.set_append_right _ _ (by simp; omega), show 16 - k = (16 - (k + 1)) + 1 by omega, List.replicate_succ, show k - (s.take k).length = 0 by simp; omega, List.set_cons_zero]
    rw [List.take_succ_eq_append_getElem hk, List.append_assoc]
    rfl
  rw [e] at o1
  exact o1
theorem RdS.cell {w wr : World} {v : Bool} {s : List UInt8} {k : Nat} (h : RdS w wr v s k) (hk : k < s.length) (h16 : s.length ≤ 16) : wr.cell? ⟨w.heap.size + 1, 1 + k, none⟩ = some (.int .u8 0) := by
  rw [h.2.1.cell, List.getElem?_toArray]
  rw [show addrC v (s.take k ++ List.replicate (16 - k) 0) = .bool v :: B8 (s.take k ++ List.replicate (16 - k) 0) from rfl, Nat.add_comm, List.getElem?_cons_succ]
  unfold B8
  rw [List.getElem?_map, List.getElem?_append_right (by simp; omega)]
  simp
  have : k - min k s.length < 16 - k := by omega
  simp [this]
theorem RdS.frz {w wr : World} {v : Bool} {s : List UInt8} {k : Nat} (h : RdS w wr v s k) : wr.frozen? ⟨w.heap.size + 1, 1 + k, none⟩ = false := h.2.1.free _
theorem RdS.row {w wr : World} {v : Bool} {s : List UInt8} {k : Nat} (h : RdS w wr v s k) (hk : k ≤ s.length) (h16 : s.length ≤ 16) : row? wr (w.heap.size + 1) 0 17 = some (addrC v (s.take k ++ List.replicate (16 - k) 0)) :=
  obj_row (A := []) (M := addrC v (s.take k ++ List.replicate (16 - k) 0)) (C := []) (by simpa using h.2.1) rfl (by rw [addrC_length]; simp; omega)
theorem RdS.free {w wr : World} {v : Bool} {s : List UInt8} {k : Nat} (h : RdS w wr v s k) : free? wr w.heap.size 0 17 = true := obj_free (n := 17) h.1 (by simp [addrC_length])
theorem RdS.start (w : World) (v : Bool) (s : List UInt8) : RdS w (aggW ((w.alloc (.cells #[.bool false, .int .u8 0, .int .u8 0, .int .u8 0, .int .u8 0, .int .u8 0, .int .u8 0, .int .u8 0, .int .u8 0, .int .u8 0, .int .u8 0, .int .u8 0, .int .u8 0, .int .u8 0, .int .u8 0, .int .u8 0, .int .u8 0] 25)).alloc (.cells #[.bool false, .int .u8 0, .int .u8 0, .int .u8 0, .int .u8 0, .int .u8 0, .int .u8 0, .int .u8 0, .int .u8 0, .int .u8 0, .int .u8 0, .int .u8 0, .int .u8 0, .int .u8 0, .int .u8 0, .int .u8 0, .int .u8 0] 25)) (w.heap.size + 1) [.bool v, .int .u8 0, .int .u8 0, .int .u8 0, .int .u8 0, .int .u8 0, .int .u8 0, .int .u8 0, .int .u8 0, .int .u8 0, .int .u8 0, .int .u8 0, .int .u8 0, .int .u8 0, .int .u8 0, .int .u8 0, .int .u8 0]) v s 0 := by
  have h0 := (ObjAt.made w #[.bool false, .int .u8 0, .int .u8 0, .int .u8 0, .int .u8 0, .int .u8 0, .int .u8 0, .int .u8 0, .int .u8 0, .int .u8 0, .int .u8 0, .int .u8 0, .int .u8 0, .int .u8 0, .int .u8 0, .int .u8 0, .int .u8 0] 25).alloc (.cells #[.bool false, .int .u8 0, .int .u8 0, .int .u8 0, .int .u8 0, .int .u8 0, .int .u8 0, .int .u8 0, .int .u8 0, .int .u8 0, .int .u8 0, .int .u8 0, .int .u8 0, .int .u8 0, .int .u8 0, .int .u8 0, .int .u8 0] 25)
  have h1 := ObjAt.made (w.alloc (.cells #[.bool false, .int .u8 0, .int .u8 0, .int .u8 0, .int .u8 0, .int .u8 0, .int .u8 0, .int .u8 0, .int .u8 0, .int .u8 0, .int .u8 0, .int .u8 0, .int .u8 0, .int .u8 0, .int .u8 0, .int .u8 0, .int .u8 0] 25)) #[.bool false, .int .u8 0, .int .u8 0, .int .u8 0, .int .u8 0, .int .u8 0, .int .u8 0, .int .u8 0, .int .u8 0, .int .u8 0, .int .u8 0, .int .u8 0, .int .u8 0, .int .u8 0, .int .u8 0, .int .u8 0, .int .u8 0] 25
  have hz : (w.alloc (.cells #[.bool false, .int .u8 0, .int .u8 0, .int .u8 0, .int .u8 0, .int .u8 0, .int .u8 0, .int .u8 0, .int .u8 0, .int .u8 0, .int .u8 0, .int .u8 0, .int .u8 0, .int .u8 0, .int .u8 0, .int .u8 0, .int .u8 0] 25)).heap.size = w.heap.size + 1 := by simp
  rw [hz] at h1
  have hb : Below w.heap.size w ((w.alloc (.cells #[.bool false, .int .u8 0, .int .u8 0, .int .u8 0, .int .u8 0, .int .u8 0, .int .u8 0, .int .u8 0, .int .u8 0, .int .u8 0, .int .u8 0, .int .u8 0, .int .u8 0, .int .u8 0, .int .u8 0, .int .u8 0, .int .u8 0] 25)).alloc (.cells #[.bool false, .int .u8 0, .int .u8 0, .int .u8 0, .int .u8 0, .int .u8 0, .int .u8 0, .int .u8 0, .int .u8 0, .int .u8 0, .int .u8 0, .int .u8 0, .int .u8 0, .int .u8 0, .int .u8 0, .int .u8 0, .int .u8 0] 25)) := ((Below.refl _ _).alloc (Nat.le_refl _) _).alloc (by simp) _
  exact ⟨aggW_other h0 _ (by omega), aggW_obj (cs := [.bool v, .int .u8 0, .int .u8 0, .int .u8 0, .int .u8 0, .int .u8 0, .int .u8 0, .int .u8 0, .int .u8 0, .int .u8 0, .int .u8 0, .int .u8 0, .int .u8 0, .int .u8 0, .int .u8 0, .int .u8 0, .int .u8 0]) h1 rfl (addrC_one v (List.replicate 16 0)), aggW_below hb (by omega) _⟩
theorem RdS.done {w wr : World} {v : Bool} {s : List UInt8} {k : Nat} (h : RdS w wr v s k) (cs : List Value) (hc : cs.length = 17) : row? (aggW wr w.heap.size cs) w.heap.size 0 17 = some cs ∧ Below w.heap.size w (aggW wr w.heap.size cs) :=
  ⟨aggW_row h.free hc, aggW_below h.2.2 (Nat.le_refl _) _⟩
theorem RdS.done2 {w wr : World} {v : Bool} {s : List UInt8} {k : Nat} (h : RdS w wr v s k) (h1 : s.length ≤ 16) : row? (aggW wr w.heap.size (addrC v (readV s))) w.heap.size 0 17 = some (addrC v (readV s)) ∧ Below w.heap.size w (aggW wr w.heap.size (addrC v (readV s))) :=
  h.done _ (by rw [addrC_length, readV_length s h1])

set_option maxRecDepth 100000 in
set_option maxHeartbeats 1000000 in
theorem rread_bad (l : List UInt8) (h1 : l.length ≤ 1000000) (h4 : decide ((l.length : Int) = 4) = false) (h16 : decide ((l.length : Int) = 16) = false) (w : World) :
    Calls Try.prog 64 #[.string (Str l)] w fun e w' => e = .returned (.tuple #[.agg (addrC false (List.replicate 16 0)).toArray, .bool false]) ∧ Below w.heap.size w w' := by
  have hsz := Str_size l
  have g4 : ((l.length : Int) == 4) = false := by simpa using h4
  have g16 : ((l.length : Int) == 16) = false := by simpa using h16
  have i4 : ((l.length : Int) != 4) = true := by simp [bne, g4]
  have i16 : ((l.length : Int) != 16) = true := by simp [bne, g16]
  have hok : fok #[.bool false, .int .u8 0, .int .u8 0, .int .u8 0, .int .u8 0, .int .u8 0, .int .u8 0, .int .u8 0, .int .u8 0, .int .u8 0, .int .u8 0, .int .u8 0, .int .u8 0, .int .u8 0, .int .u8 0, .int .u8 0, .int .u8 0] 17 = true := by simp [fok, Value.oneCell']
  have hbld : ∀ w0, (aggBuild 25 #[]).run Try.prog w0 = .ok (.agg #[.bool false, .int .u8 0, .int .u8 0, .int .u8 0, .int .u8 0, .int .u8 0, .int .u8 0, .int .u8 0, .int .u8 0, .int .u8 0, .int .u8 0, .int .u8 0, .int .u8 0, .int .u8 0, .int .u8 0, .int .u8 0, .int .u8 0]) w0 := bld_run _ _ _ (by kernel_rfl)
  have hbld2 : ∀ w0, (aggBuild 25 #[(0, .bool false)]).run Try.prog w0 = .ok (.agg #[.bool false, .int .u8 0, .int .u8 0, .int .u8 0, .int .u8 0, .int .u8 0, .int .u8 0, .int .u8 0, .int .u8 0, .int .u8 0, .int .u8 0, .int .u8 0, .int .u8 0, .int .u8 0, .int .u8 0, .int .u8 0, .int .u8 0]) w0 := bld_run _ _ _ (by kernel_rfl)
  have HS := Lib.hid (RdS.start w false l)
  have hf1 := free_made (w.alloc (.cells #[.bool false, .int .u8 0, .int .u8 0, .int .u8 0, .int .u8 0, .int .u8 0, .int .u8 0, .int .u8 0, .int .u8 0, .int .u8 0, .int .u8 0, .int .u8 0, .int .u8 0, .int .u8 0, .int .u8 0, .int .u8 0, .int .u8 0] 25)) #[.bool false, .int .u8 0, .int .u8 0, .int .u8 0, .int .u8 0, .int .u8 0, .int .u8 0, .int .u8 0, .int .u8 0, .int .u8 0, .int .u8 0, .int .u8 0, .int .u8 0, .int .u8 0, .int .u8 0, .int .u8 0, .int .u8 0] 25 17 (by simp)
  rw [show (w.alloc (.cells #[.bool false, .int .u8 0, .int .u8 0, .int .u8 0, .int .u8 0, .int .u8 0, .int .u8 0, .int .u8 0, .int .u8 0, .int .u8 0, .int .u8 0, .int .u8 0, .int .u8 0, .int .u8 0, .int .u8 0, .int .u8 0, .int .u8 0] 25)).heap.size = w.heap.size + 1 by simp] at hf1
  go_enter Try.func64, Try.ntmps64
  go_upto_region 2 with (fail)
  generalize aggW ((w.alloc (.cells #[.bool false, .int .u8 0, .int .u8 0, .int .u8 0, .int .u8 0, .int .u8 0, .int .u8 0, .int .u8 0, .int .u8 0, .int .u8 0, .int .u8 0, .int .u8 0, .int .u8 0, .int .u8 0, .int .u8 0, .int .u8 0, .int .u8 0] 25)).alloc (.cells #[.bool false, .int .u8 0, .int .u8 0, .int .u8 0, .int .u8 0, .int .u8 0, .int .u8 0, .int .u8 0, .int .u8 0, .int .u8 0, .int .u8 0, .int .u8 0, .int .u8 0, .int .u8 0, .int .u8 0, .int .u8 0, .int .u8 0] 25)) (w.heap.size + 1) _ = W at HS ⊢
  have hf := HS.out.free
  clear hf1
  go_wp2
  obtain ⟨hr, hb⟩ := HS.out.done (addrC false (List.replicate 16 0)) (by simp [addrC_length])
  exact bodyPost_ret (results_cell2 Try.results64 rfl (ld_some hr (ldr_addr _ _ _))) rfl ⟨rfl, hb⟩

set_option maxRecDepth 100000 in
set_option maxHeartbeats 1000000 in
theorem rread_good (v : Bool) (l : List UInt8) (h1 : l.length ≤ 16) (hv : ((l.length : Int) == 16) = v) (g : ((l.length : Int) == 4) = !v) (w : World) :
    Calls Try.prog 64 #[.string (Str l)] w fun e w' => e = .returned (.tuple #[.agg (addrC v (readV l)).toArray, .bool true]) ∧ Below w.heap.size w w' := by
  have hsz := Str_size l
  have i4 : ((l.length : Int) != 4) = v := by simp [bne, g]
  have i16 : ((l.length : Int) != 16) = !v := by simp [bne, hv]
  have hok : fok #[.bool v, .int .u8 0, .int .u8 0, .int .u8 0, .int .u8 0, .int .u8 0, .int .u8 0, .int .u8 0, .int .u8 0, .int .u8 0, .int .u8 0, .int .u8 0, .int .u8 0, .int .u8 0, .int .u8 0, .int .u8 0, .int .u8 0] 17 = true := by simp [fok, Value.oneCell']
  have hok2 : fok (addrC v (l ++ List.replicate (16 - l.length) 0)).toArray 17 = true := fok_addr v (readV l) (readV_length l h1)
  have hbld2 : ∀ w0, (aggBuild 25 #[(0, .bool v)]).run Try.prog w0 = .ok (.agg #[.bool v, .int .u8 0, .int .u8 0, .int .u8 0, .int .u8 0, .int .u8 0, .int .u8 0, .int .u8 0, .int .u8 0, .int .u8 0, .int .u8 0, .int .u8 0, .int .u8 0, .int .u8 0, .int .u8 0, .int .u8 0, .int .u8 0]) w0 := bld_run _ _ _ (by kernel_rfl)
  have HS := Lib.hid (RdS.start w v l)
  have hf1 := free_made (w.alloc (.cells #[.bool false, .int .u8 0, .int .u8 0, .int .u8 0, .int .u8 0, .int .u8 0, .int .u8 0, .int .u8 0, .int .u8 0, .int .u8 0, .int .u8 0, .int .u8 0, .int .u8 0, .int .u8 0, .int .u8 0, .int .u8 0, .int .u8 0] 25)) #[.bool false, .int .u8 0, .int .u8 0, .int .u8 0, .int .u8 0, .int .u8 0, .int .u8 0, .int .u8 0, .int .u8 0, .int .u8 0, .int .u8 0, .int .u8 0, .int .u8 0, .int .u8 0, .int .u8 0, .int .u8 0, .int .u8 0] 25 17 (by simp)
  rw [show (w.alloc (.cells #[.bool false, .int .u8 0, .int .u8 0, .int .u8 0, .int .u8 0, .int .u8 0, .int .u8 0, .int .u8 0, .int .u8 0, .int .u8 0, .int .u8 0, .int .u8 0, .int .u8 0, .int .u8 0, .int .u8 0, .int .u8 0, .int .u8 0] 25)).heap.size = w.heap.size + 1 by simp] at hf1
  go_enter Try.func64, Try.ntmps64
  go_upto_region 2 with (fail)
  generalize aggW ((w.alloc (.cells #[.bool false, .int .u8 0, .int .u8 0, .int .u8 0, .int .u8 0, .int .u8 0, .int .u8 0, .int .u8 0, .int .u8 0, .int .u8 0, .int .u8 0, .int .u8 0, .int .u8 0, .int .u8 0, .int .u8 0, .int .u8 0, .int .u8 0] 25)).alloc (.cells #[.bool false, .int .u8 0, .int .u8 0, .int .u8 0, .int .u8 0, .int .u8 0, .int .u8 0, .int .u8 0, .int .u8 0, .int .u8 0, .int .u8 0, .int .u8 0, .int .u8 0, .int .u8 0, .int .u8 0, .int .u8 0, .int .u8 0] 25)) (w.heap.size + 1) _ = W at HS ⊢
  clear hf1
  have HV := Lib.hid hv
  cases v <;>
  · go_upto_region 5 with (fail)
    clear hv g i4 i16
    go_loopw [5] (fun vi wr => ∃ k : Nat, k ≤ l.length ∧ vi = .int .i64 (k : Int) ∧ Hid (RdS w wr _ l k)) (fun vi _ => l.length - (intOf vi).toNat)
    case atStart => exact ⟨0, by omega, rfl, HS⟩
    case round _ wr =>
      obtain ⟨k, hk, rfl, hq⟩ := hrel
      by_cases hlt : k < l.length
      · have hc := hq.out.cell hlt h1
        have hf := hq.out.frz
        have Hn := Lib.hid (hq.out.step hlt h1)
        go_wp2
        go_roundw
        case rel => exact ⟨k + 1, by omega, by go_num, Hn⟩
        case measure => simp [intOf]; omega
      · have hk2 : k = l.length := by omega
        have hro := hq.out.row hk h1
        rw [hk2, List.take_of_length_le (Nat.le_refl _)] at hro
        have hf := hq.out.free
        go_wp2
        obtain ⟨hr, hb⟩ := hq.out.done2 h1
        exact bodyPost_ret (results_cell2 Try.results64 rfl (ld_some hr (ldr_addr _ _ _))) rfl ⟨rfl, hb⟩
end Go.Proofs.Ytchbkamjmkfikaa
