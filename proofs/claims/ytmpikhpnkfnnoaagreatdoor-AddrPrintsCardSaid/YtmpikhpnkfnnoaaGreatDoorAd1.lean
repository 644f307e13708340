/-
  Contracts of addr: small functions on one address.
-/
import Derived.Test.YtmpikhpnkfnnoaaGreatDoorAddr
import Derived.Test.YtmpikhpnkfnnoaaGreatDoorShAddr
import Derived.Test.YtmpikhpnkfnnoaaGreatDoorOctHex
import Derived.Deep.RegionHeld3
import Derived.Laws.Cover3
import Derived.Deep.Cut
import Derived.Test.YtmpikhpnkfnnoaaGreatDoorEqB
import Derived.Lib.Hide
namespace Go.Proofs.YtmpikhpnkfnnoaaGreatDoor
open Go.RowKit
set_option linter.unusedVariables false

theorem list16 {l : List UInt8} (h : l.length = 16) : ∃ b0 b1 b2 b3 b4 b5 b6 b7 b8 b9 ba bb bc bd be bf, l = [b0, b1, b2, b3, b4, b5, b6, b7, b8, b9, ba, bb, bc, bd, be, bf] := by
  match l, h with
  | [b0, b1, b2, b3, b4, b5, b6, b7, b8, b9, ba, bb, bc, bd, be, bf], _ => exact ⟨b0, b1, b2, b3, b4, b5, b6, b7, b8, b9, ba, bb, bc, bd, be, bf, rfl⟩
theorem list6 {l : List UInt8} (h : l.length = 6) : ∃ b0 b1 b2 b3 b4 b5, l = [b0, b1, b2, b3, b4, b5] := by
  match l, h with
  | [b0, b1, b2, b3, b4, b5], _ => exact ⟨b0, b1, b2, b3, b4, b5, rfl⟩
/-- A byte of an address. -/
def bN (l : List UInt8) (i : Nat) : Int := ((l.getD i 0).toNat : Int)
/-- Whether it is a group's. -/
def grpV (v : Bool) (l : List UInt8) : Bool := if v then (bN l 0 == 255) else (decide (224 ≤ bN l 0) && decide (bN l 0 ≤ 239))
/-- Whether it begins with 224.0.0. -/
def linkV (l : List UInt8) : Bool := decide (bN l 0 = 224 ∧ bN l 1 = 0 ∧ bN l 2 = 0)
def scpV (v : Bool) (l : List UInt8) : Int :=
  if grpV v l = false then 0 else if v then bN l 1 % 16 else if linkV l then 2 else if bN l 0 = 239 ∧ bN l 1 = 255 then 3 else if bN l 0 = 239 ∧ 192 ≤ bN l 1 ∧ bN l 1 ≤ 195 then 8 else 14
def locV (v : Bool) (l : List UInt8) : Bool := if v then (grpV v l && decide (scpV v l ≤ 2)) else linkV l
def ssmV (v : Bool) (l : List UInt8) : Bool := if v then decide (bN l 0 = 255 ∧ 48 ≤ bN l 1 ∧ bN l 1 ≤ 63 ∧ bN l 2 = 0 ∧ bN l 3 = 0) else decide (bN l 0 = 232)
theorem bcell {W w1 : World} (hb : Below W.heap.size W w1) : (∀ b o, b < W.heap.size → w1.cell? ⟨b, o, none⟩ = W.cell? ⟨b, o, none⟩) ∧ (∀ b o, b < W.heap.size → w1.frozen? ⟨b, o, none⟩ = W.frozen? ⟨b, o, none⟩) :=
  ⟨fun b o h => hb.cell (p := ⟨b, o, none⟩) h, fun b o h => hb.frozen (p := ⟨b, o, none⟩) h⟩
theorem box_keep {w w1 : World} {v : Bool} {l : List UInt8} {t : TypeId} (hb : Below (w.alloc (.cells (addrC v l).toArray t)).heap.size (w.alloc (.cells (addrC v l).toArray t)) w1) :
    w1.cell? ⟨w.heap.size, 0, none⟩ = some (.bool v) ∧ (∀ i (h : i < l.length), w1.cell? ⟨w.heap.size, 1 + i, none⟩ = some (.int .u8 ((l[i]).toNat : Int))) ∧ Below w.heap.size w w1 := by
  have hlt : w.heap.size < (w.alloc (.cells (addrC v l).toArray t)).heap.size := by simp
  refine ⟨?_, fun i h => ?_, ((Below.refl _ _).alloc (Nat.le_refl _) _).trans (hb.mono (by simp))⟩
  · rw [hb.cell (p := ⟨w.heap.size, 0, none⟩) hlt]; simp [addrC]
  · rw [hb.cell (p := ⟨w.heap.size, 1 + i, none⟩) hlt]; exact rowAt_box w v l t (0, 0) _ rfl i h
theorem link_lit (b0 b1 b2 : UInt8) (r : List UInt8) : (decide (b0 = 224) && (decide (b1 = 0) && decide (b2 = 0))) = linkV (b0 :: b1 :: b2 :: r) := by
  unfold linkV bN
  rw [Bool.eq_iff_iff]
  simp [← UInt8.toNat_inj]
  omega
theorem ret_bool {a b : Bool} (h : a = b) : Ending.returned (.bool a) = .returned (.bool b) := by rw [h]

set_option maxRecDepth 100000 in
set_option maxHeartbeats 1000000 in
theorem group_any (v : Bool) (l : List UInt8) (hl : l.length = 16) (w : World) : Calls Tryz.prog 16 #[.agg (addrC v l).toArray] w fun e w' => e = .returned (.bool (grpV v l)) ∧ Below w.heap.size w w' := by
  obtain ⟨b0, b1, b2, b3, b4, b5, b6, b7, b8, b9, ba, bb, bc, bd, be, bf, rfl⟩ := list16 hl
  clear hl
  show Calls Tryz.prog 16 #[.agg #[.bool v, .int .u8 b0.toNat, .int .u8 b1.toNat, .int .u8 b2.toNat, .int .u8 b3.toNat, .int .u8 b4.toNat, .int .u8 b5.toNat, .int .u8 b6.toNat, .int .u8 b7.toNat, .int .u8 b8.toNat, .int .u8 b9.toNat, .int .u8 ba.toNat, .int .u8 bb.toNat, .int .u8 bc.toNat, .int .u8 bd.toNat, .int .u8 be.toNat, .int .u8 bf.toNat]] w _
  cases v <;>
  · go_enter Tryz.func16, Tryz.ntmps16
    go_wp2
    all_goals
      go_ret
      exact ⟨ret_bool (by simp_all [grpV, bN] <;> omega), (Below.refl _ _).alloc (Nat.le_refl _) _⟩

theorem group_lit (v : Bool) (l : List UInt8) (hl : l.length = 16) (x : Value) (hx : x = .agg (addrC v l).toArray) (w : World) : Calls Tryz.prog 16 #[x] w fun e w' => e = .returned (.bool (grpV v l)) ∧ Below w.heap.size w w' := by
  subst hx; exact group_any v l hl w

set_option maxRecDepth 100000 in
set_option maxHeartbeats 1000000 in
theorem local4 (l : List UInt8) (hl : l.length = 16) (w : World) : Calls Tryz.prog 18 #[.agg (addrC false l).toArray] w fun e w' => e = .returned (.bool (linkV l)) ∧ Below w.heap.size w w' := by
  obtain ⟨b0, b1, b2, b3, b4, b5, b6, b7, b8, b9, ba, bb, bc, bd, be, bf, rfl⟩ := list16 hl
  clear hl
  show Calls Tryz.prog 18 #[.agg #[.bool false, .int .u8 b0.toNat, .int .u8 b1.toNat, .int .u8 b2.toNat, .int .u8 b3.toNat, .int .u8 b4.toNat, .int .u8 b5.toNat, .int .u8 b6.toNat, .int .u8 b7.toNat, .int .u8 b8.toNat, .int .u8 b9.toNat, .int .u8 ba.toNat, .int .u8 bb.toNat, .int .u8 bc.toNat, .int .u8 bd.toNat, .int .u8 be.toNat, .int .u8 bf.toNat]] w _
  have hat3 : ∀ w0, (Instr.arrayAt 46 (.slice (some ⟨w.heap.size, 1, none⟩) 3 16)).run Tryz.prog w0 = .ok (.pointer (some ⟨w.heap.size, 1, none⟩)) w0 := fun w0 => run_arrayAt w0 46 _ 3 _ 3 16 Tryz.underlying46 (by omega)
  obtain ⟨i8, hi8⟩ := info_of Tryz.underlying5
  have heq : ∀ w0, (Op.equalIn 10000 46 (.agg #[.int .u8 b0.toNat, .int .u8 b1.toNat, .int .u8 b2.toNat]) (.agg #[.int .u8 224, .int .u8 0, .int .u8 0])).run Tryz.prog w0 = .ok (decide ([b0, b1, b2] = [224, 0, 0])) w0 := fun w0 => run_eq_bytes Tryz.underlying46 Tryz.underlying5 (by kernel_rfl) hi8 (by kernel_rfl) [b0, b1, b2] [224, 0, 0] rfl rfl w0
  clear hi8
  go_enter Tryz.func18, Tryz.ntmps18
  go_wp2
  all_goals
    go_ret
    exact ⟨ret_bool (link_lit _ _ _ _), (Below.refl _ _).alloc (Nat.le_refl _) _⟩

attribute [local go_sem ↓] addrLoad_eq
attribute [local go_sem] addrLoad_run
theorem row_box (w : World) (v : Bool) (l : List UInt8) (hl : l.length = 16) (t : TypeId) : row? (w.alloc (.cells (addrC v l).toArray t)) w.heap.size 0 17 = some (addrC v l) := by
  have h := row?_of (w := w.alloc (.cells (addrC v l).toArray t)) (b := w.heap.size) (o := 0) (cs := addrC v l) (fun j x hj => by rw [World.cell?_alloc_mark]; simpa using hj)
  rwa [addrC_length, hl] at h

set_option maxRecDepth 100000 in
set_option maxHeartbeats 1000000 in
theorem scope6 (l : List UInt8) (hl : l.length = 16) (w : World) : Calls Tryz.prog 22 #[.agg (addrC true l).toArray] w fun e w' => e = .returned (.int .i64 (scpV true l)) ∧ Below w.heap.size w w' := by
  obtain ⟨b0, b1, b2, b3, b4, b5, b6, b7, b8, b9, ba, bb, bc, bd, be, bf, rfl⟩ := list16 hl
  clear hl
  show Calls Tryz.prog 22 #[.agg #[.bool true, .int .u8 b0.toNat, .int .u8 b1.toNat, .int .u8 b2.toNat, .int .u8 b3.toNat, .int .u8 b4.toNat, .int .u8 b5.toNat, .int .u8 b6.toNat, .int .u8 b7.toNat, .int .u8 b8.toNat, .int .u8 b9.toNat, .int .u8 ba.toNat, .int .u8 bb.toNat, .int .u8 bc.toNat, .int .u8 bd.toNat, .int .u8 be.toNat, .int .u8 bf.toNat]] w _
  have hb := b1.toNat_lt
  have h15 := and15 b1.toNat (by omega)
  have hrow : row? (w.alloc (.cells #[.bool true, .int .u8 b0.toNat, .int .u8 b1.toNat, .int .u8 b2.toNat, .int .u8 b3.toNat, .int .u8 b4.toNat, .int .u8 b5.toNat, .int .u8 b6.toNat, .int .u8 b7.toNat, .int .u8 b8.toNat, .int .u8 b9.toNat, .int .u8 ba.toNat, .int .u8 bb.toNat, .int .u8 bc.toNat, .int .u8 bd.toNat, .int .u8 be.toNat, .int .u8 bf.toNat] 24)) w.heap.size 0 17 = some (addrC true [b0, b1, b2, b3, b4, b5, b6, b7, b8, b9, ba, bb, bc, bd, be, bf]) := row_box w true [b0, b1, b2, b3, b4, b5, b6, b7, b8, b9, ba, bb, bc, bd, be, bf] rfl 24
  have HG := Lib.hid (fun w => group_any true [b0, b1, b2, b3, b4, b5, b6, b7, b8, b9, ba, bb, bc, bd, be, bf] rfl w)
  cases hg : ((b0.toNat : Int) == 255) with
  | true =>
    have Hg := Lib.hid (show grpV true [b0, b1, b2, b3, b4, b5, b6, b7, b8, b9, ba, bb, bc, bd, be, bf] = true from hg)
    go_enter Tryz.func22, Tryz.ntmps22
    go_wp2_with (go_at_call 16; refine (HG.out _).mono ?_; rintro e w1 ⟨rfl, hb1⟩; obtain ⟨k0, k1, k2⟩ := box_keep (v := true) (l := [b0, b1, b2, b3, b4, b5, b6, b7, b8, b9, ba, bb, bc, bd, be, bf]) hb1; have c2 : w1.cell? ⟨w.heap.size, 2, none⟩ = some (.int .u8 (b1.toNat : Int)) := k1 1 (by simp); have Hb1 := Lib.hid k2; rw [Hg.out]; clear hb1 k1 k2)
    go_wp2
    go_ret
    exact ⟨ret_int (by simp [scpV, Hg.out, bN]), Hb1.out⟩
  | false =>
    have Hg := Lib.hid (show grpV true [b0, b1, b2, b3, b4, b5, b6, b7, b8, b9, ba, bb, bc, bd, be, bf] = false from hg)
    go_enter Tryz.func22, Tryz.ntmps22
    go_wp2_with (go_at_call 16; refine (HG.out _).mono ?_; rintro e w1 ⟨rfl, hb1⟩; obtain ⟨k0, k1, k2⟩ := box_keep (v := true) (l := [b0, b1, b2, b3, b4, b5, b6, b7, b8, b9, ba, bb, bc, bd, be, bf]) hb1; have c2 : w1.cell? ⟨w.heap.size, 2, none⟩ = some (.int .u8 (b1.toNat : Int)) := k1 1 (by simp); have Hb1 := Lib.hid k2; rw [Hg.out]; clear hb1 k1 k2)
    go_wp2
    go_ret
    exact ⟨ret_int (by simp [scpV, Hg.out]), Hb1.out⟩

/-- The whole box and its cells behind what was made later. -/
theorem keep2 {w W w1 : World} {v : Bool} {l : List UInt8} (h0 : W.cell? ⟨w.heap.size, 0, none⟩ = some (.bool v)) (h1 : ∀ i (h : i < l.length), W.cell? ⟨w.heap.size, 1 + i, none⟩ = some (.int .u8 ((l[i]).toNat : Int))) (h2 : Below w.heap.size w W) (hlt : w.heap.size < W.heap.size) (hb : Below W.heap.size W w1) :
    w1.cell? ⟨w.heap.size, 0, none⟩ = some (.bool v) ∧ (∀ i (h : i < l.length), w1.cell? ⟨w.heap.size, 1 + i, none⟩ = some (.int .u8 ((l[i]).toNat : Int))) ∧ Below w.heap.size w w1 :=
  ⟨by rw [hb.cell (p := ⟨w.heap.size, 0, none⟩) hlt]; exact h0, fun i h => by rw [hb.cell (p := ⟨w.heap.size, 1 + i, none⟩) hlt]; exact h1 i h, bstep h2 hb⟩
/-- All that is known of a boxed address. -/
def BoxAt (w W : World) (v : Bool) (l : List UInt8) : Prop := W.cell? ⟨w.heap.size, 0, none⟩ = some (.bool v) ∧ RowAt W w.heap.size 1 l ∧ row? W w.heap.size 0 17 = some (addrC v l) ∧ w.heap.size < W.heap.size ∧ Below w.heap.size w W
theorem BoxAt.made (w : World) (v : Bool) (l : List UInt8) (hl : l.length = 16) (t : TypeId) : BoxAt w (w.alloc (.cells (addrC v l).toArray t)) v l :=
  ⟨by simp [addrC], rowAt_box w v l t (0, 0) _ rfl, row_box w v l hl t, by simp, (Below.refl _ _).alloc (Nat.le_refl _) _⟩
theorem BoxAt.keep {w W W' : World} {v : Bool} {l : List UInt8} (h : BoxAt w W v l) (hb : Below W.heap.size W W') : BoxAt w W' v l :=
  ⟨by rw [hb.cell (p := ⟨w.heap.size, 0, none⟩) h.2.2.2.1]; exact h.1, h.2.1.below h.2.2.2.1 hb, row?_below h.2.2.1 h.2.2.2.1 hb, Nat.lt_of_lt_of_le h.2.2.2.1 hb.size, bstep h.2.2.2.2 hb⟩
theorem BoxAt.drewN {w W : World} {v : Bool} {l : List UInt8} (h : BoxAt w W v l) (n : Nat) : BoxAt w (W.drewN n) v l := h.keep (bdrewN (Below.refl _ _) n)
theorem BoxAt.alloc {w W : World} {v : Bool} {l : List UInt8} (h : BoxAt w W v l) (o : Obj) : BoxAt w (W.alloc o) v l := h.keep ((Below.refl _ _).alloc (Nat.le_refl _) _)
theorem BoxAt.at {w W : World} {v : Bool} {l : List UInt8} (h : BoxAt w W v l) (i : Nat) (hi : i < l.length) : W.cell? ⟨w.heap.size, 1 + i, none⟩ = some (.int .u8 ((l[i]).toNat : Int)) := h.2.1 i hi

set_option maxRecDepth 100000 in
set_option maxHeartbeats 1000000 in
theorem local6t (l : List UInt8) (HG : Hid (grpV true l = true)) (hl : l.length = 16) (w : World) : Calls Tryz.prog 18 #[.agg (addrC true l).toArray] w fun e w' => e = .returned (.bool (locV true l)) ∧ Below w.heap.size w w' := by
  have HB := Lib.hid (BoxAt.made w true l hl 24)
  go_enter Tryz.func18, Tryz.ntmps18
  go_upto_region 1 with (fail)
  have hbx := HB.out
  clear HB
  generalize w.alloc (.cells (addrC true l).toArray 24) = W at hbx ⊢
  have HB := Lib.hid hbx
  obtain ⟨k0, k1, k2, k3, k4⟩ := hbx
  clear k1 k4
  go_wp2_with (first
    | (go_at_call 16; refine (group_any true l hl _).mono ?_; rintro e w1 ⟨rfl, hb1⟩; have HB1 := Lib.hid (HB.out.keep hb1); clear HB k0 k2 k3 hb1; obtain ⟨k0, -, k2, k3, -⟩ := id HB1.out; rw [HG.out])
    | (go_at_call 22; refine (scope6 l hl _).mono ?_; rintro e w2 ⟨rfl, hb1⟩; have HB2 := Lib.hid (HB1.out.keep hb1); clear HB1 k0 k2 k3 hb1; obtain ⟨k0, -, k2, k3, -⟩ := id HB2.out))
  go_ret
  exact ⟨ret_bool (by simp [locV, HG.out]), HB2.out.2.2.2.2⟩

set_option maxRecDepth 100000 in
set_option maxHeartbeats 1000000 in
theorem local6f (l : List UInt8) (HG : Hid (grpV true l = false)) (hl : l.length = 16) (w : World) : Calls Tryz.prog 18 #[.agg (addrC true l).toArray] w fun e w' => e = .returned (.bool (locV true l)) ∧ Below w.heap.size w w' := by
  have HB := Lib.hid (BoxAt.made w true l hl 24)
  go_enter Tryz.func18, Tryz.ntmps18
  go_upto_region 1 with (fail)
  have hbx := HB.out
  clear HB
  generalize w.alloc (.cells (addrC true l).toArray 24) = W at hbx ⊢
  have HB := Lib.hid hbx
  obtain ⟨k0, k1, k2, k3, k4⟩ := hbx
  clear k1 k4
  go_wp2_with (first
    | (go_at_call 16; refine (group_any true l hl _).mono ?_; rintro e w1 ⟨rfl, hb1⟩; have HB1 := Lib.hid (HB.out.keep hb1); clear HB k0 k2 k3 hb1; obtain ⟨k0, -, k2, k3, -⟩ := id HB1.out; rw [HG.out])
    | (go_at_call 22; refine (scope6 l hl _).mono ?_; rintro e w2 ⟨rfl, hb1⟩; have HB2 := Lib.hid (HB1.out.keep hb1); clear HB1 k0 k2 k3 hb1; obtain ⟨k0, -, k2, k3, -⟩ := id HB2.out))
  go_ret
  exact ⟨ret_bool (by simp [locV, HG.out]), HB1.out.2.2.2.2⟩
theorem local6 (l : List UInt8) (hl : l.length = 16) (w : World) : Calls Tryz.prog 18 #[.agg (addrC true l).toArray] w fun e w' => e = .returned (.bool (locV true l)) ∧ Below w.heap.size w w' := by
  cases hg : grpV true l with
  | true => exact local6t l (Lib.hid hg) hl w
  | false => exact local6f l (Lib.hid hg) hl w
theorem local_any (v : Bool) (l : List UInt8) (hl : l.length = 16) (w : World) : Calls Tryz.prog 18 #[.agg (addrC v l).toArray] w fun e w' => e = .returned (.bool (locV v l)) ∧ Below w.heap.size w w' := by
  cases v with
  | true => exact local6 l hl w
  | false => exact local4 l hl w

set_option maxRecDepth 100000 in
set_option maxHeartbeats 1000000 in
theorem scope4a (l : List UInt8) (HG : Hid (grpV false l = false)) (hl : l.length = 16) (w : World) : Calls Tryz.prog 22 #[.agg (addrC false l).toArray] w fun e w' => e = .returned (.int .i64 (0)) ∧ Below w.heap.size w w' := by
  have HB := Lib.hid (BoxAt.made w false l hl 24)
  go_enter Tryz.func22, Tryz.ntmps22
  go_upto_region 1 with (fail)
  have hbx := HB.out
  clear HB
  generalize w.alloc (.cells (addrC false l).toArray 24) = W at hbx ⊢
  have HB := Lib.hid hbx
  obtain ⟨k0, k1, k2, k3, k4⟩ := hbx
  clear k1 k4
  go_wp2_with (first
    | (go_at_call 16; refine (group_any false l hl _).mono ?_; rintro e w1 ⟨rfl, hb1⟩; have HB1 := Lib.hid (HB.out.keep hb1); clear HB k0 k2 k3 hb1; obtain ⟨k0, -, k2, k3, -⟩ := id HB1.out; rw [HG.out]))
  go_ret
  exact ⟨rfl, HB1.out.2.2.2.2⟩

set_option maxRecDepth 100000 in
set_option maxHeartbeats 1000000 in
theorem scope4b (l : List UInt8) (HG : Hid (grpV false l = true)) (HL : Hid (linkV l = true)) (hl : l.length = 16) (w : World) : Calls Tryz.prog 22 #[.agg (addrC false l).toArray] w fun e w' => e = .returned (.int .i64 (2)) ∧ Below w.heap.size w w' := by
  have HB := Lib.hid (BoxAt.made w false l hl 24)
  go_enter Tryz.func22, Tryz.ntmps22
  go_upto_region 1 with (fail)
  have hbx := HB.out
  clear HB
  generalize w.alloc (.cells (addrC false l).toArray 24) = W at hbx ⊢
  have HB := Lib.hid hbx
  obtain ⟨k0, k1, k2, k3, k4⟩ := hbx
  clear k1 k4
  go_wp2_with (first
    | (go_at_call 16; refine (group_any false l hl _).mono ?_; rintro e w1 ⟨rfl, hb1⟩; have HB1 := Lib.hid (HB.out.keep hb1); clear HB k0 k2 k3 hb1; obtain ⟨k0, -, k2, k3, -⟩ := id HB1.out; rw [HG.out])
    | (go_at_call 18; refine (local4 l hl _).mono ?_; rintro e w2 ⟨rfl, hb1⟩; have HB2 := Lib.hid (HB1.out.keep hb1); clear HB1 k0 k2 k3 hb1; obtain ⟨k0, -, k2, k3, -⟩ := id HB2.out; rw [HL.out]))
  go_ret
  exact ⟨rfl, HB2.out.2.2.2.2⟩

set_option maxRecDepth 100000 in
set_option maxHeartbeats 1000000 in
theorem scope4c (l : List UInt8) (x y : UInt8) (hx : ∀ h, l[0]'h = x) (hy : ∀ h, l[1]'h = y) (HG : Hid (grpV false l = true)) (HL : Hid (linkV l = false)) (h0 : ((x.toNat : Int) == 239) = true) (h1 : ((y.toNat : Int) == 255) = true) (hl : l.length = 16) (w : World) : Calls Tryz.prog 22 #[.agg (addrC false l).toArray] w fun e w' => e = .returned (.int .i64 (3)) ∧ Below w.heap.size w w' := by
  have HB := Lib.hid (BoxAt.made w false l hl 24)
  go_enter Tryz.func22, Tryz.ntmps22
  go_upto_region 1 with (fail)
  have hbx := HB.out
  clear HB
  generalize w.alloc (.cells (addrC false l).toArray 24) = W at hbx ⊢
  have HB := Lib.hid hbx
  obtain ⟨k0, k1, k2, k3, k4⟩ := hbx
  clear k1 k4
  go_wp2_with (first
    | (go_at_call 16; refine (group_any false l hl _).mono ?_; rintro e w1 ⟨rfl, hb1⟩; have HB1 := Lib.hid (HB.out.keep hb1); clear HB k0 k2 k3 hb1; obtain ⟨k0, -, k2, k3, -⟩ := id HB1.out; rw [HG.out])
    | (go_at_call 18; refine (local4 l hl _).mono ?_; rintro e w2 ⟨rfl, hb1⟩; have HB2 := Lib.hid (HB1.out.keep hb1); clear HB1 k0 k2 k3 hb1; obtain ⟨k0, -, k2, k3, -⟩ := id HB2.out; rw [HL.out]; have c0 := HB2.out.at 0 (by omega); have c1 := HB2.out.at 1 (by omega); rw [hx] at c0; rw [hy] at c1))
  go_ret
  exact ⟨rfl, HB2.out.2.2.2.2⟩

set_option maxRecDepth 100000 in
set_option maxHeartbeats 1000000 in
theorem scope4d (l : List UInt8) (x y : UInt8) (hx : ∀ h, l[0]'h = x) (hy : ∀ h, l[1]'h = y) (HG : Hid (grpV false l = true)) (HL : Hid (linkV l = false)) (h0 : ((x.toNat : Int) == 239) = true) (h1 : ((y.toNat : Int) == 255) = false) (h2 : 192 ≤ (y.toNat : Int)) (h3 : (y.toNat : Int) ≤ 195) (hl : l.length = 16) (w : World) : Calls Tryz.prog 22 #[.agg (addrC false l).toArray] w fun e w' => e = .returned (.int .i64 (8)) ∧ Below w.heap.size w w' := by
  have HB := Lib.hid (BoxAt.made w false l hl 24)
  go_enter Tryz.func22, Tryz.ntmps22
  go_upto_region 1 with (fail)
  have hbx := HB.out
  clear HB
  generalize w.alloc (.cells (addrC false l).toArray 24) = W at hbx ⊢
  have HB := Lib.hid hbx
  obtain ⟨k0, k1, k2, k3, k4⟩ := hbx
  clear k1 k4
  go_wp2_with (first
    | (go_at_call 16; refine (group_any false l hl _).mono ?_; rintro e w1 ⟨rfl, hb1⟩; have HB1 := Lib.hid (HB.out.keep hb1); clear HB k0 k2 k3 hb1; obtain ⟨k0, -, k2, k3, -⟩ := id HB1.out; rw [HG.out])
    | (go_at_call 18; refine (local4 l hl _).mono ?_; rintro e w2 ⟨rfl, hb1⟩; have HB2 := Lib.hid (HB1.out.keep hb1); clear HB1 k0 k2 k3 hb1; obtain ⟨k0, -, k2, k3, -⟩ := id HB2.out; rw [HL.out]; have c0 := HB2.out.at 0 (by omega); have c1 := HB2.out.at 1 (by omega); rw [hx] at c0; rw [hy] at c1))
  go_ret
  exact ⟨rfl, HB2.out.2.2.2.2⟩

set_option maxRecDepth 100000 in
set_option maxHeartbeats 1000000 in
theorem scope4e (l : List UInt8) (x y : UInt8) (hx : ∀ h, l[0]'h = x) (hy : ∀ h, l[1]'h = y) (HG : Hid (grpV false l = true)) (HL : Hid (linkV l = false)) (h0 : ((x.toNat : Int) == 239) = true) (h1 : ((y.toNat : Int) == 255) = false) (h2 : 192 ≤ (y.toNat : Int)) (h3 : ¬ (y.toNat : Int) ≤ 195) (hl : l.length = 16) (w : World) : Calls Tryz.prog 22 #[.agg (addrC false l).toArray] w fun e w' => e = .returned (.int .i64 (14)) ∧ Below w.heap.size w w' := by
  have HB := Lib.hid (BoxAt.made w false l hl 24)
  go_enter Tryz.func22, Tryz.ntmps22
  go_upto_region 1 with (fail)
  have hbx := HB.out
  clear HB
  generalize w.alloc (.cells (addrC false l).toArray 24) = W at hbx ⊢
  have HB := Lib.hid hbx
  obtain ⟨k0, k1, k2, k3, k4⟩ := hbx
  clear k1 k4
  go_wp2_with (first
    | (go_at_call 16; refine (group_any false l hl _).mono ?_; rintro e w1 ⟨rfl, hb1⟩; have HB1 := Lib.hid (HB.out.keep hb1); clear HB k0 k2 k3 hb1; obtain ⟨k0, -, k2, k3, -⟩ := id HB1.out; rw [HG.out])
    | (go_at_call 18; refine (local4 l hl _).mono ?_; rintro e w2 ⟨rfl, hb1⟩; have HB2 := Lib.hid (HB1.out.keep hb1); clear HB1 k0 k2 k3 hb1; obtain ⟨k0, -, k2, k3, -⟩ := id HB2.out; rw [HL.out]; have c0 := HB2.out.at 0 (by omega); have c1 := HB2.out.at 1 (by omega); rw [hx] at c0; rw [hy] at c1))
  go_ret
  exact ⟨rfl, HB2.out.2.2.2.2⟩

set_option maxRecDepth 100000 in
set_option maxHeartbeats 1000000 in
theorem scope4f (l : List UInt8) (x y : UInt8) (hx : ∀ h, l[0]'h = x) (hy : ∀ h, l[1]'h = y) (HG : Hid (grpV false l = true)) (HL : Hid (linkV l = false)) (h0 : ((x.toNat : Int) == 239) = true) (h1 : ((y.toNat : Int) == 255) = false) (h2 : ¬ 192 ≤ (y.toNat : Int)) (hl : l.length = 16) (w : World) : Calls Tryz.prog 22 #[.agg (addrC false l).toArray] w fun e w' => e = .returned (.int .i64 (14)) ∧ Below w.heap.size w w' := by
  have HB := Lib.hid (BoxAt.made w false l hl 24)
  go_enter Tryz.func22, Tryz.ntmps22
  go_upto_region 1 with (fail)
  have hbx := HB.out
  clear HB
  generalize w.alloc (.cells (addrC false l).toArray 24) = W at hbx ⊢
  have HB := Lib.hid hbx
  obtain ⟨k0, k1, k2, k3, k4⟩ := hbx
  clear k1 k4
  go_wp2_with (first
    | (go_at_call 16; refine (group_any false l hl _).mono ?_; rintro e w1 ⟨rfl, hb1⟩; have HB1 := Lib.hid (HB.out.keep hb1); clear HB k0 k2 k3 hb1; obtain ⟨k0, -, k2, k3, -⟩ := id HB1.out; rw [HG.out])
    | (go_at_call 18; refine (local4 l hl _).mono ?_; rintro e w2 ⟨rfl, hb1⟩; have HB2 := Lib.hid (HB1.out.keep hb1); clear HB1 k0 k2 k3 hb1; obtain ⟨k0, -, k2, k3, -⟩ := id HB2.out; rw [HL.out]; have c0 := HB2.out.at 0 (by omega); have c1 := HB2.out.at 1 (by omega); rw [hx] at c0; rw [hy] at c1))
  go_ret
  exact ⟨rfl, HB2.out.2.2.2.2⟩

set_option maxRecDepth 100000 in
set_option maxHeartbeats 1000000 in
theorem scope4g (l : List UInt8) (x y : UInt8) (hx : ∀ h, l[0]'h = x) (hy : ∀ h, l[1]'h = y) (HG : Hid (grpV false l = true)) (HL : Hid (linkV l = false)) (h0 : ((x.toNat : Int) == 239) = false) (hl : l.length = 16) (w : World) : Calls Tryz.prog 22 #[.agg (addrC false l).toArray] w fun e w' => e = .returned (.int .i64 (14)) ∧ Below w.heap.size w w' := by
  have HB := Lib.hid (BoxAt.made w false l hl 24)
  go_enter Tryz.func22, Tryz.ntmps22
  go_upto_region 1 with (fail)
  have hbx := HB.out
  clear HB
  generalize w.alloc (.cells (addrC false l).toArray 24) = W at hbx ⊢
  have HB := Lib.hid hbx
  obtain ⟨k0, k1, k2, k3, k4⟩ := hbx
  clear k1 k4
  go_wp2_with (first
    | (go_at_call 16; refine (group_any false l hl _).mono ?_; rintro e w1 ⟨rfl, hb1⟩; have HB1 := Lib.hid (HB.out.keep hb1); clear HB k0 k2 k3 hb1; obtain ⟨k0, -, k2, k3, -⟩ := id HB1.out; rw [HG.out])
    | (go_at_call 18; refine (local4 l hl _).mono ?_; rintro e w2 ⟨rfl, hb1⟩; have HB2 := Lib.hid (HB1.out.keep hb1); clear HB1 k0 k2 k3 hb1; obtain ⟨k0, -, k2, k3, -⟩ := id HB2.out; rw [HL.out]; have c0 := HB2.out.at 0 (by omega); have c1 := HB2.out.at 1 (by omega); rw [hx] at c0; rw [hy] at c1))
  go_ret
  exact ⟨rfl, HB2.out.2.2.2.2⟩
theorem scope4 (l : List UInt8) (hl : l.length = 16) (w : World) : Calls Tryz.prog 22 #[.agg (addrC false l).toArray] w fun e w' => e = .returned (.int .i64 (scpV false l)) ∧ Below w.heap.size w w' := by
  cases hg : grpV false l with
  | false => exact (scope4a l (Lib.hid hg) hl w).mono fun e w' h => ⟨by rw [h.1]; simp [scpV, hg], h.2⟩
  | true =>
    cases hk : linkV l with
    | true => exact (scope4b l (Lib.hid hg) (Lib.hid hk) hl w).mono fun e w' h => ⟨by rw [h.1]; simp [scpV, hg, hk], h.2⟩
    | false =>
      have e0 : bN l 0 = ((l[0]'(by omega)).toNat : Int) := by simp [bN, List.getD, List.getElem?_eq_getElem (show 0 < l.length by omega)]
      have e1 : bN l 1 = ((l[1]'(by omega)).toNat : Int) := by simp [bN, List.getD, List.getElem?_eq_getElem (show 1 < l.length by omega)]
      generalize hx : l[0]'(by omega) = x at e0
      generalize hy : l[1]'(by omega) = y at e1
      by_cases h0 : (x.toNat : Int) = 239
      · by_cases h1 : (y.toNat : Int) = 255
        · exact (scope4c l x y (fun _ => hx) (fun _ => hy) (Lib.hid hg) (Lib.hid hk) (by simp [h0]) (by simp [h1]) hl w).mono fun e w' h => ⟨by rw [h.1]; simp [scpV, hg, hk, e0, e1, h0, h1], h.2⟩
        · by_cases h2 : 192 ≤ (y.toNat : Int)
          · by_cases h3 : (y.toNat : Int) ≤ 195
            · exact (scope4d l x y (fun _ => hx) (fun _ => hy) (Lib.hid hg) (Lib.hid hk) (by simp [h0]) (by simp [h1]) h2 h3 hl w).mono fun e w' h => ⟨by rw [h.1]; simp [scpV, hg, hk, e0, e1, h0, h1, h2, h3], h.2⟩
            · exact (scope4e l x y (fun _ => hx) (fun _ => hy) (Lib.hid hg) (Lib.hid hk) (by simp [h0]) (by simp [h1]) h2 h3 hl w).mono fun e w' h => ⟨by rw [h.1]; simp [scpV, hg, hk, e0, e1, h0, h1, h2, h3], h.2⟩
          · exact (scope4f l x y (fun _ => hx) (fun _ => hy) (Lib.hid hg) (Lib.hid hk) (by simp [h0]) (by simp [h1]) h2 hl w).mono fun e w' h => ⟨by rw [h.1]; simp [scpV, hg, hk, e0, e1, h0, h1, h2], h.2⟩
      · exact (scope4g l x y (fun _ => hx) (fun _ => hy) (Lib.hid hg) (Lib.hid hk) (by simp [h0]) hl w).mono fun e w' h => ⟨by rw [h.1]; simp [scpV, hg, hk, e0, e1, h0], h.2⟩
theorem scope_any (v : Bool) (l : List UInt8) (hl : l.length = 16) (w : World) : Calls Tryz.prog 22 #[.agg (addrC v l).toArray] w fun e w' => e = .returned (.int .i64 (scpV v l)) ∧ Below w.heap.size w w' := by
  cases v with
  | true => exact scope6 l hl w
  | false => exact scope4 l hl w

end Go.Proofs.YtmpikhpnkfnnoaaGreatDoor
