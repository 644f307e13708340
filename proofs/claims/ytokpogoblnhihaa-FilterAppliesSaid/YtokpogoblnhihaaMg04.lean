/-
  Texts joined: Own, Good.
-/
import Derived.Test.YtokpogoblnhihaaMg03
import Derived.Test.YtokpogoblnhihaaMg02
import Derived.BigQuiet
import Derived.Deep.QuietTactic
import Derived.Deep.RegionHeld3
/-
  The document's own answer: an address that is good.
-/
namespace Go.Proofs.Ytokpogoblnhihaa
open Go.RowKit
set_option linter.unusedVariables false
attribute [local go_sem ↓] bld_addr bld_b16 ld_addr st_addr ld_b16
attribute [local go_sem] ldr_addr str_addr ldr_b16

/-- An address of four bytes has zeros behind them. -/
def ownK (v : Bool) (l : List UInt8) (k : Nat) : List UInt8 := if v then l else l.take 4 ++ (List.replicate (k - 4) 0 ++ l.drop k)
def ownV (v : Bool) (l : List UInt8) : List UInt8 := ownK v l 16
theorem ownK_length (v : Bool) (l : List UInt8) (hl : l.length = 16) (k : Nat) (h4 : 4 ≤ k) (h16 : k ≤ 16) : (ownK v l k).length = 16 := by
  cases v <;> simp [ownK] <;> omega
theorem ownV_length (v : Bool) (l : List UInt8) (hl : l.length = 16) : (ownV v l).length = 16 := ownK_length v l hl 16 (by omega) (by omega)
theorem ownK_start (v : Bool) (l : List UInt8) : ownK v l 4 = l := by cases v <;> simp [ownK]
theorem ownK_step (l : List UInt8) (hl : l.length = 16) (k : Nat) (h4 : 4 ≤ k) (h16 : k < 16) : (ownK false l k).set k 0 = ownK false l (k + 1) := by
  have h0 : l.drop k = l[k] :: l.drop (k + 1) := List.drop_eq_getElem_cons (by omega)
  simp only [ownK, Bool.false_eq_true, if_false]
  rw [List.set_append_right _ _ (by simp; omega), List.set_append_right _ _ (by simp; omega), h0]
  rw [show k - (l.take 4).length - (List.replicate (k - 4) (0 : UInt8)).length = 0 by simp; omega, List.set_cons_zero]
  rw [show k + 1 - 4 = (k - 4) + 1 by omega, List.replicate_succ']
  simp
/-- The two objects on the way. -/
def OwS (w wr : World) (v : Bool) (l : List UInt8) (k : Nat) : Prop :=
  ObjAt wr w.heap.size (addrC v (ownK v l k)).toArray 37 ∧ ObjAt wr (w.heap.size + 1) (addrC false (List.replicate 16 0)).toArray 37 ∧ Below w.heap.size w wr
theorem OwS.start (w : World) (v : Bool) (l : List UInt8) : OwS w ((w.alloc (.cells (addrC v l).toArray 37)).alloc (.cells #[.bool false, .int .u8 0, .int .u8 0, .int .u8 0, .int .u8 0, .int .u8 0, .int .u8 0, .int .u8 0, .int .u8 0, .int .u8 0, .int .u8 0, .int .u8 0, .int .u8 0, .int .u8 0, .int .u8 0, .int .u8 0, .int .u8 0] 37)) v l 4 := by
  have h0 := (ObjAt.made w (addrC v l).toArray 37).alloc (.cells #[.bool false, .int .u8 0, .int .u8 0, .int .u8 0, .int .u8 0, .int .u8 0, .int .u8 0, .int .u8 0, .int .u8 0, .int .u8 0, .int .u8 0, .int .u8 0, .int .u8 0, .int .u8 0, .int .u8 0, .int .u8 0, .int .u8 0] 37)
  have h1 := ObjAt.made (w.alloc (.cells (addrC v l).toArray 37)) #[.bool false, .int .u8 0, .int .u8 0, .int .u8 0, .int .u8 0, .int .u8 0, .int .u8 0, .int .u8 0, .int .u8 0, .int .u8 0, .int .u8 0, .int .u8 0, .int .u8 0, .int .u8 0, .int .u8 0, .int .u8 0, .int .u8 0] 37
  rw [show (w.alloc (.cells (addrC v l).toArray 37)).heap.size = w.heap.size + 1 by simp] at h1
  refine ⟨?_, h1, ((Below.refl _ _).alloc (Nat.le_refl _) _).alloc (by simp) _⟩
  rw [ownK_start]; exact h0
theorem OwS.cell {w wr : World} {v : Bool} {l : List UInt8} {k : Nat} (h : OwS w wr v l k) (hl : l.length = 16) (h4 : 4 ≤ k) (hk : k < 16) : ∃ x, wr.cell? ⟨w.heap.size, 1 + k, none⟩ = some x := by
  have : (addrC v (ownK v l k)).length = 17 := by rw [addrC_length, ownK_length v l hl k h4 (by omega)]
  exact ⟨_, (h.1.cell (1 + k)).trans (by rw [List.getElem?_toArray]; exact List.getElem?_eq_getElem (by omega))⟩
theorem OwS.step {w wr : World} {l : List UInt8} {k : Nat} (h : OwS w wr false l k) (hl : l.length = 16) (h4 : 4 ≤ k) (hk : k < 16) : OwS w (wr.setCell ⟨w.heap.size, 1 + k, none⟩ (.int .u8 0)) false l (k + 1) := by
  obtain ⟨h1, h2, h3⟩ := h
  refine ⟨?_, ObjAt.other h2 ⟨w.heap.size, 1 + k, none⟩ _ (by simp), h3.setCell (p := ⟨w.heap.size, 1 + k, none⟩) (Nat.le_refl _) _⟩
  have o1 := h1.set (1 + k) (.int .u8 0)
  have e : (addrC false (ownK false l k)).toArray.setIfInBounds (1 + k) (.int .u8 0) = (addrC false ((ownK false l k).set k 0)).toArray := by
    apply Array.ext'
    rw [Array.toList_setIfInBounds]
    show (Value.bool false :: B8 (ownK false l k)).set (1 + k) _ = Value.bool false :: B8 ((ownK false l k).set k 0)
    rw [Nat.add_comm, List.set_cons_succ]
    unfold B8
    rw [List.map_set]
    rfl
  rw [e, ownK_step l hl k h4 hk] at o1
  exact o1
theorem OwS.skip {w wr : World} {l : List UInt8} {k : Nat} (h : OwS w wr true l k) : OwS w wr true l (k + 1) := h
theorem OwS.row {w wr : World} {v : Bool} {l : List UInt8} (h : OwS w wr v l 16) (hl : l.length = 16) : row? wr w.heap.size 0 17 = some (addrC v (ownV v l)) :=
  obj_row (A := []) (M := addrC v (ownV v l)) (C := []) (by simpa [ownV] using h.1) rfl (by rw [addrC_length, ownV_length v l hl])
theorem OwS.free {w wr : World} {v : Bool} {l : List UInt8} {k : Nat} (h : OwS w wr v l k) : free? wr (w.heap.size + 1) 0 17 = true := obj_free (n := 17) h.2.1 (by simp [addrC_length])
theorem OwS.done {w wr : World} {v : Bool} {l : List UInt8} {k : Nat} (h : OwS w wr v l k) (hl : l.length = 16) : row? (aggW wr (w.heap.size + 1) (addrC v (ownV v l))) (w.heap.size + 1) 0 17 = some (addrC v (ownV v l)) ∧ Below w.heap.size w (aggW wr (w.heap.size + 1) (addrC v (ownV v l))) :=
  ⟨aggW_row h.free (by rw [addrC_length, ownV_length v l hl]), aggW_below h.2.2 (by omega) _⟩

end Go.Proofs.Ytokpogoblnhihaa

/-
  The contract of addr.Good.
-/
namespace Go.Proofs.Ytokpogoblnhihaa
open Go.RowKit
set_option linter.unusedVariables false
attribute [local go_sem ↓] ld_b16
attribute [local go_sem] ldr_b16

/-- Is it good? -/
def goodV (v : Bool) (l : List UInt8) : Bool := v || decide (l = ownV v l)
/-- What the region reads. -/
def GoA (w W : World) (l : List UInt8) : Prop :=
  row? W w.heap.size 1 16 = some (B8 l) ∧ W.cell? ⟨w.heap.size, 1, none⟩ = some (.int .u8 ((l.getD 0 0).toNat : Int)) ∧ W.cell? ⟨w.heap.size, 2, none⟩ = some (.int .u8 ((l.getD 1 0).toNat : Int)) ∧ W.cell? ⟨w.heap.size, 3, none⟩ = some (.int .u8 ((l.getD 2 0).toNat : Int)) ∧ W.cell? ⟨w.heap.size, 4, none⟩ = some (.int .u8 ((l.getD 3 0).toNat : Int)) ∧ w.heap.size < W.heap.size ∧ Below w.heap.size w W
theorem GoA.below {w W W' : World} {l : List UInt8} (h : GoA w W l) (hb : Below W.heap.size W W') : GoA w W' l := by
  obtain ⟨h1, h2, h3, h4, h5, h6, h7⟩ := h
  have c : ∀ o, W'.cell? ⟨w.heap.size, o, none⟩ = W.cell? ⟨w.heap.size, o, none⟩ := fun o => hb.cell (p := ⟨w.heap.size, o, none⟩) h6
  exact ⟨row?_below h1 h6 hb, (c _).trans h2, (c _).trans h3, (c _).trans h4, (c _).trans h5, Nat.lt_of_lt_of_le h6 hb.size, bstep h7 hb⟩
theorem GoA.drew {w W : World} {l : List UInt8} (h : GoA w W l) : GoA w W.drew l := ⟨h.1, h.2.1, h.2.2.1, h.2.2.2.1, h.2.2.2.2.1, h.2.2.2.2.2.1, h.2.2.2.2.2.2.drew⟩
theorem GoA.made (w : World) (v : Bool) (l : List UInt8) (hl : l.length = 16) : GoA w (w.alloc (.cells (addrC v l).toArray 37)) l := by
  have o := ObjAt.made w (addrC v l).toArray 37
  have c : ∀ i (h : i < 16), (w.alloc (.cells (addrC v l).toArray 37)).cell? ⟨w.heap.size, i + 1, none⟩ = some (.int .u8 ((l.getD i 0).toNat : Int)) := fun i h => by
    rw [o.cell, List.getElem?_toArray]
    show (Value.bool v :: B8 l)[i + 1]? = _
    rw [List.getElem?_cons_succ]
    unfold B8
    rw [List.getElem?_map, List.getElem?_eq_getElem (by omega), List.getD_eq_getElem?_getD, List.getElem?_eq_getElem (by omega)]
    rfl
  exact ⟨obj_row (A := [.bool v]) (M := B8 l) (C := []) (by simpa [addrC] using o) rfl (by rw [B8_length, hl]), c 0 (by omega), c 1 (by omega), c 2 (by omega), c 3 (by omega), o.lt, (Below.refl _ _).alloc (Nat.le_refl _) _⟩

set_option maxRecDepth 100000 in
set_option maxHeartbeats 1000000 in
theorem good6 (l : List UInt8) (hl : l.length = 16) (w : World) : Calls Try.prog 48 #[.agg (addrC true l).toArray] w fun e w' => e = .returned (.bool true) ∧ Below w.heap.size w w' := by
  have k0 : (w.alloc (.cells (addrC true l).toArray 37)).cell? ⟨w.heap.size, 0, none⟩ = some (.bool true) := (ObjAt.made w (addrC true l).toArray 37).cell 0
  have hb : Below w.heap.size w (w.alloc (.cells (addrC true l).toArray 37)) := (Below.refl _ _).alloc (Nat.le_refl _) _
  go_enter Try.func48, Try.ntmps48
  go_upto_region 1 with (fail)
  generalize w.alloc (.cells (addrC true l).toArray 37) = W at k0 hb ⊢
  have Hb := Lib.hid hb; clear hb
  go_quiet (fail)
  go_wp2
  go_ret
  exact ⟨rfl, bdrewN Hb.out _⟩

set_option maxRecDepth 100000 in
set_option maxHeartbeats 2000000 in
theorem good4 (l : List UInt8) (hl : l.length = 16) (w : World) : Calls Try.prog 48 #[.agg (addrC false l).toArray] w fun e w' => e = .returned (.bool (goodV false l)) ∧ Below w.heap.size w w' := by
  have k0 : (w.alloc (.cells (addrC false l).toArray 37)).cell? ⟨w.heap.size, 0, none⟩ = some (.bool false) := (ObjAt.made w (addrC false l).toArray 37).cell 0
  have HG := Lib.hid (GoA.made w false l hl)
  obtain ⟨R, hR⟩ : ∃ R, R = goodV false l := ⟨_, rfl⟩
  rw [← hR]
  obtain ⟨b0, b1, b2, b3, b4, b5, b6, b7, b8, b9, ba, bb, bc, bd, be, bf, rfl⟩ := list16 hl
  obtain ⟨i8, hi8⟩ := info_of Try.underlying5
  have heq : ∀ w0, (Op.equalIn 10000 35 (.agg (B8 [b0, b1, b2, b3, b4, b5, b6, b7, b8, b9, ba, bb, bc, bd, be, bf]).toArray) (.agg #[.int .u8 b0.toNat, .int .u8 b1.toNat, .int .u8 b2.toNat, .int .u8 b3.toNat, .int .u8 0, .int .u8 0, .int .u8 0, .int .u8 0, .int .u8 0, .int .u8 0, .int .u8 0, .int .u8 0, .int .u8 0, .int .u8 0, .int .u8 0, .int .u8 0])).run Try.prog w0 = .ok R w0 := fun w0 => by
    have h := run_eq_bytes_d (P := Try.prog) Try.underlying35 Try.underlying5 (by kernel_rfl) hi8 (by kernel_rfl) [b0, b1, b2, b3, b4, b5, b6, b7, b8, b9, ba, bb, bc, bd, be, bf] [b0, b1, b2, b3, 0, 0, 0, 0, 0, 0, 0, 0, 0, 0, 0, 0] rfl rfl 9998 w0
    rw [hR]
    exact h
  have hfd : ∀ w0, (Instr.field 37 (.agg #[.bool false, .int .u8 b0.toNat, .int .u8 b1.toNat, .int .u8 b2.toNat, .int .u8 b3.toNat, .int .u8 0, .int .u8 0, .int .u8 0, .int .u8 0, .int .u8 0, .int .u8 0, .int .u8 0, .int .u8 0, .int .u8 0, .int .u8 0, .int .u8 0, .int .u8 0]) 1).run Try.prog w0 = .ok (.agg #[.int .u8 b0.toNat, .int .u8 b1.toNat, .int .u8 b2.toNat, .int .u8 b3.toNat, .int .u8 0, .int .u8 0, .int .u8 0, .int .u8 0, .int .u8 0, .int .u8 0, .int .u8 0, .int .u8 0, .int .u8 0, .int .u8 0, .int .u8 0, .int .u8 0]) w0 := fun _ => by kernel_rfl
  clear hi8 hR
  generalize hq : B8 [b0, b1, b2, b3, b4, b5, b6, b7, b8, b9, ba, bb, bc, bd, be, bf] = Q at heq
  have Hq := Lib.hid hq; clear hq
  go_enter Try.func48, Try.ntmps48
  go_upto_region 1 with (fail)
  generalize w.alloc _ = W at k0 HG ⊢
  obtain ⟨q0, q1, q2, q3, q4, q5, q6⟩ := HG.out
  rw [Hq.out] at q0
  replace q0 := (rangeAt_of_row? q0).1
  have hu16 := Try.underlying35
  have hs16 : (Try.prog.info? 35).map (·.size) = some Q.length := by rw [← Hq.out]; kernel_rfl
  simp only [List.getD_cons_zero, List.getD_cons_succ] at q1 q2 q3 q4
  have Hq6 := Lib.hid q6; clear q6
  obtain ⟨d0, d1, d2, d3, d4, d5, d6⟩ := HG.out.drew
  rw [Hq.out] at d0
  replace d0 := (rangeAt_of_row? d0).1
  simp only [List.getD_cons_zero, List.getD_cons_succ] at d1 d2 d3 d4
  have d7 : W.drew.cell? ⟨w.heap.size, 0, none⟩ = some (.bool false) := k0
  clear d5
  have Hq5 := Lib.hid q5; clear q5
  go_region_held3 (fun w' => w'.rangeAt w.heap.size 1 Q ∧ w'.cell? ⟨w.heap.size, 1, none⟩ = some (.int .u8 (b0.toNat : Int)) ∧ w'.cell? ⟨w.heap.size, 2, none⟩ = some (.int .u8 (b1.toNat : Int)) ∧ w'.cell? ⟨w.heap.size, 3, none⟩ = some (.int .u8 (b2.toNat : Int)) ∧ w'.cell? ⟨w.heap.size, 4, none⟩ = some (.int .u8 (b3.toNat : Int)) ∧ w'.cell? ⟨w.heap.size, 0, none⟩ = some (.bool false) ∧ Below w.heap.size w w') (first | assumption | exact ⟨d0, d1, d2, d3, d4, d7, d6⟩ | exact ⟨s0, s1, s2, s3, s4, s7, s6⟩) ((go_at_call 60; refine (ip4_any _ _ _ _ _).mono ?_; rintro e w1 ⟨rfl, hb1⟩; have hg := Lib.hid (HG.out.drew.below hb1); obtain ⟨s0, s1, s2, s3, s4, s5, s6⟩ := hg.out; rw [Hq.out] at s0; replace s0 := (rangeAt_of_row? s0).1; simp only [List.getD_cons_zero, List.getD_cons_succ] at s1 s2 s3 s4; have s7 := (hb1.cell (p := ⟨w.heap.size, 0, none⟩) Hq5.out).trans k0; clear s5 hb1))
  go_wp2
  go_ret
  exact ⟨rfl, by assumption⟩
theorem good_any (v : Bool) (l : List UInt8) (hl : l.length = 16) (w : World) : Calls Try.prog 48 #[.agg (addrC v l).toArray] w fun e w' => e = .returned (.bool (goodV v l)) ∧ Below w.heap.size w w' := by
  cases v
  · exact good4 l hl w
  · exact good6 l hl w
end Go.Proofs.Ytokpogoblnhihaa

