/-
  The contract of addr.Good.
-/
import Derived.Test.YtalnfjnfcloonaaDoorMg06
import Derived.Test.YtalnfjnfcloonaaDoorMg04
import Derived.BigQuiet
import Derived.Deep.QuietTactic
import Derived.Deep.RegionHeld3
namespace Go.Proofs.YtalnfjnfcloonaaDoor
open Go.RowKit
set_option linter.unusedVariables false
attribute [local go_sem ↓] ld_b16
attribute [local go_sem] ldr_b16

/-- Is it good? -/
def goodV (v : Bool) (l : List UInt8) : Bool := v || decide (l = ownV v l)
/-- What the region reads. -/
def GoA (w W : World) (l : List UInt8) : Prop :=
  row? W w.heap.size 1 16 = some (B8 l) ∧ W.cell? ⟨w.heap.size, 1, none⟩ = some (.int .u8 ((l.getD 0 0).toNat : Int)) ∧ W.cell? ⟨w.heap.size, 2, none⟩ = some (.int .u8 ((l.getD 1 0).toNat : Int)) ∧ W.cell? ⟨w.heap.size, 3, none⟩ = some (.int .u8 ((l.getD 2 0).toNat : Int)) ∧ W.cell? ⟨w.heap.size, 4, none⟩ = some (.int .u8 ((l.getD 3 0).toNat : Int)) ∧ w.heap.size < W.heap.size ∧ Below w.heap.size w W
theorem GoA.below {w W W' : World} {l : List UInt8} (h : GoA w W l) (hb : Below W.heap.size W W') : GoA w W' l := by
  obtain ⟨h1, h2, h3, h4, h5, h6, h7⟩ := h
  have c : ∀ o, W'.cell? ⟨w.heap.size, o, none⟩ = W.cell? ⟨w.heap.size, o, none⟩ := fun o => hb.cell (p := ⟨w.heap.size, o, none⟩) h6
  exact ⟨row?_below h1 h6 hb, (c _).trans h2, (c _).trans h3, (c _).trans h4, (c _).trans h5, Nat.lt_of_lt_of_le h6 hb.size, bstep h7 hb⟩
theorem GoA.drew {w W : World} {l : List UInt8} (h : GoA w W l) : GoA w W.drew l := ⟨h.1, h.2.1, h.2.2.1, h.2.2.2.1, h.2.2.2.2.1, h.2.2.2.2.2.1, h.2.2.2.2.2.2.drew⟩
theorem GoA.made (w : World) (v : Bool) (l : List UInt8) (hl : l.length = 16) : GoA w (w.alloc (.cells (addrC v l).toArray 25)) l := by
  have o := ObjAt.made w (addrC v l).toArray 25
  have c : ∀ i (h : i < 16), (w.alloc (.cells (addrC v l).toArray 25)).cell? ⟨w.heap.size, i + 1, none⟩ = some (.int .u8 ((l.getD i 0).toNat : Int)) := fun i h => by
    rw [o.cell, List.getElem?_toArray]
    show (Value.bool v :: B8 l)[i + 1]? = _
    rw [List.getElem?_cons_succ]
    unfold B8
    rw [List.getElem?_map, List.getElem?_eq_getElem (by omega), List.getD_eq_getElem?_getD, List.getElem?_eq_getElem (by omega)]
    rfl
  exact ⟨obj_row (A := [.bool v]) (M := B8 l) (C := []) (by simpa [addrC] using o) rfl (by rw [B8_length, hl]), c 0 (by omega), c 1 (by omega), c 2 (by omega), c 3 (by omega), o.lt, (Below.refl _ _).alloc (Nat.le_refl _) _⟩

set_option maxRecDepth 100000 in
set_option maxHeartbeats 1000000 in
theorem good6 (l : List UInt8) (hl : l.length = 16) (w : World) : Calls Tryd.prog 23 #[.agg (addrC true l).toArray] w fun e w' => e = .returned (.bool true) ∧ Below w.heap.size w w' := by
  have k0 : (w.alloc (.cells (addrC true l).toArray 25)).cell? ⟨w.heap.size, 0, none⟩ = some (.bool true) := (ObjAt.made w (addrC true l).toArray 25).cell 0
  have hb : Below w.heap.size w (w.alloc (.cells (addrC true l).toArray 25)) := (Below.refl _ _).alloc (Nat.le_refl _) _
  go_enter Tryd.func23, Tryd.ntmps23
  go_upto_region 1 with (fail)
  generalize w.alloc (.cells (addrC true l).toArray 25) = W at k0 hb ⊢
  have Hb := Lib.hid hb; clear hb
  go_quiet (fail)
  go_wp2
  go_ret
  exact ⟨rfl, bdrewN Hb.out _⟩

set_option maxRecDepth 100000 in
set_option maxHeartbeats 2000000 in
theorem good4 (l : List UInt8) (hl : l.length = 16) (w : World) : Calls Tryd.prog 23 #[.agg (addrC false l).toArray] w fun e w' => e = .returned (.bool (goodV false l)) ∧ Below w.heap.size w w' := by
  have k0 : (w.alloc (.cells (addrC false l).toArray 25)).cell? ⟨w.heap.size, 0, none⟩ = some (.bool false) := (ObjAt.made w (addrC false l).toArray 25).cell 0
  have HG := Lib.hid (GoA.made w false l hl)
  obtain ⟨R, hR⟩ : ∃ R, R = goodV false l := ⟨_, rfl⟩
  rw [← hR]
  obtain ⟨b0, b1, b2, b3, b4, b5, b6, b7, b8, b9, ba, bb, bc, bd, be, bf, rfl⟩ := list16 hl
  obtain ⟨i8, hi8⟩ := info_of Tryd.underlying5
  have heq : ∀ w0, (Op.equalIn 10000 23 (.agg (B8 [b0, b1, b2, b3, b4, b5, b6, b7, b8, b9, ba, bb, bc, bd, be, bf]).toArray) (.agg #[.int .u8 b0.toNat, .int .u8 b1.toNat, .int .u8 b2.toNat, .int .u8 b3.toNat, .int .u8 0, .int .u8 0, .int .u8 0, .int .u8 0, .int .u8 0, .int .u8 0, .int .u8 0, .int .u8 0, .int .u8 0, .int .u8 0, .int .u8 0, .int .u8 0])).run Tryd.prog w0 = .ok R w0 := fun w0 => by
    have h := run_eq_bytes_d (P := Tryd.prog) Tryd.underlying23 Tryd.underlying5 (by kernel_rfl) hi8 (by kernel_rfl) [b0, b1, b2, b3, b4, b5, b6, b7, b8, b9, ba, bb, bc, bd, be, bf] [b0, b1, b2, b3, 0, 0, 0, 0, 0, 0, 0, 0, 0, 0, 0, 0] rfl rfl 9998 w0
    rw [hR]
    exact h
  have hfd : ∀ w0, (Instr.field 25 (.agg #[.bool false, .int .u8 b0.toNat, .int .u8 b1.toNat, .int .u8 b2.toNat, .int .u8 b3.toNat, .int .u8 0, .int .u8 0, .int .u8 0, .int .u8 0, .int .u8 0, .int .u8 0, .int .u8 0, .int .u8 0, .int .u8 0, .int .u8 0, .int .u8 0, .int .u8 0]) 1).run Tryd.prog w0 = .ok (.agg #[.int .u8 b0.toNat, .int .u8 b1.toNat, .int .u8 b2.toNat, .int .u8 b3.toNat, .int .u8 0, .int .u8 0, .int .u8 0, .int .u8 0, .int .u8 0, .int .u8 0, .int .u8 0, .int .u8 0, .int .u8 0, .int .u8 0, .int .u8 0, .int .u8 0]) w0 := fun _ => by kernel_rfl
  clear hi8 hR
  generalize hq : B8 [b0, b1, b2, b3, b4, b5, b6, b7, b8, b9, ba, bb, bc, bd, be, bf] = Q at heq
  have Hq := Lib.hid hq; clear hq
  go_enter Tryd.func23, Tryd.ntmps23
  go_upto_region 1 with (fail)
  generalize w.alloc _ = W at k0 HG ⊢
  obtain ⟨q0, q1, q2, q3, q4, q5, q6⟩ := HG.out
  rw [Hq.out] at q0
  replace q0 := (rangeAt_of_row? q0).1
  have hu16 := Tryd.underlying23
  have hs16 : (Tryd.prog.info? 23).map (·.size) = some Q.length := by rw [← Hq.out]; kernel_rfl
  simp only [List.getD_cons_zero, List.getD_cons_succ] at q1 q2 q3 q4
  have Hq6 := Lib.hid q6; clear q6
  obtain ⟨d0, d1, d2, d3, d4, d5, d6⟩ := HG.out.drew
  rw [Hq.out] at d0
  replace d0 := (rangeAt_of_row? d0).1
  simp only [List.getD_cons_zero, List.getD_cons_succ] at d1 d2 d3 d4
  have d7 : W.drew.cell? ⟨w.heap.size, 0, none⟩ = some (.bool false) := k0
  clear d5
  have Hq5 := Lib.hid q5; clear q5
  go_region_held3 (fun w' => w'.rangeAt w.heap.size 1 Q ∧ w'.cell? ⟨w.heap.size, 1, none⟩ = some (.int .u8 (b0.toNat : Int)) ∧ w'.cell? ⟨w.heap.size, 2, none⟩ = some (.int .u8 (b1.toNat : Int)) ∧ w'.cell? ⟨w.heap.size, 3, none⟩ = some (.int .u8 (b2.toNat : Int)) ∧ w'.cell? ⟨w.heap.size, 4, none⟩ = some (.int .u8 (b3.toNat : Int)) ∧ w'.cell? ⟨w.heap.size, 0, none⟩ = some (.bool false) ∧ Below w.heap.size w w') (first | assumption | exact ⟨d0, d1, d2, d3, d4, d7, d6⟩ | exact ⟨s0, s1, s2, s3, s4, s7, s6⟩) ((go_at_call 38; refine (ip4_any _ _ _ _ _).mono ?_; rintro e w1 ⟨rfl, hb1⟩; have hg := Lib.hid (HG.out.drew.below hb1); obtain ⟨s0, s1, s2, s3, s4, s5, s6⟩ := hg.out; rw [Hq.out] at s0; replace s0 := (rangeAt_of_row? s0).1; simp only [List.getD_cons_zero, List.getD_cons_succ] at s1 s2 s3 s4; have s7 := (hb1.cell (p := ⟨w.heap.size, 0, none⟩) Hq5.out).trans k0; clear s5 hb1))
  go_wp2
  go_ret
  exact ⟨rfl, by assumption⟩
theorem good_any (v : Bool) (l : List UInt8) (hl : l.length = 16) (w : World) : Calls Tryd.prog 23 #[.agg (addrC v l).toArray] w fun e w' => e = .returned (.bool (goodV v l)) ∧ Below w.heap.size w w' := by
  cases v
  · exact good4 l hl w
  · exact good6 l hl w
end Go.Proofs.YtalnfjnfcloonaaDoor
