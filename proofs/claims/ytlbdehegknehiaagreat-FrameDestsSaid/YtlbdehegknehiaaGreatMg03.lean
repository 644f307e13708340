/-
  Texts joined: Own, Good, Tell, Tell2, Tell3, Tell4, Refa, Rbytes, PureCode.
-/
import Derived.Test.YtlbdehegknehiaaGreatMg00
import Derived.Test.YtlbdehegknehiaaGreatMg02
import Derived.Test.YtlbdehegknehiaaGreatMg01
import Derived.BigQuiet
import Derived.Deep.QuietTactic
import Derived.Deep.RegionHeld3
import Derived.WalkLawsBesides
import Derived.LoopTactic
import Derived.Test.YtlbdehegknehiaaGreatChecked
import Derived.WalkSpells
import Derived.Deep.AppendLies
/- A part of the proof. -/
namespace Go.Proofs.YtlbdehegknehiaaGreat
open Go.RowKit
set_option linter.unusedVariables false
attribute [local go_sem ↓] bld_addr bld_mac bld_b16 ld_addr st_addr ld_mac st_mac ld_b16
attribute [local go_sem] ldr_addr str_addr ldr_mac str_mac ldr_b16
def ownK (v : Bool) (l : List UInt8) (k : Nat) : List UInt8 := if v then l else l.take 4 ++ (List.replicate (k - 4) 0 ++ l.drop k)
def ownV (v : Bool) (l : List UInt8) : List UInt8 := ownK v l 16
theorem ownK_length (v : Bool) (l : List UInt8) (hl : l.length = 16) (k : Nat) (h4 : 4 ≤ k) (h16 : k ≤ 16) : (ownK v l k).length = 16 := by
  cases v <;> simp [ownK] <;> omega
theorem ownV_length (v : Bool) (l : List UInt8) (hl : l.length = 16) : (ownV v l).length = 16 := ownK_length v l hl 16 (by omega) (by omega)
theorem ownK_start (v : Bool) (l : List UInt8) : ownK v l 4 = l := by cases v <;> simp [ownK]
theorem ownK_step (l : List UInt8) (hl : l.length = 16) (k : Nat) (h4 : 4 ≤ k) (h16 : k < 16) : (ownK false l k).set k 0 = ownK false l (k + 1) := by
  have h0 : l.drop k = l[k] :: l.drop (k + 1) := List.drop_eq_getElem_cons (by omega)
  simp only [ownK, Bool.false_eq_true, if_false]
  rw [List.set_append_right _ _ (by simp; omega), List.set_append_right _ _ (by simp; omega), h0]
  rw [show k - (l.take 4).length - (List.replicate (k - 4) (0 : UInt8)).length = 0 by simp; omega, zsZ]
  rw [show k + 1 - 4 = (k - 4) + 1 by omega, List.replicate_succ']
  simp
def OwS (w wr : World) (v : Bool) (l : List UInt8) (k : Nat) : Prop :=
  ObjAt wr w.heap.size (addrC v (ownK v l k)).toArray 24 ∧ ObjAt wr (w.heap.size + 1) (addrC false (List.replicate 16 0)).toArray 24 ∧ Below w.heap.size w wr
theorem OwS.start (w : World) (v : Bool) (l : List UInt8) : OwS w ((w.alloc (.cells (addrC v l).toArray 24)).alloc (.cells zz17 24)) v l 4 := by
  have h0 := (ObjAt.made w (addrC v l).toArray 24).alloc (.cells zz17 24)
  have h1 := ObjAt.made (w.alloc (.cells (addrC v l).toArray 24)) zz17 24
  rw [show (w.alloc (.cells (addrC v l).toArray 24)).heap.size = w.heap.size + 1 by simp] at h1
  refine ⟨?_, h1, ((Below.refl _ _).alloc (Nat.le_refl _) _).alloc (by simp) _⟩
  rw [ownK_start]; exact h0
theorem OwS.cell {w wr : World} {v : Bool} {l : List UInt8} {k : Nat} (h : OwS w wr v l k) (hl : l.length = 16) (h4 : 4 ≤ k) (hk : k < 16) : ∃ x, wr.cell? ⟨w.heap.size, 1 + k, none⟩ = some x := by
  have : (addrC v (ownK v l k)).length = 17 := by rw [addrC_length, ownK_length v l hl k h4 (by omega)]
  exact ⟨_, (h.1.cell (1 + k)).trans (by rw [List.getElem?_toArray]; exact List.getElem?_eq_getElem (by omega))⟩
theorem OwS.frz {w wr : World} {v : Bool} {l : List UInt8} {k : Nat} (h : OwS w wr v l k) : wr.frozen? ⟨w.heap.size, 1 + k, none⟩ = false := h.1.free _
theorem OwS.step {w wr : World} {l : List UInt8} {k : Nat} (h : OwS w wr false l k) (hl : l.length = 16) (h4 : 4 ≤ k) (hk : k < 16) : OwS w (wr.setCell ⟨w.heap.size, 1 + k, none⟩ (.int .u8 0)) false l (k + 1) := by
  obtain ⟨h1, h2, h3⟩ := h
  refine ⟨?_, ObjAt.other h2 ⟨w.heap.size, 1 + k, none⟩ _ (by simp), h3.setCell (p := ⟨w.heap.size, 1 + k, none⟩) (Nat.le_refl _) _⟩
  have o1 := h1.set (1 + k) (.int .u8 0)
  have e : (addrC false (ownK false l k)).toArray.setIfInBounds (1 + k) (.int .u8 0) = (addrC false ((ownK false l k).set k 0)).toArray := by
    apply Array.ext'
    rw [Array.toList_setIfInBounds]
    show (Value.bool false :: B8 (ownK false l k)).set (1 + k) _ = Value.bool false :: B8 ((ownK false l k).set k 0)
    rw [Nat.add_comm, zsS]
    unfold B8
    rw [List.map_set]
    rfl
  rw [e, ownK_step l hl k h4 hk] at o1
  exact o1
theorem OwS.skip {w wr : World} {l : List UInt8} {k : Nat} (h : OwS w wr true l k) : OwS w wr true l (k + 1) := h
theorem OwS.row {w wr : World} {v : Bool} {l : List UInt8} (h : OwS w wr v l 16) (hl : l.length = 16) : row? wr w.heap.size 0 17 = some (addrC v (ownV v l)) :=
  obj_row (A := []) (M := addrC v (ownV v l)) (C := []) (by simpa [ownV] using h.1) rfl (by rw [addrC_length, ownV_length v l hl])
theorem OwS.free {w wr : World} {v : Bool} {l : List UInt8} {k : Nat} (h : OwS w wr v l k) : free? wr (w.heap.size + 1) 0 17 = true := obj_free (n := 17) h.2.1 (by simp [addrC_length])
theorem OwS.done {w wr : World} {v : Bool} {l : List UInt8} {k : Nat} (h : OwS w wr v l k) (hl : l.length = 16) : row? (aggW wr (w.heap.size + 1) (addrC v (ownV v l))) (w.heap.size + 1) 0 17 = some (addrC v (ownV v l)) ∧ Below w.heap.size w (aggW wr (w.heap.size + 1) (addrC v (ownV v l))) :=
  ⟨aggW_row h.free (by rw [addrC_length, ownV_length v l hl]), aggW_below h.2.2 (by omega) _⟩
end Go.Proofs.YtlbdehegknehiaaGreat

/- A part of the proof. -/
namespace Go.Proofs.YtlbdehegknehiaaGreat
set_option maxRecDepth 100000
set_option maxHeartbeats 2000000
open Go.RowKit
set_option linter.unusedVariables false
attribute [local go_sem ↓] ld_b16
attribute [local go_sem] ldr_b16
def goodV (v : Bool) (l : List UInt8) : Bool := v || decide (l = ownV v l)
def GoA (w W : World) (l : List UInt8) : Prop :=
  row? W w.heap.size 1 16 = some (B8 l) ∧ W.cell? ⟨w.heap.size, 1, none⟩ = some (.int .u8 ((l.getD 0 0).toNat : Int)) ∧ W.cell? ⟨w.heap.size, 2, none⟩ = some (.int .u8 ((l.getD 1 0).toNat : Int)) ∧ W.cell? ⟨w.heap.size, 3, none⟩ = some (.int .u8 ((l.getD 2 0).toNat : Int)) ∧ W.cell? ⟨w.heap.size, 4, none⟩ = some (.int .u8 ((l.getD 3 0).toNat : Int)) ∧ w.heap.size < W.heap.size ∧ Below w.heap.size w W
theorem GoA.below {w W W' : World} {l : List UInt8} (h : GoA w W l) (hb : Below W.heap.size W W') : GoA w W' l := by
  obtain ⟨h1, h2, h3, h4, h5, h6, h7⟩ := h
  have c : ∀ o, W'.cell? ⟨w.heap.size, o, none⟩ = W.cell? ⟨w.heap.size, o, none⟩ := fun o => hb.cell (p := ⟨w.heap.size, o, none⟩) h6
  exact ⟨row?_below h1 h6 hb, (c _).trans h2, (c _).trans h3, (c _).trans h4, (c _).trans h5, Nat.lt_of_lt_of_le h6 hb.size, bstep h7 hb⟩
theorem GoA.drew {w W : World} {l : List UInt8} (h : GoA w W l) : GoA w W.drew l := ⟨h.1, h.2.1, h.2.2.1, h.2.2.2.1, h.2.2.2.2.1, h.2.2.2.2.2.1, h.2.2.2.2.2.2.drew⟩
theorem GoA.made (w : World) (v : Bool) (l : List UInt8) (hl : l.length = 16) : GoA w (w.alloc (.cells (addrC v l).toArray 24)) l := by
  have o := ObjAt.made w (addrC v l).toArray 24
  have c : ∀ i (h : i < 16), (w.alloc (.cells (addrC v l).toArray 24)).cell? ⟨w.heap.size, i + 1, none⟩ = some (.int .u8 ((l.getD i 0).toNat : Int)) := fun i h => by
    rw [o.cell, List.getElem?_toArray]
    show (Value.bool v :: B8 l)[i + 1]? = _
    rw [List.getElem?_cons_succ]
    unfold B8
    rw [List.getElem?_map, List.getElem?_eq_getElem (by omega), List.getD_eq_getElem?_getD, List.getElem?_eq_getElem (by omega)]
    rfl
  exact ⟨obj_row (A := [.bool v]) (M := B8 l) (C := []) (by simpa [addrC] using o) rfl (by rw [B8_length, hl]), c 0 (by omega), c 1 (by omega), c 2 (by omega), c 3 (by omega), o.lt, (Below.refl _ _).alloc (Nat.le_refl _) _⟩
theorem good6 (l : List UInt8) (hl : l.length = 16) (w : World) : Calls Tryz.prog 28 #[.agg (addrC true l).toArray] w fun e w' => e = .returned (.bool true) ∧ Below w.heap.size w w' := by
  have k0 : (w.alloc (.cells (addrC true l).toArray 24)).cell? ⟨w.heap.size, 0, none⟩ = some (.bool true) := (ObjAt.made w (addrC true l).toArray 24).cell 0
  have hb : Below w.heap.size w (w.alloc (.cells (addrC true l).toArray 24)) := (Below.refl _ _).alloc (Nat.le_refl _) _
  go_enter Tryz.func28, Tryz.ntmps28
  go_upto_region 1 with (fail)
  generalize w.alloc (.cells (addrC true l).toArray 24) = W at k0 hb ⊢
  have Hb := zh hb; clear hb
  go_quiet (fail)
  go_wp2
  go_ret
  exact ⟨rfl, bdrewN Hb.out _⟩
theorem good4 (l : List UInt8) (hl : l.length = 16) (w : World) : Calls Tryz.prog 28 #[.agg (addrC false l).toArray] w fun e w' => e = .returned (.bool (goodV false l)) ∧ Below w.heap.size w w' := by
  have k0 : (w.alloc (.cells (addrC false l).toArray 24)).cell? ⟨w.heap.size, 0, none⟩ = some (.bool false) := (ObjAt.made w (addrC false l).toArray 24).cell 0
  have HG := zh (GoA.made w false l hl)
  obtain ⟨R, hR⟩ : ∃ R, R = goodV false l := ⟨_, rfl⟩
  rw [← hR]
  obtain ⟨b0, b1, b2, b3, b4, b5, b6, b7, b8, b9, ba, bb, bc, bd, be, bf, rfl⟩ := list16 hl
  obtain ⟨i8, hi8⟩ := info_of Tryz.underlying5
  have heq : ∀ w0, (Op.equalIn 10000 22 (.agg (B8 [b0, b1, b2, b3, b4, b5, b6, b7, b8, b9, ba, bb, bc, bd, be, bf]).toArray) (.agg #[.int .u8 b0.toNat, .int .u8 b1.toNat, .int .u8 b2.toNat, .int .u8 b3.toNat, .int .u8 0, .int .u8 0, .int .u8 0, .int .u8 0, .int .u8 0, .int .u8 0, .int .u8 0, .int .u8 0, .int .u8 0, .int .u8 0, .int .u8 0, .int .u8 0])).run Tryz.prog w0 = .ok R w0 := fun w0 => by
    have h := run_eq_bytes_d (P := Tryz.prog) Tryz.underlying22 Tryz.underlying5 (by kernel_rfl) hi8 (by kernel_rfl) [b0, b1, b2, b3, b4, b5, b6, b7, b8, b9, ba, bb, bc, bd, be, bf] [b0, b1, b2, b3, 0, 0, 0, 0, 0, 0, 0, 0, 0, 0, 0, 0] rfl rfl 9998 w0
    rw [hR]
    exact h
  have hfd : ∀ w0, (Instr.field 24 (.agg #[.bool false, .int .u8 b0.toNat, .int .u8 b1.toNat, .int .u8 b2.toNat, .int .u8 b3.toNat, .int .u8 0, .int .u8 0, .int .u8 0, .int .u8 0, .int .u8 0, .int .u8 0, .int .u8 0, .int .u8 0, .int .u8 0, .int .u8 0, .int .u8 0, .int .u8 0]) 1).run Tryz.prog w0 = .ok (.agg #[.int .u8 b0.toNat, .int .u8 b1.toNat, .int .u8 b2.toNat, .int .u8 b3.toNat, .int .u8 0, .int .u8 0, .int .u8 0, .int .u8 0, .int .u8 0, .int .u8 0, .int .u8 0, .int .u8 0, .int .u8 0, .int .u8 0, .int .u8 0, .int .u8 0]) w0 := fun _ => by kernel_rfl
  clear hi8 hR
  generalize hq : B8 [b0, b1, b2, b3, b4, b5, b6, b7, b8, b9, ba, bb, bc, bd, be, bf] = Q at heq
  have Hq := zh hq; clear hq
  go_enter Tryz.func28, Tryz.ntmps28
  go_upto_region 1 with (fail)
  generalize w.alloc _ = W at k0 HG ⊢
  obtain ⟨q0, q1, q2, q3, q4, q5, q6⟩ := HG.out
  rw [Hq.out] at q0
  replace q0 := (rangeAt_of_row? q0).1
  have hu16 := Tryz.underlying22
  have hs16 : (Tryz.prog.info? 22).map (·.size) = some Q.length := by rw [← Hq.out]; kernel_rfl
  simp only [List.getD_cons_zero, List.getD_cons_succ] at q1 q2 q3 q4
  have Hq6 := zh q6; clear q6
  obtain ⟨d0, d1, d2, d3, d4, d5, d6⟩ := HG.out.drew
  rw [Hq.out] at d0
  replace d0 := (rangeAt_of_row? d0).1
  simp only [List.getD_cons_zero, List.getD_cons_succ] at d1 d2 d3 d4
  have d7 : W.drew.cell? ⟨w.heap.size, 0, none⟩ = some (.bool false) := k0
  clear d5
  have Hq5 := zh q5; clear q5
  go_region_held3 (fun w' => w'.rangeAt w.heap.size 1 Q ∧ w'.cell? ⟨w.heap.size, 1, none⟩ = some (.int .u8 (b0.toNat : Int)) ∧ w'.cell? ⟨w.heap.size, 2, none⟩ = some (.int .u8 (b1.toNat : Int)) ∧ w'.cell? ⟨w.heap.size, 3, none⟩ = some (.int .u8 (b2.toNat : Int)) ∧ w'.cell? ⟨w.heap.size, 4, none⟩ = some (.int .u8 (b3.toNat : Int)) ∧ w'.cell? ⟨w.heap.size, 0, none⟩ = some (.bool false) ∧ Below w.heap.size w w') (first | assumption | exact ⟨d0, d1, d2, d3, d4, d7, d6⟩ | exact ⟨s0, s1, s2, s3, s4, s7, s6⟩) ((go_at_call 76; refine (ip4_any _ _ _ _ _).mono ?_; rintro e w1 ⟨rfl, hb1⟩; have hg := zh (HG.out.drew.below hb1); obtain ⟨s0, s1, s2, s3, s4, s5, s6⟩ := hg.out; rw [Hq.out] at s0; replace s0 := (rangeAt_of_row? s0).1; simp only [List.getD_cons_zero, List.getD_cons_succ] at s1 s2 s3 s4; have s7 := (hb1.cell (p := ⟨w.heap.size, 0, none⟩) Hq5.out).trans k0; clear s5 hb1))
  go_wp2
  go_ret
  exact ⟨rfl, by assumption⟩
theorem good_any (v : Bool) (l : List UInt8) (hl : l.length = 16) (w : World) : Calls Tryz.prog 28 #[.agg (addrC v l).toArray] w fun e w' => e = .returned (.bool (goodV v l)) ∧ Below w.heap.size w w' := by
  cases v
  · exact good4 l hl w
  · exact good6 l hl w
end Go.Proofs.YtlbdehegknehiaaGreat

/- A part of the proof. -/
namespace Go.Proofs.YtlbdehegknehiaaGreat
set_option maxRecDepth 100000
set_option maxHeartbeats 1000000
open Go.RowKit
set_option linter.unusedVariables false
theorem rgroup_any (v : Bool) (l : List UInt8) (hl : l.length = 16) (w : World) : Calls Tryz.prog 31 #[.agg (addrC v l).toArray] w fun e w' => e = .returned (.bool (grpV v l)) ∧ Below w.heap.size w w' := by
  obtain ⟨b0, b1, b2, b3, b4, b5, b6, b7, b8, b9, ba, bb, bc, bd, be, bf, rfl⟩ := list16 hl
  clear hl
  show Calls Tryz.prog 31 #[.agg #[.bool v, .int .u8 b0.toNat, .int .u8 b1.toNat, .int .u8 b2.toNat, .int .u8 b3.toNat, .int .u8 b4.toNat, .int .u8 b5.toNat, .int .u8 b6.toNat, .int .u8 b7.toNat, .int .u8 b8.toNat, .int .u8 b9.toNat, .int .u8 ba.toNat, .int .u8 bb.toNat, .int .u8 bc.toNat, .int .u8 bd.toNat, .int .u8 be.toNat, .int .u8 bf.toNat]] w _
  cases v <;>
  · go_enter Tryz.func31, Tryz.ntmps31
    go_wp2
    all_goals
      go_ret
      exact ⟨ret_bool (by first | (simp_all [grpV, bN] <;> omega) | (rw [Bool.eq_iff_iff]; simp [grpV, bN]; omega) | (simp_all [grpV, bN]; rw [Bool.eq_iff_iff]; simp)), (Below.refl _ _).alloc (Nat.le_refl _) _⟩
def ZerS (l : List UInt8) (a k : Nat) : Prop := ∀ i (h : i < l.length), a ≤ i → i < k → l[i] = 0
theorem ZerS.start (l : List UInt8) (a : Nat) : ZerS l a a := fun i _ h1 h2 => absurd h2 (by omega)
theorem ZerS.step {l : List UInt8} {a k : Nat} (h : ZerS l a k) (hk : k < l.length) (hz : ((l[k]).toNat : Int) = 0) : ZerS l a (k + 1) := fun i hi h1 h2 => by
  by_cases e : i = k
  · subst e
    apply UInt8.toNat_inj.1
    have : (l[i]).toNat = 0 := by omega
    simpa using this
  · exact h i hi h1 (by omega)
def zeroV (l : List UInt8) : Bool := decide (l = List.replicate 16 0)
theorem zero_yes {l : List UInt8} (hl : l.length = 16) (h : ZerS l 0 16) : zeroV l = true := by
  unfold zeroV
  rw [decide_eq_true_eq]
  apply List.ext_getElem (by simp [hl])
  intro i h1 h2
  rw [List.getElem_replicate]
  exact h i h1 (by omega) (by omega)
theorem zero_no {l : List UInt8} {k : Nat} (hk : k < l.length) (h : ((l[k]).toNat : Int) ≠ 0) : zeroV l = false := by
  unfold zeroV
  rw [decide_eq_false_iff_not]
  intro e
  apply h
  have : l[k] = 0 := by
    have hk2 : k < 16 := by rw [e] at hk; simpa using hk
    have h2 : l[k]? = some 0 := by rw [e, List.getElem?_replicate, if_pos hk2]
    rw [List.getElem?_eq_getElem hk] at h2
    simpa using h2
  rw [this]; rfl
theorem good_yes {l : List UInt8} (hl : l.length = 16) (h : ZerS l 4 16) : goodV false l = true := by
  unfold goodV
  rw [Bool.false_or, decide_eq_true_eq]
  apply List.ext_getElem (by rw [ownV_length _ _ hl, hl])
  intro i h1 h2
  simp only [ownV, ownK, Bool.false_eq_true, if_false]
  by_cases h4 : i < 4
  · rw [List.getElem_append_left (by simp; omega)]; simp
  · rw [List.getElem_append_right (by simp; omega), List.getElem_append_left (by simp; omega), List.getElem_replicate]
    exact h i h1 (by omega) (by omega)
theorem good_no {l : List UInt8} {k : Nat} (hl : l.length = 16) (hk : k < l.length) (h4 : 4 ≤ k) (h : ((l[k]).toNat : Int) ≠ 0) : goodV false l = false := by
  unfold goodV
  rw [Bool.false_or, decide_eq_false_iff_not]
  intro e
  apply h
  have h2 : (ownV false l)[k]? = some 0 := by
    simp only [ownV, ownK, Bool.false_eq_true, if_false]
    rw [List.getElem?_append_right (by simp; omega), List.getElem?_append_left (by simp; omega), List.getElem?_replicate, if_pos (by simp; omega)]
  rw [← e, List.getElem?_eq_getElem hk] at h2
  have : l[k] = 0 := by simpa using h2
  rw [this]; rfl
theorem rzero_any (v : Bool) (l : List UInt8) (hl : l.length = 16) (w : World) : Calls Tryz.prog 32 #[.agg (addrC v l).toArray] w fun e w' => e = .returned (.bool (zeroV l)) ∧ Below w.heap.size w w' := by
  obtain ⟨R, hR⟩ : ∃ R, R = zeroV l := ⟨_, rfl⟩
  rw [← hR]
  have HR := zh hR; clear hR
  have HB := zh (BoxAt.made w v l hl 24)
  go_enter Tryz.func32, Tryz.ntmps32
  go_upto_region 2 with (fail)
  generalize w.alloc _ = W at HB ⊢
  have Hrow := zh HB.out.2.1
  have Hb := zh HB.out.2.2.2.2
  clear HB
  go_loop [3] (fun vi => ∃ k : Nat, k ≤ 16 ∧ vi = .int .i64 (k : Int) ∧ Hid (ZerS l 0 k)) (fun vi => 16 - (intOf vi).toNat)
  case atStart => exact ⟨0, by omega, rfl, zh (ZerS.start l 0)⟩
  case round =>
    obtain ⟨k, hk, rfl, hq⟩ := hrel
    by_cases hlt : k < 16
    · have hkl : k < l.length := by omega
      have H1 := zh (hq.out.step hkl)
      have H2 := zh (zero_no hkl)
      have x1 := Hrow.out k hkl
      generalize ((l[k]).toNat : Int) = x at H1 H2 x1
      clear hkl
      by_cases hx : x = 0
      · subst hx
        go_wp2
        go_round
        case rel => exact ⟨k + 1, by omega, by go_num, zh (H1.out rfl)⟩
        case measure => simp [intOf]; omega
      · have g1 : (x != 0) = true := by simp [hx]
        have HX := zh hx; clear hx
        go_wp2
        go_ret
        exact ⟨ret_bool (by rw [HR.out, H2.out HX.out]), Hb.out⟩
    · obtain rfl : k = 16 := by omega
      go_wp2
      go_ret
      exact ⟨ret_bool (by rw [HR.out, zero_yes hl hq.out]), Hb.out⟩
theorem rgood_any (v : Bool) (l : List UInt8) (hl : l.length = 16) (w : World) : Calls Tryz.prog 30 #[.agg (addrC v l).toArray] w fun e w' => e = .returned (.bool (goodV v l)) ∧ Below w.heap.size w w' := by
  obtain ⟨R, hR⟩ : ∃ R, R = goodV v l := ⟨_, rfl⟩
  rw [← hR]
  have HR := zh hR; clear hR
  have HB := zh (BoxAt.made w v l hl 24)
  go_enter Tryz.func30, Tryz.ntmps30
  go_upto_region 2 with (fail)
  generalize w.alloc _ = W at HB ⊢
  have Hrow := zh HB.out.2.1
  have Hb := zh HB.out.2.2.2.2
  have k0 := HB.out.1
  clear HB
  cases v
  · go_loop [3] (fun vi => ∃ k : Nat, 4 ≤ k ∧ k ≤ 16 ∧ vi = .int .i64 (k : Int) ∧ Hid (ZerS l 4 k)) (fun vi => 16 - (intOf vi).toNat)
    case atStart => exact ⟨4, by omega, by omega, rfl, zh (ZerS.start l 4)⟩
    case round =>
      obtain ⟨k, h4, hk, rfl, hq⟩ := hrel
      by_cases hlt : k < 16
      · have hkl : k < l.length := by omega
        have H1 := zh (hq.out.step hkl)
        have H2 := zh (good_no hl hkl h4)
        have x1 := Hrow.out k hkl
        generalize ((l[k]).toNat : Int) = x at H1 H2 x1
        clear hkl
        by_cases hx : x = 0
        · subst hx
          go_wp2
          go_round
          case rel => exact ⟨k + 1, by omega, by omega, by go_num, zh (H1.out rfl)⟩
          case measure => simp [intOf]; omega
        · have g1 : (x != 0) = true := by simp [hx]
          have HX := zh hx; clear hx
          go_wp2
          go_ret
          exact ⟨ret_bool (by rw [HR.out, H2.out HX.out]), Hb.out⟩
      · obtain rfl : k = 16 := by omega
        go_wp2
        go_ret
        exact ⟨ret_bool (by rw [HR.out, good_yes hl hq.out]), Hb.out⟩
  · go_loop [3] (fun vi => ∃ k : Nat, 4 ≤ k ∧ k ≤ 16 ∧ vi = .int .i64 (k : Int)) (fun vi => 16 - (intOf vi).toNat)
    case atStart => exact ⟨4, by omega, by omega, rfl⟩
    case round =>
      obtain ⟨k, h4, hk, rfl⟩ := hrel
      by_cases hlt : k < 16
      · go_wp2
        go_round
        case rel => exact ⟨k + 1, by omega, by omega, by go_num⟩
        case measure => simp [intOf]; omega
      · obtain rfl : k = 16 := by omega
        go_wp2
        go_ret
        exact ⟨ret_bool (by rw [HR.out]; rfl), Hb.out⟩
end Go.Proofs.YtlbdehegknehiaaGreat

/- A part of the proof. -/
namespace Go.Proofs.YtlbdehegknehiaaGreat
set_option maxRecDepth 100000
set_option maxHeartbeats 1000000
open Go.RowKit
set_option linter.unusedVariables false
attribute [local go_sem ↓] ld_addr ld_b16 bld_b16
attribute [local go_sem] ldr_addr ldr_b16
def OneA (w W : World) (v : Bool) (l : List UInt8) : Prop := BoxAt w W v l ∧ GoA w W l
theorem OneA.made (w : World) (v : Bool) (l : List UInt8) (hl : l.length = 16) : OneA w (w.alloc (.cells (addrC v l).toArray 24)) v l := ⟨BoxAt.made w v l hl 24, GoA.made w v l hl⟩
theorem OneA.keep {w W W' : World} {v : Bool} {l : List UInt8} (h : OneA w W v l) (hb : Below W.heap.size W W') : OneA w W' v l := ⟨h.1.keep hb, h.2.below hb⟩
theorem OneA.facts {w W : World} {v : Bool} {l : List UInt8} (h : OneA w W v l) : W.cell? ⟨w.heap.size, 0, none⟩ = some (.bool v) ∧ row? W w.heap.size 0 17 = some (addrC v l) ∧ W.cell? ⟨w.heap.size, 1, none⟩ = some (.int .u8 (bN l 0)) ∧ W.cell? ⟨w.heap.size, 2, none⟩ = some (.int .u8 (bN l 1)) ∧ W.cell? ⟨w.heap.size, 3, none⟩ = some (.int .u8 (bN l 2)) ∧ row? W w.heap.size 1 16 = some (B8 l) := ⟨h.1.1, h.1.2.2.1, h.2.2.1, h.2.2.2.1, h.2.2.2.2.1, h.2.1⟩
theorem OneA.bel {w W : World} {v : Bool} {l : List UInt8} (h : OneA w W v l) : Below w.heap.size w W := h.1.2.2.2.2
theorem zero_any (v : Bool) (l : List UInt8) (hl : l.length = 16) (w : World) : Calls Tryz.prog 58 #[.agg (addrC v l).toArray] w fun e w' => e = .returned (.bool (zeroV l)) ∧ Below w.heap.size w w' := by
  have HO := zh (OneA.made w v l hl)
  obtain ⟨i8, hi8⟩ := info_of Tryz.underlying5
  have heq : ∀ w0, (Op.equalIn 10000 22 (.agg (B8 l).toArray) (.agg #[.int .u8 0, .int .u8 0, .int .u8 0, .int .u8 0, .int .u8 0, .int .u8 0, .int .u8 0, .int .u8 0, .int .u8 0, .int .u8 0, .int .u8 0, .int .u8 0, .int .u8 0, .int .u8 0, .int .u8 0, .int .u8 0])).run Tryz.prog w0 = .ok (zeroV l) w0 := fun w0 => run_eq_bytes_d (P := Tryz.prog) Tryz.underlying22 Tryz.underlying5 (by kernel_rfl) hi8 (by kernel_rfl) l (List.replicate 16 0) hl rfl 9998 w0
  have hbld : ∀ w0, (aggBuild 22 #[]).run Tryz.prog w0 = .ok (.agg #[.int .u8 0, .int .u8 0, .int .u8 0, .int .u8 0, .int .u8 0, .int .u8 0, .int .u8 0, .int .u8 0, .int .u8 0, .int .u8 0, .int .u8 0, .int .u8 0, .int .u8 0, .int .u8 0, .int .u8 0, .int .u8 0]) w0 := bld_run _ _ _ (by kernel_rfl)
  clear hi8
  generalize zeroV l = R at heq ⊢
  go_enter Tryz.func58, Tryz.ntmps58
  go_upto_region 1 with (fail)
  generalize w.alloc _ = W at HO ⊢
  obtain ⟨k0, k1, k2, k3, k4, k5⟩ := HO.out.facts
  go_wp2
  go_ret
  exact ⟨rfl, HO.out.bel⟩
end Go.Proofs.YtlbdehegknehiaaGreat

/- A part of the proof. -/
namespace Go.Proofs.YtlbdehegknehiaaGreat
open Go.RowKit
set_option linter.unusedVariables false
attribute [local go_sem ↓] ld_addr ld_b16 bld_b16
attribute [local go_sem] ldr_addr ldr_b16
end Go.Proofs.YtlbdehegknehiaaGreat

/- A part of the proof. -/
namespace Go.Proofs.YtlbdehegknehiaaGreat
open Go.RowKit
set_option linter.unusedVariables false
attribute [local go_sem ↓] ld_addr
attribute [local go_sem] ldr_addr
end Go.Proofs.YtlbdehegknehiaaGreat

/- A part of the proof. -/
namespace Go.Proofs.YtlbdehegknehiaaGreat
open Go.RowKit
set_option linter.unusedVariables false
theorem within_any (n : Int) (m : Nat) (w : World) : Calls Tryz.prog 174 #[.int .i64 n, .int .i64 0, .int .i64 (m : Int)] w fun e w' => e = .returned (.int .i64 (clampN n m : Int)) ∧ w = w' := by
  go_enter Tryz.func174, Tryz.ntmps174
  go_wp2
  all_goals
    go_ret
    exact ⟨ret_int (by unfold clampN; split <;> omega), rfl⟩
def bitsN (n : Nat) (from_ wide : Int) : Nat := n / 2 ^ clampN from_ 64 % 2 ^ clampN wide 64
end Go.Proofs.YtlbdehegknehiaaGreat

/- A part of the proof. -/
namespace Go.Proofs.YtlbdehegknehiaaGreat
open Go.RowKit
set_option linter.unusedVariables false
end Go.Proofs.YtlbdehegknehiaaGreat

/- A part of the proof. -/
namespace Go.Proofs.YtlbdehegknehiaaGreat
set_option linter.unusedVariables false
def valN (c u : Nat) : Nat := if c < 8 * u then c else (c % u + u) * 2 ^ (c / u % 8 + 3)
theorem valN_small {c u : Nat} (h : c < 8 * u) : valN c u = c := by unfold valN; rw [if_pos h]
theorem valN_piece (c u m q : Nat) (hu : 0 < u) (hc : c = q * u + m) (hm : m < u) (h8 : 8 ≤ q) (h16 : q < 16) : valN c u = (m + u) * 2 ^ (q - 5) := by
  have hq : c / u = q := by
    rw [hc]; exact Nat.div_eq_of_lt_le (by omega) (by rw [Nat.succ_mul]; omega)
  have hr : c % u = m := by
    rw [hc, Nat.mul_comm, Nat.mul_add_mod, Nat.mod_eq_of_lt hm]
  have h1 : ¬ c < 8 * u := by
    have : 8 * u ≤ q * u := Nat.mul_le_mul_right u h8
    omega
  unfold valN
  rw [if_neg h1, hq, hr]
  congr 2
  omega
theorem valN_step (c u : Nat) (hu : 0 < u) (h : c + 1 < 16 * u) : valN c u < valN (c + 1) u := by
  by_cases h1 : c + 1 < 8 * u
  · rw [valN_small h1, valN_small (by omega)]; omega
  by_cases h2 : c < 8 * u
  · have hc : c + 1 = 8 * u := by omega
    rw [valN_small h2, valN_piece (c + 1) u 0 8 hu (by omega) hu (by omega) (by omega)]
    omega
  · have hq8 : 8 ≤ c / u := (Nat.le_div_iff_mul_le hu).2 (by omega)
    have hq16 : c / u < 16 := (Nat.div_lt_iff_lt_mul hu).2 (by omega)
    have hm : c % u < u := Nat.mod_lt _ hu
    have hc : c = c / u * u + c % u := by rw [Nat.mul_comm]; exact (Nat.div_add_mod c u).symm
    generalize c / u = q at *
    generalize c % u = m at *
    rw [valN_piece c u m q hu hc hm hq8 hq16]
    by_cases h3 : m + 1 < u
    · rw [valN_piece (c + 1) u (m + 1) q hu (by omega) h3 hq8 hq16]
      exact Nat.mul_lt_mul_of_pos_right (by omega) (Nat.two_pow_pos _)
    · have hm1 : m + 1 = u := by omega
      have hq15 : q + 1 < 16 := by
        refine Decidable.byContradiction fun hn => ?_
        have : q = 15 := by omega
        subst this
        omega
      rw [valN_piece (c + 1) u 0 (q + 1) hu (by rw [Nat.succ_mul]; omega) hu (by omega) hq15]
      rw [show q + 1 - 5 = q - 5 + 1 by omega, Nat.pow_succ, ← Nat.mul_assoc, Nat.mul_comm _ 2, ← Nat.mul_assoc]
      exact Nat.mul_lt_mul_of_pos_right (by omega) (Nat.two_pow_pos _)
theorem valN_lt (u : Nat) (hu : 0 < u) : ∀ (d c : Nat), c + d + 1 < 16 * u → valN c u < valN (c + d + 1) u
  | 0, c, h => valN_step c u hu h
  | d + 1, c, h => Nat.lt_trans (valN_lt u hu d c (by omega)) (valN_step (c + d + 1) u hu (by omega))
theorem valN_mono {u : Nat} (hu : 0 < u) {a b : Nat} (hab : a < b) (hb : b < 16 * u) : valN a u < valN b u := by
  have := valN_lt u hu (b - a - 1) a (by omega)
  rwa [show a + (b - a - 1) + 1 = b by omega] at this
theorem valN_zero (u : Nat) (hu : 0 < u) : valN 0 u = 0 := valN_small (by omega)
def IsCode (n : Int) (u m c : Nat) : Prop := c ≤ m ∧ (c = 0 ∨ (valN c u : Int) ≤ n) ∧ (c = m ∨ n < (valN (c + 1) u : Int))
theorem IsCode.uniq {n : Int} {u m c d : Nat} (hu : 0 < u) (hm : m < 16 * u) (h : IsCode n u m c) (k : IsCode n u m d) : c = d := by
  obtain ⟨a1, a2, a3⟩ := h
  obtain ⟨b1, b2, b3⟩ := k
  have key : ∀ x y : Nat, x ≤ m → y ≤ m → (y = 0 ∨ (valN y u : Int) ≤ n) → (x = m ∨ n < (valN (x + 1) u : Int)) → y ≤ x := by
    intro x y hx hy h1 h2
    refine Decidable.byContradiction fun hn => ?_
    have hxy : x + 1 ≤ y := by omega
    rcases h1 with h1 | h1
    · omega
    rcases h2 with h2 | h2
    · omega
    · rcases Nat.lt_or_eq_of_le hxy with h3 | h3
      · have := valN_mono hu h3 (by omega); omega
      · rw [h3] at h2; omega
  exact Nat.le_antisymm (key d c b1 a1 a2 b3) (key c d a1 b1 b2 a3)
theorem IsCode.back {u m c : Nat} (hu : 0 < u) (hm : m < 16 * u) (hc : c ≤ m) : IsCode (valN c u : Int) u m c := by
  refine ⟨hc, Or.inr (Int.le_refl _), ?_⟩
  by_cases h : c = m
  · exact Or.inl h
  · right
    have := valN_mono hu (show c < c + 1 by omega) (show c + 1 < 16 * u by omega)
    omega
theorem IsCode.neg {n : Int} {u m c : Nat} (hu : 0 < u) (hm : m < 16 * u) (hn : n < 0) (h : IsCode n u m c) : c = 0 := by
  obtain ⟨a1, a2, a3⟩ := h
  rcases a2 with a2 | a2
  · exact a2
  · have : (0 : Int) ≤ (valN c u : Int) := Int.natCast_nonneg _
    omega
theorem IsCode.exact {n : Int} {u m c : Nat} (hu : 0 < u) (hm : m < 16 * u) (h : IsCode n u m c) : (∃ d, d ≤ m ∧ (valN d u : Int) = n) ↔ (0 ≤ n ∧ (valN c u : Int) = n) := by
  constructor
  · rintro ⟨d, hd, rfl⟩
    refine ⟨Int.natCast_nonneg _, ?_⟩
    rw [IsCode.uniq hu hm h (IsCode.back hu hm hd)]
  · rintro ⟨_, h1⟩
    exact ⟨c, h.1, h1⟩
def codeN (n : Int) (u : Nat) : Nat → Nat
  | 0 => 0
  | m + 1 => if (valN (m + 1) u : Int) ≤ n then m + 1 else codeN n u m
theorem codeN_is (n : Int) (u : Nat) : ∀ m, IsCode n u m (codeN n u m)
  | 0 => ⟨Nat.le_refl _, Or.inl rfl, Or.inl rfl⟩
  | m + 1 => by
    unfold codeN
    split
    · rename_i h; exact ⟨Nat.le_refl _, Or.inr h, Or.inl rfl⟩
    · rename_i h
      obtain ⟨h1, h2, h3⟩ := codeN_is n u m
      refine ⟨Nat.le_succ_of_le h1, h2, Or.inr ?_⟩
      rcases h3 with h3 | h3
      · rw [h3]; exact Int.not_le.1 h
      · exact h3
theorem codeN_le (n : Int) (u m : Nat) : codeN n u m ≤ m := (codeN_is n u m).1
theorem codeN_uniq {n : Int} {u m c : Nat} (hu : 0 < u) (hm : m < 16 * u) (h : IsCode n u m c) : c = codeN n u m := h.uniq hu hm (codeN_is n u m)
def exactN (n : Int) (u m : Nat) : Bool := decide (0 ≤ n ∧ (valN (codeN n u m) u : Int) = n)
def Halve (n : Int) (u m lo hi : Nat) : Prop := lo ≤ hi ∧ hi ≤ m ∧ (lo = 0 ∨ (valN lo u : Int) ≤ n) ∧ (hi = m ∨ n < (valN (hi + 1) u : Int))
theorem Halve.start (n : Int) (u m : Nat) : Halve n u m 0 m := ⟨Nat.zero_le _, Nat.le_refl _, Or.inl rfl, Or.inl rfl⟩
theorem Halve.up {n : Int} {u m lo hi k : Nat} (h : Halve n u m lo hi) (hk : k ≤ hi) (hv : (valN k u : Int) ≤ n) : Halve n u m k hi := ⟨hk, h.2.1, Or.inr hv, h.2.2.2⟩
theorem Halve.down {n : Int} {u m lo hi k : Nat} (h : Halve n u m lo hi) (hk : lo < k) (hk2 : k ≤ hi) (hv : ¬ (valN k u : Int) ≤ n) : Halve n u m lo (k - 1) :=
  ⟨by omega, Nat.le_trans (Nat.sub_le _ _) (Nat.le_trans hk2 h.2.1), h.2.2.1, Or.inr (by rw [Nat.sub_add_cancel (by omega)]; omega)⟩
theorem Halve.done {n : Int} {u m lo hi : Nat} (h : Halve n u m lo hi) (he : lo = hi) : IsCode n u m lo := ⟨Nat.le_trans h.1 h.2.1, h.2.2.1, by rw [he]; exact h.2.2.2⟩
end Go.Proofs.YtlbdehegknehiaaGreat

