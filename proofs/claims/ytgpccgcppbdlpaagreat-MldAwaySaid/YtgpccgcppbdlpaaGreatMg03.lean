/-
  Texts joined: EqA, Own, Good.
-/
import Derived.Test.YtgpccgcppbdlpaaGreatMg00
import Derived.Test.YtgpccgcppbdlpaaGreatMg02
import Derived.Laws.StructEq
import Derived.BigQuiet
import Derived.Deep.QuietTactic
import Derived.Deep.RegionHeld3
/-
  Two addresses are held against each other: a rule for the walk.
-/
namespace Go.Proofs.YtgpccgcppbdlpaaGreat
open Go.RowKit
set_option linter.unusedVariables false

theorem run_eq_bytes_d {P : Program} {t e : TypeId} {n : Nat} {i : TypeInfo} (hu : P.underlying t = some (.array n e)) (he : P.underlying e = some (.int .u8)) (hp : P.plainKey e = true) (hi : P.info? e = some i) (hc : P.cellsOf e = 1) (l m : List UInt8) (hl : l.length = n) (hm : m.length = n) (d : Nat) (w : World) :
    (Op.equalIn (d + 1 + 1) t (.agg (B8 l).toArray) (.agg (B8 m).toArray)).run P w = .ok (decide (l = m)) w := by
  rw [run_equalIn_array w (d + 1) _ _ hu hi, hc, eqItems_bytes he hp d l m w _ (by intro j hj; have := List.mem_range.1 hj; omega)]
  subst hl
  rw [all_range_eq l m hm.symm]
theorem part_bytes (v : Bool) (l : List UInt8) (hl : l.length = 16) (w : World) : (part 22 (addrC v l).toArray 1).run Tryz.prog w = .ok (.agg (B8 l).toArray) w := by
  obtain ⟨i, hi⟩ := info_of Tryz.underlying22
  have hs : (Tryz.prog.info? 22).map (·.size) = some 16 := by kernel_rfl
  rw [hi] at hs
  simp at hs
  have e : ((addrC v l).toArray.extract 1 17) = (B8 l).toArray := by
    apply Array.ext'
    simp [addrC, B8_length, hl, List.take_of_length_le]
  have e2 : List.take 16 (addrC v l).tail = B8 l := by
    rw [addrC]; simp [B8_length, hl, List.take_of_length_le]
  simp [part, isAgg, run_underlying Tryz.underlying22, sizeOf, typeInfo, hi, hs, e2]
theorem eq_fin {P : Program} (v v' : Bool) (l l' : List UInt8) (w : World) (S1 S2 : Sem Value) (x y : Value) (E : Value → Value → Sem Bool) (h1 : S1.run P w = .ok x w) (h2 : S2.run P w = .ok y w) (h3 : (E x y).run P w = .ok (decide (l = l')) w) :
    (Sem.run P (if (!v == v') = true then pure false
      else do
        let a ← S1
        let b ← S2
        let r ← E a b
        if (!r) = true then pure false else pure true) w) = .ok (decide (v = v' ∧ l = l')) w := by
  by_cases hv : v = v'
  · subst hv
    by_cases hl : l = l' <;> simp [h1, h2, h3, hl]
  · simp [hv]
theorem eq_addr_d (d : Nat) (v v' : Bool) (l l' : List UInt8) (hl : l.length = 16) (hl' : l'.length = 16) (w : World) :
    (Op.equalIn (d + 1 + 1 + 1) 24 (.agg (addrC v l).toArray) (.agg (addrC v' l').toArray)).run Tryz.prog w = .ok (decide (v = v' ∧ l = l')) w := by
  have hf : Tryz.prog.underlying 24 = some (.struct (Tryz.prog.fieldsOf 24)) := by
    have h := Tryz.underlying24
    rw [Program.fieldsOf, h]
  obtain ⟨i8, hi8⟩ := info_of Tryz.underlying5
  have hb := run_eq_bytes_d (P := Tryz.prog) Tryz.underlying22 Tryz.underlying5 (by kernel_rfl) hi8 (by kernel_rfl) l l' hl hl' d w
  have hp1 := part_bytes v l hl w
  have hp2 := part_bytes v' l' hl' w
  have q1 : (part 4 (addrC v l).toArray 0).run Tryz.prog w = .ok (.bool v) w := run_part_plain w (by kernel_rfl) rfl
  have q2 : (part 4 (addrC v' l').toArray 0).run Tryz.prog w = .ok (.bool v') w := run_part_plain w (by kernel_rfl) rfl
  have q3 : (Op.equalIn (d + 1 + 1) 4 (.bool v) (.bool v')).run Tryz.prog w = .ok (v == v') w := by
    simp [Op.equalIn, run_underlying Tryz.underlying4]
  have hF : (Tryz.prog.fieldsOf 24).toList.map (fun f => (f.name, f.type, f.offset)) = [("V6", 4, 0), ("B", 22, 1)] := by kernel_rfl
  rw [run_equalIn_struct w (d + 1 + 1) _ _ _ hf (by kernel_rfl)]
  generalize (Tryz.prog.fieldsOf 24).toList = fs at hF
  obtain ⟨f, fs1, rfl, hf1, hF1⟩ := List.map_eq_cons_iff.1 hF
  obtain ⟨g, fs2, rfl, hg1, hF2⟩ := List.map_eq_cons_iff.1 hF1
  obtain rfl := List.map_eq_nil_iff.1 hF2
  simp only [Prod.mk.injEq] at hf1 hg1
  obtain ⟨n1, n2, n3⟩ := hf1
  obtain ⟨n4, n5, n6⟩ := hg1
  simp only [Op.eqFields, n1, n2, n3, n4, n5, n6, ne_eq, String.reduceEq, not_false_eq_true, if_true, Sem.run_bind, q1, q2, q3, Result.andThen_ok]
  have hb' : (Op.equalIn (d + 1 + 1) 22 (.agg (B8 l).toArray) (.agg (B8 l').toArray)).run Tryz.prog w = .ok (decide (l = l')) w := hb
  clear q1 q2 q3 hb hf hF hF1 hF2 n1 n2 n3 n4 n5 n6 hi8
  generalize part 22 (addrC v l).toArray 1 = S1 at hp1 ⊢
  generalize part 22 (addrC v' l').toArray 1 = S2 at hp2 ⊢
  have hb2 : (Op.equalIn (d + 1 + 1) 22 (.agg (B8 l).toArray) (.agg (B8 l').toArray)).run Tryz.prog w = .ok (decide (l = l')) w := hb'
  generalize (B8 l).toArray = X1 at hp1 hb2
  generalize (B8 l').toArray = X2 at hp2 hb2
  clear hb'
  exact eq_fin v v' l l' w _ _ _ _ _ hp1 hp2 hb2
theorem eq_addr (v v' : Bool) (l l' : List UInt8) (hl : l.length = 16) (hl' : l'.length = 16) (w : World) :
    (Op.equalIn 10000 24 (.agg (addrC v l).toArray) (.agg (addrC v' l').toArray)).run Tryz.prog w = .ok (decide (v = v' ∧ l = l')) w :=
  eq_addr_d 9997 v v' l l' hl hl' w
end Go.Proofs.YtgpccgcppbdlpaaGreat

/-
  The document's own answer: an address that is good.
-/
namespace Go.Proofs.YtgpccgcppbdlpaaGreat
open Go.RowKit
set_option linter.unusedVariables false
attribute [local go_sem ↓] bld_addr bld_b16 ld_addr st_addr ld_b16
attribute [local go_sem] ldr_addr str_addr ldr_b16

/-- An address of four bytes has zeros behind them. -/
def ownK (v : Bool) (l : List UInt8) (k : Nat) : List UInt8 := if v then l else l.take 4 ++ (List.replicate (k - 4) 0 ++ l.drop k)
def ownV (v : Bool) (l : List UInt8) : List UInt8 := ownK v l 16
theorem ownK_length (v : Bool) (l : List UInt8) (hl : l.length = 16) (k : Nat) (h4 : 4 ≤ k) (h16 : k ≤ 16) : (ownK v l k).length = 16 := by
  cases v <;> simp [ownK] <;> omega
theorem ownV_length (v : Bool) (l : List UInt8) (hl : l.length = 16) : (ownV v l).length = 16 := ownK_length v l hl 16 (by omega) (by omega)
theorem ownK_start (v : Bool) (l : List UInt8) : ownK v l 4 = l := by cases v <;> simp [ownK]
theorem ownK_step (l : List UInt8) (hl : l.length = 16) (k : Nat) (h4 : 4 ≤ k) (h16 : k < 16) : (ownK false l k).set k 0 = ownK false l (k + 1) := by
  have h0 : l.drop k = l[k] :: l.drop (k + 1) := List.drop_eq_getElem_cons (by omega)
  simp only [ownK, Bool.false_eq_true, if_false]
  rw [List.set_append_right _ _ (by simp; omega), List.set_append_right _ _ (by simp; omega), h0]
  rw [show k - (l.take 4).length - (List.replicate (k - 4) (0 : UInt8)).length = 0 by simp; omega, List.set_cons_zero]
  rw [show k + 1 - 4 = (k - 4) + 1 by omega, List.replicate_succ']
  simp
/-- The two objects on the way. -/
def OwS (w wr : World) (v : Bool) (l : List UInt8) (k : Nat) : Prop :=
  ObjAt wr w.heap.size (addrC v (ownK v l k)).toArray 24 ∧ ObjAt wr (w.heap.size + 1) (addrC false (List.replicate 16 0)).toArray 24 ∧ Below w.heap.size w wr
theorem OwS.start (w : World) (v : Bool) (l : List UInt8) : OwS w ((w.alloc (.cells (addrC v l).toArray 24)).alloc (.cells #[.bool false, .int .u8 0, .int .u8 0, .int .u8 0, .int .u8 0, .int .u8 0, .int .u8 0, .int .u8 0, .int .u8 0, .int .u8 0, .int .u8 0, .int .u8 0, .int .u8 0, .int .u8 0, .int .u8 0, .int .u8 0, .int .u8 0] 24)) v l 4 := by
  have h0 := (ObjAt.made w (addrC v l).toArray 24).alloc (.cells #[.bool false, .int .u8 0, .int .u8 0, .int .u8 0, .int .u8 0, .int .u8 0, .int .u8 0, .int .u8 0, .int .u8 0, .int .u8 0, .int .u8 0, .int .u8 0, .int .u8 0, .int .u8 0, .int .u8 0, .int .u8 0, .int .u8 0] 24)
  have h1 := ObjAt.made (w.alloc (.cells (addrC v l).toArray 24)) #[.bool false, .int .u8 0, .int .u8 0, .int .u8 0, .int .u8 0, .int .u8 0, .int .u8 0, .int .u8 0, .int .u8 0, .int .u8 0, .int .u8 0, .int .u8 0, .int .u8 0, .int .u8 0, .int .u8 0, .int .u8 0, .int .u8 0] 24
  rw [show (w.alloc (.cells (addrC v l).toArray 24)).heap.size = w.heap.size + 1 by simp] at h1
  refine ⟨?_, h1, ((Below.refl _ _).alloc (Nat.le_refl _) _).alloc (by simp) _⟩
  rw [ownK_start]; exact h0
theorem OwS.cell {w wr : World} {v : Bool} {l : List UInt8} {k : Nat} (h : OwS w wr v l k) (hl : l.length = 16) (h4 : 4 ≤ k) (hk : k < 16) : ∃ x, wr.cell? ⟨w.heap.size, 1 + k, none⟩ = some x := by
  have : (addrC v (ownK v l k)).length = 17 := by rw [addrC_length, ownK_length v l hl k h4 (by omega)]
  exact ⟨_, (h.1.cell (1 + k)).trans (by rw [List.getElem?_toArray]; exact List.getElem?_eq_getElem (by omega))⟩
theorem OwS.frz {w wr : World} {v : Bool} {l : List UInt8} {k : Nat} (h : OwS w wr v l k) : wr.frozen? ⟨w.heap.size, 1 + k, none⟩ = false := h.1.free _
theorem OwS.step {w wr : World} {l : List UInt8} {k : Nat} (h : OwS w wr false l k) (hl : l.length = 16) (h4 : 4 ≤ k) (hk : k < 16) : OwS w (wr.setCell ⟨w.heap.size, 1 + k, none⟩ (.int .u8 0)) false l (k + 1) := by
  obtain ⟨h1, h2, h3⟩ := h
  refine ⟨?_, ObjAt.other h2 ⟨w.heap.size, 1 + k, none⟩ _ (by simp), h3.setCell (p := ⟨w.heap.size, 1 + k, none⟩) (Nat.le_refl _) _⟩
  have o1 := h1.set (1 + k) (.int .u8 0)
  have e : (addrC false (ownK false l k)).toArray.setIfInBounds (1 + k) (.int .u8 0) = (addrC false ((ownK false l k).set k 0)).toArray := by
    apply Array.ext'
    rw [Array.toList_setIfInBounds]
    show (Value.bool false :: B8 (ownK false l k)).set (1 + k) _ = Value.bool false :: B8 ((ownK false l k).set k 0)
    rw [Nat.add_comm, List.set_cons_succ]
    unfold B8
    rw [List.map_set]
    rfl
  rw [e, ownK_step l hl k h4 hk] at o1
  exact o1
theorem OwS.row {w wr : World} {v : Bool} {l : List UInt8} (h : OwS w wr v l 16) (hl : l.length = 16) : row? wr w.heap.size 0 17 = some (addrC v (ownV v l)) :=
  obj_row (A := []) (M := addrC v (ownV v l)) (C := []) (by simpa [ownV] using h.1) rfl (by rw [addrC_length, ownV_length v l hl])
theorem OwS.free {w wr : World} {v : Bool} {l : List UInt8} {k : Nat} (h : OwS w wr v l k) : free? wr (w.heap.size + 1) 0 17 = true := obj_free (n := 17) h.2.1 (by simp [addrC_length])
theorem OwS.done {w wr : World} {v : Bool} {l : List UInt8} {k : Nat} (h : OwS w wr v l k) (hl : l.length = 16) : row? (aggW wr (w.heap.size + 1) (addrC v (ownV v l))) (w.heap.size + 1) 0 17 = some (addrC v (ownV v l)) ∧ Below w.heap.size w (aggW wr (w.heap.size + 1) (addrC v (ownV v l))) :=
  ⟨aggW_row h.free (by rw [addrC_length, ownV_length v l hl]), aggW_below h.2.2 (by omega) _⟩

end Go.Proofs.YtgpccgcppbdlpaaGreat

/-
  The contract of addr.Good.
-/
namespace Go.Proofs.YtgpccgcppbdlpaaGreat
open Go.RowKit
set_option linter.unusedVariables false
attribute [local go_sem ↓] ld_b16
attribute [local go_sem] ldr_b16

/-- Is it good? -/
def goodV (v : Bool) (l : List UInt8) : Bool := v || decide (l = ownV v l)
/-- What the region reads. -/
def GoA (w W : World) (l : List UInt8) : Prop :=
  row? W w.heap.size 1 16 = some (B8 l) ∧ W.cell? ⟨w.heap.size, 1, none⟩ = some (.int .u8 ((l.getD 0 0).toNat : Int)) ∧ W.cell? ⟨w.heap.size, 2, none⟩ = some (.int .u8 ((l.getD 1 0).toNat : Int)) ∧ W.cell? ⟨w.heap.size, 3, none⟩ = some (.int .u8 ((l.getD 2 0).toNat : Int)) ∧ W.cell? ⟨w.heap.size, 4, none⟩ = some (.int .u8 ((l.getD 3 0).toNat : Int)) ∧ w.heap.size < W.heap.size ∧ Below w.heap.size w W
theorem GoA.below {w W W' : World} {l : List UInt8} (h : GoA w W l) (hb : Below W.heap.size W W') : GoA w W' l := by
  obtain ⟨h1, h2, h3, h4, h5, h6, h7⟩ := h
  have c : ∀ o, W'.cell? ⟨w.heap.size, o, none⟩ = W.cell? ⟨w.heap.size, o, none⟩ := fun o => hb.cell (p := ⟨w.heap.size, o, none⟩) h6
  exact ⟨row?_below h1 h6 hb, (c _).trans h2, (c _).trans h3, (c _).trans h4, (c _).trans h5, Nat.lt_of_lt_of_le h6 hb.size, bstep h7 hb⟩
theorem GoA.drew {w W : World} {l : List UInt8} (h : GoA w W l) : GoA w W.drew l := ⟨h.1, h.2.1, h.2.2.1, h.2.2.2.1, h.2.2.2.2.1, h.2.2.2.2.2.1, h.2.2.2.2.2.2.drew⟩
theorem GoA.made (w : World) (v : Bool) (l : List UInt8) (hl : l.length = 16) : GoA w (w.alloc (.cells (addrC v l).toArray 24)) l := by
  have o := ObjAt.made w (addrC v l).toArray 24
  have c : ∀ i (h : i < 16), (w.alloc (.cells (addrC v l).toArray 24)).cell? ⟨w.heap.size, i + 1, none⟩ = some (.int .u8 ((l.getD i 0).toNat : Int)) := fun i h => by
    rw [o.cell, List.getElem?_toArray]
    show (Value.bool v :: B8 l)[i + 1]? = _
    rw [List.getElem?_cons_succ]
    unfold B8
    rw [List.getElem?_map, List.getElem?_eq_getElem (by omega), List.getD_eq_getElem?_getD, List.getElem?_eq_getElem (by omega)]
    rfl
  exact ⟨obj_row (A := [.bool v]) (M := B8 l) (C := []) (by simpa [addrC] using o) rfl (by rw [B8_length, hl]), c 0 (by omega), c 1 (by omega), c 2 (by omega), c 3 (by omega), o.lt, (Below.refl _ _).alloc (Nat.le_refl _) _⟩

end Go.Proofs.YtgpccgcppbdlpaaGreat

