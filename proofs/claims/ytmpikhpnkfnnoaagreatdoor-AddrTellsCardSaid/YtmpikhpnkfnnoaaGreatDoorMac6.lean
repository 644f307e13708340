/-
  addr.Mac of a group of IPv6, and of any address.
-/
import Derived.Test.YtmpikhpnkfnnoaaGreatDoorMac
import Derived.Deep.RegionLaw
import Derived.Laws.CopyOwn
namespace Go.Proofs.YtmpikhpnkfnnoaaGreatDoor
open Go.RowKit
set_option linter.unusedVariables false
attribute [local go_sem ↓] bld_mac ld_addr ld_mac st_mac
attribute [local go_sem] ldr_addr ldr_mac str_mac

/-- The boxed address, the result's block, and another address of Ethernet in block n. -/
def M3 (w W : World) (n : Nat) (v : Bool) (l M : List UInt8) : Prop :=
  ObjAt W w.heap.size (addrC v l).toArray 24 ∧ ObjAt W (w.heap.size + 1) (B8 [0, 0, 0, 0, 0, 0]).toArray 28 ∧ ObjAt W n (B8 M).toArray 28 ∧ M.length = 6 ∧ w.heap.size + 1 < n ∧ Below w.heap.size w W
/-- .. before that one was made. -/
def M2 (w W : World) (v : Bool) (l : List UInt8) : Prop :=
  ObjAt W w.heap.size (addrC v l).toArray 24 ∧ ObjAt W (w.heap.size + 1) (B8 [0, 0, 0, 0, 0, 0]).toArray 28 ∧ Below w.heap.size w W
theorem M2.start (w : World) (v : Bool) (l : List UInt8) : M2 w ((w.alloc (.cells (addrC v l).toArray 24)).alloc (.cells (B8 [0, 0, 0, 0, 0, 0]).toArray 28)) v l := by
  refine ⟨(ObjAt.made w _ _).alloc _, ?_, ((Below.refl _ _).alloc (Nat.le_refl _) _).alloc (by simp) _⟩
  have := ObjAt.made (w.alloc (.cells (addrC v l).toArray 24)) (B8 [0, 0, 0, 0, 0, 0]).toArray 28
  rw [show (w.alloc (.cells (addrC v l).toArray 24)).heap.size = w.heap.size + 1 by simp] at this
  exact this
theorem M2.below {w W W' : World} {v : Bool} {l : List UInt8} (h : M2 w W v l) (hb : Below W.heap.size W W') : M2 w W' v l := ⟨h.1.below hb h.1.lt, h.2.1.below hb h.2.1.lt, bstep h.2.2 hb⟩
theorem M2.row {w W : World} {v : Bool} {l : List UInt8} (h : M2 w W v l) (hl : l.length = 16) : row? W w.heap.size 0 17 = some (addrC v l) := obj_row (A := []) (M := addrC v l) (C := []) (by simpa using h.1) rfl (by rw [addrC_length, hl])
theorem M2.fam {w W : World} {v : Bool} {l : List UInt8} (h : M2 w W v l) : W.cell? ⟨w.heap.size, 0, none⟩ = some (.bool v) := h.1.cell 0
theorem M2.free {w W : World} {v : Bool} {l : List UInt8} (h : M2 w W v l) : free? W (w.heap.size + 1) 0 6 = true := obj_free h.2.1 (by simp [B8_length])
theorem M3.made {w W : World} {v : Bool} {l : List UInt8} (h : M2 w W v l) (M : List UInt8) (hM : M.length = 6) : M3 w (aggW (W.alloc (.cells (B8 [0, 0, 0, 0, 0, 0]).toArray 28)) W.heap.size (B8 M)) W.heap.size v l M := by
  have l1 := h.1.lt
  have l2 := h.2.1.lt
  exact ⟨aggW_other (h.1.alloc _) _ (by omega), aggW_other (h.2.1.alloc _) _ (by omega), aggW_obj (L := B8 [0, 0, 0, 0, 0, 0]) (ObjAt.made W _ _) (by rw [B8_length, B8_length, hM]; rfl) (B8_one M), hM, l2, aggW_below (h.2.2.alloc (by omega) _) (by omega) _⟩
theorem M3.m2 {w W : World} {n : Nat} {v : Bool} {l M : List UInt8} (h : M3 w W n v l M) : M2 w W v l := ⟨h.1, h.2.1, h.2.2.2.2.2⟩
theorem M3.below {w W W' : World} {n : Nat} {v : Bool} {l M : List UInt8} (h : M3 w W n v l M) (hb : Below W.heap.size W W') : M3 w W' n v l M :=
  ⟨h.1.below hb h.1.lt, h.2.1.below hb h.2.1.lt, h.2.2.1.below hb h.2.2.1.lt, h.2.2.2.1, h.2.2.2.2.1, bstep h.2.2.2.2.2 hb⟩
theorem M3.drewN {w W : World} {n : Nat} {v : Bool} {l M : List UInt8} (h : M3 w W n v l M) (k : Nat) : M3 w (W.drewN k) n v l M := h.below (bdrewN (Below.refl _ _) k)
theorem M3.at {w W : World} {n : Nat} {v : Bool} {l M : List UInt8} (h : M3 w W n v l M) (j : Nat) (hj : j < l.length) : W.cell? ⟨w.heap.size, 1 + j, none⟩ = some (.int .u8 ((l[j]).toNat : Int)) := by
  rw [h.1.cell, List.getElem?_toArray]
  simp [addrC, Nat.add_comm 1 j, B8, List.getElem?_eq_getElem hj]
theorem M3.mat {w W : World} {n : Nat} {v : Bool} {l M : List UInt8} (h : M3 w W n v l M) (j : Nat) (hj : j < M.length) : W.cell? ⟨n, j, none⟩ = some (.int .u8 ((M[j]).toNat : Int)) := by
  rw [h.2.2.1.cell, List.getElem?_toArray, B8_get, List.getElem?_eq_getElem hj]; rfl
theorem M3.frz {w W : World} {n : Nat} {v : Bool} {l M : List UInt8} (h : M3 w W n v l M) (j : Nat) : W.frozen? ⟨n, j, none⟩ = false := h.2.2.1.free j
theorem M3.set {w W : World} {n : Nat} {v : Bool} {l M : List UInt8} (h : M3 w W n v l M) (j : Nat) (b : UInt8) : M3 w (W.setCell ⟨n, j, none⟩ (.int .u8 (b.toNat : Int))) n v l (M.set j b) := by
  obtain ⟨h1, h2, h3, h4, h5, h6⟩ := h
  refine ⟨h1.other ⟨n, j, none⟩ _ (by show w.heap.size ≠ n; omega), h2.other ⟨n, j, none⟩ _ (by show w.heap.size + 1 ≠ n; omega), ?_, by simpa using h4, h5, h6.setCell (p := ⟨n, j, none⟩) (by show w.heap.size ≤ n; omega) _⟩
  have := h3.set j (.int .u8 (b.toNat : Int))
  have e : (B8 M).toArray.setIfInBounds j (.int .u8 (b.toNat : Int)) = (B8 (M.set j b)).toArray := by
    apply Array.ext'
    rw [Array.toList_setIfInBounds]
    exact B8_set M j b
  rw [e] at this
  exact this
theorem M3.mrow {w W : World} {n : Nat} {v : Bool} {l M : List UInt8} (h : M3 w W n v l M) : row? W n 0 6 = some (B8 M) := obj_row (A := []) (M := B8 M) (C := []) (by simpa using h.2.2.1) rfl (by rw [B8_length, h.2.2.2.1])
theorem M2.done {w W : World} {v : Bool} {l : List UInt8} (h : M2 w W v l) (M : List UInt8) (hM : M.length = 6) : row? (aggW W (w.heap.size + 1) (B8 M)) (w.heap.size + 1) 0 6 = some (B8 M) ∧ Below w.heap.size w (aggW W (w.heap.size + 1) (B8 M)) :=
  ⟨aggW_row h.free (by rw [B8_length, hM]), aggW_below h.2.2 (by omega) _⟩

/-- To what an address is mapped. -/
def macB (v : Bool) (l : List UInt8) : List UInt8 := if v then 51 :: 51 :: l.drop 12 else [1, 0, 94, UInt8.ofNat ((l.getD 1 0).toNat % 128), l.getD 2 0, l.getD 3 0]
theorem macB_length (v : Bool) (l : List UInt8) (hl : l.length = 16) : (macB v l).length = 6 := by cases v <;> simp [macB, hl]
theorem mac4_B (l : List UInt8) : mac4V l = B8 (macB false l) := by
  unfold mac4V macB bN B8
  simp [UInt8.toNat_ofNat']
  omega
/-- What Mac tells. -/
def macG (v : Bool) (l : List UInt8) : List UInt8 := if grpV v l then macB v l else [0, 0, 0, 0, 0, 0]
theorem macG_length (v : Bool) (l : List UInt8) (hl : l.length = 16) : (macG v l).length = 6 := by unfold macG; split; exact macB_length v l hl; rfl

set_option maxRecDepth 100000 in
set_option maxHeartbeats 1000000 in
theorem mac6_any (l : List UInt8) (hl : l.length = 16) (hg : Hid (grpV true l = true)) (w : World) : Calls Tryz.prog 9 #[.agg (addrC true l).toArray] w fun e w' => e = .returned (.tuple #[.agg (B8 (macB true l)).toArray, .bool true]) ∧ Below w.heap.size w w' := by
  have hm0 := M2.start w true l
  rw [show (B8 [0, 0, 0, 0, 0, 0]).toArray = #[.int .u8 0, .int .u8 0, .int .u8 0, .int .u8 0, .int .u8 0, .int .u8 0] from rfl] at hm0
  have HM := Lib.hid hm0; clear hm0
  have HC := Lib.hid (fun w => group_any true l hl w)
  have hok := fok_bytes [51, 51, 0, 0, 0, 0] 6 rfl
  have hok2 := fok_bytes (macB true l) 6 (macB_length true l hl)
  have hbld : ∀ w0, (aggBuild 28 #[(0, .int .u8 51), (1, .int .u8 51)]).run Tryz.prog w0 = .ok (.agg (B8 [51, 51, 0, 0, 0, 0]).toArray) w0 := bld_run _ _ _ (by kernel_rfl)
  have hsz : (Tryz.prog.info? 5).map (·.size) = some 1 := by kernel_rfl
  have HL := Lib.hid hl
  clear hl
  go_enter Tryz.func9, Tryz.ntmps9
  go_upto_region 1 with (fail)
  generalize (w.alloc (.cells (addrC true l).toArray 24)).alloc (.cells _ 28) = W at HM ⊢
  have hr := HM.out.row HL.out
  go_upto_region 5 with (go_at_call 16; refine (HC.out _).mono ?_; rintro e w1 ⟨rfl, hb1⟩; rw [hg.out]; have HM1 := Lib.hid (HM.out.below hb1); have k0 := HM1.out.fam; have hf := free_made w1 #[.int .u8 0, .int .u8 0, .int .u8 0, .int .u8 0, .int .u8 0, .int .u8 0] 28 6 (by simp); have H3 := Lib.hid (show M3 w (aggW (w1.alloc (.cells #[.int .u8 0, .int .u8 0, .int .u8 0, .int .u8 0, .int .u8 0, .int .u8 0] 28)) w1.heap.size (B8 [51, 51, 0, 0, 0, 0])) w1.heap.size true l [51, 51, 0, 0, 0, 0] from M3.made HM1.out _ rfl); clear hb1 hr)
  generalize aggW (w1.alloc (.cells #[.int .u8 0, .int .u8 0, .int .u8 0, .int .u8 0, .int .u8 0, .int .u8 0] 28)) w1.heap.size _ = W3 at H3 ⊢
  clear hf k0
  generalize w1.heap.size = n at H3 ⊢
  have HP : Hid (∀ j v, (B8 (l.drop 12))[j]? = some v → W3.drew.cell? ((⟨w.heap.size, 13, none⟩ : Addr).add j) = some v) := Lib.hid fun j v hv => by
    rw [B8_get] at hv
    have hj : j < 4 := by
      apply Classical.byContradiction; intro hc
      rw [List.getElem?_eq_none (by simp [HL.out]; omega)] at hv
      cases hv
    have hl := HL.out
    have h12 : 12 + j < l.length := by omega
    have := H3.out.at (12 + j) h12
    rw [List.getElem?_drop, List.getElem?_eq_getElem h12] at hv
    rw [Option.map_some, Option.some.injEq] at hv
    rw [← hv]
    show W3.cell? _ = _
    rw [Addr.add_mid, show 13 + j = 1 + (12 + j) by omega]
    exact this
  go_region_law (refine step_copy_splice rfl (.tmp 12) (.tmp 14) 45 45 rfl 5 Tryz.underlying45 hsz (some ⟨n, 2, none⟩) (some ⟨w.heap.size, 13, none⟩) 4 4 4 4 (by simp [Act.eval, Act.put]) (by simp [Act.eval, Act.put]) n 2 (B8 [51, 51, 0, 0, 0, 0]) 28 (ObjAt.drew H3.out.2.2.1) (B8 (l.drop 12)) (by simp [B8_length, HL.out]) (fun _ => ⟨rfl, _, rfl, HP.out⟩) (by simp [B8_length, HL.out]) (B8_one _) n _ (Below.refl _ _) (Nat.le_refl _) ?_; intro w4 hg4 hb4)
  have e4 : splice (B8 [51, 51, 0, 0, 0, 0]) 2 (B8 (l.drop 12)) = B8 (macB true l) := by
    have h4 : (B8 (l.drop 12)).length = 4 := by simp [B8_length, HL.out]
    unfold splice macB
    rw [h4]
    simp [B8]
  have hg5 := hg4.out
  rw [e4] at hg5
  have H4 : Hid (M3 w w4 n true l (macB true l)) := Lib.hid (by
    obtain ⟨h1, h2, h3, h5, h6, h7⟩ := H3.out
    exact ⟨(ObjAt.drew h1).below hb4 (by omega), (ObjAt.drew h2).below hb4 h6, hg5, macB_length true l HL.out, h6, (bdrewN h7 1).trans (hb4.mono (by omega))⟩)
  have hmr := H4.out.mrow
  have hf2 := H4.out.m2.free
  clear hg4 hg5 hb4 HP e4
  go_wp2
  obtain ⟨q1, q2⟩ := H4.out.m2.done (macB true l) (macB_length true l HL.out)
  exact bodyPost_ret (results_cell2 Tryz.results9 rfl (ld_some q1 (ldr_mac _ _ _))) rfl ⟨rfl, q2⟩

theorem mac_any (v : Bool) (l : List UInt8) (hl : l.length = 16) (w : World) : Calls Tryz.prog 9 #[.agg (addrC v l).toArray] w fun e w' => e = .returned (.tuple #[.agg (B8 (macG v l)).toArray, .bool (grpV v l)]) ∧ Below w.heap.size w w' := by
  cases hg : grpV v l with
  | false =>
    have e : macG v l = [0, 0, 0, 0, 0, 0] := by unfold macG; rw [hg]; rfl
    rw [e]
    exact mac_none v l hl (Lib.hid hg) w
  | true =>
    have e : macG v l = macB v l := by unfold macG; rw [hg]; rfl
    rw [e]
    cases v with
    | true => exact mac6_any l hl (Lib.hid hg) w
    | false =>
      have := mac4_any l hl (Lib.hid hg) w
      rw [mac4_B] at this
      exact this
end Go.Proofs.YtmpikhpnkfnnoaaGreatDoor
