/-
  The law's walk: what an address is.
-/
import Derived.Test.YtmpikhpnkfnnoaaGreatDoorRmac
import Derived.Test.YtmpikhpnkfnnoaaGreatDoorEqM
import Derived.Test.YtmpikhpnkfnnoaaGreatDoorTell4
import Derived.Test.YtmpikhpnkfnnoaaGreatDoorRbytes
import Derived.Test.YtmpikhpnkfnnoaaGreatDoorLives
import Derived.Deep.RegionHeld3
namespace Go.Proofs.YtmpikhpnkfnnoaaGreatDoor
open Go.RowKit
set_option linter.unusedVariables false
attribute [local go_sem ↓] ld_addr st_addr ld_mac st_mac
attribute [local go_sem] ldr_addr str_addr ldr_mac str_mac

/-- Two operations of a region that are not wanted where there is no group: by a name, so that the walk leaves them till they come up. -/
def lateLoad : Op := Op.load 28 (Operand.tmp 3)
def lateNot : Op := Op.unOp UnOp.not 4 (Operand.tmp 50)
theorem lateLoad_eq : lateLoad = Op.load 28 (Operand.tmp 3) := rfl
theorem lateNot_eq : lateNot = Op.unOp UnOp.not 4 (Operand.tmp 50) := rfl
attribute [local go_sem] lateLoad_eq lateNot_eq
def OB (w W : World) (v : Bool) (l : List UInt8) : Prop := ObjAt W w.heap.size (addrC v l).toArray 24 ∧ Below w.heap.size w W
theorem OB.below {w W W' : World} {v : Bool} {l : List UInt8} (h : OB w W v l) (hb : Below W.heap.size W W') : OB w W' v l := ⟨h.1.below hb h.1.lt, bstep h.2 hb⟩
theorem OB.drewN {w W : World} {v : Bool} {l : List UInt8} (h : OB w W v l) (k : Nat) : OB w (W.drewN k) v l := h.below (bdrewN (Below.refl _ _) k)
theorem OB.row {w W : World} {v : Bool} {l : List UInt8} (h : OB w W v l) (hl : l.length = 16) : row? W w.heap.size 0 17 = some (addrC v l) := obj_row (A := []) (M := addrC v l) (C := []) (by simpa using h.1) rfl (by rw [addrC_length, hl])
theorem OB.free {w W : World} {v : Bool} {l : List UInt8} (h : OB w W v l) (hl : l.length = 16) : free? W w.heap.size 0 17 = true := obj_free h.1 (by simp [addrC_length, hl])
theorem OB.set {w W : World} {v : Bool} {l l' : List UInt8} (h : OB w W v l) (hl : l.length = 16) (hl' : l'.length = 16) : OB w (aggW W w.heap.size (addrC v l')) v l' := ⟨aggW_obj h.1 (by rw [addrC_length, addrC_length, hl, hl']) (addrC_one v l'), aggW_below h.2 (Nat.le_refl _) _⟩
/-- The address, and where it goes, twice. -/
def T1 (w W : World) (m : Nat) (v : Bool) (l M : List UInt8) : Prop := OB w W v l ∧ ObjAt W m (B8 M).toArray 28 ∧ w.heap.size < m ∧ M.length = 6
def TS (w W : World) (m n : Nat) (v : Bool) (l M : List UInt8) : Prop := T1 w W m v l M ∧ ObjAt W n (B8 M).toArray 28 ∧ m < n
theorem T1.below {w W W' : World} {m : Nat} {v : Bool} {l M : List UInt8} (h : T1 w W m v l M) (hb : Below W.heap.size W W') : T1 w W' m v l M := ⟨h.1.below hb, h.2.1.below hb h.2.1.lt, h.2.2⟩
theorem TS.below {w W W' : World} {m n : Nat} {v : Bool} {l M : List UInt8} (h : TS w W m n v l M) (hb : Below W.heap.size W W') : TS w W' m n v l M := ⟨h.1.below hb, h.2.1.below hb h.2.1.lt, h.2.2⟩
theorem TS.drewN {w W : World} {m n : Nat} {v : Bool} {l M : List UInt8} (h : TS w W m n v l M) (k : Nat) : TS w (W.drewN k) m n v l M := h.below (bdrewN (Below.refl _ _) k)
theorem TS.bel {w W : World} {m n : Nat} {v : Bool} {l M : List UInt8} (h : TS w W m n v l M) : Below w.heap.size w W := h.1.1.2
theorem T1.made {w W : World} {v : Bool} {l : List UInt8} (h : OB w W v l) (M : List UInt8) (hM : M.length = 6) : T1 w (aggW (W.alloc (.cells #[.int .u8 0, .int .u8 0, .int .u8 0, .int .u8 0, .int .u8 0, .int .u8 0] 28)) W.heap.size (B8 M)) W.heap.size v l M := by
  have l1 := h.1.lt
  exact ⟨⟨aggW_other (h.1.alloc _) _ (by omega), aggW_below (h.2.alloc (by omega) _) (by omega) _⟩, aggW_obj (L := B8 [0, 0, 0, 0, 0, 0]) (ObjAt.made W _ _) (by rw [B8_length, B8_length, hM]; rfl) (B8_one M), l1, hM⟩
theorem TS.made {w W : World} {m : Nat} {v : Bool} {l M : List UInt8} (h : T1 w W m v l M) : TS w (aggW (W.alloc (.cells #[.int .u8 0, .int .u8 0, .int .u8 0, .int .u8 0, .int .u8 0, .int .u8 0] 28)) W.heap.size (B8 M)) m W.heap.size v l M := by
  have l1 := h.1.1.lt
  have l2 := h.2.1.lt
  exact ⟨⟨⟨aggW_other (h.1.1.alloc _) _ (by omega), aggW_below (h.1.2.alloc (by omega) _) (by omega) _⟩, aggW_other (h.2.1.alloc _) _ (by omega), h.2.2⟩, aggW_obj (L := B8 [0, 0, 0, 0, 0, 0]) (ObjAt.made W _ _) (by rw [B8_length, B8_length, h.2.2.2]; rfl) (B8_one M), l2⟩
theorem mrowO {W : World} {b : Nat} {M : List UInt8} (h : ObjAt W b (B8 M).toArray 28) (hM : M.length = 6) : row? W b 0 6 = some (B8 M) := obj_row (A := []) (M := B8 M) (C := []) (by simpa using h) rfl (by rw [B8_length, hM])
theorem T1.row {w W : World} {m : Nat} {v : Bool} {l M : List UInt8} (h : T1 w W m v l M) : row? W m 0 6 = some (B8 M) := mrowO h.2.1 h.2.2.2
theorem T1.at0 {w W : World} {m : Nat} {v : Bool} {l M : List UInt8} (h : T1 w W m v l M) : W.cell? ⟨m, 0, none⟩ = some (.int .u8 ((M.getD 0 0).toNat : Int)) := by
  rw [h.2.1.cell, List.getElem?_toArray, B8_get, List.getElem?_eq_getElem (by rw [h.2.2.2]; omega)]
  simp [List.getD, List.getElem?_eq_getElem (show 0 < M.length by rw [h.2.2.2]; omega)]
theorem TS.facts {w W : World} {m n : Nat} {v : Bool} {l M : List UInt8} (h : TS w W m n v l M) (hl : l.length = 16) : row? W w.heap.size 0 17 = some (addrC v l) ∧ row? W m 0 6 = some (B8 M) ∧ row? W n 0 6 = some (B8 M) ∧ W.cell? ⟨m, 0, none⟩ = some (.int .u8 ((M.getD 0 0).toNat : Int)) ∧ TS w W m n v l M :=
  ⟨h.1.1.row hl, h.1.row, mrowO h.2.1 h.1.2.2.2, h.1.at0, h⟩
theorem mac_first (v : Bool) (l : List UInt8) : (((macG v l).getD 0 0).toNat = 51 ∧ grpV v l = true ∧ manyV (macG v l) = true) ∨ (((macG v l).getD 0 0).toNat = 1 ∧ grpV v l = true ∧ manyV (macG v l) = true) ∨ (((macG v l).getD 0 0).toNat = 0 ∧ grpV v l = false ∧ manyV (macG v l) = false) := by
  cases hg : grpV v l with
  | false =>
    have e : macG v l = [0, 0, 0, 0, 0, 0] := by unfold macG; rw [hg]; rfl
    rw [e]; exact .inr (.inr ⟨rfl, rfl, rfl⟩)
  | true =>
    have e : macG v l = macB v l := by unfold macG; rw [hg]; rfl
    rw [e]
    cases v with
    | true => exact .inl ⟨rfl, rfl, by simp [manyV, macB]⟩
    | false => exact .inr (.inl ⟨rfl, rfl, by simp [manyV, macB]⟩)

set_option maxRecDepth 100000 in
set_option maxHeartbeats 4000000 in
theorem tells_core (v : Bool) (l : List UInt8) (hl : l.length = 16) (w : World) (h : Env w) (L M : List UInt8) (hLe : L = ownV v l) (hMe : M = macG v L) (gg : Bool) (zz : Int) (hz : ((M.getD 0 0).toNat : Int) = zz) (hgg : grpV v L = gg) (hmm : manyV M = gg) (hzg : (zz = 51 ∧ gg = true) ∨ (zz = 1 ∧ gg = true) ∨ (zz = 0 ∧ gg = false)) :
    Calls Tryz.prog 3 #[.agg (addrC v l).toArray] w fun e w' => e = .returned (.bool true) ∧ Below w.heap.size w w' := by
  have HE := Lib.hid h; clear h
  have hL : L.length = 16 := by rw [hLe]; exact ownV_length v l hl
  have hM : M.length = 6 := by rw [hMe]; exact macG_length v L hL
  have HO : Hid (∀ w, Calls Tryz.prog 8 #[.agg (addrC v l).toArray] w fun e w' => e = .returned (.agg (addrC v L).toArray) ∧ Below w.heap.size w w') := Lib.hid (fun w => by rw [hLe]; exact own_any v l hl w)
  have HGa := Lib.hid (fun w => good_any v l hl w)
  have HGb := Lib.hid (fun w => rgood_any v l hl w)
  have HMa : Hid (∀ w, Calls Tryz.prog 9 #[.agg (addrC v L).toArray] w fun e w' => e = .returned (.tuple #[.agg (B8 M).toArray, .bool gg]) ∧ Below w.heap.size w w') := Lib.hid (fun w => by rw [hMe, ← hgg]; exact mac_any v L hL w)
  have HMb : Hid (∀ w, Calls Tryz.prog 10 #[.agg (addrC v L).toArray] w fun e w' => e = .returned (.tuple #[.agg (B8 M).toArray, .bool gg]) ∧ Below w.heap.size w w') := Lib.hid (fun w => by rw [hMe, ← hgg]; exact rmac_any v L hL w)
  have hby := Lib.hid (fun w => bytes_any v L hL w)
  have hrby := Lib.hid (fun w => rbytes_any v L hL w)
  have hze := Lib.hid (fun w => zero_any v L hL w)
  have hrze := Lib.hid (fun w => rzero_any v L hL w)
  have hmany : Hid (∀ w, Calls Tryz.prog 15 #[.agg (B8 M).toArray] w fun e w' => e = .returned (.bool gg) ∧ Below w.heap.size w w') := Lib.hid (fun w => by rw [← hmm]; exact many_any M hM w)
  have hgr : Hid (∀ w, Calls Tryz.prog 16 #[.agg (addrC v L).toArray] w fun e w' => e = .returned (.bool gg) ∧ Below w.heap.size w w') := Lib.hid (fun w => by rw [← hgg]; exact group_any v L hL w)
  have hrgr : Hid (∀ w, Calls Tryz.prog 17 #[.agg (addrC v L).toArray] w fun e w' => e = .returned (.bool gg) ∧ Below w.heap.size w w') := Lib.hid (fun w => by rw [← hgg]; exact rgroup_any v L hL w)
  have hlo := Lib.hid (fun w => local_any v L hL w)
  have hrlo := Lib.hid (fun w => rlocal_any v L hL w)
  have hss := Lib.hid (fun w => ssm_any v L hL w)
  have hrss := Lib.hid (fun w => rssm_any v L hL w)
  have hsc := Lib.hid (fun w => scope_any v L hL w)
  have hrsc := Lib.hid (fun w => rscope_any v L hL w)
  generalize goodV v l = gd at HGa HGb
  generalize Str (bytesV v L) = bs at hby hrby
  generalize zeroV L = ze at hze hrze
  generalize locV v L = lc at hlo hrlo
  generalize ssmV v L = sm at hss hrss
  generalize scpV v L = sc at hsc hrsc
  have heqM : ∀ w0, (Op.equalIn 10000 28 (.agg (B8 M).toArray) (.agg (B8 M).toArray)).run Tryz.prog w0 = .ok true w0 := fun w0 => by
    have := eq_mac M M hM hM w0
    simpa using this
  have HK : Hid (∀ W m n, TS w W m n v L M → row? W w.heap.size 0 17 = some (addrC v L) ∧ row? W m 0 6 = some (B8 M) ∧ row? W n 0 6 = some (B8 M) ∧ W.cell? ⟨m, 0, none⟩ = some (.int .u8 zz) ∧ TS w W m n v L M) := Lib.hid (fun W m n h => by
    have := h.facts hL
    rw [hz] at this
    exact this)
  have HKB : Hid (∀ W, OB w W v l → row? W w.heap.size 0 17 = some (addrC v l) ∧ OB w W v l) := Lib.hid (fun W h => ⟨h.row hl, h⟩)
  have hok := fok_addr v L hL
  have hokM := fok_bytes M 6 hM
  have hst : ∀ t : List UInt8, (t != t) = false := fun t => by simp
  have hbn : ∀ b : Bool, (b != b) = false := fun b => by simp
  have hbe : ∀ b : Bool, (b == b) = true := fun b => by simp
  have hie : ∀ z : Int, (z == z) = true := fun z => by simp
  have HB : Hid (OB w (w.alloc (.cells (addrC v l).toArray 24)) v l) := Lib.hid ⟨ObjAt.made w _ _, (Below.refl _ _).alloc (Nat.le_refl _) _⟩
  have Hl := Lib.hid hl; have HL := Lib.hid hL; have HM := Lib.hid hM
  clear hLe hMe hz hgg hmm hl hL hM
  rcases hzg with ⟨rfl, rfl⟩ | ⟨rfl, rfl⟩ | ⟨rfl, rfl⟩
  · go_enter Tryz.func3, Tryz.ntmps3
    go_upto_region 1 with (fail)
    generalize w.alloc (.cells (addrC v l).toArray 24) = W at HB ⊢
    go_region_held3 (fun W => row? W w.heap.size 0 17 = some (addrC v l) ∧ OB w W v l) (first | assumption | exact HKB.out _ HB.out | exact HKB.out _ (HB.out.drewN 1)) (first
      | (go_at_call 6; (with_reducible refine (HGa.out _).mono ?_); rintro x w1 ⟨rfl, hb1⟩; have hk := HKB.out _ (OB.below (And.right (by assumption)) hb1); clear hb1)
      | (go_at_call 7; (with_reducible refine (HGb.out _).mono ?_); rintro x w1 ⟨rfl, hb1⟩; have hk := HKB.out _ (OB.below (And.right (by assumption)) hb1); clear hb1))
    have HB1 := Lib.hid hk.2
    clear hk
    have hr := HB1.out.row Hl.out
    go_upto_region 4 with (go_at_call 8; (with_reducible refine (HO.out _).mono ?_); rintro x w2 ⟨rfl, hb2⟩; have hf2 := (HB1.out.below hb2).free Hl.out; have HB2 := Lib.hid ((HB1.out.below hb2).set Hl.out HL.out); clear hb2 hr)
    generalize aggW w2 w.heap.size (addrC v L) = W3 at HB2 ⊢
    clear hf2
    have hr := HB2.out.row HL.out
    go_upto_region 5 with (go_at_call 9; (with_reducible refine (HMa.out _).mono ?_); rintro x w4 ⟨rfl, hb4⟩; have hf4 := free_made w4 #[.int .u8 0, .int .u8 0, .int .u8 0, .int .u8 0, .int .u8 0, .int .u8 0] 28 6 (by simp); have HT1 := Lib.hid (T1.made (HB2.out.below hb4) M HM.out); clear hb4 hr)
    generalize aggW (w4.alloc (.cells #[.int .u8 0, .int .u8 0, .int .u8 0, .int .u8 0, .int .u8 0, .int .u8 0] 28)) w4.heap.size (B8 M) = W5 at HT1 ⊢
    clear hf4
    generalize w4.heap.size = m at HT1 ⊢
    have hr := HT1.out.1.row HL.out
    go_upto_region 6 with (go_at_call 10; (with_reducible refine (HMb.out _).mono ?_); rintro x w6 ⟨rfl, hb6⟩; have hf6 := free_made w6 #[.int .u8 0, .int .u8 0, .int .u8 0, .int .u8 0, .int .u8 0, .int .u8 0] 28 6 (by simp); have HT2 := Lib.hid (TS.made (HT1.out.below hb6)); clear hb6 hr)
    generalize aggW (w6.alloc (.cells #[.int .u8 0, .int .u8 0, .int .u8 0, .int .u8 0, .int .u8 0, .int .u8 0] 28)) w6.heap.size (B8 M) = W7 at HT2 ⊢
    clear hf6
    generalize w6.heap.size = n at HT2 ⊢
    go_region_held3 (fun W => row? W w.heap.size 0 17 = some (addrC v L) ∧ row? W m 0 6 = some (B8 M) ∧ row? W n 0 6 = some (B8 M) ∧ W.cell? ⟨m, 0, none⟩ = some (.int .u8 51) ∧ TS w W m n v L M) (first | assumption | exact HK.out _ _ _ HT2.out | exact HK.out _ _ _ (HT2.out.drewN 1)) (first
      | (go_at_call 11; (with_reducible refine (hby.out _).mono ?_); rintro x w3 ⟨rfl, hb3⟩; have hk := HK.out _ _ _ (TS.below (And.right (And.right (And.right (And.right (by assumption))))) hb3); clear hb3)
      | (go_at_call 12; (with_reducible refine (hrby.out _).mono ?_); rintro x w3 ⟨rfl, hb3⟩; have hk := HK.out _ _ _ (TS.below (And.right (And.right (And.right (And.right (by assumption))))) hb3); clear hb3)
      | (go_at_call 13; (with_reducible refine (hze.out _).mono ?_); rintro x w3 ⟨rfl, hb3⟩; have hk := HK.out _ _ _ (TS.below (And.right (And.right (And.right (And.right (by assumption))))) hb3); clear hb3)
      | (go_at_call 14; (with_reducible refine (hrze.out _).mono ?_); rintro x w3 ⟨rfl, hb3⟩; have hk := HK.out _ _ _ (TS.below (And.right (And.right (And.right (And.right (by assumption))))) hb3); clear hb3)
      | (go_at_call 15; (with_reducible refine (hmany.out _).mono ?_); rintro x w3 ⟨rfl, hb3⟩; have hk := HK.out _ _ _ (TS.below (And.right (And.right (And.right (And.right (by assumption))))) hb3); clear hb3))
    have HT3 := Lib.hid hk.2.2.2.2
    clear hk
    go_upto_region 8 with (fail)
    go_region_held3 (fun W => row? W w.heap.size 0 17 = some (addrC v L) ∧ row? W m 0 6 = some (B8 M) ∧ row? W n 0 6 = some (B8 M) ∧ W.cell? ⟨m, 0, none⟩ = some (.int .u8 51) ∧ TS w W m n v L M) (first | assumption | exact HK.out _ _ _ HT3.out | exact HK.out _ _ _ (HT3.out.drewN 1)) (first
      | (go_at_call 16; (with_reducible refine (hgr.out _).mono ?_); rintro x w3 ⟨rfl, hb3⟩; have hk := HK.out _ _ _ (TS.below (And.right (And.right (And.right (And.right (by assumption))))) hb3); clear hb3)
      | (go_at_call 17; (with_reducible refine (hrgr.out _).mono ?_); rintro x w3 ⟨rfl, hb3⟩; have hk := HK.out _ _ _ (TS.below (And.right (And.right (And.right (And.right (by assumption))))) hb3); clear hb3)
      | (go_at_call 18; (with_reducible refine (hlo.out _).mono ?_); rintro x w3 ⟨rfl, hb3⟩; have hk := HK.out _ _ _ (TS.below (And.right (And.right (And.right (And.right (by assumption))))) hb3); clear hb3)
      | (go_at_call 19; (with_reducible refine (hrlo.out _).mono ?_); rintro x w3 ⟨rfl, hb3⟩; have hk := HK.out _ _ _ (TS.below (And.right (And.right (And.right (And.right (by assumption))))) hb3); clear hb3)
      | (go_at_call 20; (with_reducible refine (hss.out _).mono ?_); rintro x w3 ⟨rfl, hb3⟩; have hk := HK.out _ _ _ (TS.below (And.right (And.right (And.right (And.right (by assumption))))) hb3); clear hb3)
      | (go_at_call 21; (with_reducible refine (hrss.out _).mono ?_); rintro x w3 ⟨rfl, hb3⟩; have hk := HK.out _ _ _ (TS.below (And.right (And.right (And.right (And.right (by assumption))))) hb3); clear hb3)
      | (go_at_call 22; (with_reducible refine (hsc.out _).mono ?_); rintro x w3 ⟨rfl, hb3⟩; have hk := HK.out _ _ _ (TS.below (And.right (And.right (And.right (And.right (by assumption))))) hb3); clear hb3)
      | (go_at_call 23; (with_reducible refine (hrsc.out _).mono ?_); rintro x w3 ⟨rfl, hb3⟩; have hk := HK.out _ _ _ (TS.below (And.right (And.right (And.right (And.right (by assumption))))) hb3); clear hb3)
      | (go_at_call 15; (with_reducible refine (hmany.out _).mono ?_); rintro x w3 ⟨rfl, hb3⟩; have hk := HK.out _ _ _ (TS.below (And.right (And.right (And.right (And.right (by assumption))))) hb3); clear hb3)
      | (go_at_call 24; refine (lives3_any _ (HE.out.below (TS.bel (And.right (And.right (And.right (And.right (by assumption)))))))).mono ?_; rintro x w3 ⟨rfl, hb3⟩; have hk := HK.out _ _ _ (TS.below (And.right (And.right (And.right (And.right (by assumption))))) hb3); clear hb3))
    go_wp2_with fail
    go_ret
    exact ⟨rfl, hk.2.2.2.2.bel⟩
  · go_enter Tryz.func3, Tryz.ntmps3
    go_upto_region 1 with (fail)
    generalize w.alloc (.cells (addrC v l).toArray 24) = W at HB ⊢
    go_region_held3 (fun W => row? W w.heap.size 0 17 = some (addrC v l) ∧ OB w W v l) (first | assumption | exact HKB.out _ HB.out | exact HKB.out _ (HB.out.drewN 1)) (first
      | (go_at_call 6; (with_reducible refine (HGa.out _).mono ?_); rintro x w1 ⟨rfl, hb1⟩; have hk := HKB.out _ (OB.below (And.right (by assumption)) hb1); clear hb1)
      | (go_at_call 7; (with_reducible refine (HGb.out _).mono ?_); rintro x w1 ⟨rfl, hb1⟩; have hk := HKB.out _ (OB.below (And.right (by assumption)) hb1); clear hb1))
    have HB1 := Lib.hid hk.2
    clear hk
    have hr := HB1.out.row Hl.out
    go_upto_region 4 with (go_at_call 8; (with_reducible refine (HO.out _).mono ?_); rintro x w2 ⟨rfl, hb2⟩; have hf2 := (HB1.out.below hb2).free Hl.out; have HB2 := Lib.hid ((HB1.out.below hb2).set Hl.out HL.out); clear hb2 hr)
    generalize aggW w2 w.heap.size (addrC v L) = W3 at HB2 ⊢
    clear hf2
    have hr := HB2.out.row HL.out
    go_upto_region 5 with (go_at_call 9; (with_reducible refine (HMa.out _).mono ?_); rintro x w4 ⟨rfl, hb4⟩; have hf4 := free_made w4 #[.int .u8 0, .int .u8 0, .int .u8 0, .int .u8 0, .int .u8 0, .int .u8 0] 28 6 (by simp); have HT1 := Lib.hid (T1.made (HB2.out.below hb4) M HM.out); clear hb4 hr)
    generalize aggW (w4.alloc (.cells #[.int .u8 0, .int .u8 0, .int .u8 0, .int .u8 0, .int .u8 0, .int .u8 0] 28)) w4.heap.size (B8 M) = W5 at HT1 ⊢
    clear hf4
    generalize w4.heap.size = m at HT1 ⊢
    have hr := HT1.out.1.row HL.out
    go_upto_region 6 with (go_at_call 10; (with_reducible refine (HMb.out _).mono ?_); rintro x w6 ⟨rfl, hb6⟩; have hf6 := free_made w6 #[.int .u8 0, .int .u8 0, .int .u8 0, .int .u8 0, .int .u8 0, .int .u8 0] 28 6 (by simp); have HT2 := Lib.hid (TS.made (HT1.out.below hb6)); clear hb6 hr)
    generalize aggW (w6.alloc (.cells #[.int .u8 0, .int .u8 0, .int .u8 0, .int .u8 0, .int .u8 0, .int .u8 0] 28)) w6.heap.size (B8 M) = W7 at HT2 ⊢
    clear hf6
    generalize w6.heap.size = n at HT2 ⊢
    go_region_held3 (fun W => row? W w.heap.size 0 17 = some (addrC v L) ∧ row? W m 0 6 = some (B8 M) ∧ row? W n 0 6 = some (B8 M) ∧ W.cell? ⟨m, 0, none⟩ = some (.int .u8 1) ∧ TS w W m n v L M) (first | assumption | exact HK.out _ _ _ HT2.out | exact HK.out _ _ _ (HT2.out.drewN 1)) (first
      | (go_at_call 11; (with_reducible refine (hby.out _).mono ?_); rintro x w3 ⟨rfl, hb3⟩; have hk := HK.out _ _ _ (TS.below (And.right (And.right (And.right (And.right (by assumption))))) hb3); clear hb3)
      | (go_at_call 12; (with_reducible refine (hrby.out _).mono ?_); rintro x w3 ⟨rfl, hb3⟩; have hk := HK.out _ _ _ (TS.below (And.right (And.right (And.right (And.right (by assumption))))) hb3); clear hb3)
      | (go_at_call 13; (with_reducible refine (hze.out _).mono ?_); rintro x w3 ⟨rfl, hb3⟩; have hk := HK.out _ _ _ (TS.below (And.right (And.right (And.right (And.right (by assumption))))) hb3); clear hb3)
      | (go_at_call 14; (with_reducible refine (hrze.out _).mono ?_); rintro x w3 ⟨rfl, hb3⟩; have hk := HK.out _ _ _ (TS.below (And.right (And.right (And.right (And.right (by assumption))))) hb3); clear hb3)
      | (go_at_call 15; (with_reducible refine (hmany.out _).mono ?_); rintro x w3 ⟨rfl, hb3⟩; have hk := HK.out _ _ _ (TS.below (And.right (And.right (And.right (And.right (by assumption))))) hb3); clear hb3))
    have HT3 := Lib.hid hk.2.2.2.2
    clear hk
    go_upto_region 8 with (fail)
    go_region_held3 (fun W => row? W w.heap.size 0 17 = some (addrC v L) ∧ row? W m 0 6 = some (B8 M) ∧ row? W n 0 6 = some (B8 M) ∧ W.cell? ⟨m, 0, none⟩ = some (.int .u8 1) ∧ TS w W m n v L M) (first | assumption | exact HK.out _ _ _ HT3.out | exact HK.out _ _ _ (HT3.out.drewN 1)) (first
      | (go_at_call 16; (with_reducible refine (hgr.out _).mono ?_); rintro x w3 ⟨rfl, hb3⟩; have hk := HK.out _ _ _ (TS.below (And.right (And.right (And.right (And.right (by assumption))))) hb3); clear hb3)
      | (go_at_call 17; (with_reducible refine (hrgr.out _).mono ?_); rintro x w3 ⟨rfl, hb3⟩; have hk := HK.out _ _ _ (TS.below (And.right (And.right (And.right (And.right (by assumption))))) hb3); clear hb3)
      | (go_at_call 18; (with_reducible refine (hlo.out _).mono ?_); rintro x w3 ⟨rfl, hb3⟩; have hk := HK.out _ _ _ (TS.below (And.right (And.right (And.right (And.right (by assumption))))) hb3); clear hb3)
      | (go_at_call 19; (with_reducible refine (hrlo.out _).mono ?_); rintro x w3 ⟨rfl, hb3⟩; have hk := HK.out _ _ _ (TS.below (And.right (And.right (And.right (And.right (by assumption))))) hb3); clear hb3)
      | (go_at_call 20; (with_reducible refine (hss.out _).mono ?_); rintro x w3 ⟨rfl, hb3⟩; have hk := HK.out _ _ _ (TS.below (And.right (And.right (And.right (And.right (by assumption))))) hb3); clear hb3)
      | (go_at_call 21; (with_reducible refine (hrss.out _).mono ?_); rintro x w3 ⟨rfl, hb3⟩; have hk := HK.out _ _ _ (TS.below (And.right (And.right (And.right (And.right (by assumption))))) hb3); clear hb3)
      | (go_at_call 22; (with_reducible refine (hsc.out _).mono ?_); rintro x w3 ⟨rfl, hb3⟩; have hk := HK.out _ _ _ (TS.below (And.right (And.right (And.right (And.right (by assumption))))) hb3); clear hb3)
      | (go_at_call 23; (with_reducible refine (hrsc.out _).mono ?_); rintro x w3 ⟨rfl, hb3⟩; have hk := HK.out _ _ _ (TS.below (And.right (And.right (And.right (And.right (by assumption))))) hb3); clear hb3)
      | (go_at_call 15; (with_reducible refine (hmany.out _).mono ?_); rintro x w3 ⟨rfl, hb3⟩; have hk := HK.out _ _ _ (TS.below (And.right (And.right (And.right (And.right (by assumption))))) hb3); clear hb3)
      | (go_at_call 24; refine (lives3_any _ (HE.out.below (TS.bel (And.right (And.right (And.right (And.right (by assumption)))))))).mono ?_; rintro x w3 ⟨rfl, hb3⟩; have hk := HK.out _ _ _ (TS.below (And.right (And.right (And.right (And.right (by assumption))))) hb3); clear hb3))
    go_wp2_with fail
    go_ret
    exact ⟨rfl, hk.2.2.2.2.bel⟩
  · go_enter Tryz.func3, Tryz.ntmps3
    go_upto_region 1 with (fail)
    generalize w.alloc (.cells (addrC v l).toArray 24) = W at HB ⊢
    go_region_held3 (fun W => row? W w.heap.size 0 17 = some (addrC v l) ∧ OB w W v l) (first | assumption | exact HKB.out _ HB.out | exact HKB.out _ (HB.out.drewN 1)) (first
      | (go_at_call 6; (with_reducible refine (HGa.out _).mono ?_); rintro x w1 ⟨rfl, hb1⟩; have hk := HKB.out _ (OB.below (And.right (by assumption)) hb1); clear hb1)
      | (go_at_call 7; (with_reducible refine (HGb.out _).mono ?_); rintro x w1 ⟨rfl, hb1⟩; have hk := HKB.out _ (OB.below (And.right (by assumption)) hb1); clear hb1))
    have HB1 := Lib.hid hk.2
    clear hk
    have hr := HB1.out.row Hl.out
    go_upto_region 4 with (go_at_call 8; (with_reducible refine (HO.out _).mono ?_); rintro x w2 ⟨rfl, hb2⟩; have hf2 := (HB1.out.below hb2).free Hl.out; have HB2 := Lib.hid ((HB1.out.below hb2).set Hl.out HL.out); clear hb2 hr)
    generalize aggW w2 w.heap.size (addrC v L) = W3 at HB2 ⊢
    clear hf2
    have hr := HB2.out.row HL.out
    go_upto_region 5 with (go_at_call 9; (with_reducible refine (HMa.out _).mono ?_); rintro x w4 ⟨rfl, hb4⟩; have hf4 := free_made w4 #[.int .u8 0, .int .u8 0, .int .u8 0, .int .u8 0, .int .u8 0, .int .u8 0] 28 6 (by simp); have HT1 := Lib.hid (T1.made (HB2.out.below hb4) M HM.out); clear hb4 hr)
    generalize aggW (w4.alloc (.cells #[.int .u8 0, .int .u8 0, .int .u8 0, .int .u8 0, .int .u8 0, .int .u8 0] 28)) w4.heap.size (B8 M) = W5 at HT1 ⊢
    clear hf4
    generalize w4.heap.size = m at HT1 ⊢
    have hr := HT1.out.1.row HL.out
    go_upto_region 6 with (go_at_call 10; (with_reducible refine (HMb.out _).mono ?_); rintro x w6 ⟨rfl, hb6⟩; have hf6 := free_made w6 #[.int .u8 0, .int .u8 0, .int .u8 0, .int .u8 0, .int .u8 0, .int .u8 0] 28 6 (by simp); have HT2 := Lib.hid (TS.made (HT1.out.below hb6)); clear hb6 hr)
    generalize aggW (w6.alloc (.cells #[.int .u8 0, .int .u8 0, .int .u8 0, .int .u8 0, .int .u8 0, .int .u8 0] 28)) w6.heap.size (B8 M) = W7 at HT2 ⊢
    clear hf6
    generalize w6.heap.size = n at HT2 ⊢
    rw [show Op.load 28 (Operand.tmp 3) = lateLoad from rfl, show Op.unOp UnOp.not 4 (Operand.tmp 50) = lateNot from rfl]
    go_region_held3 (fun W => row? W w.heap.size 0 17 = some (addrC v L) ∧ row? W m 0 6 = some (B8 M) ∧ row? W n 0 6 = some (B8 M) ∧ W.cell? ⟨m, 0, none⟩ = some (.int .u8 0) ∧ TS w W m n v L M) (first | assumption | exact HK.out _ _ _ HT2.out | exact HK.out _ _ _ (HT2.out.drewN 1)) (first
      | (go_at_call 11; (with_reducible refine (hby.out _).mono ?_); rintro x w3 ⟨rfl, hb3⟩; have hk := HK.out _ _ _ (TS.below (And.right (And.right (And.right (And.right (by assumption))))) hb3); clear hb3)
      | (go_at_call 12; (with_reducible refine (hrby.out _).mono ?_); rintro x w3 ⟨rfl, hb3⟩; have hk := HK.out _ _ _ (TS.below (And.right (And.right (And.right (And.right (by assumption))))) hb3); clear hb3)
      | (go_at_call 13; (with_reducible refine (hze.out _).mono ?_); rintro x w3 ⟨rfl, hb3⟩; have hk := HK.out _ _ _ (TS.below (And.right (And.right (And.right (And.right (by assumption))))) hb3); clear hb3)
      | (go_at_call 14; (with_reducible refine (hrze.out _).mono ?_); rintro x w3 ⟨rfl, hb3⟩; have hk := HK.out _ _ _ (TS.below (And.right (And.right (And.right (And.right (by assumption))))) hb3); clear hb3)
      | (go_at_call 15; (with_reducible refine (hmany.out _).mono ?_); rintro x w3 ⟨rfl, hb3⟩; have hk := HK.out _ _ _ (TS.below (And.right (And.right (And.right (And.right (by assumption))))) hb3); clear hb3))
    have HT3 := Lib.hid hk.2.2.2.2
    clear hk
    go_upto_region 8 with (fail)
    go_region_held3 (fun W => row? W w.heap.size 0 17 = some (addrC v L) ∧ row? W m 0 6 = some (B8 M) ∧ row? W n 0 6 = some (B8 M) ∧ W.cell? ⟨m, 0, none⟩ = some (.int .u8 0) ∧ TS w W m n v L M) (first | assumption | exact HK.out _ _ _ HT3.out | exact HK.out _ _ _ (HT3.out.drewN 1)) (first
      | (go_at_call 16; (with_reducible refine (hgr.out _).mono ?_); rintro x w3 ⟨rfl, hb3⟩; have hk := HK.out _ _ _ (TS.below (And.right (And.right (And.right (And.right (by assumption))))) hb3); clear hb3)
      | (go_at_call 17; (with_reducible refine (hrgr.out _).mono ?_); rintro x w3 ⟨rfl, hb3⟩; have hk := HK.out _ _ _ (TS.below (And.right (And.right (And.right (And.right (by assumption))))) hb3); clear hb3)
      | (go_at_call 18; (with_reducible refine (hlo.out _).mono ?_); rintro x w3 ⟨rfl, hb3⟩; have hk := HK.out _ _ _ (TS.below (And.right (And.right (And.right (And.right (by assumption))))) hb3); clear hb3)
      | (go_at_call 19; (with_reducible refine (hrlo.out _).mono ?_); rintro x w3 ⟨rfl, hb3⟩; have hk := HK.out _ _ _ (TS.below (And.right (And.right (And.right (And.right (by assumption))))) hb3); clear hb3)
      | (go_at_call 20; (with_reducible refine (hss.out _).mono ?_); rintro x w3 ⟨rfl, hb3⟩; have hk := HK.out _ _ _ (TS.below (And.right (And.right (And.right (And.right (by assumption))))) hb3); clear hb3)
      | (go_at_call 21; (with_reducible refine (hrss.out _).mono ?_); rintro x w3 ⟨rfl, hb3⟩; have hk := HK.out _ _ _ (TS.below (And.right (And.right (And.right (And.right (by assumption))))) hb3); clear hb3)
      | (go_at_call 22; (with_reducible refine (hsc.out _).mono ?_); rintro x w3 ⟨rfl, hb3⟩; have hk := HK.out _ _ _ (TS.below (And.right (And.right (And.right (And.right (by assumption))))) hb3); clear hb3)
      | (go_at_call 23; (with_reducible refine (hrsc.out _).mono ?_); rintro x w3 ⟨rfl, hb3⟩; have hk := HK.out _ _ _ (TS.below (And.right (And.right (And.right (And.right (by assumption))))) hb3); clear hb3)
      | (go_at_call 15; (with_reducible refine (hmany.out _).mono ?_); rintro x w3 ⟨rfl, hb3⟩; have hk := HK.out _ _ _ (TS.below (And.right (And.right (And.right (And.right (by assumption))))) hb3); clear hb3)
      | (go_at_call 24; refine (lives3_any _ (HE.out.below (TS.bel (And.right (And.right (And.right (And.right (by assumption)))))))).mono ?_; rintro x w3 ⟨rfl, hb3⟩; have hk := HK.out _ _ _ (TS.below (And.right (And.right (And.right (And.right (by assumption))))) hb3); clear hb3))
    go_wp2_with fail
    go_ret
    exact ⟨rfl, hk.2.2.2.2.bel⟩

theorem tells_any (v : Bool) (l : List UInt8) (hl : l.length = 16) (w : World) (h : Env w) :
    Calls Tryz.prog 3 #[.agg (addrC v l).toArray] w fun e w' => e = .returned (.bool true) ∧ Below w.heap.size w w' := by
  rcases mac_first v (ownV v l) with ⟨h1, h2, h3⟩ | ⟨h1, h2, h3⟩ | ⟨h1, h2, h3⟩
  · exact tells_core v l hl w h _ _ rfl rfl true 51 (by rw [h1]; rfl) h2 h3 (.inl ⟨rfl, rfl⟩)
  · exact tells_core v l hl w h _ _ rfl rfl true 1 (by rw [h1]; rfl) h2 h3 (.inr (.inl ⟨rfl, rfl⟩))
  · exact tells_core v l hl w h _ _ rfl rfl false 0 (by rw [h1]; rfl) h2 h3 (.inr (.inr ⟨rfl, rfl⟩))
end Go.Proofs.YtmpikhpnkfnnoaaGreatDoor
