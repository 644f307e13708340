/-
  The law's walk: which of two addresses stands first.
-/
import Derived.Test.YtgojamdlpleioaaDoorCmp
import Derived.Test.YtgojamdlpleioaaDoorEqA
import Derived.Test.YtgojamdlpleioaaDoorLives
import Derived.Deep.RegionWith
namespace Go.Proofs.YtgojamdlpleioaaDoor
open Go.RowKit
set_option linter.unusedVariables false
attribute [local go_sem ↓] bld_addr bld_mac bld_b16 ld_addr st_addr ld_mac st_mac ld_b16
attribute [local go_sem] ldr_addr str_addr ldr_mac str_mac ldr_b16

theorem compare_anti : ∀ (l m : List UInt8), Lib.compareBytes m l = - Lib.compareBytes l m
  | [], [] => rfl
  | [], _ :: _ => rfl
  | _ :: _, [] => rfl
  | a :: r, b :: s => by
    simp only [Lib.compareBytes]
    by_cases h1 : a < b
    · have h2 : ¬ b < a := fun h => UInt8.lt_irrefl _ (UInt8.lt_trans h1 h)
      simp [h1, h2]
    · by_cases h2 : b < a
      · simp [h1, h2]
      · simp [h1, h2, compare_anti r s]
theorem compare_three : ∀ (l m : List UInt8), (Lib.compareBytes l m = -1 ∧ l ≠ m) ∨ (Lib.compareBytes l m = 0 ∧ l = m) ∨ (Lib.compareBytes l m = 1 ∧ l ≠ m)
  | [], [] => .inr (.inl ⟨rfl, rfl⟩)
  | [], _ :: _ => .inl ⟨rfl, by simp⟩
  | _ :: _, [] => .inr (.inr ⟨rfl, by simp⟩)
  | a :: r, b :: s => by
    simp only [Lib.compareBytes]
    by_cases h1 : a < b
    · left
      have : a ≠ b := fun h => UInt8.lt_irrefl _ (h ▸ h1)
      simp [h1, this]
    · by_cases h2 : b < a
      · right; right
        have : a ≠ b := fun h => UInt8.lt_irrefl _ (h ▸ h2)
        simp [h1, h2, this]
      · have hab : a = b := UInt8.le_antisymm (UInt8.not_lt.1 h2) (UInt8.not_lt.1 h1)
        subst hab
        simpa [h1] using compare_three r s
theorem cmp_three (v v' : Bool) (l l' : List UInt8) : ∃ c c2 : Int, ∃ e : Bool, cmpV v v' l l' = c ∧ cmpV v' v l' l = c2 ∧ decide (v = v' ∧ l = l') = e ∧ ((c = -1 ∧ c2 = 1 ∧ e = false) ∨ (c = 0 ∧ c2 = 0 ∧ e = true) ∨ (c = 1 ∧ c2 = -1 ∧ e = false)) := by
  refine ⟨_, _, _, rfl, rfl, rfl, ?_⟩
  cases v <;> cases v' <;> simp [cmpV]
  all_goals
    rw [compare_anti l l']
    rcases compare_three l l' with ⟨h1, h2⟩ | ⟨h1, h2⟩ | ⟨h1, h2⟩ <;> simp [h1, h2, compare_refl]
/-- The two addresses in their blocks. -/
def OrS (w W : World) (A B : List Value) : Prop := ObjAt W w.heap.size A.toArray 25 ∧ ObjAt W (w.heap.size + 1) B.toArray 25 ∧ Below w.heap.size w W
theorem OrS.made (w : World) (A B : List Value) : OrS w ((w.alloc (.cells A.toArray 25)).alloc (.cells B.toArray 25)) A B := by
  have h0 := (ObjAt.made w A.toArray 25).alloc (.cells B.toArray 25)
  have h1 := ObjAt.made (w.alloc (.cells A.toArray 25)) B.toArray 25
  rw [show (w.alloc (.cells A.toArray 25)).heap.size = w.heap.size + 1 by simp] at h1
  exact ⟨h0, h1, ((Below.refl _ _).alloc (Nat.le_refl _) _).alloc (by simp) _⟩
theorem OrS.below {w W W' : World} {A B : List Value} (h : OrS w W A B) (hb : Below W.heap.size W W') : OrS w W' A B := ⟨h.1.below hb h.1.lt, h.2.1.below hb h.2.1.lt, bstep h.2.2 hb⟩
theorem OrS.drew {w W : World} {A B : List Value} (h : OrS w W A B) : OrS w W.drew A B := ⟨h.1.drew, h.2.1.drew, h.2.2.drew⟩
theorem OrS.row1 {w W : World} {A B : List Value} (h : OrS w W A B) (hA : A.length = 17) : row? W w.heap.size 0 17 = some A := obj_row (A := []) (M := A) (C := []) (by simpa using h.1) rfl hA
theorem OrS.row2 {w W : World} {A B : List Value} (h : OrS w W A B) (hB : B.length = 17) : row? W (w.heap.size + 1) 0 17 = some B := obj_row (A := []) (M := B) (C := []) (by simpa using h.2.1) rfl hB
theorem OrS.free1 {w W : World} {A B : List Value} (h : OrS w W A B) (hA : A.length = 17) : free? W w.heap.size 0 17 = true := obj_free (n := 17) h.1 (by simp [hA])
theorem OrS.free2 {w W : World} {A B : List Value} (h : OrS w W A B) (hB : B.length = 17) : free? W (w.heap.size + 1) 0 17 = true := obj_free (n := 17) h.2.1 (by simp [hB])
theorem OrS.set1 {w W : World} {A B A' : List Value} (h : OrS w W A B) (hA : A'.length = A.length) (h1 : ∀ x ∈ A', x.oneCell' = true) : OrS w (aggW W w.heap.size A') A' B := ⟨aggW_obj h.1 hA h1, aggW_other h.2.1 _ (by omega), aggW_below h.2.2 (Nat.le_refl _) _⟩
theorem OrS.set2 {w W : World} {A B B' : List Value} (h : OrS w W A B) (hB : B'.length = B.length) (h1 : ∀ x ∈ B', x.oneCell' = true) : OrS w (aggW W (w.heap.size + 1) B') A B' := ⟨aggW_other h.1 _ (by omega), aggW_obj h.2.1 hB h1, aggW_below h.2.2 (by omega) _⟩

theorem ownV_tail (l l' : List UInt8) (hl : l.length = 16) (hl' : l'.length = 16) : (ownV false l).drop 4 = (ownV false l').drop 4 := by
  simp [ownV, ownK, hl, hl']
  rw [List.drop_of_length_le (by omega), List.drop_of_length_le (by omega)]

set_option maxRecDepth 100000 in
set_option maxHeartbeats 4000000 in
theorem orders_any (v v' : Bool) (l l' : List UInt8) (hl : l.length = 16) (hl' : l'.length = 16) (w : World) (h : Env w) :
    Calls Tryd.prog 4 #[.agg (addrC v l).toArray, .agg (addrC v' l').toArray] w fun e w' => e = .returned (.bool true) ∧ Below w.heap.size w w' := by
  have HE := Lib.hid h; clear h
  have HO1 := Lib.hid (fun w => own_any v l hl w)
  have HO2 := Lib.hid (fun w => own_any v' l' hl' w)
  have hL := ownV_length v l hl
  have hL' := ownV_length v' l' hl'
  have HC := Lib.hid (fun w => cmp_any v v' (ownV v l) (ownV v' l') hL hL' w)
  have HD := Lib.hid (fun w => cmp_any v' v (ownV v' l') (ownV v l) hL' hL w)
  have HX2 : Hid (∀ w, Calls Tryd.prog 12 #[.agg (addrC v (ownV v l)).toArray, .agg (addrC v' (ownV v' l')).toArray] w fun e w' => e = .returned (.int .i64 (cmpV v v' (ownV v l) (ownV v' l'))) ∧ Below w.heap.size w w') := Lib.hid (fun w => rcmp_any' v v' (ownV v l) (ownV v' l') hL hL' (fun hvv hv => by subst hvv; subst hv; exact ownV_tail l l' hl hl') w)
  have heq : ∀ w0, (Op.equalIn 10000 25 (.agg (addrC v (ownV v l)).toArray) (.agg (addrC v' (ownV v' l')).toArray)).run Tryd.prog w0 = .ok (decide (v = v' ∧ ownV v l = ownV v' l')) w0 := fun w0 => eq_addr v v' _ _ hL hL' w0
  obtain ⟨c, c2, e, e1, e2, e3, he⟩ := cmp_three v v' (ownV v l) (ownV v' l')
  rw [e3] at heq
  rw [e1] at HC HX2
  rw [e2] at HD
  clear e1 e2 e3
  have hok := fok_addr v (ownV v l) hL
  have hok' := fok_addr v' (ownV v' l') hL'
  have HS := Lib.hid (OrS.made w (addrC v l) (addrC v' l'))
  have hn : (addrC v l).length = 17 := by rw [addrC_length, hl]
  have hn' : (addrC v' l').length = 17 := by rw [addrC_length, hl']
  have hN : (addrC v (ownV v l)).length = 17 := by rw [addrC_length, hL]
  have hN' : (addrC v' (ownV v' l')).length = 17 := by rw [addrC_length, hL']
  have ho := addrC_one v (ownV v l)
  have ho' := addrC_one v' (ownV v' l')
  generalize addrC v l = A at HO1 HS hn ⊢
  generalize addrC v' l' = B at HO2 HS hn' ⊢
  generalize addrC v (ownV v l) = A' at HO1 HC HD HX2 heq hok hN ho
  generalize addrC v' (ownV v' l') = B' at HO2 HC HD HX2 heq hok' hN' ho'
  have HB : Hid (∀ W, OrS w W A B → OrS w (aggW (aggW W w.heap.size A') (w.heap.size + 1) B') A' B') := Lib.hid (fun W h => (h.set1 (by rw [hn, hN]) ho).set2 (by rw [hn', hN']) ho')
  have HF2 : Hid (∀ W, OrS w W A B → free? (aggW W w.heap.size A') (w.heap.size + 1) 0 17 = true) := Lib.hid (fun W h => (h.set1 (by rw [hn, hN]) ho).free2 hn')
  have Hn := Lib.hid hn; have Hn' := Lib.hid hn'; have HN := Lib.hid hN; have HN' := Lib.hid hN'
  clear hl hl' hL hL' ho ho' hn hn' hN hN'
  have He := Lib.hid he; clear he
  go_enter Tryd.func4, Tryd.ntmps4
  go_upto_region 1 with (fail)
  generalize (w.alloc _).alloc _ = W at HS ⊢
  have r1 := HS.out.drew.row1 Hn.out
  have r2 := HS.out.drew.row2 Hn'.out
  have r1' := HS.out.row1 Hn.out
  have r2' := HS.out.row2 Hn'.out
  go_region_with (first
    | (go_at_call 10; (with_reducible refine (HO1.out _).mono ?_); rintro e w1 ⟨rfl, hb1⟩; have HA1 := Lib.hid (HS.out.drew.below hb1); have q2 := HA1.out.row2 Hn'.out; clear hb1)
    | (go_at_call 10; (with_reducible refine (HO2.out _).mono ?_); rintro e w2 ⟨rfl, hb2⟩; have HA2 := Lib.hid (HA1.out.below hb2); have f1 := HA2.out.free1 Hn.out; have f2 := HF2.out _ HA2.out; clear hb2))
  all_goals
    have HS2 := Lib.hid (HB.out _ HA2.out)
    clear r1 r2 r1' r2' q2 f1 f2 HA1 HA2 HS HB HF2 HO1 HO2
    generalize aggW (aggW w2 w.heap.size A') (w.heap.size + 1) B' = W2 at HS2 ⊢
    have p1 := HS2.out.row1 HN.out
    have p2 := HS2.out.row2 HN'.out
    rcases He.out with ⟨rfl, rfl, rfl⟩ | ⟨rfl, rfl, rfl⟩ | ⟨rfl, rfl, rfl⟩
  all_goals
    clear He
    go_wp2_with (first
      | (go_at_call 11; (with_reducible refine (HC.out _).mono ?_); rintro e w3 ⟨rfl, hb3⟩; have HS3 := Lib.hid (HS2.out.below hb3); have p3 := HS3.out.row1 HN.out; have p4 := HS3.out.row2 HN'.out; clear hb3 p1 p2)
      | (go_at_call 12; (with_reducible refine (HX2.out _).mono ?_); rintro e w4 ⟨rfl, hb4⟩; have HS4 := Lib.hid (HS3.out.below hb4); have p5 := HS4.out.row1 HN.out; have p6 := HS4.out.row2 HN'.out; clear hb4 p3 p4)
      | (go_at_call 11; (with_reducible refine (HD.out _).mono ?_); rintro e w5 ⟨rfl, hb5⟩; have HS5 := Lib.hid (HS4.out.below hb5); have p7 := HS5.out.row1 HN.out; have p8 := HS5.out.row2 HN'.out; clear hb5 p5 p6)
      | (go_at_call 9; refine (lives3_any _ (HE.out.below HS5.out.2.2)).mono ?_; rintro e w6 ⟨rfl, hb6⟩; have HS6 := Lib.hid (HS5.out.below hb6); clear hb6 p7 p8))
    go_ret
    exact ⟨rfl, HS6.out.2.2⟩
end Go.Proofs.YtgojamdlpleioaaDoor
