/-
  The document's own answers on one address: Group, Ssm, Zero, Good.
-/
import Derived.Test.YtacnhelnpngkgaaMg07
import Derived.WalkLawsBesides
import Derived.LoopTactic
namespace Go.Proofs.Ytacnhelnpngkgaa
open Go.RowKit
set_option linter.unusedVariables false

set_option maxRecDepth 100000 in
set_option maxHeartbeats 1000000 in
theorem rgroup_any (v : Bool) (l : List UInt8) (hl : l.length = 16) (w : World) : Calls Try.prog 38 #[.agg (addrC v l).toArray] w fun e w' => e = .returned (.bool (grpV v l)) ∧ Below w.heap.size w w' := by
  obtain ⟨b0, b1, b2, b3, b4, b5, b6, b7, b8, b9, ba, bb, bc, bd, be, bf, rfl⟩ := list16 hl
  clear hl
  show Calls Try.prog 38 #[.agg #[.bool v, .int .u8 b0.toNat, .int .u8 b1.toNat, .int .u8 b2.toNat, .int .u8 b3.toNat, .int .u8 b4.toNat, .int .u8 b5.toNat, .int .u8 b6.toNat, .int .u8 b7.toNat, .int .u8 b8.toNat, .int .u8 b9.toNat, .int .u8 ba.toNat, .int .u8 bb.toNat, .int .u8 bc.toNat, .int .u8 bd.toNat, .int .u8 be.toNat, .int .u8 bf.toNat]] w _
  cases v <;>
  · go_enter Try.func38, Try.ntmps38
    go_wp2
    all_goals
      go_ret
      exact ⟨ret_bool (by first | (simp_all [grpV, bN] <;> omega) | (rw [Bool.eq_iff_iff]; simp [grpV, bN]; omega) | (simp_all [grpV, bN]; rw [Bool.eq_iff_iff]; simp)), (Below.refl _ _).alloc (Nat.le_refl _) _⟩

/-- The bytes from a place on, up to another, are zeros. -/
def ZerS (l : List UInt8) (a k : Nat) : Prop := ∀ i (h : i < l.length), a ≤ i → i < k → l[i] = 0
theorem ZerS.start (l : List UInt8) (a : Nat) : ZerS l a a := fun i _ h1 h2 => absurd h2 (by omega)
theorem ZerS.step {l : List UInt8} {a k : Nat} (h : ZerS l a k) (hk : k < l.length) (hz : ((l[k]).toNat : Int) = 0) : ZerS l a (k + 1) := fun i hi h1 h2 => by
  by_cases e : i = k
  · subst e
    apply UInt8.toNat_inj.1
    have : (l[i]).toNat = 0 := by omega
    simpa using this
  · exact h i hi h1 (by omega)
def zeroV (l : List UInt8) : Bool := decide (l = List.replicate 16 0)
theorem zero_yes {l : List UInt8} (hl : l.length = 16) (h : ZerS l 0 16) : zeroV l = true := by
  unfold zeroV
  rw [decide_eq_true_eq]
  apply List.ext_getElem (by simp [hl])
  intro i h1 h2
  rw [List.getElem_replicate]
  exact h i h1 (by omega) (by omega)
theorem zero_no {l : List UInt8} {k : Nat} (hk : k < l.length) (h : ((l[k]).toNat : Int) ≠ 0) : zeroV l = false := by
  unfold zeroV
  rw [decide_eq_false_iff_not]
  intro e
  apply h
  have : l[k] = 0 := by
    have hk2 : k < 16 := by rw [e] at hk; simpa using hk
    have h2 : l[k]? = some 0 := by rw [e, List.getElem?_replicate, if_pos hk2]
    rw [List.getElem?_eq_getElem hk] at h2
    simpa using h2
  rw [this]; rfl
theorem good_yes {l : List UInt8} (hl : l.length = 16) (h : ZerS l 4 16) : goodV false l = true := by
  unfold goodV
  rw [Bool.false_or, decide_eq_true_eq]
  apply List.ext_getElem (by rw [ownV_length _ _ hl, hl])
  intro i h1 h2
  simp only [ownV, ownK, Bool.false_eq_true, if_false]
  by_cases h4 : i < 4
  · rw [List.getElem_append_left (by simp; omega)]; simp
  · rw [List.getElem_append_right (by simp; omega), List.getElem_append_left (by simp; omega), List.getElem_replicate]
    exact h i h1 (by omega) (by omega)
theorem good_no {l : List UInt8} {k : Nat} (hl : l.length = 16) (hk : k < l.length) (h4 : 4 ≤ k) (h : ((l[k]).toNat : Int) ≠ 0) : goodV false l = false := by
  unfold goodV
  rw [Bool.false_or, decide_eq_false_iff_not]
  intro e
  apply h
  have h2 : (ownV false l)[k]? = some 0 := by
    simp only [ownV, ownK, Bool.false_eq_true, if_false]
    rw [List.getElem?_append_right (by simp; omega), List.getElem?_append_left (by simp; omega), List.getElem?_replicate, if_pos (by simp; omega)]
  rw [← e, List.getElem?_eq_getElem hk] at h2
  have : l[k] = 0 := by simpa using h2
  rw [this]; rfl

set_option maxRecDepth 100000 in
set_option maxHeartbeats 1000000 in
theorem rzero_any (v : Bool) (l : List UInt8) (hl : l.length = 16) (w : World) : Calls Try.prog 29 #[.agg (addrC v l).toArray] w fun e w' => e = .returned (.bool (zeroV l)) ∧ Below w.heap.size w w' := by
  obtain ⟨R, hR⟩ : ∃ R, R = zeroV l := ⟨_, rfl⟩
  rw [← hR]
  have HR := Lib.hid hR; clear hR
  have HB := Lib.hid (BoxAt.made w v l hl 24)
  go_enter Try.func29, Try.ntmps29
  go_upto_region 2 with (fail)
  generalize w.alloc _ = W at HB ⊢
  have Hrow := Lib.hid HB.out.2.1
  have Hb := Lib.hid HB.out.2.2.2.2
  clear HB
  go_loop [3] (fun vi => ∃ k : Nat, k ≤ 16 ∧ vi = .int .i64 (k : Int) ∧ Hid (ZerS l 0 k)) (fun vi => 16 - (intOf vi).toNat)
  case atStart => exact ⟨0, by omega, rfl, Lib.hid (ZerS.start l 0)⟩
  case round =>
    obtain ⟨k, hk, rfl, hq⟩ := hrel
    by_cases hlt : k < 16
    · have hkl : k < l.length := by omega
      have H1 := Lib.hid (hq.out.step hkl)
      have H2 := Lib.hid (zero_no hkl)
      have x1 := Hrow.out k hkl
      generalize ((l[k]).toNat : Int) = x at H1 H2 x1
      clear hkl
      by_cases hx : x = 0
      · subst hx
        go_wp2
        go_round
        case rel => exact ⟨k + 1, by omega, by go_num, Lib.hid (H1.out rfl)⟩
        case measure => simp [intOf]; omega
      · have g1 : (x != 0) = true := by simp [hx]
        have HX := Lib.hid hx; clear hx
        go_wp2
        go_ret
        exact ⟨ret_bool (by rw [HR.out, H2.out HX.out]), Hb.out⟩
    · obtain rfl : k = 16 := by omega
      go_wp2
      go_ret
      exact ⟨ret_bool (by rw [HR.out, zero_yes hl hq.out]), Hb.out⟩

set_option maxRecDepth 100000 in
set_option maxHeartbeats 1000000 in
theorem rgood_any (v : Bool) (l : List UInt8) (hl : l.length = 16) (w : World) : Calls Try.prog 42 #[.agg (addrC v l).toArray] w fun e w' => e = .returned (.bool (goodV v l)) ∧ Below w.heap.size w w' := by
  obtain ⟨R, hR⟩ : ∃ R, R = goodV v l := ⟨_, rfl⟩
  rw [← hR]
  have HR := Lib.hid hR; clear hR
  have HB := Lib.hid (BoxAt.made w v l hl 24)
  go_enter Try.func42, Try.ntmps42
  go_upto_region 2 with (fail)
  generalize w.alloc _ = W at HB ⊢
  have Hrow := Lib.hid HB.out.2.1
  have Hb := Lib.hid HB.out.2.2.2.2
  have k0 := HB.out.1
  clear HB
  cases v
  · go_loop [3] (fun vi => ∃ k : Nat, 4 ≤ k ∧ k ≤ 16 ∧ vi = .int .i64 (k : Int) ∧ Hid (ZerS l 4 k)) (fun vi => 16 - (intOf vi).toNat)
    case atStart => exact ⟨4, by omega, by omega, rfl, Lib.hid (ZerS.start l 4)⟩
    case round =>
      obtain ⟨k, h4, hk, rfl, hq⟩ := hrel
      by_cases hlt : k < 16
      · have hkl : k < l.length := by omega
        have H1 := Lib.hid (hq.out.step hkl)
        have H2 := Lib.hid (good_no hl hkl h4)
        have x1 := Hrow.out k hkl
        generalize ((l[k]).toNat : Int) = x at H1 H2 x1
        clear hkl
        by_cases hx : x = 0
        · subst hx
          go_wp2
          go_round
          case rel => exact ⟨k + 1, by omega, by omega, by go_num, Lib.hid (H1.out rfl)⟩
          case measure => simp [intOf]; omega
        · have g1 : (x != 0) = true := by simp [hx]
          have HX := Lib.hid hx; clear hx
          go_wp2
          go_ret
          exact ⟨ret_bool (by rw [HR.out, H2.out HX.out]), Hb.out⟩
      · obtain rfl : k = 16 := by omega
        go_wp2
        go_ret
        exact ⟨ret_bool (by rw [HR.out, good_yes hl hq.out]), Hb.out⟩
  · go_loop [3] (fun vi => ∃ k : Nat, 4 ≤ k ∧ k ≤ 16 ∧ vi = .int .i64 (k : Int)) (fun vi => 16 - (intOf vi).toNat)
    case atStart => exact ⟨4, by omega, by omega, rfl⟩
    case round =>
      obtain ⟨k, h4, hk, rfl⟩ := hrel
      by_cases hlt : k < 16
      · go_wp2
        go_round
        case rel => exact ⟨k + 1, by omega, by omega, by go_num⟩
        case measure => simp [intOf]; omega
      · obtain rfl : k = 16 := by omega
        go_wp2
        go_ret
        exact ⟨ret_bool (by rw [HR.out]; rfl), Hb.out⟩
end Go.Proofs.Ytacnhelnpngkgaa
