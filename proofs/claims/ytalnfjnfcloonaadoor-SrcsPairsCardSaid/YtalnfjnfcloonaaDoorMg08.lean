/-
  Texts joined: Tell, Tell2, Tell3, Tell4, Refa, Rbytes.
-/
import Derived.Test.YtalnfjnfcloonaaDoorGood
import Derived.WalkLawsBesides
import Derived.LoopTactic
import Derived.Test.YtalnfjnfcloonaaDoorMg00
import Derived.Test.YtalnfjnfcloonaaDoorChecked
import Derived.WalkSpells
import Derived.BigQuiet
import Derived.Deep.QuietTactic
import Derived.Deep.AppendLies
/-
  The document's own answers on one address: Group, Ssm, Zero, Good.
-/
namespace Go.Proofs.YtalnfjnfcloonaaDoor
open Go.RowKit
set_option linter.unusedVariables false

/-- The bytes from a place on, up to another, are zeros. -/
def ZerS (l : List UInt8) (a k : Nat) : Prop := ∀ i (h : i < l.length), a ≤ i → i < k → l[i] = 0
theorem ZerS.start (l : List UInt8) (a : Nat) : ZerS l a a := fun i _ h1 h2 => absurd h2 (by omega)
theorem ZerS.step {l : List UInt8} {a k : Nat} (h : ZerS l a k) (hk : k < l.length) (hz : ((l[k]).toNat : Int) = 0) : ZerS l a (k + 1) := fun i hi h1 h2 => by
  by_cases e : i = k
  · subst e
    apply UInt8.toNat_inj.1
    have : (l[i]).toNat = 0 := by omega
    simpa using this
  · exact h i hi h1 (by omega)
theorem good_yes {l : List UInt8} (hl : l.length = 16) (h : ZerS l 4 16) : goodV false l = true := by
  unfold goodV
  rw [Bool.false_or, decide_eq_true_eq]
  apply List.ext_getElem (by rw [ownV_length _ _ hl, hl])
  intro i h1 h2
  simp only [ownV, ownK, Bool.false_eq_true, if_false]
  by_cases h4 : i < 4
  · rw [List.getElem_append_left (by simp; omega)]; simp
  · rw [List.getElem_append_right (by simp; omega), List.getElem_append_left (by simp; omega), List.getElem_replicate]
    exact h i h1 (by omega) (by omega)
theorem good_no {l : List UInt8} {k : Nat} (hl : l.length = 16) (hk : k < l.length) (h4 : 4 ≤ k) (h : ((l[k]).toNat : Int) ≠ 0) : goodV false l = false := by
  unfold goodV
  rw [Bool.false_or, decide_eq_false_iff_not]
  intro e
  apply h
  have h2 : (ownV false l)[k]? = some 0 := by
    simp only [ownV, ownK, Bool.false_eq_true, if_false]
    rw [List.getElem?_append_right (by simp; omega), List.getElem?_append_left (by simp; omega), List.getElem?_replicate, if_pos (by simp; omega)]
  rw [← e, List.getElem?_eq_getElem hk] at h2
  have : l[k] = 0 := by simpa using h2
  rw [this]; rfl

set_option maxRecDepth 100000 in
set_option maxHeartbeats 1000000 in
theorem rgood_any (v : Bool) (l : List UInt8) (hl : l.length = 16) (w : World) : Calls Tryd.prog 34 #[.agg (addrC v l).toArray] w fun e w' => e = .returned (.bool (goodV v l)) ∧ Below w.heap.size w w' := by
  obtain ⟨R, hR⟩ : ∃ R, R = goodV v l := ⟨_, rfl⟩
  rw [← hR]
  have HR := Lib.hid hR; clear hR
  have HB := Lib.hid (BoxAt.made w v l hl 25)
  go_enter Tryd.func34, Tryd.ntmps34
  go_upto_region 2 with (fail)
  generalize w.alloc _ = W at HB ⊢
  have Hrow := Lib.hid HB.out.2.1
  have Hb := Lib.hid HB.out.2.2.2.2
  have k0 := HB.out.1
  clear HB
  cases v
  · go_loop [3] (fun vi => ∃ k : Nat, 4 ≤ k ∧ k ≤ 16 ∧ vi = .int .i64 (k : Int) ∧ Hid (ZerS l 4 k)) (fun vi => 16 - (intOf vi).toNat)
    case atStart => exact ⟨4, by omega, by omega, rfl, Lib.hid (ZerS.start l 4)⟩
    case round =>
      obtain ⟨k, h4, hk, rfl, hq⟩ := hrel
      by_cases hlt : k < 16
      · have hkl : k < l.length := by omega
        have H1 := Lib.hid (hq.out.step hkl)
        have H2 := Lib.hid (good_no hl hkl h4)
        have x1 := Hrow.out k hkl
        generalize ((l[k]).toNat : Int) = x at H1 H2 x1
        clear hkl
        by_cases hx : x = 0
        · subst hx
          go_wp2
          go_round
          case rel => exact ⟨k + 1, by omega, by omega, by go_num, Lib.hid (H1.out rfl)⟩
          case measure => simp [intOf]; omega
        · have g1 : (x != 0) = true := by simp [hx]
          have HX := Lib.hid hx; clear hx
          go_wp2
          go_ret
          exact ⟨ret_bool (by rw [HR.out, H2.out HX.out]), Hb.out⟩
      · obtain rfl : k = 16 := by omega
        go_wp2
        go_ret
        exact ⟨ret_bool (by rw [HR.out, good_yes hl hq.out]), Hb.out⟩
  · go_loop [3] (fun vi => ∃ k : Nat, 4 ≤ k ∧ k ≤ 16 ∧ vi = .int .i64 (k : Int)) (fun vi => 16 - (intOf vi).toNat)
    case atStart => exact ⟨4, by omega, by omega, rfl⟩
    case round =>
      obtain ⟨k, h4, hk, rfl⟩ := hrel
      by_cases hlt : k < 16
      · go_wp2
        go_round
        case rel => exact ⟨k + 1, by omega, by omega, by go_num⟩
        case measure => simp [intOf]; omega
      · obtain rfl : k = 16 := by omega
        go_wp2
        go_ret
        exact ⟨ret_bool (by rw [HR.out]; rfl), Hb.out⟩
end Go.Proofs.YtalnfjnfcloonaaDoor

/-
  The document's own Scope and Local; addr.Zero and addr.Many.
-/
namespace Go.Proofs.YtalnfjnfcloonaaDoor
open Go.RowKit
set_option linter.unusedVariables false
attribute [local go_sem ↓] ld_addr ld_b16 bld_b16
attribute [local go_sem] ldr_addr ldr_b16

/-- The boxed address. -/
def OneA (w W : World) (v : Bool) (l : List UInt8) : Prop := BoxAt w W v l ∧ GoA w W l
theorem OneA.made (w : World) (v : Bool) (l : List UInt8) (hl : l.length = 16) : OneA w (w.alloc (.cells (addrC v l).toArray 25)) v l := ⟨BoxAt.made w v l hl 25, GoA.made w v l hl⟩
theorem OneA.keep {w W W' : World} {v : Bool} {l : List UInt8} (h : OneA w W v l) (hb : Below W.heap.size W W') : OneA w W' v l := ⟨h.1.keep hb, h.2.below hb⟩
theorem OneA.bel {w W : World} {v : Bool} {l : List UInt8} (h : OneA w W v l) : Below w.heap.size w W := h.1.2.2.2.2
end Go.Proofs.YtalnfjnfcloonaaDoor

/-
  The document's own Local; addr.Many; addr.Ssm.
-/
namespace Go.Proofs.YtalnfjnfcloonaaDoor
open Go.RowKit
set_option linter.unusedVariables false
attribute [local go_sem ↓] ld_addr ld_b16 bld_b16
attribute [local go_sem] ldr_addr ldr_b16

end Go.Proofs.YtalnfjnfcloonaaDoor

/-
  addr.Ssm.
-/
namespace Go.Proofs.YtalnfjnfcloonaaDoor
open Go.RowKit
set_option linter.unusedVariables false
attribute [local go_sem ↓] ld_addr
attribute [local go_sem] ldr_addr

end Go.Proofs.YtalnfjnfcloonaaDoor

/-
  The contracts of the document's own answers of layer 1: Within, Bit, power, Put, Bits.
-/
namespace Go.Proofs.YtalnfjnfcloonaaDoor
open Go.RowKit
set_option linter.unusedVariables false

end Go.Proofs.YtalnfjnfcloonaaDoor

/-
  The document's own Bytes.
-/
namespace Go.Proofs.YtalnfjnfcloonaaDoor
open Go.RowKit
set_option linter.unusedVariables false

end Go.Proofs.YtalnfjnfcloonaaDoor

