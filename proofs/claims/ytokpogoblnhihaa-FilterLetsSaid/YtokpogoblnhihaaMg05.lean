/-
  Texts joined: Tell, Tell2, Tell3, Tell4, Refa, Rbytes, PureCode, CodR, TkA, TkB.
-/
import Derived.Test.YtokpogoblnhihaaMg04
import Derived.WalkLawsBesides
import Derived.LoopTactic
import Derived.Test.YtokpogoblnhihaaMg00
import Derived.Test.YtokpogoblnhihaaChecked
import Derived.WalkSpells
import Derived.BigQuiet
import Derived.Deep.QuietTactic
import Derived.Deep.AppendLies
import Derived.Test.YtokpogoblnhihaaMg03
/-
  The document's own answers on one address: Group, Ssm, Zero, Good.
-/
namespace Go.Proofs.Ytokpogoblnhihaa
open Go.RowKit
set_option linter.unusedVariables false

/-- The bytes from a place on, up to another, are zeros. -/
def ZerS (l : List UInt8) (a k : Nat) : Prop := ∀ i (h : i < l.length), a ≤ i → i < k → l[i] = 0
theorem ZerS.start (l : List UInt8) (a : Nat) : ZerS l a a := fun i _ h1 h2 => absurd h2 (by omega)
theorem ZerS.step {l : List UInt8} {a k : Nat} (h : ZerS l a k) (hk : k < l.length) (hz : ((l[k]).toNat : Int) = 0) : ZerS l a (k + 1) := fun i hi h1 h2 => by
  by_cases e : i = k
  · subst e
    apply UInt8.toNat_inj.1
    have : (l[i]).toNat = 0 := by omega
    simpa using this
  · exact h i hi h1 (by omega)
theorem good_yes {l : List UInt8} (hl : l.length = 16) (h : ZerS l 4 16) : goodV false l = true := by
  unfold goodV
  rw [Bool.false_or, decide_eq_true_eq]
  apply List.ext_getElem (by rw [ownV_length _ _ hl, hl])
  intro i h1 h2
  simp only [ownV, ownK, Bool.false_eq_true, if_false]
  by_cases h4 : i < 4
  · rw [List.getElem_append_left (by simp; omega)]; simp
  · rw [List.getElem_append_right (by simp; omega), List.getElem_append_left (by simp; omega), List.getElem_replicate]
    exact h i h1 (by omega) (by omega)
theorem good_no {l : List UInt8} {k : Nat} (hl : l.length = 16) (hk : k < l.length) (h4 : 4 ≤ k) (h : ((l[k]).toNat : Int) ≠ 0) : goodV false l = false := by
  unfold goodV
  rw [Bool.false_or, decide_eq_false_iff_not]
  intro e
  apply h
  have h2 : (ownV false l)[k]? = some 0 := by
    simp only [ownV, ownK, Bool.false_eq_true, if_false]
    rw [List.getElem?_append_right (by simp; omega), List.getElem?_append_left (by simp; omega), List.getElem?_replicate, if_pos (by simp; omega)]
  rw [← e, List.getElem?_eq_getElem hk] at h2
  have : l[k] = 0 := by simpa using h2
  rw [this]; rfl

set_option maxRecDepth 100000 in
set_option maxHeartbeats 1000000 in
theorem rgood_any (v : Bool) (l : List UInt8) (hl : l.length = 16) (w : World) : Calls Try.prog 50 #[.agg (addrC v l).toArray] w fun e w' => e = .returned (.bool (goodV v l)) ∧ Below w.heap.size w w' := by
  obtain ⟨R, hR⟩ : ∃ R, R = goodV v l := ⟨_, rfl⟩
  rw [← hR]
  have HR := Lib.hid hR; clear hR
  have HB := Lib.hid (BoxAt.made w v l hl 37)
  go_enter Try.func50, Try.ntmps50
  go_upto_region 2 with (fail)
  generalize w.alloc _ = W at HB ⊢
  have Hrow := Lib.hid HB.out.2.1
  have Hb := Lib.hid HB.out.2.2.2.2
  have k0 := HB.out.1
  clear HB
  cases v
  · go_loop [3] (fun vi => ∃ k : Nat, 4 ≤ k ∧ k ≤ 16 ∧ vi = .int .i64 (k : Int) ∧ Hid (ZerS l 4 k)) (fun vi => 16 - (intOf vi).toNat)
    case atStart => exact ⟨4, by omega, by omega, rfl, Lib.hid (ZerS.start l 4)⟩
    case round =>
      obtain ⟨k, h4, hk, rfl, hq⟩ := hrel
      by_cases hlt : k < 16
      · have hkl : k < l.length := by omega
        have H1 := Lib.hid (hq.out.step hkl)
        have H2 := Lib.hid (good_no hl hkl h4)
        have x1 := Hrow.out k hkl
        generalize ((l[k]).toNat : Int) = x at H1 H2 x1
        clear hkl
        by_cases hx : x = 0
        · subst hx
          go_wp2
          go_round
          case rel => exact ⟨k + 1, by omega, by omega, by go_num, Lib.hid (H1.out rfl)⟩
          case measure => simp [intOf]; omega
        · have g1 : (x != 0) = true := by simp [hx]
          have HX := Lib.hid hx; clear hx
          go_wp2
          go_ret
          exact ⟨ret_bool (by rw [HR.out, H2.out HX.out]), Hb.out⟩
      · obtain rfl : k = 16 := by omega
        go_wp2
        go_ret
        exact ⟨ret_bool (by rw [HR.out, good_yes hl hq.out]), Hb.out⟩
  · go_loop [3] (fun vi => ∃ k : Nat, 4 ≤ k ∧ k ≤ 16 ∧ vi = .int .i64 (k : Int)) (fun vi => 16 - (intOf vi).toNat)
    case atStart => exact ⟨4, by omega, by omega, rfl⟩
    case round =>
      obtain ⟨k, h4, hk, rfl⟩ := hrel
      by_cases hlt : k < 16
      · go_wp2
        go_round
        case rel => exact ⟨k + 1, by omega, by omega, by go_num⟩
        case measure => simp [intOf]; omega
      · obtain rfl : k = 16 := by omega
        go_wp2
        go_ret
        exact ⟨ret_bool (by rw [HR.out]; rfl), Hb.out⟩
end Go.Proofs.Ytokpogoblnhihaa

/-
  The document's own Scope and Local; addr.Zero and addr.Many.
-/
namespace Go.Proofs.Ytokpogoblnhihaa
open Go.RowKit
set_option linter.unusedVariables false
attribute [local go_sem ↓] ld_addr ld_b16 bld_b16
attribute [local go_sem] ldr_addr ldr_b16

/-- The boxed address. -/
def OneA (w W : World) (v : Bool) (l : List UInt8) : Prop := BoxAt w W v l ∧ GoA w W l
theorem OneA.made (w : World) (v : Bool) (l : List UInt8) (hl : l.length = 16) : OneA w (w.alloc (.cells (addrC v l).toArray 37)) v l := ⟨BoxAt.made w v l hl 37, GoA.made w v l hl⟩
theorem OneA.keep {w W W' : World} {v : Bool} {l : List UInt8} (h : OneA w W v l) (hb : Below W.heap.size W W') : OneA w W' v l := ⟨h.1.keep hb, h.2.below hb⟩
theorem OneA.facts {w W : World} {v : Bool} {l : List UInt8} (h : OneA w W v l) : W.cell? ⟨w.heap.size, 0, none⟩ = some (.bool v) ∧ row? W w.heap.size 0 17 = some (addrC v l) ∧ W.cell? ⟨w.heap.size, 1, none⟩ = some (.int .u8 (bN l 0)) ∧ W.cell? ⟨w.heap.size, 2, none⟩ = some (.int .u8 (bN l 1)) ∧ W.cell? ⟨w.heap.size, 3, none⟩ = some (.int .u8 (bN l 2)) ∧ row? W w.heap.size 1 16 = some (B8 l) := ⟨h.1.1, h.1.2.2.1, h.2.2.1, h.2.2.2.1, h.2.2.2.2.1, h.2.1⟩
theorem OneA.bel {w W : World} {v : Bool} {l : List UInt8} (h : OneA w W v l) : Below w.heap.size w W := h.1.2.2.2.2
end Go.Proofs.Ytokpogoblnhihaa

/-
  The document's own Local; addr.Many; addr.Ssm.
-/
namespace Go.Proofs.Ytokpogoblnhihaa
open Go.RowKit
set_option linter.unusedVariables false
attribute [local go_sem ↓] ld_addr ld_b16 bld_b16
attribute [local go_sem] ldr_addr ldr_b16

end Go.Proofs.Ytokpogoblnhihaa

/-
  addr.Ssm.
-/
namespace Go.Proofs.Ytokpogoblnhihaa
open Go.RowKit
set_option linter.unusedVariables false
attribute [local go_sem ↓] ld_addr
attribute [local go_sem] ldr_addr

end Go.Proofs.Ytokpogoblnhihaa

/-
  The contracts of the document's own answers of layer 1: Within, Bit, power, Put, Bits.
-/
namespace Go.Proofs.Ytokpogoblnhihaa
open Go.RowKit
set_option linter.unusedVariables false

end Go.Proofs.Ytokpogoblnhihaa

/-
  The document's own Bytes.
-/
namespace Go.Proofs.Ytokpogoblnhihaa
open Go.RowKit
set_option linter.unusedVariables false

end Go.Proofs.Ytokpogoblnhihaa

/-
  Codes of times, plain: what a code counts, that it grows, and the greatest code that counts no more than a number. Nothing of the program.
-/
namespace Go.Proofs.Ytokpogoblnhihaa
set_option linter.unusedVariables false

/-- What a code counts. -/
def valN (c u : Nat) : Nat := if c < 8 * u then c else (c % u + u) * 2 ^ (c / u % 8 + 3)
theorem valN_small {c u : Nat} (h : c < 8 * u) : valN c u = c := by unfold valN; rw [if_pos h]
/-- The pieces of a code of 16 parts. -/
theorem valN_piece (c u m q : Nat) (hu : 0 < u) (hc : c = q * u + m) (hm : m < u) (h8 : 8 ≤ q) (h16 : q < 16) : valN c u = (m + u) * 2 ^ (q - 5) := by
  have hq : c / u = q := by
    rw [hc]; exact Nat.div_eq_of_lt_le (by omega) (by rw [Nat.succ_mul]; omega)
  have hr : c % u = m := by
    rw [hc, Nat.mul_comm, Nat.mul_add_mod, Nat.mod_eq_of_lt hm]
  have h1 : ¬ c < 8 * u := by
    have : 8 * u ≤ q * u := Nat.mul_le_mul_right u h8
    omega
  unfold valN
  rw [if_neg h1, hq, hr]
  congr 2
  omega
theorem valN_step (c u : Nat) (hu : 0 < u) (h : c + 1 < 16 * u) : valN c u < valN (c + 1) u := by
  by_cases h1 : c + 1 < 8 * u
  · rw [valN_small h1, valN_small (by omega)]; omega
  by_cases h2 : c < 8 * u
  · have hc : c + 1 = 8 * u := by omega
    rw [valN_small h2, valN_piece (c + 1) u 0 8 hu (by omega) hu (by omega) (by omega)]
    omega
  · have hq8 : 8 ≤ c / u := (Nat.le_div_iff_mul_le hu).2 (by omega)
    have hq16 : c / u < 16 := (Nat.div_lt_iff_lt_mul hu).2 (by omega)
    have hm : c % u < u := Nat.mod_lt _ hu
    have hc : c = c / u * u + c % u := by rw [Nat.mul_comm]; exact (Nat.div_add_mod c u).symm
    generalize c / u = q at *
    generalize c % u = m at *
    rw [valN_piece c u m q hu hc hm hq8 hq16]
    by_cases h3 : m + 1 < u
    · rw [valN_piece (c + 1) u (m + 1) q hu (by omega) h3 hq8 hq16]
      exact Nat.mul_lt_mul_of_pos_right (by omega) (Nat.two_pow_pos _)
    · have hm1 : m + 1 = u := by omega
      have hq15 : q + 1 < 16 := by
        refine Decidable.byContradiction fun hn => ?_
        have : q = 15 := by omega
        subst this
        omega
      rw [valN_piece (c + 1) u 0 (q + 1) hu (by rw [Nat.succ_mul]; omega) hu (by omega) hq15]
      rw [show q + 1 - 5 = q - 5 + 1 by omega, Nat.pow_succ, ← Nat.mul_assoc, Nat.mul_comm _ 2, ← Nat.mul_assoc]
      exact Nat.mul_lt_mul_of_pos_right (by omega) (Nat.two_pow_pos _)
theorem valN_lt (u : Nat) (hu : 0 < u) : ∀ (d c : Nat), c + d + 1 < 16 * u → valN c u < valN (c + d + 1) u
  | 0, c, h => valN_step c u hu h
  | d + 1, c, h => Nat.lt_trans (valN_lt u hu d c (by omega)) (valN_step (c + d + 1) u hu (by omega))
theorem valN_mono {u : Nat} (hu : 0 < u) {a b : Nat} (hab : a < b) (hb : b < 16 * u) : valN a u < valN b u := by
  have := valN_lt u hu (b - a - 1) a (by omega)
  rwa [show a + (b - a - 1) + 1 = b by omega] at this
/-- The greatest code up to m that counts no more than n, or 0. -/
def IsCode (n : Int) (u m c : Nat) : Prop := c ≤ m ∧ (c = 0 ∨ (valN c u : Int) ≤ n) ∧ (c = m ∨ n < (valN (c + 1) u : Int))
theorem IsCode.uniq {n : Int} {u m c d : Nat} (hu : 0 < u) (hm : m < 16 * u) (h : IsCode n u m c) (k : IsCode n u m d) : c = d := by
  obtain ⟨a1, a2, a3⟩ := h
  obtain ⟨b1, b2, b3⟩ := k
  have key : ∀ x y : Nat, x ≤ m → y ≤ m → (y = 0 ∨ (valN y u : Int) ≤ n) → (x = m ∨ n < (valN (x + 1) u : Int)) → y ≤ x := by
    intro x y hx hy h1 h2
    refine Decidable.byContradiction fun hn => ?_
    have hxy : x + 1 ≤ y := by omega
    rcases h1 with h1 | h1
    · omega
    rcases h2 with h2 | h2
    · omega
    · rcases Nat.lt_or_eq_of_le hxy with h3 | h3
      · have := valN_mono hu h3 (by omega); omega
      · rw [h3] at h2; omega
  exact Nat.le_antisymm (key d c b1 a1 a2 b3) (key c d a1 b1 b2 a3)
theorem IsCode.back {u m c : Nat} (hu : 0 < u) (hm : m < 16 * u) (hc : c ≤ m) : IsCode (valN c u : Int) u m c := by
  refine ⟨hc, Or.inr (Int.le_refl _), ?_⟩
  by_cases h : c = m
  · exact Or.inl h
  · right
    have := valN_mono hu (show c < c + 1 by omega) (show c + 1 < 16 * u by omega)
    omega
/-- Whether a number is what some code counts. -/
theorem IsCode.exact {n : Int} {u m c : Nat} (hu : 0 < u) (hm : m < 16 * u) (h : IsCode n u m c) : (∃ d, d ≤ m ∧ (valN d u : Int) = n) ↔ (0 ≤ n ∧ (valN c u : Int) = n) := by
  constructor
  · rintro ⟨d, hd, rfl⟩
    refine ⟨Int.natCast_nonneg _, ?_⟩
    rw [IsCode.uniq hu hm h (IsCode.back hu hm hd)]
  · rintro ⟨_, h1⟩
    exact ⟨c, h.1, h1⟩
/-- A search that halves. -/
def Halve (n : Int) (u m lo hi : Nat) : Prop := lo ≤ hi ∧ hi ≤ m ∧ (lo = 0 ∨ (valN lo u : Int) ≤ n) ∧ (hi = m ∨ n < (valN (hi + 1) u : Int))
theorem Halve.start (n : Int) (u m : Nat) : Halve n u m 0 m := ⟨Nat.zero_le _, Nat.le_refl _, Or.inl rfl, Or.inl rfl⟩
theorem Halve.up {n : Int} {u m lo hi k : Nat} (h : Halve n u m lo hi) (hk : k ≤ hi) (hv : (valN k u : Int) ≤ n) : Halve n u m k hi := ⟨hk, h.2.1, Or.inr hv, h.2.2.2⟩
theorem Halve.down {n : Int} {u m lo hi k : Nat} (h : Halve n u m lo hi) (hk : lo < k) (hk2 : k ≤ hi) (hv : ¬ (valN k u : Int) ≤ n) : Halve n u m lo (k - 1) :=
  ⟨by omega, Nat.le_trans (Nat.sub_le _ _) (Nat.le_trans hk2 h.2.1), h.2.2.1, Or.inr (by rw [Nat.sub_add_cancel (by omega)]; omega)⟩
theorem Halve.done {n : Int} {u m lo hi : Nat} (h : Halve n u m lo hi) (he : lo = hi) : IsCode n u m lo := ⟨Nat.le_trans h.1 h.2.1, h.2.2.1, by rw [he]; exact h.2.2.2⟩
end Go.Proofs.Ytokpogoblnhihaa

/-
  The contracts of the document's own answers of layer 7: value, Value8, Value16, code, Code8, Code16.
-/
namespace Go.Proofs.Ytokpogoblnhihaa
open Go.RowKit
set_option linter.unusedVariables false

end Go.Proofs.Ytokpogoblnhihaa

/-
  The document's own Group, Sources, exact and list of layer 8.
-/
namespace Go.Proofs.Ytokpogoblnhihaa
open Go.RowKit
set_option linter.unusedVariables false
attribute [local go_sem ↓] ld_addr
attribute [local go_sem] ldr_addr row?_drewN_eq row?_drew_eq

/-- Whether an address is a group's of IPv4. -/
def grp8 (a : AD) : Bool := !a.1 && (goodV a.1 a.2 && grpV a.1 a.2)
/-- An address boxed first of all. -/
def ABox (w W : World) (a : AD) : Prop := ObjAt W w.heap.size (adC a).toArray 37 ∧ Below w.heap.size w W
theorem ABox.made (w : World) (a : AD) : ABox w (w.alloc (.cells (adC a).toArray 37)) a := ⟨ObjAt.made w _ _, (Below.refl _ _).alloc (Nat.le_refl _) _⟩
theorem ABox.below {w W W' : World} {a : AD} (h : ABox w W a) (hb : Below W.heap.size W W') : ABox w W' a := ⟨h.1.below hb h.1.lt, bstep h.2 hb⟩
theorem ABox.row {w W : World} {a : AD} (h : ABox w W a) (ho : adOk a) : row? W w.heap.size 0 17 = some (adC a) := obj_row (A := []) (M := adC a) (C := []) (by simpa using h.1) rfl (adC_length ho)
theorem ABox.v {w W : World} {a : AD} (h : ABox w W a) : W.cell? ⟨w.heap.size, 0, none⟩ = some (.bool a.1) := by
  rw [ObjAt.cell h.1, List.getElem?_toArray]; rfl
end Go.Proofs.Ytokpogoblnhihaa

/-
  The document's own list and Good of layer 8.
-/
namespace Go.Proofs.Ytokpogoblnhihaa
open Go.RowKit
set_option linter.unusedVariables false
attribute [local go_sem ↓] ld_addr st_addr bld_addr
attribute [local go_sem] ldr_addr str_addr row?_drewN_eq row?_drew_eq

end Go.Proofs.Ytokpogoblnhihaa

