/-
  Texts joined: Tell2, Tell3, Tell4, Refa, Rbytes, PureCode.
-/
import Derived.Test.YtacnhelnpngkgaaTell
import Derived.Test.YtacnhelnpngkgaaMg00
import Derived.Test.YtacnhelnpngkgaaChecked
import Derived.WalkLawsBesides
import Derived.WalkSpells
import Derived.BigQuiet
import Derived.Deep.QuietTactic
import Derived.LoopTactic
import Derived.Deep.AppendLies
/-
  The document's own Scope and Local; addr.Zero and addr.Many.
-/
namespace Go.Proofs.Ytacnhelnpngkgaa
open Go.RowKit
set_option linter.unusedVariables false
attribute [local go_sem ↓] ld_addr ld_b16 bld_b16
attribute [local go_sem] ldr_addr ldr_b16

/-- The boxed address. -/
def OneA (w W : World) (v : Bool) (l : List UInt8) : Prop := BoxAt w W v l ∧ GoA w W l
theorem OneA.made (w : World) (v : Bool) (l : List UInt8) (hl : l.length = 16) : OneA w (w.alloc (.cells (addrC v l).toArray 24)) v l := ⟨BoxAt.made w v l hl 24, GoA.made w v l hl⟩
theorem OneA.keep {w W W' : World} {v : Bool} {l : List UInt8} (h : OneA w W v l) (hb : Below W.heap.size W W') : OneA w W' v l := ⟨h.1.keep hb, h.2.below hb⟩
theorem OneA.facts {w W : World} {v : Bool} {l : List UInt8} (h : OneA w W v l) : W.cell? ⟨w.heap.size, 0, none⟩ = some (.bool v) ∧ row? W w.heap.size 0 17 = some (addrC v l) ∧ W.cell? ⟨w.heap.size, 1, none⟩ = some (.int .u8 (bN l 0)) ∧ W.cell? ⟨w.heap.size, 2, none⟩ = some (.int .u8 (bN l 1)) ∧ W.cell? ⟨w.heap.size, 3, none⟩ = some (.int .u8 (bN l 2)) ∧ row? W w.heap.size 1 16 = some (B8 l) := ⟨h.1.1, h.1.2.2.1, h.2.2.1, h.2.2.2.1, h.2.2.2.2.1, h.2.1⟩
theorem OneA.bel {w W : World} {v : Bool} {l : List UInt8} (h : OneA w W v l) : Below w.heap.size w W := h.1.2.2.2.2
end Go.Proofs.Ytacnhelnpngkgaa

/-
  The document's own Local; addr.Many; addr.Ssm.
-/
namespace Go.Proofs.Ytacnhelnpngkgaa
open Go.RowKit
set_option linter.unusedVariables false
attribute [local go_sem ↓] ld_addr ld_b16 bld_b16
attribute [local go_sem] ldr_addr ldr_b16

end Go.Proofs.Ytacnhelnpngkgaa

/-
  addr.Ssm.
-/
namespace Go.Proofs.Ytacnhelnpngkgaa
open Go.RowKit
set_option linter.unusedVariables false
attribute [local go_sem ↓] ld_addr
attribute [local go_sem] ldr_addr

end Go.Proofs.Ytacnhelnpngkgaa

/-
  The contracts of the document's own answers of layer 1: Within, Bit, power, Put, Bits.
-/
namespace Go.Proofs.Ytacnhelnpngkgaa
open Go.RowKit
set_option linter.unusedVariables false

theorem within_any (n : Int) (m : Nat) (w : World) : Calls Try.prog 40 #[.int .i64 n, .int .i64 0, .int .i64 (m : Int)] w fun e w' => e = .returned (.int .i64 (clampN n m : Int)) ∧ w = w' := by
  go_enter Try.func40, Try.ntmps40
  go_wp2
  all_goals
    go_ret
    exact ⟨ret_int (by unfold clampN; split <;> omega), rfl⟩

end Go.Proofs.Ytacnhelnpngkgaa

/-
  The document's own Bytes.
-/
namespace Go.Proofs.Ytacnhelnpngkgaa
open Go.RowKit
set_option linter.unusedVariables false

end Go.Proofs.Ytacnhelnpngkgaa

/-
  Codes of times, plain: what a code counts, that it grows, and the greatest code that counts no more than a number. Nothing of the program.
-/
namespace Go.Proofs.Ytacnhelnpngkgaa
set_option linter.unusedVariables false

/-- What a code counts. -/
def valN (c u : Nat) : Nat := if c < 8 * u then c else (c % u + u) * 2 ^ (c / u % 8 + 3)
theorem valN_small {c u : Nat} (h : c < 8 * u) : valN c u = c := by unfold valN; rw [if_pos h]
/-- The pieces of a code of 16 parts. -/
theorem valN_piece (c u m q : Nat) (hu : 0 < u) (hc : c = q * u + m) (hm : m < u) (h8 : 8 ≤ q) (h16 : q < 16) : valN c u = (m + u) * 2 ^ (q - 5) := by
  have hq : c / u = q := by
    rw [hc]; exact Nat.div_eq_of_lt_le (by omega) (by rw [Nat.succ_mul]; omega)
  have hr : c % u = m := by
    rw [hc, Nat.mul_comm, Nat.mul_add_mod, Nat.mod_eq_of_lt hm]
  have h1 : ¬ c < 8 * u := by
    have : 8 * u ≤ q * u := Nat.mul_le_mul_right u h8
    omega
  unfold valN
  rw [if_neg h1, hq, hr]
  congr 2
  omega
theorem valN_step (c u : Nat) (hu : 0 < u) (h : c + 1 < 16 * u) : valN c u < valN (c + 1) u := by
  by_cases h1 : c + 1 < 8 * u
  · rw [valN_small h1, valN_small (by omega)]; omega
  by_cases h2 : c < 8 * u
  · have hc : c + 1 = 8 * u := by omega
    rw [valN_small h2, valN_piece (c + 1) u 0 8 hu (by omega) hu (by omega) (by omega)]
    omega
  · have hq8 : 8 ≤ c / u := (Nat.le_div_iff_mul_le hu).2 (by omega)
    have hq16 : c / u < 16 := (Nat.div_lt_iff_lt_mul hu).2 (by omega)
    have hm : c % u < u := Nat.mod_lt _ hu
    have hc : c = c / u * u + c % u := by rw [Nat.mul_comm]; exact (Nat.div_add_mod c u).symm
    generalize c / u = q at *
    generalize c % u = m at *
    rw [valN_piece c u m q hu hc hm hq8 hq16]
    by_cases h3 : m + 1 < u
    · rw [valN_piece (c + 1) u (m + 1) q hu (by omega) h3 hq8 hq16]
      exact Nat.mul_lt_mul_of_pos_right (by omega) (Nat.two_pow_pos _)
    · have hm1 : m + 1 = u := by omega
      have hq15 : q + 1 < 16 := by
        refine Decidable.byContradiction fun hn => ?_
        have : q = 15 := by omega
        subst this
        omega
      rw [valN_piece (c + 1) u 0 (q + 1) hu (by rw [Nat.succ_mul]; omega) hu (by omega) hq15]
      rw [show q + 1 - 5 = q - 5 + 1 by omega, Nat.pow_succ, ← Nat.mul_assoc, Nat.mul_comm _ 2, ← Nat.mul_assoc]
      exact Nat.mul_lt_mul_of_pos_right (by omega) (Nat.two_pow_pos _)
theorem valN_lt (u : Nat) (hu : 0 < u) : ∀ (d c : Nat), c + d + 1 < 16 * u → valN c u < valN (c + d + 1) u
  | 0, c, h => valN_step c u hu h
  | d + 1, c, h => Nat.lt_trans (valN_lt u hu d c (by omega)) (valN_step (c + d + 1) u hu (by omega))
theorem valN_mono {u : Nat} (hu : 0 < u) {a b : Nat} (hab : a < b) (hb : b < 16 * u) : valN a u < valN b u := by
  have := valN_lt u hu (b - a - 1) a (by omega)
  rwa [show a + (b - a - 1) + 1 = b by omega] at this
/-- The greatest code up to m that counts no more than n, or 0. -/
def IsCode (n : Int) (u m c : Nat) : Prop := c ≤ m ∧ (c = 0 ∨ (valN c u : Int) ≤ n) ∧ (c = m ∨ n < (valN (c + 1) u : Int))
theorem IsCode.uniq {n : Int} {u m c d : Nat} (hu : 0 < u) (hm : m < 16 * u) (h : IsCode n u m c) (k : IsCode n u m d) : c = d := by
  obtain ⟨a1, a2, a3⟩ := h
  obtain ⟨b1, b2, b3⟩ := k
  have key : ∀ x y : Nat, x ≤ m → y ≤ m → (y = 0 ∨ (valN y u : Int) ≤ n) → (x = m ∨ n < (valN (x + 1) u : Int)) → y ≤ x := by
    intro x y hx hy h1 h2
    refine Decidable.byContradiction fun hn => ?_
    have hxy : x + 1 ≤ y := by omega
    rcases h1 with h1 | h1
    · omega
    rcases h2 with h2 | h2
    · omega
    · rcases Nat.lt_or_eq_of_le hxy with h3 | h3
      · have := valN_mono hu h3 (by omega); omega
      · rw [h3] at h2; omega
  exact Nat.le_antisymm (key d c b1 a1 a2 b3) (key c d a1 b1 b2 a3)
theorem IsCode.back {u m c : Nat} (hu : 0 < u) (hm : m < 16 * u) (hc : c ≤ m) : IsCode (valN c u : Int) u m c := by
  refine ⟨hc, Or.inr (Int.le_refl _), ?_⟩
  by_cases h : c = m
  · exact Or.inl h
  · right
    have := valN_mono hu (show c < c + 1 by omega) (show c + 1 < 16 * u by omega)
    omega
/-- Whether a number is what some code counts. -/
theorem IsCode.exact {n : Int} {u m c : Nat} (hu : 0 < u) (hm : m < 16 * u) (h : IsCode n u m c) : (∃ d, d ≤ m ∧ (valN d u : Int) = n) ↔ (0 ≤ n ∧ (valN c u : Int) = n) := by
  constructor
  · rintro ⟨d, hd, rfl⟩
    refine ⟨Int.natCast_nonneg _, ?_⟩
    rw [IsCode.uniq hu hm h (IsCode.back hu hm hd)]
  · rintro ⟨_, h1⟩
    exact ⟨c, h.1, h1⟩
/-- That code. -/
def codeN (n : Int) (u : Nat) : Nat → Nat
  | 0 => 0
  | m + 1 => if (valN (m + 1) u : Int) ≤ n then m + 1 else codeN n u m
theorem codeN_is (n : Int) (u : Nat) : ∀ m, IsCode n u m (codeN n u m)
  | 0 => ⟨Nat.le_refl _, Or.inl rfl, Or.inl rfl⟩
  | m + 1 => by
    unfold codeN
    split
    · rename_i h; exact ⟨Nat.le_refl _, Or.inr h, Or.inl rfl⟩
    · rename_i h
      obtain ⟨h1, h2, h3⟩ := codeN_is n u m
      refine ⟨Nat.le_succ_of_le h1, h2, Or.inr ?_⟩
      rcases h3 with h3 | h3
      · rw [h3]; exact Int.not_le.1 h
      · exact h3
theorem codeN_le (n : Int) (u m : Nat) : codeN n u m ≤ m := (codeN_is n u m).1
theorem codeN_uniq {n : Int} {u m c : Nat} (hu : 0 < u) (hm : m < 16 * u) (h : IsCode n u m c) : c = codeN n u m := h.uniq hu hm (codeN_is n u m)
/-- Whether a number is exact. -/
def exactN (n : Int) (u m : Nat) : Bool := decide (0 ≤ n ∧ (valN (codeN n u m) u : Int) = n)
/-- A search that halves. -/
def Halve (n : Int) (u m lo hi : Nat) : Prop := lo ≤ hi ∧ hi ≤ m ∧ (lo = 0 ∨ (valN lo u : Int) ≤ n) ∧ (hi = m ∨ n < (valN (hi + 1) u : Int))
theorem Halve.start (n : Int) (u m : Nat) : Halve n u m 0 m := ⟨Nat.zero_le _, Nat.le_refl _, Or.inl rfl, Or.inl rfl⟩
theorem Halve.up {n : Int} {u m lo hi k : Nat} (h : Halve n u m lo hi) (hk : k ≤ hi) (hv : (valN k u : Int) ≤ n) : Halve n u m k hi := ⟨hk, h.2.1, Or.inr hv, h.2.2.2⟩
theorem Halve.down {n : Int} {u m lo hi k : Nat} (h : Halve n u m lo hi) (hk : lo < k) (hk2 : k ≤ hi) (hv : ¬ (valN k u : Int) ≤ n) : Halve n u m lo (k - 1) :=
  ⟨by omega, Nat.le_trans (Nat.sub_le _ _) (Nat.le_trans hk2 h.2.1), h.2.2.1, Or.inr (by rw [Nat.sub_add_cancel (by omega)]; omega)⟩
theorem Halve.done {n : Int} {u m lo hi : Nat} (h : Halve n u m lo hi) (he : lo = hi) : IsCode n u m lo := ⟨Nat.le_trans h.1 h.2.1, h.2.2.1, by rw [he]; exact h.2.2.2⟩
end Go.Proofs.Ytacnhelnpngkgaa

