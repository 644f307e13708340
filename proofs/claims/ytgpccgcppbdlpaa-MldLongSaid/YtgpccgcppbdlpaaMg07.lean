/-
  Texts joined: Rbytes, PureCode.
-/
import Derived.Test.YtgpccgcppbdlpaaMg06
/-
  The document's own Bytes.
-/
namespace Go.Proofs.Ytgpccgcppbdlpaa
open Go.RowKit
set_option linter.unusedVariables false

set_option maxRecDepth 100000 in
set_option maxHeartbeats 2000000 in
theorem rbytes_any (v : Bool) (l : List UInt8) (hl : l.length = 16) (w : World) : Calls Try.prog 24 #[.agg (addrC v l).toArray] w fun e w' => e = .returned (.string (Str (bytesV v l))) ∧ Below w.heap.size w w' := by
  obtain ⟨i0, hi, hz0, hz1, hz2⟩ := info_parts Try.info_u8'
  have HB := Lib.hid (BoxAt.made w v l hl 24)
  go_enter Try.func24, Try.ntmps24
  go_upto_region 1 with (fail)
  generalize w.alloc _ = W at HB ⊢
  have k0 := HB.out.1
  have Hrow := Lib.hid HB.out.2.1
  have Hlt := Lib.hid HB.out.2.2.2.1
  have Hb := Lib.hid HB.out.2.2.2.2
  clear HB
  obtain ⟨c0⟩ : Nonempty (∀ wr, Below W.heap.size W wr → wr.cell? ⟨w.heap.size, 0, none⟩ = some (.bool v)) := ⟨fun wr hb => (hb.cell (p := ⟨w.heap.size, 0, none⟩) Hlt.out).trans k0⟩
  have HC := Lib.hid c0; clear c0
  have hkk : ∃ N : Nat, N = (if v then 16 else 4) := ⟨_, rfl⟩
  clear hkk
  have c0 := HC.out (W.alloc (.cells #[] 5)) ((Below.refl _ _).alloc (Nat.le_refl _) _)
  cases v
  · go_wp2_with fail
    go_loopw [3, 5] (fun s i wr => ∃ k : Nat, k ≤ 4 ∧ i = .int .i64 (k : Int) ∧ wr.ownsRow W.heap.size 5 1 s k (B8 (l.take k)) ∧ Hid (Below W.heap.size W wr)) (fun _ i _ => 16 - (intOf i).toNat)
    case atStart => exact ⟨0, by omega, rfl, World.ownsRow_lit W #[] 0 (Nat.le_refl _) (by unfold maxLen; omega) (by simp), Lib.hid ((Below.refl _ _).alloc (Nat.le_refl _) _)⟩
    case round =>
      obtain ⟨k, hk, rfl, hown, hbel⟩ := hrel
      by_cases hlt : k < 4
      · have hkl : k < l.length := by omega
        have x1 : wr.cell? ⟨w.heap.size, 1 + k, none⟩ = some (.int .u8 ((l[k]).toNat : Int)) := (hbel.out.cell (p := ⟨w.heap.size, 1 + k, none⟩) Hlt.out).trans (Hrow.out k hkl)
        have Hst := Lib.hid (show B8 (l.take (k + 1)) = B8 (l.take k) ++ [.int .u8 ((l[k]).toNat : Int)] by rw [List.take_succ_eq_append_getElem hkl, B8_append]; rfl)
        have Hown := Lib.hid hown; clear hown
        generalize ((l[k]).toNat : Int) = x at x1 Hst
        clear hkl
        have hz := hbel.out.size
        have hown := Hown.out
        go_wp2_with (at_builtin; refine wpList_append_own _ rfl _ _ 73 rfl W.heap.size 5 i0 (.int .u8 0) 1 1 Try.underlying73 hi hz0 hz1 hz2 rfl (by decide) _ _ _ rfl (hown.alloc _) ⟨wr.heap.size, 0, none⟩ 1 1 [.int .u8 x] rfl rfl (World.news_of_block (heap_alloc_new wr _)) (by simp [Value.oneCell']) (by unfold maxLen; omega) (by omega) (by simp; omega) ?_)
        intro v' w1 hown' hgrow _
        have Hown' := Lib.hid hown'
        have Hgrow := Lib.hid hgrow
        clear hown' hgrow hown hz
        go_wp2
        go_roundw
        case rel =>
          refine ⟨k + 1, by omega, by go_num, ?_, ?_⟩
          · rw [Hst.out]; exact Hown'.out
          · have hz := hbel.out.size
            exact Lib.hid ((hbel.out.alloc hz _).grown Hgrow.out (by simp; omega) (fun g hg => (Hown.out.lt g hg).1))
        case measure => simp [intOf]; omega
      · obtain rfl : k = 4 := by omega
        have hcv := run_string_own 73 9 5 Try.underlying73 Try.underlying5 Try.underlying9 hown
        clear hown
        go_wp2
        go_ret
        exact ⟨rfl, bstep Hb.out hbel.out⟩
  · go_wp2_with fail
    go_loopw [3, 5] (fun s i wr => ∃ k : Nat, k ≤ 16 ∧ i = .int .i64 (k : Int) ∧ wr.ownsRow W.heap.size 5 1 s k (B8 (l.take k)) ∧ Hid (Below W.heap.size W wr)) (fun _ i _ => 16 - (intOf i).toNat)
    case atStart => exact ⟨0, by omega, rfl, World.ownsRow_lit W #[] 0 (Nat.le_refl _) (by unfold maxLen; omega) (by simp), Lib.hid ((Below.refl _ _).alloc (Nat.le_refl _) _)⟩
    case round =>
      obtain ⟨k, hk, rfl, hown, hbel⟩ := hrel
      by_cases hlt : k < 16
      · have hkl : k < l.length := by omega
        have x1 : wr.cell? ⟨w.heap.size, 1 + k, none⟩ = some (.int .u8 ((l[k]).toNat : Int)) := (hbel.out.cell (p := ⟨w.heap.size, 1 + k, none⟩) Hlt.out).trans (Hrow.out k hkl)
        have Hst := Lib.hid (show B8 (l.take (k + 1)) = B8 (l.take k) ++ [.int .u8 ((l[k]).toNat : Int)] by rw [List.take_succ_eq_append_getElem hkl, B8_append]; rfl)
        have Hown := Lib.hid hown; clear hown
        generalize ((l[k]).toNat : Int) = x at x1 Hst
        clear hkl
        have hz := hbel.out.size
        have hown := Hown.out
        go_wp2_with (at_builtin; refine wpList_append_own _ rfl _ _ 73 rfl W.heap.size 5 i0 (.int .u8 0) 1 1 Try.underlying73 hi hz0 hz1 hz2 rfl (by decide) _ _ _ rfl (hown.alloc _) ⟨wr.heap.size, 0, none⟩ 1 1 [.int .u8 x] rfl rfl (World.news_of_block (heap_alloc_new wr _)) (by simp [Value.oneCell']) (by unfold maxLen; omega) (by omega) (by simp; omega) ?_)
        intro v' w1 hown' hgrow _
        have Hown' := Lib.hid hown'
        have Hgrow := Lib.hid hgrow
        clear hown' hgrow hown hz
        go_wp2
        go_roundw
        case rel =>
          refine ⟨k + 1, by omega, by go_num, ?_, ?_⟩
          · rw [Hst.out]; exact Hown'.out
          · have hz := hbel.out.size
            exact Lib.hid ((hbel.out.alloc hz _).grown Hgrow.out (by simp; omega) (fun g hg => (Hown.out.lt g hg).1))
        case measure => simp [intOf]; omega
      · obtain rfl : k = 16 := by omega
        rw [List.take_of_length_le (by omega)] at hown
        have hcv := run_string_own 73 9 5 Try.underlying73 Try.underlying5 Try.underlying9 hown
        clear hown
        go_wp2
        go_ret
        exact ⟨rfl, bstep Hb.out hbel.out⟩
end Go.Proofs.Ytgpccgcppbdlpaa

/-
  Codes of times, plain: what a code counts, that it grows, and the greatest code that counts no more than a number. Nothing of the program.
-/
namespace Go.Proofs.Ytgpccgcppbdlpaa
set_option linter.unusedVariables false

/-- What a code counts. -/
def valN (c u : Nat) : Nat := if c < 8 * u then c else (c % u + u) * 2 ^ (c / u % 8 + 3)
theorem valN_small {c u : Nat} (h : c < 8 * u) : valN c u = c := by unfold valN; rw [if_pos h]
/-- The pieces of a code of 16 parts. -/
theorem valN_piece (c u m q : Nat) (hu : 0 < u) (hc : c = q * u + m) (hm : m < u) (h8 : 8 ≤ q) (h16 : q < 16) : valN c u = (m + u) * 2 ^ (q - 5) := by
  have hq : c / u = q := by
    rw [hc]; exact Nat.div_eq_of_lt_le (by omega) (by rw [Nat.succ_mul]; omega)
  have hr : c % u = m := by
    rw [hc, Nat.mul_comm, Nat.mul_add_mod, Nat.mod_eq_of_lt hm]
  have h1 : ¬ c < 8 * u := by
    have : 8 * u ≤ q * u := Nat.mul_le_mul_right u h8
    omega
  unfold valN
  rw [if_neg h1, hq, hr]
  congr 2
  omega
theorem valN_step (c u : Nat) (hu : 0 < u) (h : c + 1 < 16 * u) : valN c u < valN (c + 1) u := by
  by_cases h1 : c + 1 < 8 * u
  · rw [valN_small h1, valN_small (by omega)]; omega
  by_cases h2 : c < 8 * u
  · have hc : c + 1 = 8 * u := by omega
    rw [valN_small h2, valN_piece (c + 1) u 0 8 hu (by omega) hu (by omega) (by omega)]
    omega
  · have hq8 : 8 ≤ c / u := (Nat.le_div_iff_mul_le hu).2 (by omega)
    have hq16 : c / u < 16 := (Nat.div_lt_iff_lt_mul hu).2 (by omega)
    have hm : c % u < u := Nat.mod_lt _ hu
    have hc : c = c / u * u + c % u := by rw [Nat.mul_comm]; exact (Nat.div_add_mod c u).symm
    generalize c / u = q at *
    generalize c % u = m at *
    rw [valN_piece c u m q hu hc hm hq8 hq16]
    by_cases h3 : m + 1 < u
    · rw [valN_piece (c + 1) u (m + 1) q hu (by omega) h3 hq8 hq16]
      exact Nat.mul_lt_mul_of_pos_right (by omega) (Nat.two_pow_pos _)
    · have hm1 : m + 1 = u := by omega
      have hq15 : q + 1 < 16 := by
        refine Decidable.byContradiction fun hn => ?_
        have : q = 15 := by omega
        subst this
        omega
      rw [valN_piece (c + 1) u 0 (q + 1) hu (by rw [Nat.succ_mul]; omega) hu (by omega) hq15]
      rw [show q + 1 - 5 = q - 5 + 1 by omega, Nat.pow_succ, ← Nat.mul_assoc, Nat.mul_comm _ 2, ← Nat.mul_assoc]
      exact Nat.mul_lt_mul_of_pos_right (by omega) (Nat.two_pow_pos _)
theorem valN_lt (u : Nat) (hu : 0 < u) : ∀ (d c : Nat), c + d + 1 < 16 * u → valN c u < valN (c + d + 1) u
  | 0, c, h => valN_step c u hu h
  | d + 1, c, h => Nat.lt_trans (valN_lt u hu d c (by omega)) (valN_step (c + d + 1) u hu (by omega))
theorem valN_mono {u : Nat} (hu : 0 < u) {a b : Nat} (hab : a < b) (hb : b < 16 * u) : valN a u < valN b u := by
  have := valN_lt u hu (b - a - 1) a (by omega)
  rwa [show a + (b - a - 1) + 1 = b by omega] at this
theorem valN_zero (u : Nat) (hu : 0 < u) : valN 0 u = 0 := valN_small (by omega)
/-- The greatest code up to m that counts no more than n, or 0. -/
def IsCode (n : Int) (u m c : Nat) : Prop := c ≤ m ∧ (c = 0 ∨ (valN c u : Int) ≤ n) ∧ (c = m ∨ n < (valN (c + 1) u : Int))
theorem IsCode.uniq {n : Int} {u m c d : Nat} (hu : 0 < u) (hm : m < 16 * u) (h : IsCode n u m c) (k : IsCode n u m d) : c = d := by
  obtain ⟨a1, a2, a3⟩ := h
  obtain ⟨b1, b2, b3⟩ := k
  have key : ∀ x y : Nat, x ≤ m → y ≤ m → (y = 0 ∨ (valN y u : Int) ≤ n) → (x = m ∨ n < (valN (x + 1) u : Int)) → y ≤ x := by
    intro x y hx hy h1 h2
    refine Decidable.byContradiction fun hn => ?_
    have hxy : x + 1 ≤ y := by omega
    rcases h1 with h1 | h1
    · omega
    rcases h2 with h2 | h2
    · omega
    · rcases Nat.lt_or_eq_of_le hxy with h3 | h3
      · have := valN_mono hu h3 (by omega); omega
      · rw [h3] at h2; omega
  exact Nat.le_antisymm (key d c b1 a1 a2 b3) (key c d a1 b1 b2 a3)
theorem IsCode.back {u m c : Nat} (hu : 0 < u) (hm : m < 16 * u) (hc : c ≤ m) : IsCode (valN c u : Int) u m c := by
  refine ⟨hc, Or.inr (Int.le_refl _), ?_⟩
  by_cases h : c = m
  · exact Or.inl h
  · right
    have := valN_mono hu (show c < c + 1 by omega) (show c + 1 < 16 * u by omega)
    omega
theorem IsCode.neg {n : Int} {u m c : Nat} (hu : 0 < u) (hm : m < 16 * u) (hn : n < 0) (h : IsCode n u m c) : c = 0 := by
  obtain ⟨a1, a2, a3⟩ := h
  rcases a2 with a2 | a2
  · exact a2
  · have : (0 : Int) ≤ (valN c u : Int) := Int.natCast_nonneg _
    omega
/-- Whether a number is what some code counts. -/
theorem IsCode.exact {n : Int} {u m c : Nat} (hu : 0 < u) (hm : m < 16 * u) (h : IsCode n u m c) : (∃ d, d ≤ m ∧ (valN d u : Int) = n) ↔ (0 ≤ n ∧ (valN c u : Int) = n) := by
  constructor
  · rintro ⟨d, hd, rfl⟩
    refine ⟨Int.natCast_nonneg _, ?_⟩
    rw [IsCode.uniq hu hm h (IsCode.back hu hm hd)]
  · rintro ⟨_, h1⟩
    exact ⟨c, h.1, h1⟩
/-- That code. -/
def codeN (n : Int) (u : Nat) : Nat → Nat
  | 0 => 0
  | m + 1 => if (valN (m + 1) u : Int) ≤ n then m + 1 else codeN n u m
theorem codeN_is (n : Int) (u : Nat) : ∀ m, IsCode n u m (codeN n u m)
  | 0 => ⟨Nat.le_refl _, Or.inl rfl, Or.inl rfl⟩
  | m + 1 => by
    unfold codeN
    split
    · rename_i h; exact ⟨Nat.le_refl _, Or.inr h, Or.inl rfl⟩
    · rename_i h
      obtain ⟨h1, h2, h3⟩ := codeN_is n u m
      refine ⟨Nat.le_succ_of_le h1, h2, Or.inr ?_⟩
      rcases h3 with h3 | h3
      · rw [h3]; exact Int.not_le.1 h
      · exact h3
theorem codeN_le (n : Int) (u m : Nat) : codeN n u m ≤ m := (codeN_is n u m).1
theorem codeN_uniq {n : Int} {u m c : Nat} (hu : 0 < u) (hm : m < 16 * u) (h : IsCode n u m c) : c = codeN n u m := h.uniq hu hm (codeN_is n u m)
/-- Whether a number is exact. -/
def exactN (n : Int) (u m : Nat) : Bool := decide (0 ≤ n ∧ (valN (codeN n u m) u : Int) = n)
/-- A search that halves. -/
def Halve (n : Int) (u m lo hi : Nat) : Prop := lo ≤ hi ∧ hi ≤ m ∧ (lo = 0 ∨ (valN lo u : Int) ≤ n) ∧ (hi = m ∨ n < (valN (hi + 1) u : Int))
theorem Halve.start (n : Int) (u m : Nat) : Halve n u m 0 m := ⟨Nat.zero_le _, Nat.le_refl _, Or.inl rfl, Or.inl rfl⟩
theorem Halve.up {n : Int} {u m lo hi k : Nat} (h : Halve n u m lo hi) (hk : k ≤ hi) (hv : (valN k u : Int) ≤ n) : Halve n u m k hi := ⟨hk, h.2.1, Or.inr hv, h.2.2.2⟩
theorem Halve.down {n : Int} {u m lo hi k : Nat} (h : Halve n u m lo hi) (hk : lo < k) (hk2 : k ≤ hi) (hv : ¬ (valN k u : Int) ≤ n) : Halve n u m lo (k - 1) :=
  ⟨by omega, Nat.le_trans (Nat.sub_le _ _) (Nat.le_trans hk2 h.2.1), h.2.2.1, Or.inr (by rw [Nat.sub_add_cancel (by omega)]; omega)⟩
theorem Halve.done {n : Int} {u m lo hi : Nat} (h : Halve n u m lo hi) (he : lo = hi) : IsCode n u m lo := ⟨Nat.le_trans h.1 h.2.1, h.2.2.1, by rw [he]; exact h.2.2.2⟩
end Go.Proofs.Ytgpccgcppbdlpaa

