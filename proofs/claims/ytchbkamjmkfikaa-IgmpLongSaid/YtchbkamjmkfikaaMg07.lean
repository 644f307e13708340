/-
  Texts joined: Tell, Tell2, Tell3, Tell4, Refa.
-/
import Derived.Test.YtchbkamjmkfikaaMg06
import Derived.WalkLawsBesides
import Derived.LoopTactic
import Derived.Test.YtchbkamjmkfikaaMg00
import Derived.Test.YtchbkamjmkfikaaChecked
import Derived.WalkSpells
import Derived.BigQuiet
import Derived.Deep.QuietTactic
import Derived.Deep.AppendLies
/-
  The document's own answers on one address: Group, Ssm, Zero, Good.
-/
namespace Go.Proofs.Ytchbkamjmkfikaa
open Go.RowKit
set_option linter.unusedVariables false

set_option maxRecDepth 100000 in
set_option maxHeartbeats 1000000 in
theorem rgroup_any (v : Bool) (l : List UInt8) (hl : l.length = 16) (w : World) : Calls Try.prog 66 #[.agg (addrC v l).toArray] w fun e w' => e = .returned (.bool (grpV v l)) ∧ Below w.heap.size w w' := by
  obtain ⟨b0, b1, b2, b3, b4, b5, b6, b7, b8, b9, ba, bb, bc, bd, be, bf, rfl⟩ := list16 hl
  clear hl
  show Calls Try.prog 66 #[.agg #[.bool v, .int .u8 b0.toNat, .int .u8 b1.toNat, .int .u8 b2.toNat, .int .u8 b3.toNat, .int .u8 b4.toNat, .int .u8 b5.toNat, .int .u8 b6.toNat, .int .u8 b7.toNat, .int .u8 b8.toNat, .int .u8 b9.toNat, .int .u8 ba.toNat, .int .u8 bb.toNat, .int .u8 bc.toNat, .int .u8 bd.toNat, .int .u8 be.toNat, .int .u8 bf.toNat]] w _
  cases v <;>
  · go_enter Try.func66, Try.ntmps66
    go_wp2
    all_goals
      go_ret
      exact ⟨ret_bool (by first | (simp_all [grpV, bN] <;> omega) | (rw [Bool.eq_iff_iff]; simp [grpV, bN]; omega) | (simp_all [grpV, bN]; rw [Bool.eq_iff_iff]; simp)), (Below.refl _ _).alloc (Nat.le_refl _) _⟩

/-- The bytes from a place on, up to another, are zeros. -/
def ZerS (l : List UInt8) (a k : Nat) : Prop := ∀ i (h : i < l.length), a ≤ i → i < k → l[i] = 0
theorem ZerS.start (l : List UInt8) (a : Nat) : ZerS l a a := fun i _ h1 h2 => absurd h2 (by omega)
theorem ZerS.step {l : List UInt8} {a k : Nat} (h : ZerS l a k) (hk : k < l.length) (hz : ((l[k]).toNat : Int) = 0) : ZerS l a (k + 1) := fun i hi h1 h2 => by
  by_cases e : i = k
  · subst e
    apply UInt8.toNat_inj.1
    have : (l[i]).toNat = 0 := by omega
    simpa using this
  · exact h i hi h1 (by omega)
def zeroV (l : List UInt8) : Bool := decide (l = List.replicate 16 0)
theorem zero_yes {l : List UInt8} (hl : l.length = 16) (h : ZerS l 0 16) : zeroV l = true := by
  unfold zeroV
  rw [decide_eq_true_eq]
  apply List.ext_getElem (by simp [hl])
  intro i h1 h2
  rw [List.getElem_replicate]
  exact h i h1 (by omega) (by omega)
theorem zero_no {l : List UInt8} {k : Nat} (hk : k < l.length) (h : ((l[k]).toNat : Int) ≠ 0) : zeroV l = false := by
  unfold zeroV
  rw [decide_eq_false_iff_not]
  intro e
  apply h
  have : l[k] = 0 := by
    have hk2 : k < 16 := by rw [e] at hk; simpa using hk
    have h2 : l[k]? = some 0 := by rw [e, List.getElem?_replicate, if_pos hk2]
    rw [List.getElem?_eq_getElem hk] at h2
    simpa using h2
  rw [this]; rfl
theorem good_yes {l : List UInt8} (hl : l.length = 16) (h : ZerS l 4 16) : goodV false l = true := by
  unfold goodV
  rw [Bool.false_or, decide_eq_true_eq]
  apply List.ext_getElem (by rw [ownV_length _ _ hl, hl])
  intro i h1 h2
  simp only [ownV, ownK, Bool.false_eq_true, if_false]
  by_cases h4 : i < 4
  · rw [List.getElem_append_left (by simp; omega)]; simp
  · rw [List.getElem_append_right (by simp; omega), List.getElem_append_left (by simp; omega), List.getElem_replicate]
    exact h i h1 (by omega) (by omega)
theorem good_no {l : List UInt8} {k : Nat} (hl : l.length = 16) (hk : k < l.length) (h4 : 4 ≤ k) (h : ((l[k]).toNat : Int) ≠ 0) : goodV false l = false := by
  unfold goodV
  rw [Bool.false_or, decide_eq_false_iff_not]
  intro e
  apply h
  have h2 : (ownV false l)[k]? = some 0 := by
    simp only [ownV, ownK, Bool.false_eq_true, if_false]
    rw [List.getElem?_append_right (by simp; omega), List.getElem?_append_left (by simp; omega), List.getElem?_replicate, if_pos (by simp; omega)]
  rw [← e, List.getElem?_eq_getElem hk] at h2
  have : l[k] = 0 := by simpa using h2
  rw [this]; rfl

set_option maxRecDepth 100000 in
set_option maxHeartbeats 1000000 in
theorem rgood_any (v : Bool) (l : List UInt8) (hl : l.length = 16) (w : World) : Calls Try.prog 65 #[.agg (addrC v l).toArray] w fun e w' => e = .returned (.bool (goodV v l)) ∧ Below w.heap.size w w' := by
  obtain ⟨R, hR⟩ : ∃ R, R = goodV v l := ⟨_, rfl⟩
  rw [← hR]
  have HR := Lib.hid hR; clear hR
  have HB := Lib.hid (BoxAt.made w v l hl 25)
  go_enter Try.func65, Try.ntmps65
  go_upto_region 2 with (fail)
  generalize w.alloc _ = W at HB ⊢
  have Hrow := Lib.hid HB.out.2.1
  have Hb := Lib.hid HB.out.2.2.2.2
  have k0 := HB.out.1
  clear HB
  cases v
  · go_loop [3] (fun vi => ∃ k : Nat, 4 ≤ k ∧ k ≤ 16 ∧ vi = .int .i64 (k : Int) ∧ Hid (ZerS l 4 k)) (fun vi => 16 - (intOf vi).toNat)
    case atStart => exact ⟨4, by omega, by omega, rfl, Lib.hid (ZerS.start l 4)⟩
    case round =>
      obtain ⟨k, h4, hk, rfl, hq⟩ := hrel
      by_cases hlt : k < 16
      · have hkl : k < l.length := by omega
        have H1 := Lib.hid (hq.out.step hkl)
        have H2 := Lib.hid (good_no hl hkl h4)
        have x1 := Hrow.out k hkl
        generalize ((l[k]).toNat : Int) = x at H1 H2 x1
        clear hkl
        by_cases hx : x = 0
        · subst hx
          go_wp2
          go_round
          case rel => exact ⟨k + 1, by omega, by omega, by go_num, Lib.hid (H1.out rfl)⟩
          case measure => simp [intOf]; omega
        · have g1 : (x != 0) = true := by simp [hx]
          have HX := Lib.hid hx; clear hx
          go_wp2
          go_ret
          exact ⟨ret_bool (by rw [HR.out, H2.out HX.out]), Hb.out⟩
      · obtain rfl : k = 16 := by omega
        go_wp2
        go_ret
        exact ⟨ret_bool (by rw [HR.out, good_yes hl hq.out]), Hb.out⟩
  · go_loop [3] (fun vi => ∃ k : Nat, 4 ≤ k ∧ k ≤ 16 ∧ vi = .int .i64 (k : Int)) (fun vi => 16 - (intOf vi).toNat)
    case atStart => exact ⟨4, by omega, by omega, rfl⟩
    case round =>
      obtain ⟨k, h4, hk, rfl⟩ := hrel
      by_cases hlt : k < 16
      · go_wp2
        go_round
        case rel => exact ⟨k + 1, by omega, by omega, by go_num⟩
        case measure => simp [intOf]; omega
      · obtain rfl : k = 16 := by omega
        go_wp2
        go_ret
        exact ⟨ret_bool (by rw [HR.out]; rfl), Hb.out⟩
end Go.Proofs.Ytchbkamjmkfikaa

/-
  The document's own Scope and Local; addr.Zero and addr.Many.
-/
namespace Go.Proofs.Ytchbkamjmkfikaa
open Go.RowKit
set_option linter.unusedVariables false
attribute [local go_sem ↓] ld_addr ld_b16 bld_b16
attribute [local go_sem] ldr_addr ldr_b16

/-- The boxed address. -/
def OneA (w W : World) (v : Bool) (l : List UInt8) : Prop := BoxAt w W v l ∧ GoA w W l
theorem OneA.made (w : World) (v : Bool) (l : List UInt8) (hl : l.length = 16) : OneA w (w.alloc (.cells (addrC v l).toArray 25)) v l := ⟨BoxAt.made w v l hl 25, GoA.made w v l hl⟩
theorem OneA.keep {w W W' : World} {v : Bool} {l : List UInt8} (h : OneA w W v l) (hb : Below W.heap.size W W') : OneA w W' v l := ⟨h.1.keep hb, h.2.below hb⟩
theorem OneA.facts {w W : World} {v : Bool} {l : List UInt8} (h : OneA w W v l) : W.cell? ⟨w.heap.size, 0, none⟩ = some (.bool v) ∧ row? W w.heap.size 0 17 = some (addrC v l) ∧ W.cell? ⟨w.heap.size, 1, none⟩ = some (.int .u8 (bN l 0)) ∧ W.cell? ⟨w.heap.size, 2, none⟩ = some (.int .u8 (bN l 1)) ∧ W.cell? ⟨w.heap.size, 3, none⟩ = some (.int .u8 (bN l 2)) ∧ row? W w.heap.size 1 16 = some (B8 l) := ⟨h.1.1, h.1.2.2.1, h.2.2.1, h.2.2.2.1, h.2.2.2.2.1, h.2.1⟩
theorem OneA.bel {w W : World} {v : Bool} {l : List UInt8} (h : OneA w W v l) : Below w.heap.size w W := h.1.2.2.2.2
theorem bN_bounds (l : List UInt8) (i : Nat) : 0 ≤ bN l i ∧ bN l i ≤ 255 := by
  have := (l.getD i 0).toNat_lt
  unfold bN
  omega

end Go.Proofs.Ytchbkamjmkfikaa

/-
  The document's own Local; addr.Many; addr.Ssm.
-/
namespace Go.Proofs.Ytchbkamjmkfikaa
open Go.RowKit
set_option linter.unusedVariables false
attribute [local go_sem ↓] ld_addr ld_b16 bld_b16
attribute [local go_sem] ldr_addr ldr_b16

theorem local_both (v : Bool) (l : List UInt8) : (grpV v l && decide (scpV v l < 3)) = locV v l := by
  cases v
  · rw [Bool.eq_iff_iff]
    unfold locV scpV linkV grpV
    simp only [Bool.false_eq_true, if_false, Bool.and_eq_true, decide_eq_true_eq]
    constructor
    · rintro ⟨⟨h1, h2⟩, h3⟩
      rw [if_neg (by simp [h1, h2])] at h3
      split at h3
      · assumption
      · split at h3
        · omega
        · split at h3 <;> omega
    · rintro ⟨h1, h2, h3⟩
      refine ⟨⟨by omega, by omega⟩, ?_⟩
      rw [if_neg (by simp [h1]), if_pos ⟨h1, h2, h3⟩]
      omega
  · rw [Bool.eq_iff_iff]
    unfold locV
    simp only [if_true, Bool.and_eq_true, decide_eq_true_eq]
    constructor <;> rintro ⟨h1, h2⟩ <;> exact ⟨h1, by omega⟩

/-- Whether it is several nodes'. -/
def manyV (m : List UInt8) : Bool := decide ((m.getD 0 0).toNat % 2 = 1)
theorem and_one : ∀ n : Fin 256, (bits BinOp.and IntKind.u8 (n.val : Int) 1 == 1) = decide (n.val % 2 = 1) := by decide +kernel
end Go.Proofs.Ytchbkamjmkfikaa

/-
  addr.Ssm.
-/
namespace Go.Proofs.Ytchbkamjmkfikaa
open Go.RowKit
set_option linter.unusedVariables false
attribute [local go_sem ↓] ld_addr
attribute [local go_sem] ldr_addr

theorem two_zero (a b : UInt8) : decide ([a, b] = [0, 0]) = decide ((a.toNat : Int) = 0 ∧ (b.toNat : Int) = 0) := by
  rw [Bool.eq_iff_iff]
  simp [← UInt8.toNat_inj]
end Go.Proofs.Ytchbkamjmkfikaa

/-
  The contracts of the document's own answers of layer 1: Within, Bit, power, Put, Bits.
-/
namespace Go.Proofs.Ytchbkamjmkfikaa
open Go.RowKit
set_option linter.unusedVariables false

theorem within_any (n : Int) (m : Nat) (w : World) : Calls Try.prog 91 #[.int .i64 n, .int .i64 0, .int .i64 (m : Int)] w fun e w' => e = .returned (.int .i64 (clampN n m : Int)) ∧ w = w' := by
  go_enter Try.func91, Try.ntmps91
  go_wp2
  all_goals
    go_ret
    exact ⟨ret_int (by unfold clampN; split <;> omega), rfl⟩

theorem div_pow_succ (n k : Nat) : n / 2 ^ (k + 1) = n / 2 ^ k / 2 := by rw [Nat.pow_succ, Nat.div_div_eq_div_mul]

theorem bit_any (n k : Nat) (hn : n ≤ 18446744073709551615) (hk : k ≤ 63) (w : World) : Calls Try.prog 97 #[.int .u64 n, .int .i64 k] w fun e w' => e = .returned (.int .u64 ((n / 2 ^ k % 2 : Nat) : Int)) ∧ w = w' := by
  go_enter Try.func97, Try.ntmps97
  go_wp2
  go_loop [0, 1] (fun x i => ∃ j : Nat, j ≤ k ∧ i = .int .i64 ((k - j : Nat) : Int) ∧ x = .int .u64 ((n / 2 ^ j : Nat) : Int)) (fun _ i => (intOf i).toNat)
  case atStart => exact ⟨0, Nat.zero_le _, by simp, by simp⟩
  case round =>
    obtain ⟨j, hj, rfl, rfl⟩ := hrel
    have hle : n / 2 ^ j ≤ 18446744073709551615 := Nat.le_trans (Nat.div_le_self _ _) hn
    generalize hq : n / 2 ^ j = q at hle ⊢
    have Hq := Lib.hid hq; clear hq
    by_cases hlt : j < k
    · go_wp2
      go_round
      case rel => exact ⟨j + 1, by omega, by go_num, by rw [div_pow_succ, Hq.out]; rfl⟩
      case measure => simp [intOf]; omega
    · obtain rfl : j = k := by omega
      go_wp2
      go_ret
      exact ⟨ret_int (by rw [← Hq.out]; simp), rfl⟩

theorem bits_step (n f k : Nat) : n / 2 ^ f % 2 ^ (k + 1) = n / 2 ^ f % 2 ^ k + 2 ^ k * (n / 2 ^ (f + k) % 2) := by
  rw [Nat.pow_succ, Nat.mod_mul, Nat.div_div_eq_div_mul, ← Nat.pow_add]

/-- What bits a number has from one on. -/
def bitsN (n : Nat) (from_ wide : Int) : Nat := n / 2 ^ clampN from_ 64 % 2 ^ clampN wide 64

theorem Try.info_u8' : (Try.prog.info? 5).map (fun i => (i.zero, i.size, i.bytes)) = some (some (.int .u8 0), 1, 1) := by kernel_rfl

theorem mod_step (a j : Nat) : a % 2 ^ (j + 1) = 2 * (a / 2 % 2 ^ j) + a % 2 := by
  rw [Nat.pow_succ, Nat.mul_comm, Nat.mod_mul]; omega
theorem byte_bits (n i : Nat) : (UInt8.ofNat (n / 256 ^ i)).toNat = n / 2 ^ (8 * i) % 2 ^ 8 := by
  rw [UInt8.toNat_ofNat', Nat.pow_mul]
theorem putL_take (n w j : Nat) (h : j < w) : (putL n w).take (j + 1) = (putL n w).take j ++ [UInt8.ofNat (n / 256 ^ (w - 1 - j))] := by
  induction w generalizing j with
  | zero => omega
  | succ w ih =>
    cases j with
    | zero => simp [putL]
    | succ j =>
      have := ih j (by omega)
      simp only [putL, List.take_succ_cons, List.cons_append, this]
      rw [show w + 1 - 1 - (j + 1) = w - 1 - j by omega]

set_option maxRecDepth 100000 in
set_option maxHeartbeats 1000000 in
theorem rput_any (n : Nat) (hn : n ≤ 18446744073709551615) (wide : Int) (w : World) : Calls Try.prog 79 #[.int .u64 n, .int .i64 wide] w fun e w' => e = .returned (.string (Str (putL n (clampN wide 8)))) ∧ Below w.heap.size w w' := by
  obtain ⟨i0, hi, hz0, hz1, hz2⟩ := info_parts Try.info_u8'
  generalize hW : clampN wide 8 = W
  have hW8 : W ≤ 8 := by rw [← hW]; exact clampN_le _ _
  have HW := Lib.hid hW; clear hW
  go_enter Try.func79, Try.ntmps79
  go_wp2_with fail
  refine (within_any wide 8 _).mono ?_
  rintro e w1 ⟨rfl, rfl⟩
  rw [HW.out]
  go_wp2_with fail
  go_loopw [5, 6] (fun v i wr => ∃ j : Nat, j ≤ W ∧ i = .int .i64 ((W : Int) - 1 - (j : Int)) ∧ wr.ownsRow w.heap.size 5 1 v j (B8 ((putL n W).take j)) ∧ Below w.heap.size w wr) (fun _ i _ => (intOf i + 1).toNat)
  case atStart =>
    exact ⟨0, Nat.zero_le _, by go_num, World.ownsRow_lit w #[] 0 (Nat.le_refl _) (by unfold maxLen; omega) (by simp), (Below.refl _ _).alloc (Nat.le_refl _) _⟩
  case round v _ wr =>
    obtain ⟨j, hj, rfl, hown, hbel⟩ := hrel
    have Hbel := Lib.hid hbel
    clear hbel
    by_cases hlt : j < W
    · obtain ⟨q, hq⟩ : ∃ q : Nat, (W : Int) - 1 - (j : Int) = (q : Int) := ⟨W - 1 - j, by omega⟩
      have hq7 : q ≤ 7 := by omega
      rw [hq]
      have Hq := Lib.hid hq; clear hq
      have Hown := Lib.hid hown; clear hown
      go_wp2_with fail
      go_loop [7, 8] (fun x k => ∃ m : Nat, m ≤ 8 ∧ k = .int .i64 (7 - (m : Int)) ∧ x = .int .u64 ((n / 2 ^ (8 * q + (8 - m)) % 2 ^ m : Nat) : Int)) (fun _ k => (intOf k + 1).toNat)
      case atStart => exact ⟨0, by omega, by go_num, by simp [Nat.mod_one]⟩
      case round =>
        obtain ⟨m, hm, rfl, rfl⟩ := hrel
        have hle : n / 2 ^ (8 * q + (8 - m)) % 2 ^ m ≤ 255 := by
          have h1 := Nat.mod_lt (n / 2 ^ (8 * q + (8 - m))) (show 2 ^ m > 0 from Nat.pow_pos (by omega))
          have h2 : 2 ^ m ≤ 2 ^ 8 := Nat.pow_le_pow_right (by omega) hm
          omega
        by_cases hlt2 : m < 8
        · have hst : n / 2 ^ (8 * q + (8 - (m + 1))) % 2 ^ (m + 1) = 2 * (n / 2 ^ (8 * q + (8 - m)) % 2 ^ m) + n / 2 ^ (8 * q + (7 - m)) % 2 := by
            rw [mod_step, ← div_pow_succ, show 8 * q + (8 - (m + 1)) + 1 = 8 * q + (8 - m) by omega, show 8 * q + (8 - (m + 1)) = 8 * q + (7 - m) by omega]
          have Hst := Lib.hid hst; clear hst
          generalize hx : n / 2 ^ (8 * q + (8 - m)) % 2 ^ m = x at hle Hst ⊢
          have hb := Nat.mod_lt (n / 2 ^ (8 * q + (7 - m))) (show 2 > 0 by omega)
          generalize hy : n / 2 ^ (8 * q + (7 - m)) % 2 = y at hb Hst
          have Hx := Lib.hid hx; clear hx
          have Hy := Lib.hid hy; clear hy
          go_wp2_with fail
          rw [show (8 * (q : Int) + (7 - (m : Int))) = ((8 * q + (7 - m) : Nat) : Int) by omega]
          refine (bit_any n (8 * q + (7 - m)) hn (by omega) _).mono ?_
          rintro e w1 ⟨rfl, rfl⟩
          rw [Hy.out]
          go_wp2
          go_round
          case rel => exact ⟨m + 1, by omega, by go_num, by rw [Hst.out]; go_num⟩
          case measure => simp [intOf]; omega
        · obtain rfl : m = 8 := by omega
          generalize hx : n / 2 ^ (8 * q + (8 - 8)) % 2 ^ 8 = x at hle ⊢
          have Hx := Lib.hid hx; clear hx
          have hown := Hown.out
          have hz := Hbel.out.size
          go_wp2_with (at_builtin; refine wpList_append_own _ rfl _ _ 66 rfl w.heap.size 5 i0 (.int .u8 0) 1 1 Try.underlying66 hi hz0 hz1 hz2 rfl (by decide) _ _ _ rfl (hown.alloc _) ⟨wr.heap.size, 0, none⟩ 1 1 [.int .u8 (x : Int)] rfl rfl (World.news_of_block (heap_alloc_new wr _)) (by simp [Value.oneCell']) (by unfold maxLen; omega) (by omega) (by simp; omega) ?_)
          intro v' w1 hown' hgrow _
          have Hown' := Lib.hid hown'
          have Hgrow := Lib.hid hgrow
          clear hown' hgrow hown hz
          go_wp2
          go_roundw
          case rel =>
            refine ⟨j + 1, by omega, by have := Hq.out; go_num, ?_, ?_⟩
            · have h := Hown'.out
              rw [putL_take n W j (by omega), B8_append]
              have e : UInt8.ofNat (n / 256 ^ (W - 1 - j)) = UInt8.ofNat x := by
                apply UInt8.toNat_inj.1
                have hqq : W - 1 - j = q := by have := Hq.out; omega
                rw [hqq, byte_bits, UInt8.toNat_ofNat', ← Hx.out]
                simp
              rw [e]
              have e2 : B8 [UInt8.ofNat x] = [.int .u8 (x : Int)] := by simp [B8]; omega
              rw [e2]
              exact h
            · have hz := Hbel.out.size
              exact (Hbel.out.alloc hz _).grown Hgrow.out (by simp; omega) (fun g hg => (Hown.out.lt g hg).1)
          case measure => have := Hq.out; simp [intOf]
    · have hjW : j = W := by omega
      subst hjW
      rw [List.take_of_length_le (by rw [putL_length]; omega)] at hown
      have hcv := run_string_own 66 9 5 Try.underlying66 Try.underlying5 Try.underlying9 hown
      go_wp2
      go_ret
      exact ⟨by simp, Hbel.out⟩

theorem num_round (m : Nat) (c : UInt8) : IntKind.u64.wrap (IntKind.u64.wrap (256 * (m : Int)) + IntKind.u64.wrap (c.toNat : Int)) = (((m * 256 + c.toNat) % 18446744073709551616 : Nat) : Int) := by
  have hc := c.toNat_lt
  simp only [IntKind.wrap_u64]
  omega

set_option maxHeartbeats 400000 in
theorem rnum_any (s : ByteArray) (hs : s.size ≤ maxLen) (w : World) : Calls Try.prog 60 #[.string s] w fun e w' => e = .returned (.int .u64 (num s.data.toList)) ∧ w = w' := by
  unfold maxLen at hs
  go_enter Try.func60, Try.ntmps60
  go_wp2
  go_loop [3, 4] (fun n i => ∃ k : Nat, k ≤ s.size ∧ i = .int .i64 k ∧ n = .int .u64 (num (s.data.toList.take k))) (fun _ i => s.size - (intOf i).toNat)
  case atStart => exact ⟨0, Nat.zero_le _, rfl, rfl⟩
  case round =>
    obtain ⟨k, hk, rfl, rfl⟩ := hrel
    by_cases hlt : k < s.size
    · have Hs := Lib.hid (take_snoc s k hlt)
      generalize hm : num (s.data.toList.take k) = m
      have Hm := Lib.hid hm; clear hm
      go_wp2
      go_round
      case rel => exact ⟨k + 1, by omega, by go_num, by rw [num_round, Hs.out, num_snoc, Hm.out]⟩
      case measure => simp [intOf]; omega
    · go_wp2
      go_ret
      exact ⟨ret_int (by rw [List.take_of_length_le (by simp; omega)]), rfl⟩

/-- What Cut leaves of a text. -/
def cutB (s : ByteArray) (m : Nat) : ByteArray := if s.size ≤ m then s else s.extract 0 m
theorem cutB_size (s : ByteArray) (m : Nat) : (cutB s m).size ≤ m := by
  unfold cutB; split
  · assumption
  · simp; omega
theorem cut_any (s : ByteArray) (hs : s.size ≤ maxLen) (m : Nat) (hm : m ≤ 1000000) (w : World) : Calls Try.prog 5 #[.string s, .int .i64 m] w fun e w' => e = .returned (.string (cutB s m)) ∧ w = w' := by
  unfold maxLen at hs
  by_cases h : s.size ≤ m
  · have HC := Lib.hid (show cutB s m = s by unfold cutB; rw [if_pos h])
    go_enter Try.func5, Try.ntmps5
    go_wp2
    go_ret
    exact ⟨by rw [HC.out]; rfl, rfl⟩
  · have HC := Lib.hid (show cutB s m = s.extract 0 m by unfold cutB; rw [if_neg h])
    go_enter Try.func5, Try.ntmps5
    go_wp2
    go_ret
    exact ⟨by rw [HC.out]; rfl, rfl⟩
end Go.Proofs.Ytchbkamjmkfikaa

