/-
  Texts joined: Tell, Tell2, Tell3, Tell4, Refa, Rbytes, PureCode.
-/
import Derived.Test.YtgpccgcppbdlpaaGreatMg03
import Derived.WalkLawsBesides
import Derived.LoopTactic
import Derived.Test.YtgpccgcppbdlpaaGreatMg00
import Derived.Test.YtgpccgcppbdlpaaGreatChecked
import Derived.WalkSpells
import Derived.BigQuiet
import Derived.Deep.QuietTactic
import Derived.Deep.AppendLies
/-
  The document's own answers on one address: Group, Ssm, Zero, Good.
-/
namespace Go.Proofs.YtgpccgcppbdlpaaGreat
open Go.RowKit
set_option linter.unusedVariables false

set_option maxRecDepth 100000 in
set_option maxHeartbeats 1000000 in
theorem rgroup_any (v : Bool) (l : List UInt8) (hl : l.length = 16) (w : World) : Calls Tryz.prog 76 #[.agg (addrC v l).toArray] w fun e w' => e = .returned (.bool (grpV v l)) ∧ Below w.heap.size w w' := by
  obtain ⟨b0, b1, b2, b3, b4, b5, b6, b7, b8, b9, ba, bb, bc, bd, be, bf, rfl⟩ := list16 hl
  clear hl
  show Calls Tryz.prog 76 #[.agg #[.bool v, .int .u8 b0.toNat, .int .u8 b1.toNat, .int .u8 b2.toNat, .int .u8 b3.toNat, .int .u8 b4.toNat, .int .u8 b5.toNat, .int .u8 b6.toNat, .int .u8 b7.toNat, .int .u8 b8.toNat, .int .u8 b9.toNat, .int .u8 ba.toNat, .int .u8 bb.toNat, .int .u8 bc.toNat, .int .u8 bd.toNat, .int .u8 be.toNat, .int .u8 bf.toNat]] w _
  cases v <;>
  · go_enter Tryz.func76, Tryz.ntmps76
    go_wp2
    all_goals
      go_ret
      exact ⟨ret_bool (by first | (simp_all [grpV, bN] <;> omega) | (rw [Bool.eq_iff_iff]; simp [grpV, bN]; omega) | (simp_all [grpV, bN]; rw [Bool.eq_iff_iff]; simp)), (Below.refl _ _).alloc (Nat.le_refl _) _⟩

/-- The bytes from a place on, up to another, are zeros. -/
def ZerS (l : List UInt8) (a k : Nat) : Prop := ∀ i (h : i < l.length), a ≤ i → i < k → l[i] = 0
theorem ZerS.start (l : List UInt8) (a : Nat) : ZerS l a a := fun i _ h1 h2 => absurd h2 (by omega)
theorem ZerS.step {l : List UInt8} {a k : Nat} (h : ZerS l a k) (hk : k < l.length) (hz : ((l[k]).toNat : Int) = 0) : ZerS l a (k + 1) := fun i hi h1 h2 => by
  by_cases e : i = k
  · subst e
    apply UInt8.toNat_inj.1
    have : (l[i]).toNat = 0 := by omega
    simpa using this
  · exact h i hi h1 (by omega)
def zeroV (l : List UInt8) : Bool := decide (l = List.replicate 16 0)
theorem zero_yes {l : List UInt8} (hl : l.length = 16) (h : ZerS l 0 16) : zeroV l = true := by
  unfold zeroV
  rw [decide_eq_true_eq]
  apply List.ext_getElem (by simp [hl])
  intro i h1 h2
  rw [List.getElem_replicate]
  exact h i h1 (by omega) (by omega)
theorem zero_no {l : List UInt8} {k : Nat} (hk : k < l.length) (h : ((l[k]).toNat : Int) ≠ 0) : zeroV l = false := by
  unfold zeroV
  rw [decide_eq_false_iff_not]
  intro e
  apply h
  have : l[k] = 0 := by
    have hk2 : k < 16 := by rw [e] at hk; simpa using hk
    have h2 : l[k]? = some 0 := by rw [e, List.getElem?_replicate, if_pos hk2]
    rw [List.getElem?_eq_getElem hk] at h2
    simpa using h2
  rw [this]; rfl
set_option maxRecDepth 100000 in
set_option maxHeartbeats 1000000 in
theorem rzero_any (v : Bool) (l : List UInt8) (hl : l.length = 16) (w : World) : Calls Tryz.prog 36 #[.agg (addrC v l).toArray] w fun e w' => e = .returned (.bool (zeroV l)) ∧ Below w.heap.size w w' := by
  obtain ⟨R, hR⟩ : ∃ R, R = zeroV l := ⟨_, rfl⟩
  rw [← hR]
  have HR := Lib.hid hR; clear hR
  have HB := Lib.hid (BoxAt.made w v l hl 24)
  go_enter Tryz.func36, Tryz.ntmps36
  go_upto_region 2 with (fail)
  generalize w.alloc _ = W at HB ⊢
  have Hrow := Lib.hid HB.out.2.1
  have Hb := Lib.hid HB.out.2.2.2.2
  clear HB
  go_loop [3] (fun vi => ∃ k : Nat, k ≤ 16 ∧ vi = .int .i64 (k : Int) ∧ Hid (ZerS l 0 k)) (fun vi => 16 - (intOf vi).toNat)
  case atStart => exact ⟨0, by omega, rfl, Lib.hid (ZerS.start l 0)⟩
  case round =>
    obtain ⟨k, hk, rfl, hq⟩ := hrel
    by_cases hlt : k < 16
    · have hkl : k < l.length := by omega
      have H1 := Lib.hid (hq.out.step hkl)
      have H2 := Lib.hid (zero_no hkl)
      have x1 := Hrow.out k hkl
      generalize ((l[k]).toNat : Int) = x at H1 H2 x1
      clear hkl
      by_cases hx : x = 0
      · subst hx
        go_wp2
        go_round
        case rel => exact ⟨k + 1, by omega, by go_num, Lib.hid (H1.out rfl)⟩
        case measure => simp [intOf]; omega
      · have g1 : (x != 0) = true := by simp [hx]
        have HX := Lib.hid hx; clear hx
        go_wp2
        go_ret
        exact ⟨ret_bool (by rw [HR.out, H2.out HX.out]), Hb.out⟩
    · obtain rfl : k = 16 := by omega
      go_wp2
      go_ret
      exact ⟨ret_bool (by rw [HR.out, zero_yes hl hq.out]), Hb.out⟩

end Go.Proofs.YtgpccgcppbdlpaaGreat

/-
  The document's own Scope and Local; addr.Zero and addr.Many.
-/
namespace Go.Proofs.YtgpccgcppbdlpaaGreat
open Go.RowKit
set_option linter.unusedVariables false
attribute [local go_sem ↓] ld_addr ld_b16 bld_b16
attribute [local go_sem] ldr_addr ldr_b16

/-- The boxed address. -/
def OneA (w W : World) (v : Bool) (l : List UInt8) : Prop := BoxAt w W v l ∧ GoA w W l
theorem OneA.made (w : World) (v : Bool) (l : List UInt8) (hl : l.length = 16) : OneA w (w.alloc (.cells (addrC v l).toArray 24)) v l := ⟨BoxAt.made w v l hl 24, GoA.made w v l hl⟩
theorem OneA.keep {w W W' : World} {v : Bool} {l : List UInt8} (h : OneA w W v l) (hb : Below W.heap.size W W') : OneA w W' v l := ⟨h.1.keep hb, h.2.below hb⟩
theorem OneA.bel {w W : World} {v : Bool} {l : List UInt8} (h : OneA w W v l) : Below w.heap.size w W := h.1.2.2.2.2
end Go.Proofs.YtgpccgcppbdlpaaGreat

/-
  The document's own Local; addr.Many; addr.Ssm.
-/
namespace Go.Proofs.YtgpccgcppbdlpaaGreat
open Go.RowKit
set_option linter.unusedVariables false
attribute [local go_sem ↓] ld_addr ld_b16 bld_b16
attribute [local go_sem] ldr_addr ldr_b16

end Go.Proofs.YtgpccgcppbdlpaaGreat

/-
  addr.Ssm.
-/
namespace Go.Proofs.YtgpccgcppbdlpaaGreat
open Go.RowKit
set_option linter.unusedVariables false
attribute [local go_sem ↓] ld_addr
attribute [local go_sem] ldr_addr

end Go.Proofs.YtgpccgcppbdlpaaGreat

/-
  The contracts of the document's own answers of layer 1: Within, Bit, power, Put, Bits.
-/
namespace Go.Proofs.YtgpccgcppbdlpaaGreat
open Go.RowKit
set_option linter.unusedVariables false

theorem within_any (n : Int) (m : Nat) (w : World) : Calls Tryz.prog 78 #[.int .i64 n, .int .i64 0, .int .i64 (m : Int)] w fun e w' => e = .returned (.int .i64 (clampN n m : Int)) ∧ w = w' := by
  go_enter Tryz.func78, Tryz.ntmps78
  go_wp2
  all_goals
    go_ret
    exact ⟨ret_int (by unfold clampN; split <;> omega), rfl⟩

theorem div_pow_succ (n k : Nat) : n / 2 ^ (k + 1) = n / 2 ^ k / 2 := by rw [Nat.pow_succ, Nat.div_div_eq_div_mul]

theorem bit_any (n k : Nat) (hn : n ≤ 18446744073709551615) (hk : k ≤ 63) (w : World) : Calls Tryz.prog 106 #[.int .u64 n, .int .i64 k] w fun e w' => e = .returned (.int .u64 ((n / 2 ^ k % 2 : Nat) : Int)) ∧ w = w' := by
  go_enter Tryz.func106, Tryz.ntmps106
  go_wp2
  go_loop [0, 1] (fun x i => ∃ j : Nat, j ≤ k ∧ i = .int .i64 ((k - j : Nat) : Int) ∧ x = .int .u64 ((n / 2 ^ j : Nat) : Int)) (fun _ i => (intOf i).toNat)
  case atStart => exact ⟨0, Nat.zero_le _, by simp, by simp⟩
  case round =>
    obtain ⟨j, hj, rfl, rfl⟩ := hrel
    have hle : n / 2 ^ j ≤ 18446744073709551615 := Nat.le_trans (Nat.div_le_self _ _) hn
    generalize hq : n / 2 ^ j = q at hle ⊢
    have Hq := Lib.hid hq; clear hq
    by_cases hlt : j < k
    · go_wp2
      go_round
      case rel => exact ⟨j + 1, by omega, by go_num, by rw [div_pow_succ, Hq.out]; rfl⟩
      case measure => simp [intOf]; omega
    · obtain rfl : j = k := by omega
      go_wp2
      go_ret
      exact ⟨ret_int (by rw [← Hq.out]; simp), rfl⟩

/-- What bits a number has from one on. -/
def bitsN (n : Nat) (from_ wide : Int) : Nat := n / 2 ^ clampN from_ 64 % 2 ^ clampN wide 64

theorem Tryz.info_u8' : (Tryz.prog.info? 5).map (fun i => (i.zero, i.size, i.bytes)) = some (some (.int .u8 0), 1, 1) := by kernel_rfl

theorem mod_step (a j : Nat) : a % 2 ^ (j + 1) = 2 * (a / 2 % 2 ^ j) + a % 2 := by
  rw [Nat.pow_succ, Nat.mul_comm, Nat.mod_mul]; omega
theorem byte_bits (n i : Nat) : (UInt8.ofNat (n / 256 ^ i)).toNat = n / 2 ^ (8 * i) % 2 ^ 8 := by
  rw [UInt8.toNat_ofNat', Nat.pow_mul]
theorem putL_take (n w j : Nat) (h : j < w) : (putL n w).take (j + 1) = (putL n w).take j ++ [UInt8.ofNat (n / 256 ^ (w - 1 - j))] := by
  induction w generalizing j with
  | zero => omega
  | succ w ih =>
    cases j with
    | zero => simp [putL]
    | succ j =>
      have := ih j (by omega)
      simp only [putL, List.take_succ_cons, List.cons_append, this]
      rw [show w + 1 - 1 - (j + 1) = w - 1 - j by omega]

set_option maxRecDepth 100000 in
set_option maxHeartbeats 1000000 in
theorem rput_any (n : Nat) (hn : n ≤ 18446744073709551615) (wide : Int) (w : World) : Calls Tryz.prog 87 #[.int .u64 n, .int .i64 wide] w fun e w' => e = .returned (.string (Str (putL n (clampN wide 8)))) ∧ Below w.heap.size w w' := by
  obtain ⟨i0, hi, hz0, hz1, hz2⟩ := info_parts Tryz.info_u8'
  generalize hW : clampN wide 8 = W
  have hW8 : W ≤ 8 := by rw [← hW]; exact clampN_le _ _
  have HW := Lib.hid hW; clear hW
  go_enter Tryz.func87, Tryz.ntmps87
  go_wp2_with fail
  refine (within_any wide 8 _).mono ?_
  rintro e w1 ⟨rfl, rfl⟩
  rw [HW.out]
  go_wp2_with fail
  go_loopw [5, 6] (fun v i wr => ∃ j : Nat, j ≤ W ∧ i = .int .i64 ((W : Int) - 1 - (j : Int)) ∧ wr.ownsRow w.heap.size 5 1 v j (B8 ((putL n W).take j)) ∧ Below w.heap.size w wr) (fun _ i _ => (intOf i + 1).toNat)
  case atStart =>
    exact ⟨0, Nat.zero_le _, by go_num, World.ownsRow_lit w #[] 0 (Nat.le_refl _) (by unfold maxLen; omega) (by simp), (Below.refl _ _).alloc (Nat.le_refl _) _⟩
  case round v _ wr =>
    obtain ⟨j, hj, rfl, hown, hbel⟩ := hrel
    have Hbel := Lib.hid hbel
    clear hbel
    by_cases hlt : j < W
    · obtain ⟨q, hq⟩ : ∃ q : Nat, (W : Int) - 1 - (j : Int) = (q : Int) := ⟨W - 1 - j, by omega⟩
      have hq7 : q ≤ 7 := by omega
      rw [hq]
      have Hq := Lib.hid hq; clear hq
      have Hown := Lib.hid hown; clear hown
      go_wp2_with fail
      go_loop [7, 8] (fun x k => ∃ m : Nat, m ≤ 8 ∧ k = .int .i64 (7 - (m : Int)) ∧ x = .int .u64 ((n / 2 ^ (8 * q + (8 - m)) % 2 ^ m : Nat) : Int)) (fun _ k => (intOf k + 1).toNat)
      case atStart => exact ⟨0, by omega, by go_num, by simp [Nat.mod_one]⟩
      case round =>
        obtain ⟨m, hm, rfl, rfl⟩ := hrel
        have hle : n / 2 ^ (8 * q + (8 - m)) % 2 ^ m ≤ 255 := by
          have h1 := Nat.mod_lt (n / 2 ^ (8 * q + (8 - m))) (show 2 ^ m > 0 from Nat.pow_pos (by omega))
          have h2 : 2 ^ m ≤ 2 ^ 8 := Nat.pow_le_pow_right (by omega) hm
          omega
        by_cases hlt2 : m < 8
        · have hst : n / 2 ^ (8 * q + (8 - (m + 1))) % 2 ^ (m + 1) = 2 * (n / 2 ^ (8 * q + (8 - m)) % 2 ^ m) + n / 2 ^ (8 * q + (7 - m)) % 2 := by
            rw [mod_step, ← div_pow_succ, show 8 * q + (8 - (m + 1)) + 1 = 8 * q + (8 - m) by omega, show 8 * q + (8 - (m + 1)) = 8 * q + (7 - m) by omega]
          have Hst := Lib.hid hst; clear hst
          generalize hx : n / 2 ^ (8 * q + (8 - m)) % 2 ^ m = x at hle Hst ⊢
          have hb := Nat.mod_lt (n / 2 ^ (8 * q + (7 - m))) (show 2 > 0 by omega)
          generalize hy : n / 2 ^ (8 * q + (7 - m)) % 2 = y at hb Hst
          have Hx := Lib.hid hx; clear hx
          have Hy := Lib.hid hy; clear hy
          go_wp2_with fail
          rw [show (8 * (q : Int) + (7 - (m : Int))) = ((8 * q + (7 - m) : Nat) : Int) by omega]
          refine (bit_any n (8 * q + (7 - m)) hn (by omega) _).mono ?_
          rintro e w1 ⟨rfl, rfl⟩
          rw [Hy.out]
          go_wp2
          go_round
          case rel => exact ⟨m + 1, by omega, by go_num, by rw [Hst.out]; go_num⟩
          case measure => simp [intOf]; omega
        · obtain rfl : m = 8 := by omega
          generalize hx : n / 2 ^ (8 * q + (8 - 8)) % 2 ^ 8 = x at hle ⊢
          have Hx := Lib.hid hx; clear hx
          have hown := Hown.out
          have hz := Hbel.out.size
          go_wp2_with (at_builtin; refine wpList_append_own _ rfl _ _ 83 rfl w.heap.size 5 i0 (.int .u8 0) 1 1 Tryz.underlying83 hi hz0 hz1 hz2 rfl (by decide) _ _ _ rfl (hown.alloc _) ⟨wr.heap.size, 0, none⟩ 1 1 [.int .u8 (x : Int)] rfl rfl (World.news_of_block (heap_alloc_new wr _)) (by simp [Value.oneCell']) (by unfold maxLen; omega) (by omega) (by simp; omega) ?_)
          intro v' w1 hown' hgrow _
          have Hown' := Lib.hid hown'
          have Hgrow := Lib.hid hgrow
          clear hown' hgrow hown hz
          go_wp2
          go_roundw
          case rel =>
            refine ⟨j + 1, by omega, by have := Hq.out; go_num, ?_, ?_⟩
            · have h := Hown'.out
              rw [putL_take n W j (by omega), B8_append]
              have e : UInt8.ofNat (n / 256 ^ (W - 1 - j)) = UInt8.ofNat x := by
                apply UInt8.toNat_inj.1
                have hqq : W - 1 - j = q := by have := Hq.out; omega
                rw [hqq, byte_bits, UInt8.toNat_ofNat', ← Hx.out]
                simp
              rw [e]
              have e2 : B8 [UInt8.ofNat x] = [.int .u8 (x : Int)] := by simp [B8]; omega
              rw [e2]
              exact h
            · have hz := Hbel.out.size
              exact (Hbel.out.alloc hz _).grown Hgrow.out (by simp; omega) (fun g hg => (Hown.out.lt g hg).1)
          case measure => have := Hq.out; simp [intOf]
    · have hjW : j = W := by omega
      subst hjW
      rw [List.take_of_length_le (by rw [putL_length]; omega)] at hown
      have hcv := run_string_own 83 9 5 Tryz.underlying83 Tryz.underlying5 Tryz.underlying9 hown
      go_wp2
      go_ret
      exact ⟨by simp, Hbel.out⟩

theorem num_round (m : Nat) (c : UInt8) : IntKind.u64.wrap (IntKind.u64.wrap (256 * (m : Int)) + IntKind.u64.wrap (c.toNat : Int)) = (((m * 256 + c.toNat) % 18446744073709551616 : Nat) : Int) := by
  have hc := c.toNat_lt
  simp only [IntKind.wrap_u64]
  omega

set_option maxHeartbeats 400000 in
theorem rnum_any (s : ByteArray) (hs : s.size ≤ maxLen) (w : World) : Calls Tryz.prog 88 #[.string s] w fun e w' => e = .returned (.int .u64 (num s.data.toList)) ∧ w = w' := by
  unfold maxLen at hs
  go_enter Tryz.func88, Tryz.ntmps88
  go_wp2
  go_loop [3, 4] (fun n i => ∃ k : Nat, k ≤ s.size ∧ i = .int .i64 k ∧ n = .int .u64 (num (s.data.toList.take k))) (fun _ i => s.size - (intOf i).toNat)
  case atStart => exact ⟨0, Nat.zero_le _, rfl, rfl⟩
  case round =>
    obtain ⟨k, hk, rfl, rfl⟩ := hrel
    by_cases hlt : k < s.size
    · have Hs := Lib.hid (take_snoc s k hlt)
      generalize hm : num (s.data.toList.take k) = m
      have Hm := Lib.hid hm; clear hm
      go_wp2
      go_round
      case rel => exact ⟨k + 1, by omega, by go_num, by rw [num_round, Hs.out, num_snoc, Hm.out]⟩
      case measure => simp [intOf]; omega
    · go_wp2
      go_ret
      exact ⟨ret_int (by rw [List.take_of_length_le (by simp; omega)]), rfl⟩

end Go.Proofs.YtgpccgcppbdlpaaGreat

/-
  The document's own Bytes.
-/
namespace Go.Proofs.YtgpccgcppbdlpaaGreat
open Go.RowKit
set_option linter.unusedVariables false

set_option maxRecDepth 100000 in
set_option maxHeartbeats 2000000 in
theorem rbytes_any (v : Bool) (l : List UInt8) (hl : l.length = 16) (w : World) : Calls Tryz.prog 49 #[.agg (addrC v l).toArray] w fun e w' => e = .returned (.string (Str (bytesV v l))) ∧ Below w.heap.size w w' := by
  obtain ⟨i0, hi, hz0, hz1, hz2⟩ := info_parts Tryz.info_u8'
  have HB := Lib.hid (BoxAt.made w v l hl 24)
  go_enter Tryz.func49, Tryz.ntmps49
  go_upto_region 1 with (fail)
  generalize w.alloc _ = W at HB ⊢
  have k0 := HB.out.1
  have Hrow := Lib.hid HB.out.2.1
  have Hlt := Lib.hid HB.out.2.2.2.1
  have Hb := Lib.hid HB.out.2.2.2.2
  clear HB
  obtain ⟨c0⟩ : Nonempty (∀ wr, Below W.heap.size W wr → wr.cell? ⟨w.heap.size, 0, none⟩ = some (.bool v)) := ⟨fun wr hb => (hb.cell (p := ⟨w.heap.size, 0, none⟩) Hlt.out).trans k0⟩
  have HC := Lib.hid c0; clear c0
  have hkk : ∃ N : Nat, N = (if v then 16 else 4) := ⟨_, rfl⟩
  clear hkk
  have c0 := HC.out (W.alloc (.cells #[] 5)) ((Below.refl _ _).alloc (Nat.le_refl _) _)
  cases v
  · go_wp2_with fail
    go_loopw [3, 5] (fun s i wr => ∃ k : Nat, k ≤ 4 ∧ i = .int .i64 (k : Int) ∧ wr.ownsRow W.heap.size 5 1 s k (B8 (l.take k)) ∧ Hid (Below W.heap.size W wr)) (fun _ i _ => 16 - (intOf i).toNat)
    case atStart => exact ⟨0, by omega, rfl, World.ownsRow_lit W #[] 0 (Nat.le_refl _) (by unfold maxLen; omega) (by simp), Lib.hid ((Below.refl _ _).alloc (Nat.le_refl _) _)⟩
    case round =>
      obtain ⟨k, hk, rfl, hown, hbel⟩ := hrel
      by_cases hlt : k < 4
      · have hkl : k < l.length := by omega
        have x1 : wr.cell? ⟨w.heap.size, 1 + k, none⟩ = some (.int .u8 ((l[k]).toNat : Int)) := (hbel.out.cell (p := ⟨w.heap.size, 1 + k, none⟩) Hlt.out).trans (Hrow.out k hkl)
        have Hst := Lib.hid (show B8 (l.take (k + 1)) = B8 (l.take k) ++ [.int .u8 ((l[k]).toNat : Int)] by rw [List.take_succ_eq_append_getElem hkl, B8_append]; rfl)
        have Hown := Lib.hid hown; clear hown
        generalize ((l[k]).toNat : Int) = x at x1 Hst
        clear hkl
        have hz := hbel.out.size
        have hown := Hown.out
        go_wp2_with (at_builtin; refine wpList_append_own _ rfl _ _ 83 rfl W.heap.size 5 i0 (.int .u8 0) 1 1 Tryz.underlying83 hi hz0 hz1 hz2 rfl (by decide) _ _ _ rfl (hown.alloc _) ⟨wr.heap.size, 0, none⟩ 1 1 [.int .u8 x] rfl rfl (World.news_of_block (heap_alloc_new wr _)) (by simp [Value.oneCell']) (by unfold maxLen; omega) (by omega) (by simp; omega) ?_)
        intro v' w1 hown' hgrow _
        have Hown' := Lib.hid hown'
        have Hgrow := Lib.hid hgrow
        clear hown' hgrow hown hz
        go_wp2
        go_roundw
        case rel =>
          refine ⟨k + 1, by omega, by go_num, ?_, ?_⟩
          · rw [Hst.out]; exact Hown'.out
          · have hz := hbel.out.size
            exact Lib.hid ((hbel.out.alloc hz _).grown Hgrow.out (by simp; omega) (fun g hg => (Hown.out.lt g hg).1))
        case measure => simp [intOf]; omega
      · obtain rfl : k = 4 := by omega
        have hcv := run_string_own 83 9 5 Tryz.underlying83 Tryz.underlying5 Tryz.underlying9 hown
        clear hown
        go_wp2
        go_ret
        exact ⟨rfl, bstep Hb.out hbel.out⟩
  · go_wp2_with fail
    go_loopw [3, 5] (fun s i wr => ∃ k : Nat, k ≤ 16 ∧ i = .int .i64 (k : Int) ∧ wr.ownsRow W.heap.size 5 1 s k (B8 (l.take k)) ∧ Hid (Below W.heap.size W wr)) (fun _ i _ => 16 - (intOf i).toNat)
    case atStart => exact ⟨0, by omega, rfl, World.ownsRow_lit W #[] 0 (Nat.le_refl _) (by unfold maxLen; omega) (by simp), Lib.hid ((Below.refl _ _).alloc (Nat.le_refl _) _)⟩
    case round =>
      obtain ⟨k, hk, rfl, hown, hbel⟩ := hrel
      by_cases hlt : k < 16
      · have hkl : k < l.length := by omega
        have x1 : wr.cell? ⟨w.heap.size, 1 + k, none⟩ = some (.int .u8 ((l[k]).toNat : Int)) := (hbel.out.cell (p := ⟨w.heap.size, 1 + k, none⟩) Hlt.out).trans (Hrow.out k hkl)
        have Hst := Lib.hid (show B8 (l.take (k + 1)) = B8 (l.take k) ++ [.int .u8 ((l[k]).toNat : Int)] by rw [List.take_succ_eq_append_getElem hkl, B8_append]; rfl)
        have Hown := Lib.hid hown; clear hown
        generalize ((l[k]).toNat : Int) = x at x1 Hst
        clear hkl
        have hz := hbel.out.size
        have hown := Hown.out
        go_wp2_with (at_builtin; refine wpList_append_own _ rfl _ _ 83 rfl W.heap.size 5 i0 (.int .u8 0) 1 1 Tryz.underlying83 hi hz0 hz1 hz2 rfl (by decide) _ _ _ rfl (hown.alloc _) ⟨wr.heap.size, 0, none⟩ 1 1 [.int .u8 x] rfl rfl (World.news_of_block (heap_alloc_new wr _)) (by simp [Value.oneCell']) (by unfold maxLen; omega) (by omega) (by simp; omega) ?_)
        intro v' w1 hown' hgrow _
        have Hown' := Lib.hid hown'
        have Hgrow := Lib.hid hgrow
        clear hown' hgrow hown hz
        go_wp2
        go_roundw
        case rel =>
          refine ⟨k + 1, by omega, by go_num, ?_, ?_⟩
          · rw [Hst.out]; exact Hown'.out
          · have hz := hbel.out.size
            exact Lib.hid ((hbel.out.alloc hz _).grown Hgrow.out (by simp; omega) (fun g hg => (Hown.out.lt g hg).1))
        case measure => simp [intOf]; omega
      · obtain rfl : k = 16 := by omega
        rw [List.take_of_length_le (by omega)] at hown
        have hcv := run_string_own 83 9 5 Tryz.underlying83 Tryz.underlying5 Tryz.underlying9 hown
        clear hown
        go_wp2
        go_ret
        exact ⟨rfl, bstep Hb.out hbel.out⟩
end Go.Proofs.YtgpccgcppbdlpaaGreat

/-
  Codes of times, plain: what a code counts, that it grows, and the greatest code that counts no more than a number. Nothing of the program.
-/
namespace Go.Proofs.YtgpccgcppbdlpaaGreat
set_option linter.unusedVariables false

/-- What a code counts. -/
def valN (c u : Nat) : Nat := if c < 8 * u then c else (c % u + u) * 2 ^ (c / u % 8 + 3)
theorem valN_small {c u : Nat} (h : c < 8 * u) : valN c u = c := by unfold valN; rw [if_pos h]
/-- The pieces of a code of 16 parts. -/
theorem valN_piece (c u m q : Nat) (hu : 0 < u) (hc : c = q * u + m) (hm : m < u) (h8 : 8 ≤ q) (h16 : q < 16) : valN c u = (m + u) * 2 ^ (q - 5) := by
  have hq : c / u = q := by
    rw [hc]; exact Nat.div_eq_of_lt_le (by omega) (by rw [Nat.succ_mul]; omega)
  have hr : c % u = m := by
    rw [hc, Nat.mul_comm, Nat.mul_add_mod, Nat.mod_eq_of_lt hm]
  have h1 : ¬ c < 8 * u := by
    have : 8 * u ≤ q * u := Nat.mul_le_mul_right u h8
    omega
  unfold valN
  rw [if_neg h1, hq, hr]
  congr 2
  omega
theorem valN_step (c u : Nat) (hu : 0 < u) (h : c + 1 < 16 * u) : valN c u < valN (c + 1) u := by
  by_cases h1 : c + 1 < 8 * u
  · rw [valN_small h1, valN_small (by omega)]; omega
  by_cases h2 : c < 8 * u
  · have hc : c + 1 = 8 * u := by omega
    rw [valN_small h2, valN_piece (c + 1) u 0 8 hu (by omega) hu (by omega) (by omega)]
    omega
  · have hq8 : 8 ≤ c / u := (Nat.le_div_iff_mul_le hu).2 (by omega)
    have hq16 : c / u < 16 := (Nat.div_lt_iff_lt_mul hu).2 (by omega)
    have hm : c % u < u := Nat.mod_lt _ hu
    have hc : c = c / u * u + c % u := by rw [Nat.mul_comm]; exact (Nat.div_add_mod c u).symm
    generalize c / u = q at *
    generalize c % u = m at *
    rw [valN_piece c u m q hu hc hm hq8 hq16]
    by_cases h3 : m + 1 < u
    · rw [valN_piece (c + 1) u (m + 1) q hu (by omega) h3 hq8 hq16]
      exact Nat.mul_lt_mul_of_pos_right (by omega) (Nat.two_pow_pos _)
    · have hm1 : m + 1 = u := by omega
      have hq15 : q + 1 < 16 := by
        refine Decidable.byContradiction fun hn => ?_
        have : q = 15 := by omega
        subst this
        omega
      rw [valN_piece (c + 1) u 0 (q + 1) hu (by rw [Nat.succ_mul]; omega) hu (by omega) hq15]
      rw [show q + 1 - 5 = q - 5 + 1 by omega, Nat.pow_succ, ← Nat.mul_assoc, Nat.mul_comm _ 2, ← Nat.mul_assoc]
      exact Nat.mul_lt_mul_of_pos_right (by omega) (Nat.two_pow_pos _)
theorem valN_lt (u : Nat) (hu : 0 < u) : ∀ (d c : Nat), c + d + 1 < 16 * u → valN c u < valN (c + d + 1) u
  | 0, c, h => valN_step c u hu h
  | d + 1, c, h => Nat.lt_trans (valN_lt u hu d c (by omega)) (valN_step (c + d + 1) u hu (by omega))
theorem valN_mono {u : Nat} (hu : 0 < u) {a b : Nat} (hab : a < b) (hb : b < 16 * u) : valN a u < valN b u := by
  have := valN_lt u hu (b - a - 1) a (by omega)
  rwa [show a + (b - a - 1) + 1 = b by omega] at this
theorem valN_zero (u : Nat) (hu : 0 < u) : valN 0 u = 0 := valN_small (by omega)
/-- The greatest code up to m that counts no more than n, or 0. -/
def IsCode (n : Int) (u m c : Nat) : Prop := c ≤ m ∧ (c = 0 ∨ (valN c u : Int) ≤ n) ∧ (c = m ∨ n < (valN (c + 1) u : Int))
theorem IsCode.uniq {n : Int} {u m c d : Nat} (hu : 0 < u) (hm : m < 16 * u) (h : IsCode n u m c) (k : IsCode n u m d) : c = d := by
  obtain ⟨a1, a2, a3⟩ := h
  obtain ⟨b1, b2, b3⟩ := k
  have key : ∀ x y : Nat, x ≤ m → y ≤ m → (y = 0 ∨ (valN y u : Int) ≤ n) → (x = m ∨ n < (valN (x + 1) u : Int)) → y ≤ x := by
    intro x y hx hy h1 h2
    refine Decidable.byContradiction fun hn => ?_
    have hxy : x + 1 ≤ y := by omega
    rcases h1 with h1 | h1
    · omega
    rcases h2 with h2 | h2
    · omega
    · rcases Nat.lt_or_eq_of_le hxy with h3 | h3
      · have := valN_mono hu h3 (by omega); omega
      · rw [h3] at h2; omega
  exact Nat.le_antisymm (key d c b1 a1 a2 b3) (key c d a1 b1 b2 a3)
theorem IsCode.back {u m c : Nat} (hu : 0 < u) (hm : m < 16 * u) (hc : c ≤ m) : IsCode (valN c u : Int) u m c := by
  refine ⟨hc, Or.inr (Int.le_refl _), ?_⟩
  by_cases h : c = m
  · exact Or.inl h
  · right
    have := valN_mono hu (show c < c + 1 by omega) (show c + 1 < 16 * u by omega)
    omega
theorem IsCode.neg {n : Int} {u m c : Nat} (hu : 0 < u) (hm : m < 16 * u) (hn : n < 0) (h : IsCode n u m c) : c = 0 := by
  obtain ⟨a1, a2, a3⟩ := h
  rcases a2 with a2 | a2
  · exact a2
  · have : (0 : Int) ≤ (valN c u : Int) := Int.natCast_nonneg _
    omega
/-- Whether a number is what some code counts. -/
theorem IsCode.exact {n : Int} {u m c : Nat} (hu : 0 < u) (hm : m < 16 * u) (h : IsCode n u m c) : (∃ d, d ≤ m ∧ (valN d u : Int) = n) ↔ (0 ≤ n ∧ (valN c u : Int) = n) := by
  constructor
  · rintro ⟨d, hd, rfl⟩
    refine ⟨Int.natCast_nonneg _, ?_⟩
    rw [IsCode.uniq hu hm h (IsCode.back hu hm hd)]
  · rintro ⟨_, h1⟩
    exact ⟨c, h.1, h1⟩
/-- That code. -/
def codeN (n : Int) (u : Nat) : Nat → Nat
  | 0 => 0
  | m + 1 => if (valN (m + 1) u : Int) ≤ n then m + 1 else codeN n u m
theorem codeN_is (n : Int) (u : Nat) : ∀ m, IsCode n u m (codeN n u m)
  | 0 => ⟨Nat.le_refl _, Or.inl rfl, Or.inl rfl⟩
  | m + 1 => by
    unfold codeN
    split
    · rename_i h; exact ⟨Nat.le_refl _, Or.inr h, Or.inl rfl⟩
    · rename_i h
      obtain ⟨h1, h2, h3⟩ := codeN_is n u m
      refine ⟨Nat.le_succ_of_le h1, h2, Or.inr ?_⟩
      rcases h3 with h3 | h3
      · rw [h3]; exact Int.not_le.1 h
      · exact h3
theorem codeN_le (n : Int) (u m : Nat) : codeN n u m ≤ m := (codeN_is n u m).1
theorem codeN_uniq {n : Int} {u m c : Nat} (hu : 0 < u) (hm : m < 16 * u) (h : IsCode n u m c) : c = codeN n u m := h.uniq hu hm (codeN_is n u m)
/-- Whether a number is exact. -/
def exactN (n : Int) (u m : Nat) : Bool := decide (0 ≤ n ∧ (valN (codeN n u m) u : Int) = n)
/-- A search that halves. -/
def Halve (n : Int) (u m lo hi : Nat) : Prop := lo ≤ hi ∧ hi ≤ m ∧ (lo = 0 ∨ (valN lo u : Int) ≤ n) ∧ (hi = m ∨ n < (valN (hi + 1) u : Int))
theorem Halve.start (n : Int) (u m : Nat) : Halve n u m 0 m := ⟨Nat.zero_le _, Nat.le_refl _, Or.inl rfl, Or.inl rfl⟩
theorem Halve.up {n : Int} {u m lo hi k : Nat} (h : Halve n u m lo hi) (hk : k ≤ hi) (hv : (valN k u : Int) ≤ n) : Halve n u m k hi := ⟨hk, h.2.1, Or.inr hv, h.2.2.2⟩
theorem Halve.down {n : Int} {u m lo hi k : Nat} (h : Halve n u m lo hi) (hk : lo < k) (hk2 : k ≤ hi) (hv : ¬ (valN k u : Int) ≤ n) : Halve n u m lo (k - 1) :=
  ⟨by omega, Nat.le_trans (Nat.sub_le _ _) (Nat.le_trans hk2 h.2.1), h.2.2.1, Or.inr (by rw [Nat.sub_add_cancel (by omega)]; omega)⟩
theorem Halve.done {n : Int} {u m lo hi : Nat} (h : Halve n u m lo hi) (he : lo = hi) : IsCode n u m lo := ⟨Nat.le_trans h.1 h.2.1, h.2.2.1, by rw [he]; exact h.2.2.2⟩
end Go.Proofs.YtgpccgcppbdlpaaGreat

