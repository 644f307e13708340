/-
  Texts joined: Own, Good, Tell, Tell2, Tell3, Tell4, Refa.
-/
import Derived.Test.YtgpccgcppbdlpaaMg05
import Derived.Test.YtgpccgcppbdlpaaMg02
import Derived.BigQuiet
import Derived.Deep.QuietTactic
import Derived.Deep.RegionHeld3
import Derived.WalkLawsBesides
import Derived.LoopTactic
import Derived.Test.YtgpccgcppbdlpaaMg00
import Derived.Test.YtgpccgcppbdlpaaChecked
import Derived.WalkSpells
import Derived.Deep.AppendLies
/-
  The document's own answer: an address that is good.
-/
namespace Go.Proofs.Ytgpccgcppbdlpaa
open Go.RowKit
set_option linter.unusedVariables false
attribute [local go_sem ↓] bld_addr bld_b16 ld_addr st_addr ld_b16
attribute [local go_sem] ldr_addr str_addr ldr_b16

/-- An address of four bytes has zeros behind them. -/
def ownK (v : Bool) (l : List UInt8) (k : Nat) : List UInt8 := if v then l else l.take 4 ++ (List.replicate (k - 4) 0 ++ l.drop k)
def ownV (v : Bool) (l : List UInt8) : List UInt8 := ownK v l 16
theorem ownK_length (v : Bool) (l : List UInt8) (hl : l.length = 16) (k : Nat) (h4 : 4 ≤ k) (h16 : k ≤ 16) : (ownK v l k).length = 16 := by
  cases v <;> simp [ownK] <;> omega
theorem ownV_length (v : Bool) (l : List UInt8) (hl : l.length = 16) : (ownV v l).length = 16 := ownK_length v l hl 16 (by omega) (by omega)
theorem ownK_start (v : Bool) (l : List UInt8) : ownK v l 4 = l := by cases v <;> simp [ownK]
theorem ownK_step (l : List UInt8) (hl : l.length = 16) (k : Nat) (h4 : 4 ≤ k) (h16 : k < 16) : (ownK false l k).set k 0 = ownK false l (k + 1) := by
  have h0 : l.drop k = l[k] :: l.drop (k + 1) := List.drop_eq_getElem_cons (by omega)
  simp only [ownK, Bool.false_eq_true, if_false]
  rw [List.set_append_right _ _ (by simp; omega), List.set_append_right _ _ (by simp; omega), h0]
  rw [show k - (l.take 4).length - (List.replicate (k - 4) (0 : UInt8)).length = 0 by simp; omega, List.set_cons_zero]
  rw [show k + 1 - 4 = (k - 4) + 1 by omega, List.replicate_succ']
  simp
/-- The two objects on the way. -/
def OwS (w wr : World) (v : Bool) (l : List UInt8) (k : Nat) : Prop :=
  ObjAt wr w.heap.size (addrC v (ownK v l k)).toArray 24 ∧ ObjAt wr (w.heap.size + 1) (addrC false (List.replicate 16 0)).toArray 24 ∧ Below w.heap.size w wr
theorem OwS.start (w : World) (v : Bool) (l : List UInt8) : OwS w ((w.alloc (.cells (addrC v l).toArray 24)).alloc (.cells #[.bool false, .int .u8 0, .int .u8 0, .int .u8 0, .int .u8 0, .int .u8 0, .int .u8 0, .int .u8 0, .int .u8 0, .int .u8 0, .int .u8 0, .int .u8 0, .int .u8 0, .int .u8 0, .int .u8 0, .int .u8 0, .int .u8 0] 24)) v l 4 := by
  have h0 := (ObjAt.made w (addrC v l).toArray 24).alloc (.cells #[.bool false, .int .u8 0, .int .u8 0, .int .u8 0, .int .u8 0, .int .u8 0, .int .u8 0, .int .u8 0, .int .u8 0, .int .u8 0, .int .u8 0, .int .u8 0, .int .u8 0, .int .u8 0, .int .u8 0, .int .u8 0, .int .u8 0] 24)
  have h1 := ObjAt.made (w.alloc (.cells (addrC v l).toArray 24)) #[.bool false, .int .u8 0, .int .u8 0, .int .u8 0, .int .u8 0, .int .u8 0, .int .u8 0, .int .u8 0, .int .u8 0, .int .u8 0, .int .u8 0, .int .u8 0, .int .u8 0, .int .u8 0, .int .u8 0, .int .u8 0, .int .u8 0] 24
  rw [show (w.alloc (.cells (addrC v l).toArray 24)).heap.size = w.heap.size + 1 by simp] at h1
  refine ⟨?_, h1, ((Below.refl _ _).alloc (Nat.le_refl _) _).alloc (by simp) _⟩
  rw [ownK_start]; exact h0
theorem OwS.cell {w wr : World} {v : Bool} {l : List UInt8} {k : Nat} (h : OwS w wr v l k) (hl : l.length = 16) (h4 : 4 ≤ k) (hk : k < 16) : ∃ x, wr.cell? ⟨w.heap.size, 1 + k, none⟩ = some x := by
  have : (addrC v (ownK v l k)).length = 17 := by rw [addrC_length, ownK_length v l hl k h4 (by omega)]
  exact ⟨_, (h.1.cell (1 + k)).trans (by rw [List.getElem?_toArray]; exact List.getElem?_eq_getElem (by omega))⟩
theorem OwS.step {w wr : World} {l : List UInt8} {k : Nat} (h : OwS w wr false l k) (hl : l.length = 16) (h4 : 4 ≤ k) (hk : k < 16) : OwS w (wr.setCell ⟨w.heap.size, 1 + k, none⟩ (.int .u8 0)) false l (k + 1) := by
  obtain ⟨h1, h2, h3⟩ := h
  refine ⟨?_, ObjAt.other h2 ⟨w.heap.size, 1 + k, none⟩ _ (by simp), h3.setCell (p := ⟨w.heap.size, 1 + k, none⟩) (Nat.le_refl _) _⟩
  have o1 := h1.set (1 + k) (.int .u8 0)
  have e : (addrC false (ownK false l k)).toArray.setIfInBounds (1 + k) (.int .u8 0) = (addrC false ((ownK false l k).set k 0)).toArray := by
    apply Array.ext'
    rw [Array.toList_setIfInBounds]
    show (Value.bool false :: B8 (ownK false l k)).set (1 + k) _ = Value.bool false :: B8 ((ownK false l k).set k 0)
    rw [Nat.add_comm, List.set_cons_succ]
    unfold B8
    rw [List.map_set]
    rfl
  rw [e, ownK_step l hl k h4 hk] at o1
  exact o1
theorem OwS.row {w wr : World} {v : Bool} {l : List UInt8} (h : OwS w wr v l 16) (hl : l.length = 16) : row? wr w.heap.size 0 17 = some (addrC v (ownV v l)) :=
  obj_row (A := []) (M := addrC v (ownV v l)) (C := []) (by simpa [ownV] using h.1) rfl (by rw [addrC_length, ownV_length v l hl])
theorem OwS.free {w wr : World} {v : Bool} {l : List UInt8} {k : Nat} (h : OwS w wr v l k) : free? wr (w.heap.size + 1) 0 17 = true := obj_free (n := 17) h.2.1 (by simp [addrC_length])
theorem OwS.done {w wr : World} {v : Bool} {l : List UInt8} {k : Nat} (h : OwS w wr v l k) (hl : l.length = 16) : row? (aggW wr (w.heap.size + 1) (addrC v (ownV v l))) (w.heap.size + 1) 0 17 = some (addrC v (ownV v l)) ∧ Below w.heap.size w (aggW wr (w.heap.size + 1) (addrC v (ownV v l))) :=
  ⟨aggW_row h.free (by rw [addrC_length, ownV_length v l hl]), aggW_below h.2.2 (by omega) _⟩

end Go.Proofs.Ytgpccgcppbdlpaa

/-
  The contract of addr.Good.
-/
namespace Go.Proofs.Ytgpccgcppbdlpaa
open Go.RowKit
set_option linter.unusedVariables false
attribute [local go_sem ↓] ld_b16
attribute [local go_sem] ldr_b16

/-- Is it good? -/
def goodV (v : Bool) (l : List UInt8) : Bool := v || decide (l = ownV v l)
/-- What the region reads. -/
def GoA (w W : World) (l : List UInt8) : Prop :=
  row? W w.heap.size 1 16 = some (B8 l) ∧ W.cell? ⟨w.heap.size, 1, none⟩ = some (.int .u8 ((l.getD 0 0).toNat : Int)) ∧ W.cell? ⟨w.heap.size, 2, none⟩ = some (.int .u8 ((l.getD 1 0).toNat : Int)) ∧ W.cell? ⟨w.heap.size, 3, none⟩ = some (.int .u8 ((l.getD 2 0).toNat : Int)) ∧ W.cell? ⟨w.heap.size, 4, none⟩ = some (.int .u8 ((l.getD 3 0).toNat : Int)) ∧ w.heap.size < W.heap.size ∧ Below w.heap.size w W
theorem GoA.below {w W W' : World} {l : List UInt8} (h : GoA w W l) (hb : Below W.heap.size W W') : GoA w W' l := by
  obtain ⟨h1, h2, h3, h4, h5, h6, h7⟩ := h
  have c : ∀ o, W'.cell? ⟨w.heap.size, o, none⟩ = W.cell? ⟨w.heap.size, o, none⟩ := fun o => hb.cell (p := ⟨w.heap.size, o, none⟩) h6
  exact ⟨row?_below h1 h6 hb, (c _).trans h2, (c _).trans h3, (c _).trans h4, (c _).trans h5, Nat.lt_of_lt_of_le h6 hb.size, bstep h7 hb⟩
theorem GoA.drew {w W : World} {l : List UInt8} (h : GoA w W l) : GoA w W.drew l := ⟨h.1, h.2.1, h.2.2.1, h.2.2.2.1, h.2.2.2.2.1, h.2.2.2.2.2.1, h.2.2.2.2.2.2.drew⟩
theorem GoA.made (w : World) (v : Bool) (l : List UInt8) (hl : l.length = 16) : GoA w (w.alloc (.cells (addrC v l).toArray 24)) l := by
  have o := ObjAt.made w (addrC v l).toArray 24
  have c : ∀ i (h : i < 16), (w.alloc (.cells (addrC v l).toArray 24)).cell? ⟨w.heap.size, i + 1, none⟩ = some (.int .u8 ((l.getD i 0).toNat : Int)) := fun i h => by
    rw [o.cell, List.getElem?_toArray]
    show (Value.bool v :: B8 l)[i + 1]? = _
    rw [List.getElem?_cons_succ]
    unfold B8
    rw [List.getElem?_map, List.getElem?_eq_getElem (by omega), List.getD_eq_getElem?_getD, List.getElem?_eq_getElem (by omega)]
    rfl
  exact ⟨obj_row (A := [.bool v]) (M := B8 l) (C := []) (by simpa [addrC] using o) rfl (by rw [B8_length, hl]), c 0 (by omega), c 1 (by omega), c 2 (by omega), c 3 (by omega), o.lt, (Below.refl _ _).alloc (Nat.le_refl _) _⟩

end Go.Proofs.Ytgpccgcppbdlpaa

/-
  The document's own answers on one address: Group, Ssm, Zero, Good.
-/
namespace Go.Proofs.Ytgpccgcppbdlpaa
open Go.RowKit
set_option linter.unusedVariables false

/-- The bytes from a place on, up to another, are zeros. -/
def ZerS (l : List UInt8) (a k : Nat) : Prop := ∀ i (h : i < l.length), a ≤ i → i < k → l[i] = 0
theorem ZerS.start (l : List UInt8) (a : Nat) : ZerS l a a := fun i _ h1 h2 => absurd h2 (by omega)
theorem ZerS.step {l : List UInt8} {a k : Nat} (h : ZerS l a k) (hk : k < l.length) (hz : ((l[k]).toNat : Int) = 0) : ZerS l a (k + 1) := fun i hi h1 h2 => by
  by_cases e : i = k
  · subst e
    apply UInt8.toNat_inj.1
    have : (l[i]).toNat = 0 := by omega
    simpa using this
  · exact h i hi h1 (by omega)
end Go.Proofs.Ytgpccgcppbdlpaa

/-
  The document's own Scope and Local; addr.Zero and addr.Many.
-/
namespace Go.Proofs.Ytgpccgcppbdlpaa
open Go.RowKit
set_option linter.unusedVariables false
attribute [local go_sem ↓] ld_addr ld_b16 bld_b16
attribute [local go_sem] ldr_addr ldr_b16

/-- The boxed address. -/
def OneA (w W : World) (v : Bool) (l : List UInt8) : Prop := BoxAt w W v l ∧ GoA w W l
theorem OneA.made (w : World) (v : Bool) (l : List UInt8) (hl : l.length = 16) : OneA w (w.alloc (.cells (addrC v l).toArray 24)) v l := ⟨BoxAt.made w v l hl 24, GoA.made w v l hl⟩
theorem OneA.keep {w W W' : World} {v : Bool} {l : List UInt8} (h : OneA w W v l) (hb : Below W.heap.size W W') : OneA w W' v l := ⟨h.1.keep hb, h.2.below hb⟩
theorem OneA.bel {w W : World} {v : Bool} {l : List UInt8} (h : OneA w W v l) : Below w.heap.size w W := h.1.2.2.2.2
end Go.Proofs.Ytgpccgcppbdlpaa

/-
  The document's own Local; addr.Many; addr.Ssm.
-/
namespace Go.Proofs.Ytgpccgcppbdlpaa
open Go.RowKit
set_option linter.unusedVariables false
attribute [local go_sem ↓] ld_addr ld_b16 bld_b16
attribute [local go_sem] ldr_addr ldr_b16

end Go.Proofs.Ytgpccgcppbdlpaa

/-
  addr.Ssm.
-/
namespace Go.Proofs.Ytgpccgcppbdlpaa
open Go.RowKit
set_option linter.unusedVariables false
attribute [local go_sem ↓] ld_addr
attribute [local go_sem] ldr_addr

end Go.Proofs.Ytgpccgcppbdlpaa

/-
  The contracts of the document's own answers of layer 1: Within, Bit, power, Put, Bits.
-/
namespace Go.Proofs.Ytgpccgcppbdlpaa
open Go.RowKit
set_option linter.unusedVariables false

theorem within_any (n : Int) (m : Nat) (w : World) : Calls Try.prog 85 #[.int .i64 n, .int .i64 0, .int .i64 (m : Int)] w fun e w' => e = .returned (.int .i64 (clampN n m : Int)) ∧ w = w' := by
  go_enter Try.func85, Try.ntmps85
  go_wp2
  all_goals
    go_ret
    exact ⟨ret_int (by unfold clampN; split <;> omega), rfl⟩

theorem div_pow_succ (n k : Nat) : n / 2 ^ (k + 1) = n / 2 ^ k / 2 := by rw [Nat.pow_succ, Nat.div_div_eq_div_mul]

theorem bit_any (n k : Nat) (hn : n ≤ 18446744073709551615) (hk : k ≤ 63) (w : World) : Calls Try.prog 86 #[.int .u64 n, .int .i64 k] w fun e w' => e = .returned (.int .u64 ((n / 2 ^ k % 2 : Nat) : Int)) ∧ w = w' := by
  go_enter Try.func86, Try.ntmps86
  go_wp2
  go_loop [0, 1] (fun x i => ∃ j : Nat, j ≤ k ∧ i = .int .i64 ((k - j : Nat) : Int) ∧ x = .int .u64 ((n / 2 ^ j : Nat) : Int)) (fun _ i => (intOf i).toNat)
  case atStart => exact ⟨0, Nat.zero_le _, by simp, by simp⟩
  case round =>
    obtain ⟨j, hj, rfl, rfl⟩ := hrel
    have hle : n / 2 ^ j ≤ 18446744073709551615 := Nat.le_trans (Nat.div_le_self _ _) hn
    generalize hq : n / 2 ^ j = q at hle ⊢
    have Hq := Lib.hid hq; clear hq
    by_cases hlt : j < k
    · go_wp2
      go_round
      case rel => exact ⟨j + 1, by omega, by go_num, by rw [div_pow_succ, Hq.out]; rfl⟩
      case measure => simp [intOf]; omega
    · obtain rfl : j = k := by omega
      go_wp2
      go_ret
      exact ⟨ret_int (by rw [← Hq.out]; simp), rfl⟩

/-- What bits a number has from one on. -/
def bitsN (n : Nat) (from_ wide : Int) : Nat := n / 2 ^ clampN from_ 64 % 2 ^ clampN wide 64

theorem Try.info_u8' : (Try.prog.info? 5).map (fun i => (i.zero, i.size, i.bytes)) = some (some (.int .u8 0), 1, 1) := by kernel_rfl

theorem mod_step (a j : Nat) : a % 2 ^ (j + 1) = 2 * (a / 2 % 2 ^ j) + a % 2 := by
  rw [Nat.pow_succ, Nat.mul_comm, Nat.mod_mul]; omega
theorem byte_bits (n i : Nat) : (UInt8.ofNat (n / 256 ^ i)).toNat = n / 2 ^ (8 * i) % 2 ^ 8 := by
  rw [UInt8.toNat_ofNat', Nat.pow_mul]
theorem putL_take (n w j : Nat) (h : j < w) : (putL n w).take (j + 1) = (putL n w).take j ++ [UInt8.ofNat (n / 256 ^ (w - 1 - j))] := by
  induction w generalizing j with
  | zero => omega
  | succ w ih =>
    cases j with
    | zero => simp [putL]
    | succ j =>
      have := ih j (by omega)
      simp only [putL, List.take_succ_cons, List.cons_append, this]
      rw [show w + 1 - 1 - (j + 1) = w - 1 - j by omega]

set_option maxRecDepth 100000 in
set_option maxHeartbeats 1000000 in
theorem rput_any (n : Nat) (hn : n ≤ 18446744073709551615) (wide : Int) (w : World) : Calls Try.prog 62 #[.int .u64 n, .int .i64 wide] w fun e w' => e = .returned (.string (Str (putL n (clampN wide 8)))) ∧ Below w.heap.size w w' := by
  obtain ⟨i0, hi, hz0, hz1, hz2⟩ := info_parts Try.info_u8'
  generalize hW : clampN wide 8 = W
  have hW8 : W ≤ 8 := by rw [← hW]; exact clampN_le _ _
  have HW := Lib.hid hW; clear hW
  go_enter Try.func62, Try.ntmps62
  go_wp2_with fail
  refine (within_any wide 8 _).mono ?_
  rintro e w1 ⟨rfl, rfl⟩
  rw [HW.out]
  go_wp2_with fail
  go_loopw [5, 6] (fun v i wr => ∃ j : Nat, j ≤ W ∧ i = .int .i64 ((W : Int) - 1 - (j : Int)) ∧ wr.ownsRow w.heap.size 5 1 v j (B8 ((putL n W).take j)) ∧ Below w.heap.size w wr) (fun _ i _ => (intOf i + 1).toNat)
  case atStart =>
    exact ⟨0, Nat.zero_le _, by go_num, World.ownsRow_lit w #[] 0 (Nat.le_refl _) (by unfold maxLen; omega) (by simp), (Below.refl _ _).alloc (Nat.le_refl _) _⟩
  case round v _ wr =>
    obtain ⟨j, hj, rfl, hown, hbel⟩ := hrel
    have Hbel := Lib.hid hbel
    clear hbel
    by_cases hlt : j < W
    · obtain ⟨q, hq⟩ : ∃ q : Nat, (W : Int) - 1 - (j : Int) = (q : Int) := ⟨W - 1 - j, by omega⟩
      have hq7 : q ≤ 7 := by omega
      rw [hq]
      have Hq := Lib.hid hq; clear hq
      have Hown := Lib.hid hown; clear hown
      go_wp2_with fail
      go_loop [7, 8] (fun x k => ∃ m : Nat, m ≤ 8 ∧ k = .int .i64 (7 - (m : Int)) ∧ x = .int .u64 ((n / 2 ^ (8 * q + (8 - m)) % 2 ^ m : Nat) : Int)) (fun _ k => (intOf k + 1).toNat)
      case atStart => exact ⟨0, by omega, by go_num, by simp [Nat.mod_one]⟩
      case round =>
        obtain ⟨m, hm, rfl, rfl⟩ := hrel
        have hle : n / 2 ^ (8 * q + (8 - m)) % 2 ^ m ≤ 255 := by
          have h1 := Nat.mod_lt (n / 2 ^ (8 * q + (8 - m))) (show 2 ^ m > 0 from Nat.pow_pos (by omega))
          have h2 : 2 ^ m ≤ 2 ^ 8 := Nat.pow_le_pow_right (by omega) hm
          omega
        by_cases hlt2 : m < 8
        · have hst : n / 2 ^ (8 * q + (8 - (m + 1))) % 2 ^ (m + 1) = 2 * (n / 2 ^ (8 * q + (8 - m)) % 2 ^ m) + n / 2 ^ (8 * q + (7 - m)) % 2 := by
            rw [mod_step, ← div_pow_succ, show 8 * q + (8 - (m + 1)) + 1 = 8 * q + (8 - m) by omega, show 8 * q + (8 - (m + 1)) = 8 * q + (7 - m) by omega]
          have Hst := Lib.hid hst; clear hst
          generalize hx : n / 2 ^ (8 * q + (8 - m)) % 2 ^ m = x at hle Hst ⊢
          have hb := Nat.mod_lt (n / 2 ^ (8 * q + (7 - m))) (show 2 > 0 by omega)
          generalize hy : n / 2 ^ (8 * q + (7 - m)) % 2 = y at hb Hst
          have Hx := Lib.hid hx; clear hx
          have Hy := Lib.hid hy; clear hy
          go_wp2_with fail
          rw [show (8 * (q : Int) + (7 - (m : Int))) = ((8 * q + (7 - m) : Nat) : Int) by omega]
          refine (bit_any n (8 * q + (7 - m)) hn (by omega) _).mono ?_
          rintro e w1 ⟨rfl, rfl⟩
          rw [Hy.out]
          go_wp2
          go_round
          case rel => exact ⟨m + 1, by omega, by go_num, by rw [Hst.out]; go_num⟩
          case measure => simp [intOf]; omega
        · obtain rfl : m = 8 := by omega
          generalize hx : n / 2 ^ (8 * q + (8 - 8)) % 2 ^ 8 = x at hle ⊢
          have Hx := Lib.hid hx; clear hx
          have hown := Hown.out
          have hz := Hbel.out.size
          go_wp2_with (at_builtin; refine wpList_append_own _ rfl _ _ 73 rfl w.heap.size 5 i0 (.int .u8 0) 1 1 Try.underlying73 hi hz0 hz1 hz2 rfl (by decide) _ _ _ rfl (hown.alloc _) ⟨wr.heap.size, 0, none⟩ 1 1 [.int .u8 (x : Int)] rfl rfl (World.news_of_block (heap_alloc_new wr _)) (by simp [Value.oneCell']) (by unfold maxLen; omega) (by omega) (by simp; omega) ?_)
          intro v' w1 hown' hgrow _
          have Hown' := Lib.hid hown'
          have Hgrow := Lib.hid hgrow
          clear hown' hgrow hown hz
          go_wp2
          go_roundw
          case rel =>
            refine ⟨j + 1, by omega, by have := Hq.out; go_num, ?_, ?_⟩
            · have h := Hown'.out
              rw [putL_take n W j (by omega), B8_append]
              have e : UInt8.ofNat (n / 256 ^ (W - 1 - j)) = UInt8.ofNat x := by
                apply UInt8.toNat_inj.1
                have hqq : W - 1 - j = q := by have := Hq.out; omega
                rw [hqq, byte_bits, UInt8.toNat_ofNat', ← Hx.out]
                simp
              rw [e]
              have e2 : B8 [UInt8.ofNat x] = [.int .u8 (x : Int)] := by simp [B8]; omega
              rw [e2]
              exact h
            · have hz := Hbel.out.size
              exact (Hbel.out.alloc hz _).grown Hgrow.out (by simp; omega) (fun g hg => (Hown.out.lt g hg).1)
          case measure => have := Hq.out; simp [intOf]
    · have hjW : j = W := by omega
      subst hjW
      rw [List.take_of_length_le (by rw [putL_length]; omega)] at hown
      have hcv := run_string_own 73 9 5 Try.underlying73 Try.underlying5 Try.underlying9 hown
      go_wp2
      go_ret
      exact ⟨by simp, Hbel.out⟩

theorem num_round (m : Nat) (c : UInt8) : IntKind.u64.wrap (IntKind.u64.wrap (256 * (m : Int)) + IntKind.u64.wrap (c.toNat : Int)) = (((m * 256 + c.toNat) % 18446744073709551616 : Nat) : Int) := by
  have hc := c.toNat_lt
  simp only [IntKind.wrap_u64]
  omega

set_option maxHeartbeats 400000 in
theorem rnum_any (s : ByteArray) (hs : s.size ≤ maxLen) (w : World) : Calls Try.prog 64 #[.string s] w fun e w' => e = .returned (.int .u64 (num s.data.toList)) ∧ w = w' := by
  unfold maxLen at hs
  go_enter Try.func64, Try.ntmps64
  go_wp2
  go_loop [3, 4] (fun n i => ∃ k : Nat, k ≤ s.size ∧ i = .int .i64 k ∧ n = .int .u64 (num (s.data.toList.take k))) (fun _ i => s.size - (intOf i).toNat)
  case atStart => exact ⟨0, Nat.zero_le _, rfl, rfl⟩
  case round =>
    obtain ⟨k, hk, rfl, rfl⟩ := hrel
    by_cases hlt : k < s.size
    · have Hs := Lib.hid (take_snoc s k hlt)
      generalize hm : num (s.data.toList.take k) = m
      have Hm := Lib.hid hm; clear hm
      go_wp2
      go_round
      case rel => exact ⟨k + 1, by omega, by go_num, by rw [num_round, Hs.out, num_snoc, Hm.out]⟩
      case measure => simp [intOf]; omega
    · go_wp2
      go_ret
      exact ⟨ret_int (by rw [List.take_of_length_le (by simp; omega)]), rfl⟩

end Go.Proofs.Ytgpccgcppbdlpaa

