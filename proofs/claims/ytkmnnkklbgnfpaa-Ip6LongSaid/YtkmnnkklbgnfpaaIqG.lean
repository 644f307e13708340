/-
  What a reader gives, in plain words; an address that a reader passes.
-/
import Derived.Test.YtkmnnkklbgnfpaaOctRd
import Derived.Test.YtkmnnkklbgnfpaaOctBits
import Derived.Test.YtkmnnkklbgnfpaaAd2
import Derived.Test.YtkmnnkklbgnfpaaMgb
import Derived.Test.YtkmnnkklbgnfpaaIqP
namespace Go.Proofs.Ytkmnnkklbgnfpaa
open Go.RowKit
set_option linter.unusedVariables false
attribute [local go_sem ↓] ld_addr st_addr
attribute [local go_sem] ldr_addr str_addr

theorem qbelow {w a c : World} {row : Option Nat} (h : w.grownBy a row) (k : Below w.heap.size a c) : w.grownBy c row :=
  ⟨k.os.trans h.os, k.tape.trans h.tape, k.output.trans h.output, Nat.le_trans h.size k.size, fun i hi hne => (k.block i hi).trans (h.block i hi hne)⟩
theorem qof {w c : World} {row : Option Nat} (k : Below w.heap.size w c) : w.grownBy c row := ⟨k.os, k.tape, k.output, k.size, fun i hi _ => k.block i hi⟩
theorem takeV_len (l : List UInt8) (bad : Bool) (n : Nat) : (takeV l bad n).length ≤ n := by
  unfold takeV; repeat' split
  all_goals simp
  omega
theorem takeV_all (l : List UInt8) (bad : Bool) (n : Nat) (h : (takeV l bad n).length ≠ n) : takeV l bad n = [] := by
  unfold takeV at h ⊢
  repeat' split
  · rfl
  · rfl
  · rename_i h1 h2
    exfalso; apply h
    rw [if_neg h1, if_neg h2, List.length_take]
    simp; omega
theorem rd_good {l : List UInt8} {n k : Nat} (h : n ≤ l.length) : takeV l false n = l.take n ∧ leftV l false n = l.drop n ∧ pastV l false n k = k + n ∧ badV l false n = false := by
  have h1 : ¬ ((l.length : Int) < (n : Int)) := by omega
  unfold takeV leftV pastV badV
  simp only [if_neg h1, Int.toNat_natCast]
  simp; omega
theorem rd_short {l : List UInt8} {n k : Nat} (h : l.length < n) : takeV l false n = [] ∧ leftV l false n = l ∧ pastV l false n k = k ∧ badV l false n = true := by
  have h1 : (l.length : Int) < (n : Int) := by omega
  unfold takeV leftV pastV badV
  simp [h1]
theorem rd_dead {l : List UInt8} {n : Int} {k : Nat} : takeV l true n = [] ∧ leftV l true n = l ∧ pastV l true n k = k ∧ badV l true n = true := by
  unfold takeV leftV pastV badV
  simp
theorem clamp_small (n : Nat) (h : n ≤ 8) : clampN (n : Int) 8 = n := by unfold clampN; split <;> omega
/-- Num of a literal width. -/
theorem numq_any (b : Nat) (l : List UInt8) (k : Nat) (bad : Bool) (n : Nat) (hn : n ≤ 8) (hl : l.length ≤ 1000000) (hk : k ≤ 1000000) (w : World) (h : RdAt w b l k bad) :
    Calls Try.prog 30 #[.pointer (some ⟨b, 0, none⟩), .int .i64 n] w fun e w' => e = .returned (.int .u64 (num (takeV l bad n))) ∧ RdAt w' b (leftV l bad n) (pastV l bad n k) (badV l bad n) ∧ w.grownBy w' (some b) := by
  have := num_any b l k bad n hl hk w h
  rw [clamp_small n hn] at this
  exact this
theorem leftV_le (l : List UInt8) (bad : Bool) (n : Int) : (leftV l bad n).length ≤ l.length := by
  unfold leftV; repeat' split
  all_goals simp
theorem pastV_le (l : List UInt8) (bad : Bool) (n k : Nat) : pastV l bad n k ≤ k + n := by
  unfold pastV; repeat' split
  all_goals simp
theorem num_small : ∀ (l : List UInt8), l.length ≤ 4 → num l < 256 ^ l.length := by
  intro l h
  match l, h with
  | [], _ => decide
  | [a], _ => have := a.toNat_lt; rw [num1]; simpa using this
  | [a, b], _ => have := num2_lt (x := [a, b]) rfl; simpa using this
  | [a, b, c], _ =>
    have h1 := a.toNat_lt; have h2 := b.toNat_lt; have h3 := c.toNat_lt
    simp [num]; omega
  | [a, b, c, d], _ =>
    have h1 := a.toNat_lt; have h2 := b.toNat_lt; have h3 := c.toNat_lt; have h4 := d.toNat_lt
    rw [num4]; simp; omega
theorem num_takeV (l : List UInt8) (bad : Bool) (n : Nat) (hn : n ≤ 4) : num (takeV l bad n) < 256 ^ n := by
  have h1 := takeV_len l bad n
  exact Nat.lt_of_lt_of_le (num_small _ (by omega)) (Nat.pow_le_pow_right (by omega) h1)

/-- The result's block of takeAddr, the reader. -/
def TQ (w W : World) (b : Nat) (l : List UInt8) (k : Nat) (bad : Bool) : Prop :=
  RdAt W b l k bad ∧ ObjAt W w.heap.size #[.bool false, .int .u8 0, .int .u8 0, .int .u8 0, .int .u8 0, .int .u8 0, .int .u8 0, .int .u8 0, .int .u8 0, .int .u8 0, .int .u8 0, .int .u8 0, .int .u8 0, .int .u8 0, .int .u8 0, .int .u8 0, .int .u8 0] 24 ∧ b < w.heap.size ∧ w.grownBy W (some b)
theorem TQ.start (w : World) (b : Nat) (l : List UInt8) (k : Nat) (bad : Bool) (h : RdAt w b l k bad) : TQ w (w.alloc (.cells #[.bool false, .int .u8 0, .int .u8 0, .int .u8 0, .int .u8 0, .int .u8 0, .int .u8 0, .int .u8 0, .int .u8 0, .int .u8 0, .int .u8 0, .int .u8 0, .int .u8 0, .int .u8 0, .int .u8 0, .int .u8 0, .int .u8 0] 24)) b l k bad :=
  ⟨ObjAt.alloc h _, ObjAt.made w _ _, ObjAt.lt h, qof ((Below.refl _ _).alloc (Nat.le_refl _) _)⟩
theorem TQ.grown {w W W' : World} {b : Nat} {l : List UInt8} {k : Nat} {bad : Bool} (h : TQ w W b l k bad) {l' : List UInt8} {k' : Nat} {bad' : Bool} (hr : RdAt W' b l' k' bad') (hg : W.grownBy W' (some b)) : TQ w W' b l' k' bad' :=
  ⟨hr, ObjAt.grown h.2.1 hg (by have := h.2.2.1; simp; omega), h.2.2.1, gtrans h.2.2.2 hg⟩
theorem TQ.below {w W W' : World} {b : Nat} {l : List UInt8} {k : Nat} {bad : Bool} (h : TQ w W b l k bad) (hb : Below W.heap.size W W') : TQ w W' b l k bad :=
  ⟨ObjAt.below h.1 hb (ObjAt.lt h.1), h.2.1.below hb h.2.1.lt, h.2.2.1, qbelow h.2.2.2 (hb.mono h.2.2.2.size)⟩
theorem TQ.put {w W : World} {b : Nat} {l : List UInt8} {k : Nat} {bad : Bool} (h : TQ w W b l k bad) (cs : List Value) (m : Nat) (hm : w.heap.size < m) : TQ w (aggW W m cs) b l k bad :=
  ⟨aggW_other h.1 _ (by have := h.2.2.1; omega), aggW_other h.2.1 _ (by omega), h.2.2.1, qbelow h.2.2.2 (aggW_below (Below.refl _ _) (by omega) _)⟩
theorem TQ.done {w W : World} {b : Nat} {l : List UInt8} {k : Nat} {bad : Bool} (h : TQ w W b l k bad) (cs : List Value) (hc : cs.length = 17) :
    row? (aggW W w.heap.size cs) w.heap.size 0 17 = some cs ∧ RdAt (aggW W w.heap.size cs) b l k bad ∧ w.grownBy (aggW W w.heap.size cs) (some b) :=
  ⟨aggW_row (obj_free h.2.1 (by simp)) hc, aggW_other h.1 _ (by have := h.2.2.1; omega), qbelow h.2.2.2 (aggW_below (Below.refl _ _) (Nat.le_refl _) _)⟩

/-- What takeAddr makes of what it took. -/
def adV (t : List UInt8) : Bool := decide (t.length = 16)
def adL (t : List UInt8) : List UInt8 := if t.length = 16 then t else List.replicate 16 0
theorem adL_length (t : List UInt8) : (adL t).length = 16 := by unfold adL; split <;> simp_all
theorem read_took (l : List UInt8) (bad : Bool) (w : World) : ∃ c, Calls Try.prog 41 #[.string (Str (takeV l bad 16))] w fun e w' => e = .returned (.tuple #[.agg (addrC (adV (takeV l bad 16)) (adL (takeV l bad 16))).toArray, .int .i64 c]) ∧ Below w.heap.size w w' := by
  by_cases h : (takeV l bad 16).length = 16
  · refine ⟨0, ?_⟩
    have := read_good true (takeV l bad 16) (by omega) (by rw [h]; rfl) (by rw [h]; rfl) w
    unfold adV adL
    rw [if_pos h, decide_eq_true h]
    rw [show readV (takeV l bad 16) = takeV l bad 16 by unfold readV; rw [h]; simp] at this
    exact this
  · refine ⟨2, ?_⟩
    have h0 : takeV l bad 16 = [] := takeV_all l bad 16 h
    have := read_bad (takeV l bad 16) (by rw [h0]; simp) (by rw [h0]; rfl) (by rw [h0]; rfl) w
    unfold adV adL
    rw [if_neg h, decide_eq_false h]
    exact this

set_option maxRecDepth 100000 in
set_option maxHeartbeats 1000000 in
theorem takeAddr_any (b : Nat) (l : List UInt8) (k : Nat) (bad : Bool) (hl : l.length ≤ 1000000) (hk : k ≤ 1000000) (w : World) (h : RdAt w b l k bad) :
    Calls Try.prog 35 #[.pointer (some ⟨b, 0, none⟩)] w fun x w' => x = .returned (.agg (addrC (adV (takeV l bad 16)) (adL (takeV l bad 16))).toArray) ∧ RdAt w' b (leftV l bad 16) (pastV l bad 16 k) (badV l bad 16) ∧ w.grownBy w' (some b) := by
  have HT := Lib.hid (TQ.start w b l k bad h)
  have HR : Hid (∀ W, RdAt W b l k bad → Calls Try.prog 31 #[.pointer (some ⟨b, 0, none⟩), .int .i64 16] W fun e w' => e = .returned (.string (Str (takeV l bad 16))) ∧ RdAt w' b (leftV l bad 16) (pastV l bad 16 k) (badV l bad 16) ∧ W.grownBy w' (some b)) := Lib.hid fun W hW => take_any b l k bad 16 hl hk W hW
  have HA := Lib.hid (fun W => read_took l bad W)
  have hal := adL_length (takeV l bad 16)
  generalize adV (takeV l bad 16) = v at HA ⊢
  generalize adL (takeV l bad 16) = x at HA hal ⊢
  generalize takeV l bad 16 = t at HR HA
  generalize leftV l bad 16 = l' at HR ⊢
  generalize pastV l bad 16 k = k' at HR ⊢
  generalize badV l bad 16 = bad' at HR ⊢
  have hfok := fok_addr v x hal
  have HL := Lib.hid (show (addrC v x).length = 17 by rw [addrC_length, hal])
  clear h hal
  go_enter Try.func35, Try.ntmps35
  go_upto_region 1 with (fail)
  generalize w.alloc (.cells #[.bool false, .int .u8 0, .int .u8 0, .int .u8 0, .int .u8 0, .int .u8 0, .int .u8 0, .int .u8 0, .int .u8 0, .int .u8 0, .int .u8 0, .int .u8 0, .int .u8 0, .int .u8 0, .int .u8 0, .int .u8 0, .int .u8 0] 24) = W at HT ⊢
  have hfm : ∀ W : World, free? (W.alloc (.cells #[.bool false, .int .u8 0, .int .u8 0, .int .u8 0, .int .u8 0, .int .u8 0, .int .u8 0, .int .u8 0, .int .u8 0, .int .u8 0, .int .u8 0, .int .u8 0, .int .u8 0, .int .u8 0, .int .u8 0, .int .u8 0, .int .u8 0] 24)) W.heap.size 0 17 = true := fun W => free_made W _ _ 17 (by simp)
  go_upto_region 2 with (first
    | (go_at_call 31; refine (HR.out _ HT.out.1).mono ?_; rintro e w1 ⟨rfl, hr1, hg1⟩; have HT1 := Lib.hid (HT.out.grown hr1 hg1); clear hr1 hg1)
    | (go_at_call 41; obtain ⟨c, hc⟩ := HA.out w1; refine hc.mono ?_; rintro e w2 ⟨rfl, hb2⟩; clear hc; have HT2 := Lib.hid (HT1.out.below hb2); clear hb2))
  have hlt := HT2.out.2.1.lt
  have hm := aggW_row (cs := addrC v x) (hfm w2) HL.out
  have HT3 := Lib.hid (((HT2.out.below ((Below.refl _ _).alloc (Nat.le_refl _) (.cells #[.bool false, .int .u8 0, .int .u8 0, .int .u8 0, .int .u8 0, .int .u8 0, .int .u8 0, .int .u8 0, .int .u8 0, .int .u8 0, .int .u8 0, .int .u8 0, .int .u8 0, .int .u8 0, .int .u8 0, .int .u8 0, .int .u8 0] 24)))).put (addrC v x) w2.heap.size hlt)
  have hf3 : free? (aggW (w2.alloc (.cells #[.bool false, .int .u8 0, .int .u8 0, .int .u8 0, .int .u8 0, .int .u8 0, .int .u8 0, .int .u8 0, .int .u8 0, .int .u8 0, .int .u8 0, .int .u8 0, .int .u8 0, .int .u8 0, .int .u8 0, .int .u8 0, .int .u8 0] 24)) w2.heap.size (addrC v x)) w.heap.size 0 17 = true := obj_free HT3.out.2.1 (by simp)
  generalize aggW (w2.alloc (.cells #[.bool false, .int .u8 0, .int .u8 0, .int .u8 0, .int .u8 0, .int .u8 0, .int .u8 0, .int .u8 0, .int .u8 0, .int .u8 0, .int .u8 0, .int .u8 0, .int .u8 0, .int .u8 0, .int .u8 0, .int .u8 0, .int .u8 0] 24)) w2.heap.size (addrC v x) = W3 at HT3 hf3 hm ⊢
  go_wp2
  obtain ⟨q1, q2, q3⟩ := HT3.out.done (addrC v x) HL.out
  exact bodyPost_ret (results_cell Try.results35 rfl (ld_some q1 (ldr_addr _ _ _))) rfl ⟨rfl, q2, q3⟩
end Go.Proofs.Ytkmnnkklbgnfpaa
