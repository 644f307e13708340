/-
  Texts joined: OctRd, PureIp6, IqP, IqG.
-/
import Derived.Test.YtgpccgcppbdlpaaGreatMg00
import Derived.Test.YtgpccgcppbdlpaaGreatMg09
import Derived.Test.YtgpccgcppbdlpaaGreatMg07
import Derived.Test.YtgpccgcppbdlpaaGreatMg02
import Derived.Test.YtgpccgcppbdlpaaGreatMg20
/-
  The contracts of octet's Reader, and of the document's own.
-/
namespace Go.Proofs.YtgpccgcppbdlpaaGreat
open Go.RowKit
set_option linter.unusedVariables false

/-- A reader in memory: what is left, how many went by, whether it is bad. -/
def RdAt (w : World) (b : Nat) (l : List UInt8) (k : Nat) (bad : Bool) : Prop := ObjAt w b #[.string (Str l), .int .i64 k, .bool bad] 102
def takeV (l : List UInt8) (bad : Bool) (n : Int) : List UInt8 := if bad then [] else if (l.length : Int) < n then [] else l.take n.toNat
def leftV (l : List UInt8) (bad : Bool) (n : Int) : List UInt8 := if bad then l else if (l.length : Int) < n then l else l.drop n.toNat
def pastV (l : List UInt8) (bad : Bool) (n : Int) (k : Nat) : Nat := if bad then k else if (l.length : Int) < n then k else k + n.toNat
def badV (l : List UInt8) (bad : Bool) (n : Int) : Bool := if bad then true else decide ((l.length : Int) < n)

theorem takeV_le (l : List UInt8) (bad : Bool) (n : Int) : (takeV l bad n).length ≤ l.length := by
  unfold takeV; repeat' split
  all_goals simp
  omega

theorem new_any (s : ByteArray) (w : World) : Calls Tryz.prog 44 #[.string s] w fun e w' => e = .returned (.pointer (some ⟨w.heap.size, 0, none⟩)) ∧ w' = w.alloc (.cells #[.string s, .int .i64 0, .bool false] 102) := by
  go_enter Tryz.func44, Tryz.ntmps44
  go_wp2
  go_ret
  exact ⟨rfl, rfl⟩

set_option maxHeartbeats 400000 in
theorem take_any (b : Nat) (l : List UInt8) (k : Nat) (bad : Bool) (n : Int) (hl : l.length ≤ 1000000) (hk : k ≤ 1000000) (w : World) (h : RdAt w b l k bad) :
    Calls Tryz.prog 82 #[.pointer (some ⟨b, 0, none⟩), .int .i64 n] w fun e w' => e = .returned (.string (Str (takeV l bad n))) ∧ RdAt w' b (leftV l bad n) (pastV l bad n k) (badV l bad n) ∧ w.grownBy w' (some b) := by
  have H := Lib.hid h
  have c0 := h.cell 0
  have c1 := h.cell 1
  have c2 := h.cell 2
  have f0 := h.free 0
  have f1 := h.free 1
  have f2 := h.free 2
  simp at c0 c1 c2
  clear h
  cases bad with
  | true =>
    go_enter Tryz.func82, Tryz.ntmps82
    go_wp2
    go_ret
    exact ⟨rfl, H.out, World.grownBy.refl _ _⟩
  | false =>
    have hsz : (Str l).size = l.length := Str_size l
    have H := Lib.hid H.out
    by_cases hn : n < 0
    · have e1 : ¬ ((l.length : Int) < n) := by omega
      have HT := Lib.hid (show takeV l false n = [] ∧ leftV l false n = l ∧ pastV l false n k = k ∧ badV l false n = false by
        simp [takeV, leftV, pastV, badV, e1, show n.toNat = 0 by omega])
      clear e1
      go_enter Tryz.func82, Tryz.ntmps82
      go_wp2
      go_ret
      obtain ⟨t1, t2, t3, t4⟩ := HT.out
      refine ⟨?_, ?_, ?_⟩
      · rw [t1]; rfl
      · rw [t2, t3, t4]
        have g := (H.out.set 0 (.string ((Str l).extract 0 l.length))).set 1 (.int .i64 (k : Int))
        rw [Str_extract] at g ⊢
        simpa [RdAt] using g
      · exact gset' (gset _ _ _ _) _ _
    · by_cases hlt : (l.length : Int) < n
      · have HT := Lib.hid (show takeV l false n = [] ∧ leftV l false n = l ∧ pastV l false n k = k ∧ badV l false n = true by
          simp [takeV, leftV, pastV, badV, hlt])
        go_enter Tryz.func82, Tryz.ntmps82
        go_wp2
        go_ret
        obtain ⟨t1, t2, t3, t4⟩ := HT.out
        refine ⟨?_, ?_, ?_⟩
        · rw [t1]; rfl
        · rw [t2, t3, t4]
          have g := H.out.set 2 (.bool true)
          simpa [RdAt] using g
        · exact gset _ _ _ _
      · obtain ⟨m, rfl⟩ := Int.eq_ofNat_of_zero_le (show 0 ≤ n by omega)
        have HT := Lib.hid (show takeV l false m = l.take m ∧ leftV l false m = l.drop m ∧ pastV l false m k = k + m ∧ badV l false m = false by
          unfold takeV leftV pastV badV; simp only [if_neg hlt, Int.toNat_natCast]; simp; omega)
        go_enter Tryz.func82, Tryz.ntmps82
        go_wp2
        go_ret
        obtain ⟨t1, t2, t3, t4⟩ := HT.out
        refine ⟨?_, ?_, ?_⟩
        · rw [t1]
          have e : (Str l).extract 0 m = Str (l.take m) := by rw [Str_extract]; simp
          rw [← e]; rfl
        · rw [t2, t3, t4]
          have g := (H.out.set 0 (.string ((Str l).extract m l.length))).set 1 (.int .i64 ((k : Int) + (m : Int)))
          rw [Str_extract, List.take_of_length_le (by simp)] at g ⊢
          simpa [RdAt] using g
        · exact gset' (gset _ _ _ _) _ _

theorem bad_any (b : Nat) (l : List UInt8) (k : Nat) (bad : Bool) (w : World) (h : RdAt w b l k bad) : Calls Tryz.prog 84 #[.pointer (some ⟨b, 0, none⟩)] w fun e w' => e = .returned (.bool bad) ∧ w' = w := by
  have c2 := h.cell 2
  simp at c2
  clear h
  go_enter Tryz.func84, Tryz.ntmps84
  go_wp2
  go_ret
  exact ⟨rfl, rfl⟩
theorem rest_any (b : Nat) (l : List UInt8) (k : Nat) (bad : Bool) (w : World) (h : RdAt w b l k bad) : Calls Tryz.prog 101 #[.pointer (some ⟨b, 0, none⟩)] w fun e w' => e = .returned (.string (Str l)) ∧ w' = w := by
  have c2 := h.cell 0
  simp at c2
  clear h
  go_enter Tryz.func101, Tryz.ntmps101
  go_wp2
  go_ret
  exact ⟨rfl, rfl⟩
theorem left_any (b : Nat) (l : List UInt8) (k : Nat) (bad : Bool) (w : World) (h : RdAt w b l k bad) : Calls Tryz.prog 80 #[.pointer (some ⟨b, 0, none⟩)] w fun e w' => e = .returned (.int .i64 l.length) ∧ w' = w := by
  have hs := Lib.hid (Str_size l)
  have H := Lib.hid h
  clear h
  go_enter Tryz.func80, Tryz.ntmps80
  go_wp2_with (go_at_call 101; refine (rest_any b l k bad _ H.out).mono ?_; rintro e w' ⟨rfl, rfl⟩)
  go_ret
  exact ⟨ret_int (by rw [← hs.out]), rfl⟩
theorem num_any (b : Nat) (l : List UInt8) (k : Nat) (bad : Bool) (n : Int) (hl : l.length ≤ 1000000) (hk : k ≤ 1000000) (w : World) (h : RdAt w b l k bad) :
    Calls Tryz.prog 102 #[.pointer (some ⟨b, 0, none⟩), .int .i64 n] w fun e w' => e = .returned (.int .u64 (num (takeV l bad (clampN n 8)))) ∧ RdAt w' b (leftV l bad (clampN n 8)) (pastV l bad (clampN n 8) k) (badV l bad (clampN n 8)) ∧ w.grownBy w' (some b) := by
  have H := Lib.hid h
  clear h
  go_enter Tryz.func102, Tryz.ntmps102
  go_wp2_with fail
  refine (clamp_any n 8 _).mono ?_
  rintro e w1 ⟨rfl, rfl⟩
  go_wp2_with fail
  refine (take_any b l k bad _ hl hk _ H.out).mono ?_
  rintro e w1 ⟨rfl, h1, g1⟩
  have H1 := Lib.hid h1; clear h1
  have G1 := Lib.hid g1; clear g1
  go_wp2_with fail
  refine (number_any _ (by rw [Str_size]; unfold maxLen; have := takeV_le l bad (clampN n 8); omega) _).mono ?_
  rintro e w2 ⟨rfl, rfl⟩
  go_wp2
  go_ret
  exact ⟨rfl, H1.out, G1.out⟩

end Go.Proofs.YtgpccgcppbdlpaaGreat

/-
  Packets of IPv6 as plain data: options, what is wrong of bytes, their parts. Nothing of the program.
-/
namespace Go.Proofs.YtgpccgcppbdlpaaGreat
open Go.RowKit
set_option linter.unusedVariables false

/-- What was announced. -/
def bd6 (s : List UInt8) : List UInt8 := (s.drop 40).take (wd s 4)
/-- The size of the options that begin it. -/
def hb6 (s : List UInt8) : Nat := 8 * by8 (bd6 s) 1 + 8
/-- Numbers in the first four bytes. -/
theorem num4 (a b c d : UInt8) : num [a, b, c, d] = ((a.toNat * 256 + b.toNat) * 256 + c.toNat) * 256 + d.toNat := by
  have h1 := a.toNat_lt; have h2 := b.toNat_lt; have h3 := c.toNat_lt; have h4 := d.toNat_lt
  simp [num]; omega
theorem num1 (a : UInt8) : num [a] = a.toNat := by
  have h1 := a.toNat_lt
  simp [num]
end Go.Proofs.YtgpccgcppbdlpaaGreat

/-
  What bytes are as a packet of IPv6: plain facts. What is read of a packet's own bytes.
-/
namespace Go.Proofs.YtgpccgcppbdlpaaGreat
open Go.RowKit
set_option linter.unusedVariables false

/-- A packet's bytes. -/
def Ip.h6 (p : Ip) : List UInt8 := putL (96 + p.tos.toNat / 16) 1 ++ (putL (p.tos.toNat % 16 * 16 + p.id.toNat / 65536) 1 ++ putL (p.id.toNat % 65536) 2)
end Go.Proofs.YtgpccgcppbdlpaaGreat

/-
  What a reader gives, in plain words; an address that a reader passes.
-/
namespace Go.Proofs.YtgpccgcppbdlpaaGreat
open Go.RowKit
set_option linter.unusedVariables false
attribute [local go_sem ↓] ld_addr st_addr
attribute [local go_sem] ldr_addr str_addr

theorem qbelow {w a c : World} {row : Option Nat} (h : w.grownBy a row) (k : Below w.heap.size a c) : w.grownBy c row :=
  ⟨k.os.trans h.os, k.tape.trans h.tape, k.output.trans h.output, Nat.le_trans h.size k.size, fun i hi hne => (k.block i hi).trans (h.block i hi hne)⟩
theorem qof {w c : World} {row : Option Nat} (k : Below w.heap.size w c) : w.grownBy c row := ⟨k.os, k.tape, k.output, k.size, fun i hi _ => k.block i hi⟩
theorem takeV_len (l : List UInt8) (bad : Bool) (n : Nat) : (takeV l bad n).length ≤ n := by
  unfold takeV; repeat' split
  all_goals simp
  omega
theorem takeV_all (l : List UInt8) (bad : Bool) (n : Nat) (h : (takeV l bad n).length ≠ n) : takeV l bad n = [] := by
  unfold takeV at h ⊢
  repeat' split
  · rfl
  · rfl
  · rename_i h1 h2
    exfalso; apply h
    rw [if_neg h1, if_neg h2, List.length_take]
    simp; omega
theorem rd_good {l : List UInt8} {n k : Nat} (h : n ≤ l.length) : takeV l false n = l.take n ∧ leftV l false n = l.drop n ∧ pastV l false n k = k + n ∧ badV l false n = false := by
  have h1 : ¬ ((l.length : Int) < (n : Int)) := by omega
  unfold takeV leftV pastV badV
  simp only [if_neg h1, Int.toNat_natCast]
  simp; omega
theorem rd_short {l : List UInt8} {n k : Nat} (h : l.length < n) : takeV l false n = [] ∧ leftV l false n = l ∧ pastV l false n k = k ∧ badV l false n = true := by
  have h1 : (l.length : Int) < (n : Int) := by omega
  unfold takeV leftV pastV badV
  simp [h1]
theorem rd_dead {l : List UInt8} {n : Int} {k : Nat} : takeV l true n = [] ∧ leftV l true n = l ∧ pastV l true n k = k ∧ badV l true n = true := by
  unfold takeV leftV pastV badV
  simp
theorem clamp_small (n : Nat) (h : n ≤ 8) : clampN (n : Int) 8 = n := by unfold clampN; split <;> omega
/-- Num of a literal width. -/
theorem numq_any (b : Nat) (l : List UInt8) (k : Nat) (bad : Bool) (n : Nat) (hn : n ≤ 8) (hl : l.length ≤ 1000000) (hk : k ≤ 1000000) (w : World) (h : RdAt w b l k bad) :
    Calls Tryz.prog 102 #[.pointer (some ⟨b, 0, none⟩), .int .i64 n] w fun e w' => e = .returned (.int .u64 (num (takeV l bad n))) ∧ RdAt w' b (leftV l bad n) (pastV l bad n k) (badV l bad n) ∧ w.grownBy w' (some b) := by
  have := num_any b l k bad n hl hk w h
  rw [clamp_small n hn] at this
  exact this
theorem leftV_le (l : List UInt8) (bad : Bool) (n : Int) : (leftV l bad n).length ≤ l.length := by
  unfold leftV; repeat' split
  all_goals simp
theorem pastV_le (l : List UInt8) (bad : Bool) (n k : Nat) : pastV l bad n k ≤ k + n := by
  unfold pastV; repeat' split
  all_goals simp
theorem num_small : ∀ (l : List UInt8), l.length ≤ 4 → num l < 256 ^ l.length := by
  intro l h
  match l, h with
  | [], _ => decide
  | [a], _ => have := a.toNat_lt; rw [num1]; simpa using this
  | [a, b], _ => have := num2_lt (x := [a, b]) rfl; simpa using this
  | [a, b, c], _ =>
    have h1 := a.toNat_lt; have h2 := b.toNat_lt; have h3 := c.toNat_lt
    simp [num]; omega
  | [a, b, c, d], _ =>
    have h1 := a.toNat_lt; have h2 := b.toNat_lt; have h3 := c.toNat_lt; have h4 := d.toNat_lt
    rw [num4]; simp; omega
theorem num_takeV (l : List UInt8) (bad : Bool) (n : Nat) (hn : n ≤ 4) : num (takeV l bad n) < 256 ^ n := by
  have h1 := takeV_len l bad n
  exact Nat.lt_of_lt_of_le (num_small _ (by omega)) (Nat.pow_le_pow_right (by omega) h1)

/-- The result's block of takeAddr, the reader. -/
def TQ (w W : World) (b : Nat) (l : List UInt8) (k : Nat) (bad : Bool) : Prop :=
  RdAt W b l k bad ∧ ObjAt W w.heap.size #[.bool false, .int .u8 0, .int .u8 0, .int .u8 0, .int .u8 0, .int .u8 0, .int .u8 0, .int .u8 0, .int .u8 0, .int .u8 0, .int .u8 0, .int .u8 0, .int .u8 0, .int .u8 0, .int .u8 0, .int .u8 0, .int .u8 0] 24 ∧ b < w.heap.size ∧ w.grownBy W (some b)
theorem TQ.start (w : World) (b : Nat) (l : List UInt8) (k : Nat) (bad : Bool) (h : RdAt w b l k bad) : TQ w (w.alloc (.cells #[.bool false, .int .u8 0, .int .u8 0, .int .u8 0, .int .u8 0, .int .u8 0, .int .u8 0, .int .u8 0, .int .u8 0, .int .u8 0, .int .u8 0, .int .u8 0, .int .u8 0, .int .u8 0, .int .u8 0, .int .u8 0, .int .u8 0] 24)) b l k bad :=
  ⟨ObjAt.alloc h _, ObjAt.made w _ _, ObjAt.lt h, qof ((Below.refl _ _).alloc (Nat.le_refl _) _)⟩
theorem TQ.grown {w W W' : World} {b : Nat} {l : List UInt8} {k : Nat} {bad : Bool} (h : TQ w W b l k bad) {l' : List UInt8} {k' : Nat} {bad' : Bool} (hr : RdAt W' b l' k' bad') (hg : W.grownBy W' (some b)) : TQ w W' b l' k' bad' :=
  ⟨hr, ObjAt.grown h.2.1 hg (by have := h.2.2.1; simp; omega), h.2.2.1, gtrans h.2.2.2 hg⟩
theorem TQ.below {w W W' : World} {b : Nat} {l : List UInt8} {k : Nat} {bad : Bool} (h : TQ w W b l k bad) (hb : Below W.heap.size W W') : TQ w W' b l k bad :=
  ⟨ObjAt.below h.1 hb (ObjAt.lt h.1), h.2.1.below hb h.2.1.lt, h.2.2.1, qbelow h.2.2.2 (hb.mono h.2.2.2.size)⟩
theorem TQ.put {w W : World} {b : Nat} {l : List UInt8} {k : Nat} {bad : Bool} (h : TQ w W b l k bad) (cs : List Value) (m : Nat) (hm : w.heap.size < m) : TQ w (aggW W m cs) b l k bad :=
  ⟨aggW_other h.1 _ (by have := h.2.2.1; omega), aggW_other h.2.1 _ (by omega), h.2.2.1, qbelow h.2.2.2 (aggW_below (Below.refl _ _) (by omega) _)⟩
theorem TQ.done {w W : World} {b : Nat} {l : List UInt8} {k : Nat} {bad : Bool} (h : TQ w W b l k bad) (cs : List Value) (hc : cs.length = 17) :
    row? (aggW W w.heap.size cs) w.heap.size 0 17 = some cs ∧ RdAt (aggW W w.heap.size cs) b l k bad ∧ w.grownBy (aggW W w.heap.size cs) (some b) :=
  ⟨aggW_row (obj_free h.2.1 (by simp)) hc, aggW_other h.1 _ (by have := h.2.2.1; omega), qbelow h.2.2.2 (aggW_below (Below.refl _ _) (Nat.le_refl _) _)⟩

/-- What takeAddr makes of what it took. -/
def adV (t : List UInt8) : Bool := decide (t.length = 16)
def adL (t : List UInt8) : List UInt8 := if t.length = 16 then t else List.replicate 16 0
theorem adL_length (t : List UInt8) : (adL t).length = 16 := by unfold adL; split <;> simp_all
theorem read_took (l : List UInt8) (bad : Bool) (w : World) : ∃ c, Calls Tryz.prog 103 #[.string (Str (takeV l bad 16))] w fun e w' => e = .returned (.tuple #[.agg (addrC (adV (takeV l bad 16)) (adL (takeV l bad 16))).toArray, .int .i64 c]) ∧ Below w.heap.size w w' := by
  by_cases h : (takeV l bad 16).length = 16
  · refine ⟨0, ?_⟩
    have := read_good true (takeV l bad 16) (by omega) (by rw [h]; rfl) (by rw [h]; rfl) w
    unfold adV adL
    rw [if_pos h, decide_eq_true h]
    rw [show readV (takeV l bad 16) = takeV l bad 16 by unfold readV; rw [h]; simp] at this
    exact this
  · refine ⟨2, ?_⟩
    have h0 : takeV l bad 16 = [] := takeV_all l bad 16 h
    have := read_bad (takeV l bad 16) (by rw [h0]; simp) (by rw [h0]; rfl) (by rw [h0]; rfl) w
    unfold adV adL
    rw [if_neg h, decide_eq_false h]
    exact this

end Go.Proofs.YtgpccgcppbdlpaaGreat

