/-
  The document's own reading of a packet: what is wrong.
-/
import Derived.Test.YtbmacnbegbcgpaaIpR
import Derived.Test.YtbmacnbegbcgpaaIpG
import Derived.Test.YtbmacnbegbcgpaaRread
namespace Go.Proofs.Ytbmacnbegbcgpaa
open Go.RowKit
set_option linter.unusedVariables false
attribute [local go_sem ↓] bld_ip ld_ip st_ip ld_addr st_addr
attribute [local go_sem] ldr_ip str_ip ldr_addr str_addr

/-- The result's block and the empty packet's. -/
def RR (w W : World) : Prop := ObjAt W w.heap.size (ipC zeroI).toArray 26 ∧ ObjAt W (w.heap.size + 1) (ipC zeroI).toArray 26 ∧ Below w.heap.size w W
theorem RR.start (w : World) : RR w (aggW ((w.alloc (.cells (ipC zeroI).toArray 26)).alloc (.cells (ipC zeroI).toArray 26)) (w.heap.size + 1) (ipC zeroI)) := by
  have h0 := (ObjAt.made w (ipC zeroI).toArray 26).alloc (.cells (ipC zeroI).toArray 26)
  have h1 := ObjAt.made (w.alloc (.cells (ipC zeroI).toArray 26)) (ipC zeroI).toArray 26
  rw [show (w.alloc (.cells (ipC zeroI).toArray 26)).heap.size = w.heap.size + 1 by simp] at h1
  have hb : Below w.heap.size w ((w.alloc (.cells (ipC zeroI).toArray 26)).alloc (.cells (ipC zeroI).toArray 26)) := ((Below.refl _ _).alloc (Nat.le_refl _) _).alloc (by simp) _
  exact ⟨aggW_other h0 _ (by omega), aggW_obj (cs := ipC zeroI) h1 rfl (ipC_one zeroI), aggW_below hb (by omega) _⟩
theorem RR.drewN {w W : World} (h : RR w W) (d : Nat) : RR w (W.drewN d) := ⟨h.1, h.2.1, bdrewN h.2.2 d⟩
theorem RR.below {w W W' : World} (h : RR w W) (hb : Below W.heap.size W W') : RR w W' := ⟨h.1.below hb h.1.lt, h.2.1.below hb h.2.1.lt, bstep h.2.2 hb⟩
theorem RR.free {w W : World} (h : RR w W) : free? W w.heap.size 0 40 = true := obj_free h.1 (by simp [ipC_length zeroI_ok])
theorem RR.row {w W : World} (h : RR w W) : row? W (w.heap.size + 1) 0 40 = some (ipC zeroI) := obj_row (A := []) (M := ipC zeroI) (C := []) (by simpa using h.2.1) rfl (ipC_length zeroI_ok)
theorem RR.done {w W : World} (h : RR w W) (e : Ip) (ho : e.ok) : row? (aggW W w.heap.size (ipC e)) w.heap.size 0 40 = some (ipC e) ∧ Below w.heap.size w (aggW W w.heap.size (ipC e)) :=
  ⟨aggW_row h.free (ipC_length ho), aggW_below h.2.2 (Nat.le_refl _) _⟩
theorem rnum3 (s : List UInt8) (hs : s.length ≤ 100000) (a b : Nat) (w : World) : Calls Try.prog 32 #[.string ((Str s).extract a b)] w fun x w' => x = .returned (.int .u64 (num ((s.drop a).take (b - a)))) ∧ w' = w := by
  have h := rnum_any ((Str s).extract a b) (by unfold maxLen; rw [Str_extract, Str_size]; simp; omega) w
  rw [Str_extract] at h ⊢
  exact h.mono fun x w' h => ⟨h.1, h.2.symm⟩

theorem lt_zero {s : List UInt8} (h : (0 : Int) < (s.length : Int)) : 0 < (Str s).size := by rw [Str_size]; omega

set_option maxRecDepth 100000 in
set_option maxHeartbeats 2000000 in
theorem rread5_short (s : List UInt8) (hs : s.length ≤ 100000) (h1 : s.length < 20) (w : World) :
    Calls Try.prog 15 #[.string (Str s)] w fun x w' => x = .returned (.tuple #[.agg (ipC (readV5 s).1).toArray, .int .i64 (readV5 s).2]) ∧ Below w.heap.size w w' := by
  have HR := Lib.hid (show readV5 s = (zeroI, 3) by
    have hE : hdE s = 3 := by unfold hdE; rw [if_pos h1]
    unfold readV5; rw [why5_bad (by rw [hE]; omega), hE, if_neg (by omega)])
  have hsz := Str_size s
  have hq : (s.length : Int) < 20 := by omega
  clear hs h1
  have H0 := Lib.hid (RR.start w)
  have hbz := bld_zeroI
  have hfok := fok_ip zeroI_ok
  have hf0 := free_made (w.alloc (.cells #[.int .i64 0, .int .i64 0, .int .i64 0, .int .i64 0, .bool false, .int .u8 0, .int .u8 0, .int .u8 0, .int .u8 0, .int .u8 0, .int .u8 0, .int .u8 0, .int .u8 0, .int .u8 0, .int .u8 0, .int .u8 0, .int .u8 0, .int .u8 0, .int .u8 0, .int .u8 0, .int .u8 0, .bool false, .int .u8 0, .int .u8 0, .int .u8 0, .int .u8 0, .int .u8 0, .int .u8 0, .int .u8 0, .int .u8 0, .int .u8 0, .int .u8 0, .int .u8 0, .int .u8 0, .int .u8 0, .int .u8 0, .int .u8 0, .int .u8 0, .bool false, .string ⟨#[]⟩] 26)) #[.int .i64 0, .int .i64 0, .int .i64 0, .int .i64 0, .bool false, .int .u8 0, .int .u8 0, .int .u8 0, .int .u8 0, .int .u8 0, .int .u8 0, .int .u8 0, .int .u8 0, .int .u8 0, .int .u8 0, .int .u8 0, .int .u8 0, .int .u8 0, .int .u8 0, .int .u8 0, .int .u8 0, .bool false, .int .u8 0, .int .u8 0, .int .u8 0, .int .u8 0, .int .u8 0, .int .u8 0, .int .u8 0, .int .u8 0, .int .u8 0, .int .u8 0, .int .u8 0, .int .u8 0, .int .u8 0, .int .u8 0, .int .u8 0, .int .u8 0, .bool false, .string ⟨#[]⟩] 26 40 (by simp)
  rw [show (w.alloc (.cells #[.int .i64 0, .int .i64 0, .int .i64 0, .int .i64 0, .bool false, .int .u8 0, .int .u8 0, .int .u8 0, .int .u8 0, .int .u8 0, .int .u8 0, .int .u8 0, .int .u8 0, .int .u8 0, .int .u8 0, .int .u8 0, .int .u8 0, .int .u8 0, .int .u8 0, .int .u8 0, .int .u8 0, .bool false, .int .u8 0, .int .u8 0, .int .u8 0, .int .u8 0, .int .u8 0, .int .u8 0, .int .u8 0, .int .u8 0, .int .u8 0, .int .u8 0, .int .u8 0, .int .u8 0, .int .u8 0, .int .u8 0, .int .u8 0, .int .u8 0, .bool false, .string ⟨#[]⟩] 26)).heap.size = w.heap.size + 1 by simp] at hf0
  rw [zeroI_cells] at H0
  go_enter Try.func15, Try.ntmps15
  go_upto_region 2 with (fail)
  generalize aggW ((w.alloc (.cells #[.int .i64 0, .int .i64 0, .int .i64 0, .int .i64 0, .bool false, .int .u8 0, .int .u8 0, .int .u8 0, .int .u8 0, .int .u8 0, .int .u8 0, .int .u8 0, .int .u8 0, .int .u8 0, .int .u8 0, .int .u8 0, .int .u8 0, .int .u8 0, .int .u8 0, .int .u8 0, .int .u8 0, .bool false, .int .u8 0, .int .u8 0, .int .u8 0, .int .u8 0, .int .u8 0, .int .u8 0, .int .u8 0, .int .u8 0, .int .u8 0, .int .u8 0, .int .u8 0, .int .u8 0, .int .u8 0, .int .u8 0, .int .u8 0, .int .u8 0, .bool false, .string ⟨#[]⟩] 26)).alloc (.cells #[.int .i64 0, .int .i64 0, .int .i64 0, .int .i64 0, .bool false, .int .u8 0, .int .u8 0, .int .u8 0, .int .u8 0, .int .u8 0, .int .u8 0, .int .u8 0, .int .u8 0, .int .u8 0, .int .u8 0, .int .u8 0, .int .u8 0, .int .u8 0, .int .u8 0, .int .u8 0, .int .u8 0, .bool false, .int .u8 0, .int .u8 0, .int .u8 0, .int .u8 0, .int .u8 0, .int .u8 0, .int .u8 0, .int .u8 0, .int .u8 0, .int .u8 0, .int .u8 0, .int .u8 0, .int .u8 0, .int .u8 0, .int .u8 0, .int .u8 0, .bool false, .string ⟨#[]⟩] 26)) (w.heap.size + 1) _ = W at H0 ⊢
  clear hf0
  have hr := H0.out.row
  have hf := H0.out.free
  go_wp2
  obtain ⟨q1, q2⟩ := H0.out.done zeroI zeroI_ok
  exact bodyPost_ret (results_cell2 Try.results15 rfl (ld_some q1 (ldr_ip _ _ _))) rfl ⟨by rw [HR.out]; rfl, q2⟩

set_option maxRecDepth 100000 in
set_option maxHeartbeats 2000000 in
theorem rread5_kind (s : List UInt8) (hs : s.length ≤ 100000) (h1 : ¬ s.length < 20) (h2 : by8 s 0 / 16 ≠ 4) (w : World) :
    Calls Try.prog 15 #[.string (Str s)] w fun x w' => x = .returned (.tuple #[.agg (ipC (readV5 s).1).toArray, .int .i64 (readV5 s).2]) ∧ Below w.heap.size w w' := by
  have HR := Lib.hid (show readV5 s = (zeroI, 5) by
    have hE : hdE s = 5 := by unfold hdE; rw [if_neg h1, if_pos h2]
    unfold readV5; rw [why5_bad (by rw [hE]; omega), hE, if_neg (by omega)])
  have hsz := Str_size s
  have hq : ¬ (s.length : Int) < 20 := by omega
  have hp0 : 0 < s.length := by omega
  have hN2 : Hid (∀ W, Calls Try.prog 32 #[.string ((Str s).extract 2 4)] W fun x w' => x = .returned (.int .u64 (allN s)) ∧ w' = W) := Lib.hid fun W => rnum3 s hs 2 4 W
  have hN6 : Hid (∀ W, Calls Try.prog 32 #[.string ((Str s).extract 6 8)] W fun x w' => x = .returned (.int .u64 (wd s 6)) ∧ w' = W) := Lib.hid fun W => rnum3 s hs 6 8 W
  have hi0 : (0 : Int) < (s.length : Int) := by omega
  have hi4 : (4 : Int) ≤ (s.length : Int) := by omega
  have hi8 : (8 : Int) ≤ (s.length : Int) := by omega
  have e0 := Str_at s 0 (lt_zero hi0)
  have b0 := by8_lt s 0
  have ball := wd_lt s 2 (by omega)
  have b6 := wd_lt s 6 (by omega)
  have hdv : (by8 s 0 : Int) / 16 = ((by8 s 0 / 16 : Nat) : Int) := rfl
  have htm : (by8 s 0 : Int).tmod 16 = ((by8 s 0 % 16 : Nat) : Int) := rfl
  have hrm : (by8 s 0 : Int) % 16 = ((by8 s 0 % 16 : Nat) : Int) := rfl
  have hwv : IntKind.u8.wrap ((by8 s 0 / 16 : Nat) : Int) = ((by8 s 0 / 16 : Nat) : Int) := by simp only [IntKind.wrap_u8]; omega
  have hw8 : IntKind.u8.wrap ((by8 s 0 % 16 : Nat) : Int) = ((by8 s 0 % 16 : Nat) : Int) := by simp only [IntKind.wrap_u8]; omega
  have hwi : IntKind.i64.wrap ((by8 s 0 % 16 : Nat) : Int) = ((by8 s 0 % 16 : Nat) : Int) := by simp only [IntKind.wrap_i64]; omega
  have hw4 : IntKind.i64.wrap (4 * ((by8 s 0 % 16 : Nat) : Int)) = (hdN s : Int) := by unfold hdN; simp only [IntKind.wrap_i64]; omega
  have hw4' : 4 * ((by8 s 0 % 16 : Nat) : Int) = (hdN s : Int) := by unfold hdN; omega
  have hwa : IntKind.i64.wrap (allN s : Int) = (allN s : Int) := by unfold allN; simp only [IntKind.wrap_i64]; omega
  have hww : wrap64 (hdN s : Int) = (hdN s : Int) := IntWalk.wrap64_in _ (by unfold hdN; omega)
  have h60 : hdN s ≤ 60 := by unfold hdN; omega
  have hn0 : (0 : Int) ≤ (hdN s : Int) := by omega
  have hwn : IntKind.i64.wrap (hdN s : Int) = (hdN s : Int) := by simp only [IntKind.wrap_i64]; omega
  have hall : allN s < 65536 := ball
  have hwm : IntKind.i64.wrap ((allN s : Int) - (hdN s : Int)) = (allN s : Int) - (hdN s : Int) := by simp only [IntKind.wrap_i64]; omega
  have hv4 : (((by8 s 0 / 16 : Nat) : Int) != 4) = true := by simp; omega
  generalize by8 s 0 / 16 = v at *
  generalize by8 s 0 % 16 = m at *
  generalize by8 s 0 = x at *
  generalize hdN s = n at *
  generalize allN s = t at *
  generalize wd s 6 = fr at *
  clear hs h1 h2 b0 ball b6
  have H0 := Lib.hid (RR.start w)
  have hbz := bld_zeroI
  have hfok := fok_ip zeroI_ok
  have hf0 := free_made (w.alloc (.cells #[.int .i64 0, .int .i64 0, .int .i64 0, .int .i64 0, .bool false, .int .u8 0, .int .u8 0, .int .u8 0, .int .u8 0, .int .u8 0, .int .u8 0, .int .u8 0, .int .u8 0, .int .u8 0, .int .u8 0, .int .u8 0, .int .u8 0, .int .u8 0, .int .u8 0, .int .u8 0, .int .u8 0, .bool false, .int .u8 0, .int .u8 0, .int .u8 0, .int .u8 0, .int .u8 0, .int .u8 0, .int .u8 0, .int .u8 0, .int .u8 0, .int .u8 0, .int .u8 0, .int .u8 0, .int .u8 0, .int .u8 0, .int .u8 0, .int .u8 0, .bool false, .string ⟨#[]⟩] 26)) #[.int .i64 0, .int .i64 0, .int .i64 0, .int .i64 0, .bool false, .int .u8 0, .int .u8 0, .int .u8 0, .int .u8 0, .int .u8 0, .int .u8 0, .int .u8 0, .int .u8 0, .int .u8 0, .int .u8 0, .int .u8 0, .int .u8 0, .int .u8 0, .int .u8 0, .int .u8 0, .int .u8 0, .bool false, .int .u8 0, .int .u8 0, .int .u8 0, .int .u8 0, .int .u8 0, .int .u8 0, .int .u8 0, .int .u8 0, .int .u8 0, .int .u8 0, .int .u8 0, .int .u8 0, .int .u8 0, .int .u8 0, .int .u8 0, .int .u8 0, .bool false, .string ⟨#[]⟩] 26 40 (by simp)
  rw [show (w.alloc (.cells #[.int .i64 0, .int .i64 0, .int .i64 0, .int .i64 0, .bool false, .int .u8 0, .int .u8 0, .int .u8 0, .int .u8 0, .int .u8 0, .int .u8 0, .int .u8 0, .int .u8 0, .int .u8 0, .int .u8 0, .int .u8 0, .int .u8 0, .int .u8 0, .int .u8 0, .int .u8 0, .int .u8 0, .bool false, .int .u8 0, .int .u8 0, .int .u8 0, .int .u8 0, .int .u8 0, .int .u8 0, .int .u8 0, .int .u8 0, .int .u8 0, .int .u8 0, .int .u8 0, .int .u8 0, .int .u8 0, .int .u8 0, .int .u8 0, .int .u8 0, .bool false, .string ⟨#[]⟩] 26)).heap.size = w.heap.size + 1 by simp] at hf0
  rw [zeroI_cells] at H0
  go_enter Try.func15, Try.ntmps15
  go_upto_region 2 with (fail)
  generalize aggW ((w.alloc (.cells #[.int .i64 0, .int .i64 0, .int .i64 0, .int .i64 0, .bool false, .int .u8 0, .int .u8 0, .int .u8 0, .int .u8 0, .int .u8 0, .int .u8 0, .int .u8 0, .int .u8 0, .int .u8 0, .int .u8 0, .int .u8 0, .int .u8 0, .int .u8 0, .int .u8 0, .int .u8 0, .int .u8 0, .bool false, .int .u8 0, .int .u8 0, .int .u8 0, .int .u8 0, .int .u8 0, .int .u8 0, .int .u8 0, .int .u8 0, .int .u8 0, .int .u8 0, .int .u8 0, .int .u8 0, .int .u8 0, .int .u8 0, .int .u8 0, .int .u8 0, .bool false, .string ⟨#[]⟩] 26)).alloc (.cells #[.int .i64 0, .int .i64 0, .int .i64 0, .int .i64 0, .bool false, .int .u8 0, .int .u8 0, .int .u8 0, .int .u8 0, .int .u8 0, .int .u8 0, .int .u8 0, .int .u8 0, .int .u8 0, .int .u8 0, .int .u8 0, .int .u8 0, .int .u8 0, .int .u8 0, .int .u8 0, .int .u8 0, .bool false, .int .u8 0, .int .u8 0, .int .u8 0, .int .u8 0, .int .u8 0, .int .u8 0, .int .u8 0, .int .u8 0, .int .u8 0, .int .u8 0, .int .u8 0, .int .u8 0, .int .u8 0, .int .u8 0, .int .u8 0, .int .u8 0, .bool false, .string ⟨#[]⟩] 26)) (w.heap.size + 1) _ = W at H0 ⊢
  clear hf0
  have hr := H0.out.row
  have hf := H0.out.free
  go_wp2
  obtain ⟨q1, q2⟩ := H0.out.done zeroI zeroI_ok
  exact bodyPost_ret (results_cell2 Try.results15 rfl (ld_some q1 (ldr_ip _ _ _))) rfl ⟨by rw [HR.out]; rfl, q2⟩

set_option maxRecDepth 100000 in
set_option maxHeartbeats 2000000 in
theorem rread5_small (s : List UInt8) (hs : s.length ≤ 100000) (h1 : ¬ s.length < 20) (h2 : ¬ by8 s 0 / 16 ≠ 4) (h3 : hdN s < 20) (w : World) :
    Calls Try.prog 15 #[.string (Str s)] w fun x w' => x = .returned (.tuple #[.agg (ipC (readV5 s).1).toArray, .int .i64 (readV5 s).2]) ∧ Below w.heap.size w w' := by
  have HR := Lib.hid (show readV5 s = (zeroI, 2) by
    have hE : hdE s = 2 := by unfold hdE; rw [if_neg h1, if_neg h2, if_pos h3]
    unfold readV5; rw [why5_bad (by rw [hE]; omega), hE, if_neg (by omega)])
  have hsz := Str_size s
  have hq : ¬ (s.length : Int) < 20 := by omega
  have hp0 : 0 < s.length := by omega
  have hN2 : Hid (∀ W, Calls Try.prog 32 #[.string ((Str s).extract 2 4)] W fun x w' => x = .returned (.int .u64 (allN s)) ∧ w' = W) := Lib.hid fun W => rnum3 s hs 2 4 W
  have hN6 : Hid (∀ W, Calls Try.prog 32 #[.string ((Str s).extract 6 8)] W fun x w' => x = .returned (.int .u64 (wd s 6)) ∧ w' = W) := Lib.hid fun W => rnum3 s hs 6 8 W
  have hi0 : (0 : Int) < (s.length : Int) := by omega
  have hi4 : (4 : Int) ≤ (s.length : Int) := by omega
  have hi8 : (8 : Int) ≤ (s.length : Int) := by omega
  have e0 := Str_at s 0 (lt_zero hi0)
  have b0 := by8_lt s 0
  have ball := wd_lt s 2 (by omega)
  have b6 := wd_lt s 6 (by omega)
  have hdv : (by8 s 0 : Int) / 16 = ((by8 s 0 / 16 : Nat) : Int) := rfl
  have htm : (by8 s 0 : Int).tmod 16 = ((by8 s 0 % 16 : Nat) : Int) := rfl
  have hrm : (by8 s 0 : Int) % 16 = ((by8 s 0 % 16 : Nat) : Int) := rfl
  have hwv : IntKind.u8.wrap ((by8 s 0 / 16 : Nat) : Int) = ((by8 s 0 / 16 : Nat) : Int) := by simp only [IntKind.wrap_u8]; omega
  have hw8 : IntKind.u8.wrap ((by8 s 0 % 16 : Nat) : Int) = ((by8 s 0 % 16 : Nat) : Int) := by simp only [IntKind.wrap_u8]; omega
  have hwi : IntKind.i64.wrap ((by8 s 0 % 16 : Nat) : Int) = ((by8 s 0 % 16 : Nat) : Int) := by simp only [IntKind.wrap_i64]; omega
  have hw4 : IntKind.i64.wrap (4 * ((by8 s 0 % 16 : Nat) : Int)) = (hdN s : Int) := by unfold hdN; simp only [IntKind.wrap_i64]; omega
  have hw4' : 4 * ((by8 s 0 % 16 : Nat) : Int) = (hdN s : Int) := by unfold hdN; omega
  have hwa : IntKind.i64.wrap (allN s : Int) = (allN s : Int) := by unfold allN; simp only [IntKind.wrap_i64]; omega
  have hww : wrap64 (hdN s : Int) = (hdN s : Int) := IntWalk.wrap64_in _ (by unfold hdN; omega)
  have h60 : hdN s ≤ 60 := by unfold hdN; omega
  have hn0 : (0 : Int) ≤ (hdN s : Int) := by omega
  have hwn : IntKind.i64.wrap (hdN s : Int) = (hdN s : Int) := by simp only [IntKind.wrap_i64]; omega
  have hall : allN s < 65536 := ball
  have hwm : IntKind.i64.wrap ((allN s : Int) - (hdN s : Int)) = (allN s : Int) - (hdN s : Int) := by simp only [IntKind.wrap_i64]; omega
  have hv4 : (((by8 s 0 / 16 : Nat) : Int) != 4) = false := by simp; omega
  have hq3 : decide ((hdN s : Int) < 20) = true := by simp; omega
  generalize by8 s 0 / 16 = v at *
  generalize by8 s 0 % 16 = m at *
  generalize by8 s 0 = x at *
  generalize hdN s = n at *
  generalize allN s = t at *
  generalize wd s 6 = fr at *
  clear hs b0 ball b6
  have H0 := Lib.hid (RR.start w)
  have hbz := bld_zeroI
  have hfok := fok_ip zeroI_ok
  have hf0 := free_made (w.alloc (.cells #[.int .i64 0, .int .i64 0, .int .i64 0, .int .i64 0, .bool false, .int .u8 0, .int .u8 0, .int .u8 0, .int .u8 0, .int .u8 0, .int .u8 0, .int .u8 0, .int .u8 0, .int .u8 0, .int .u8 0, .int .u8 0, .int .u8 0, .int .u8 0, .int .u8 0, .int .u8 0, .int .u8 0, .bool false, .int .u8 0, .int .u8 0, .int .u8 0, .int .u8 0, .int .u8 0, .int .u8 0, .int .u8 0, .int .u8 0, .int .u8 0, .int .u8 0, .int .u8 0, .int .u8 0, .int .u8 0, .int .u8 0, .int .u8 0, .int .u8 0, .bool false, .string ⟨#[]⟩] 26)) #[.int .i64 0, .int .i64 0, .int .i64 0, .int .i64 0, .bool false, .int .u8 0, .int .u8 0, .int .u8 0, .int .u8 0, .int .u8 0, .int .u8 0, .int .u8 0, .int .u8 0, .int .u8 0, .int .u8 0, .int .u8 0, .int .u8 0, .int .u8 0, .int .u8 0, .int .u8 0, .int .u8 0, .bool false, .int .u8 0, .int .u8 0, .int .u8 0, .int .u8 0, .int .u8 0, .int .u8 0, .int .u8 0, .int .u8 0, .int .u8 0, .int .u8 0, .int .u8 0, .int .u8 0, .int .u8 0, .int .u8 0, .int .u8 0, .int .u8 0, .bool false, .string ⟨#[]⟩] 26 40 (by simp)
  rw [show (w.alloc (.cells #[.int .i64 0, .int .i64 0, .int .i64 0, .int .i64 0, .bool false, .int .u8 0, .int .u8 0, .int .u8 0, .int .u8 0, .int .u8 0, .int .u8 0, .int .u8 0, .int .u8 0, .int .u8 0, .int .u8 0, .int .u8 0, .int .u8 0, .int .u8 0, .int .u8 0, .int .u8 0, .int .u8 0, .bool false, .int .u8 0, .int .u8 0, .int .u8 0, .int .u8 0, .int .u8 0, .int .u8 0, .int .u8 0, .int .u8 0, .int .u8 0, .int .u8 0, .int .u8 0, .int .u8 0, .int .u8 0, .int .u8 0, .int .u8 0, .int .u8 0, .bool false, .string ⟨#[]⟩] 26)).heap.size = w.heap.size + 1 by simp] at hf0
  rw [zeroI_cells] at H0
  go_enter Try.func15, Try.ntmps15
  go_upto_region 2 with (fail)
  generalize aggW ((w.alloc (.cells #[.int .i64 0, .int .i64 0, .int .i64 0, .int .i64 0, .bool false, .int .u8 0, .int .u8 0, .int .u8 0, .int .u8 0, .int .u8 0, .int .u8 0, .int .u8 0, .int .u8 0, .int .u8 0, .int .u8 0, .int .u8 0, .int .u8 0, .int .u8 0, .int .u8 0, .int .u8 0, .int .u8 0, .bool false, .int .u8 0, .int .u8 0, .int .u8 0, .int .u8 0, .int .u8 0, .int .u8 0, .int .u8 0, .int .u8 0, .int .u8 0, .int .u8 0, .int .u8 0, .int .u8 0, .int .u8 0, .int .u8 0, .int .u8 0, .int .u8 0, .bool false, .string ⟨#[]⟩] 26)).alloc (.cells #[.int .i64 0, .int .i64 0, .int .i64 0, .int .i64 0, .bool false, .int .u8 0, .int .u8 0, .int .u8 0, .int .u8 0, .int .u8 0, .int .u8 0, .int .u8 0, .int .u8 0, .int .u8 0, .int .u8 0, .int .u8 0, .int .u8 0, .int .u8 0, .int .u8 0, .int .u8 0, .int .u8 0, .bool false, .int .u8 0, .int .u8 0, .int .u8 0, .int .u8 0, .int .u8 0, .int .u8 0, .int .u8 0, .int .u8 0, .int .u8 0, .int .u8 0, .int .u8 0, .int .u8 0, .int .u8 0, .int .u8 0, .int .u8 0, .int .u8 0, .bool false, .string ⟨#[]⟩] 26)) (w.heap.size + 1) _ = W at H0 ⊢
  clear hf0
  have hr := H0.out.row
  have hf := H0.out.free
  go_wp2_with fail
  refine wp_region_held_drew (S := fun _ => True) (by kernel_rfl) (trivial) (fun hHeld => ?_)
  refine wpAnyH_take (i := 0) (oi := { dst := some 20, op := _, type := _, pos := _, after := _, guard := _ }) (v := ?v1) rfl (by kernel_rfl) (by kernel_rfl) (by kernel_rfl) (fun _ _ _ h => h) (Or.inl ⟨by rfl, ?y1⟩) (by assumption) ?r1
  case y1 => (intro w hSw; go_simp; try with_reducible rfl)
  try simp only [Act.put, List.setIfInBounds_toArray, List.set_cons_zero, List.set_cons_succ]
  refine wpAnyH_take (i := 1) (oi := { dst := some 21, op := _, type := _, pos := _, after := _, guard := _ }) (v := ?v2) rfl (by kernel_rfl) (by kernel_rfl) (by kernel_rfl) (fun _ _ _ h => h) (Or.inl ⟨by rfl, ?y2⟩) (by assumption) ?r2
  case y2 => (intro w hSw; go_simp; try with_reducible rfl)
  try simp only [Act.put, List.setIfInBounds_toArray, List.set_cons_zero, List.set_cons_succ]
  refine wpAnyH_take (i := 2) (oi := { dst := some 22, op := _, type := _, pos := _, after := _, guard := _ }) (v := ?v3) rfl (by kernel_rfl) (by kernel_rfl) (by kernel_rfl) (fun _ _ _ h => h) (Or.inl ⟨by rfl, ?y3⟩) (by assumption) ?r3
  case y3 => (intro w hSw; go_simp; try with_reducible rfl)
  try simp only [Act.put, List.setIfInBounds_toArray, List.set_cons_zero, List.set_cons_succ]
  refine wpAnyH_take (i := 3) (oi := { dst := some 23, op := _, type := _, pos := _, after := _, guard := _ }) (v := ?v4) rfl (by kernel_rfl) (by kernel_rfl) (by kernel_rfl) (fun _ _ _ h => h) (Or.inl ⟨by rfl, ?y4⟩) (by assumption) ?r4
  case y4 => (intro w hSw; go_simp; try with_reducible rfl)
  try simp only [Act.put, List.setIfInBounds_toArray, List.set_cons_zero, List.set_cons_succ]
  refine wpAnyH_take (i := 4) (oi := { dst := some 24, op := _, type := _, pos := _, after := _, guard := _ }) (v := ?v5) rfl (by kernel_rfl) (by kernel_rfl) (by kernel_rfl) (fun _ _ _ h => h) (Or.inl ⟨by rfl, ?y5⟩) (by assumption) ?r5
  case y5 => (intro w hSw; go_simp; try with_reducible rfl)
  try simp only [Act.put, List.setIfInBounds_toArray, List.set_cons_zero, List.set_cons_succ]
  refine wpAnyH_take (i := 5) (oi := { dst := some 25, op := _, type := _, pos := _, after := _, guard := _ }) (v := ?v6) rfl (by kernel_rfl) (by kernel_rfl) (by kernel_rfl) (fun _ _ _ h => h) (Or.inl ⟨by rfl, ?y6⟩) (by assumption) ?r6
  case y6 => (intro w hSw; go_simp; try with_reducible rfl)
  try simp only [Act.put, List.setIfInBounds_toArray, List.set_cons_zero, List.set_cons_succ]
  refine wpAnyH_take (i := 6) (oi := { dst := some 26, op := _, type := _, pos := _, after := _, guard := _ }) (v := ?v7) rfl (by kernel_rfl) (by kernel_rfl) (by kernel_rfl) (fun _ _ _ h => h) (Or.inl ⟨by rfl, ?y7⟩) (by assumption) ?r7
  case y7 => (intro w hSw; go_simp; try with_reducible rfl)
  try simp only [Act.put, List.setIfInBounds_toArray, List.set_cons_zero, List.set_cons_succ]
  refine wpAnyH_ready (rs := [7]) (by kernel_rfl) (by simp) (AllReadyH.cons (o := _) rfl (fun K hK => ?_) AllReadyH.nil)
  go_simp
  (go_at_call 32; (with_reducible refine (hN2.out _).mono ?_); rintro x w5 ⟨rfl, hw5⟩; subst hw5)
  try go_wp2_with fail
  refine hK.out _ _ (trivial) (fun hHeld => ?_)
  clear hK K
  try simp only [Act.put, List.setIfInBounds_toArray, List.set_cons_zero, List.set_cons_succ]
  refine wpAnyH_take (i := 8) (oi := { dst := some 28, op := _, type := _, pos := _, after := _, guard := _ }) (v := ?v8) rfl (by kernel_rfl) (by kernel_rfl) (by kernel_rfl) (fun _ _ _ h => h) (Or.inl ⟨by rfl, ?y8⟩) (by assumption) ?r8
  case y8 => (intro w hSw; go_simp; try with_reducible rfl)
  try simp only [Act.put, List.setIfInBounds_toArray, List.set_cons_zero, List.set_cons_succ]
  refine wpAnyH_take (i := 9) (oi := { dst := some 5, op := _, type := _, pos := _, after := _, guard := _ }) (v := ?v9) rfl (by kernel_rfl) (by kernel_rfl) (by kernel_rfl) (fun _ _ _ h => h) (Or.inl ⟨by rfl, ?y9⟩) (by assumption) ?r9
  case y9 => (intro w hSw; go_simp; try with_reducible rfl)
  try simp only [Act.put, List.setIfInBounds_toArray, List.set_cons_zero, List.set_cons_succ]
  refine wpAnyH_take (i := 10) (oi := { dst := some 6, op := _, type := _, pos := _, after := _, guard := _ }) (v := ?v10) rfl (by kernel_rfl) (by kernel_rfl) (by kernel_rfl) (fun _ _ _ h => h) (Or.inl ⟨by rfl, ?y10⟩) (by assumption) ?r10
  case y10 => (intro w hSw; go_simp; try with_reducible rfl)
  try simp only [Act.put, List.setIfInBounds_toArray, List.set_cons_zero, List.set_cons_succ]
  refine wpAnyH_done (by kernel_rfl) ?_ _
  have H1 := Lib.hid (show RR w W.drew from H0.out.drewN 1)
  generalize W.drew = W1 at H1 ⊢
  clear hr hf hHeld
  have hr := H1.out.row
  have hf := H1.out.free
  go_wp2_with (first
    | (go_at_call 31; (with_reducible refine (HSUM.out _).mono ?_); rintro x w5 ⟨rfl, hw5⟩; subst hw5)
    | (go_at_call 32; (with_reducible refine (hN6.out _).mono ?_); rintro x w5 ⟨rfl, hw5⟩; subst hw5)
    | (go_at_call 33; (with_reducible refine (HAL.out _).mono ?_); rintro x w5 ⟨rfl, hw5⟩; subst hw5))
  obtain ⟨q1, q2⟩ := H1.out.done zeroI zeroI_ok
  exact bodyPost_ret (results_cell2 Try.results15 rfl (ld_some q1 (ldr_ip _ _ _))) rfl ⟨by rw [HR.out]; rfl, q2⟩

set_option maxRecDepth 100000 in
set_option maxHeartbeats 2000000 in
theorem rread5_part (s : List UInt8) (hs : s.length ≤ 100000) (h1 : ¬ s.length < 20) (h2 : ¬ by8 s 0 / 16 ≠ 4) (h3 : ¬ hdN s < 20) (h4 : s.length < hdN s) (w : World) :
    Calls Try.prog 15 #[.string (Str s)] w fun x w' => x = .returned (.tuple #[.agg (ipC (readV5 s).1).toArray, .int .i64 (readV5 s).2]) ∧ Below w.heap.size w w' := by
  have HR := Lib.hid (show readV5 s = (zeroI, 3) by
    have hE : hdE s = 3 := by unfold hdE; rw [if_neg h1, if_neg h2, if_neg h3, if_pos h4]
    unfold readV5; rw [why5_bad (by rw [hE]; omega), hE, if_neg (by omega)])
  have hsz := Str_size s
  have hq : ¬ (s.length : Int) < 20 := by omega
  have hp0 : 0 < s.length := by omega
  have hN2 : Hid (∀ W, Calls Try.prog 32 #[.string ((Str s).extract 2 4)] W fun x w' => x = .returned (.int .u64 (allN s)) ∧ w' = W) := Lib.hid fun W => rnum3 s hs 2 4 W
  have hN6 : Hid (∀ W, Calls Try.prog 32 #[.string ((Str s).extract 6 8)] W fun x w' => x = .returned (.int .u64 (wd s 6)) ∧ w' = W) := Lib.hid fun W => rnum3 s hs 6 8 W
  have hi0 : (0 : Int) < (s.length : Int) := by omega
  have hi4 : (4 : Int) ≤ (s.length : Int) := by omega
  have hi8 : (8 : Int) ≤ (s.length : Int) := by omega
  have e0 := Str_at s 0 (lt_zero hi0)
  have b0 := by8_lt s 0
  have ball := wd_lt s 2 (by omega)
  have b6 := wd_lt s 6 (by omega)
  have hdv : (by8 s 0 : Int) / 16 = ((by8 s 0 / 16 : Nat) : Int) := rfl
  have htm : (by8 s 0 : Int).tmod 16 = ((by8 s 0 % 16 : Nat) : Int) := rfl
  have hrm : (by8 s 0 : Int) % 16 = ((by8 s 0 % 16 : Nat) : Int) := rfl
  have hwv : IntKind.u8.wrap ((by8 s 0 / 16 : Nat) : Int) = ((by8 s 0 / 16 : Nat) : Int) := by simp only [IntKind.wrap_u8]; omega
  have hw8 : IntKind.u8.wrap ((by8 s 0 % 16 : Nat) : Int) = ((by8 s 0 % 16 : Nat) : Int) := by simp only [IntKind.wrap_u8]; omega
  have hwi : IntKind.i64.wrap ((by8 s 0 % 16 : Nat) : Int) = ((by8 s 0 % 16 : Nat) : Int) := by simp only [IntKind.wrap_i64]; omega
  have hw4 : IntKind.i64.wrap (4 * ((by8 s 0 % 16 : Nat) : Int)) = (hdN s : Int) := by unfold hdN; simp only [IntKind.wrap_i64]; omega
  have hw4' : 4 * ((by8 s 0 % 16 : Nat) : Int) = (hdN s : Int) := by unfold hdN; omega
  have hwa : IntKind.i64.wrap (allN s : Int) = (allN s : Int) := by unfold allN; simp only [IntKind.wrap_i64]; omega
  have hww : wrap64 (hdN s : Int) = (hdN s : Int) := IntWalk.wrap64_in _ (by unfold hdN; omega)
  have h60 : hdN s ≤ 60 := by unfold hdN; omega
  have hn0 : (0 : Int) ≤ (hdN s : Int) := by omega
  have hwn : IntKind.i64.wrap (hdN s : Int) = (hdN s : Int) := by simp only [IntKind.wrap_i64]; omega
  have hall : allN s < 65536 := ball
  have hwm : IntKind.i64.wrap ((allN s : Int) - (hdN s : Int)) = (allN s : Int) - (hdN s : Int) := by simp only [IntKind.wrap_i64]; omega
  have hv4 : (((by8 s 0 / 16 : Nat) : Int) != 4) = false := by simp; omega
  have hq3 : decide ((hdN s : Int) < 20) = false := by simp; omega
  have hq4 : decide ((s.length : Int) < (hdN s : Int)) = true := by simp; omega
  generalize by8 s 0 / 16 = v at *
  generalize by8 s 0 % 16 = m at *
  generalize by8 s 0 = x at *
  generalize hdN s = n at *
  generalize allN s = t at *
  generalize wd s 6 = fr at *
  clear hs b0 ball b6
  have H0 := Lib.hid (RR.start w)
  have hbz := bld_zeroI
  have hfok := fok_ip zeroI_ok
  have hf0 := free_made (w.alloc (.cells #[.int .i64 0, .int .i64 0, .int .i64 0, .int .i64 0, .bool false, .int .u8 0, .int .u8 0, .int .u8 0, .int .u8 0, .int .u8 0, .int .u8 0, .int .u8 0, .int .u8 0, .int .u8 0, .int .u8 0, .int .u8 0, .int .u8 0, .int .u8 0, .int .u8 0, .int .u8 0, .int .u8 0, .bool false, .int .u8 0, .int .u8 0, .int .u8 0, .int .u8 0, .int .u8 0, .int .u8 0, .int .u8 0, .int .u8 0, .int .u8 0, .int .u8 0, .int .u8 0, .int .u8 0, .int .u8 0, .int .u8 0, .int .u8 0, .int .u8 0, .bool false, .string ⟨#[]⟩] 26)) #[.int .i64 0, .int .i64 0, .int .i64 0, .int .i64 0, .bool false, .int .u8 0, .int .u8 0, .int .u8 0, .int .u8 0, .int .u8 0, .int .u8 0, .int .u8 0, .int .u8 0, .int .u8 0, .int .u8 0, .int .u8 0, .int .u8 0, .int .u8 0, .int .u8 0, .int .u8 0, .int .u8 0, .bool false, .int .u8 0, .int .u8 0, .int .u8 0, .int .u8 0, .int .u8 0, .int .u8 0, .int .u8 0, .int .u8 0, .int .u8 0, .int .u8 0, .int .u8 0, .int .u8 0, .int .u8 0, .int .u8 0, .int .u8 0, .int .u8 0, .bool false, .string ⟨#[]⟩] 26 40 (by simp)
  rw [show (w.alloc (.cells #[.int .i64 0, .int .i64 0, .int .i64 0, .int .i64 0, .bool false, .int .u8 0, .int .u8 0, .int .u8 0, .int .u8 0, .int .u8 0, .int .u8 0, .int .u8 0, .int .u8 0, .int .u8 0, .int .u8 0, .int .u8 0, .int .u8 0, .int .u8 0, .int .u8 0, .int .u8 0, .int .u8 0, .bool false, .int .u8 0, .int .u8 0, .int .u8 0, .int .u8 0, .int .u8 0, .int .u8 0, .int .u8 0, .int .u8 0, .int .u8 0, .int .u8 0, .int .u8 0, .int .u8 0, .int .u8 0, .int .u8 0, .int .u8 0, .int .u8 0, .bool false, .string ⟨#[]⟩] 26)).heap.size = w.heap.size + 1 by simp] at hf0
  rw [zeroI_cells] at H0
  go_enter Try.func15, Try.ntmps15
  go_upto_region 2 with (fail)
  generalize aggW ((w.alloc (.cells #[.int .i64 0, .int .i64 0, .int .i64 0, .int .i64 0, .bool false, .int .u8 0, .int .u8 0, .int .u8 0, .int .u8 0, .int .u8 0, .int .u8 0, .int .u8 0, .int .u8 0, .int .u8 0, .int .u8 0, .int .u8 0, .int .u8 0, .int .u8 0, .int .u8 0, .int .u8 0, .int .u8 0, .bool false, .int .u8 0, .int .u8 0, .int .u8 0, .int .u8 0, .int .u8 0, .int .u8 0, .int .u8 0, .int .u8 0, .int .u8 0, .int .u8 0, .int .u8 0, .int .u8 0, .int .u8 0, .int .u8 0, .int .u8 0, .int .u8 0, .bool false, .string ⟨#[]⟩] 26)).alloc (.cells #[.int .i64 0, .int .i64 0, .int .i64 0, .int .i64 0, .bool false, .int .u8 0, .int .u8 0, .int .u8 0, .int .u8 0, .int .u8 0, .int .u8 0, .int .u8 0, .int .u8 0, .int .u8 0, .int .u8 0, .int .u8 0, .int .u8 0, .int .u8 0, .int .u8 0, .int .u8 0, .int .u8 0, .bool false, .int .u8 0, .int .u8 0, .int .u8 0, .int .u8 0, .int .u8 0, .int .u8 0, .int .u8 0, .int .u8 0, .int .u8 0, .int .u8 0, .int .u8 0, .int .u8 0, .int .u8 0, .int .u8 0, .int .u8 0, .int .u8 0, .bool false, .string ⟨#[]⟩] 26)) (w.heap.size + 1) _ = W at H0 ⊢
  clear hf0
  have hr := H0.out.row
  have hf := H0.out.free
  go_wp2_with fail
  refine wp_region_held_drew (S := fun _ => True) (by kernel_rfl) (trivial) (fun hHeld => ?_)
  refine wpAnyH_take (i := 0) (oi := { dst := some 20, op := _, type := _, pos := _, after := _, guard := _ }) (v := ?v1) rfl (by kernel_rfl) (by kernel_rfl) (by kernel_rfl) (fun _ _ _ h => h) (Or.inl ⟨by rfl, ?y1⟩) (by assumption) ?r1
  case y1 => (intro w hSw; go_simp; try with_reducible rfl)
  try simp only [Act.put, List.setIfInBounds_toArray, List.set_cons_zero, List.set_cons_succ]
  refine wpAnyH_take (i := 1) (oi := { dst := some 21, op := _, type := _, pos := _, after := _, guard := _ }) (v := ?v2) rfl (by kernel_rfl) (by kernel_rfl) (by kernel_rfl) (fun _ _ _ h => h) (Or.inl ⟨by rfl, ?y2⟩) (by assumption) ?r2
  case y2 => (intro w hSw; go_simp; try with_reducible rfl)
  try simp only [Act.put, List.setIfInBounds_toArray, List.set_cons_zero, List.set_cons_succ]
  refine wpAnyH_take (i := 2) (oi := { dst := some 22, op := _, type := _, pos := _, after := _, guard := _ }) (v := ?v3) rfl (by kernel_rfl) (by kernel_rfl) (by kernel_rfl) (fun _ _ _ h => h) (Or.inl ⟨by rfl, ?y3⟩) (by assumption) ?r3
  case y3 => (intro w hSw; go_simp; try with_reducible rfl)
  try simp only [Act.put, List.setIfInBounds_toArray, List.set_cons_zero, List.set_cons_succ]
  refine wpAnyH_take (i := 3) (oi := { dst := some 23, op := _, type := _, pos := _, after := _, guard := _ }) (v := ?v4) rfl (by kernel_rfl) (by kernel_rfl) (by kernel_rfl) (fun _ _ _ h => h) (Or.inl ⟨by rfl, ?y4⟩) (by assumption) ?r4
  case y4 => (intro w hSw; go_simp; try with_reducible rfl)
  try simp only [Act.put, List.setIfInBounds_toArray, List.set_cons_zero, List.set_cons_succ]
  refine wpAnyH_take (i := 4) (oi := { dst := some 24, op := _, type := _, pos := _, after := _, guard := _ }) (v := ?v5) rfl (by kernel_rfl) (by kernel_rfl) (by kernel_rfl) (fun _ _ _ h => h) (Or.inl ⟨by rfl, ?y5⟩) (by assumption) ?r5
  case y5 => (intro w hSw; go_simp; try with_reducible rfl)
  try simp only [Act.put, List.setIfInBounds_toArray, List.set_cons_zero, List.set_cons_succ]
  refine wpAnyH_take (i := 5) (oi := { dst := some 25, op := _, type := _, pos := _, after := _, guard := _ }) (v := ?v6) rfl (by kernel_rfl) (by kernel_rfl) (by kernel_rfl) (fun _ _ _ h => h) (Or.inl ⟨by rfl, ?y6⟩) (by assumption) ?r6
  case y6 => (intro w hSw; go_simp; try with_reducible rfl)
  try simp only [Act.put, List.setIfInBounds_toArray, List.set_cons_zero, List.set_cons_succ]
  refine wpAnyH_take (i := 6) (oi := { dst := some 26, op := _, type := _, pos := _, after := _, guard := _ }) (v := ?v7) rfl (by kernel_rfl) (by kernel_rfl) (by kernel_rfl) (fun _ _ _ h => h) (Or.inl ⟨by rfl, ?y7⟩) (by assumption) ?r7
  case y7 => (intro w hSw; go_simp; try with_reducible rfl)
  try simp only [Act.put, List.setIfInBounds_toArray, List.set_cons_zero, List.set_cons_succ]
  refine wpAnyH_ready (rs := [7]) (by kernel_rfl) (by simp) (AllReadyH.cons (o := _) rfl (fun K hK => ?_) AllReadyH.nil)
  go_simp
  (go_at_call 32; (with_reducible refine (hN2.out _).mono ?_); rintro x w5 ⟨rfl, hw5⟩; subst hw5)
  try go_wp2_with fail
  refine hK.out _ _ (trivial) (fun hHeld => ?_)
  clear hK K
  try simp only [Act.put, List.setIfInBounds_toArray, List.set_cons_zero, List.set_cons_succ]
  refine wpAnyH_take (i := 8) (oi := { dst := some 28, op := _, type := _, pos := _, after := _, guard := _ }) (v := ?v8) rfl (by kernel_rfl) (by kernel_rfl) (by kernel_rfl) (fun _ _ _ h => h) (Or.inl ⟨by rfl, ?y8⟩) (by assumption) ?r8
  case y8 => (intro w hSw; go_simp; try with_reducible rfl)
  try simp only [Act.put, List.setIfInBounds_toArray, List.set_cons_zero, List.set_cons_succ]
  refine wpAnyH_take (i := 9) (oi := { dst := some 5, op := _, type := _, pos := _, after := _, guard := _ }) (v := ?v9) rfl (by kernel_rfl) (by kernel_rfl) (by kernel_rfl) (fun _ _ _ h => h) (Or.inl ⟨by rfl, ?y9⟩) (by assumption) ?r9
  case y9 => (intro w hSw; go_simp; try with_reducible rfl)
  try simp only [Act.put, List.setIfInBounds_toArray, List.set_cons_zero, List.set_cons_succ]
  refine wpAnyH_take (i := 10) (oi := { dst := some 6, op := _, type := _, pos := _, after := _, guard := _ }) (v := ?v10) rfl (by kernel_rfl) (by kernel_rfl) (by kernel_rfl) (fun _ _ _ h => h) (Or.inl ⟨by rfl, ?y10⟩) (by assumption) ?r10
  case y10 => (intro w hSw; go_simp; try with_reducible rfl)
  try simp only [Act.put, List.setIfInBounds_toArray, List.set_cons_zero, List.set_cons_succ]
  refine wpAnyH_done (by kernel_rfl) ?_ _
  have H1 := Lib.hid (show RR w W.drew from H0.out.drewN 1)
  generalize W.drew = W1 at H1 ⊢
  clear hr hf hHeld
  have hr := H1.out.row
  have hf := H1.out.free
  go_wp2_with (first
    | (go_at_call 31; (with_reducible refine (HSUM.out _).mono ?_); rintro x w5 ⟨rfl, hw5⟩; subst hw5)
    | (go_at_call 32; (with_reducible refine (hN6.out _).mono ?_); rintro x w5 ⟨rfl, hw5⟩; subst hw5)
    | (go_at_call 33; (with_reducible refine (HAL.out _).mono ?_); rintro x w5 ⟨rfl, hw5⟩; subst hw5))
  obtain ⟨q1, q2⟩ := H1.out.done zeroI zeroI_ok
  exact bodyPost_ret (results_cell2 Try.results15 rfl (ld_some q1 (ldr_ip _ _ _))) rfl ⟨by rw [HR.out]; rfl, q2⟩

set_option maxRecDepth 100000 in
set_option maxHeartbeats 2000000 in
theorem rread5_sum (s : List UInt8) (hs : s.length ≤ 100000) (h1 : ¬ s.length < 20) (h2 : ¬ by8 s 0 / 16 ≠ 4) (h3 : ¬ hdN s < 20) (h4 : ¬ s.length < hdN s) (h5 : foldN (wsum (s.take (hdN s))) ≠ 65535) (w : World) :
    Calls Try.prog 15 #[.string (Str s)] w fun x w' => x = .returned (.tuple #[.agg (ipC (readV5 s).1).toArray, .int .i64 (readV5 s).2]) ∧ Below w.heap.size w w' := by
  have HR := Lib.hid (show readV5 s = (zeroI, 4) by
    have hE : hdE s = 4 := by unfold hdE; rw [if_neg h1, if_neg h2, if_neg h3, if_neg h4, if_pos h5]
    unfold readV5; rw [why5_bad (by rw [hE]; omega), hE, if_neg (by omega)])
  have hsz := Str_size s
  have hq : ¬ (s.length : Int) < 20 := by omega
  have hp0 : 0 < s.length := by omega
  have hN2 : Hid (∀ W, Calls Try.prog 32 #[.string ((Str s).extract 2 4)] W fun x w' => x = .returned (.int .u64 (allN s)) ∧ w' = W) := Lib.hid fun W => rnum3 s hs 2 4 W
  have hN6 : Hid (∀ W, Calls Try.prog 32 #[.string ((Str s).extract 6 8)] W fun x w' => x = .returned (.int .u64 (wd s 6)) ∧ w' = W) := Lib.hid fun W => rnum3 s hs 6 8 W
  have hi0 : (0 : Int) < (s.length : Int) := by omega
  have hi4 : (4 : Int) ≤ (s.length : Int) := by omega
  have hi8 : (8 : Int) ≤ (s.length : Int) := by omega
  have e0 := Str_at s 0 (lt_zero hi0)
  have b0 := by8_lt s 0
  have ball := wd_lt s 2 (by omega)
  have b6 := wd_lt s 6 (by omega)
  have hdv : (by8 s 0 : Int) / 16 = ((by8 s 0 / 16 : Nat) : Int) := rfl
  have htm : (by8 s 0 : Int).tmod 16 = ((by8 s 0 % 16 : Nat) : Int) := rfl
  have hrm : (by8 s 0 : Int) % 16 = ((by8 s 0 % 16 : Nat) : Int) := rfl
  have hwv : IntKind.u8.wrap ((by8 s 0 / 16 : Nat) : Int) = ((by8 s 0 / 16 : Nat) : Int) := by simp only [IntKind.wrap_u8]; omega
  have hw8 : IntKind.u8.wrap ((by8 s 0 % 16 : Nat) : Int) = ((by8 s 0 % 16 : Nat) : Int) := by simp only [IntKind.wrap_u8]; omega
  have hwi : IntKind.i64.wrap ((by8 s 0 % 16 : Nat) : Int) = ((by8 s 0 % 16 : Nat) : Int) := by simp only [IntKind.wrap_i64]; omega
  have hw4 : IntKind.i64.wrap (4 * ((by8 s 0 % 16 : Nat) : Int)) = (hdN s : Int) := by unfold hdN; simp only [IntKind.wrap_i64]; omega
  have hw4' : 4 * ((by8 s 0 % 16 : Nat) : Int) = (hdN s : Int) := by unfold hdN; omega
  have hwa : IntKind.i64.wrap (allN s : Int) = (allN s : Int) := by unfold allN; simp only [IntKind.wrap_i64]; omega
  have hww : wrap64 (hdN s : Int) = (hdN s : Int) := IntWalk.wrap64_in _ (by unfold hdN; omega)
  have h60 : hdN s ≤ 60 := by unfold hdN; omega
  have hn0 : (0 : Int) ≤ (hdN s : Int) := by omega
  have hwn : IntKind.i64.wrap (hdN s : Int) = (hdN s : Int) := by simp only [IntKind.wrap_i64]; omega
  have hall : allN s < 65536 := ball
  have hwm : IntKind.i64.wrap ((allN s : Int) - (hdN s : Int)) = (allN s : Int) - (hdN s : Int) := by simp only [IntKind.wrap_i64]; omega
  have hv4 : (((by8 s 0 / 16 : Nat) : Int) != 4) = false := by simp; omega
  have hq3 : decide ((hdN s : Int) < 20) = false := by simp; omega
  have hq4 : decide ((s.length : Int) < (hdN s : Int)) = false := by simp; omega
  have hnl : (hdN s : Int) ≤ (s.length : Int) := by omega
  have hex : (Str s).extract 0 (hdN s) = Str (s.take (hdN s)) := by rw [Str_extract]; simp
  have HSUM : Hid (∀ W, Calls Try.prog 31 #[.string (Str (s.take (hdN s)))] W fun e w' => e = .returned (.int .i64 (foldN (wsum (s.take (hdN s))))) ∧ w' = W) := Lib.hid fun W => (rsum_any (s.take (hdN s)) (by simp; omega) W).mono fun _ _ h => ⟨h.1, h.2.symm⟩
  have hq5 : ((foldN (wsum (s.take (hdN s))) : Int) != 65535) = true := by simp; omega
  generalize foldN (wsum (s.take (hdN s))) = sm at *
  generalize Str (s.take (hdN s)) = SH at *
  generalize by8 s 0 / 16 = v at *
  generalize by8 s 0 % 16 = m at *
  generalize by8 s 0 = x at *
  generalize hdN s = n at *
  generalize allN s = t at *
  generalize wd s 6 = fr at *
  clear hs b0 ball b6
  have H0 := Lib.hid (RR.start w)
  have hbz := bld_zeroI
  have hfok := fok_ip zeroI_ok
  have hf0 := free_made (w.alloc (.cells #[.int .i64 0, .int .i64 0, .int .i64 0, .int .i64 0, .bool false, .int .u8 0, .int .u8 0, .int .u8 0, .int .u8 0, .int .u8 0, .int .u8 0, .int .u8 0, .int .u8 0, .int .u8 0, .int .u8 0, .int .u8 0, .int .u8 0, .int .u8 0, .int .u8 0, .int .u8 0, .int .u8 0, .bool false, .int .u8 0, .int .u8 0, .int .u8 0, .int .u8 0, .int .u8 0, .int .u8 0, .int .u8 0, .int .u8 0, .int .u8 0, .int .u8 0, .int .u8 0, .int .u8 0, .int .u8 0, .int .u8 0, .int .u8 0, .int .u8 0, .bool false, .string ⟨#[]⟩] 26)) #[.int .i64 0, .int .i64 0, .int .i64 0, .int .i64 0, .bool false, .int .u8 0, .int .u8 0, .int .u8 0, .int .u8 0, .int .u8 0, .int .u8 0, .int .u8 0, .int .u8 0, .int .u8 0, .int .u8 0, .int .u8 0, .int .u8 0, .int .u8 0, .int .u8 0, .int .u8 0, .int .u8 0, .bool false, .int .u8 0, .int .u8 0, .int .u8 0, .int .u8 0, .int .u8 0, .int .u8 0, .int .u8 0, .int .u8 0, .int .u8 0, .int .u8 0, .int .u8 0, .int .u8 0, .int .u8 0, .int .u8 0, .int .u8 0, .int .u8 0, .bool false, .string ⟨#[]⟩] 26 40 (by simp)
  rw [show (w.alloc (.cells #[.int .i64 0, .int .i64 0, .int .i64 0, .int .i64 0, .bool false, .int .u8 0, .int .u8 0, .int .u8 0, .int .u8 0, .int .u8 0, .int .u8 0, .int .u8 0, .int .u8 0, .int .u8 0, .int .u8 0, .int .u8 0, .int .u8 0, .int .u8 0, .int .u8 0, .int .u8 0, .int .u8 0, .bool false, .int .u8 0, .int .u8 0, .int .u8 0, .int .u8 0, .int .u8 0, .int .u8 0, .int .u8 0, .int .u8 0, .int .u8 0, .int .u8 0, .int .u8 0, .int .u8 0, .int .u8 0, .int .u8 0, .int .u8 0, .int .u8 0, .bool false, .string ⟨#[]⟩] 26)).heap.size = w.heap.size + 1 by simp] at hf0
  rw [zeroI_cells] at H0
  go_enter Try.func15, Try.ntmps15
  go_upto_region 2 with (fail)
  generalize aggW ((w.alloc (.cells #[.int .i64 0, .int .i64 0, .int .i64 0, .int .i64 0, .bool false, .int .u8 0, .int .u8 0, .int .u8 0, .int .u8 0, .int .u8 0, .int .u8 0, .int .u8 0, .int .u8 0, .int .u8 0, .int .u8 0, .int .u8 0, .int .u8 0, .int .u8 0, .int .u8 0, .int .u8 0, .int .u8 0, .bool false, .int .u8 0, .int .u8 0, .int .u8 0, .int .u8 0, .int .u8 0, .int .u8 0, .int .u8 0, .int .u8 0, .int .u8 0, .int .u8 0, .int .u8 0, .int .u8 0, .int .u8 0, .int .u8 0, .int .u8 0, .int .u8 0, .bool false, .string ⟨#[]⟩] 26)).alloc (.cells #[.int .i64 0, .int .i64 0, .int .i64 0, .int .i64 0, .bool false, .int .u8 0, .int .u8 0, .int .u8 0, .int .u8 0, .int .u8 0, .int .u8 0, .int .u8 0, .int .u8 0, .int .u8 0, .int .u8 0, .int .u8 0, .int .u8 0, .int .u8 0, .int .u8 0, .int .u8 0, .int .u8 0, .bool false, .int .u8 0, .int .u8 0, .int .u8 0, .int .u8 0, .int .u8 0, .int .u8 0, .int .u8 0, .int .u8 0, .int .u8 0, .int .u8 0, .int .u8 0, .int .u8 0, .int .u8 0, .int .u8 0, .int .u8 0, .int .u8 0, .bool false, .string ⟨#[]⟩] 26)) (w.heap.size + 1) _ = W at H0 ⊢
  clear hf0
  have hr := H0.out.row
  have hf := H0.out.free
  go_wp2_with fail
  refine wp_region_held_drew (S := fun _ => True) (by kernel_rfl) (trivial) (fun hHeld => ?_)
  refine wpAnyH_take (i := 0) (oi := { dst := some 20, op := _, type := _, pos := _, after := _, guard := _ }) (v := ?v1) rfl (by kernel_rfl) (by kernel_rfl) (by kernel_rfl) (fun _ _ _ h => h) (Or.inl ⟨by rfl, ?y1⟩) (by assumption) ?r1
  case y1 => (intro w hSw; go_simp; try with_reducible rfl)
  try simp only [Act.put, List.setIfInBounds_toArray, List.set_cons_zero, List.set_cons_succ]
  refine wpAnyH_take (i := 1) (oi := { dst := some 21, op := _, type := _, pos := _, after := _, guard := _ }) (v := ?v2) rfl (by kernel_rfl) (by kernel_rfl) (by kernel_rfl) (fun _ _ _ h => h) (Or.inl ⟨by rfl, ?y2⟩) (by assumption) ?r2
  case y2 => (intro w hSw; go_simp; try with_reducible rfl)
  try simp only [Act.put, List.setIfInBounds_toArray, List.set_cons_zero, List.set_cons_succ]
  refine wpAnyH_take (i := 2) (oi := { dst := some 22, op := _, type := _, pos := _, after := _, guard := _ }) (v := ?v3) rfl (by kernel_rfl) (by kernel_rfl) (by kernel_rfl) (fun _ _ _ h => h) (Or.inl ⟨by rfl, ?y3⟩) (by assumption) ?r3
  case y3 => (intro w hSw; go_simp; try with_reducible rfl)
  try simp only [Act.put, List.setIfInBounds_toArray, List.set_cons_zero, List.set_cons_succ]
  refine wpAnyH_take (i := 3) (oi := { dst := some 23, op := _, type := _, pos := _, after := _, guard := _ }) (v := ?v4) rfl (by kernel_rfl) (by kernel_rfl) (by kernel_rfl) (fun _ _ _ h => h) (Or.inl ⟨by rfl, ?y4⟩) (by assumption) ?r4
  case y4 => (intro w hSw; go_simp; try with_reducible rfl)
  try simp only [Act.put, List.setIfInBounds_toArray, List.set_cons_zero, List.set_cons_succ]
  refine wpAnyH_take (i := 4) (oi := { dst := some 24, op := _, type := _, pos := _, after := _, guard := _ }) (v := ?v5) rfl (by kernel_rfl) (by kernel_rfl) (by kernel_rfl) (fun _ _ _ h => h) (Or.inl ⟨by rfl, ?y5⟩) (by assumption) ?r5
  case y5 => (intro w hSw; go_simp; try with_reducible rfl)
  try simp only [Act.put, List.setIfInBounds_toArray, List.set_cons_zero, List.set_cons_succ]
  refine wpAnyH_take (i := 5) (oi := { dst := some 25, op := _, type := _, pos := _, after := _, guard := _ }) (v := ?v6) rfl (by kernel_rfl) (by kernel_rfl) (by kernel_rfl) (fun _ _ _ h => h) (Or.inl ⟨by rfl, ?y6⟩) (by assumption) ?r6
  case y6 => (intro w hSw; go_simp; try with_reducible rfl)
  try simp only [Act.put, List.setIfInBounds_toArray, List.set_cons_zero, List.set_cons_succ]
  refine wpAnyH_take (i := 6) (oi := { dst := some 26, op := _, type := _, pos := _, after := _, guard := _ }) (v := ?v7) rfl (by kernel_rfl) (by kernel_rfl) (by kernel_rfl) (fun _ _ _ h => h) (Or.inl ⟨by rfl, ?y7⟩) (by assumption) ?r7
  case y7 => (intro w hSw; go_simp; try with_reducible rfl)
  try simp only [Act.put, List.setIfInBounds_toArray, List.set_cons_zero, List.set_cons_succ]
  refine wpAnyH_ready (rs := [7]) (by kernel_rfl) (by simp) (AllReadyH.cons (o := _) rfl (fun K hK => ?_) AllReadyH.nil)
  go_simp
  (go_at_call 32; (with_reducible refine (hN2.out _).mono ?_); rintro x w5 ⟨rfl, hw5⟩; subst hw5)
  try go_wp2_with fail
  refine hK.out _ _ (trivial) (fun hHeld => ?_)
  clear hK K
  try simp only [Act.put, List.setIfInBounds_toArray, List.set_cons_zero, List.set_cons_succ]
  refine wpAnyH_take (i := 8) (oi := { dst := some 28, op := _, type := _, pos := _, after := _, guard := _ }) (v := ?v8) rfl (by kernel_rfl) (by kernel_rfl) (by kernel_rfl) (fun _ _ _ h => h) (Or.inl ⟨by rfl, ?y8⟩) (by assumption) ?r8
  case y8 => (intro w hSw; go_simp; try with_reducible rfl)
  try simp only [Act.put, List.setIfInBounds_toArray, List.set_cons_zero, List.set_cons_succ]
  refine wpAnyH_take (i := 9) (oi := { dst := some 5, op := _, type := _, pos := _, after := _, guard := _ }) (v := ?v9) rfl (by kernel_rfl) (by kernel_rfl) (by kernel_rfl) (fun _ _ _ h => h) (Or.inl ⟨by rfl, ?y9⟩) (by assumption) ?r9
  case y9 => (intro w hSw; go_simp; try with_reducible rfl)
  try simp only [Act.put, List.setIfInBounds_toArray, List.set_cons_zero, List.set_cons_succ]
  refine wpAnyH_take (i := 10) (oi := { dst := some 6, op := _, type := _, pos := _, after := _, guard := _ }) (v := ?v10) rfl (by kernel_rfl) (by kernel_rfl) (by kernel_rfl) (fun _ _ _ h => h) (Or.inl ⟨by rfl, ?y10⟩) (by assumption) ?r10
  case y10 => (intro w hSw; go_simp; try with_reducible rfl)
  try simp only [Act.put, List.setIfInBounds_toArray, List.set_cons_zero, List.set_cons_succ]
  refine wpAnyH_done (by kernel_rfl) ?_ _
  have H1 := Lib.hid (show RR w W.drew from H0.out.drewN 1)
  generalize W.drew = W1 at H1 ⊢
  clear hr hf hHeld
  have hr := H1.out.row
  have hf := H1.out.free
  go_wp2_with (first
    | (go_at_call 31; (with_reducible refine (HSUM.out _).mono ?_); rintro x w5 ⟨rfl, hw5⟩; subst hw5)
    | (go_at_call 32; (with_reducible refine (hN6.out _).mono ?_); rintro x w5 ⟨rfl, hw5⟩; subst hw5)
    | (go_at_call 33; (with_reducible refine (HAL.out _).mono ?_); rintro x w5 ⟨rfl, hw5⟩; subst hw5))
  obtain ⟨q1, q2⟩ := H1.out.done zeroI zeroI_ok
  exact bodyPost_ret (results_cell2 Try.results15 rfl (ld_some q1 (ldr_ip _ _ _))) rfl ⟨by rw [HR.out]; rfl, q2⟩

set_option maxRecDepth 100000 in
set_option maxHeartbeats 2000000 in
theorem rread5_tot (s : List UInt8) (hs : s.length ≤ 100000) (h1 : ¬ s.length < 20) (h2 : ¬ by8 s 0 / 16 ≠ 4) (h3 : ¬ hdN s < 20) (h4 : ¬ s.length < hdN s) (h5 : foldN (wsum (s.take (hdN s))) = 65535) (h6 : allN s < hdN s) (w : World) :
    Calls Try.prog 15 #[.string (Str s)] w fun x w' => x = .returned (.tuple #[.agg (ipC (readV5 s).1).toArray, .int .i64 (readV5 s).2]) ∧ Below w.heap.size w w' := by
  have hE : hdE s = 0 := hdE_of (by omega) (by omega) (by omega) (by omega) h5
  have HR := Lib.hid (show readV5 s = (zeroI, 2) by
    unfold readV5; rw [why5_hd hE, show bdE s = 2 by unfold bdE; rw [if_pos h6], if_neg (by omega)])
  have hsz := Str_size s
  have hq : ¬ (s.length : Int) < 20 := by omega
  have hp0 : 0 < s.length := by omega
  have hN2 : Hid (∀ W, Calls Try.prog 32 #[.string ((Str s).extract 2 4)] W fun x w' => x = .returned (.int .u64 (allN s)) ∧ w' = W) := Lib.hid fun W => rnum3 s hs 2 4 W
  have hN6 : Hid (∀ W, Calls Try.prog 32 #[.string ((Str s).extract 6 8)] W fun x w' => x = .returned (.int .u64 (wd s 6)) ∧ w' = W) := Lib.hid fun W => rnum3 s hs 6 8 W
  have hi0 : (0 : Int) < (s.length : Int) := by omega
  have hi4 : (4 : Int) ≤ (s.length : Int) := by omega
  have hi8 : (8 : Int) ≤ (s.length : Int) := by omega
  have e0 := Str_at s 0 (lt_zero hi0)
  have b0 := by8_lt s 0
  have ball := wd_lt s 2 (by omega)
  have b6 := wd_lt s 6 (by omega)
  have hdv : (by8 s 0 : Int) / 16 = ((by8 s 0 / 16 : Nat) : Int) := rfl
  have htm : (by8 s 0 : Int).tmod 16 = ((by8 s 0 % 16 : Nat) : Int) := rfl
  have hrm : (by8 s 0 : Int) % 16 = ((by8 s 0 % 16 : Nat) : Int) := rfl
  have hwv : IntKind.u8.wrap ((by8 s 0 / 16 : Nat) : Int) = ((by8 s 0 / 16 : Nat) : Int) := by simp only [IntKind.wrap_u8]; omega
  have hw8 : IntKind.u8.wrap ((by8 s 0 % 16 : Nat) : Int) = ((by8 s 0 % 16 : Nat) : Int) := by simp only [IntKind.wrap_u8]; omega
  have hwi : IntKind.i64.wrap ((by8 s 0 % 16 : Nat) : Int) = ((by8 s 0 % 16 : Nat) : Int) := by simp only [IntKind.wrap_i64]; omega
  have hw4 : IntKind.i64.wrap (4 * ((by8 s 0 % 16 : Nat) : Int)) = (hdN s : Int) := by unfold hdN; simp only [IntKind.wrap_i64]; omega
  have hw4' : 4 * ((by8 s 0 % 16 : Nat) : Int) = (hdN s : Int) := by unfold hdN; omega
  have hwa : IntKind.i64.wrap (allN s : Int) = (allN s : Int) := by unfold allN; simp only [IntKind.wrap_i64]; omega
  have hww : wrap64 (hdN s : Int) = (hdN s : Int) := IntWalk.wrap64_in _ (by unfold hdN; omega)
  have h60 : hdN s ≤ 60 := by unfold hdN; omega
  have hn0 : (0 : Int) ≤ (hdN s : Int) := by omega
  have hwn : IntKind.i64.wrap (hdN s : Int) = (hdN s : Int) := by simp only [IntKind.wrap_i64]; omega
  have hall : allN s < 65536 := ball
  have hwm : IntKind.i64.wrap ((allN s : Int) - (hdN s : Int)) = (allN s : Int) - (hdN s : Int) := by simp only [IntKind.wrap_i64]; omega
  have hv4 : (((by8 s 0 / 16 : Nat) : Int) != 4) = false := by simp; omega
  have hq3 : decide ((hdN s : Int) < 20) = false := by simp; omega
  have hq4 : decide ((s.length : Int) < (hdN s : Int)) = false := by simp; omega
  have hnl : (hdN s : Int) ≤ (s.length : Int) := by omega
  have hex : (Str s).extract 0 (hdN s) = Str (s.take (hdN s)) := by rw [Str_extract]; simp
  have HSUM : Hid (∀ W, Calls Try.prog 31 #[.string (Str (s.take (hdN s)))] W fun e w' => e = .returned (.int .i64 (foldN (wsum (s.take (hdN s))))) ∧ w' = W) := Lib.hid fun W => (rsum_any (s.take (hdN s)) (by simp; omega) W).mono fun _ _ h => ⟨h.1, h.2.symm⟩
  have hq5 : ((foldN (wsum (s.take (hdN s))) : Int) != 65535) = false := by simp; omega
  generalize foldN (wsum (s.take (hdN s))) = sm at *
  generalize Str (s.take (hdN s)) = SH at *
  have hq6 : decide ((allN s : Int) < (hdN s : Int)) = true := by simp; omega
  generalize by8 s 0 / 16 = v at *
  generalize by8 s 0 % 16 = m at *
  generalize by8 s 0 = x at *
  generalize hdN s = n at *
  generalize allN s = t at *
  generalize wd s 6 = fr at *
  clear hs b0 ball b6
  have H0 := Lib.hid (RR.start w)
  have hbz := bld_zeroI
  have hfok := fok_ip zeroI_ok
  have hf0 := free_made (w.alloc (.cells #[.int .i64 0, .int .i64 0, .int .i64 0, .int .i64 0, .bool false, .int .u8 0, .int .u8 0, .int .u8 0, .int .u8 0, .int .u8 0, .int .u8 0, .int .u8 0, .int .u8 0, .int .u8 0, .int .u8 0, .int .u8 0, .int .u8 0, .int .u8 0, .int .u8 0, .int .u8 0, .int .u8 0, .bool false, .int .u8 0, .int .u8 0, .int .u8 0, .int .u8 0, .int .u8 0, .int .u8 0, .int .u8 0, .int .u8 0, .int .u8 0, .int .u8 0, .int .u8 0, .int .u8 0, .int .u8 0, .int .u8 0, .int .u8 0, .int .u8 0, .bool false, .string ⟨#[]⟩] 26)) #[.int .i64 0, .int .i64 0, .int .i64 0, .int .i64 0, .bool false, .int .u8 0, .int .u8 0, .int .u8 0, .int .u8 0, .int .u8 0, .int .u8 0, .int .u8 0, .int .u8 0, .int .u8 0, .int .u8 0, .int .u8 0, .int .u8 0, .int .u8 0, .int .u8 0, .int .u8 0, .int .u8 0, .bool false, .int .u8 0, .int .u8 0, .int .u8 0, .int .u8 0, .int .u8 0, .int .u8 0, .int .u8 0, .int .u8 0, .int .u8 0, .int .u8 0, .int .u8 0, .int .u8 0, .int .u8 0, .int .u8 0, .int .u8 0, .int .u8 0, .bool false, .string ⟨#[]⟩] 26 40 (by simp)
  rw [show (w.alloc (.cells #[.int .i64 0, .int .i64 0, .int .i64 0, .int .i64 0, .bool false, .int .u8 0, .int .u8 0, .int .u8 0, .int .u8 0, .int .u8 0, .int .u8 0, .int .u8 0, .int .u8 0, .int .u8 0, .int .u8 0, .int .u8 0, .int .u8 0, .int .u8 0, .int .u8 0, .int .u8 0, .int .u8 0, .bool false, .int .u8 0, .int .u8 0, .int .u8 0, .int .u8 0, .int .u8 0, .int .u8 0, .int .u8 0, .int .u8 0, .int .u8 0, .int .u8 0, .int .u8 0, .int .u8 0, .int .u8 0, .int .u8 0, .int .u8 0, .int .u8 0, .bool false, .string ⟨#[]⟩] 26)).heap.size = w.heap.size + 1 by simp] at hf0
  rw [zeroI_cells] at H0
  go_enter Try.func15, Try.ntmps15
  go_upto_region 2 with (fail)
  generalize aggW ((w.alloc (.cells #[.int .i64 0, .int .i64 0, .int .i64 0, .int .i64 0, .bool false, .int .u8 0, .int .u8 0, .int .u8 0, .int .u8 0, .int .u8 0, .int .u8 0, .int .u8 0, .int .u8 0, .int .u8 0, .int .u8 0, .int .u8 0, .int .u8 0, .int .u8 0, .int .u8 0, .int .u8 0, .int .u8 0, .bool false, .int .u8 0, .int .u8 0, .int .u8 0, .int .u8 0, .int .u8 0, .int .u8 0, .int .u8 0, .int .u8 0, .int .u8 0, .int .u8 0, .int .u8 0, .int .u8 0, .int .u8 0, .int .u8 0, .int .u8 0, .int .u8 0, .bool false, .string ⟨#[]⟩] 26)).alloc (.cells #[.int .i64 0, .int .i64 0, .int .i64 0, .int .i64 0, .bool false, .int .u8 0, .int .u8 0, .int .u8 0, .int .u8 0, .int .u8 0, .int .u8 0, .int .u8 0, .int .u8 0, .int .u8 0, .int .u8 0, .int .u8 0, .int .u8 0, .int .u8 0, .int .u8 0, .int .u8 0, .int .u8 0, .bool false, .int .u8 0, .int .u8 0, .int .u8 0, .int .u8 0, .int .u8 0, .int .u8 0, .int .u8 0, .int .u8 0, .int .u8 0, .int .u8 0, .int .u8 0, .int .u8 0, .int .u8 0, .int .u8 0, .int .u8 0, .int .u8 0, .bool false, .string ⟨#[]⟩] 26)) (w.heap.size + 1) _ = W at H0 ⊢
  clear hf0
  have hr := H0.out.row
  have hf := H0.out.free
  go_wp2_with fail
  refine wp_region_held_drew (S := fun _ => True) (by kernel_rfl) (trivial) (fun hHeld => ?_)
  refine wpAnyH_take (i := 0) (oi := { dst := some 20, op := _, type := _, pos := _, after := _, guard := _ }) (v := ?v1) rfl (by kernel_rfl) (by kernel_rfl) (by kernel_rfl) (fun _ _ _ h => h) (Or.inl ⟨by rfl, ?y1⟩) (by assumption) ?r1
  case y1 => (intro w hSw; go_simp; try with_reducible rfl)
  try simp only [Act.put, List.setIfInBounds_toArray, List.set_cons_zero, List.set_cons_succ]
  refine wpAnyH_take (i := 1) (oi := { dst := some 21, op := _, type := _, pos := _, after := _, guard := _ }) (v := ?v2) rfl (by kernel_rfl) (by kernel_rfl) (by kernel_rfl) (fun _ _ _ h => h) (Or.inl ⟨by rfl, ?y2⟩) (by assumption) ?r2
  case y2 => (intro w hSw; go_simp; try with_reducible rfl)
  try simp only [Act.put, List.setIfInBounds_toArray, List.set_cons_zero, List.set_cons_succ]
  refine wpAnyH_take (i := 2) (oi := { dst := some 22, op := _, type := _, pos := _, after := _, guard := _ }) (v := ?v3) rfl (by kernel_rfl) (by kernel_rfl) (by kernel_rfl) (fun _ _ _ h => h) (Or.inl ⟨by rfl, ?y3⟩) (by assumption) ?r3
  case y3 => (intro w hSw; go_simp; try with_reducible rfl)
  try simp only [Act.put, List.setIfInBounds_toArray, List.set_cons_zero, List.set_cons_succ]
  refine wpAnyH_take (i := 3) (oi := { dst := some 23, op := _, type := _, pos := _, after := _, guard := _ }) (v := ?v4) rfl (by kernel_rfl) (by kernel_rfl) (by kernel_rfl) (fun _ _ _ h => h) (Or.inl ⟨by rfl, ?y4⟩) (by assumption) ?r4
  case y4 => (intro w hSw; go_simp; try with_reducible rfl)
  try simp only [Act.put, List.setIfInBounds_toArray, List.set_cons_zero, List.set_cons_succ]
  refine wpAnyH_take (i := 4) (oi := { dst := some 24, op := _, type := _, pos := _, after := _, guard := _ }) (v := ?v5) rfl (by kernel_rfl) (by kernel_rfl) (by kernel_rfl) (fun _ _ _ h => h) (Or.inl ⟨by rfl, ?y5⟩) (by assumption) ?r5
  case y5 => (intro w hSw; go_simp; try with_reducible rfl)
  try simp only [Act.put, List.setIfInBounds_toArray, List.set_cons_zero, List.set_cons_succ]
  refine wpAnyH_take (i := 5) (oi := { dst := some 25, op := _, type := _, pos := _, after := _, guard := _ }) (v := ?v6) rfl (by kernel_rfl) (by kernel_rfl) (by kernel_rfl) (fun _ _ _ h => h) (Or.inl ⟨by rfl, ?y6⟩) (by assumption) ?r6
  case y6 => (intro w hSw; go_simp; try with_reducible rfl)
  try simp only [Act.put, List.setIfInBounds_toArray, List.set_cons_zero, List.set_cons_succ]
  refine wpAnyH_take (i := 6) (oi := { dst := some 26, op := _, type := _, pos := _, after := _, guard := _ }) (v := ?v7) rfl (by kernel_rfl) (by kernel_rfl) (by kernel_rfl) (fun _ _ _ h => h) (Or.inl ⟨by rfl, ?y7⟩) (by assumption) ?r7
  case y7 => (intro w hSw; go_simp; try with_reducible rfl)
  try simp only [Act.put, List.setIfInBounds_toArray, List.set_cons_zero, List.set_cons_succ]
  refine wpAnyH_ready (rs := [7]) (by kernel_rfl) (by simp) (AllReadyH.cons (o := _) rfl (fun K hK => ?_) AllReadyH.nil)
  go_simp
  (go_at_call 32; (with_reducible refine (hN2.out _).mono ?_); rintro x w5 ⟨rfl, hw5⟩; subst hw5)
  try go_wp2_with fail
  refine hK.out _ _ (trivial) (fun hHeld => ?_)
  clear hK K
  try simp only [Act.put, List.setIfInBounds_toArray, List.set_cons_zero, List.set_cons_succ]
  refine wpAnyH_take (i := 8) (oi := { dst := some 28, op := _, type := _, pos := _, after := _, guard := _ }) (v := ?v8) rfl (by kernel_rfl) (by kernel_rfl) (by kernel_rfl) (fun _ _ _ h => h) (Or.inl ⟨by rfl, ?y8⟩) (by assumption) ?r8
  case y8 => (intro w hSw; go_simp; try with_reducible rfl)
  try simp only [Act.put, List.setIfInBounds_toArray, List.set_cons_zero, List.set_cons_succ]
  refine wpAnyH_take (i := 9) (oi := { dst := some 5, op := _, type := _, pos := _, after := _, guard := _ }) (v := ?v9) rfl (by kernel_rfl) (by kernel_rfl) (by kernel_rfl) (fun _ _ _ h => h) (Or.inl ⟨by rfl, ?y9⟩) (by assumption) ?r9
  case y9 => (intro w hSw; go_simp; try with_reducible rfl)
  try simp only [Act.put, List.setIfInBounds_toArray, List.set_cons_zero, List.set_cons_succ]
  refine wpAnyH_take (i := 10) (oi := { dst := some 6, op := _, type := _, pos := _, after := _, guard := _ }) (v := ?v10) rfl (by kernel_rfl) (by kernel_rfl) (by kernel_rfl) (fun _ _ _ h => h) (Or.inl ⟨by rfl, ?y10⟩) (by assumption) ?r10
  case y10 => (intro w hSw; go_simp; try with_reducible rfl)
  try simp only [Act.put, List.setIfInBounds_toArray, List.set_cons_zero, List.set_cons_succ]
  refine wpAnyH_done (by kernel_rfl) ?_ _
  have H1 := Lib.hid (show RR w W.drew from H0.out.drewN 1)
  generalize W.drew = W1 at H1 ⊢
  clear hr hf hHeld
  have hr := H1.out.row
  have hf := H1.out.free
  go_wp2_with (first
    | (go_at_call 31; (with_reducible refine (HSUM.out _).mono ?_); rintro x w5 ⟨rfl, hw5⟩; subst hw5)
    | (go_at_call 32; (with_reducible refine (hN6.out _).mono ?_); rintro x w5 ⟨rfl, hw5⟩; subst hw5)
    | (go_at_call 33; (with_reducible refine (HAL.out _).mono ?_); rintro x w5 ⟨rfl, hw5⟩; subst hw5))
  obtain ⟨q1, q2⟩ := H1.out.done zeroI zeroI_ok
  exact bodyPost_ret (results_cell2 Try.results15 rfl (ld_some q1 (ldr_ip _ _ _))) rfl ⟨by rw [HR.out]; rfl, q2⟩

set_option maxRecDepth 100000 in
set_option maxHeartbeats 2000000 in
theorem rread5_end (s : List UInt8) (hs : s.length ≤ 100000) (h1 : ¬ s.length < 20) (h2 : ¬ by8 s 0 / 16 ≠ 4) (h3 : ¬ hdN s < 20) (h4 : ¬ s.length < hdN s) (h5 : foldN (wsum (s.take (hdN s))) = 65535) (h6 : ¬ allN s < hdN s) (h7 : s.length < allN s) (w : World) :
    Calls Try.prog 15 #[.string (Str s)] w fun x w' => x = .returned (.tuple #[.agg (ipC (readV5 s).1).toArray, .int .i64 (readV5 s).2]) ∧ Below w.heap.size w w' := by
  have hE : hdE s = 0 := hdE_of (by omega) (by omega) (by omega) (by omega) h5
  have HR := Lib.hid (show readV5 s = (zeroI, 3) by
    unfold readV5; rw [why5_hd hE, show bdE s = 3 by unfold bdE; rw [if_neg h6, if_pos h7], if_neg (by omega)])
  have hsz := Str_size s
  have hq : ¬ (s.length : Int) < 20 := by omega
  have hp0 : 0 < s.length := by omega
  have hN2 : Hid (∀ W, Calls Try.prog 32 #[.string ((Str s).extract 2 4)] W fun x w' => x = .returned (.int .u64 (allN s)) ∧ w' = W) := Lib.hid fun W => rnum3 s hs 2 4 W
  have hN6 : Hid (∀ W, Calls Try.prog 32 #[.string ((Str s).extract 6 8)] W fun x w' => x = .returned (.int .u64 (wd s 6)) ∧ w' = W) := Lib.hid fun W => rnum3 s hs 6 8 W
  have hi0 : (0 : Int) < (s.length : Int) := by omega
  have hi4 : (4 : Int) ≤ (s.length : Int) := by omega
  have hi8 : (8 : Int) ≤ (s.length : Int) := by omega
  have e0 := Str_at s 0 (lt_zero hi0)
  have b0 := by8_lt s 0
  have ball := wd_lt s 2 (by omega)
  have b6 := wd_lt s 6 (by omega)
  have hdv : (by8 s 0 : Int) / 16 = ((by8 s 0 / 16 : Nat) : Int) := rfl
  have htm : (by8 s 0 : Int).tmod 16 = ((by8 s 0 % 16 : Nat) : Int) := rfl
  have hrm : (by8 s 0 : Int) % 16 = ((by8 s 0 % 16 : Nat) : Int) := rfl
  have hwv : IntKind.u8.wrap ((by8 s 0 / 16 : Nat) : Int) = ((by8 s 0 / 16 : Nat) : Int) := by simp only [IntKind.wrap_u8]; omega
  have hw8 : IntKind.u8.wrap ((by8 s 0 % 16 : Nat) : Int) = ((by8 s 0 % 16 : Nat) : Int) := by simp only [IntKind.wrap_u8]; omega
  have hwi : IntKind.i64.wrap ((by8 s 0 % 16 : Nat) : Int) = ((by8 s 0 % 16 : Nat) : Int) := by simp only [IntKind.wrap_i64]; omega
  have hw4 : IntKind.i64.wrap (4 * ((by8 s 0 % 16 : Nat) : Int)) = (hdN s : Int) := by unfold hdN; simp only [IntKind.wrap_i64]; omega
  have hw4' : 4 * ((by8 s 0 % 16 : Nat) : Int) = (hdN s : Int) := by unfold hdN; omega
  have hwa : IntKind.i64.wrap (allN s : Int) = (allN s : Int) := by unfold allN; simp only [IntKind.wrap_i64]; omega
  have hww : wrap64 (hdN s : Int) = (hdN s : Int) := IntWalk.wrap64_in _ (by unfold hdN; omega)
  have h60 : hdN s ≤ 60 := by unfold hdN; omega
  have hn0 : (0 : Int) ≤ (hdN s : Int) := by omega
  have hwn : IntKind.i64.wrap (hdN s : Int) = (hdN s : Int) := by simp only [IntKind.wrap_i64]; omega
  have hall : allN s < 65536 := ball
  have hwm : IntKind.i64.wrap ((allN s : Int) - (hdN s : Int)) = (allN s : Int) - (hdN s : Int) := by simp only [IntKind.wrap_i64]; omega
  have hv4 : (((by8 s 0 / 16 : Nat) : Int) != 4) = false := by simp; omega
  have hq3 : decide ((hdN s : Int) < 20) = false := by simp; omega
  have hq4 : decide ((s.length : Int) < (hdN s : Int)) = false := by simp; omega
  have hnl : (hdN s : Int) ≤ (s.length : Int) := by omega
  have hex : (Str s).extract 0 (hdN s) = Str (s.take (hdN s)) := by rw [Str_extract]; simp
  have HSUM : Hid (∀ W, Calls Try.prog 31 #[.string (Str (s.take (hdN s)))] W fun e w' => e = .returned (.int .i64 (foldN (wsum (s.take (hdN s))))) ∧ w' = W) := Lib.hid fun W => (rsum_any (s.take (hdN s)) (by simp; omega) W).mono fun _ _ h => ⟨h.1, h.2.symm⟩
  have hq5 : ((foldN (wsum (s.take (hdN s))) : Int) != 65535) = false := by simp; omega
  generalize foldN (wsum (s.take (hdN s))) = sm at *
  generalize Str (s.take (hdN s)) = SH at *
  have hq6 : decide ((allN s : Int) < (hdN s : Int)) = false := by simp; omega
  have hq7 : decide ((s.length : Int) < (allN s : Int)) = true := by simp; omega
  generalize by8 s 0 / 16 = v at *
  generalize by8 s 0 % 16 = m at *
  generalize by8 s 0 = x at *
  generalize hdN s = n at *
  generalize allN s = t at *
  generalize wd s 6 = fr at *
  clear hs b0 ball b6
  have H0 := Lib.hid (RR.start w)
  have hbz := bld_zeroI
  have hfok := fok_ip zeroI_ok
  have hf0 := free_made (w.alloc (.cells #[.int .i64 0, .int .i64 0, .int .i64 0, .int .i64 0, .bool false, .int .u8 0, .int .u8 0, .int .u8 0, .int .u8 0, .int .u8 0, .int .u8 0, .int .u8 0, .int .u8 0, .int .u8 0, .int .u8 0, .int .u8 0, .int .u8 0, .int .u8 0, .int .u8 0, .int .u8 0, .int .u8 0, .bool false, .int .u8 0, .int .u8 0, .int .u8 0, .int .u8 0, .int .u8 0, .int .u8 0, .int .u8 0, .int .u8 0, .int .u8 0, .int .u8 0, .int .u8 0, .int .u8 0, .int .u8 0, .int .u8 0, .int .u8 0, .int .u8 0, .bool false, .string ⟨#[]⟩] 26)) #[.int .i64 0, .int .i64 0, .int .i64 0, .int .i64 0, .bool false, .int .u8 0, .int .u8 0, .int .u8 0, .int .u8 0, .int .u8 0, .int .u8 0, .int .u8 0, .int .u8 0, .int .u8 0, .int .u8 0, .int .u8 0, .int .u8 0, .int .u8 0, .int .u8 0, .int .u8 0, .int .u8 0, .bool false, .int .u8 0, .int .u8 0, .int .u8 0, .int .u8 0, .int .u8 0, .int .u8 0, .int .u8 0, .int .u8 0, .int .u8 0, .int .u8 0, .int .u8 0, .int .u8 0, .int .u8 0, .int .u8 0, .int .u8 0, .int .u8 0, .bool false, .string ⟨#[]⟩] 26 40 (by simp)
  rw [show (w.alloc (.cells #[.int .i64 0, .int .i64 0, .int .i64 0, .int .i64 0, .bool false, .int .u8 0, .int .u8 0, .int .u8 0, .int .u8 0, .int .u8 0, .int .u8 0, .int .u8 0, .int .u8 0, .int .u8 0, .int .u8 0, .int .u8 0, .int .u8 0, .int .u8 0, .int .u8 0, .int .u8 0, .int .u8 0, .bool false, .int .u8 0, .int .u8 0, .int .u8 0, .int .u8 0, .int .u8 0, .int .u8 0, .int .u8 0, .int .u8 0, .int .u8 0, .int .u8 0, .int .u8 0, .int .u8 0, .int .u8 0, .int .u8 0, .int .u8 0, .int .u8 0, .bool false, .string ⟨#[]⟩] 26)).heap.size = w.heap.size + 1 by simp] at hf0
  rw [zeroI_cells] at H0
  go_enter Try.func15, Try.ntmps15
  go_upto_region 2 with (fail)
  generalize aggW ((w.alloc (.cells #[.int .i64 0, .int .i64 0, .int .i64 0, .int .i64 0, .bool false, .int .u8 0, .int .u8 0, .int .u8 0, .int .u8 0, .int .u8 0, .int .u8 0, .int .u8 0, .int .u8 0, .int .u8 0, .int .u8 0, .int .u8 0, .int .u8 0, .int .u8 0, .int .u8 0, .int .u8 0, .int .u8 0, .bool false, .int .u8 0, .int .u8 0, .int .u8 0, .int .u8 0, .int .u8 0, .int .u8 0, .int .u8 0, .int .u8 0, .int .u8 0, .int .u8 0, .int .u8 0, .int .u8 0, .int .u8 0, .int .u8 0, .int .u8 0, .int .u8 0, .bool false, .string ⟨#[]⟩] 26)).alloc (.cells #[.int .i64 0, .int .i64 0, .int .i64 0, .int .i64 0, .bool false, .int .u8 0, .int .u8 0, .int .u8 0, .int .u8 0, .int .u8 0, .int .u8 0, .int .u8 0, .int .u8 0, .int .u8 0, .int .u8 0, .int .u8 0, .int .u8 0, .int .u8 0, .int .u8 0, .int .u8 0, .int .u8 0, .bool false, .int .u8 0, .int .u8 0, .int .u8 0, .int .u8 0, .int .u8 0, .int .u8 0, .int .u8 0, .int .u8 0, .int .u8 0, .int .u8 0, .int .u8 0, .int .u8 0, .int .u8 0, .int .u8 0, .int .u8 0, .int .u8 0, .bool false, .string ⟨#[]⟩] 26)) (w.heap.size + 1) _ = W at H0 ⊢
  clear hf0
  have hr := H0.out.row
  have hf := H0.out.free
  go_wp2_with fail
  refine wp_region_held_drew (S := fun _ => True) (by kernel_rfl) (trivial) (fun hHeld => ?_)
  refine wpAnyH_take (i := 0) (oi := { dst := some 20, op := _, type := _, pos := _, after := _, guard := _ }) (v := ?v1) rfl (by kernel_rfl) (by kernel_rfl) (by kernel_rfl) (fun _ _ _ h => h) (Or.inl ⟨by rfl, ?y1⟩) (by assumption) ?r1
  case y1 => (intro w hSw; go_simp; try with_reducible rfl)
  try simp only [Act.put, List.setIfInBounds_toArray, List.set_cons_zero, List.set_cons_succ]
  refine wpAnyH_take (i := 1) (oi := { dst := some 21, op := _, type := _, pos := _, after := _, guard := _ }) (v := ?v2) rfl (by kernel_rfl) (by kernel_rfl) (by kernel_rfl) (fun _ _ _ h => h) (Or.inl ⟨by rfl, ?y2⟩) (by assumption) ?r2
  case y2 => (intro w hSw; go_simp; try with_reducible rfl)
  try simp only [Act.put, List.setIfInBounds_toArray, List.set_cons_zero, List.set_cons_succ]
  refine wpAnyH_take (i := 2) (oi := { dst := some 22, op := _, type := _, pos := _, after := _, guard := _ }) (v := ?v3) rfl (by kernel_rfl) (by kernel_rfl) (by kernel_rfl) (fun _ _ _ h => h) (Or.inl ⟨by rfl, ?y3⟩) (by assumption) ?r3
  case y3 => (intro w hSw; go_simp; try with_reducible rfl)
  try simp only [Act.put, List.setIfInBounds_toArray, List.set_cons_zero, List.set_cons_succ]
  refine wpAnyH_take (i := 3) (oi := { dst := some 23, op := _, type := _, pos := _, after := _, guard := _ }) (v := ?v4) rfl (by kernel_rfl) (by kernel_rfl) (by kernel_rfl) (fun _ _ _ h => h) (Or.inl ⟨by rfl, ?y4⟩) (by assumption) ?r4
  case y4 => (intro w hSw; go_simp; try with_reducible rfl)
  try simp only [Act.put, List.setIfInBounds_toArray, List.set_cons_zero, List.set_cons_succ]
  refine wpAnyH_take (i := 4) (oi := { dst := some 24, op := _, type := _, pos := _, after := _, guard := _ }) (v := ?v5) rfl (by kernel_rfl) (by kernel_rfl) (by kernel_rfl) (fun _ _ _ h => h) (Or.inl ⟨by rfl, ?y5⟩) (by assumption) ?r5
  case y5 => (intro w hSw; go_simp; try with_reducible rfl)
  try simp only [Act.put, List.setIfInBounds_toArray, List.set_cons_zero, List.set_cons_succ]
  refine wpAnyH_take (i := 5) (oi := { dst := some 25, op := _, type := _, pos := _, after := _, guard := _ }) (v := ?v6) rfl (by kernel_rfl) (by kernel_rfl) (by kernel_rfl) (fun _ _ _ h => h) (Or.inl ⟨by rfl, ?y6⟩) (by assumption) ?r6
  case y6 => (intro w hSw; go_simp; try with_reducible rfl)
  try simp only [Act.put, List.setIfInBounds_toArray, List.set_cons_zero, List.set_cons_succ]
  refine wpAnyH_take (i := 6) (oi := { dst := some 26, op := _, type := _, pos := _, after := _, guard := _ }) (v := ?v7) rfl (by kernel_rfl) (by kernel_rfl) (by kernel_rfl) (fun _ _ _ h => h) (Or.inl ⟨by rfl, ?y7⟩) (by assumption) ?r7
  case y7 => (intro w hSw; go_simp; try with_reducible rfl)
  try simp only [Act.put, List.setIfInBounds_toArray, List.set_cons_zero, List.set_cons_succ]
  refine wpAnyH_ready (rs := [7]) (by kernel_rfl) (by simp) (AllReadyH.cons (o := _) rfl (fun K hK => ?_) AllReadyH.nil)
  go_simp
  (go_at_call 32; (with_reducible refine (hN2.out _).mono ?_); rintro x w5 ⟨rfl, hw5⟩; subst hw5)
  try go_wp2_with fail
  refine hK.out _ _ (trivial) (fun hHeld => ?_)
  clear hK K
  try simp only [Act.put, List.setIfInBounds_toArray, List.set_cons_zero, List.set_cons_succ]
  refine wpAnyH_take (i := 8) (oi := { dst := some 28, op := _, type := _, pos := _, after := _, guard := _ }) (v := ?v8) rfl (by kernel_rfl) (by kernel_rfl) (by kernel_rfl) (fun _ _ _ h => h) (Or.inl ⟨by rfl, ?y8⟩) (by assumption) ?r8
  case y8 => (intro w hSw; go_simp; try with_reducible rfl)
  try simp only [Act.put, List.setIfInBounds_toArray, List.set_cons_zero, List.set_cons_succ]
  refine wpAnyH_take (i := 9) (oi := { dst := some 5, op := _, type := _, pos := _, after := _, guard := _ }) (v := ?v9) rfl (by kernel_rfl) (by kernel_rfl) (by kernel_rfl) (fun _ _ _ h => h) (Or.inl ⟨by rfl, ?y9⟩) (by assumption) ?r9
  case y9 => (intro w hSw; go_simp; try with_reducible rfl)
  try simp only [Act.put, List.setIfInBounds_toArray, List.set_cons_zero, List.set_cons_succ]
  refine wpAnyH_take (i := 10) (oi := { dst := some 6, op := _, type := _, pos := _, after := _, guard := _ }) (v := ?v10) rfl (by kernel_rfl) (by kernel_rfl) (by kernel_rfl) (fun _ _ _ h => h) (Or.inl ⟨by rfl, ?y10⟩) (by assumption) ?r10
  case y10 => (intro w hSw; go_simp; try with_reducible rfl)
  try simp only [Act.put, List.setIfInBounds_toArray, List.set_cons_zero, List.set_cons_succ]
  refine wpAnyH_done (by kernel_rfl) ?_ _
  have H1 := Lib.hid (show RR w W.drew from H0.out.drewN 1)
  generalize W.drew = W1 at H1 ⊢
  clear hr hf hHeld
  have hr := H1.out.row
  have hf := H1.out.free
  go_wp2_with (first
    | (go_at_call 31; (with_reducible refine (HSUM.out _).mono ?_); rintro x w5 ⟨rfl, hw5⟩; subst hw5)
    | (go_at_call 32; (with_reducible refine (hN6.out _).mono ?_); rintro x w5 ⟨rfl, hw5⟩; subst hw5)
    | (go_at_call 33; (with_reducible refine (HAL.out _).mono ?_); rintro x w5 ⟨rfl, hw5⟩; subst hw5))
  obtain ⟨q1, q2⟩ := H1.out.done zeroI zeroI_ok
  exact bodyPost_ret (results_cell2 Try.results15 rfl (ld_some q1 (ldr_ip _ _ _))) rfl ⟨by rw [HR.out]; rfl, q2⟩

set_option maxRecDepth 100000 in
set_option maxHeartbeats 2000000 in
theorem rread5_frag (s : List UInt8) (hs : s.length ≤ 100000) (h1 : ¬ s.length < 20) (h2 : ¬ by8 s 0 / 16 ≠ 4) (h3 : ¬ hdN s < 20) (h4 : ¬ s.length < hdN s) (h5 : foldN (wsum (s.take (hdN s))) = 65535) (h6 : ¬ allN s < hdN s) (h7 : ¬ s.length < allN s) (h8 : wd s 6 % 16384 ≠ 0) (w : World) :
    Calls Try.prog 15 #[.string (Str s)] w fun x w' => x = .returned (.tuple #[.agg (ipC (readV5 s).1).toArray, .int .i64 (readV5 s).2]) ∧ Below w.heap.size w w' := by
  have hE : hdE s = 0 := hdE_of (by omega) (by omega) (by omega) (by omega) h5
  have HR := Lib.hid (show readV5 s = (zeroI, 5) by
    unfold readV5; rw [why5_hd hE, show bdE s = 5 by unfold bdE; rw [if_neg h6, if_neg h7, if_pos h8], if_neg (by omega)])
  have hsz := Str_size s
  have hq : ¬ (s.length : Int) < 20 := by omega
  have hp0 : 0 < s.length := by omega
  have hN2 : Hid (∀ W, Calls Try.prog 32 #[.string ((Str s).extract 2 4)] W fun x w' => x = .returned (.int .u64 (allN s)) ∧ w' = W) := Lib.hid fun W => rnum3 s hs 2 4 W
  have hN6 : Hid (∀ W, Calls Try.prog 32 #[.string ((Str s).extract 6 8)] W fun x w' => x = .returned (.int .u64 (wd s 6)) ∧ w' = W) := Lib.hid fun W => rnum3 s hs 6 8 W
  have hi0 : (0 : Int) < (s.length : Int) := by omega
  have hi4 : (4 : Int) ≤ (s.length : Int) := by omega
  have hi8 : (8 : Int) ≤ (s.length : Int) := by omega
  have e0 := Str_at s 0 (lt_zero hi0)
  have b0 := by8_lt s 0
  have ball := wd_lt s 2 (by omega)
  have b6 := wd_lt s 6 (by omega)
  have hdv : (by8 s 0 : Int) / 16 = ((by8 s 0 / 16 : Nat) : Int) := rfl
  have htm : (by8 s 0 : Int).tmod 16 = ((by8 s 0 % 16 : Nat) : Int) := rfl
  have hrm : (by8 s 0 : Int) % 16 = ((by8 s 0 % 16 : Nat) : Int) := rfl
  have hwv : IntKind.u8.wrap ((by8 s 0 / 16 : Nat) : Int) = ((by8 s 0 / 16 : Nat) : Int) := by simp only [IntKind.wrap_u8]; omega
  have hw8 : IntKind.u8.wrap ((by8 s 0 % 16 : Nat) : Int) = ((by8 s 0 % 16 : Nat) : Int) := by simp only [IntKind.wrap_u8]; omega
  have hwi : IntKind.i64.wrap ((by8 s 0 % 16 : Nat) : Int) = ((by8 s 0 % 16 : Nat) : Int) := by simp only [IntKind.wrap_i64]; omega
  have hw4 : IntKind.i64.wrap (4 * ((by8 s 0 % 16 : Nat) : Int)) = (hdN s : Int) := by unfold hdN; simp only [IntKind.wrap_i64]; omega
  have hw4' : 4 * ((by8 s 0 % 16 : Nat) : Int) = (hdN s : Int) := by unfold hdN; omega
  have hwa : IntKind.i64.wrap (allN s : Int) = (allN s : Int) := by unfold allN; simp only [IntKind.wrap_i64]; omega
  have hww : wrap64 (hdN s : Int) = (hdN s : Int) := IntWalk.wrap64_in _ (by unfold hdN; omega)
  have h60 : hdN s ≤ 60 := by unfold hdN; omega
  have hn0 : (0 : Int) ≤ (hdN s : Int) := by omega
  have hwn : IntKind.i64.wrap (hdN s : Int) = (hdN s : Int) := by simp only [IntKind.wrap_i64]; omega
  have hall : allN s < 65536 := ball
  have hwm : IntKind.i64.wrap ((allN s : Int) - (hdN s : Int)) = (allN s : Int) - (hdN s : Int) := by simp only [IntKind.wrap_i64]; omega
  have hv4 : (((by8 s 0 / 16 : Nat) : Int) != 4) = false := by simp; omega
  have hq3 : decide ((hdN s : Int) < 20) = false := by simp; omega
  have hq4 : decide ((s.length : Int) < (hdN s : Int)) = false := by simp; omega
  have hnl : (hdN s : Int) ≤ (s.length : Int) := by omega
  have hex : (Str s).extract 0 (hdN s) = Str (s.take (hdN s)) := by rw [Str_extract]; simp
  have HSUM : Hid (∀ W, Calls Try.prog 31 #[.string (Str (s.take (hdN s)))] W fun e w' => e = .returned (.int .i64 (foldN (wsum (s.take (hdN s))))) ∧ w' = W) := Lib.hid fun W => (rsum_any (s.take (hdN s)) (by simp; omega) W).mono fun _ _ h => ⟨h.1, h.2.symm⟩
  have hq5 : ((foldN (wsum (s.take (hdN s))) : Int) != 65535) = false := by simp; omega
  generalize foldN (wsum (s.take (hdN s))) = sm at *
  generalize Str (s.take (hdN s)) = SH at *
  have hq6 : decide ((allN s : Int) < (hdN s : Int)) = false := by simp; omega
  have hq7 : decide ((s.length : Int) < (allN s : Int)) = false := by simp; omega
  have hfm : (wd s 6 : Int) % 16384 = ((wd s 6 % 16384 : Nat) : Int) := rfl
  have hfw : IntKind.u64.wrap ((wd s 6 % 16384 : Nat) : Int) = ((wd s 6 % 16384 : Nat) : Int) := by simp only [IntKind.wrap_u64]; omega
  have hq8 : (((wd s 6 % 16384 : Nat) : Int) != 0) = true := by simp; omega
  generalize wd s 6 % 16384 = fm at *
  generalize by8 s 0 / 16 = v at *
  generalize by8 s 0 % 16 = m at *
  generalize by8 s 0 = x at *
  generalize hdN s = n at *
  generalize allN s = t at *
  generalize wd s 6 = fr at *
  clear hs b0 ball b6
  have H0 := Lib.hid (RR.start w)
  have hbz := bld_zeroI
  have hfok := fok_ip zeroI_ok
  have hf0 := free_made (w.alloc (.cells #[.int .i64 0, .int .i64 0, .int .i64 0, .int .i64 0, .bool false, .int .u8 0, .int .u8 0, .int .u8 0, .int .u8 0, .int .u8 0, .int .u8 0, .int .u8 0, .int .u8 0, .int .u8 0, .int .u8 0, .int .u8 0, .int .u8 0, .int .u8 0, .int .u8 0, .int .u8 0, .int .u8 0, .bool false, .int .u8 0, .int .u8 0, .int .u8 0, .int .u8 0, .int .u8 0, .int .u8 0, .int .u8 0, .int .u8 0, .int .u8 0, .int .u8 0, .int .u8 0, .int .u8 0, .int .u8 0, .int .u8 0, .int .u8 0, .int .u8 0, .bool false, .string ⟨#[]⟩] 26)) #[.int .i64 0, .int .i64 0, .int .i64 0, .int .i64 0, .bool false, .int .u8 0, .int .u8 0, .int .u8 0, .int .u8 0, .int .u8 0, .int .u8 0, .int .u8 0, .int .u8 0, .int .u8 0, .int .u8 0, .int .u8 0, .int .u8 0, .int .u8 0, .int .u8 0, .int .u8 0, .int .u8 0, .bool false, .int .u8 0, .int .u8 0, .int .u8 0, .int .u8 0, .int .u8 0, .int .u8 0, .int .u8 0, .int .u8 0, .int .u8 0, .int .u8 0, .int .u8 0, .int .u8 0, .int .u8 0, .int .u8 0, .int .u8 0, .int .u8 0, .bool false, .string ⟨#[]⟩] 26 40 (by simp)
  rw [show (w.alloc (.cells #[.int .i64 0, .int .i64 0, .int .i64 0, .int .i64 0, .bool false, .int .u8 0, .int .u8 0, .int .u8 0, .int .u8 0, .int .u8 0, .int .u8 0, .int .u8 0, .int .u8 0, .int .u8 0, .int .u8 0, .int .u8 0, .int .u8 0, .int .u8 0, .int .u8 0, .int .u8 0, .int .u8 0, .bool false, .int .u8 0, .int .u8 0, .int .u8 0, .int .u8 0, .int .u8 0, .int .u8 0, .int .u8 0, .int .u8 0, .int .u8 0, .int .u8 0, .int .u8 0, .int .u8 0, .int .u8 0, .int .u8 0, .int .u8 0, .int .u8 0, .bool false, .string ⟨#[]⟩] 26)).heap.size = w.heap.size + 1 by simp] at hf0
  rw [zeroI_cells] at H0
  go_enter Try.func15, Try.ntmps15
  go_upto_region 2 with (fail)
  generalize aggW ((w.alloc (.cells #[.int .i64 0, .int .i64 0, .int .i64 0, .int .i64 0, .bool false, .int .u8 0, .int .u8 0, .int .u8 0, .int .u8 0, .int .u8 0, .int .u8 0, .int .u8 0, .int .u8 0, .int .u8 0, .int .u8 0, .int .u8 0, .int .u8 0, .int .u8 0, .int .u8 0, .int .u8 0, .int .u8 0, .bool false, .int .u8 0, .int .u8 0, .int .u8 0, .int .u8 0, .int .u8 0, .int .u8 0, .int .u8 0, .int .u8 0, .int .u8 0, .int .u8 0, .int .u8 0, .int .u8 0, .int .u8 0, .int .u8 0, .int .u8 0, .int .u8 0, .bool false, .string ⟨#[]⟩] 26)).alloc (.cells #[.int .i64 0, .int .i64 0, .int .i64 0, .int .i64 0, .bool false, .int .u8 0, .int .u8 0, .int .u8 0, .int .u8 0, .int .u8 0, .int .u8 0, .int .u8 0, .int .u8 0, .int .u8 0, .int .u8 0, .int .u8 0, .int .u8 0, .int .u8 0, .int .u8 0, .int .u8 0, .int .u8 0, .bool false, .int .u8 0, .int .u8 0, .int .u8 0, .int .u8 0, .int .u8 0, .int .u8 0, .int .u8 0, .int .u8 0, .int .u8 0, .int .u8 0, .int .u8 0, .int .u8 0, .int .u8 0, .int .u8 0, .int .u8 0, .int .u8 0, .bool false, .string ⟨#[]⟩] 26)) (w.heap.size + 1) _ = W at H0 ⊢
  clear hf0
  have hr := H0.out.row
  have hf := H0.out.free
  go_wp2_with fail
  refine wp_region_held_drew (S := fun _ => True) (by kernel_rfl) (trivial) (fun hHeld => ?_)
  refine wpAnyH_take (i := 0) (oi := { dst := some 20, op := _, type := _, pos := _, after := _, guard := _ }) (v := ?v1) rfl (by kernel_rfl) (by kernel_rfl) (by kernel_rfl) (fun _ _ _ h => h) (Or.inl ⟨by rfl, ?y1⟩) (by assumption) ?r1
  case y1 => (intro w hSw; go_simp; try with_reducible rfl)
  try simp only [Act.put, List.setIfInBounds_toArray, List.set_cons_zero, List.set_cons_succ]
  refine wpAnyH_take (i := 1) (oi := { dst := some 21, op := _, type := _, pos := _, after := _, guard := _ }) (v := ?v2) rfl (by kernel_rfl) (by kernel_rfl) (by kernel_rfl) (fun _ _ _ h => h) (Or.inl ⟨by rfl, ?y2⟩) (by assumption) ?r2
  case y2 => (intro w hSw; go_simp; try with_reducible rfl)
  try simp only [Act.put, List.setIfInBounds_toArray, List.set_cons_zero, List.set_cons_succ]
  refine wpAnyH_take (i := 2) (oi := { dst := some 22, op := _, type := _, pos := _, after := _, guard := _ }) (v := ?v3) rfl (by kernel_rfl) (by kernel_rfl) (by kernel_rfl) (fun _ _ _ h => h) (Or.inl ⟨by rfl, ?y3⟩) (by assumption) ?r3
  case y3 => (intro w hSw; go_simp; try with_reducible rfl)
  try simp only [Act.put, List.setIfInBounds_toArray, List.set_cons_zero, List.set_cons_succ]
  refine wpAnyH_take (i := 3) (oi := { dst := some 23, op := _, type := _, pos := _, after := _, guard := _ }) (v := ?v4) rfl (by kernel_rfl) (by kernel_rfl) (by kernel_rfl) (fun _ _ _ h => h) (Or.inl ⟨by rfl, ?y4⟩) (by assumption) ?r4
  case y4 => (intro w hSw; go_simp; try with_reducible rfl)
  try simp only [Act.put, List.setIfInBounds_toArray, List.set_cons_zero, List.set_cons_succ]
  refine wpAnyH_take (i := 4) (oi := { dst := some 24, op := _, type := _, pos := _, after := _, guard := _ }) (v := ?v5) rfl (by kernel_rfl) (by kernel_rfl) (by kernel_rfl) (fun _ _ _ h => h) (Or.inl ⟨by rfl, ?y5⟩) (by assumption) ?r5
  case y5 => (intro w hSw; go_simp; try with_reducible rfl)
  try simp only [Act.put, List.setIfInBounds_toArray, List.set_cons_zero, List.set_cons_succ]
  refine wpAnyH_take (i := 5) (oi := { dst := some 25, op := _, type := _, pos := _, after := _, guard := _ }) (v := ?v6) rfl (by kernel_rfl) (by kernel_rfl) (by kernel_rfl) (fun _ _ _ h => h) (Or.inl ⟨by rfl, ?y6⟩) (by assumption) ?r6
  case y6 => (intro w hSw; go_simp; try with_reducible rfl)
  try simp only [Act.put, List.setIfInBounds_toArray, List.set_cons_zero, List.set_cons_succ]
  refine wpAnyH_take (i := 6) (oi := { dst := some 26, op := _, type := _, pos := _, after := _, guard := _ }) (v := ?v7) rfl (by kernel_rfl) (by kernel_rfl) (by kernel_rfl) (fun _ _ _ h => h) (Or.inl ⟨by rfl, ?y7⟩) (by assumption) ?r7
  case y7 => (intro w hSw; go_simp; try with_reducible rfl)
  try simp only [Act.put, List.setIfInBounds_toArray, List.set_cons_zero, List.set_cons_succ]
  refine wpAnyH_ready (rs := [7]) (by kernel_rfl) (by simp) (AllReadyH.cons (o := _) rfl (fun K hK => ?_) AllReadyH.nil)
  go_simp
  (go_at_call 32; (with_reducible refine (hN2.out _).mono ?_); rintro x w5 ⟨rfl, hw5⟩; subst hw5)
  try go_wp2_with fail
  refine hK.out _ _ (trivial) (fun hHeld => ?_)
  clear hK K
  try simp only [Act.put, List.setIfInBounds_toArray, List.set_cons_zero, List.set_cons_succ]
  refine wpAnyH_take (i := 8) (oi := { dst := some 28, op := _, type := _, pos := _, after := _, guard := _ }) (v := ?v8) rfl (by kernel_rfl) (by kernel_rfl) (by kernel_rfl) (fun _ _ _ h => h) (Or.inl ⟨by rfl, ?y8⟩) (by assumption) ?r8
  case y8 => (intro w hSw; go_simp; try with_reducible rfl)
  try simp only [Act.put, List.setIfInBounds_toArray, List.set_cons_zero, List.set_cons_succ]
  refine wpAnyH_take (i := 9) (oi := { dst := some 5, op := _, type := _, pos := _, after := _, guard := _ }) (v := ?v9) rfl (by kernel_rfl) (by kernel_rfl) (by kernel_rfl) (fun _ _ _ h => h) (Or.inl ⟨by rfl, ?y9⟩) (by assumption) ?r9
  case y9 => (intro w hSw; go_simp; try with_reducible rfl)
  try simp only [Act.put, List.setIfInBounds_toArray, List.set_cons_zero, List.set_cons_succ]
  refine wpAnyH_take (i := 10) (oi := { dst := some 6, op := _, type := _, pos := _, after := _, guard := _ }) (v := ?v10) rfl (by kernel_rfl) (by kernel_rfl) (by kernel_rfl) (fun _ _ _ h => h) (Or.inl ⟨by rfl, ?y10⟩) (by assumption) ?r10
  case y10 => (intro w hSw; go_simp; try with_reducible rfl)
  try simp only [Act.put, List.setIfInBounds_toArray, List.set_cons_zero, List.set_cons_succ]
  refine wpAnyH_done (by kernel_rfl) ?_ _
  have H1 := Lib.hid (show RR w W.drew from H0.out.drewN 1)
  generalize W.drew = W1 at H1 ⊢
  clear hr hf hHeld
  have hr := H1.out.row
  have hf := H1.out.free
  go_wp2_with (first
    | (go_at_call 31; (with_reducible refine (HSUM.out _).mono ?_); rintro x w5 ⟨rfl, hw5⟩; subst hw5)
    | (go_at_call 32; (with_reducible refine (hN6.out _).mono ?_); rintro x w5 ⟨rfl, hw5⟩; subst hw5)
    | (go_at_call 33; (with_reducible refine (HAL.out _).mono ?_); rintro x w5 ⟨rfl, hw5⟩; subst hw5))
  obtain ⟨q1, q2⟩ := H1.out.done zeroI zeroI_ok
  exact bodyPost_ret (results_cell2 Try.results15 rfl (ld_some q1 (ldr_ip _ _ _))) rfl ⟨by rw [HR.out]; rfl, q2⟩

set_option maxRecDepth 100000 in
set_option maxHeartbeats 2000000 in
theorem rread5_opt (s : List UInt8) (hs : s.length ≤ 100000) (h1 : ¬ s.length < 20) (h2 : ¬ by8 s 0 / 16 ≠ 4) (h3 : ¬ hdN s < 20) (h4 : ¬ s.length < hdN s) (h5 : foldN (wsum (s.take (hdN s))) = 65535) (h6 : ¬ allN s < hdN s) (h7 : ¬ s.length < allN s) (h8 : ¬ wd s 6 % 16384 ≠ 0) (h9 : (optS s).2 = false) (w : World) :
    Calls Try.prog 15 #[.string (Str s)] w fun x w' => x = .returned (.tuple #[.agg (ipC (readV5 s).1).toArray, .int .i64 (readV5 s).2]) ∧ Below w.heap.size w w' := by
  have hE : hdE s = 0 := hdE_of (by omega) (by omega) (by omega) (by omega) h5
  have HR := Lib.hid (show readV5 s = (zeroI, 2) by
    unfold readV5; rw [why5_hd hE, show bdE s = 2 by unfold bdE; rw [if_neg h6, if_neg h7, if_neg h8, if_pos h9], if_neg (by omega)])
  have hsz := Str_size s
  have hq : ¬ (s.length : Int) < 20 := by omega
  have hp0 : 0 < s.length := by omega
  have hN2 : Hid (∀ W, Calls Try.prog 32 #[.string ((Str s).extract 2 4)] W fun x w' => x = .returned (.int .u64 (allN s)) ∧ w' = W) := Lib.hid fun W => rnum3 s hs 2 4 W
  have hN6 : Hid (∀ W, Calls Try.prog 32 #[.string ((Str s).extract 6 8)] W fun x w' => x = .returned (.int .u64 (wd s 6)) ∧ w' = W) := Lib.hid fun W => rnum3 s hs 6 8 W
  have hi0 : (0 : Int) < (s.length : Int) := by omega
  have hi4 : (4 : Int) ≤ (s.length : Int) := by omega
  have hi8 : (8 : Int) ≤ (s.length : Int) := by omega
  have e0 := Str_at s 0 (lt_zero hi0)
  have b0 := by8_lt s 0
  have ball := wd_lt s 2 (by omega)
  have b6 := wd_lt s 6 (by omega)
  have hdv : (by8 s 0 : Int) / 16 = ((by8 s 0 / 16 : Nat) : Int) := rfl
  have htm : (by8 s 0 : Int).tmod 16 = ((by8 s 0 % 16 : Nat) : Int) := rfl
  have hrm : (by8 s 0 : Int) % 16 = ((by8 s 0 % 16 : Nat) : Int) := rfl
  have hwv : IntKind.u8.wrap ((by8 s 0 / 16 : Nat) : Int) = ((by8 s 0 / 16 : Nat) : Int) := by simp only [IntKind.wrap_u8]; omega
  have hw8 : IntKind.u8.wrap ((by8 s 0 % 16 : Nat) : Int) = ((by8 s 0 % 16 : Nat) : Int) := by simp only [IntKind.wrap_u8]; omega
  have hwi : IntKind.i64.wrap ((by8 s 0 % 16 : Nat) : Int) = ((by8 s 0 % 16 : Nat) : Int) := by simp only [IntKind.wrap_i64]; omega
  have hw4 : IntKind.i64.wrap (4 * ((by8 s 0 % 16 : Nat) : Int)) = (hdN s : Int) := by unfold hdN; simp only [IntKind.wrap_i64]; omega
  have hw4' : 4 * ((by8 s 0 % 16 : Nat) : Int) = (hdN s : Int) := by unfold hdN; omega
  have hwa : IntKind.i64.wrap (allN s : Int) = (allN s : Int) := by unfold allN; simp only [IntKind.wrap_i64]; omega
  have hww : wrap64 (hdN s : Int) = (hdN s : Int) := IntWalk.wrap64_in _ (by unfold hdN; omega)
  have h60 : hdN s ≤ 60 := by unfold hdN; omega
  have hn0 : (0 : Int) ≤ (hdN s : Int) := by omega
  have hwn : IntKind.i64.wrap (hdN s : Int) = (hdN s : Int) := by simp only [IntKind.wrap_i64]; omega
  have hall : allN s < 65536 := ball
  have hwm : IntKind.i64.wrap ((allN s : Int) - (hdN s : Int)) = (allN s : Int) - (hdN s : Int) := by simp only [IntKind.wrap_i64]; omega
  have hv4 : (((by8 s 0 / 16 : Nat) : Int) != 4) = false := by simp; omega
  have hq3 : decide ((hdN s : Int) < 20) = false := by simp; omega
  have hq4 : decide ((s.length : Int) < (hdN s : Int)) = false := by simp; omega
  have hnl : (hdN s : Int) ≤ (s.length : Int) := by omega
  have hex : (Str s).extract 0 (hdN s) = Str (s.take (hdN s)) := by rw [Str_extract]; simp
  have HSUM : Hid (∀ W, Calls Try.prog 31 #[.string (Str (s.take (hdN s)))] W fun e w' => e = .returned (.int .i64 (foldN (wsum (s.take (hdN s))))) ∧ w' = W) := Lib.hid fun W => (rsum_any (s.take (hdN s)) (by simp; omega) W).mono fun _ _ h => ⟨h.1, h.2.symm⟩
  have hq5 : ((foldN (wsum (s.take (hdN s))) : Int) != 65535) = false := by simp; omega
  generalize foldN (wsum (s.take (hdN s))) = sm at *
  generalize Str (s.take (hdN s)) = SH at *
  have hq6 : decide ((allN s : Int) < (hdN s : Int)) = false := by simp; omega
  have hq7 : decide ((s.length : Int) < (allN s : Int)) = false := by simp; omega
  have hfm : (wd s 6 : Int) % 16384 = ((wd s 6 % 16384 : Nat) : Int) := rfl
  have hfw : IntKind.u64.wrap ((wd s 6 % 16384 : Nat) : Int) = ((wd s 6 % 16384 : Nat) : Int) := by simp only [IntKind.wrap_u64]; omega
  have hq8 : (((wd s 6 % 16384 : Nat) : Int) != 0) = false := by simp; omega
  generalize wd s 6 % 16384 = fm at *
  have hn20 : (20 : Int) ≤ (hdN s : Int) := by omega
  have hexo : (Str s).extract 20 (hdN s) = Str ((s.drop 20).take (hdN s - 20)) := Str_extract s _ _
  have HAL : Hid (∀ W, Calls Try.prog 33 #[.string (Str ((s.drop 20).take (hdN s - 20)))] W fun x w' => x = .returned (.tuple #[.bool (optS s).1, .bool (optS s).2]) ∧ w' = W) := Lib.hid fun W => (ralert_any _ (by simp; omega) W).mono fun _ _ h => ⟨h.1, h.2.symm⟩
  generalize Str ((s.drop 20).take (hdN s - 20)) = SO at *
  rw [h9] at HAL
  generalize (optS s).1 = o1 at HAL
  generalize by8 s 0 / 16 = v at *
  generalize by8 s 0 % 16 = m at *
  generalize by8 s 0 = x at *
  generalize hdN s = n at *
  generalize allN s = t at *
  generalize wd s 6 = fr at *
  clear hs b0 ball b6
  have H0 := Lib.hid (RR.start w)
  have hbz := bld_zeroI
  have hfok := fok_ip zeroI_ok
  have hf0 := free_made (w.alloc (.cells #[.int .i64 0, .int .i64 0, .int .i64 0, .int .i64 0, .bool false, .int .u8 0, .int .u8 0, .int .u8 0, .int .u8 0, .int .u8 0, .int .u8 0, .int .u8 0, .int .u8 0, .int .u8 0, .int .u8 0, .int .u8 0, .int .u8 0, .int .u8 0, .int .u8 0, .int .u8 0, .int .u8 0, .bool false, .int .u8 0, .int .u8 0, .int .u8 0, .int .u8 0, .int .u8 0, .int .u8 0, .int .u8 0, .int .u8 0, .int .u8 0, .int .u8 0, .int .u8 0, .int .u8 0, .int .u8 0, .int .u8 0, .int .u8 0, .int .u8 0, .bool false, .string ⟨#[]⟩] 26)) #[.int .i64 0, .int .i64 0, .int .i64 0, .int .i64 0, .bool false, .int .u8 0, .int .u8 0, .int .u8 0, .int .u8 0, .int .u8 0, .int .u8 0, .int .u8 0, .int .u8 0, .int .u8 0, .int .u8 0, .int .u8 0, .int .u8 0, .int .u8 0, .int .u8 0, .int .u8 0, .int .u8 0, .bool false, .int .u8 0, .int .u8 0, .int .u8 0, .int .u8 0, .int .u8 0, .int .u8 0, .int .u8 0, .int .u8 0, .int .u8 0, .int .u8 0, .int .u8 0, .int .u8 0, .int .u8 0, .int .u8 0, .int .u8 0, .int .u8 0, .bool false, .string ⟨#[]⟩] 26 40 (by simp)
  rw [show (w.alloc (.cells #[.int .i64 0, .int .i64 0, .int .i64 0, .int .i64 0, .bool false, .int .u8 0, .int .u8 0, .int .u8 0, .int .u8 0, .int .u8 0, .int .u8 0, .int .u8 0, .int .u8 0, .int .u8 0, .int .u8 0, .int .u8 0, .int .u8 0, .int .u8 0, .int .u8 0, .int .u8 0, .int .u8 0, .bool false, .int .u8 0, .int .u8 0, .int .u8 0, .int .u8 0, .int .u8 0, .int .u8 0, .int .u8 0, .int .u8 0, .int .u8 0, .int .u8 0, .int .u8 0, .int .u8 0, .int .u8 0, .int .u8 0, .int .u8 0, .int .u8 0, .bool false, .string ⟨#[]⟩] 26)).heap.size = w.heap.size + 1 by simp] at hf0
  rw [zeroI_cells] at H0
  go_enter Try.func15, Try.ntmps15
  go_upto_region 2 with (fail)
  generalize aggW ((w.alloc (.cells #[.int .i64 0, .int .i64 0, .int .i64 0, .int .i64 0, .bool false, .int .u8 0, .int .u8 0, .int .u8 0, .int .u8 0, .int .u8 0, .int .u8 0, .int .u8 0, .int .u8 0, .int .u8 0, .int .u8 0, .int .u8 0, .int .u8 0, .int .u8 0, .int .u8 0, .int .u8 0, .int .u8 0, .bool false, .int .u8 0, .int .u8 0, .int .u8 0, .int .u8 0, .int .u8 0, .int .u8 0, .int .u8 0, .int .u8 0, .int .u8 0, .int .u8 0, .int .u8 0, .int .u8 0, .int .u8 0, .int .u8 0, .int .u8 0, .int .u8 0, .bool false, .string ⟨#[]⟩] 26)).alloc (.cells #[.int .i64 0, .int .i64 0, .int .i64 0, .int .i64 0, .bool false, .int .u8 0, .int .u8 0, .int .u8 0, .int .u8 0, .int .u8 0, .int .u8 0, .int .u8 0, .int .u8 0, .int .u8 0, .int .u8 0, .int .u8 0, .int .u8 0, .int .u8 0, .int .u8 0, .int .u8 0, .int .u8 0, .bool false, .int .u8 0, .int .u8 0, .int .u8 0, .int .u8 0, .int .u8 0, .int .u8 0, .int .u8 0, .int .u8 0, .int .u8 0, .int .u8 0, .int .u8 0, .int .u8 0, .int .u8 0, .int .u8 0, .int .u8 0, .int .u8 0, .bool false, .string ⟨#[]⟩] 26)) (w.heap.size + 1) _ = W at H0 ⊢
  clear hf0
  have hr := H0.out.row
  have hf := H0.out.free
  go_wp2_with fail
  refine wp_region_held_drew (S := fun _ => True) (by kernel_rfl) (trivial) (fun hHeld => ?_)
  refine wpAnyH_take (i := 0) (oi := { dst := some 20, op := _, type := _, pos := _, after := _, guard := _ }) (v := ?v1) rfl (by kernel_rfl) (by kernel_rfl) (by kernel_rfl) (fun _ _ _ h => h) (Or.inl ⟨by rfl, ?y1⟩) (by assumption) ?r1
  case y1 => (intro w hSw; go_simp; try with_reducible rfl)
  try simp only [Act.put, List.setIfInBounds_toArray, List.set_cons_zero, List.set_cons_succ]
  refine wpAnyH_take (i := 1) (oi := { dst := some 21, op := _, type := _, pos := _, after := _, guard := _ }) (v := ?v2) rfl (by kernel_rfl) (by kernel_rfl) (by kernel_rfl) (fun _ _ _ h => h) (Or.inl ⟨by rfl, ?y2⟩) (by assumption) ?r2
  case y2 => (intro w hSw; go_simp; try with_reducible rfl)
  try simp only [Act.put, List.setIfInBounds_toArray, List.set_cons_zero, List.set_cons_succ]
  refine wpAnyH_take (i := 2) (oi := { dst := some 22, op := _, type := _, pos := _, after := _, guard := _ }) (v := ?v3) rfl (by kernel_rfl) (by kernel_rfl) (by kernel_rfl) (fun _ _ _ h => h) (Or.inl ⟨by rfl, ?y3⟩) (by assumption) ?r3
  case y3 => (intro w hSw; go_simp; try with_reducible rfl)
  try simp only [Act.put, List.setIfInBounds_toArray, List.set_cons_zero, List.set_cons_succ]
  refine wpAnyH_take (i := 3) (oi := { dst := some 23, op := _, type := _, pos := _, after := _, guard := _ }) (v := ?v4) rfl (by kernel_rfl) (by kernel_rfl) (by kernel_rfl) (fun _ _ _ h => h) (Or.inl ⟨by rfl, ?y4⟩) (by assumption) ?r4
  case y4 => (intro w hSw; go_simp; try with_reducible rfl)
  try simp only [Act.put, List.setIfInBounds_toArray, List.set_cons_zero, List.set_cons_succ]
  refine wpAnyH_take (i := 4) (oi := { dst := some 24, op := _, type := _, pos := _, after := _, guard := _ }) (v := ?v5) rfl (by kernel_rfl) (by kernel_rfl) (by kernel_rfl) (fun _ _ _ h => h) (Or.inl ⟨by rfl, ?y5⟩) (by assumption) ?r5
  case y5 => (intro w hSw; go_simp; try with_reducible rfl)
  try simp only [Act.put, List.setIfInBounds_toArray, List.set_cons_zero, List.set_cons_succ]
  refine wpAnyH_take (i := 5) (oi := { dst := some 25, op := _, type := _, pos := _, after := _, guard := _ }) (v := ?v6) rfl (by kernel_rfl) (by kernel_rfl) (by kernel_rfl) (fun _ _ _ h => h) (Or.inl ⟨by rfl, ?y6⟩) (by assumption) ?r6
  case y6 => (intro w hSw; go_simp; try with_reducible rfl)
  try simp only [Act.put, List.setIfInBounds_toArray, List.set_cons_zero, List.set_cons_succ]
  refine wpAnyH_take (i := 6) (oi := { dst := some 26, op := _, type := _, pos := _, after := _, guard := _ }) (v := ?v7) rfl (by kernel_rfl) (by kernel_rfl) (by kernel_rfl) (fun _ _ _ h => h) (Or.inl ⟨by rfl, ?y7⟩) (by assumption) ?r7
  case y7 => (intro w hSw; go_simp; try with_reducible rfl)
  try simp only [Act.put, List.setIfInBounds_toArray, List.set_cons_zero, List.set_cons_succ]
  refine wpAnyH_ready (rs := [7]) (by kernel_rfl) (by simp) (AllReadyH.cons (o := _) rfl (fun K hK => ?_) AllReadyH.nil)
  go_simp
  (go_at_call 32; (with_reducible refine (hN2.out _).mono ?_); rintro x w5 ⟨rfl, hw5⟩; subst hw5)
  try go_wp2_with fail
  refine hK.out _ _ (trivial) (fun hHeld => ?_)
  clear hK K
  try simp only [Act.put, List.setIfInBounds_toArray, List.set_cons_zero, List.set_cons_succ]
  refine wpAnyH_take (i := 8) (oi := { dst := some 28, op := _, type := _, pos := _, after := _, guard := _ }) (v := ?v8) rfl (by kernel_rfl) (by kernel_rfl) (by kernel_rfl) (fun _ _ _ h => h) (Or.inl ⟨by rfl, ?y8⟩) (by assumption) ?r8
  case y8 => (intro w hSw; go_simp; try with_reducible rfl)
  try simp only [Act.put, List.setIfInBounds_toArray, List.set_cons_zero, List.set_cons_succ]
  refine wpAnyH_take (i := 9) (oi := { dst := some 5, op := _, type := _, pos := _, after := _, guard := _ }) (v := ?v9) rfl (by kernel_rfl) (by kernel_rfl) (by kernel_rfl) (fun _ _ _ h => h) (Or.inl ⟨by rfl, ?y9⟩) (by assumption) ?r9
  case y9 => (intro w hSw; go_simp; try with_reducible rfl)
  try simp only [Act.put, List.setIfInBounds_toArray, List.set_cons_zero, List.set_cons_succ]
  refine wpAnyH_take (i := 10) (oi := { dst := some 6, op := _, type := _, pos := _, after := _, guard := _ }) (v := ?v10) rfl (by kernel_rfl) (by kernel_rfl) (by kernel_rfl) (fun _ _ _ h => h) (Or.inl ⟨by rfl, ?y10⟩) (by assumption) ?r10
  case y10 => (intro w hSw; go_simp; try with_reducible rfl)
  try simp only [Act.put, List.setIfInBounds_toArray, List.set_cons_zero, List.set_cons_succ]
  refine wpAnyH_done (by kernel_rfl) ?_ _
  have H1 := Lib.hid (show RR w W.drew from H0.out.drewN 1)
  generalize W.drew = W1 at H1 ⊢
  clear hr hf hHeld
  have hr := H1.out.row
  have hf := H1.out.free
  go_wp2_with (first
    | (go_at_call 31; (with_reducible refine (HSUM.out _).mono ?_); rintro x w5 ⟨rfl, hw5⟩; subst hw5)
    | (go_at_call 32; (with_reducible refine (hN6.out _).mono ?_); rintro x w5 ⟨rfl, hw5⟩; subst hw5)
    | (go_at_call 33; (with_reducible refine (HAL.out _).mono ?_); rintro x w5 ⟨rfl, hw5⟩; subst hw5))
  obtain ⟨q1, q2⟩ := H1.out.done zeroI zeroI_ok
  exact bodyPost_ret (results_cell2 Try.results15 rfl (ld_some q1 (ldr_ip _ _ _))) rfl ⟨by rw [HR.out]; rfl, q2⟩

set_option maxRecDepth 100000 in
set_option maxHeartbeats 2000000 in
theorem rread5_long (s : List UInt8) (hs : s.length ≤ 100000) (h1 : ¬ s.length < 20) (h2 : ¬ by8 s 0 / 16 ≠ 4) (h3 : ¬ hdN s < 20) (h4 : ¬ s.length < hdN s) (h5 : foldN (wsum (s.take (hdN s))) = 65535) (h6 : ¬ allN s < hdN s) (h7 : ¬ s.length < allN s) (h8 : ¬ wd s 6 % 16384 ≠ 0) (h9 : ¬ (optS s).2 = false) (h10 : 1400 < allN s - hdN s) (w : World) :
    Calls Try.prog 15 #[.string (Str s)] w fun x w' => x = .returned (.tuple #[.agg (ipC (readV5 s).1).toArray, .int .i64 (readV5 s).2]) ∧ Below w.heap.size w w' := by
  have hE : hdE s = 0 := hdE_of (by omega) (by omega) (by omega) (by omega) h5
  have HR := Lib.hid (show readV5 s = (zeroI, 6) by
    unfold readV5; rw [why5_hd hE, show bdE s = 6 by unfold bdE; rw [if_neg h6, if_neg h7, if_neg h8, if_neg h9, if_pos h10], if_neg (by omega)])
  have hsz := Str_size s
  have hq : ¬ (s.length : Int) < 20 := by omega
  have hp0 : 0 < s.length := by omega
  have hN2 : Hid (∀ W, Calls Try.prog 32 #[.string ((Str s).extract 2 4)] W fun x w' => x = .returned (.int .u64 (allN s)) ∧ w' = W) := Lib.hid fun W => rnum3 s hs 2 4 W
  have hN6 : Hid (∀ W, Calls Try.prog 32 #[.string ((Str s).extract 6 8)] W fun x w' => x = .returned (.int .u64 (wd s 6)) ∧ w' = W) := Lib.hid fun W => rnum3 s hs 6 8 W
  have hi0 : (0 : Int) < (s.length : Int) := by omega
  have hi4 : (4 : Int) ≤ (s.length : Int) := by omega
  have hi8 : (8 : Int) ≤ (s.length : Int) := by omega
  have e0 := Str_at s 0 (lt_zero hi0)
  have b0 := by8_lt s 0
  have ball := wd_lt s 2 (by omega)
  have b6 := wd_lt s 6 (by omega)
  have hdv : (by8 s 0 : Int) / 16 = ((by8 s 0 / 16 : Nat) : Int) := rfl
  have htm : (by8 s 0 : Int).tmod 16 = ((by8 s 0 % 16 : Nat) : Int) := rfl
  have hrm : (by8 s 0 : Int) % 16 = ((by8 s 0 % 16 : Nat) : Int) := rfl
  have hwv : IntKind.u8.wrap ((by8 s 0 / 16 : Nat) : Int) = ((by8 s 0 / 16 : Nat) : Int) := by simp only [IntKind.wrap_u8]; omega
  have hw8 : IntKind.u8.wrap ((by8 s 0 % 16 : Nat) : Int) = ((by8 s 0 % 16 : Nat) : Int) := by simp only [IntKind.wrap_u8]; omega
  have hwi : IntKind.i64.wrap ((by8 s 0 % 16 : Nat) : Int) = ((by8 s 0 % 16 : Nat) : Int) := by simp only [IntKind.wrap_i64]; omega
  have hw4 : IntKind.i64.wrap (4 * ((by8 s 0 % 16 : Nat) : Int)) = (hdN s : Int) := by unfold hdN; simp only [IntKind.wrap_i64]; omega
  have hw4' : 4 * ((by8 s 0 % 16 : Nat) : Int) = (hdN s : Int) := by unfold hdN; omega
  have hwa : IntKind.i64.wrap (allN s : Int) = (allN s : Int) := by unfold allN; simp only [IntKind.wrap_i64]; omega
  have hww : wrap64 (hdN s : Int) = (hdN s : Int) := IntWalk.wrap64_in _ (by unfold hdN; omega)
  have h60 : hdN s ≤ 60 := by unfold hdN; omega
  have hn0 : (0 : Int) ≤ (hdN s : Int) := by omega
  have hwn : IntKind.i64.wrap (hdN s : Int) = (hdN s : Int) := by simp only [IntKind.wrap_i64]; omega
  have hall : allN s < 65536 := ball
  have hwm : IntKind.i64.wrap ((allN s : Int) - (hdN s : Int)) = (allN s : Int) - (hdN s : Int) := by simp only [IntKind.wrap_i64]; omega
  have hv4 : (((by8 s 0 / 16 : Nat) : Int) != 4) = false := by simp; omega
  have hq3 : decide ((hdN s : Int) < 20) = false := by simp; omega
  have hq4 : decide ((s.length : Int) < (hdN s : Int)) = false := by simp; omega
  have hnl : (hdN s : Int) ≤ (s.length : Int) := by omega
  have hex : (Str s).extract 0 (hdN s) = Str (s.take (hdN s)) := by rw [Str_extract]; simp
  have HSUM : Hid (∀ W, Calls Try.prog 31 #[.string (Str (s.take (hdN s)))] W fun e w' => e = .returned (.int .i64 (foldN (wsum (s.take (hdN s))))) ∧ w' = W) := Lib.hid fun W => (rsum_any (s.take (hdN s)) (by simp; omega) W).mono fun _ _ h => ⟨h.1, h.2.symm⟩
  have hq5 : ((foldN (wsum (s.take (hdN s))) : Int) != 65535) = false := by simp; omega
  generalize foldN (wsum (s.take (hdN s))) = sm at *
  generalize Str (s.take (hdN s)) = SH at *
  have hq6 : decide ((allN s : Int) < (hdN s : Int)) = false := by simp; omega
  have hq7 : decide ((s.length : Int) < (allN s : Int)) = false := by simp; omega
  have hfm : (wd s 6 : Int) % 16384 = ((wd s 6 % 16384 : Nat) : Int) := rfl
  have hfw : IntKind.u64.wrap ((wd s 6 % 16384 : Nat) : Int) = ((wd s 6 % 16384 : Nat) : Int) := by simp only [IntKind.wrap_u64]; omega
  have hq8 : (((wd s 6 % 16384 : Nat) : Int) != 0) = false := by simp; omega
  generalize wd s 6 % 16384 = fm at *
  have hn20 : (20 : Int) ≤ (hdN s : Int) := by omega
  have hexo : (Str s).extract 20 (hdN s) = Str ((s.drop 20).take (hdN s - 20)) := Str_extract s _ _
  have HAL : Hid (∀ W, Calls Try.prog 33 #[.string (Str ((s.drop 20).take (hdN s - 20)))] W fun x w' => x = .returned (.tuple #[.bool (optS s).1, .bool (optS s).2]) ∧ w' = W) := Lib.hid fun W => (ralert_any _ (by simp; omega) W).mono fun _ _ h => ⟨h.1, h.2.symm⟩
  generalize Str ((s.drop 20).take (hdN s - 20)) = SO at *
  rw [show (optS s).2 = true by simpa using h9] at HAL
  generalize (optS s).1 = o1 at HAL
  have hq10 : decide ((1400 : Int) < (allN s : Int) - (hdN s : Int)) = true := by simp; omega
  generalize by8 s 0 / 16 = v at *
  generalize by8 s 0 % 16 = m at *
  generalize by8 s 0 = x at *
  generalize hdN s = n at *
  generalize allN s = t at *
  generalize wd s 6 = fr at *
  clear hs b0 ball b6
  have H0 := Lib.hid (RR.start w)
  have hbz := bld_zeroI
  have hfok := fok_ip zeroI_ok
  have hf0 := free_made (w.alloc (.cells #[.int .i64 0, .int .i64 0, .int .i64 0, .int .i64 0, .bool false, .int .u8 0, .int .u8 0, .int .u8 0, .int .u8 0, .int .u8 0, .int .u8 0, .int .u8 0, .int .u8 0, .int .u8 0, .int .u8 0, .int .u8 0, .int .u8 0, .int .u8 0, .int .u8 0, .int .u8 0, .int .u8 0, .bool false, .int .u8 0, .int .u8 0, .int .u8 0, .int .u8 0, .int .u8 0, .int .u8 0, .int .u8 0, .int .u8 0, .int .u8 0, .int .u8 0, .int .u8 0, .int .u8 0, .int .u8 0, .int .u8 0, .int .u8 0, .int .u8 0, .bool false, .string ⟨#[]⟩] 26)) #[.int .i64 0, .int .i64 0, .int .i64 0, .int .i64 0, .bool false, .int .u8 0, .int .u8 0, .int .u8 0, .int .u8 0, .int .u8 0, .int .u8 0, .int .u8 0, .int .u8 0, .int .u8 0, .int .u8 0, .int .u8 0, .int .u8 0, .int .u8 0, .int .u8 0, .int .u8 0, .int .u8 0, .bool false, .int .u8 0, .int .u8 0, .int .u8 0, .int .u8 0, .int .u8 0, .int .u8 0, .int .u8 0, .int .u8 0, .int .u8 0, .int .u8 0, .int .u8 0, .int .u8 0, .int .u8 0, .int .u8 0, .int .u8 0, .int .u8 0, .bool false, .string ⟨#[]⟩] 26 40 (by simp)
  rw [show (w.alloc (.cells #[.int .i64 0, .int .i64 0, .int .i64 0, .int .i64 0, .bool false, .int .u8 0, .int .u8 0, .int .u8 0, .int .u8 0, .int .u8 0, .int .u8 0, .int .u8 0, .int .u8 0, .int .u8 0, .int .u8 0, .int .u8 0, .int .u8 0, .int .u8 0, .int .u8 0, .int .u8 0, .int .u8 0, .bool false, .int .u8 0, .int .u8 0, .int .u8 0, .int .u8 0, .int .u8 0, .int .u8 0, .int .u8 0, .int .u8 0, .int .u8 0, .int .u8 0, .int .u8 0, .int .u8 0, .int .u8 0, .int .u8 0, .int .u8 0, .int .u8 0, .bool false, .string ⟨#[]⟩] 26)).heap.size = w.heap.size + 1 by simp] at hf0
  rw [zeroI_cells] at H0
  go_enter Try.func15, Try.ntmps15
  go_upto_region 2 with (fail)
  generalize aggW ((w.alloc (.cells #[.int .i64 0, .int .i64 0, .int .i64 0, .int .i64 0, .bool false, .int .u8 0, .int .u8 0, .int .u8 0, .int .u8 0, .int .u8 0, .int .u8 0, .int .u8 0, .int .u8 0, .int .u8 0, .int .u8 0, .int .u8 0, .int .u8 0, .int .u8 0, .int .u8 0, .int .u8 0, .int .u8 0, .bool false, .int .u8 0, .int .u8 0, .int .u8 0, .int .u8 0, .int .u8 0, .int .u8 0, .int .u8 0, .int .u8 0, .int .u8 0, .int .u8 0, .int .u8 0, .int .u8 0, .int .u8 0, .int .u8 0, .int .u8 0, .int .u8 0, .bool false, .string ⟨#[]⟩] 26)).alloc (.cells #[.int .i64 0, .int .i64 0, .int .i64 0, .int .i64 0, .bool false, .int .u8 0, .int .u8 0, .int .u8 0, .int .u8 0, .int .u8 0, .int .u8 0, .int .u8 0, .int .u8 0, .int .u8 0, .int .u8 0, .int .u8 0, .int .u8 0, .int .u8 0, .int .u8 0, .int .u8 0, .int .u8 0, .bool false, .int .u8 0, .int .u8 0, .int .u8 0, .int .u8 0, .int .u8 0, .int .u8 0, .int .u8 0, .int .u8 0, .int .u8 0, .int .u8 0, .int .u8 0, .int .u8 0, .int .u8 0, .int .u8 0, .int .u8 0, .int .u8 0, .bool false, .string ⟨#[]⟩] 26)) (w.heap.size + 1) _ = W at H0 ⊢
  clear hf0
  have hr := H0.out.row
  have hf := H0.out.free
  go_wp2_with fail
  refine wp_region_held_drew (S := fun _ => True) (by kernel_rfl) (trivial) (fun hHeld => ?_)
  refine wpAnyH_take (i := 0) (oi := { dst := some 20, op := _, type := _, pos := _, after := _, guard := _ }) (v := ?v1) rfl (by kernel_rfl) (by kernel_rfl) (by kernel_rfl) (fun _ _ _ h => h) (Or.inl ⟨by rfl, ?y1⟩) (by assumption) ?r1
  case y1 => (intro w hSw; go_simp; try with_reducible rfl)
  try simp only [Act.put, List.setIfInBounds_toArray, List.set_cons_zero, List.set_cons_succ]
  refine wpAnyH_take (i := 1) (oi := { dst := some 21, op := _, type := _, pos := _, after := _, guard := _ }) (v := ?v2) rfl (by kernel_rfl) (by kernel_rfl) (by kernel_rfl) (fun _ _ _ h => h) (Or.inl ⟨by rfl, ?y2⟩) (by assumption) ?r2
  case y2 => (intro w hSw; go_simp; try with_reducible rfl)
  try simp only [Act.put, List.setIfInBounds_toArray, List.set_cons_zero, List.set_cons_succ]
  refine wpAnyH_take (i := 2) (oi := { dst := some 22, op := _, type := _, pos := _, after := _, guard := _ }) (v := ?v3) rfl (by kernel_rfl) (by kernel_rfl) (by kernel_rfl) (fun _ _ _ h => h) (Or.inl ⟨by rfl, ?y3⟩) (by assumption) ?r3
  case y3 => (intro w hSw; go_simp; try with_reducible rfl)
  try simp only [Act.put, List.setIfInBounds_toArray, List.set_cons_zero, List.set_cons_succ]
  refine wpAnyH_take (i := 3) (oi := { dst := some 23, op := _, type := _, pos := _, after := _, guard := _ }) (v := ?v4) rfl (by kernel_rfl) (by kernel_rfl) (by kernel_rfl) (fun _ _ _ h => h) (Or.inl ⟨by rfl, ?y4⟩) (by assumption) ?r4
  case y4 => (intro w hSw; go_simp; try with_reducible rfl)
  try simp only [Act.put, List.setIfInBounds_toArray, List.set_cons_zero, List.set_cons_succ]
  refine wpAnyH_take (i := 4) (oi := { dst := some 24, op := _, type := _, pos := _, after := _, guard := _ }) (v := ?v5) rfl (by kernel_rfl) (by kernel_rfl) (by kernel_rfl) (fun _ _ _ h => h) (Or.inl ⟨by rfl, ?y5⟩) (by assumption) ?r5
  case y5 => (intro w hSw; go_simp; try with_reducible rfl)
  try simp only [Act.put, List.setIfInBounds_toArray, List.set_cons_zero, List.set_cons_succ]
  refine wpAnyH_take (i := 5) (oi := { dst := some 25, op := _, type := _, pos := _, after := _, guard := _ }) (v := ?v6) rfl (by kernel_rfl) (by kernel_rfl) (by kernel_rfl) (fun _ _ _ h => h) (Or.inl ⟨by rfl, ?y6⟩) (by assumption) ?r6
  case y6 => (intro w hSw; go_simp; try with_reducible rfl)
  try simp only [Act.put, List.setIfInBounds_toArray, List.set_cons_zero, List.set_cons_succ]
  refine wpAnyH_take (i := 6) (oi := { dst := some 26, op := _, type := _, pos := _, after := _, guard := _ }) (v := ?v7) rfl (by kernel_rfl) (by kernel_rfl) (by kernel_rfl) (fun _ _ _ h => h) (Or.inl ⟨by rfl, ?y7⟩) (by assumption) ?r7
  case y7 => (intro w hSw; go_simp; try with_reducible rfl)
  try simp only [Act.put, List.setIfInBounds_toArray, List.set_cons_zero, List.set_cons_succ]
  refine wpAnyH_ready (rs := [7]) (by kernel_rfl) (by simp) (AllReadyH.cons (o := _) rfl (fun K hK => ?_) AllReadyH.nil)
  go_simp
  (go_at_call 32; (with_reducible refine (hN2.out _).mono ?_); rintro x w5 ⟨rfl, hw5⟩; subst hw5)
  try go_wp2_with fail
  refine hK.out _ _ (trivial) (fun hHeld => ?_)
  clear hK K
  try simp only [Act.put, List.setIfInBounds_toArray, List.set_cons_zero, List.set_cons_succ]
  refine wpAnyH_take (i := 8) (oi := { dst := some 28, op := _, type := _, pos := _, after := _, guard := _ }) (v := ?v8) rfl (by kernel_rfl) (by kernel_rfl) (by kernel_rfl) (fun _ _ _ h => h) (Or.inl ⟨by rfl, ?y8⟩) (by assumption) ?r8
  case y8 => (intro w hSw; go_simp; try with_reducible rfl)
  try simp only [Act.put, List.setIfInBounds_toArray, List.set_cons_zero, List.set_cons_succ]
  refine wpAnyH_take (i := 9) (oi := { dst := some 5, op := _, type := _, pos := _, after := _, guard := _ }) (v := ?v9) rfl (by kernel_rfl) (by kernel_rfl) (by kernel_rfl) (fun _ _ _ h => h) (Or.inl ⟨by rfl, ?y9⟩) (by assumption) ?r9
  case y9 => (intro w hSw; go_simp; try with_reducible rfl)
  try simp only [Act.put, List.setIfInBounds_toArray, List.set_cons_zero, List.set_cons_succ]
  refine wpAnyH_take (i := 10) (oi := { dst := some 6, op := _, type := _, pos := _, after := _, guard := _ }) (v := ?v10) rfl (by kernel_rfl) (by kernel_rfl) (by kernel_rfl) (fun _ _ _ h => h) (Or.inl ⟨by rfl, ?y10⟩) (by assumption) ?r10
  case y10 => (intro w hSw; go_simp; try with_reducible rfl)
  try simp only [Act.put, List.setIfInBounds_toArray, List.set_cons_zero, List.set_cons_succ]
  refine wpAnyH_done (by kernel_rfl) ?_ _
  have H1 := Lib.hid (show RR w W.drew from H0.out.drewN 1)
  generalize W.drew = W1 at H1 ⊢
  clear hr hf hHeld
  have hr := H1.out.row
  have hf := H1.out.free
  go_wp2_with (first
    | (go_at_call 31; (with_reducible refine (HSUM.out _).mono ?_); rintro x w5 ⟨rfl, hw5⟩; subst hw5)
    | (go_at_call 32; (with_reducible refine (hN6.out _).mono ?_); rintro x w5 ⟨rfl, hw5⟩; subst hw5)
    | (go_at_call 33; (with_reducible refine (HAL.out _).mono ?_); rintro x w5 ⟨rfl, hw5⟩; subst hw5))
  obtain ⟨q1, q2⟩ := H1.out.done zeroI zeroI_ok
  exact bodyPost_ret (results_cell2 Try.results15 rfl (ld_some q1 (ldr_ip _ _ _))) rfl ⟨by rw [HR.out]; rfl, q2⟩
end Go.Proofs.Ytbmacnbegbcgpaa
