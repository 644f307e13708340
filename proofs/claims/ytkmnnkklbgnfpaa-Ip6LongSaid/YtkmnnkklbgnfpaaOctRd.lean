/-
  The contracts of octet's Reader, and of the document's own.
-/
import Derived.Test.YtkmnnkklbgnfpaaOct
import Derived.Test.YtkmnnkklbgnfpaaObj
namespace Go.Proofs.Ytkmnnkklbgnfpaa
open Go.RowKit
set_option linter.unusedVariables false

/-- A reader in memory: what is left, how many went by, whether it is bad. -/
def RdAt (w : World) (b : Nat) (l : List UInt8) (k : Nat) (bad : Bool) : Prop := ObjAt w b #[.string (Str l), .int .i64 k, .bool bad] 62
def takeV (l : List UInt8) (bad : Bool) (n : Int) : List UInt8 := if bad then [] else if (l.length : Int) < n then [] else l.take n.toNat
def leftV (l : List UInt8) (bad : Bool) (n : Int) : List UInt8 := if bad then l else if (l.length : Int) < n then l else l.drop n.toNat
def pastV (l : List UInt8) (bad : Bool) (n : Int) (k : Nat) : Nat := if bad then k else if (l.length : Int) < n then k else k + n.toNat
def badV (l : List UInt8) (bad : Bool) (n : Int) : Bool := if bad then true else decide ((l.length : Int) < n)

theorem takeV_le (l : List UInt8) (bad : Bool) (n : Int) : (takeV l bad n).length ≤ l.length := by
  unfold takeV; repeat' split
  all_goals simp
  omega

theorem new_any (s : ByteArray) (w : World) : Calls Try.prog 28 #[.string s] w fun e w' => e = .returned (.pointer (some ⟨w.heap.size, 0, none⟩)) ∧ w' = w.alloc (.cells #[.string s, .int .i64 0, .bool false] 62) := by
  go_enter Try.func28, Try.ntmps28
  go_wp2
  go_ret
  exact ⟨rfl, rfl⟩

set_option maxHeartbeats 400000 in
theorem take_any (b : Nat) (l : List UInt8) (k : Nat) (bad : Bool) (n : Int) (hl : l.length ≤ 1000000) (hk : k ≤ 1000000) (w : World) (h : RdAt w b l k bad) :
    Calls Try.prog 31 #[.pointer (some ⟨b, 0, none⟩), .int .i64 n] w fun e w' => e = .returned (.string (Str (takeV l bad n))) ∧ RdAt w' b (leftV l bad n) (pastV l bad n k) (badV l bad n) ∧ w.grownBy w' (some b) := by
  have H := Lib.hid h
  have c0 := h.cell 0
  have c1 := h.cell 1
  have c2 := h.cell 2
  have f0 := h.free 0
  have f1 := h.free 1
  have f2 := h.free 2
  simp at c0 c1 c2
  clear h
  cases bad with
  | true =>
    go_enter Try.func31, Try.ntmps31
    go_wp2
    go_ret
    exact ⟨rfl, H.out, World.grownBy.refl _ _⟩
  | false =>
    have hsz : (Str l).size = l.length := Str_size l
    have H := Lib.hid H.out
    by_cases hn : n < 0
    · have e1 : ¬ ((l.length : Int) < n) := by omega
      have HT := Lib.hid (show takeV l false n = [] ∧ leftV l false n = l ∧ pastV l false n k = k ∧ badV l false n = false by
        simp [takeV, leftV, pastV, badV, e1, show n.toNat = 0 by omega])
      clear e1
      go_enter Try.func31, Try.ntmps31
      go_wp2
      go_ret
      obtain ⟨t1, t2, t3, t4⟩ := HT.out
      refine ⟨?_, ?_, ?_⟩
      · rw [t1]; rfl
      · rw [t2, t3, t4]
        have g := (H.out.set 0 (.string ((Str l).extract 0 l.length))).set 1 (.int .i64 (k : Int))
        rw [Str_extract] at g ⊢
        simpa [RdAt] using g
      · exact gset' (gset _ _ _ _) _ _
    · by_cases hlt : (l.length : Int) < n
      · have HT := Lib.hid (show takeV l false n = [] ∧ leftV l false n = l ∧ pastV l false n k = k ∧ badV l false n = true by
          simp [takeV, leftV, pastV, badV, hlt])
        go_enter Try.func31, Try.ntmps31
        go_wp2
        go_ret
        obtain ⟨t1, t2, t3, t4⟩ := HT.out
        refine ⟨?_, ?_, ?_⟩
        · rw [t1]; rfl
        · rw [t2, t3, t4]
          have g := H.out.set 2 (.bool true)
          simpa [RdAt] using g
        · exact gset _ _ _ _
      · obtain ⟨m, rfl⟩ := Int.eq_ofNat_of_zero_le (show 0 ≤ n by omega)
        have HT := Lib.hid (show takeV l false m = l.take m ∧ leftV l false m = l.drop m ∧ pastV l false m k = k + m ∧ badV l false m = false by
          unfold takeV leftV pastV badV; simp only [if_neg hlt, Int.toNat_natCast]; simp; omega)
        go_enter Try.func31, Try.ntmps31
        go_wp2
        go_ret
        obtain ⟨t1, t2, t3, t4⟩ := HT.out
        refine ⟨?_, ?_, ?_⟩
        · rw [t1]
          have e : (Str l).extract 0 m = Str (l.take m) := by rw [Str_extract]; simp
          rw [← e]; rfl
        · rw [t2, t3, t4]
          have g := (H.out.set 0 (.string ((Str l).extract m l.length))).set 1 (.int .i64 ((k : Int) + (m : Int)))
          rw [Str_extract, List.take_of_length_le (by simp)] at g ⊢
          simpa [RdAt] using g
        · exact gset' (gset _ _ _ _) _ _

theorem bad_any (b : Nat) (l : List UInt8) (k : Nat) (bad : Bool) (w : World) (h : RdAt w b l k bad) : Calls Try.prog 32 #[.pointer (some ⟨b, 0, none⟩)] w fun e w' => e = .returned (.bool bad) ∧ w' = w := by
  have c2 := h.cell 2
  simp at c2
  clear h
  go_enter Try.func32, Try.ntmps32
  go_wp2
  go_ret
  exact ⟨rfl, rfl⟩
theorem rest_any (b : Nat) (l : List UInt8) (k : Nat) (bad : Bool) (w : World) (h : RdAt w b l k bad) : Calls Try.prog 36 #[.pointer (some ⟨b, 0, none⟩)] w fun e w' => e = .returned (.string (Str l)) ∧ w' = w := by
  have c2 := h.cell 0
  simp at c2
  clear h
  go_enter Try.func36, Try.ntmps36
  go_wp2
  go_ret
  exact ⟨rfl, rfl⟩
theorem left_any (b : Nat) (l : List UInt8) (k : Nat) (bad : Bool) (w : World) (h : RdAt w b l k bad) : Calls Try.prog 29 #[.pointer (some ⟨b, 0, none⟩)] w fun e w' => e = .returned (.int .i64 l.length) ∧ w' = w := by
  have hs := Lib.hid (Str_size l)
  have H := Lib.hid h
  clear h
  go_enter Try.func29, Try.ntmps29
  go_wp2_with (go_at_call 36; refine (rest_any b l k bad _ H.out).mono ?_; rintro e w' ⟨rfl, rfl⟩)
  go_ret
  exact ⟨ret_int (by rw [← hs.out]), rfl⟩
theorem num_any (b : Nat) (l : List UInt8) (k : Nat) (bad : Bool) (n : Int) (hl : l.length ≤ 1000000) (hk : k ≤ 1000000) (w : World) (h : RdAt w b l k bad) :
    Calls Try.prog 30 #[.pointer (some ⟨b, 0, none⟩), .int .i64 n] w fun e w' => e = .returned (.int .u64 (num (takeV l bad (clampN n 8)))) ∧ RdAt w' b (leftV l bad (clampN n 8)) (pastV l bad (clampN n 8) k) (badV l bad (clampN n 8)) ∧ w.grownBy w' (some b) := by
  have H := Lib.hid h
  clear h
  go_enter Try.func30, Try.ntmps30
  go_wp2_with fail
  refine (clamp_any n 8 _).mono ?_
  rintro e w1 ⟨rfl, rfl⟩
  go_wp2_with fail
  refine (take_any b l k bad _ hl hk _ H.out).mono ?_
  rintro e w1 ⟨rfl, h1, g1⟩
  have H1 := Lib.hid h1; clear h1
  have G1 := Lib.hid g1; clear g1
  go_wp2_with fail
  refine (number_any _ (by rw [Str_size]; unfold maxLen; have := takeV_le l bad (clampN n 8); omega) _).mono ?_
  rintro e w2 ⟨rfl, rfl⟩
  go_wp2
  go_ret
  exact ⟨rfl, H1.out, G1.out⟩

end Go.Proofs.Ytkmnnkklbgnfpaa
