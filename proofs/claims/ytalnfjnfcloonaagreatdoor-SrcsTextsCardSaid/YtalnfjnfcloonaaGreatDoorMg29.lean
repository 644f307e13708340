/-
  Texts joined: PureGap, Gap, OctRd.
-/
import Derived.Test.YtalnfjnfcloonaaGreatDoorBase
import Derived.Test.YtalnfjnfcloonaaGreatDoorAgg
import Derived.Deep.Cut
import Derived.ChangeKeysEq
import Derived.Test.YtalnfjnfcloonaaGreatDoorMg09
import Derived.Test.YtalnfjnfcloonaaGreatDoorObj
/-
  The longest run of zeros: plain mathematics.
-/
namespace Go.Proofs.YtalnfjnfcloonaaGreatDoor
open Go.RowKit
set_option linter.unusedVariables false

/-- One number more: where the longest run begins, how long it is, and how long the run is that ends here. -/
def gapSt (i n : Nat) (st : Nat × Nat × Nat) : Nat × Nat × Nat :=
  let run := if n = 0 then st.2.2 + 1 else 0
  if st.2.1 < run then (i + 1 - run, run, run) else (st.1, st.2.1, run)
def gapK (ws : List Nat) : Nat → Nat × Nat × Nat
  | 0 => (0, 0, 0)
  | k + 1 => gapSt k (ws.getD k 1) (gapK ws k)
theorem gapK_le (ws : List Nat) : ∀ k, (gapK ws k).2.1 ≤ k ∧ (gapK ws k).2.2 ≤ k ∧ (gapK ws k).1 + (gapK ws k).2.1 ≤ k
  | 0 => by simp [gapK]
  | k + 1 => by
    obtain ⟨h1, h2, h3⟩ := gapK_le ws k
    simp only [gapK, gapSt]
    generalize gapK ws k = st at *
    by_cases hz : ws.getD k 1 = 0
    · simp only [hz, if_true]
      split
      · simp only; omega
      · simp only; omega
    · simp only [hz, if_false]
      split
      · simp only; omega
      · simp only; omega
end Go.Proofs.YtalnfjnfcloonaaGreatDoor

/-
  The contract of addr.gap.
-/
namespace Go.Proofs.YtalnfjnfcloonaaGreatDoor
open Go.RowKit
set_option linter.unusedVariables false
attribute [local go_sem ↓] ld_u8x
attribute [local go_sem] ldr_u8x

def U16 (ws : List Nat) : List Value := ws.map fun (n : Nat) => Value.int .u16 (n : Int)
theorem U16_length (ws : List Nat) : (U16 ws).length = ws.length := by simp [U16]
set_option maxRecDepth 100000 in
set_option maxHeartbeats 1000000 in
theorem gap_any (ws : List Nat) (h8 : ws.length = 8) (w : World) : Calls Tryz.prog 52 #[.agg (U16 ws).toArray] w fun e w' => e = .returned (.tuple #[.int .i64 ((gapK ws 8).1 : Int), .int .i64 ((gapK ws 8).2.1 : Int)]) ∧ Below w.heap.size w w' := by
  have hrow : row? (w.alloc (.cells (U16 ws).toArray 82)) w.heap.size 0 8 = some (U16 ws) := obj_row (A := []) (C := []) (by simpa using ObjAt.made w (U16 ws).toArray 82) rfl (by rw [U16_length, h8])
  have hb : Below w.heap.size w (w.alloc (.cells (U16 ws).toArray 82)) := (Below.refl _ _).alloc (Nat.le_refl _) _
  have HR := Lib.hid hrow
  have HB := Lib.hid hb
  have H8 := Lib.hid h8
  clear hrow hb h8
  go_enter Tryz.func52, Tryz.ntmps52
  go_upto_region 1 with (fail)
  have hrow := HR.out
  clear HR
  generalize w.alloc (.cells (U16 ws).toArray 82) = W at hrow HB ⊢
  go_wp2
  clear hrow
  go_loop [4, 5, 6, 10] (fun vf vm vr vi => ∃ k : Nat, k ≤ 8 ∧ vi = .int .i64 (k : Int) ∧ vf = .int .i64 ((gapK ws k).1 : Int) ∧ vm = .int .i64 ((gapK ws k).2.1 : Int) ∧ vr = .int .i64 ((gapK ws k).2.2 : Int)) (fun _ _ _ vi => 8 - (intOf vi).toNat)
  case atStart => exact ⟨0, by omega, rfl, rfl, rfl, rfl⟩
  case round =>
    obtain ⟨k, hk, rfl, rfl, rfl, rfl⟩ := hrel
    have hle := gapK_le ws k
    by_cases hlt : k < 8
    · have hix : ∀ w0, (Instr.index 82 (.agg (U16 ws).toArray) (.int .i64 (k : Int))).run Tryz.prog w0 = .ok (.int .u16 ((ws.getD k 1 : Nat) : Int)) w0 := fun w0 => by
        have hp : (part 81 (U16 ws).toArray (k * 1)).run Tryz.prog w0 = .ok (.int .u16 ((ws.getD k 1 : Nat) : Int)) w0 := run_part_plain w0 (by kernel_rfl) (by
          have h8 := H8.out
          simp [U16, List.getD, show k < ws.length by omega])
        have hz : (sizeOf 81).run Tryz.prog w0 = .ok 1 w0 := Tryz.sizeOf81 w0
        rw [Nat.mul_one] at hp
        simp only [List.getD_eq_getElem?_getD] at hp ⊢
        simp [Instr.index, asIntOf, run_underlying Tryz.underlying82, hz, hp, hlt]
      have Hst := Lib.hid (show gapK ws (k + 1) = gapSt k (ws.getD k 1) (gapK ws k) from rfl)
      generalize ws.getD k 1 = n at hix Hst
      generalize gapK ws k = st at hle Hst ⊢
      obtain ⟨f, m, r⟩ := st
      simp only at hle
      obtain ⟨g1, g2, g3⟩ := hle
      by_cases hz : n = 0
      · by_cases hm : m < r + 1
        · have HS := Lib.hid (Hst.out.trans (show gapSt k n (f, m, r) = (k + 1 - (r + 1), r + 1, r + 1) by simp [gapSt, hz, hm]))
          have hn0 : ((n : Int) != 0) = false := by simp [hz]
          have hmi : (m : Int) < (r : Int) + 1 := by omega
          clear Hst hz hm
          go_wp2
          refine ⟨⟨k + 1, by omega, by go_num, ?_, ?_, ?_⟩, by simp [intOf]; omega⟩
          · rw [HS.out]; congr 1; show _ = ((k + 1 - (r + 1) : Nat) : Int); omega
          · rw [HS.out]; congr 1
          · rw [HS.out]; congr 1
        · have HS := Lib.hid (Hst.out.trans (show gapSt k n (f, m, r) = (f, m, r + 1) by simp [gapSt, hz, hm]))
          have hn0 : ((n : Int) != 0) = false := by simp [hz]
          have hmi : (r : Int) + 1 ≤ (m : Int) := by omega
          clear Hst hz hm
          go_wp2
          refine ⟨⟨k + 1, by omega, by go_num, ?_, ?_, ?_⟩, by simp [intOf]; omega⟩
          · rw [HS.out]
          · rw [HS.out]
          · rw [HS.out]; congr 1
      · have HS := Lib.hid (Hst.out.trans (show gapSt k n (f, m, r) = (f, m, 0) by simp [gapSt, hz]))
        have hn0 : ((n : Int) != 0) = true := by simp [bne]; omega
        clear Hst hz
        go_wp2
        refine ⟨⟨k + 1, by omega, by go_num, ?_, ?_, ?_⟩, by simp [intOf]; omega⟩
        · rw [HS.out]
        · rw [HS.out]
        · rw [HS.out]; rfl
    · have hk8 : k = 8 := by omega
      subst hk8
      rw [show ((8 : Nat) : Int) = 8 from rfl]
      go_wp2
      go_ret2
      exact ⟨rfl, HB.out⟩
end Go.Proofs.YtalnfjnfcloonaaGreatDoor

/-
  The contracts of octet's Reader, and of the document's own.
-/
namespace Go.Proofs.YtalnfjnfcloonaaGreatDoor
open Go.RowKit
set_option linter.unusedVariables false

/-- A reader in memory: what is left, how many went by, whether it is bad. -/
def RdAt (w : World) (b : Nat) (l : List UInt8) (k : Nat) (bad : Bool) : Prop := ObjAt w b #[.string (Str l), .int .i64 k, .bool bad] 102
def takeV (l : List UInt8) (bad : Bool) (n : Int) : List UInt8 := if bad then [] else if (l.length : Int) < n then [] else l.take n.toNat
def leftV (l : List UInt8) (bad : Bool) (n : Int) : List UInt8 := if bad then l else if (l.length : Int) < n then l else l.drop n.toNat
def pastV (l : List UInt8) (bad : Bool) (n : Int) (k : Nat) : Nat := if bad then k else if (l.length : Int) < n then k else k + n.toNat
def badV (l : List UInt8) (bad : Bool) (n : Int) : Bool := if bad then true else decide ((l.length : Int) < n)

theorem takeV_le (l : List UInt8) (bad : Bool) (n : Int) : (takeV l bad n).length ≤ l.length := by
  unfold takeV; repeat' split
  all_goals simp
  omega

theorem new_any (s : ByteArray) (w : World) : Calls Tryz.prog 49 #[.string s] w fun e w' => e = .returned (.pointer (some ⟨w.heap.size, 0, none⟩)) ∧ w' = w.alloc (.cells #[.string s, .int .i64 0, .bool false] 102) := by
  go_enter Tryz.func49, Tryz.ntmps49
  go_wp2
  go_ret
  exact ⟨rfl, rfl⟩

set_option maxHeartbeats 400000 in
theorem take_any (b : Nat) (l : List UInt8) (k : Nat) (bad : Bool) (n : Int) (hl : l.length ≤ 1000000) (hk : k ≤ 1000000) (w : World) (h : RdAt w b l k bad) :
    Calls Tryz.prog 70 #[.pointer (some ⟨b, 0, none⟩), .int .i64 n] w fun e w' => e = .returned (.string (Str (takeV l bad n))) ∧ RdAt w' b (leftV l bad n) (pastV l bad n k) (badV l bad n) ∧ w.grownBy w' (some b) := by
  have H := Lib.hid h
  have c0 := h.cell 0
  have c1 := h.cell 1
  have c2 := h.cell 2
  have f0 := h.free 0
  have f1 := h.free 1
  have f2 := h.free 2
  simp at c0 c1 c2
  clear h
  cases bad with
  | true =>
    go_enter Tryz.func70, Tryz.ntmps70
    go_wp2
    go_ret
    exact ⟨rfl, H.out, World.grownBy.refl _ _⟩
  | false =>
    have hsz : (Str l).size = l.length := Str_size l
    have H := Lib.hid H.out
    by_cases hn : n < 0
    · have e1 : ¬ ((l.length : Int) < n) := by omega
      have HT := Lib.hid (show takeV l false n = [] ∧ leftV l false n = l ∧ pastV l false n k = k ∧ badV l false n = false by
        simp [takeV, leftV, pastV, badV, e1, show n.toNat = 0 by omega])
      clear e1
      go_enter Tryz.func70, Tryz.ntmps70
      go_wp2
      go_ret
      obtain ⟨t1, t2, t3, t4⟩ := HT.out
      refine ⟨?_, ?_, ?_⟩
      · rw [t1]; rfl
      · rw [t2, t3, t4]
        have g := (H.out.set 0 (.string ((Str l).extract 0 l.length))).set 1 (.int .i64 (k : Int))
        rw [Str_extract] at g ⊢
        simpa [RdAt] using g
      · exact gset' (gset _ _ _ _) _ _
    · by_cases hlt : (l.length : Int) < n
      · have HT := Lib.hid (show takeV l false n = [] ∧ leftV l false n = l ∧ pastV l false n k = k ∧ badV l false n = true by
          simp [takeV, leftV, pastV, badV, hlt])
        go_enter Tryz.func70, Tryz.ntmps70
        go_wp2
        go_ret
        obtain ⟨t1, t2, t3, t4⟩ := HT.out
        refine ⟨?_, ?_, ?_⟩
        · rw [t1]; rfl
        · rw [t2, t3, t4]
          have g := H.out.set 2 (.bool true)
          simpa [RdAt] using g
        · exact gset _ _ _ _
      · obtain ⟨m, rfl⟩ := Int.eq_ofNat_of_zero_le (show 0 ≤ n by omega)
        have HT := Lib.hid (show takeV l false m = l.take m ∧ leftV l false m = l.drop m ∧ pastV l false m k = k + m ∧ badV l false m = false by
          unfold takeV leftV pastV badV; simp only [if_neg hlt, Int.toNat_natCast]; simp; omega)
        go_enter Tryz.func70, Tryz.ntmps70
        go_wp2
        go_ret
        obtain ⟨t1, t2, t3, t4⟩ := HT.out
        refine ⟨?_, ?_, ?_⟩
        · rw [t1]
          have e : (Str l).extract 0 m = Str (l.take m) := by rw [Str_extract]; simp
          rw [← e]; rfl
        · rw [t2, t3, t4]
          have g := (H.out.set 0 (.string ((Str l).extract m l.length))).set 1 (.int .i64 ((k : Int) + (m : Int)))
          rw [Str_extract, List.take_of_length_le (by simp)] at g ⊢
          simpa [RdAt] using g
        · exact gset' (gset _ _ _ _) _ _

theorem num_any (b : Nat) (l : List UInt8) (k : Nat) (bad : Bool) (n : Int) (hl : l.length ≤ 1000000) (hk : k ≤ 1000000) (w : World) (h : RdAt w b l k bad) :
    Calls Tryz.prog 51 #[.pointer (some ⟨b, 0, none⟩), .int .i64 n] w fun e w' => e = .returned (.int .u64 (num (takeV l bad (clampN n 8)))) ∧ RdAt w' b (leftV l bad (clampN n 8)) (pastV l bad (clampN n 8) k) (badV l bad (clampN n 8)) ∧ w.grownBy w' (some b) := by
  have H := Lib.hid h
  clear h
  go_enter Tryz.func51, Tryz.ntmps51
  go_wp2_with fail
  refine (clamp_any n 8 _).mono ?_
  rintro e w1 ⟨rfl, rfl⟩
  go_wp2_with fail
  refine (take_any b l k bad _ hl hk _ H.out).mono ?_
  rintro e w1 ⟨rfl, h1, g1⟩
  have H1 := Lib.hid h1; clear h1
  have G1 := Lib.hid g1; clear g1
  go_wp2_with fail
  refine (number_any _ (by rw [Str_size]; unfold maxLen; have := takeV_le l bad (clampN n 8); omega) _).mono ?_
  rintro e w2 ⟨rfl, rfl⟩
  go_wp2
  go_ret
  exact ⟨rfl, H1.out, G1.out⟩

end Go.Proofs.YtalnfjnfcloonaaGreatDoor

