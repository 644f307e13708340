/-
  The document's own Bytes.
-/
import Derived.Test.YtkmnnkklbgnfpaaMga
import Derived.Test.YtkmnnkklbgnfpaaRefa
namespace Go.Proofs.Ytkmnnkklbgnfpaa
open Go.RowKit
set_option linter.unusedVariables false

set_option maxRecDepth 100000 in
set_option maxHeartbeats 2000000 in
theorem rbytes_any (v : Bool) (l : List UInt8) (hl : l.length = 16) (w : World) : Calls Try.prog 25 #[.agg (addrC v l).toArray] w fun e w' => e = .returned (.string (Str (bytesV v l))) ∧ Below w.heap.size w w' := by
  obtain ⟨i0, hi, hz0, hz1, hz2⟩ := info_parts Try.info_u8'
  have HB := Lib.hid (BoxAt.made w v l hl 24)
  go_enter Try.func25, Try.ntmps25
  go_upto_region 1 with (fail)
  generalize w.alloc _ = W at HB ⊢
  have k0 := HB.out.1
  have Hrow := Lib.hid HB.out.2.1
  have Hlt := Lib.hid HB.out.2.2.2.1
  have Hb := Lib.hid HB.out.2.2.2.2
  clear HB
  obtain ⟨c0⟩ : Nonempty (∀ wr, Below W.heap.size W wr → wr.cell? ⟨w.heap.size, 0, none⟩ = some (.bool v)) := ⟨fun wr hb => (hb.cell (p := ⟨w.heap.size, 0, none⟩) Hlt.out).trans k0⟩
  have HC := Lib.hid c0; clear c0
  have hkk : ∃ N : Nat, N = (if v then 16 else 4) := ⟨_, rfl⟩
  clear hkk
  have c0 := HC.out (W.alloc (.cells #[] 5)) ((Below.refl _ _).alloc (Nat.le_refl _) _)
  cases v
  · go_wp2_with fail
    go_loopw [3, 5] (fun s i wr => ∃ k : Nat, k ≤ 4 ∧ i = .int .i64 (k : Int) ∧ wr.ownsRow W.heap.size 5 1 s k (B8 (l.take k)) ∧ Hid (Below W.heap.size W wr)) (fun _ i _ => 16 - (intOf i).toNat)
    case atStart => exact ⟨0, by omega, rfl, World.ownsRow_lit W #[] 0 (Nat.le_refl _) (by unfold maxLen; omega) (by simp), Lib.hid ((Below.refl _ _).alloc (Nat.le_refl _) _)⟩
    case round =>
      obtain ⟨k, hk, rfl, hown, hbel⟩ := hrel
      by_cases hlt : k < 4
      · have hkl : k < l.length := by omega
        have x1 : wr.cell? ⟨w.heap.size, 1 + k, none⟩ = some (.int .u8 ((l[k]).toNat : Int)) := (hbel.out.cell (p := ⟨w.heap.size, 1 + k, none⟩) Hlt.out).trans (Hrow.out k hkl)
        have Hst := Lib.hid (show B8 (l.take (k + 1)) = B8 (l.take k) ++ [.int .u8 ((l[k]).toNat : Int)] by rw [List.take_succ_eq_append_getElem hkl, B8_append]; rfl)
        have Hown := Lib.hid hown; clear hown
        generalize ((l[k]).toNat : Int) = x at x1 Hst
        clear hkl
        have hz := hbel.out.size
        have hown := Hown.out
        go_wp2_with (at_builtin; refine wpList_append_own _ rfl _ _ 41 rfl W.heap.size 5 i0 (.int .u8 0) 1 1 Try.underlying41 hi hz0 hz1 hz2 rfl (by decide) _ _ _ rfl (hown.alloc _) ⟨wr.heap.size, 0, none⟩ 1 1 [.int .u8 x] rfl rfl (World.news_of_block (heap_alloc_new wr _)) (by simp [Value.oneCell']) (by unfold maxLen; omega) (by omega) (by simp; omega) ?_)
        intro v' w1 hown' hgrow _
        have Hown' := Lib.hid hown'
        have Hgrow := Lib.hid hgrow
        clear hown' hgrow hown hz
        go_wp2
        go_roundw
        case rel =>
          refine ⟨k + 1, by omega, by go_num, ?_, ?_⟩
          · rw [Hst.out]; exact Hown'.out
          · have hz := hbel.out.size
            exact Lib.hid ((hbel.out.alloc hz _).grown Hgrow.out (by simp; omega) (fun g hg => (Hown.out.lt g hg).1))
        case measure => simp [intOf]; omega
      · obtain rfl : k = 4 := by omega
        have hcv := run_string_own 41 9 5 Try.underlying41 Try.underlying5 Try.underlying9 hown
        clear hown
        go_wp2
        go_ret
        exact ⟨rfl, bstep Hb.out hbel.out⟩
  · go_wp2_with fail
    go_loopw [3, 5] (fun s i wr => ∃ k : Nat, k ≤ 16 ∧ i = .int .i64 (k : Int) ∧ wr.ownsRow W.heap.size 5 1 s k (B8 (l.take k)) ∧ Hid (Below W.heap.size W wr)) (fun _ i _ => 16 - (intOf i).toNat)
    case atStart => exact ⟨0, by omega, rfl, World.ownsRow_lit W #[] 0 (Nat.le_refl _) (by unfold maxLen; omega) (by simp), Lib.hid ((Below.refl _ _).alloc (Nat.le_refl _) _)⟩
    case round =>
      obtain ⟨k, hk, rfl, hown, hbel⟩ := hrel
      by_cases hlt : k < 16
      · have hkl : k < l.length := by omega
        have x1 : wr.cell? ⟨w.heap.size, 1 + k, none⟩ = some (.int .u8 ((l[k]).toNat : Int)) := (hbel.out.cell (p := ⟨w.heap.size, 1 + k, none⟩) Hlt.out).trans (Hrow.out k hkl)
        have Hst := Lib.hid (show B8 (l.take (k + 1)) = B8 (l.take k) ++ [.int .u8 ((l[k]).toNat : Int)] by rw [List.take_succ_eq_append_getElem hkl, B8_append]; rfl)
        have Hown := Lib.hid hown; clear hown
        generalize ((l[k]).toNat : Int) = x at x1 Hst
        clear hkl
        have hz := hbel.out.size
        have hown := Hown.out
        go_wp2_with (at_builtin; refine wpList_append_own _ rfl _ _ 41 rfl W.heap.size 5 i0 (.int .u8 0) 1 1 Try.underlying41 hi hz0 hz1 hz2 rfl (by decide) _ _ _ rfl (hown.alloc _) ⟨wr.heap.size, 0, none⟩ 1 1 [.int .u8 x] rfl rfl (World.news_of_block (heap_alloc_new wr _)) (by simp [Value.oneCell']) (by unfold maxLen; omega) (by omega) (by simp; omega) ?_)
        intro v' w1 hown' hgrow _
        have Hown' := Lib.hid hown'
        have Hgrow := Lib.hid hgrow
        clear hown' hgrow hown hz
        go_wp2
        go_roundw
        case rel =>
          refine ⟨k + 1, by omega, by go_num, ?_, ?_⟩
          · rw [Hst.out]; exact Hown'.out
          · have hz := hbel.out.size
            exact Lib.hid ((hbel.out.alloc hz _).grown Hgrow.out (by simp; omega) (fun g hg => (Hown.out.lt g hg).1))
        case measure => simp [intOf]; omega
      · obtain rfl : k = 16 := by omega
        rw [List.take_of_length_le (by omega)] at hown
        have hcv := run_string_own 41 9 5 Try.underlying41 Try.underlying5 Try.underlying9 hown
        clear hown
        go_wp2
        go_ret
        exact ⟨rfl, bstep Hb.out hbel.out⟩
end Go.Proofs.Ytkmnnkklbgnfpaa
