/-
  Numbers that go round: the program's latest one.
-/
import Derived.Test.YtdhjcjofdfjfgaaRgT
namespace Go.Proofs.Ytdhjcjofdfjfgaa
open Go.RowKit
set_option linter.unusedVariables false
set_option linter.unusedSimpArgs false

set_option maxRecDepth 100000 in
set_option maxHeartbeats 2000000 in
theorem slatest_any (W : World) (v : Value) (l : List Int) (h : Vec KU W v l) (hu : U32s l) : Calls Try.prog 15 #[v] W fun x w' => x = .returned (.tuple #[.int .u32 (laI l), .bool (decide (0 < l.length))]) ∧ W = w' := by
  rcases l with _ | ⟨a, r⟩
  · obtain ⟨p, cap, rfl, _, _, _⟩ := h.len
    have h0 : decide (0 < ([] : List Int).length) = false := rfl
    rw [h0]
    clear h hu h0
    go_enter Try.func15, Try.ntmps15
    go_wp2
    go_ret2
    exact ⟨rfl, rfl⟩
  · have h0 : decide (0 < (a :: r).length) = true := decide_eq_true (by simp)
    rw [h0]
    obtain ⟨b, o, cap, rfl, h1, h2, hbl, RA⟩ := h.parts (by simp)
    have HRA := Lib.hid RA
    have HL := Lib.hid (fun a b w => sless_any a b w)
    obtain ⟨n, hn⟩ : ∃ n, n = r.length := ⟨_, rfl⟩
    have hmx : n + 1 ≤ maxLen := by rw [hn]; exact Nat.le_trans h1 h2
    unfold maxLen at hmx
    have hl : (a :: r).length = n + 1 := by rw [List.length_cons, hn]
    rw [hl] at h1 ⊢
    have HN := Lib.hid hn
    have r0 : W.cell? ⟨b, o, none⟩ = some (.int .u32 a) := KU_num RA (i := 0) (by simp)
    have hn0 : (0 : Int) < (n : Int) + 1 := by omega
    have hne : ((n : Int) + 1 == 0) = false := by simpa using (by omega : ¬ (n : Int) + 1 = 0)
    have hne2 : ¬ (n : Int) + 1 = 0 := by omega
    have hs1 : (1 : Int) ≤ (n : Int) + 1 := by omega
    have hs2 : (n : Int) + 1 ≤ (cap : Int) := by omega
    have hcp : n + 1 ≤ cap := h1
    clear hn hl h1 h2 RA hu h h0
    by_cases hc1 : cap = 1
    · subst hc1
      have hn1 : n = 0 := by omega
      go_enter Try.func15, Try.ntmps15
      go_wp2_with fail
      go_loopw [4, 16] (fun c i wr => ∃ (j : Nat) (x : Int), j ≤ n ∧ i = .int .i64 j ∧ c = .int .u32 x ∧ Hid (lateI a (r.take j) = x) ∧ wr = W) (fun _ i _ => n - (intOf i).toNat)
      case atStart => exact ⟨0, a, by omega, rfl, rfl, Lib.hid rfl, rfl⟩
      case round =>
        obtain ⟨j, x, hj, rfl, rfl, HX, rfl⟩ := hrel
        by_cases hlt : j < n
        · exfalso; omega
        · have hk2 : ¬ (j : Int) < (n : Int) := by omega
          have HF : Hid (lateI a r = x) := Lib.hid (by have := HX.out; rwa [show j = r.length by rw [← HN.out]; omega, List.take_length] at this)
          go_wp2
          go_ret2
          exact ⟨by show _ = Ending.returned (.tuple #[.int .u32 (lateI a r), .bool true]); rw [HF.out]; rfl, rfl⟩
    · have hc2 : ¬ (cap : Int) = 1 := by omega
      go_enter Try.func15, Try.ntmps15
      go_wp2_with fail
      go_loopw [4, 16] (fun c i wr => ∃ (j : Nat) (x : Int), j ≤ n ∧ i = .int .i64 j ∧ c = .int .u32 x ∧ Hid (lateI a (r.take j) = x) ∧ wr = W) (fun _ i _ => n - (intOf i).toNat)
      case atStart => exact ⟨0, a, by omega, rfl, rfl, Lib.hid rfl, rfl⟩
      case round =>
        obtain ⟨j, x, hj, rfl, rfl, HX, rfl⟩ := hrel
        by_cases hlt : j < n
        · have g1 : j < r.length := by rw [← HN.out]; exact hlt
          have e1 : (a :: r)[j + 1]'(by simp; omega) = r[j] := rfl
          have r1 := KU_num HRA.out (i := j + 1) (by simp; omega)
          rw [e1, show o + (j + 1) = o + 1 + j by omega] at r1
          have hk2 : (j : Int) < (n : Int) := by omega
          have hw1 : IntKind.i64.wrap ((j : Int) + 1) = (j : Int) + 1 := by simp only [IntKind.wrap_i64]; omega
          have HST := Lib.hid (lateI_step a r j g1)
          clear e1
          generalize r[j] = y at *
          obtain ⟨g, HGE⟩ : ∃ g, Hid (gapI x y = g) := ⟨_, Lib.hid rfl⟩
          have hst := HST.out
          rw [HX.out, HGE.out] at hst
          have HL2 := HL.out x y
          rw [HGE.out] at HL2
          have HL3 := Lib.hid HL2
          clear HL2
          by_cases hg : 0 < g
          · rw [if_pos hg] at hst
            have HY := Lib.hid hst
            clear hst HRA
            go_wp2_with (go_at_call 9; (with_reducible refine (HL3.out _).mono ?_); rintro z w1 ⟨rfl, rfl⟩)
            go_roundw
            case rel => exact ⟨j + 1, y, by omega, by simp, rfl, HY, trivial⟩
            case measure => simp [intOf]; omega
          · rw [if_neg hg] at hst
            have HY := Lib.hid hst
            clear hst HRA
            go_wp2_with (go_at_call 9; (with_reducible refine (HL3.out _).mono ?_); rintro z w1 ⟨rfl, rfl⟩)
            go_roundw
            case rel => exact ⟨j + 1, x, by omega, by simp, rfl, HY, trivial⟩
            case measure => simp [intOf]; omega
        · have hk2 : ¬ (j : Int) < (n : Int) := by omega
          have HF : Hid (lateI a r = x) := Lib.hid (by have := HX.out; rwa [show j = r.length by rw [← HN.out]; omega, List.take_length] at this)
          go_wp2
          go_ret2
          exact ⟨by show _ = Ending.returned (.tuple #[.int .u32 (lateI a r), .bool true]); rw [HF.out]; rfl, rfl⟩
abbrev u32sS := sliceS 1 (intS .u32)
abbrev u16sS := sliceS 1 (intS .u16)
theorem opens_u32sS : Opens Try.prog 30 u32sS := opens_slice Try.underlying30 (by kernel_rfl) (by omega) (opens_int Try.underlying22)
theorem opens_u16sS : Opens Try.prog 31 u16sS := opens_slice Try.underlying31 (by kernel_rfl) (by omega) (opens_int Try.underlying28)
end Go.Proofs.Ytdhjcjofdfjfgaa
