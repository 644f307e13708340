/-
  The walks of SerialGaps, SerialOrders, SerialWithin.
-/
import Derived.Test.YtdhjcjofdfjfgaaRgB
namespace Go.Proofs.Ytdhjcjofdfjfgaa
open Go.RowKit
set_option linter.unusedVariables false
set_option linter.unusedSimpArgs false

theorem bounds_n32 {n : Int} (h : (Lit.int .u32 n).wf = true) : 0 ≤ n ∧ n < 4294967296 := by
  have := bounds_u32 h
  omega
theorem bounds_n16 {n : Int} (h : (Lit.int .u16 n).wf = true) : 0 ≤ n ∧ n < 65536 := by
  have := bounds_u16 h
  omega
theorem bounds_n64 {n : Int} (h : (Lit.int .i64 n).wf = true) : -9223372036854775808 ≤ n ∧ n ≤ 9223372036854775807 := by
  have := bounds_i64 h
  omega
set_option maxRecDepth 100000 in
set_option maxHeartbeats 1000000 in
theorem sgaps_any (a b k : Int) (ha : (Lit.int .u32 a).wf = true) (hb : (Lit.int .u32 b).wf = true) (hk : (Lit.int .i64 k).wf = true) (w : World) : Calls Try.prog 3 #[.int .u32 a, .int .u32 b, .int .i64 k] w fun x w' => x = .returned (.bool true) ∧ w = w' := by
  obtain ⟨a0, a1⟩ := bounds_n32 ha
  obtain ⟨b0, b1⟩ := bounds_n32 hb
  obtain ⟨k0, k1⟩ := bounds_n64 hk
  have HG := Lib.hid (sgap_any a b w)
  have HRG := Lib.hid (gap13_any a b a0 a1 b0 b1 w)
  have HL := Lib.hid (sless_any a b w)
  have HA := Lib.hid (fun n k => sadd_any n k w)
  have HRA := Lib.hid (add13_any a k a0 a1 k0 k1 w)
  have HLI := Lib.hid (lives13_any w)
  obtain ⟨m, hm⟩ : ∃ m, wrap64 (-k) = m := ⟨_, rfl⟩
  have hm2 : m = -k ∨ m = -k - 18446744073709551616 := by rw [← hm]; simp only [wrap64]; omega
  have HBK := Lib.hid (addI_back a k a0 a1 m hm2)
  have HAG := Lib.hid (addI_gap a b b0 b1)
  obtain ⟨g, HGE⟩ : ∃ g, Hid (gapI a b = g) := ⟨_, Lib.hid rfl⟩
  obtain ⟨s, HSE⟩ : ∃ s, Hid (addI a k = s) := ⟨_, Lib.hid rfl⟩
  rw [HGE.out] at HG HRG HL HAG
  rw [HSE.out] at HRA HBK
  have hm3 : wrap64 (0 - k) = m := by rw [← hm]; congr 1; omega
  clear ha hb hk hm2
  go_enter Try.func3, Try.ntmps3
  go_wp2_with (first
    | (go_at_call 7; (with_reducible refine HG.out.mono ?_); rintro x w1 ⟨rfl, rfl⟩)
    | (go_at_call 8; (with_reducible refine HRG.out.mono ?_); rintro x w1 ⟨rfl, rfl⟩)
    | (go_at_call 9; (with_reducible refine HL.out.mono ?_); rintro x w1 ⟨rfl, rfl⟩)
    | (go_at_call 10; (with_reducible refine (HA.out a g).mono ?_); rintro x w1 ⟨rfl, rfl⟩; rw [HAG.out])
    | (go_at_call 10; (with_reducible refine (HA.out s m).mono ?_); rintro x w1 ⟨rfl, rfl⟩; rw [HBK.out])
    | (go_at_call 10; (with_reducible refine (HA.out a k).mono ?_); rintro x w1 ⟨rfl, rfl⟩; rw [HSE.out])
    | (go_at_call 11; (with_reducible refine HRA.out.mono ?_); rintro x w1 ⟨rfl, rfl⟩)
    | (go_at_call 12; (with_reducible refine HLI.out.mono ?_); rintro x w1 ⟨rfl, rfl⟩))
  go_ret
  exact ⟨rfl, rfl⟩
set_option maxRecDepth 100000 in
set_option maxHeartbeats 1000000 in
theorem swithins_any (a b k : Int) (ha : (Lit.int .u32 a).wf = true) (hb : (Lit.int .u32 b).wf = true) (hk : (Lit.int .i64 k).wf = true) (w : World) : Calls Try.prog 5 #[.int .u32 a, .int .u32 b, .int .i64 k] w fun x w' => x = .returned (.bool true) ∧ w = w' := by
  obtain ⟨a0, a1⟩ := bounds_n32 ha
  obtain ⟨b0, b1⟩ := bounds_n32 hb
  obtain ⟨k0, k1⟩ := bounds_n64 hk
  have HG := Lib.hid (swithin_any a b k w)
  have HS := Lib.hid (swithin_any b b k w)
  rw [inI_self] at HS
  have HRG := Lib.hid (within13_any a b k a0 a1 b0 b1 k0 k1 w)
  have HLI := Lib.hid (lives13_any w)
  obtain ⟨g, HGE⟩ : ∃ g, Hid (inI a b k = g) := ⟨_, Lib.hid rfl⟩
  rw [HGE.out] at HG HRG
  clear ha hb hk
  go_enter Try.func5, Try.ntmps5
  go_wp2_with (first
    | (go_at_call 13; (with_reducible refine HS.out.mono ?_); rintro x w1 ⟨rfl, rfl⟩)
    | (go_at_call 13; (with_reducible refine HG.out.mono ?_); rintro x w1 ⟨rfl, rfl⟩)
    | (go_at_call 14; (with_reducible refine HRG.out.mono ?_); rintro x w1 ⟨rfl, rfl⟩)
    | (go_at_call 12; (with_reducible refine HLI.out.mono ?_); rintro x w1 ⟨rfl, rfl⟩))
  go_ret
  exact ⟨rfl, rfl⟩
set_option maxRecDepth 100000 in
set_option maxHeartbeats 1000000 in
theorem sorders_any (a x y : Int) (ha : (Lit.int .u32 a).wf = true) (hx : (Lit.int .u16 x).wf = true) (hy : (Lit.int .u16 y).wf = true) (w : World) : Calls Try.prog 4 #[.int .u32 a, .int .u16 x, .int .u16 y] w fun x w' => x = .returned (.bool true) ∧ w = w' := by
  obtain ⟨a0, a1⟩ := bounds_n32 ha
  obtain ⟨x0, x1⟩ := bounds_n16 hx
  obtain ⟨y0, y1⟩ := bounds_n16 hy
  have g1 := gapI_off a x y y0 (by omega)
  have g2 := gapI_add a (x + y) (by omega) (by omega)
  have g3 := gapI_neg a (addI a (x + y)) (by rw [g2]; omega)
  rw [g2] at g3
  have HRA := Lib.hid (fun k h => add13_any a k a0 a1 (And.left h) (And.right h) w)
  have h1 := sless_any a (addI a (x + y)) w
  have h2 := sless_any (addI a x) (addI a (x + y)) w
  have h3 := sless_any (addI a (x + y)) a w
  have h4 := sgap_any a (addI a (x + y)) w
  rw [g2] at h1 h4
  rw [g1] at h2
  rw [g3] at h3
  have hxy : ¬ 0 < -(x + y) := by omega
  rw [decide_eq_false hxy] at h3
  have hd : decide (0 < x + y) = (decide (0 < x) || decide (0 < y)) := by
    rw [← Bool.decide_or]; exact decide_eq_decide.2 (by omega)
  rw [hd] at h1
  have H1 := Lib.hid h1
  have H2 := Lib.hid h2
  have H3 := Lib.hid h3
  have H4 := Lib.hid h4
  have HLI := Lib.hid (lives13_any w)
  obtain ⟨p, HP⟩ : ∃ p, Hid (addI a x = p) := ⟨_, Lib.hid rfl⟩
  obtain ⟨q, HQ⟩ : ∃ p, Hid (addI a (x + y) = p) := ⟨_, Lib.hid rfl⟩
  rw [HP.out] at H2
  rw [HQ.out] at H1 H2 H3 H4
  clear h1 h2 h3 h4 g1 g2 g3 ha hx hy
  go_enter Try.func4, Try.ntmps4
  --CASES
  go_wp2_with (first
    | (go_at_call 7; (with_reducible refine H4.out.mono ?_); rintro x w1 ⟨rfl, rfl⟩)
    | (go_at_call 9; (with_reducible refine H1.out.mono ?_); rintro x w1 ⟨rfl, rfl⟩)
    | (go_at_call 9; (with_reducible refine H2.out.mono ?_); rintro x w1 ⟨rfl, rfl⟩)
    | (go_at_call 9; (with_reducible refine H3.out.mono ?_); rintro x w1 ⟨rfl, rfl⟩)
    | (go_at_call 11; (with_reducible refine (HRA.out x (by omega)).mono ?_); rintro x w1 ⟨rfl, rfl⟩; rw [HP.out])
    | (go_at_call 11; (with_reducible refine (HRA.out (x + y) (by omega)).mono ?_); rintro x w1 ⟨rfl, rfl⟩; rw [HQ.out])
    | (go_at_call 12; (with_reducible refine HLI.out.mono ?_); rintro x w1 ⟨rfl, rfl⟩))
  all_goals go_ret
  all_goals exact ⟨rfl, rfl⟩
end Go.Proofs.Ytdhjcjofdfjfgaa
