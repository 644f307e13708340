/-
  What is read of bytes one hop further: plain facts.
-/
import Derived.Test.YtbmacnbegbcgpaaIpP
namespace Go.Proofs.Ytbmacnbegbcgpaa
open Go.RowKit
set_option linter.unusedVariables false

/-- Bytes one hop further. -/
def hopL (s : List UInt8) : List UInt8 :=
  s.take 8 ++ (putL (256 * (by8 s 8 - 1) + by8 s 9) 2 ++ (putL (updN (wd s 10) (256 * by8 s 8 + by8 s 9) (256 * (by8 s 8 - 1) + by8 s 9)) 2 ++ s.drop 12))
theorem list10 {s : List UInt8} (h : 10 ≤ s.length) : ∃ x0 x1 x2 x3 x4 x5 x6 x7 x8 x9 r, s = [x0, x1, x2, x3, x4, x5, x6, x7, x8, x9] ++ r := by
  match s, h with
  | x0 :: x1 :: x2 :: x3 :: x4 :: x5 :: x6 :: x7 :: x8 :: x9 :: r, _ => exact ⟨x0, x1, x2, x3, x4, x5, x6, x7, x8, x9, r, rfl⟩
theorem list20 {s : List UInt8} (h : 20 ≤ s.length) : ∃ x0 x1 x2 x3 x4 x5 x6 x7 x8 x9 xa xb xc xd xe xf y0 y1 y2 y3 r, s = [x0, x1, x2, x3, x4, x5, x6, x7, x8, x9, xa, xb, xc, xd, xe, xf, y0, y1, y2, y3] ++ r := by
  obtain ⟨x0, x1, x2, x3, x4, x5, x6, x7, x8, x9, q, rfl⟩ := list10 (s := s) (by omega)
  obtain ⟨xa, xb, xc, xd, xe, xf, y0, y1, y2, y3, r, rfl⟩ := list10 (s := q) (by simp at h; omega)
  exact ⟨x0, x1, x2, x3, x4, x5, x6, x7, x8, x9, xa, xb, xc, xd, xe, xf, y0, y1, y2, y3, r, rfl⟩

set_option maxRecDepth 100000 in
theorem read_hop {s : List UInt8} (h : why5 s = 0) (ht : 0 < by8 s 8) : (hopL s).length = s.length ∧ readV5 (hopL s) = ({ ipOf s with ttl := (by8 s 8 : Int) - 1 }, 0) := by
  obtain ⟨h1, h2⟩ := why5_zero h
  obtain ⟨a1, a2, a3, a4, a5, a6⟩ := hdE_zero h1
  obtain ⟨b1, b2, b3, b4, b5⟩ := bdE_zero h2
  obtain ⟨x0, x1, x2, x3, x4, x5, x6, x7, x8, x9, xa, xb, xc, xd, xe, xf, y0, y1, y2, y3, r, hs⟩ := list20 a1
  have e0 : by8 s 0 = x0.toNat := by rw [hs]; rfl
  have e8 : by8 s 8 = x8.toNat := by rw [hs]; rfl
  have e9 : by8 s 9 = x9.toNat := by rw [hs]; rfl
  have ea : by8 s 10 = xa.toNat := by rw [hs]; rfl
  have eb : by8 s 11 = xb.toNat := by rw [hs]; rfl
  have eW := wd_eq s 10 (by omega)
  have l0 := x0.toNat_lt; have l8 := x8.toNat_lt; have l9 := x9.toNat_lt; have la := xa.toNat_lt; have lb := xb.toNat_lt
  obtain ⟨c, hc⟩ : ∃ c, c = updN (wd s 10) (256 * by8 s 8 + by8 s 9) (256 * (by8 s 8 - 1) + by8 s 9) := ⟨_, rfl⟩
  have hcv : c = 65535 - foldN ((65535 - (256 * xa.toNat + xb.toNat)) + (65535 - (256 * x8.toNat + x9.toNat)) + (256 * (x8.toNat - 1) + x9.toNat)) := by
    rw [hc]; unfold updN; rw [eW, ea, eb, e8, e9]
  have hcl : c ≤ 65535 := by omega
  obtain ⟨N, hN⟩ : ∃ N, N = 256 * (x8.toNat - 1) + x9.toNat := ⟨_, rfl⟩
  have hNl : N ≤ 65535 := by omega
  have hT : hopL s = [x0, x1, x2, x3, x4, x5, x6, x7, UInt8.ofNat (N / 256), UInt8.ofNat N, UInt8.ofNat (c / 256), UInt8.ofNat c, xc, xd, xe, xf, y0, y1, y2, y3] ++ r := by
    unfold hopL
    rw [← hc, e8, e9, ← hN, putL_tw, putL_tw, hs]
    rfl
  have n8 : (UInt8.ofNat (N / 256)).toNat = x8.toNat - 1 := by rw [ofNat_small (by omega)]; omega
  have n9 : (UInt8.ofNat N).toNat = x9.toNat := by rw [UInt8.toNat_ofNat']; omega
  obtain ⟨T, hTT⟩ : ∃ T, T = hopL s := ⟨_, rfl⟩
  rw [← hTT] at hT ⊢
  have hlen : T.length = s.length := by rw [hT, hs]; simp
  refine ⟨hlen, ?_⟩
  have f0 : by8 T 0 = by8 s 0 := by rw [hT, hs]; rfl
  have f1 : by8 T 1 = by8 s 1 := by rw [hT, hs]; rfl
  have f8 : by8 T 8 = x8.toNat - 1 := by rw [hT]; exact n8
  have f9 : by8 T 9 = by8 s 9 := by rw [e9, hT]; exact n9
  have w2 : wd T 2 = wd s 2 := by rw [hT, hs]; rfl
  have w4 : wd T 4 = wd s 4 := by rw [hT, hs]; rfl
  have w6 : wd T 6 = wd s 6 := by rw [hT, hs]; rfl
  have d12 : T.drop 12 = s.drop 12 := by rw [hT, hs]; rfl
  have d16 : T.drop 16 = s.drop 16 := by rw [hT, hs]; rfl
  have d20 : T.drop 20 = s.drop 20 := by rw [hT, hs]; rfl
  have hh : hdN T = hdN s := by unfold hdN; rw [f0]
  have hall : allN T = allN s := w2
  have hopt : optS T = optS s := by unfold optS; rw [hh, d20]
  obtain ⟨j, hj⟩ : ∃ j, hdN s = j + 20 := ⟨hdN s - 20, by omega⟩
  have hdrop : T.drop (hdN s) = s.drop (hdN s) := by rw [hj, Nat.add_comm, ← List.drop_drop, ← List.drop_drop, d20]
  have t1 : s.take (hdN s) = [x0, x1, x2, x3, x4, x5, x6, x7] ++ ([x8, x9] ++ ([xa, xb] ++ ([xc, xd, xe, xf, y0, y1, y2, y3] ++ r.take j))) := by
    rw [hj, hs]; simp [List.take_succ_cons]
  have t2 : T.take (hdN s) = [x0, x1, x2, x3, x4, x5, x6, x7] ++ (putL N 2 ++ (putL c 2 ++ ([xc, xd, xe, xf, y0, y1, y2, y3] ++ r.take j))) := by
    rw [hj, hT, putL_tw, putL_tw]; simp [List.take_succ_cons]
  have hA : 0 < wsum [x0, x1, x2, x3, x4, x5, x6, x7] := by
    rw [show [x0, x1, x2, x3, x4, x5, x6, x7] = [x0, x1] ++ [x2, x3, x4, x5, x6, x7] from rfl, wsum_append _ _ (by simp), wsum_two]
    rw [e0] at a2
    omega
  have hsum : foldN (wsum (T.take (hdN s))) = 65535 := by
    rw [t1, wsum_append _ _ (by simp), wsum_append _ _ (by simp), wsum_append _ _ (by simp), wsum_two, wsum_two] at a6
    rw [t2, wsum_append _ _ (by simp), wsum_append _ _ (by rw [putL_length]), wsum_append _ _ (by rw [putL_length]), wsum_put2 N hNl, wsum_put2 c hcl, hcv, hN]
    exact turned_good _ (256 * x8.toNat + x9.toNat) (256 * (x8.toNat - 1) + x9.toNat) (256 * xa.toNat + xb.toNat) _ (by omega) (by omega) (by omega) hA a6
  have hE : hdE T = 0 := hdE_of (by omega) (by rw [f0]; exact a2) (by rw [hh]; exact a3) (by rw [hh, hlen]; exact a4) (by rw [hh]; exact hsum)
  have bE : bdE T = bdE s := by unfold bdE; rw [hall, hh, hlen, w6, hopt]
  have hwy : why5 T = 0 := by rw [why5_hd hE, bE]; exact h2
  unfold readV5
  rw [if_pos hwy]
  unfold ipOf
  rw [f1, w4, f8, f9, d12, d16, hopt, hh, hall, hdrop, show ((x8.toNat - 1 : Nat) : Int) = (by8 s 8 : Int) - 1 by rw [e8]; omega]
end Go.Proofs.Ytbmacnbegbcgpaa
