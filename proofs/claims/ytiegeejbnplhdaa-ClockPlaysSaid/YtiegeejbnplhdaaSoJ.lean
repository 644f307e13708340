/-
  The library's heap sort by the clock's order, whole.
-/
import Derived.Test.YtiegeejbnplhdaaSoH
namespace Go.Proofs.Ytiegeejbnplhdaa
open Go.RowKit
set_option linter.unusedVariables false
set_option linter.unusedSimpArgs false

set_option maxRecDepth 1000000 in
set_option maxHeartbeats 8000000 in
theorem heapS_any (E : SE) (ok : E.Ok) (a b : Nat) (xa xb : Int) (ea : xa = a) (eb : xb = b) (d : Array (List UInt8)) (w : World) (S0 : St E w d) (hab : a ≤ b) (hb : b ≤ E.n) :
    Calls Try.prog 41 #[.slice (some ⟨E.g, 0, none⟩) E.n E.cap, .int .i64 xa, .int .i64 xb, .func (.func 29) #[.pointer (some ⟨E.b, 0, none⟩)] #[]] w fun x w' => x = .returned (.tuple #[]) ∧ St E w' (Sort.heapSort E.lt d a b) := by
  have HNM := Lib.hid ok.nm
  have HK := Lib.hid ok
  have ST := Lib.hid S0
  have HXA := Lib.hid ea
  have HXB := Lib.hid eb
  have HAB := Lib.hid hab
  have HBN := Lib.hid hb
  obtain ⟨hi, HHI⟩ : ∃ hi, Hid (hi = b - a) := ⟨_, Lib.hid rfl⟩
  have HR : Hid (Sort.heapPop E.lt a hi (Sort.heapBuild E.lt hi a ((hi - 1) / 2 + 1) d) = Sort.heapSort E.lt d a b) := Lib.hid (by rw [HHI.out]; rfl)
  obtain ⟨R, HRE⟩ : ∃ R, Hid (Sort.heapSort E.lt d a b = R) := ⟨_, Lib.hid rfl⟩
  rw [HRE.out] at HR ⊢
  have HSI := Lib.hid (fun lo hi xl xh d W S h1 h2 h3 => siftS_any E ok lo hi a xl xh xa h1 h2 ea d W S h3)
  clear ok S0 ea eb hab hb
  obtain ⟨xh, HXH, wh⟩ := wrapL (xb - xa) (hi : Int) (by rw [HXA.out, HXB.out, HHI.out]; have := HAB.out; omega) (by omega) (by have := HNM.out; have := HBN.out; have := HHI.out; omega)
  obtain ⟨xh1, HXH1, wh1⟩ := wrapL (xh - 1) ((hi : Int) - 1) (by rw [HXH.out]) (by omega) (by have := HNM.out; have := HBN.out; have := HHI.out; omega)
  obtain ⟨xm, HXM, wm⟩ := wrapL (xh1.tdiv 2) (((hi - 1) / 2 : Nat) : Int) (by
    rw [HXH1.out]
    by_cases h0 : hi = 0
    · subst h0; rfl
    · rw [show ((hi : Int) - 1) = ((hi - 1 : Nat) : Int) by omega]; rfl) (by omega) (by have := HNM.out; have := HBN.out; have := HHI.out; omega)
  go_enter Try.func41, Try.ntmps41
  go_wp2_with fail
  go_loopw [11] (fun vi wr => ∃ (xi : Int) (k : Nat) (dk : Array (List UInt8)), vi = .int .i64 xi ∧ Hid (xi = (k : Int) - 1) ∧ Hid (k ≤ hi / 2 + 1) ∧ Hid (St E wr dk) ∧ Hid (Sort.heapBuild E.lt hi a k dk = Sort.heapBuild E.lt hi a ((hi - 1) / 2 + 1) d)) (fun vi _ => (intOf vi + 1).toNat)
  case atStart => exact ⟨xm, (hi - 1) / 2 + 1, d, rfl, Lib.hid (by rw [HXM.out]; omega), Lib.hid (by omega), ST, Lib.hid rfl⟩
  case round =>
    clear ST
    obtain ⟨xi, k, dk, rfl, HXI, HKL, ST1, HB1⟩ := hrel
    cases k with
    | succ k =>
      have hge : decide (xi ≥ 0) = true := decide_eq_true (by rw [HXI.out]; omega)
      have hge' : 0 ≤ xi := by rw [HXI.out]; omega
      obtain ⟨xj, HXJ, wj⟩ := wrapL (xi - 1) ((k : Int) - 1) (by rw [HXI.out]; omega) (by omega) (by have := HNM.out; have := HBN.out; have := HHI.out; have := HKL.out; omega)
      go_wp2_with (go_at_call 61; refine (HSI.out k hi _ _ _ _ ST1.out (by rw [HXI.out]; omega) HXH.out (by have := HHI.out; have := HAB.out; have := HBN.out; omega) (by have := HHI.out; have := HBN.out; have := HKL.out; omega)).mono ?_; rintro x w2 ⟨rfl, h⟩; have ST2 := Lib.hid h; clear h)
      go_roundw
      case rel => exact ⟨xj, k, _, rfl, HXJ, Lib.hid (by have := HKL.out; omega), ST2, Lib.hid (by rw [← HB1.out]; rfl)⟩
      case measure => have := HXI.out; have := HXJ.out; simp only [intOf]; omega
    | zero =>
      have hge : decide (xi ≥ 0) = false := decide_eq_false (by rw [HXI.out]; omega)
      have hge' : ¬ 0 ≤ xi := by rw [HXI.out]; omega
      have HB2 : Hid (Sort.heapPop E.lt a hi dk = R) := Lib.hid (by rw [← HR.out, ← HB1.out]; rfl)
      clear HB1 HR
      go_wp2_with fail
      go_loopw [12] (fun vi wr2 => ∃ (xi : Int) (k : Nat) (dk : Array (List UInt8)), vi = .int .i64 xi ∧ Hid (xi = (k : Int) - 1) ∧ Hid (k ≤ hi) ∧ Hid (St E wr2 dk) ∧ Hid (Sort.heapPop E.lt a k dk = R)) (fun vi _ => (intOf vi + 1).toNat)
      case atStart => exact ⟨xh1, hi, dk, rfl, HXH1, Lib.hid (Nat.le_refl _), ST1, HB2⟩
      case round =>
        clear ST1 HB2 hge hge' HXI HKL
        obtain ⟨xi, k, dj, rfl, HXI, HKL, ST1, HB1⟩ := hrel
        cases k with
        | succ k =>
          have hge : decide (xi ≥ 0) = true := decide_eq_true (by rw [HXI.out]; omega)
          have hge' : 0 ≤ xi := by rw [HXI.out]; omega
          obtain ⟨xj, HXJ, wj⟩ := wrapL (xi - 1) ((k : Int) - 1) (by rw [HXI.out]; omega) (by omega) (by have := HNM.out; have := HBN.out; have := HHI.out; have := HKL.out; omega)
          obtain ⟨xai, HXAI, wai⟩ := wrapL (xa + xi) ((a + k : Nat) : Int) (by rw [HXI.out, HXA.out]; omega) (by omega) (by have := HNM.out; have := HBN.out; have := HHI.out; have := HKL.out; omega)
          obtain ⟨ka, HKka, HBka, tka, pka, bka⟩ := idxK (x := xa) (i := a) (n := E.n) (HXA.out) (by have := HHI.out; have := HBN.out; have := HKL.out; omega)
          obtain ⟨kk, HKkk, HBkk, tkk, pkk, bkk⟩ := idxK (x := xai) (i := a + k) (n := E.n) (HXAI.out) (by have := HHI.out; have := HBN.out; have := HKL.out; omega)
          go_wp2_with fail
          obtain ⟨X, Y, u, l1, l2, f1, f2, l3, ST2⟩ := ST1.out.xch HBka.out HBkk.out
          go_wp2_with fail
          go_region
          clear l1 l2 f1 f2 l3
          generalize World.drew _ = w3 at ST2 ⊢
          have HNX : Hid (Sort.heapPop E.lt a k (Sort.siftDown E.lt k a 0 (Sort.swp dj ka kk)) = R) := Lib.hid (by rw [← HB1.out, HKka.out, HKkk.out]; rfl)
          go_wp2_with (go_at_call 61; refine (HSI.out 0 k _ _ _ _ ST2.out rfl (by rw [HXI.out]; omega) (by have := HHI.out; have := HAB.out; have := HBN.out; have := HKL.out; omega) (Nat.zero_le _)).mono ?_; rintro x w4 ⟨rfl, h⟩; have ST3 := Lib.hid h; clear h)
          go_roundw
          case rel => exact ⟨xj, k, _, rfl, HXJ, Lib.hid (by have := HKL.out; omega), ST3, HNX⟩
          case measure => have := HXI.out; have := HXJ.out; simp only [intOf]; omega
        | zero =>
          have hge : decide (xi ≥ 0) = false := decide_eq_false (by rw [HXI.out]; omega)
          have hge' : ¬ 0 ≤ xi := by rw [HXI.out]; omega
          have HR : Hid (dj = R) := Lib.hid (by rw [← HB1.out]; rfl)
          go_wp2
          go_end0
          exact ⟨rfl, by rw [← HR.out]; exact ST1.out⟩
end Go.Proofs.Ytiegeejbnplhdaa
