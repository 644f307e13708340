/-
  The library's sort looks whether a short row is sorted already.
-/
import Derived.Test.YtiegeejbnplhdaaSoN
namespace Go.Proofs.Ytiegeejbnplhdaa
open Go.RowKit
set_option linter.unusedVariables false
set_option linter.unusedSimpArgs false

theorem scanS_yes {lt : List UInt8 → List UInt8 → Bool} {d : Array (List UInt8)} {b i : Nat} (h : i < b) (hp : lt d[i]! d[i - 1]! = false) : Sort.scanSorted lt d b i = Sort.scanSorted lt d b (i + 1) := by
  conv => lhs; unfold Sort.scanSorted
  rw [hp]; simp [h]
theorem scanS_no {lt : List UInt8 → List UInt8 → Bool} {d : Array (List UInt8)} {b i : Nat} (h : ¬ (i < b ∧ lt d[i]! d[i - 1]! = false)) : Sort.scanSorted lt d b i = i := by
  unfold Sort.scanSorted
  rw [if_neg (by simpa using h)]
theorem partI_eq {lt : List UInt8 → List UInt8 → Bool} (d : Array (List UInt8)) (a b : Nat) (h : b - a < 50) : Sort.partialInsertionSort lt d a b = (d, decide (Sort.scanSorted lt d b (a + 1) = b)) := by
  unfold Sort.partialInsertionSort Sort.partialIns
  simp only
  by_cases h1 : Sort.scanSorted lt d b (a + 1) = b
  · rw [if_pos h1, decide_eq_true h1]
  · rw [if_neg h1, if_pos h, decide_eq_false h1]
set_option maxRecDepth 1000000 in
set_option maxHeartbeats 16000000 in
theorem partI_any (E : SE) (ok : E.Ok) (a b : Nat) (xa xb : Int) (ea : xa = a) (eb : xb = b) (d : Array (List UInt8)) (w : World) (S0 : St E w d) (hab : a < b) (hb : b ≤ E.n) (h50 : b - a < 50) :
    Calls Try.prog 45 #[.slice (some ⟨E.g, 0, none⟩) E.n E.cap, .int .i64 xa, .int .i64 xb, .func (.func 29) #[.pointer (some ⟨E.b, 0, none⟩)] #[]] w fun x w' => x = .returned (.bool (Sort.partialInsertionSort E.lt d a b).2) ∧ St E w' (Sort.partialInsertionSort E.lt d a b).1 := by
  have HNM := Lib.hid ok.nm
  have HK := Lib.hid ok
  have ST := Lib.hid S0
  have HXa := Lib.hid ea
  have HXb := Lib.hid eb
  have HBN := Lib.hid hb
  have HR := Lib.hid (partI_eq (lt := E.lt) d a b h50)
  obtain ⟨xa1, HXA1, wa1⟩ := wrapL (xa + 1) ((a + 1 : Nat) : Int) (by rw [ea]; omega) (by omega) (by have := HNM.out; omega)
  obtain ⟨xl, HXL, wl⟩ := wrapL (xb - xa) ((b - a : Nat) : Int) (by rw [ea, eb]; omega) (by omega) (by omega)
  have hl50 : decide (xl < 50) = true := decide_eq_true (by rw [HXL.out]; omega)
  have hl50' : xl < 50 := by rw [HXL.out]; omega
  have HAB := Lib.hid hab
  clear ok S0 ea eb hab hb h50
  go_enter Try.func45, Try.ntmps45
  go_wp2_with fail
  refine wp_loop_rounds 1 ?_
  rw [rounds_succ]
  go_wp2_with fail
  go_loopw [9] (fun vi wr => ∃ (xi : Int) (i : Nat), vi = .int .i64 xi ∧ Hid (xi = (i : Int)) ∧ Hid (a < i ∧ i ≤ b) ∧ Hid (St E wr d) ∧ Hid (Sort.scanSorted E.lt d b i = Sort.scanSorted E.lt d b (a + 1))) (fun vi _ => ((b : Int) - intOf vi).toNat)
  case atStart => exact ⟨xa1, a + 1, rfl, HXA1, Lib.hid (by have := HAB.out; omega), ST, Lib.hid rfl⟩
  case round =>
    clear ST
    obtain ⟨xi, i, rfl, HXi, HIB, ST1, HU⟩ := hrel
    by_cases hib : i < b
    · have hd : decide (xi < xb) = true := decide_eq_true (by rw [HXi.out, HXb.out]; omega)
      have hd' : xi < xb := by rw [HXi.out, HXb.out]; omega
      obtain ⟨h, HH⟩ : ∃ h, Hid (h = i - 1) := ⟨_, Lib.hid rfl⟩
      obtain ⟨xh, HXh, wh⟩ := wrapL (xi - 1) (h : Int) (by rw [HXi.out, HH.out]; have := HIB.out; omega) (by omega) (by have := HNM.out; have := HBN.out; have := HH.out; omega)
      have HBi : Hid (i < E.n) := Lib.hid (by have := HBN.out; omega)
      obtain ⟨ti, pi, bi⟩ := idxV HXi.out HBi.out
      have HBh : Hid (h < E.n) := Lib.hid (by have := HBN.out; have := HH.out; omega)
      obtain ⟨th, ph, bh⟩ := idxV HXh.out HBh.out
      obtain ⟨S, X, Y, c, HS0, HSE, HKP, l1, l2, HC, HLT⟩ := ST1.out.test HK.out HBi.out HBh.out
      have hne : Nonempty (InS S) := ⟨⟨_, HS0.out⟩⟩
      by_cases hv : c < 0
      · have hv1 : decide (c < 0) = true := decide_eq_true hv
        have hlt := HLT.out.trans hv1
        have HLT := Lib.hid hlt
        clear hlt
        go_wp2_with fail
        refine wp_region_inS S (by kernel_rfl) (by kernel_rfl) HS0.out ?_
        repeat (go_big_quiet_step (exact Calls.inS HKP.out _ HC.out))
        refine wpQuiet_nil ?_
        rintro w2 ⟨⟨W2, hS2⟩, rfl⟩
        have ST2 := Lib.hid (HSE.out _ hS2)
        clear hS2 hne l1 l2 HS0 HSE HKP HC
        have HE : Hid (Sort.scanSorted E.lt d b i = i) := Lib.hid (scanS_no (fun e => by have := e.2; rw [← HH.out, HLT.out] at this; cases this))
        have HI := Lib.hid (HU.out.symm.trans HE.out)
        by_cases hib2 : i = b
        · have hs : (xi == xb) = true := by rw [HXi.out, HXb.out, hib2]; simp
          have HR2 : Hid (Sort.partialInsertionSort E.lt d a b = (d, true)) := Lib.hid (by rw [HR.out, HI.out, hib2]; simp)
          clear hib2
          go_wp2
          refine bodyPost_ret (results_tmp rfl _ _ _) rfl ?_
          rw [HR2.out]
          exact ⟨rfl, ST2.out⟩
        · have hs : (xi == xb) = false := by
            have h1 : ¬ xi = xb := by rw [HXi.out, HXb.out]; omega
            simpa using h1
          have HR2 : Hid (Sort.partialInsertionSort E.lt d a b = (d, false)) := Lib.hid (by rw [HR.out, HI.out, decide_eq_false hib2])
          clear hib2
          go_wp2
          refine bodyPost_ret (results_tmp rfl _ _ _) rfl ?_
          rw [HR2.out]
          exact ⟨rfl, ST2.out⟩
      · have hv1 : decide (c < 0) = false := decide_eq_false hv
        have hlt := HLT.out.trans hv1
        have HLT := Lib.hid hlt
        clear hlt
        go_wp2_with fail
        refine wp_region_inS S (by kernel_rfl) (by kernel_rfl) HS0.out ?_
        repeat (go_big_quiet_step (exact Calls.inS HKP.out _ HC.out))
        refine wpQuiet_nil ?_
        rintro w2 ⟨⟨W2, hS2⟩, rfl⟩
        have ST2 := Lib.hid (HSE.out _ hS2)
        clear hS2 hne l1 l2 HS0 HSE HKP HC
        obtain ⟨xn, HXn, wn⟩ := wrapL (xi + 1) ((i + 1 : Nat) : Int) (by rw [HXi.out]; omega) (by omega) (by have := HNM.out; have := HBN.out; omega)
        have HU2 := Lib.hid ((scanS_yes hib (by rw [← HH.out, HLT.out])).symm.trans HU.out)
        go_wp2
        go_roundw
        case rel => exact ⟨xn, i + 1, rfl, HXn, Lib.hid (by have := HIB.out; omega), ST2, HU2⟩
        case measure => have := HXi.out; have := HXn.out; simp only [intOf]; omega
    · have hd : decide (xi < xb) = false := decide_eq_false (by rw [HXi.out, HXb.out]; omega)
      have hd' : ¬ xi < xb := by rw [HXi.out, HXb.out]; omega
      have HE : Hid (Sort.scanSorted E.lt d b i = i) := Lib.hid (scanS_no (fun e => hib e.1))
      obtain ⟨S, HS0, HSE⟩ := ST1.out.noTest
      have hne : Nonempty (InS S) := ⟨⟨_, HS0.out⟩⟩
      go_wp2_with fail
      refine wp_region_inS S (by kernel_rfl) (by kernel_rfl) HS0.out ?_
      repeat (go_big_quiet_step (fail))
      refine wpQuiet_nil ?_
      rintro w2 ⟨⟨W2, hS2⟩, rfl⟩
      have ST2 := Lib.hid (HSE.out _ hS2)
      clear hS2 hne HS0 HSE
      have HI := Lib.hid (HU.out.symm.trans HE.out)
      by_cases hib2 : i = b
      · have hs : (xi == xb) = true := by rw [HXi.out, HXb.out, hib2]; simp
        have HR2 : Hid (Sort.partialInsertionSort E.lt d a b = (d, true)) := Lib.hid (by rw [HR.out, HI.out, hib2]; simp)
        clear hib2
        go_wp2
        refine bodyPost_ret (results_tmp rfl _ _ _) rfl ?_
        rw [HR2.out]
        exact ⟨rfl, ST2.out⟩
      · have hs : (xi == xb) = false := by
          have h1 : ¬ xi = xb := by rw [HXi.out, HXb.out]; omega
          simpa using h1
        have HR2 : Hid (Sort.partialInsertionSort E.lt d a b = (d, false)) := Lib.hid (by rw [HR.out, HI.out, decide_eq_false hib2])
        clear hib2
        go_wp2
        refine bodyPost_ret (results_tmp rfl _ _ _) rfl ?_
        rw [HR2.out]
        exact ⟨rfl, ST2.out⟩
end Go.Proofs.Ytiegeejbnplhdaa
