/-
  The library's heap sort by the clock's order.
-/
import Derived.Test.YtiegeejbnplhdaaSoB
namespace Go.Proofs.Ytiegeejbnplhdaa
open Go.RowKit
set_option linter.unusedVariables false
set_option linter.unusedSimpArgs false

theorem sift_end {lt : List UInt8 → List UInt8 → Bool} {hi first root : Nat} {d : Array (List UInt8)} (h : 2 * root + 1 ≥ hi) : Sort.siftDown lt hi first root d = d := by
  unfold Sort.siftDown; rw [dif_pos h]
theorem sift_r {lt : List UInt8 → List UInt8 → Bool} {hi first root : Nat} {d : Array (List UInt8)} (h1 : 2 * root + 2 < hi) (h2 : lt d[first + (2 * root + 1)]! d[first + (2 * root + 1) + 1]! = true) :
    (lt d[first + root]! d[first + (2 * root + 2)]! = false → Sort.siftDown lt hi first root d = d) ∧ (lt d[first + root]! d[first + (2 * root + 2)]! = true → Sort.siftDown lt hi first (2 * root + 2) (Sort.swp d (first + root) (first + (2 * root + 2))) = Sort.siftDown lt hi first root d) := by
  have h3 : ¬ 2 * root + 1 ≥ hi := by omega
  have h4 : 2 * root + 1 + 1 < hi := by omega
  constructor
  · intro h; conv => lhs; unfold Sort.siftDown
    rw [dif_neg h3]; simp [h4, h2, h]
  · intro h; conv => rhs; unfold Sort.siftDown
    rw [dif_neg h3]; simp [h4, h2, h, h1]
theorem sift_l {lt : List UInt8 → List UInt8 → Bool} {hi first root : Nat} {d : Array (List UInt8)} (h1 : 2 * root + 1 < hi) (h2 : ¬ (2 * root + 2 < hi ∧ lt d[first + (2 * root + 1)]! d[first + (2 * root + 1) + 1]! = true)) :
    (lt d[first + root]! d[first + (2 * root + 1)]! = false → Sort.siftDown lt hi first root d = d) ∧ (lt d[first + root]! d[first + (2 * root + 1)]! = true → Sort.siftDown lt hi first (2 * root + 1) (Sort.swp d (first + root) (first + (2 * root + 1))) = Sort.siftDown lt hi first root d) := by
  have h3 : ¬ 2 * root + 1 ≥ hi := by omega
  have h4 : (2 * root + 1 + 1 < hi && lt d[first + (2 * root + 1)]! d[first + (2 * root + 1) + 1]!) = false := by
    cases hb : (2 * root + 1 + 1 < hi && lt d[first + (2 * root + 1)]! d[first + (2 * root + 1) + 1]!) with
    | false => rfl
    | true =>
      simp only [Bool.and_eq_true, decide_eq_true_eq] at hb
      exact absurd ⟨by omega, hb.2⟩ h2
  constructor
  · intro h; conv => lhs; unfold Sort.siftDown
    rw [dif_neg h3, h4]; simp [h]
  · intro h; conv => rhs; unfold Sort.siftDown
    rw [dif_neg h3, h4]; simp [h]

set_option maxRecDepth 1000000 in
set_option maxHeartbeats 8000000 in
theorem siftS_any (E : SE) (ok : E.Ok) (lo hi first : Nat) (xl xh xf : Int) (el : xl = lo) (eh : xh = hi) (ef : xf = first) (d : Array (List UInt8)) (w : World) (S0 : St E w d) (hb : first + hi ≤ E.n) (hlo : lo ≤ E.n) :
    Calls Try.prog 61 #[.slice (some ⟨E.g, 0, none⟩) E.n E.cap, .int .i64 xl, .int .i64 xh, .int .i64 xf, .func (.func 29) #[.pointer (some ⟨E.b, 0, none⟩)] #[]] w fun x w' => x = .returned (.tuple #[]) ∧ St E w' (Sort.siftDown E.lt hi first lo d) := by
  have HNM := Lib.hid ok.nm
  have HK := Lib.hid ok
  have ST := Lib.hid S0
  have HXL := Lib.hid el
  have HXH := Lib.hid eh
  have HXF := Lib.hid ef
  have HBD := Lib.hid hb
  have HLO := Lib.hid hlo
  obtain ⟨R, HRE⟩ : ∃ R, Hid (Sort.siftDown E.lt hi first lo d = R) := ⟨_, Lib.hid rfl⟩
  rw [HRE.out]
  clear ok S0 el eh ef hb hlo
  go_enter Try.func61, Try.ntmps61
  go_wp2_with fail
  go_loopw [10] (fun vr wr => ∃ (xr : Int) (root : Nat) (dk : Array (List UInt8)), vr = .int .i64 xr ∧ Hid (xr = (root : Int)) ∧ Hid (root ≤ E.n) ∧ Hid (St E wr dk) ∧ Hid (Sort.siftDown E.lt hi first root dk = R)) (fun vr _ => hi - (intOf vr).toNat)
  case atStart => exact ⟨xl, lo, d, rfl, HXL, HLO, ST, HRE⟩
  case round =>
    clear ST HRE HLO
    obtain ⟨xr, root, dk, rfl, HXR, HRN, ST1, HRR⟩ := hrel
    obtain ⟨z1, HZ1, wz1⟩ := wrapL (2 * xr) (2 * (root : Int)) (by rw [HXR.out]) (by omega) (by have := HNM.out; have := HRN.out; omega)
    obtain ⟨xc, HXC, wxc⟩ := wrapL (z1 + 1) (((2 * root + 1 : Nat)) : Int) (by rw [HZ1.out]; omega) (by omega) (by have := HNM.out; have := HRN.out; omega)
    by_cases hce : 2 * root + 1 ≥ hi
    · have hd1 : decide (xc ≥ xh) = true := decide_eq_true (by rw [HXC.out, HXH.out]; omega)
      have hd1' : xh ≤ xc := by rw [HXC.out, HXH.out]; omega
      have HR := Lib.hid ((sift_end (lt := E.lt) (first := first) (d := dk) hce).symm.trans HRR.out)
      go_wp2
      go_end0
      exact ⟨rfl, by rw [← HR.out]; exact ST1.out⟩
    · have hd1 : decide (xc ≥ xh) = false := decide_eq_false (by rw [HXC.out, HXH.out]; omega)
      have hd1' : ¬ xh ≤ xc := by rw [HXC.out, HXH.out]; omega
      obtain ⟨xd, HXD, wxd⟩ := wrapL (xc + 1) (((2 * root + 2 : Nat)) : Int) (by rw [HXC.out]; omega) (by omega) (by have := HNM.out; have := HBD.out; omega)
      obtain ⟨xfc, HXFC, wxfc⟩ := wrapL (xf + xc) (((first + (2 * root + 1) : Nat)) : Int) (by rw [HXF.out, HXC.out]; omega) (by omega) (by have := HNM.out; have := HBD.out; omega)
      obtain ⟨xfr, HXFR, wxfr⟩ := wrapL (xf + xr) (((first + root : Nat)) : Int) (by rw [HXF.out, HXR.out]; omega) (by omega) (by have := HNM.out; have := HBD.out; omega)
      obtain ⟨kfc, HKkfc, HBkfc, tkfc, pkfc, bkfc⟩ := idxK (x := xfc) (i := first + (2 * root + 1)) (n := E.n) (HXFC.out) (by have := HBD.out; omega)
      obtain ⟨kfr, HKkfr, HBkfr, tkfr, pkfr, bkfr⟩ := idxK (x := xfr) (i := first + root) (n := E.n) (HXFR.out) (by have := HBD.out; omega)
      by_cases hdl : 2 * root + 2 < hi
      · have hd2 : decide (xd < xh) = true := decide_eq_true (by rw [HXD.out, HXH.out]; omega)
        have hd2' : xd < xh := by rw [HXD.out, HXH.out]; omega
        obtain ⟨xfd, HXFD, wxfd⟩ := wrapL (xfc + 1) (((first + (2 * root + 2) : Nat)) : Int) (by rw [HXFC.out]; omega) (by omega) (by have := HNM.out; have := HBD.out; omega)
        have wxfd2 : IntKind.i64.wrap (xf + xd) = xfd := by rw [HXFD.out, HXF.out, HXD.out]; simp only [IntKind.wrap_i64]; have := HNM.out; have := HBD.out; omega
        obtain ⟨kfd, HKkfd, HBkfd, tkfd, pkfd, bkfd⟩ := idxK (x := xfd) (i := first + (2 * root + 2)) (n := E.n) (HXFD.out) (by have := HBD.out; omega)
        obtain ⟨S, X, Y, c, HS0, HSE, HKP, l1, l2, HC, HLT⟩ := ST1.out.test HK.out HBkfc.out HBkfd.out
        have hne : Nonempty (InS S) := ⟨⟨_, HS0.out⟩⟩
        by_cases hv : c < 0
        · have hv1 : decide (c < 0) = true := decide_eq_true hv
          have hlt := HLT.out.trans hv1
          have HLT := Lib.hid hlt
          clear hlt
          go_wp2_with fail
          refine wp_region_inS S (by kernel_rfl) (by kernel_rfl) HS0.out ?_
          repeat (go_big_quiet_step (exact Calls.inS HKP.out _ HC.out))
          refine wpQuiet_nil ?_
          rintro w2 ⟨⟨W2, hS2⟩, rfl⟩
          have ST2 := Lib.hid (HSE.out _ hS2)
          clear hS2 hne l1 l2 HS0 HSE HKP HC
          have h6 := sift_r (lt := E.lt) (first := first) (d := dk) hdl (by rw [← HKkfc.out, show kfc + 1 = kfd by rw [HKkfc.out, HKkfd.out]; omega]; exact HLT.out)
          have HSN : Hid (E.lt dk[kfr]! dk[kfd]! = false → dk = R) := Lib.hid fun h => (h6.1 (by rw [← HKkfr.out, ← HKkfd.out]; exact h)).symm.trans HRR.out
          have HSD : Hid (E.lt dk[kfr]! dk[kfd]! = true → Sort.siftDown E.lt hi first (2 * root + 2) (Sort.swp dk (first + root) (first + (2 * root + 2))) = R) := Lib.hid fun h => (h6.2 (by rw [← HKkfr.out, ← HKkfd.out]; exact h)).trans HRR.out
          have HXm : Hid (xd = ((2 * root + 2 : Nat) : Int)) := HXD
          obtain ⟨m, HM⟩ : ∃ m, Hid (m = 2 * root + 2) := ⟨_, Lib.hid rfl⟩
          rw [← HM.out] at HSD HXm
          have HKm : Hid (kfd = first + m) := Lib.hid (by rw [HKkfd.out, HM.out])
          have HMN : Hid (m ≤ E.n) := Lib.hid (by rw [HM.out]; have := HBD.out; omega)
          have HMR : Hid (root < m ∧ m < hi) := Lib.hid (by rw [HM.out]; omega)
          clear h6 HLT hv hv1
          obtain ⟨S, X, Y, c, HS0, HSE, HKP, l1, l2, HC, HLT⟩ := ST2.out.test HK.out HBkfr.out HBkfd.out
          have hne : Nonempty (InS S) := ⟨⟨_, HS0.out⟩⟩
          by_cases hv : c < 0
          · have hv1 : decide (c < 0) = true := decide_eq_true hv
            have hlt := HLT.out.trans hv1
            have HLT := Lib.hid hlt
            clear hlt
            go_wp2_with fail
            refine wp_region_inS S (by kernel_rfl) (by kernel_rfl) HS0.out ?_
            repeat (go_big_quiet_step (exact Calls.inS HKP.out _ HC.out))
            refine wpQuiet_nil ?_
            rintro w2 ⟨⟨W2, hS2⟩, rfl⟩
            have ST3 := Lib.hid (HSE.out _ hS2)
            clear hS2 hne l1 l2 HS0 HSE HKP HC
            have HNX : Hid (Sort.siftDown E.lt hi first m (Sort.swp dk kfr kfd) = R) := Lib.hid (by have := HSD.out HLT.out; rwa [← HKkfr.out, ← HKm.out] at this)
            clear HSD HSN HLT hv hv1
            obtain ⟨X, Y, u, l1, l2, f1, f2, l3, ST4⟩ := ST3.out.xch HBkfr.out HBkfd.out
            go_wp2_with fail
            go_region
            clear l1 l2 f1 f2 l3
            generalize World.drew _ = w3 at ST4 ⊢
            go_wp2
            go_roundw
            case rel => exact ⟨xd, m, _, rfl, HXm, HMN, ST4, HNX⟩
            case measure => have := HXR.out; have := HXm.out; have := HMR.out; simp only [intOf]; omega
          · have hv1 : decide (c < 0) = false := decide_eq_false hv
            have hlt := HLT.out.trans hv1
            have HLT := Lib.hid hlt
            clear hlt
            go_wp2_with fail
            refine wp_region_inS S (by kernel_rfl) (by kernel_rfl) HS0.out ?_
            repeat (go_big_quiet_step (exact Calls.inS HKP.out _ HC.out))
            refine wpQuiet_nil ?_
            rintro w2 ⟨⟨W2, hS2⟩, rfl⟩
            have ST3 := Lib.hid (HSE.out _ hS2)
            clear hS2 hne l1 l2 HS0 HSE HKP HC
            have HR := Lib.hid (HSN.out HLT.out)
            go_wp2
            refine bodyPost_ret (results_none rfl _ _ _) rfl ?_
            exact ⟨rfl, by rw [← HR.out]; exact ST3.out⟩
        · have hv1 : decide (c < 0) = false := decide_eq_false hv
          have hlt := HLT.out.trans hv1
          have HLT := Lib.hid hlt
          clear hlt
          go_wp2_with fail
          refine wp_region_inS S (by kernel_rfl) (by kernel_rfl) HS0.out ?_
          repeat (go_big_quiet_step (exact Calls.inS HKP.out _ HC.out))
          refine wpQuiet_nil ?_
          rintro w2 ⟨⟨W2, hS2⟩, rfl⟩
          have ST2 := Lib.hid (HSE.out _ hS2)
          clear hS2 hne l1 l2 HS0 HSE HKP HC
          have h6 := sift_l (lt := E.lt) (first := first) (d := dk) (root := root) (hi := hi) (by omega) (by rw [← HKkfc.out, show kfc + 1 = kfd by rw [HKkfc.out, HKkfd.out]; omega, HLT.out]; simp)
          have HSN : Hid (E.lt dk[kfr]! dk[kfc]! = false → dk = R) := Lib.hid fun h => (h6.1 (by rw [← HKkfr.out, ← HKkfc.out]; exact h)).symm.trans HRR.out
          have HSD : Hid (E.lt dk[kfr]! dk[kfc]! = true → Sort.siftDown E.lt hi first (2 * root + 1) (Sort.swp dk (first + root) (first + (2 * root + 1))) = R) := Lib.hid fun h => (h6.2 (by rw [← HKkfr.out, ← HKkfc.out]; exact h)).trans HRR.out
          have HXm : Hid (xc = ((2 * root + 1 : Nat) : Int)) := HXC
          obtain ⟨m, HM⟩ : ∃ m, Hid (m = 2 * root + 1) := ⟨_, Lib.hid rfl⟩
          rw [← HM.out] at HSD HXm
          have HKm : Hid (kfc = first + m) := Lib.hid (by rw [HKkfc.out, HM.out])
          have HMN : Hid (m ≤ E.n) := Lib.hid (by rw [HM.out]; have := HBD.out; omega)
          have HMR : Hid (root < m ∧ m < hi) := Lib.hid (by rw [HM.out]; omega)
          clear h6
          clear HLT hv hv1
          obtain ⟨S, X, Y, c, HS0, HSE, HKP, l1, l2, HC, HLT⟩ := ST2.out.test HK.out HBkfr.out HBkfc.out
          have hne : Nonempty (InS S) := ⟨⟨_, HS0.out⟩⟩
          by_cases hv : c < 0
          · have hv1 : decide (c < 0) = true := decide_eq_true hv
            have hlt := HLT.out.trans hv1
            have HLT := Lib.hid hlt
            clear hlt
            go_wp2_with fail
            refine wp_region_inS S (by kernel_rfl) (by kernel_rfl) HS0.out ?_
            repeat (go_big_quiet_step (exact Calls.inS HKP.out _ HC.out))
            refine wpQuiet_nil ?_
            rintro w2 ⟨⟨W2, hS2⟩, rfl⟩
            have ST3 := Lib.hid (HSE.out _ hS2)
            clear hS2 hne l1 l2 HS0 HSE HKP HC
            have HNX : Hid (Sort.siftDown E.lt hi first m (Sort.swp dk kfr kfc) = R) := Lib.hid (by have := HSD.out HLT.out; rwa [← HKkfr.out, ← HKm.out] at this)
            clear HSD HSN HLT hv hv1
            obtain ⟨X, Y, u, l1, l2, f1, f2, l3, ST4⟩ := ST3.out.xch HBkfr.out HBkfc.out
            go_wp2_with fail
            go_region
            clear l1 l2 f1 f2 l3
            generalize World.drew _ = w3 at ST4 ⊢
            go_wp2
            go_roundw
            case rel => exact ⟨xc, m, _, rfl, HXm, HMN, ST4, HNX⟩
            case measure => have := HXR.out; have := HXm.out; have := HMR.out; simp only [intOf]; omega
          · have hv1 : decide (c < 0) = false := decide_eq_false hv
            have hlt := HLT.out.trans hv1
            have HLT := Lib.hid hlt
            clear hlt
            go_wp2_with fail
            refine wp_region_inS S (by kernel_rfl) (by kernel_rfl) HS0.out ?_
            repeat (go_big_quiet_step (exact Calls.inS HKP.out _ HC.out))
            refine wpQuiet_nil ?_
            rintro w2 ⟨⟨W2, hS2⟩, rfl⟩
            have ST3 := Lib.hid (HSE.out _ hS2)
            clear hS2 hne l1 l2 HS0 HSE HKP HC
            have HR := Lib.hid (HSN.out HLT.out)
            go_wp2
            refine bodyPost_ret (results_none rfl _ _ _) rfl ?_
            exact ⟨rfl, by rw [← HR.out]; exact ST3.out⟩
      · have hd2 : decide (xd < xh) = false := decide_eq_false (by rw [HXD.out, HXH.out]; omega)
        have hd2' : ¬ xd < xh := by rw [HXD.out, HXH.out]; omega
        have h6 := sift_l (lt := E.lt) (first := first) (d := dk) (root := root) (hi := hi) (by omega) (fun h => hdl h.1)
        obtain ⟨S, HS0, HSE⟩ := ST1.out.noTest
        have hne : Nonempty (InS S) := ⟨⟨_, HS0.out⟩⟩
        go_wp2_with fail
        refine wp_region_inS S (by kernel_rfl) (by kernel_rfl) HS0.out ?_
        repeat (go_big_quiet_step (fail))
        refine wpQuiet_nil ?_
        rintro w2 ⟨⟨W2, hS2⟩, rfl⟩
        have ST2 := Lib.hid (HSE.out _ hS2)
        clear hS2 hne HS0 HSE
        have HSN : Hid (E.lt dk[kfr]! dk[kfc]! = false → dk = R) := Lib.hid fun h => (h6.1 (by rw [← HKkfr.out, ← HKkfc.out]; exact h)).symm.trans HRR.out
        have HSD : Hid (E.lt dk[kfr]! dk[kfc]! = true → Sort.siftDown E.lt hi first (2 * root + 1) (Sort.swp dk (first + root) (first + (2 * root + 1))) = R) := Lib.hid fun h => (h6.2 (by rw [← HKkfr.out, ← HKkfc.out]; exact h)).trans HRR.out
        have HXm : Hid (xc = ((2 * root + 1 : Nat) : Int)) := HXC
        obtain ⟨m, HM⟩ : ∃ m, Hid (m = 2 * root + 1) := ⟨_, Lib.hid rfl⟩
        rw [← HM.out] at HSD HXm
        have HKm : Hid (kfc = first + m) := Lib.hid (by rw [HKkfc.out, HM.out])
        have HMN : Hid (m ≤ E.n) := Lib.hid (by rw [HM.out]; have := HBD.out; omega)
        have HMR : Hid (root < m ∧ m < hi) := Lib.hid (by rw [HM.out]; omega)
        clear h6
        obtain ⟨S, X, Y, c, HS0, HSE, HKP, l1, l2, HC, HLT⟩ := ST2.out.test HK.out HBkfr.out HBkfc.out
        have hne : Nonempty (InS S) := ⟨⟨_, HS0.out⟩⟩
        by_cases hv : c < 0
        · have hv1 : decide (c < 0) = true := decide_eq_true hv
          have hlt := HLT.out.trans hv1
          have HLT := Lib.hid hlt
          clear hlt
          go_wp2_with fail
          refine wp_region_inS S (by kernel_rfl) (by kernel_rfl) HS0.out ?_
          repeat (go_big_quiet_step (exact Calls.inS HKP.out _ HC.out))
          refine wpQuiet_nil ?_
          rintro w2 ⟨⟨W2, hS2⟩, rfl⟩
          have ST3 := Lib.hid (HSE.out _ hS2)
          clear hS2 hne l1 l2 HS0 HSE HKP HC
          have HNX : Hid (Sort.siftDown E.lt hi first m (Sort.swp dk kfr kfc) = R) := Lib.hid (by have := HSD.out HLT.out; rwa [← HKkfr.out, ← HKm.out] at this)
          clear HSD HSN HLT hv hv1
          obtain ⟨X, Y, u, l1, l2, f1, f2, l3, ST4⟩ := ST3.out.xch HBkfr.out HBkfc.out
          go_wp2_with fail
          go_region
          clear l1 l2 f1 f2 l3
          generalize World.drew _ = w3 at ST4 ⊢
          go_wp2
          go_roundw
          case rel => exact ⟨xc, m, _, rfl, HXm, HMN, ST4, HNX⟩
          case measure => have := HXR.out; have := HXm.out; have := HMR.out; simp only [intOf]; omega
        · have hv1 : decide (c < 0) = false := decide_eq_false hv
          have hlt := HLT.out.trans hv1
          have HLT := Lib.hid hlt
          clear hlt
          go_wp2_with fail
          refine wp_region_inS S (by kernel_rfl) (by kernel_rfl) HS0.out ?_
          repeat (go_big_quiet_step (exact Calls.inS HKP.out _ HC.out))
          refine wpQuiet_nil ?_
          rintro w2 ⟨⟨W2, hS2⟩, rfl⟩
          have ST3 := Lib.hid (HSE.out _ hS2)
          clear hS2 hne l1 l2 HS0 HSE HKP HC
          have HR := Lib.hid (HSN.out HLT.out)
          go_wp2
          refine bodyPost_ret (results_none rfl _ _ _) rfl ?_
          exact ⟨rfl, by rw [← HR.out]; exact ST3.out⟩
end Go.Proofs.Ytiegeejbnplhdaa
