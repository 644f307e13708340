/-
  The partitions of the library's sort: what equals the pivot.
-/
import Derived.Test.YtiegeejbnplhdaaSoB
namespace Go.Proofs.Ytiegeejbnplhdaa
open Go.RowKit
set_option linter.unusedVariables false
set_option linter.unusedSimpArgs false

theorem idxV {x : Int} {i n : Nat} (hx : x = (i : Int)) (h : i < n) : x.toNat = i ∧ 0 ≤ x ∧ x < (n : Int) := by omega
theorem scanUp_yes {p : List UInt8 → Bool} {d : Array (List UInt8)} {j i : Nat} (h : i ≤ j) (hp : p d[i]! = true) : Sort.scanUp p d j i = Sort.scanUp p d j (i + 1) := by
  conv => lhs; unfold Sort.scanUp
  rw [hp]; simp [h]
theorem scanUp_no {p : List UInt8 → Bool} {d : Array (List UInt8)} {j i : Nat} (h : ¬ (i ≤ j ∧ p d[i]! = true)) : Sort.scanUp p d j i = i := by
  unfold Sort.scanUp
  rw [if_neg (by simpa using h)]
theorem scanDown_yes {p : List UInt8 → Bool} {d : Array (List UInt8)} {i j m : Nat} (hm : j = m + 1) (h : i ≤ j) (hp : p d[j]! = true) : Sort.scanDown p d i j = Sort.scanDown p d i m := by
  subst hm
  conv => lhs; unfold Sort.scanDown
  rw [hp]; simp [h]
theorem scanDown_no {p : List UInt8 → Bool} {d : Array (List UInt8)} {i j : Nat} (h : ¬ (i ≤ j ∧ p d[j]! = true)) : Sort.scanDown p d i j = j := by
  cases j with
  | zero => rfl
  | succ j =>
    unfold Sort.scanDown
    rw [if_neg (by simpa using h)]

set_option maxRecDepth 1000000 in
set_option maxHeartbeats 16000000 in
theorem partEq_any (E : SE) (ok : E.Ok) (a b pv : Nat) (xa xb xp : Int) (ea : xa = a) (eb : xb = b) (ep : xp = pv) (d : Array (List UInt8)) (w : World) (S0 : St E w d) (hab : a < b) (hb : b ≤ E.n) (hp : pv < E.n) :
    Calls Try.prog 46 #[.slice (some ⟨E.g, 0, none⟩) E.n E.cap, .int .i64 xa, .int .i64 xb, .int .i64 xp, .func (.func 29) #[.pointer (some ⟨E.b, 0, none⟩)] #[]] w fun x w' => x = .returned (.int .i64 ((Sort.partitionEqual E.lt d a b pv).1 : Nat)) ∧ St E w' (Sort.partitionEqual E.lt d a b pv).2 := by
  have HNM := Lib.hid ok.nm
  have HK := Lib.hid ok
  have ST := Lib.hid S0
  have HXa := Lib.hid ea
  have HXpv := Lib.hid ep
  have HBN := Lib.hid hb
  have HAB := Lib.hid hab
  obtain ⟨xa1, HXA1, wa1⟩ := wrapL (xa + 1) ((a + 1 : Nat) : Int) (by rw [ea]; omega) (by omega) (by have := HNM.out; omega)
  obtain ⟨xb1, HXB1, wb1⟩ := wrapL (xb - 1) ((b - 1 : Nat) : Int) (by rw [eb]; omega) (by omega) (by have := HNM.out; omega)
  have HBa : Hid (a < E.n) := Lib.hid (by omega)
  obtain ⟨ta, pa, ba⟩ := idxV HXa.out HBa.out
  have HBpv : Hid (pv < E.n) := Lib.hid (by exact hp)
  obtain ⟨tpv, ppv, bpv⟩ := idxV HXpv.out HBpv.out
  obtain ⟨R, HRE⟩ : ∃ R, Hid (Sort.partEqLoop E.lt a (a + 1) (b - 1) (Sort.swp d a pv) = R) := ⟨_, Lib.hid rfl⟩
  change Calls Try.prog _ _ w fun x w' => x = .returned (.int .i64 ((Sort.partEqLoop E.lt a (a + 1) (b - 1) (Sort.swp d a pv)).1 : Nat)) ∧ St E w' (Sort.partEqLoop E.lt a (a + 1) (b - 1) (Sort.swp d a pv)).2
  rw [HRE.out]
  clear ok S0 ea eb ep hab hb hp
  go_enter Try.func46, Try.ntmps46
  obtain ⟨X, Y, u, l1, l2, f1, f2, l3, ST1⟩ := ST.out.xch HBa.out HBpv.out
  go_wp2_with fail
  go_region
  clear l1 l2 f1 f2 l3
  generalize World.drew _ = w3 at ST1 ⊢
  go_wp2_with fail
  go_loopw [11, 12] (fun vi vj wr => ∃ (xi xj : Int) (i j : Nat) (dk : Array (List UInt8)), vi = .int .i64 xi ∧ vj = .int .i64 xj ∧ Hid (xi = (i : Int)) ∧ Hid (xj = (j : Int)) ∧ Hid (a < i ∧ i ≤ j + 1 ∧ j < b) ∧ Hid (St E wr dk) ∧ Hid (Sort.partEqLoop E.lt a i j dk = R)) (fun vi vj _ => (intOf vj + 1 - intOf vi).toNat)
  case atStart => exact ⟨xa1, xb1, a + 1, b - 1, _, rfl, rfl, HXA1, HXB1, Lib.hid (by have := HAB.out; omega), ST1, HRE⟩
  case round =>
    clear ST1 HRE
    obtain ⟨xi, xj, i, j, dk, rfl, rfl, HXi, HXj, HIJ, ST2, HR⟩ := hrel
    go_wp2_with fail
    go_loopw [11] (fun vi wr1 => ∃ (x : Int) (i2 : Nat), vi = .int .i64 x ∧ Hid (x = (i2 : Int)) ∧ Hid (i ≤ i2 ∧ i2 ≤ j + 1) ∧ Hid (St E wr1 dk) ∧ Hid (Sort.scanUp (fun x => !E.lt dk[a]! x) dk j i2 = Sort.scanUp (fun x => !E.lt dk[a]! x) dk j i)) (fun vi _ => ((j : Int) + 1 - intOf vi).toNat)
    case atStart => exact ⟨xi, i, rfl, HXi, Lib.hid (by have := HIJ.out; omega), ST2, Lib.hid rfl⟩
    case round =>
      clear ST2
      obtain ⟨xi1, i1, rfl, HXi1, HI1, SU1, HU1⟩ := hrel
      by_cases hg1 : i1 ≤ j
      · have hd1 : decide (xi1 ≤ xj) = true := decide_eq_true (by rw [HXi1.out, HXj.out]; omega)
        have hd1' : xi1 ≤ xj := by rw [HXi1.out, HXj.out]; omega
        have HBi1 : Hid (i1 < E.n) := Lib.hid (by have := HIJ.out; have := HBN.out; omega)
        obtain ⟨ti1, pi1, bi1⟩ := idxV HXi1.out HBi1.out
        obtain ⟨S, X, Y, c, HS0, HSE, HKP, l1, l2, HC, HLT⟩ := SU1.out.test HK.out HBa.out HBi1.out
        have hne : Nonempty (InS S) := ⟨⟨_, HS0.out⟩⟩
        by_cases hv : c < 0
        · have hv1 : decide (c < 0) = true := decide_eq_true hv
          have hlt := HLT.out.trans hv1
          have HLT := Lib.hid hlt
          clear hlt
          go_wp2_with fail
          refine wp_region_inS S (by kernel_rfl) (by kernel_rfl) HS0.out ?_
          repeat (go_big_quiet_step (exact Calls.inS HKP.out _ HC.out))
          refine wpQuiet_nil ?_
          rintro w2 ⟨⟨W2, hS2⟩, rfl⟩
          have SU12 := Lib.hid (HSE.out _ hS2)
          clear hS2 hne l1 l2 HS0 HSE HKP HC
          have HE1 := Lib.hid (HU1.out.symm.trans (scanUp_no (p := (fun x => !E.lt dk[a]! x)) (d := dk) (j := j) (i := i1) (fun h => by have h2 : (!E.lt _ _) = true := h.2; rw [HLT.out] at h2; cases h2)))
          have HUS1 := HLT
          clear HLT hv hv1 HU1
          go_wp2_with fail
          go_loopw [12] (fun vj ws1 => ∃ (x : Int) (j2 : Nat), vj = .int .i64 x ∧ Hid (x = (j2 : Int)) ∧ Hid (j2 ≤ j ∧ i1 ≤ j2 + 1) ∧ Hid (St E ws1 dk) ∧ Hid (Sort.scanDown (fun x => E.lt dk[a]! x) dk i1 j2 = Sort.scanDown (fun x => E.lt dk[a]! x) dk i1 j)) (fun vj _ => (intOf vj + 1).toNat)
          case atStart => exact ⟨xj, j, rfl, HXj, Lib.hid (by omega), SU12, Lib.hid rfl⟩
          case round =>
            clear SU12
            obtain ⟨xj1, j1, rfl, HXj1, HJ1, SD1, HD1⟩ := hrel
            by_cases hh1 : i1 ≤ j1
            · have he1 : decide (xi1 ≤ xj1) = true := decide_eq_true (by rw [HXi1.out, HXj1.out]; omega)
              have he1' : xi1 ≤ xj1 := by rw [HXi1.out, HXj1.out]; omega
              have HBj1 : Hid (j1 < E.n) := Lib.hid (by have := HJ1.out; have := HIJ.out; have := HBN.out; omega)
              obtain ⟨tj1, pj1, bj1⟩ := idxV HXj1.out HBj1.out
              obtain ⟨S, X, Y, c, HS0, HSE, HKP, l1, l2, HC, HLT⟩ := SD1.out.test HK.out HBa.out HBj1.out
              have hne : Nonempty (InS S) := ⟨⟨_, HS0.out⟩⟩
              by_cases hv : c < 0
              · have hv1 : decide (c < 0) = true := decide_eq_true hv
                have hlt := HLT.out.trans hv1
                have HLT := Lib.hid hlt
                clear hlt
                go_wp2_with fail
                refine wp_region_inS S (by kernel_rfl) (by kernel_rfl) HS0.out ?_
                repeat (go_big_quiet_step (exact Calls.inS HKP.out _ HC.out))
                refine wpQuiet_nil ?_
                rintro w2 ⟨⟨W2, hS2⟩, rfl⟩
                have SD12 := Lib.hid (HSE.out _ hS2)
                clear hS2 hne l1 l2 HS0 HSE HKP HC
                obtain ⟨m1, HMm1⟩ : ∃ m, Hid (j1 = m + 1) := ⟨j1 - 1, Lib.hid (by have := HI1.out; have := HIJ.out; omega)⟩
                obtain ⟨xm1, HXm1, wm1⟩ := wrapL (xj1 - 1) (m1 : Int) (by rw [HXj1.out, HMm1.out]; omega) (by omega) (by have := HNM.out; have := HJ1.out; have := HIJ.out; have := HBN.out; have := HMm1.out; omega)
                have HD2 := Lib.hid ((scanDown_yes (p := (fun x => E.lt dk[a]! x)) (d := dk) (i := i1) HMm1.out hh1 (by show E.lt _ _ = true; rw [HLT.out])).symm.trans HD1.out)
                go_wp2
                go_roundw
                case rel => exact ⟨xm1, m1, rfl, HXm1, Lib.hid (by have := HJ1.out; have := HMm1.out; omega), SD12, HD2⟩
                case measure => have := HXj1.out; have := HXm1.out; have := HMm1.out; simp only [intOf]; omega
              · have hv1 : decide (c < 0) = false := decide_eq_false hv
                have hlt := HLT.out.trans hv1
                have HLT := Lib.hid hlt
                clear hlt
                go_wp2_with fail
                refine wp_region_inS S (by kernel_rfl) (by kernel_rfl) HS0.out ?_
                repeat (go_big_quiet_step (exact Calls.inS HKP.out _ HC.out))
                refine wpQuiet_nil ?_
                rintro w2 ⟨⟨W2, hS2⟩, rfl⟩
                have SD12 := Lib.hid (HSE.out _ hS2)
                clear hS2 hne l1 l2 HS0 HSE HKP HC
                have HF1 := Lib.hid (HD1.out.symm.trans (scanDown_no (p := (fun x => E.lt dk[a]! x)) (d := dk) (i := i1) (j := j1) (fun h => by have h2 : (E.lt _ _) = true := h.2; rw [HLT.out] at h2; cases h2)))
                have HDS1 := HLT
                clear HLT hv hv1 HD1
                have HNE : Hid (i1 ≠ j1) := Lib.hid fun e => by
                  have h1 := HUS1.out
                  have h2 := HDS1.out
                  rw [e, h2] at h1
                  cases h1
                have HQ2 : Hid (Sort.partEqLoop E.lt a (i1 + 1) (j1 - 1) (Sort.swp dk i1 j1) = R) := Lib.hid (by
                  have := HR.out
                  rw [Sort.partEqLoop_eq, HE1.out] at this
                  simp only [HF1.out] at this
                  rw [if_neg (by omega)] at this
                  exact this)
                have hs : decide (xi1 > xj1) = false := decide_eq_false (by rw [HXi1.out, HXj1.out]; omega)
                have hs' : ¬ xj1 < xi1 := by rw [HXi1.out, HXj1.out]; omega
                obtain ⟨xn1, HXn1, wn1⟩ := wrapL (xi1 + 1) ((i1 + 1 : Nat) : Int) (by rw [HXi1.out]; omega) (by omega) (by have := HNM.out; have := HIJ.out; have := HBN.out; omega)
                obtain ⟨xm1, HXm1, wm1⟩ := wrapL (xj1 - 1) ((j1 - 1 : Nat) : Int) (by rw [HXj1.out]; have := HI1.out; have := HIJ.out; omega) (by omega) (by have := HNM.out; have := HJ1.out; have := HIJ.out; have := HBN.out; omega)
                obtain ⟨X, Y, u, l1, l2, f1, f2, l3, ST4⟩ := SD12.out.xch HBi1.out HBj1.out
                go_wp2_with fail
                go_region
                clear l1 l2 f1 f2 l3
                generalize World.drew _ = w3 at ST4 ⊢
                go_wp2
                go_roundw
                case rel => exact ⟨xn1, xm1, i1 + 1, j1 - 1, _, rfl, rfl, HXn1, HXm1, Lib.hid (by have := HI1.out; have := HJ1.out; have := HIJ.out; have := HNE.out; omega), ST4, HQ2⟩
                case measure => have := HXi.out; have := HXj.out; have := HXn1.out; have := HXm1.out; have := HI1.out; have := HJ1.out; have := HIJ.out; simp only [intOf]; omega
            · have he1 : decide (xi1 ≤ xj1) = false := decide_eq_false (by rw [HXi1.out, HXj1.out]; omega)
              have he1' : ¬ xi1 ≤ xj1 := by rw [HXi1.out, HXj1.out]; omega
              have HF1 := Lib.hid (HD1.out.symm.trans (scanDown_no (p := (fun x => E.lt dk[a]! x)) (d := dk) (i := i1) (j := j1) (fun h => hh1 h.1)))
              clear HD1
              obtain ⟨S, HS0, HSE⟩ := SD1.out.noTest
              have hne : Nonempty (InS S) := ⟨⟨_, HS0.out⟩⟩
              go_wp2_with fail
              refine wp_region_inS S (by kernel_rfl) (by kernel_rfl) HS0.out ?_
              repeat (go_big_quiet_step (fail))
              refine wpQuiet_nil ?_
              rintro w2 ⟨⟨W2, hS2⟩, rfl⟩
              have SD12 := Lib.hid (HSE.out _ hS2)
              clear hS2 hne HS0 HSE
              have HQ2 : Hid (R = (i1, dk)) := Lib.hid (by
                have := HR.out
                rw [Sort.partEqLoop_eq, HE1.out] at this
                simp only [HF1.out] at this
                rw [if_pos (by omega)] at this
                exact this.symm)
              have hs : decide (xi1 > xj1) = true := decide_eq_true (by rw [HXi1.out, HXj1.out]; omega)
              have hs' : xj1 < xi1 := by rw [HXi1.out, HXj1.out]; omega
              go_wp2
              refine bodyPost_ret (results_tmp rfl _ _ _) rfl ?_
              rw [HQ2.out]
              exact ⟨by rw [← HXi1.out]; rfl, SD12.out⟩
        · have hv1 : decide (c < 0) = false := decide_eq_false hv
          have hlt := HLT.out.trans hv1
          have HLT := Lib.hid hlt
          clear hlt
          go_wp2_with fail
          refine wp_region_inS S (by kernel_rfl) (by kernel_rfl) HS0.out ?_
          repeat (go_big_quiet_step (exact Calls.inS HKP.out _ HC.out))
          refine wpQuiet_nil ?_
          rintro w2 ⟨⟨W2, hS2⟩, rfl⟩
          have SU12 := Lib.hid (HSE.out _ hS2)
          clear hS2 hne l1 l2 HS0 HSE HKP HC
          obtain ⟨xn1, HXn1, wn1⟩ := wrapL (xi1 + 1) ((i1 + 1 : Nat) : Int) (by rw [HXi1.out]; omega) (by omega) (by have := HNM.out; have := HIJ.out; have := HBN.out; omega)
          have HU2 := Lib.hid ((scanUp_yes (p := (fun x => !E.lt dk[a]! x)) (d := dk) hg1 (by show (!E.lt _ _) = true; rw [HLT.out]; rfl)).symm.trans HU1.out)
          go_wp2
          go_roundw
          case rel => exact ⟨xn1, i1 + 1, rfl, HXn1, Lib.hid (by have := HI1.out; omega), SU12, HU2⟩
          case measure => have := HXi1.out; have := HXn1.out; simp only [intOf]; omega
      · have hd1 : decide (xi1 ≤ xj) = false := decide_eq_false (by rw [HXi1.out, HXj.out]; omega)
        have hd1' : ¬ xi1 ≤ xj := by rw [HXi1.out, HXj.out]; omega
        have HE1 := Lib.hid (HU1.out.symm.trans (scanUp_no (p := (fun x => !E.lt dk[a]! x)) (d := dk) (j := j) (i := i1) (fun h => hg1 h.1)))
        have HF1 := Lib.hid (scanDown_no (p := (fun x => E.lt dk[a]! x)) (d := dk) (i := i1) (j := j) (fun h => hg1 h.1))
        clear HU1
        obtain ⟨S, HS0, HSE⟩ := SU1.out.noTest
        have hne : Nonempty (InS S) := ⟨⟨_, HS0.out⟩⟩
        go_wp2_with fail
        refine wp_region_inS S (by kernel_rfl) (by kernel_rfl) HS0.out ?_
        repeat (go_big_quiet_step (fail))
        refine wpQuiet_nil ?_
        rintro w2 ⟨⟨W2, hS2⟩, rfl⟩
        have SU12 := Lib.hid (HSE.out _ hS2)
        clear hS2 hne HS0 HSE
        go_wp2_with fail
        refine wp_loop_rounds 1 ?_
        rw [rounds_succ]
        obtain ⟨S, HS0, HSE⟩ := SU12.out.noTest
        have hne : Nonempty (InS S) := ⟨⟨_, HS0.out⟩⟩
        go_wp2_with fail
        refine wp_region_inS S (by kernel_rfl) (by kernel_rfl) HS0.out ?_
        repeat (go_big_quiet_step (fail))
        refine wpQuiet_nil ?_
        rintro w2 ⟨⟨W2, hS2⟩, rfl⟩
        have SD12 := Lib.hid (HSE.out _ hS2)
        clear hS2 hne HS0 HSE
        have HQ2 : Hid (R = (i1, dk)) := Lib.hid (by
          have := HR.out
          rw [Sort.partEqLoop_eq, HE1.out] at this
          simp only [HF1.out] at this
          rw [if_pos (by omega)] at this
          exact this.symm)
        have hs : decide (xi1 > xj) = true := decide_eq_true (by rw [HXi1.out, HXj.out]; omega)
        have hs' : xj < xi1 := by rw [HXi1.out, HXj.out]; omega
        go_wp2
        refine bodyPost_ret (results_tmp rfl _ _ _) rfl ?_
        rw [HQ2.out]
        exact ⟨by rw [← HXi1.out]; rfl, SD12.out⟩
end Go.Proofs.Ytiegeejbnplhdaa
