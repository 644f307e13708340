/-
  The partitions of the library's sort: about the pivot.
-/
import Derived.Test.YtiegeejbnplhdaaSoN
namespace Go.Proofs.Ytiegeejbnplhdaa
open Go.RowKit
set_option linter.unusedVariables false
set_option linter.unusedSimpArgs false

theorem part_eq {lt : List UInt8 → List UInt8 → Bool} (d : Array (List UInt8)) (a b pv : Nat) (dk : Array (List UInt8)) (h : Sort.swp d a pv = dk) :
    (if Sort.scanUp (fun x => lt x dk[a]!) dk (b - 1) (a + 1) > Sort.scanDown (fun x => !lt x dk[a]!) dk (Sort.scanUp (fun x => lt x dk[a]!) dk (b - 1) (a + 1)) (b - 1)
      then (Sort.scanDown (fun x => !lt x dk[a]!) dk (Sort.scanUp (fun x => lt x dk[a]!) dk (b - 1) (a + 1)) (b - 1), true, Sort.swp dk (Sort.scanDown (fun x => !lt x dk[a]!) dk (Sort.scanUp (fun x => lt x dk[a]!) dk (b - 1) (a + 1)) (b - 1)) a)
      else ((Sort.partLoop lt a (Sort.scanUp (fun x => lt x dk[a]!) dk (b - 1) (a + 1) + 1) (Sort.scanDown (fun x => !lt x dk[a]!) dk (Sort.scanUp (fun x => lt x dk[a]!) dk (b - 1) (a + 1)) (b - 1) - 1) (Sort.swp dk (Sort.scanUp (fun x => lt x dk[a]!) dk (b - 1) (a + 1)) (Sort.scanDown (fun x => !lt x dk[a]!) dk (Sort.scanUp (fun x => lt x dk[a]!) dk (b - 1) (a + 1)) (b - 1)))).1, false,
        Sort.swp (Sort.partLoop lt a (Sort.scanUp (fun x => lt x dk[a]!) dk (b - 1) (a + 1) + 1) (Sort.scanDown (fun x => !lt x dk[a]!) dk (Sort.scanUp (fun x => lt x dk[a]!) dk (b - 1) (a + 1)) (b - 1) - 1) (Sort.swp dk (Sort.scanUp (fun x => lt x dk[a]!) dk (b - 1) (a + 1)) (Sort.scanDown (fun x => !lt x dk[a]!) dk (Sort.scanUp (fun x => lt x dk[a]!) dk (b - 1) (a + 1)) (b - 1)))).2
          (Sort.partLoop lt a (Sort.scanUp (fun x => lt x dk[a]!) dk (b - 1) (a + 1) + 1) (Sort.scanDown (fun x => !lt x dk[a]!) dk (Sort.scanUp (fun x => lt x dk[a]!) dk (b - 1) (a + 1)) (b - 1) - 1) (Sort.swp dk (Sort.scanUp (fun x => lt x dk[a]!) dk (b - 1) (a + 1)) (Sort.scanDown (fun x => !lt x dk[a]!) dk (Sort.scanUp (fun x => lt x dk[a]!) dk (b - 1) (a + 1)) (b - 1)))).1 a)) = Sort.partition lt d a b pv := by
  subst h
  rfl
set_option maxRecDepth 1000000 in
set_option maxHeartbeats 32000000 in
theorem part_any (E : SE) (ok : E.Ok) (a b pv : Nat) (xa xb xp : Int) (ea : xa = a) (eb : xb = b) (ep : xp = pv) (d : Array (List UInt8)) (w : World) (S0 : St E w d) (hab : a < b) (hb : b ≤ E.n) (hp : pv < E.n) :
    Calls Try.prog 47 #[.slice (some ⟨E.g, 0, none⟩) E.n E.cap, .int .i64 xa, .int .i64 xb, .int .i64 xp, .func (.func 29) #[.pointer (some ⟨E.b, 0, none⟩)] #[]] w fun x w' => x = .returned (.tuple #[.int .i64 ((Sort.partition E.lt d a b pv).1 : Nat), .bool (Sort.partition E.lt d a b pv).2.1]) ∧ St E w' (Sort.partition E.lt d a b pv).2.2 := by
  have HNM := Lib.hid ok.nm
  have HK := Lib.hid ok
  have ST := Lib.hid S0
  have HXa := Lib.hid ea
  have HXpv := Lib.hid ep
  have HBN := Lib.hid hb
  have HAB := Lib.hid hab
  obtain ⟨i, HI0⟩ : ∃ i, Hid (i = a + 1) := ⟨_, Lib.hid rfl⟩
  obtain ⟨j, HJ0⟩ : ∃ j, Hid (j = b - 1) := ⟨_, Lib.hid rfl⟩
  obtain ⟨xi, HXi, wa1⟩ := wrapL (xa + 1) (i : Int) (by rw [ea, HI0.out]; omega) (by omega) (by have := HNM.out; have := HI0.out; omega)
  obtain ⟨xj, HXj, wb1⟩ := wrapL (xb - 1) (j : Int) (by rw [eb, HJ0.out]; omega) (by omega) (by have := HNM.out; have := HJ0.out; omega)
  have HIJ : Hid (a < i ∧ i ≤ j + 1 ∧ j < b) := Lib.hid (by have := HI0.out; have := HJ0.out; omega)
  have HBa : Hid (a < E.n) := Lib.hid (by omega)
  obtain ⟨ta, pa, ba⟩ := idxV HXa.out HBa.out
  have HBpv : Hid (pv < E.n) := Lib.hid (by exact hp)
  obtain ⟨tpv, ppv, bpv⟩ := idxV HXpv.out HBpv.out
  obtain ⟨R, HRE⟩ : ∃ R, Hid (Sort.partition E.lt d a b pv = R) := ⟨_, Lib.hid rfl⟩
  obtain ⟨dk, HDK⟩ : ∃ dk, Hid (Sort.swp d a pv = dk) := ⟨_, Lib.hid rfl⟩
  have HR := Lib.hid ((part_eq (lt := E.lt) d a b pv dk HDK.out).trans HRE.out)
  rw [HRE.out]
  clear ok S0 ea eb ep hab hb hp HRE
  go_enter Try.func47, Try.ntmps47
  obtain ⟨X, Y, u, l1, l2, f1, f2, l3, ST1⟩ := ST.out.xch HBa.out HBpv.out
  go_wp2_with fail
  go_region
  clear l1 l2 f1 f2 l3
  generalize World.drew _ = w3 at ST1 ⊢
  rw [HDK.out] at ST1
  clear HDK
  go_wp2_with fail
  go_loopw [12] (fun vi wr1 => ∃ (x : Int) (i2 : Nat), vi = .int .i64 x ∧ Hid (x = (i2 : Int)) ∧ Hid (i ≤ i2 ∧ i2 ≤ j + 1) ∧ Hid (St E wr1 dk) ∧ Hid (Sort.scanUp (fun x => E.lt x dk[a]!) dk j i2 = Sort.scanUp (fun x => E.lt x dk[a]!) dk j i)) (fun vi _ => ((j : Int) + 1 - intOf vi).toNat)
  case atStart => exact ⟨xi, i, rfl, HXi, Lib.hid (by have := HIJ.out; omega), ST1, Lib.hid rfl⟩
  case round =>
    clear ST1
    obtain ⟨xi1, i1, rfl, HXi1, HI1, SU1, HU1⟩ := hrel
    by_cases hg1 : i1 ≤ j
    · have hd1 : decide (xi1 ≤ xj) = true := decide_eq_true (by rw [HXi1.out, HXj.out]; omega)
      have hd1' : xi1 ≤ xj := by rw [HXi1.out, HXj.out]; omega
      have HBi1 : Hid (i1 < E.n) := Lib.hid (by have := HIJ.out; have := HBN.out; omega)
      obtain ⟨ti1, pi1, bi1⟩ := idxV HXi1.out HBi1.out
      obtain ⟨S, X, Y, c, HS0, HSE, HKP, l1, l2, HC, HLT⟩ := SU1.out.test HK.out HBi1.out HBa.out
      have hne : Nonempty (InS S) := ⟨⟨_, HS0.out⟩⟩
      by_cases hv : c < 0
      · have hv1 : decide (c < 0) = true := decide_eq_true hv
        have hlt := HLT.out.trans hv1
        have HLT := Lib.hid hlt
        clear hlt
        go_wp2_with fail
        refine wp_region_inS S (by kernel_rfl) (by kernel_rfl) HS0.out ?_
        repeat (go_big_quiet_step (exact Calls.inS HKP.out _ HC.out))
        refine wpQuiet_nil ?_
        rintro w2 ⟨⟨W2, hS2⟩, rfl⟩
        have SU12 := Lib.hid (HSE.out _ hS2)
        clear hS2 hne l1 l2 HS0 HSE HKP HC
        obtain ⟨xn1, HXn1, wn1⟩ := wrapL (xi1 + 1) ((i1 + 1 : Nat) : Int) (by rw [HXi1.out]; omega) (by omega) (by have := HNM.out; have := HIJ.out; have := HBN.out; omega)
        have HU2 := Lib.hid ((scanUp_yes (p := (fun x => E.lt x dk[a]!)) (d := dk) hg1 (by show E.lt _ _ = true; rw [HLT.out])).symm.trans HU1.out)
        go_wp2
        go_roundw
        case rel => exact ⟨xn1, i1 + 1, rfl, HXn1, Lib.hid (by have := HI1.out; omega), SU12, HU2⟩
        case measure => have := HXi1.out; have := HXn1.out; simp only [intOf]; omega
      · have hv1 : decide (c < 0) = false := decide_eq_false hv
        have hlt := HLT.out.trans hv1
        have HLT := Lib.hid hlt
        clear hlt
        go_wp2_with fail
        refine wp_region_inS S (by kernel_rfl) (by kernel_rfl) HS0.out ?_
        repeat (go_big_quiet_step (exact Calls.inS HKP.out _ HC.out))
        refine wpQuiet_nil ?_
        rintro w2 ⟨⟨W2, hS2⟩, rfl⟩
        have SU12 := Lib.hid (HSE.out _ hS2)
        clear hS2 hne l1 l2 HS0 HSE HKP HC
        have HE1 := Lib.hid (HU1.out.symm.trans (scanUp_no (p := (fun x => E.lt x dk[a]!)) (d := dk) (j := j) (i := i1) (fun h => by have h2 : (E.lt _ _) = true := h.2; rw [HLT.out] at h2; cases h2)))
        have HUS1 := HLT
        clear HLT hv hv1 HU1
        go_wp2_with fail
        go_loopw [13] (fun vj ws1 => ∃ (x : Int) (j2 : Nat), vj = .int .i64 x ∧ Hid (x = (j2 : Int)) ∧ Hid (j2 ≤ j ∧ i1 ≤ j2 + 1) ∧ Hid (St E ws1 dk) ∧ Hid (Sort.scanDown (fun x => !E.lt x dk[a]!) dk i1 j2 = Sort.scanDown (fun x => !E.lt x dk[a]!) dk i1 j)) (fun vj _ => (intOf vj + 1).toNat)
        case atStart => exact ⟨xj, j, rfl, HXj, Lib.hid (by omega), SU12, Lib.hid rfl⟩
        case round =>
          clear SU12
          obtain ⟨xj1, j1, rfl, HXj1, HJ1, SD1, HD1⟩ := hrel
          by_cases hh1 : i1 ≤ j1
          · have he1 : decide (xi1 ≤ xj1) = true := decide_eq_true (by rw [HXi1.out, HXj1.out]; omega)
            have he1' : xi1 ≤ xj1 := by rw [HXi1.out, HXj1.out]; omega
            have HBj1 : Hid (j1 < E.n) := Lib.hid (by have := HJ1.out; have := HIJ.out; have := HBN.out; omega)
            obtain ⟨tj1, pj1, bj1⟩ := idxV HXj1.out HBj1.out
            obtain ⟨S, X, Y, c, HS0, HSE, HKP, l1, l2, HC, HLT⟩ := SD1.out.test HK.out HBj1.out HBa.out
            have hne : Nonempty (InS S) := ⟨⟨_, HS0.out⟩⟩
            by_cases hv : c < 0
            · have hv1 : decide (c < 0) = true := decide_eq_true hv
              have hlt := HLT.out.trans hv1
              have HLT := Lib.hid hlt
              clear hlt
              go_wp2_with fail
              refine wp_region_inS S (by kernel_rfl) (by kernel_rfl) HS0.out ?_
              repeat (go_big_quiet_step (exact Calls.inS HKP.out _ HC.out))
              refine wpQuiet_nil ?_
              rintro w2 ⟨⟨W2, hS2⟩, rfl⟩
              have SD12 := Lib.hid (HSE.out _ hS2)
              clear hS2 hne l1 l2 HS0 HSE HKP HC
              have HF1 := Lib.hid (HD1.out.symm.trans (scanDown_no (p := (fun x => !E.lt x dk[a]!)) (d := dk) (i := i1) (j := j1) (fun h => by have h2 : (!E.lt _ _) = true := h.2; rw [HLT.out] at h2; cases h2)))
              have HDS1 := HLT
              clear HLT hv hv1 HD1
              have HNE1 : Hid (i1 ≠ j1) := Lib.hid fun e => by
                have h1 := HUS1.out
                have h2 := HDS1.out
                rw [e, h2] at h1
                cases h1
              have hs : decide (xi1 > xj1) = false := decide_eq_false (by rw [HXi1.out, HXj1.out]; omega)
              have hs' : ¬ xj1 < xi1 := by rw [HXi1.out, HXj1.out]; omega
              obtain ⟨xa1, HXa1, wa1⟩ := wrapL (xi1 + 1) ((i1 + 1 : Nat) : Int) (by rw [HXi1.out]; omega) (by omega) (by have := HNM.out; have := HIJ.out; have := HBN.out; omega)
              obtain ⟨xd1, HXd1, wd1⟩ := wrapL (xj1 - 1) ((j1 - 1 : Nat) : Int) (by rw [HXj1.out]; have := HI1.out; have := HIJ.out; omega) (by omega) (by have := HNM.out; have := HJ1.out; have := HIJ.out; have := HBN.out; omega)
              have HIJ1 : Hid (a < i1 + 1 ∧ i1 + 1 ≤ j1 - 1 + 1 ∧ j1 - 1 < b) := Lib.hid (by have := HI1.out; have := HJ1.out; have := HIJ.out; have := HNE1.out; omega)
              obtain ⟨X, Y, u, l1, l2, f1, f2, l3, ST4⟩ := SD12.out.xch HBi1.out HBj1.out
              go_wp2_with fail
              go_region
              clear l1 l2 f1 f2 l3
              generalize World.drew _ = w3 at ST4 ⊢
              obtain ⟨RL, HRL0⟩ : ∃ RL, Hid (Sort.partLoop E.lt a (i1 + 1) (j1 - 1) (Sort.swp dk i1 j1) = RL) := ⟨_, Lib.hid rfl⟩
              have HRL : Hid (R = (RL.1, false, Sort.swp RL.2 RL.1 a)) := Lib.hid (by
                have := HR.out
                rw [← HI0.out, ← HJ0.out] at this
                simp only [HE1.out, HF1.out] at this
                rw [if_neg (by omega), HRL0.out] at this
                exact this.symm)
              clear HR HE1 HF1 hs hs' hd1 hd1' hg1 hh1 he1 he1'
              go_wp2_with fail
              go_loopw [12, 13] (fun vi vj wr => ∃ (xi xj : Int) (i j : Nat) (dk : Array (List UInt8)), vi = .int .i64 xi ∧ vj = .int .i64 xj ∧ Hid (xi = (i : Int)) ∧ Hid (xj = (j : Int)) ∧ Hid (a < i ∧ i ≤ j + 1 ∧ j < b) ∧ Hid (St E wr dk) ∧ Hid (Sort.partLoop E.lt a i j dk = RL)) (fun vi vj _ => (intOf vj + 1 - intOf vi).toNat)
              case atStart => exact ⟨xa1, xd1, i1 + 1, j1 - 1, _, rfl, rfl, HXa1, HXd1, HIJ1, ST4, HRL0⟩
              case round =>
                clear ST4 HRL0 ti1 pi1 bi1 tj1 pj1 bj1 HXi HXj HIJ HIJ1 wa1 wd1
                obtain ⟨xi, xj, i, j, dk, rfl, rfl, HXi, HXj, HIJ, ST2, HR2⟩ := hrel
                go_wp2_with fail
                go_loopw [12] (fun vi wr2 => ∃ (x : Int) (i2 : Nat), vi = .int .i64 x ∧ Hid (x = (i2 : Int)) ∧ Hid (i ≤ i2 ∧ i2 ≤ j + 1) ∧ Hid (St E wr2 dk) ∧ Hid (Sort.scanUp (fun x => E.lt x dk[a]!) dk j i2 = Sort.scanUp (fun x => E.lt x dk[a]!) dk j i)) (fun vi _ => ((j : Int) + 1 - intOf vi).toNat)
                case atStart => exact ⟨xi, i, rfl, HXi, Lib.hid (by have := HIJ.out; omega), ST2, Lib.hid rfl⟩
                case round =>
                  clear ST2
                  obtain ⟨xi2, i2, rfl, HXi2, HI2, SU2, HU2⟩ := hrel
                  by_cases hg2 : i2 ≤ j
                  · have hd2 : decide (xi2 ≤ xj) = true := decide_eq_true (by rw [HXi2.out, HXj.out]; omega)
                    have hd2' : xi2 ≤ xj := by rw [HXi2.out, HXj.out]; omega
                    have HBi2 : Hid (i2 < E.n) := Lib.hid (by have := HIJ.out; have := HBN.out; omega)
                    obtain ⟨ti2, pi2, bi2⟩ := idxV HXi2.out HBi2.out
                    obtain ⟨S, X, Y, c, HS0, HSE, HKP, l1, l2, HC, HLT⟩ := SU2.out.test HK.out HBi2.out HBa.out
                    have hne : Nonempty (InS S) := ⟨⟨_, HS0.out⟩⟩
                    by_cases hv : c < 0
                    · have hv1 : decide (c < 0) = true := decide_eq_true hv
                      have hlt := HLT.out.trans hv1
                      have HLT := Lib.hid hlt
                      clear hlt
                      go_wp2_with fail
                      refine wp_region_inS S (by kernel_rfl) (by kernel_rfl) HS0.out ?_
                      repeat (go_big_quiet_step (exact Calls.inS HKP.out _ HC.out))
                      refine wpQuiet_nil ?_
                      rintro w2 ⟨⟨W2, hS2⟩, rfl⟩
                      have SU22 := Lib.hid (HSE.out _ hS2)
                      clear hS2 hne l1 l2 HS0 HSE HKP HC
                      obtain ⟨xn2, HXn2, wn2⟩ := wrapL (xi2 + 1) ((i2 + 1 : Nat) : Int) (by rw [HXi2.out]; omega) (by omega) (by have := HNM.out; have := HIJ.out; have := HBN.out; omega)
                      have HU2 := Lib.hid ((scanUp_yes (p := (fun x => E.lt x dk[a]!)) (d := dk) hg2 (by show E.lt _ _ = true; rw [HLT.out])).symm.trans HU2.out)
                      go_wp2
                      go_roundw
                      case rel => exact ⟨xn2, i2 + 1, rfl, HXn2, Lib.hid (by have := HI2.out; omega), SU22, HU2⟩
                      case measure => have := HXi2.out; have := HXn2.out; simp only [intOf]; omega
                    · have hv1 : decide (c < 0) = false := decide_eq_false hv
                      have hlt := HLT.out.trans hv1
                      have HLT := Lib.hid hlt
                      clear hlt
                      go_wp2_with fail
                      refine wp_region_inS S (by kernel_rfl) (by kernel_rfl) HS0.out ?_
                      repeat (go_big_quiet_step (exact Calls.inS HKP.out _ HC.out))
                      refine wpQuiet_nil ?_
                      rintro w2 ⟨⟨W2, hS2⟩, rfl⟩
                      have SU22 := Lib.hid (HSE.out _ hS2)
                      clear hS2 hne l1 l2 HS0 HSE HKP HC
                      have HE2 := Lib.hid (HU2.out.symm.trans (scanUp_no (p := (fun x => E.lt x dk[a]!)) (d := dk) (j := j) (i := i2) (fun h => by have h2 : (E.lt _ _) = true := h.2; rw [HLT.out] at h2; cases h2)))
                      have HUS2 := HLT
                      clear HLT hv hv1 HU2
                      go_wp2_with fail
                      go_loopw [13] (fun vj ws2 => ∃ (x : Int) (j2 : Nat), vj = .int .i64 x ∧ Hid (x = (j2 : Int)) ∧ Hid (j2 ≤ j ∧ i2 ≤ j2 + 1) ∧ Hid (St E ws2 dk) ∧ Hid (Sort.scanDown (fun x => !E.lt x dk[a]!) dk i2 j2 = Sort.scanDown (fun x => !E.lt x dk[a]!) dk i2 j)) (fun vj _ => (intOf vj + 1).toNat)
                      case atStart => exact ⟨xj, j, rfl, HXj, Lib.hid (by omega), SU22, Lib.hid rfl⟩
                      case round =>
                        clear SU22
                        obtain ⟨xj2, j2, rfl, HXj2, HJ2, SD2, HD2⟩ := hrel
                        by_cases hh2 : i2 ≤ j2
                        · have he2 : decide (xi2 ≤ xj2) = true := decide_eq_true (by rw [HXi2.out, HXj2.out]; omega)
                          have he2' : xi2 ≤ xj2 := by rw [HXi2.out, HXj2.out]; omega
                          have HBj2 : Hid (j2 < E.n) := Lib.hid (by have := HJ2.out; have := HIJ.out; have := HBN.out; omega)
                          obtain ⟨tj2, pj2, bj2⟩ := idxV HXj2.out HBj2.out
                          obtain ⟨S, X, Y, c, HS0, HSE, HKP, l1, l2, HC, HLT⟩ := SD2.out.test HK.out HBj2.out HBa.out
                          have hne : Nonempty (InS S) := ⟨⟨_, HS0.out⟩⟩
                          by_cases hv : c < 0
                          · have hv1 : decide (c < 0) = true := decide_eq_true hv
                            have hlt := HLT.out.trans hv1
                            have HLT := Lib.hid hlt
                            clear hlt
                            go_wp2_with fail
                            refine wp_region_inS S (by kernel_rfl) (by kernel_rfl) HS0.out ?_
                            repeat (go_big_quiet_step (exact Calls.inS HKP.out _ HC.out))
                            refine wpQuiet_nil ?_
                            rintro w2 ⟨⟨W2, hS2⟩, rfl⟩
                            have SD22 := Lib.hid (HSE.out _ hS2)
                            clear hS2 hne l1 l2 HS0 HSE HKP HC
                            have HF2 := Lib.hid (HD2.out.symm.trans (scanDown_no (p := (fun x => !E.lt x dk[a]!)) (d := dk) (i := i2) (j := j2) (fun h => by have h2 : (!E.lt _ _) = true := h.2; rw [HLT.out] at h2; cases h2)))
                            have HDS2 := HLT
                            clear HLT hv hv1 HD2
                            have HNE2 : Hid (i2 ≠ j2) := Lib.hid fun e => by
                              have h1 := HUS2.out
                              have h2 := HDS2.out
                              rw [e, h2] at h1
                              cases h1
                            have hs : decide (xi2 > xj2) = false := decide_eq_false (by rw [HXi2.out, HXj2.out]; omega)
                            have hs' : ¬ xj2 < xi2 := by rw [HXi2.out, HXj2.out]; omega
                            obtain ⟨xa2, HXa2, wa2⟩ := wrapL (xi2 + 1) ((i2 + 1 : Nat) : Int) (by rw [HXi2.out]; omega) (by omega) (by have := HNM.out; have := HIJ.out; have := HBN.out; omega)
                            obtain ⟨xd2, HXd2, wd2⟩ := wrapL (xj2 - 1) ((j2 - 1 : Nat) : Int) (by rw [HXj2.out]; have := HI2.out; have := HIJ.out; omega) (by omega) (by have := HNM.out; have := HJ2.out; have := HIJ.out; have := HBN.out; omega)
                            have HIJ2 : Hid (a < i2 + 1 ∧ i2 + 1 ≤ j2 - 1 + 1 ∧ j2 - 1 < b) := Lib.hid (by have := HI2.out; have := HJ2.out; have := HIJ.out; have := HNE2.out; omega)
                            obtain ⟨X, Y, u, l1, l2, f1, f2, l3, ST4⟩ := SD22.out.xch HBi2.out HBj2.out
                            go_wp2_with fail
                            go_region
                            clear l1 l2 f1 f2 l3
                            generalize World.drew _ = w3 at ST4 ⊢
                            have HQ2 : Hid (Sort.partLoop E.lt a (i2 + 1) (j2 - 1) (Sort.swp dk i2 j2) = RL) := Lib.hid (by
                              have := HR2.out
                              rw [Sort.partLoop_eq, HE2.out] at this
                              simp only [HF2.out] at this
                              rw [if_neg (by omega)] at this
                              exact this)
                            go_wp2
                            go_roundw
                            case rel => exact ⟨xa2, xd2, i2 + 1, j2 - 1, _, rfl, rfl, HXa2, HXd2, HIJ2, ST4, HQ2⟩
                            case measure => have := HXi.out; have := HXj.out; have := HXa2.out; have := HXd2.out; have := HI2.out; have := HJ2.out; have := HIJ.out; simp only [intOf]; omega
                          · have hv1 : decide (c < 0) = false := decide_eq_false hv
                            have hlt := HLT.out.trans hv1
                            have HLT := Lib.hid hlt
                            clear hlt
                            go_wp2_with fail
                            refine wp_region_inS S (by kernel_rfl) (by kernel_rfl) HS0.out ?_
                            repeat (go_big_quiet_step (exact Calls.inS HKP.out _ HC.out))
                            refine wpQuiet_nil ?_
                            rintro w2 ⟨⟨W2, hS2⟩, rfl⟩
                            have SD22 := Lib.hid (HSE.out _ hS2)
                            clear hS2 hne l1 l2 HS0 HSE HKP HC
                            obtain ⟨m2, HMm2⟩ : ∃ m, Hid (j2 = m + 1) := ⟨j2 - 1, Lib.hid (by have := HI2.out; have := HIJ.out; omega)⟩
                            obtain ⟨xm2, HXm2, wm2⟩ := wrapL (xj2 - 1) (m2 : Int) (by rw [HXj2.out, HMm2.out]; omega) (by omega) (by have := HNM.out; have := HJ2.out; have := HIJ.out; have := HBN.out; have := HMm2.out; omega)
                            have HD2 := Lib.hid ((scanDown_yes (p := (fun x => !E.lt x dk[a]!)) (d := dk) (i := i2) HMm2.out hh2 (by show (!E.lt _ _) = true; rw [HLT.out]; rfl)).symm.trans HD2.out)
                            go_wp2
                            go_roundw
                            case rel => exact ⟨xm2, m2, rfl, HXm2, Lib.hid (by have := HJ2.out; have := HMm2.out; omega), SD22, HD2⟩
                            case measure => have := HXj2.out; have := HXm2.out; have := HMm2.out; simp only [intOf]; omega
                        · have he2 : decide (xi2 ≤ xj2) = false := decide_eq_false (by rw [HXi2.out, HXj2.out]; omega)
                          have he2' : ¬ xi2 ≤ xj2 := by rw [HXi2.out, HXj2.out]; omega
                          have HF2 := Lib.hid (HD2.out.symm.trans (scanDown_no (p := (fun x => !E.lt x dk[a]!)) (d := dk) (i := i2) (j := j2) (fun h => hh2 h.1)))
                          clear HD2
                          obtain ⟨S, HS0, HSE⟩ := SD2.out.noTest
                          have hne : Nonempty (InS S) := ⟨⟨_, HS0.out⟩⟩
                          go_wp2_with fail
                          refine wp_region_inS S (by kernel_rfl) (by kernel_rfl) HS0.out ?_
                          repeat (go_big_quiet_step (fail))
                          refine wpQuiet_nil ?_
                          rintro w2 ⟨⟨W2, hS2⟩, rfl⟩
                          have SD22 := Lib.hid (HSE.out _ hS2)
                          clear hS2 hne HS0 HSE
                          have HQ2 : Hid (RL = (j2, dk)) := Lib.hid (by
                            have := HR2.out
                            rw [Sort.partLoop_eq, HE2.out] at this
                            simp only [HF2.out] at this
                            rw [if_pos (by omega)] at this
                            exact this.symm)
                          have hs : decide (xi2 > xj2) = true := decide_eq_true (by rw [HXi2.out, HXj2.out]; omega)
                          have hs' : xj2 < xi2 := by rw [HXi2.out, HXj2.out]; omega
                          have HBj2 : Hid (j2 < E.n) := Lib.hid (by have := HIJ.out; have := HBN.out; omega)
                          obtain ⟨tj2, pj2, bj2⟩ := idxV HXj2.out HBj2.out
                          obtain ⟨X, Y, u, l1, l2, f1, f2, l3, ST4⟩ := SD22.out.xch HBj2.out HBa.out
                          go_wp2_with fail
                          go_region
                          clear l1 l2 f1 f2 l3
                          generalize World.drew _ = w3 at ST4 ⊢
                          go_wp2
                          refine bodyPost_ret (results_tmp2 rfl _ _ _) rfl ?_
                          rw [HRL.out, HQ2.out]
                          exact ⟨by rw [← HXj2.out]; rfl, ST4.out⟩
                  · have hd2 : decide (xi2 ≤ xj) = false := decide_eq_false (by rw [HXi2.out, HXj.out]; omega)
                    have hd2' : ¬ xi2 ≤ xj := by rw [HXi2.out, HXj.out]; omega
                    have HE2 := Lib.hid (HU2.out.symm.trans (scanUp_no (p := (fun x => E.lt x dk[a]!)) (d := dk) (j := j) (i := i2) (fun h => hg2 h.1)))
                    have HF2 := Lib.hid (scanDown_no (p := (fun x => !E.lt x dk[a]!)) (d := dk) (i := i2) (j := j) (fun h => hg2 h.1))
                    clear HU2
                    obtain ⟨S, HS0, HSE⟩ := SU2.out.noTest
                    have hne : Nonempty (InS S) := ⟨⟨_, HS0.out⟩⟩
                    go_wp2_with fail
                    refine wp_region_inS S (by kernel_rfl) (by kernel_rfl) HS0.out ?_
                    repeat (go_big_quiet_step (fail))
                    refine wpQuiet_nil ?_
                    rintro w2 ⟨⟨W2, hS2⟩, rfl⟩
                    have SU22 := Lib.hid (HSE.out _ hS2)
                    clear hS2 hne HS0 HSE
                    go_wp2_with fail
                    refine wp_loop_rounds 1 ?_
                    rw [rounds_succ]
                    obtain ⟨S, HS0, HSE⟩ := SU22.out.noTest
                    have hne : Nonempty (InS S) := ⟨⟨_, HS0.out⟩⟩
                    go_wp2_with fail
                    refine wp_region_inS S (by kernel_rfl) (by kernel_rfl) HS0.out ?_
                    repeat (go_big_quiet_step (fail))
                    refine wpQuiet_nil ?_
                    rintro w2 ⟨⟨W2, hS2⟩, rfl⟩
                    have SD22 := Lib.hid (HSE.out _ hS2)
                    clear hS2 hne HS0 HSE
                    have HQ2 : Hid (RL = (j, dk)) := Lib.hid (by
                      have := HR2.out
                      rw [Sort.partLoop_eq, HE2.out] at this
                      simp only [HF2.out] at this
                      rw [if_pos (by omega)] at this
                      exact this.symm)
                    have hs : decide (xi2 > xj) = true := decide_eq_true (by rw [HXi2.out, HXj.out]; omega)
                    have hs' : xj < xi2 := by rw [HXi2.out, HXj.out]; omega
                    have HBj : Hid (j < E.n) := Lib.hid (by have := HIJ.out; have := HBN.out; omega)
                    obtain ⟨tj, pj, bj⟩ := idxV HXj.out HBj.out
                    obtain ⟨X, Y, u, l1, l2, f1, f2, l3, ST4⟩ := SD22.out.xch HBj.out HBa.out
                    go_wp2_with fail
                    go_region
                    clear l1 l2 f1 f2 l3
                    generalize World.drew _ = w3 at ST4 ⊢
                    go_wp2
                    refine bodyPost_ret (results_tmp2 rfl _ _ _) rfl ?_
                    rw [HRL.out, HQ2.out]
                    exact ⟨by rw [← HXj.out]; rfl, ST4.out⟩
            · have hv1 : decide (c < 0) = false := decide_eq_false hv
              have hlt := HLT.out.trans hv1
              have HLT := Lib.hid hlt
              clear hlt
              go_wp2_with fail
              refine wp_region_inS S (by kernel_rfl) (by kernel_rfl) HS0.out ?_
              repeat (go_big_quiet_step (exact Calls.inS HKP.out _ HC.out))
              refine wpQuiet_nil ?_
              rintro w2 ⟨⟨W2, hS2⟩, rfl⟩
              have SD12 := Lib.hid (HSE.out _ hS2)
              clear hS2 hne l1 l2 HS0 HSE HKP HC
              obtain ⟨m1, HMm1⟩ : ∃ m, Hid (j1 = m + 1) := ⟨j1 - 1, Lib.hid (by have := HI1.out; have := HIJ.out; omega)⟩
              obtain ⟨xm1, HXm1, wm1⟩ := wrapL (xj1 - 1) (m1 : Int) (by rw [HXj1.out, HMm1.out]; omega) (by omega) (by have := HNM.out; have := HJ1.out; have := HIJ.out; have := HBN.out; have := HMm1.out; omega)
              have HD2 := Lib.hid ((scanDown_yes (p := (fun x => !E.lt x dk[a]!)) (d := dk) (i := i1) HMm1.out hh1 (by show (!E.lt _ _) = true; rw [HLT.out]; rfl)).symm.trans HD1.out)
              go_wp2
              go_roundw
              case rel => exact ⟨xm1, m1, rfl, HXm1, Lib.hid (by have := HJ1.out; have := HMm1.out; omega), SD12, HD2⟩
              case measure => have := HXj1.out; have := HXm1.out; have := HMm1.out; simp only [intOf]; omega
          · have he1 : decide (xi1 ≤ xj1) = false := decide_eq_false (by rw [HXi1.out, HXj1.out]; omega)
            have he1' : ¬ xi1 ≤ xj1 := by rw [HXi1.out, HXj1.out]; omega
            have HF1 := Lib.hid (HD1.out.symm.trans (scanDown_no (p := (fun x => !E.lt x dk[a]!)) (d := dk) (i := i1) (j := j1) (fun h => hh1 h.1)))
            clear HD1
            obtain ⟨S, HS0, HSE⟩ := SD1.out.noTest
            have hne : Nonempty (InS S) := ⟨⟨_, HS0.out⟩⟩
            go_wp2_with fail
            refine wp_region_inS S (by kernel_rfl) (by kernel_rfl) HS0.out ?_
            repeat (go_big_quiet_step (fail))
            refine wpQuiet_nil ?_
            rintro w2 ⟨⟨W2, hS2⟩, rfl⟩
            have SD12 := Lib.hid (HSE.out _ hS2)
            clear hS2 hne HS0 HSE
            have HQ2 : Hid (R = (j1, true, Sort.swp dk j1 a)) := Lib.hid (by
              have := HR.out
              rw [← HI0.out, ← HJ0.out] at this
              simp only [HE1.out, HF1.out] at this
              rw [if_pos (by omega)] at this
              exact this.symm)
            have hs : decide (xi1 > xj1) = true := decide_eq_true (by rw [HXi1.out, HXj1.out]; omega)
            have hs' : xj1 < xi1 := by rw [HXi1.out, HXj1.out]; omega
            have HBj1 : Hid (j1 < E.n) := Lib.hid (by have := HIJ.out; have := HBN.out; omega)
            obtain ⟨tj1, pj1, bj1⟩ := idxV HXj1.out HBj1.out
            obtain ⟨X, Y, u, l1, l2, f1, f2, l3, ST4⟩ := SD12.out.xch HBj1.out HBa.out
            go_wp2_with fail
            go_region
            clear l1 l2 f1 f2 l3
            generalize World.drew _ = w3 at ST4 ⊢
            go_wp2
            refine bodyPost_ret (results_tmp2 rfl _ _ _) rfl ?_
            rw [HQ2.out]
            exact ⟨by rw [← HXj1.out]; rfl, ST4.out⟩
    · have hd1 : decide (xi1 ≤ xj) = false := decide_eq_false (by rw [HXi1.out, HXj.out]; omega)
      have hd1' : ¬ xi1 ≤ xj := by rw [HXi1.out, HXj.out]; omega
      have HE1 := Lib.hid (HU1.out.symm.trans (scanUp_no (p := (fun x => E.lt x dk[a]!)) (d := dk) (j := j) (i := i1) (fun h => hg1 h.1)))
      have HF1 := Lib.hid (scanDown_no (p := (fun x => !E.lt x dk[a]!)) (d := dk) (i := i1) (j := j) (fun h => hg1 h.1))
      clear HU1
      obtain ⟨S, HS0, HSE⟩ := SU1.out.noTest
      have hne : Nonempty (InS S) := ⟨⟨_, HS0.out⟩⟩
      go_wp2_with fail
      refine wp_region_inS S (by kernel_rfl) (by kernel_rfl) HS0.out ?_
      repeat (go_big_quiet_step (fail))
      refine wpQuiet_nil ?_
      rintro w2 ⟨⟨W2, hS2⟩, rfl⟩
      have SU12 := Lib.hid (HSE.out _ hS2)
      clear hS2 hne HS0 HSE
      go_wp2_with fail
      refine wp_loop_rounds 1 ?_
      rw [rounds_succ]
      obtain ⟨S, HS0, HSE⟩ := SU12.out.noTest
      have hne : Nonempty (InS S) := ⟨⟨_, HS0.out⟩⟩
      go_wp2_with fail
      refine wp_region_inS S (by kernel_rfl) (by kernel_rfl) HS0.out ?_
      repeat (go_big_quiet_step (fail))
      refine wpQuiet_nil ?_
      rintro w2 ⟨⟨W2, hS2⟩, rfl⟩
      have SD12 := Lib.hid (HSE.out _ hS2)
      clear hS2 hne HS0 HSE
      have HQ2 : Hid (R = (j, true, Sort.swp dk j a)) := Lib.hid (by
        have := HR.out
        rw [← HI0.out, ← HJ0.out] at this
        simp only [HE1.out, HF1.out] at this
        rw [if_pos (by omega)] at this
        exact this.symm)
      have hs : decide (xi1 > xj) = true := decide_eq_true (by rw [HXi1.out, HXj.out]; omega)
      have hs' : xj < xi1 := by rw [HXi1.out, HXj.out]; omega
      have HBj : Hid (j < E.n) := Lib.hid (by have := HIJ.out; have := HBN.out; omega)
      obtain ⟨tj, pj, bj⟩ := idxV HXj.out HBj.out
      obtain ⟨X, Y, u, l1, l2, f1, f2, l3, ST4⟩ := SD12.out.xch HBj.out HBa.out
      go_wp2_with fail
      go_region
      clear l1 l2 f1 f2 l3
      generalize World.drew _ = w3 at ST4 ⊢
      go_wp2
      refine bodyPost_ret (results_tmp2 rfl _ _ _) rfl ?_
      rw [HQ2.out]
      exact ⟨by rw [← HXj.out]; rfl, ST4.out⟩
end Go.Proofs.Ytiegeejbnplhdaa
