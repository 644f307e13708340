/-
  The library's insertion sort by the clock's order.
-/
import Derived.Test.YtiegeejbnplhdaaSoA
namespace Go.Proofs.Ytiegeejbnplhdaa
open Go.RowKit
set_option linter.unusedVariables false
set_option linter.unusedSimpArgs false

theorem mixedO : Try.prog.follows .mixedOrders = true := by kernel_rfl
theorem insInner_at {lt : List UInt8 → List UInt8 → Bool} (a : Nat) (d : Array (List UInt8)) : Sort.insInner lt a a d = d := by
  cases a with
  | zero => rfl
  | succ a => unfold Sort.insInner; simp
theorem insInner_no {lt : List UInt8 → List UInt8 → Bool} {a j : Nat} {d : Array (List UInt8)} (h : lt d[j + 1]! d[j]! = false) : Sort.insInner lt a (j + 1) d = d := by
  unfold Sort.insInner
  rw [h]; simp
theorem insInner_yes {lt : List UInt8 → List UInt8 → Bool} {a j : Nat} {d : Array (List UInt8)} (ha : a < j + 1) (h : lt d[j + 1]! d[j]! = true) : Sort.insInner lt a (j + 1) d = Sort.insInner lt a j (Sort.swp d (j + 1) j) := by
  conv => lhs; unfold Sort.insInner
  rw [h]; simp [ha]
theorem insOuter_yes {lt : List UInt8 → List UInt8 → Bool} {a b i : Nat} {d : Array (List UInt8)} (h : i < b) : Sort.insOuter lt a b i d = Sort.insOuter lt a b (i + 1) (Sort.insInner lt a i d) := by
  conv => lhs; unfold Sort.insOuter
  rw [if_pos h]
theorem insOuter_no {lt : List UInt8 → List UInt8 → Bool} {a b i : Nat} {d : Array (List UInt8)} (h : ¬ i < b) : Sort.insOuter lt a b i d = d := by
  unfold Sort.insOuter
  rw [if_neg h]

set_option maxRecDepth 1000000 in
set_option maxHeartbeats 4000000 in
theorem insS_any (E : SE) (ok : E.Ok) (a b : Nat) (d : Array (List UInt8)) (w : World) (S : St E w d) (hab : a ≤ b) (hb : b ≤ E.n) :
    Calls Try.prog 40 #[.slice (some ⟨E.g, 0, none⟩) E.n E.cap, .int .i64 a, .int .i64 b, .func (.func 29) #[.pointer (some ⟨E.b, 0, none⟩)] #[]] w fun x w' => x = .returned (.tuple #[]) ∧ St E w' (Sort.insertionSort E.lt d a b) := by
  have hnm := ok.nm
  have mixed := mixedO
  have HK := Lib.hid ok
  have HS := Lib.hid S
  clear ok S
  go_enter Try.func40, Try.ntmps40
  go_wp2_with fail
  go_loopw [8] (fun vi wr => ∃ (i : Nat) (dk : Array (List UInt8)), vi = .int .i64 i ∧ a < i ∧ i ≤ b + 1 ∧ Hid (St E wr dk) ∧ Hid (Sort.insOuter E.lt a b i dk = Sort.insertionSort E.lt d a b)) (fun vi _ => b + 1 - (intOf vi).toNat)
  case atStart => exact ⟨a + 1, d, by go_num, by omega, by omega, HS, Lib.hid rfl⟩
  case round =>
    clear HS
    obtain ⟨i, dk, rfl, hai, hib, SK, HO⟩ := hrel
    by_cases hlt : i < b
    · have hltz : (i : Int) < (b : Int) := by omega
      have hw1 : IntKind.i64.wrap ((i : Int) + 1) = (i : Int) + 1 := by simp only [IntKind.wrap_i64]; omega
      go_wp2_with fail
      go_loopw [9] (fun vj wr2 => ∃ (x : Int) (j : Nat) (dj : Array (List UInt8)), vj = .int .i64 x ∧ Hid (x = (j : Int)) ∧ Hid (a ≤ j) ∧ Hid (j ≤ i) ∧ Hid (St E wr2 dj) ∧ Hid (Sort.insInner E.lt a j dj = Sort.insInner E.lt a i dk)) (fun vj _ => (intOf vj).toNat)
      case atStart => exact ⟨_, i, dk, rfl, Lib.hid rfl, Lib.hid (by omega), Lib.hid (Nat.le_refl _), SK, Lib.hid rfl⟩
      case round =>
        clear SK
        obtain ⟨x, j, dj, rfl, HX, HJA, HJI, SJ, HI⟩ := hrel
        have HOUT : Hid ((Sort.insInner E.lt a j dj = dj) → Sort.insOuter E.lt a b (i + 1) dj = Sort.insertionSort E.lt d a b) := Lib.hid fun e => by rw [← HO.out, insOuter_yes hlt, ← HI.out, e]
        by_cases hja : a < j
        · have hx : (a : Int) < x := by have := HX.out; omega
          have hd : decide (x > (a : Int)) = true := decide_eq_true hx
          obtain ⟨j', HJ⟩ : ∃ j', Hid (j = j' + 1) := ⟨j - 1, Lib.hid (by omega)⟩
          have HJN : Hid (j < E.n) := Lib.hid (by have := HJI.out; omega)
          obtain ⟨k0, HK0⟩ : ∃ k, Hid (k = j) := ⟨_, Lib.hid rfl⟩
          obtain ⟨k1, HK1⟩ : ∃ k, Hid (k = j') := ⟨_, Lib.hid rfl⟩
          obtain ⟨y, HY⟩ : ∃ y : Int, Hid (y = x - 1) := ⟨_, Lib.hid rfl⟩
          have wy : IntKind.i64.wrap (x - 1) = y := by have := HX.out; have := HY.out; have := HJN.out; simp only [IntKind.wrap_i64]; omega
          have tx : x.toNat = k0 := by have := HX.out; have := HK0.out; omega
          have ty : y.toNat = k1 := by have := HX.out; have := HY.out; have := HK1.out; have := HJ.out; omega
          have px : 0 ≤ x := by omega
          have py : 0 ≤ y := by have := HX.out; have := HY.out; omega
          have bx : x < (E.n : Int) := by have := HX.out; have := HJN.out; omega
          have byy : y < (E.n : Int) := by have := HX.out; have := HY.out; have := HJN.out; omega
          obtain ⟨X, HXV⟩ : ∃ X, Hid (X = dj[j]!) := ⟨_, Lib.hid rfl⟩
          obtain ⟨Y, HYV⟩ : ∃ Y, Hid (Y = dj[j']!) := ⟨_, Lib.hid rfl⟩
          obtain ⟨S, HS0, HSE, HKP⟩ := SJ.out.cls
          have lx : ∀ p : InS S, p.W.cell? ⟨E.g, k0, none⟩ = some (.string (Str X)) := fun p => by rw [HK0.out, HXV.out]; exact (HSE.out _ p.h).c HJN.out
          have ly : ∀ p : InS S, p.W.cell? ⟨E.g, k1, none⟩ = some (.string (Str Y)) := fun p => by rw [HK1.out, HYV.out]; exact (HSE.out _ p.h).c (by have := HJN.out; have := HJ.out; omega)
          have HC : Hid (∀ W, S W → _) := Lib.hid fun W h => (HSE.out W h).cmpB HK.out X Y (by rw [HXV.out]; exact SJ.out.kl _ HJN.out) (by rw [HYV.out]; exact SJ.out.kl _ (by have := HJN.out; have := HJ.out; omega))
          have hne : Nonempty (InS S) := ⟨⟨_, HS0.out⟩⟩
          have HLT : Hid (E.lt dj[j' + 1]! dj[j']! = decide (cfE E.l X Y < 0)) := Lib.hid (by rw [HXV.out, HYV.out, HJ.out]; rfl)
          generalize cfE E.l X Y = c at HC HLT
          by_cases hv : c < 0
          · have hv1 : decide (c < 0) = true := decide_eq_true hv
            have HI2 : Hid (Sort.insInner E.lt a j' (Sort.swp dj (j' + 1) j') = Sort.insInner E.lt a i dk) := Lib.hid (by rw [← HI.out, HJ.out, insInner_yes (by have := HJ.out; omega) (by rw [HLT.out]; exact hv1)])
            go_wp2_with fail
            refine wp_region_inS S (by kernel_rfl) (by kernel_rfl) HS0.out ?_
            repeat (go_big_quiet_step (exact Calls.inS HKP.out _ HC.out))
            refine wpQuiet_nil ?_
            rintro w2 ⟨⟨W2, hS2⟩, rfl⟩
            have S2 := Lib.hid (HSE.out _ hS2)
            clear hS2 hne lx ly HS0
            have l1 : w2.cell? ⟨E.g, k0, none⟩ = some (.string (Str X)) := by rw [HK0.out, HXV.out]; exact S2.out.c HJN.out
            have l2 : w2.cell? ⟨E.g, k1, none⟩ = some (.string (Str Y)) := by rw [HK1.out, HYV.out]; exact S2.out.c (by have := HJN.out; have := HJ.out; omega)
            have f1 : w2.frozen? ⟨E.g, k0, none⟩ = false := S2.out.f _
            have f2 : w2.frozen? ⟨E.g, k1, none⟩ = false := S2.out.f _
            obtain ⟨u, l3⟩ := S2.out.c2 (i := k0) (j := k1) (by rw [HK0.out]; exact HJN.out) (by rw [HK1.out]; have := HJN.out; have := HJ.out; omega) (.string (Str Y))
            have S3 : Hid (St E ((w2.setCell ⟨E.g, k0, none⟩ (.string (Str Y))).setCell ⟨E.g, k1, none⟩ (.string (Str X))).drew (Sort.swp dj (j' + 1) j')) := Lib.hid (by
              have := S2.out.swap (i := k0) (j := k1) (by rw [HK0.out]; exact HJN.out) (by rw [HK1.out]; have := HJN.out; have := HJ.out; omega)
              rw [HYV.out, HXV.out, ← HJ.out, ← HK0.out, ← HK1.out]; exact this)
            go_wp2_with fail
            go_region
            clear l1 l2 f1 f2 l3
            generalize World.drew _ = w3 at S3 ⊢
            go_wp2
            go_roundw
            case rel => exact ⟨y, j', _, rfl, Lib.hid (by have := HX.out; have := HY.out; have := HJ.out; omega), Lib.hid (by have := HJ.out; omega), Lib.hid (by have := HJI.out; have := HJ.out; omega), S3, HI2⟩
            case measure => have := HX.out; have := HY.out; simp only [intOf]; omega
          · have hv1 : decide (c < 0) = false := decide_eq_false hv
            have HE := Lib.hid (HOUT.out (by rw [HJ.out]; exact insInner_no (by rw [HLT.out]; exact hv1)))
            go_wp2_with fail
            refine wp_region_inS S (by kernel_rfl) (by kernel_rfl) HS0.out ?_
            repeat (go_big_quiet_step (exact Calls.inS HKP.out _ HC.out))
            refine wpQuiet_nil ?_
            rintro w2 ⟨⟨W2, hS2⟩, rfl⟩
            have S2 := Lib.hid (HSE.out _ hS2)
            clear hS2 hne lx ly HS0
            go_wp2
            go_roundw
            case rel => exact ⟨i + 1, dj, by go_num, by omega, by omega, S2, HE⟩
            case measure => simp [intOf]; omega
        · have hj : j = a := by have := HJA.out; omega
          have hx : ¬ (x > (a : Int)) := by have := HX.out; omega
          have hd : decide (x > (a : Int)) = false := decide_eq_false hx
          have HE := Lib.hid (HOUT.out (by rw [hj]; exact insInner_at _ _))
          clear hj
          obtain ⟨S, HS0, HSE, HKP⟩ := SJ.out.cls
          have hne : Nonempty (InS S) := ⟨⟨_, HS0.out⟩⟩
          go_wp2_with fail
          refine wp_region_inS S (by kernel_rfl) (by kernel_rfl) HS0.out ?_
          repeat (go_big_quiet_step (fail))
          refine wpQuiet_nil ?_
          rintro w2 ⟨⟨W2, hS2⟩, rfl⟩
          have S2 := Lib.hid (HSE.out _ hS2)
          clear hS2 hne HS0
          go_wp2
          go_roundw
          case rel => exact ⟨i + 1, dj, by go_num, by omega, by omega, S2, HE⟩
          case measure => simp [intOf]; omega
    · have hltz : ¬ (i : Int) < (b : Int) := by omega
      go_wp2
      go_end0
      exact ⟨rfl, by rw [← HO.out, insOuter_no hlt]; exact SK.out⟩
end Go.Proofs.Ytiegeejbnplhdaa
