/-
  The pivot of the library's sort.
-/
import Derived.Test.YtiegeejbnplhdaaSoK
namespace Go.Proofs.Ytiegeejbnplhdaa
open Go.RowKit
set_option linter.unusedVariables false
set_option linter.unusedSimpArgs false

def hintI : Sort.Hint → Int
  | .unknown => 0
  | .increasing => 1
  | .decreasing => 2
def hintOf (s : Nat) : Sort.Hint := if s = 0 then .increasing else if s = 12 then .decreasing else .unknown
variable {E : SE} {w : World} {d : Array (List UInt8)}
theorem St.made (h : St E w d) (ok : E.Ok) : StC E (w.alloc (.cells #[.int .i64 0] 3)) d w.heap.size 0 := by
  obtain ⟨cur, h1, _⟩ := ok.row
  exact ⟨h.below (bbV _ _), ObjAt.made _ _ _, h.gr.size, (Array.getElem?_eq_some_iff.1 h1).1⟩
theorem pivot_eq {lt : List UInt8 → List UInt8 → Bool} (d : Array (List UInt8)) (a b : Nat) :
    (b - a < 8 → Sort.choosePivot lt d a b = (a + (b - a) / 4 * 2, hintOf 0)) ∧
    (¬ b - a < 8 → b - a < 50 → Sort.choosePivot lt d a b = ((Sort.median lt d (a + (b - a) / 4 * 1) (a + (b - a) / 4 * 2) (a + (b - a) / 4 * 3) 0).1, hintOf (Sort.median lt d (a + (b - a) / 4 * 1) (a + (b - a) / 4 * 2) (a + (b - a) / 4 * 3) 0).2)) ∧
    (¬ b - a < 50 → ∀ i j k : Nat × Nat, Sort.medianAdjacent lt d (a + (b - a) / 4 * 1) 0 = i → Sort.medianAdjacent lt d (a + (b - a) / 4 * 2) i.2 = j → Sort.medianAdjacent lt d (a + (b - a) / 4 * 3) j.2 = k →
      Sort.choosePivot lt d a b = ((Sort.median lt d i.1 j.1 k.1 k.2).1, hintOf (Sort.median lt d i.1 j.1 k.1 k.2).2)) := by
  refine ⟨fun h => ?_, fun h1 h2 => ?_, fun h i j k e1 e2 e3 => ?_⟩
  · have h1 : ¬ b - a ≥ 8 := by omega
    unfold Sort.choosePivot hintOf
    simp only [h1, if_false]
  · have h3 : b - a ≥ 8 := by omega
    have h4 : ¬ b - a ≥ 50 := by omega
    unfold Sort.choosePivot hintOf
    simp only [h3, h4, if_true, if_false]
  · have h3 : b - a ≥ 8 := by omega
    have h4 : b - a ≥ 50 := by omega
    subst e1 e2 e3
    unfold Sort.choosePivot hintOf
    simp only [h3, h4, if_true]
set_option maxRecDepth 1000000 in
set_option maxHeartbeats 8000000 in
theorem pivot_any (E : SE) (ok : E.Ok) (a b : Nat) (xa xb : Int) (ea : xa = a) (eb : xb = b) (d : Array (List UInt8)) (w : World) (S0 : St E w d) (hab : a < b) (hb : b ≤ E.n) :
    Calls Try.prog 43 #[.slice (some ⟨E.g, 0, none⟩) E.n E.cap, .int .i64 xa, .int .i64 xb, .func (.func 29) #[.pointer (some ⟨E.b, 0, none⟩)] #[]] w fun x w' => x = .returned (.tuple #[.int .i64 ((Sort.choosePivot E.lt d a b).1 : Nat), .int .i64 (hintI (Sort.choosePivot E.lt d a b).2)]) ∧ St E w' d := by
  have HNM := Lib.hid ok.nm
  have HMD := Lib.hid (fun a b e cb s xa xb xe w h1 h2 h3 h4 h5 h6 h7 h8 => median_any E ok a b e cb s xa xb xe h1 h2 h3 d w h4 h5 h6 h7 h8)
  have HMA := Lib.hid (fun a cb s xa w h1 h2 h3 h4 h5 => medAdj_any E ok a cb s xa h1 d w h2 h3 h4 h5)
  have SC := Lib.hid (S0.made ok)
  obtain ⟨he1, he2, he3⟩ := pivot_eq (lt := E.lt) d a b
  have HE1 := Lib.hid he1
  have HE2 := Lib.hid he2
  have HE3 := Lib.hid he3
  obtain ⟨R, HRE⟩ : ∃ R, Hid (Sort.choosePivot E.lt d a b = R) := ⟨_, Lib.hid rfl⟩
  rw [HRE.out] at HE1 HE2 HE3 ⊢
  clear ok S0 he1 he2 he3 HRE
  obtain ⟨l, HL⟩ : ∃ l, Hid (b - a = l) := ⟨_, Lib.hid rfl⟩
  rw [HL.out] at HE1 HE2 HE3
  have HAB := Lib.hid (show a + l = b by have := HL.out; omega)
  have HBN := Lib.hid hb
  have HL0 := Lib.hid (show 0 < l by have := HL.out; omega)
  obtain ⟨xl, HXL, wl⟩ := wrapL (xb - xa) (l : Int) (by have := HAB.out; omega) (by omega) (by have := HNM.out; have := HBN.out; have := HAB.out; omega)
  obtain ⟨q, HQ⟩ : ∃ q, Hid (l / 4 = q) := ⟨_, Lib.hid rfl⟩
  rw [HQ.out] at HE1 HE2 HE3
  have HQL := Lib.hid (show 4 * q ≤ l ∧ l < 4 * q + 4 by have := HQ.out; omega)
  obtain ⟨xq, HXQ, wq⟩ := wrapL (xl.tdiv 4) (q : Int) (by rw [HXL.out, ← HQ.out]; rfl) (by omega) (by have := HNM.out; have := HBN.out; have := HAB.out; have := HQL.out; omega)
  obtain ⟨xq2, HXQ2, wq2⟩ := wrapL (xq * 2) ((q * 2 : Nat) : Int) (by rw [HXQ.out]; omega) (by omega) (by have := HNM.out; have := HBN.out; have := HAB.out; have := HQL.out; omega)
  obtain ⟨xq3, HXQ3, wq3⟩ := wrapL (xq * 3) ((q * 3 : Nat) : Int) (by rw [HXQ.out]; omega) (by omega) (by have := HNM.out; have := HBN.out; have := HAB.out; have := HQL.out; omega)
  have wq1 : IntKind.i64.wrap xq = xq := by have := HXQ.out; simp only [IntKind.wrap_i64]; have := HNM.out; have := HBN.out; have := HAB.out; have := HQL.out; omega
  have HXA := Lib.hid ea
  obtain ⟨xi, HXI, wi⟩ := wrapL (xa + xq) ((a + q * 1 : Nat) : Int) (by rw [HXQ.out, ea]; omega) (by omega) (by have := HNM.out; have := HBN.out; have := HAB.out; have := HQL.out; omega)
  obtain ⟨xj, HXJ, wj⟩ := wrapL (xa + xq2) ((a + q * 2 : Nat) : Int) (by rw [HXQ2.out, ea]; omega) (by omega) (by have := HNM.out; have := HBN.out; have := HAB.out; have := HQL.out; omega)
  obtain ⟨xk, HXK, wk⟩ := wrapL (xa + xq3) ((a + q * 3 : Nat) : Int) (by rw [HXQ3.out, ea]; omega) (by omega) (by have := HNM.out; have := HBN.out; have := HAB.out; have := HQL.out; omega)
  have HB1 : Hid (a + q * 1 < E.n ∧ a + q * 2 < E.n ∧ a + q * 3 < E.n) := Lib.hid (by have := HQL.out; have := HAB.out; have := HBN.out; have := HL0.out; omega)
  clear ea eb hab hb
  by_cases h8 : l < 8
  · have hd : decide (xl ≥ 8) = false := decide_eq_false (by rw [HXL.out]; omega)
    have hd' : ¬ (8 : Int) ≤ xl := by rw [HXL.out]; omega
    have HR := Lib.hid (HE1.out h8)
    have c0 : (w.alloc (.cells #[.int .i64 0] 3)).cell? ⟨w.heap.size, 0, none⟩ = some (.int .i64 0) := SC.out.o.cell 0
    go_enter Try.func43, Try.ntmps43
    go_wp2
    refine bodyPost_ret (results_tmp2 rfl _ _ _) rfl ?_
    rw [HR.out]
    exact ⟨by rw [← HXJ.out]; rfl, SC.out.st⟩
  · have hd : decide (xl ≥ 8) = true := decide_eq_true (by rw [HXL.out]; omega)
    have hd' : (8 : Int) ≤ xl := by rw [HXL.out]; omega
    by_cases h50 : l < 50
    · have hf : decide (xl ≥ 50) = false := decide_eq_false (by rw [HXL.out]; omega)
      have hf' : ¬ (50 : Int) ≤ xl := by rw [HXL.out]; omega
      have C1 : Hid (Calls Try.prog 65 _ (w.alloc (.cells #[.int .i64 0] 3)) _) := Lib.hid (HMD.out _ _ _ _ 0 xi xj xk _ HXI.out HXJ.out HXK.out SC.out HB1.out.1 HB1.out.2.1 HB1.out.2.2 (by omega))
      have HR := Lib.hid (HE2.out h8 h50)
      obtain ⟨r, HRR⟩ : ∃ r, Hid (Sort.median E.lt d (a + q * 1) (a + q * 2) (a + q * 3) 0 = r) := ⟨_, Lib.hid rfl⟩
      rw [HRR.out] at C1 HR
      obtain ⟨r1, s⟩ := r
      simp only at C1 HR
      clear HRR
      by_cases s0 : s = 0
      · subst s0
        have HR2 : Hid (R = (r1, .increasing)) := HR
        clear HR
        go_enter Try.func43, Try.ntmps43
        go_wp2_with (first
          | (go_at_call 65; refine C1.out.mono ?_; rintro x w2 ⟨rfl, h1, _, _⟩; have HF := Lib.hid h1; have c0 := h1.o.cell 0; clear h1))
        refine bodyPost_ret (results_tmp2 rfl _ _ _) rfl ?_
        rw [HR2.out]
        exact ⟨rfl, HF.out.st⟩
      · by_cases s12 : s = 12
        · subst s12
          have HR2 : Hid (R = (r1, .decreasing)) := HR
          clear HR
          go_enter Try.func43, Try.ntmps43
          go_wp2_with (first
            | (go_at_call 65; refine C1.out.mono ?_; rintro x w2 ⟨rfl, h1, _, _⟩; have HF := Lib.hid h1; have c0 := h1.o.cell 0; clear h1))
          refine bodyPost_ret (results_tmp2 rfl _ _ _) rfl ?_
          rw [HR2.out]
          exact ⟨rfl, HF.out.st⟩
        · have HR2 : Hid (R = (r1, .unknown)) := Lib.hid (by have := HR.out; unfold hintOf at this; rwa [if_neg s0, if_neg s12] at this)
          have hs0 : ((s : Int) == 0) = false := by simpa using s0
          have hs12 : ((s : Int) == 12) = false := by
            have : ¬ (s : Int) = 12 := by omega
            simpa using this
          clear s0 s12
          clear HR
          go_enter Try.func43, Try.ntmps43
          go_wp2_with (first
            | (go_at_call 65; refine C1.out.mono ?_; rintro x w2 ⟨rfl, h1, _, _⟩; have HF := Lib.hid h1; have c0 := h1.o.cell 0; clear h1))
          refine bodyPost_ret (results_tmp2 rfl _ _ _) rfl ?_
          rw [HR2.out]
          exact ⟨rfl, HF.out.st⟩
    · have hf : decide (xl ≥ 50) = true := decide_eq_true (by rw [HXL.out]; omega)
      have hf' : (50 : Int) ≤ xl := by rw [HXL.out]; omega
      have HB2 : Hid (0 < a + q * 1 ∧ a + q * 1 + 1 < E.n ∧ 0 < a + q * 2 ∧ a + q * 2 + 1 < E.n ∧ 0 < a + q * 3 ∧ a + q * 3 + 1 < E.n) := Lib.hid (by have := HQL.out; have := HAB.out; have := HBN.out; omega)
      have A1 : Hid (∀ W, StC E W d w.heap.size 0 → _) := Lib.hid fun W h => HMA.out _ w.heap.size 0 xi W HXI.out h HB2.out.1 HB2.out.2.1 (by omega)
      obtain ⟨ri, HRI⟩ : ∃ r, Hid (Sort.medianAdjacent E.lt d (a + q * 1) 0 = r) := ⟨_, Lib.hid rfl⟩
      rw [HRI.out] at A1
      obtain ⟨i1, i2⟩ := ri
      simp only at A1
      have A2 : Hid (∀ W, StC E W d w.heap.size i2 → i2 ≤ 3 → _) := Lib.hid fun W h hi => HMA.out _ w.heap.size i2 xj W HXJ.out h HB2.out.2.2.1 HB2.out.2.2.2.1 (by omega)
      obtain ⟨rj, HRJ⟩ : ∃ r, Hid (Sort.medianAdjacent E.lt d (a + q * 2) i2 = r) := ⟨_, Lib.hid rfl⟩
      rw [HRJ.out] at A2
      obtain ⟨j1, j2⟩ := rj
      simp only at A2
      have A3 : Hid (∀ W, StC E W d w.heap.size j2 → j2 ≤ 6 → _) := Lib.hid fun W h hi => HMA.out _ w.heap.size j2 xk W HXK.out h HB2.out.2.2.2.2.1 HB2.out.2.2.2.2.2 (by omega)
      obtain ⟨rk, HRK⟩ : ∃ r, Hid (Sort.medianAdjacent E.lt d (a + q * 3) j2 = r) := ⟨_, Lib.hid rfl⟩
      rw [HRK.out] at A3
      obtain ⟨k1, k2⟩ := rk
      simp only at A3
      have C1 : Hid (∀ W, StC E W d w.heap.size k2 → i1 < E.n → j1 < E.n → k1 < E.n → k2 ≤ 9 → _) := Lib.hid fun W h h1 h2 h3 h4 => HMD.out i1 j1 k1 w.heap.size k2 _ _ _ W rfl rfl rfl h h1 h2 h3 (by omega)
      have HR := Lib.hid (HE3.out h50 _ _ _ HRI.out HRJ.out HRK.out)
      simp only at HR
      obtain ⟨r, HRR⟩ : ∃ r, Hid (Sort.median E.lt d i1 j1 k1 k2 = r) := ⟨_, Lib.hid rfl⟩
      rw [HRR.out] at C1 HR
      obtain ⟨r1, s⟩ := r
      simp only at C1 HR
      clear HRR HRI HRJ HRK
      by_cases s0 : s = 0
      · subst s0
        have HR2 : Hid (R = (r1, .increasing)) := HR
        clear HR
        go_enter Try.func43, Try.ntmps43
        go_wp2_with (first
          | (go_at_call 65; refine (C1.out _ S3.out.1 S1.out.2.1 S2.out.2.1 S3.out.2.1 S3.out.2.2).mono ?_; rintro x w5 ⟨rfl, h1, _, _⟩; have HF := Lib.hid h1; have c0 := h1.o.cell 0; clear h1)
          | (go_at_call 64; (with_reducible refine (A3.out _ S2.out.1 S2.out.2.2).mono ?_); rintro x w4 ⟨rfl, h1, h2, h3⟩; have S3 := Lib.hid (show StC E w4 d w.heap.size k2 ∧ k1 < E.n ∧ k2 ≤ 9 from ⟨h1, h2, by have := S2.out.2.2; omega⟩); clear h1 h2 h3)
          | (go_at_call 64; (with_reducible refine (A2.out _ S1.out.1 S1.out.2.2).mono ?_); rintro x w3 ⟨rfl, h1, h2, h3⟩; have S2 := Lib.hid (show StC E w3 d w.heap.size j2 ∧ j1 < E.n ∧ j2 ≤ 6 from ⟨h1, h2, by have := S1.out.2.2; omega⟩); clear h1 h2 h3)
          | (go_at_call 64; (with_reducible refine (A1.out _ SC.out).mono ?_); rintro x w2 ⟨rfl, h1, h2, h3⟩; have S1 := Lib.hid (show StC E w2 d w.heap.size i2 ∧ i1 < E.n ∧ i2 ≤ 3 from ⟨h1, h2, by omega⟩); clear h1 h2 h3))
        refine bodyPost_ret (results_tmp2 rfl _ _ _) rfl ?_
        rw [HR2.out]
        exact ⟨rfl, HF.out.st⟩
      · by_cases s12 : s = 12
        · subst s12
          have HR2 : Hid (R = (r1, .decreasing)) := HR
          clear HR
          go_enter Try.func43, Try.ntmps43
          go_wp2_with (first
            | (go_at_call 65; refine (C1.out _ S3.out.1 S1.out.2.1 S2.out.2.1 S3.out.2.1 S3.out.2.2).mono ?_; rintro x w5 ⟨rfl, h1, _, _⟩; have HF := Lib.hid h1; have c0 := h1.o.cell 0; clear h1)
            | (go_at_call 64; (with_reducible refine (A3.out _ S2.out.1 S2.out.2.2).mono ?_); rintro x w4 ⟨rfl, h1, h2, h3⟩; have S3 := Lib.hid (show StC E w4 d w.heap.size k2 ∧ k1 < E.n ∧ k2 ≤ 9 from ⟨h1, h2, by have := S2.out.2.2; omega⟩); clear h1 h2 h3)
            | (go_at_call 64; (with_reducible refine (A2.out _ S1.out.1 S1.out.2.2).mono ?_); rintro x w3 ⟨rfl, h1, h2, h3⟩; have S2 := Lib.hid (show StC E w3 d w.heap.size j2 ∧ j1 < E.n ∧ j2 ≤ 6 from ⟨h1, h2, by have := S1.out.2.2; omega⟩); clear h1 h2 h3)
            | (go_at_call 64; (with_reducible refine (A1.out _ SC.out).mono ?_); rintro x w2 ⟨rfl, h1, h2, h3⟩; have S1 := Lib.hid (show StC E w2 d w.heap.size i2 ∧ i1 < E.n ∧ i2 ≤ 3 from ⟨h1, h2, by omega⟩); clear h1 h2 h3))
          refine bodyPost_ret (results_tmp2 rfl _ _ _) rfl ?_
          rw [HR2.out]
          exact ⟨rfl, HF.out.st⟩
        · have HR2 : Hid (R = (r1, .unknown)) := Lib.hid (by have := HR.out; unfold hintOf at this; rwa [if_neg s0, if_neg s12] at this)
          have hs0 : ((s : Int) == 0) = false := by simpa using s0
          have hs12 : ((s : Int) == 12) = false := by
            have : ¬ (s : Int) = 12 := by omega
            simpa using this
          clear s0 s12
          clear HR
          go_enter Try.func43, Try.ntmps43
          go_wp2_with (first
            | (go_at_call 65; refine (C1.out _ S3.out.1 S1.out.2.1 S2.out.2.1 S3.out.2.1 S3.out.2.2).mono ?_; rintro x w5 ⟨rfl, h1, _, _⟩; have HF := Lib.hid h1; have c0 := h1.o.cell 0; clear h1)
            | (go_at_call 64; (with_reducible refine (A3.out _ S2.out.1 S2.out.2.2).mono ?_); rintro x w4 ⟨rfl, h1, h2, h3⟩; have S3 := Lib.hid (show StC E w4 d w.heap.size k2 ∧ k1 < E.n ∧ k2 ≤ 9 from ⟨h1, h2, by have := S2.out.2.2; omega⟩); clear h1 h2 h3)
            | (go_at_call 64; (with_reducible refine (A2.out _ S1.out.1 S1.out.2.2).mono ?_); rintro x w3 ⟨rfl, h1, h2, h3⟩; have S2 := Lib.hid (show StC E w3 d w.heap.size j2 ∧ j1 < E.n ∧ j2 ≤ 6 from ⟨h1, h2, by have := S1.out.2.2; omega⟩); clear h1 h2 h3)
            | (go_at_call 64; (with_reducible refine (A1.out _ SC.out).mono ?_); rintro x w2 ⟨rfl, h1, h2, h3⟩; have S1 := Lib.hid (show StC E w2 d w.heap.size i2 ∧ i1 < E.n ∧ i2 ≤ 3 from ⟨h1, h2, by omega⟩); clear h1 h2 h3))
          refine bodyPost_ret (results_tmp2 rfl _ _ _) rfl ?_
          rw [HR2.out]
          exact ⟨rfl, HF.out.st⟩
end Go.Proofs.Ytiegeejbnplhdaa
