/-
  Texts joined: IgC, IgP, MgP.
-/
import Derived.Test.YtgpccgcppbdlpaaIgB
import Derived.Test.YtgpccgcppbdlpaaMg22
import Derived.Test.YtgpccgcppbdlpaaMgA
/-
  The contract of igmp's Same.
-/
namespace Go.Proofs.Ytgpccgcppbdlpaa
open Go.RowKit
set_option linter.unusedVariables false
set_option linter.unusedSimpArgs false
attribute [local go_sem ↓] ld_addr
attribute [local go_sem] ldr_addr row?_drewN_eq row?_drew_eq

set_option maxRecDepth 100000 in
set_option maxHeartbeats 4000000 in
theorem same8_any (ca cb : List Value) (a b : TK) (w : World) (ha : Tks w ca a) (hb : Tks w cb b) : Calls Try.prog 43 #[.agg ca.toArray, .agg cb.toArray] w fun x w' => x = .returned (.bool (decide (a = b))) ∧ Below w.heap.size w w' := by
  obtain ⟨oa, ua, va, rfl, sa, ra⟩ := ha
  obtain ⟨ob, ub, vb, rfl, sb, rb⟩ := hb
  have H0 := Lib.hid (T2.made w a b ua va ub vb oa ob)
  have HA := Lib.hid (fun W (h : Below w.heap.size w W) => equal8_any ua ub a.src b.src W (sa.below h) (sb.below h))
  have HR := Lib.hid (fun W (h : Below w.heap.size w W) => equalf8_any va vb a.rcs b.rcs W (ra.below h) (rb.below h))
  have q := fun w0 => eq_ad a.g b.g oa ob w0
  obtain ⟨R, hR⟩ : ∃ R, R = decide (a = b) := ⟨_, rfl⟩
  rw [← hR]
  have HDD := Lib.hid hR
  clear hR oa ob sa sb ra rb
  obtain ⟨a0, a1, a2, a3, a4, a5, a6, a7, a8, a9⟩ := a
  obtain ⟨b0, b1, b2, b3, b4, b5, b6, b7, b8, b9⟩ := b
  simp only at q HA HR
  have HCL : Hid (∀ W, T2 w W ⟨a0, a1, a2, a3, a4, a5, a6, a7, a8, a9⟩ ⟨b0, b1, b2, b3, b4, b5, b6, b7, b8, b9⟩ ua va ub vb → W.cell? ⟨w.heap.size, 0, none⟩ = some (.bool a0) ∧ W.cell? ⟨w.heap.size + 1, 0, none⟩ = some (.bool b0) ∧ W.cell? ⟨w.heap.size, 1, none⟩ = some (.int .i64 a1) ∧ W.cell? ⟨w.heap.size + 1, 1, none⟩ = some (.int .i64 b1) ∧ W.cell? ⟨w.heap.size, 2, none⟩ = some (.int .i64 a2) ∧ W.cell? ⟨w.heap.size + 1, 2, none⟩ = some (.int .i64 b2) ∧ W.cell? ⟨w.heap.size, 3, none⟩ = some (.int .i64 a3) ∧ W.cell? ⟨w.heap.size + 1, 3, none⟩ = some (.int .i64 b3) ∧ row? W w.heap.size 4 17 = some (adC a4) ∧ row? W (w.heap.size + 1) 4 17 = some (adC b4) ∧ W.cell? ⟨w.heap.size, 21, none⟩ = some (.bool a5) ∧ W.cell? ⟨w.heap.size + 1, 21, none⟩ = some (.bool b5) ∧ W.cell? ⟨w.heap.size, 22, none⟩ = some (.int .i64 a6) ∧ W.cell? ⟨w.heap.size + 1, 22, none⟩ = some (.int .i64 b6) ∧ W.cell? ⟨w.heap.size, 23, none⟩ = some (.int .i64 a7) ∧ W.cell? ⟨w.heap.size + 1, 23, none⟩ = some (.int .i64 b7)) := Lib.hid fun W h => ⟨h.1.v6, h.2.1.v6, h.1.ver, h.2.1.ver, h.1.kind, h.2.1.kind, h.1.resp, h.2.1.resp, h.1.rg, h.2.1.rg, h.1.quiet, h.2.1.quiet, h.1.rob, h.2.1.rob, h.1.every, h.2.1.every⟩
  have HCM : Hid (∀ W, T2 w W ⟨a0, a1, a2, a3, a4, a5, a6, a7, a8, a9⟩ ⟨b0, b1, b2, b3, b4, b5, b6, b7, b8, b9⟩ ua va ub vb → W.cell? ⟨w.heap.size, 24, none⟩ = some ua ∧ W.cell? ⟨w.heap.size + 1, 24, none⟩ = some ub ∧ W.cell? ⟨w.heap.size, 25, none⟩ = some va ∧ W.cell? ⟨w.heap.size + 1, 25, none⟩ = some vb ∧ Below w.heap.size w W) := Lib.hid fun W h => ⟨h.1.us, h.2.1.us, h.1.ur, h.2.1.ur, h.2.2⟩
  go_enter Try.func43, Try.ntmps43
  go_upto_region 1 with (fail)
  generalize (w.alloc (.cells (tkC _ ua va).toArray 28)).alloc (.cells (tkC _ ub vb).toArray 28) = W at H0 ⊢
  obtain ⟨c0, d0, c1, d1, c2, d2, c3, d3, c4, d4, c5, d5, c6, d6, c7, d7⟩ := HCL.out _ H0.out
  clear HCL
  by_cases e0 : a0 = b0
  · have t0 : (a0 == b0) = true := by simpa using e0
    by_cases e1 : a1 = b1
    · have t1 : (a1 == b1) = true := by simpa using e1
      by_cases e2 : a2 = b2
      · have t2 : (a2 == b2) = true := by simpa using e2
        by_cases e3 : a3 = b3
        · have t3 : (a3 == b3) = true := by simpa using e3
          by_cases e4 : a4 = b4
          · rw [decide_eq_true e4] at q
            generalize adC a4 = A at *
            generalize adC b4 = B at *
            by_cases e5 : a5 = b5
            · have t5 : (a5 == b5) = true := by simpa using e5
              by_cases e6 : a6 = b6
              · have t6 : (a6 == b6) = true := by simpa using e6
                by_cases e7 : a7 = b7
                · have t7 : (a7 == b7) = true := by simpa using e7
                  obtain ⟨x1, y1, x2, y2, hbW⟩ := HCM.out _ H0.out
                  have HA2 := Lib.hid (HA.out W hbW)
                  by_cases e8 : a8 = b8
                  · rw [decide_eq_true e8] at HA2
                    have HR2 := Lib.hid (fun d => HR.out (W.drewN d) (bdrewN hbW d))
                    have HV := Lib.hid (show R = decide (a9 = b9) by rw [HDD.out, e0, e1, e2, e3, e4, e5, e6, e7, e8, Bool.eq_iff_iff]; simp)
                    have HBW := Lib.hid hbW
                    clear e0 e1 e2 e3 e4 e5 e6 e7 e8 hbW HA HR HDD
                    generalize decide (a9 = b9) = r9 at *
                    go_wp2_with (first
                      | (go_at_call 70; (with_reducible refine (HA2.out).mono ?_); rintro x w1 ⟨rfl, d1, rfl⟩)
                      | (go_at_call 71; (with_reducible refine (HR2.out _).mono ?_); rintro x w2 ⟨rfl, hb2⟩))
                    go_ret
                    exact ⟨ret_bool8 (by rw [HV.out]), bstep (bdrewN HBW.out _) hb2⟩
                  · rw [decide_eq_false e8] at HA2
                    have HV := Lib.hid (show R = false by rw [HDD.out, decide_eq_false_iff_not]; intro h; simp only [TK.mk.injEq] at h; exact e8 h.2.2.2.2.2.2.2.2.1)
                    have HBW := Lib.hid hbW
                    clear e0 e1 e2 e3 e4 e5 e6 e7 e8 hbW HA HR HDD
                    go_wp2_with (go_at_call 70; (with_reducible refine (HA2.out).mono ?_); rintro x w1 ⟨rfl, d1, rfl⟩)
                    go_ret
                    exact ⟨ret_bool8 (by rw [HV.out]), bdrewN HBW.out _⟩
                · have t7 : (a7 == b7) = false := by simpa using e7
                  have HV := Lib.hid (show R = false by rw [HDD.out, decide_eq_false_iff_not]; intro h; simp only [TK.mk.injEq] at h; exact e7 h.2.2.2.2.2.2.2.1)
                  go_wp2
                  go_ret
                  exact ⟨ret_bool8 (by rw [HV.out]), H0.out.2.2⟩
              · have t6 : (a6 == b6) = false := by simpa using e6
                have HV := Lib.hid (show R = false by rw [HDD.out, decide_eq_false_iff_not]; intro h; simp only [TK.mk.injEq] at h; exact e6 h.2.2.2.2.2.2.1)
                go_wp2
                go_ret
                exact ⟨ret_bool8 (by rw [HV.out]), H0.out.2.2⟩
            · have t5 : (a5 == b5) = false := by simpa using e5
              have HV := Lib.hid (show R = false by rw [HDD.out, decide_eq_false_iff_not]; intro h; simp only [TK.mk.injEq] at h; exact e5 h.2.2.2.2.2.1)
              go_wp2
              go_ret
              exact ⟨ret_bool8 (by rw [HV.out]), H0.out.2.2⟩
          · rw [decide_eq_false e4] at q
            generalize adC a4 = A at *
            generalize adC b4 = B at *
            have HV := Lib.hid (show R = false by rw [HDD.out, decide_eq_false_iff_not]; intro h; simp only [TK.mk.injEq] at h; exact e4 h.2.2.2.2.1)
            go_wp2
            go_ret
            exact ⟨ret_bool8 (by rw [HV.out]), H0.out.2.2⟩
        · have t3 : (a3 == b3) = false := by simpa using e3
          have HV := Lib.hid (show R = false by rw [HDD.out, decide_eq_false_iff_not]; intro h; simp only [TK.mk.injEq] at h; exact e3 h.2.2.2.1)
          go_wp2
          go_ret
          exact ⟨ret_bool8 (by rw [HV.out]), H0.out.2.2⟩
      · have t2 : (a2 == b2) = false := by simpa using e2
        have HV := Lib.hid (show R = false by rw [HDD.out, decide_eq_false_iff_not]; intro h; simp only [TK.mk.injEq] at h; exact e2 h.2.2.1)
        go_wp2
        go_ret
        exact ⟨ret_bool8 (by rw [HV.out]), H0.out.2.2⟩
    · have t1 : (a1 == b1) = false := by simpa using e1
      have HV := Lib.hid (show R = false by rw [HDD.out, decide_eq_false_iff_not]; intro h; simp only [TK.mk.injEq] at h; exact e1 h.2.1)
      go_wp2
      go_ret
      exact ⟨ret_bool8 (by rw [HV.out]), H0.out.2.2⟩
  · have t0 : (a0 == b0) = false := by simpa using e0
    have HV := Lib.hid (show R = false by rw [HDD.out, decide_eq_false_iff_not]; intro h; simp only [TK.mk.injEq] at h; exact e0 h.1)
    go_wp2
    go_ret
    exact ⟨ret_bool8 (by rw [HV.out]), H0.out.2.2⟩
end Go.Proofs.Ytgpccgcppbdlpaa

/-
  Whether a talk is good, as the program asks it: what its kind asks, and that it is nothing but the fields that its kind has. Plain.
-/
namespace Go.Proofs.Ytgpccgcppbdlpaa
open Go.RowKit
set_option linter.unusedVariables false
set_option linter.unusedSimpArgs false

theorem len0 {α : Type} (l : List α) : (0 < l.length) ↔ l ≠ [] := List.length_pos_iff
end Go.Proofs.Ytgpccgcppbdlpaa

/-
  Whether a talk of MLD is good, as the program asks it: what its kind asks, and that it is nothing but the fields that its kind has. Plain.
-/
namespace Go.Proofs.Ytgpccgcppbdlpaa
open Go.RowKit
set_option linter.unusedVariables false
set_option linter.unusedSimpArgs false

theorem g9_11 (v6 : Bool) (resp : Int) (g : AD) (q : Bool) (rob every : Int) (src : List AD) (rcs : List RC) :
    good9 ⟨v6, 1, 1, resp, g, q, rob, every, src, rcs⟩ = ((decide (0 ≤ resp ∧ resp ≤ 65535) && targ9 g) && decide ((⟨v6, 1, 1, resp, g, q, rob, every, src, rcs⟩ : TK) = ⟨true, 1, 1, resp, g, false, 0, 0, [], []⟩)) := by
  rw [Bool.eq_iff_iff]
  simp only [Bool.and_eq_true, decide_eq_true_iff, TK.mk.injEq, true_and]
  unfold good9 targ9
  simp only [len0]
  cases v6 <;> cases q <;> simp <;> (try split) <;> (try simp_all) <;> (try split) <;> (try simp_all) <;> (try omega) <;> (try grind)
theorem g9_12 (v6 : Bool) (ver kind : Int) (h : ver = 1 ∧ kind = 2 ∨ ver = 1 ∧ kind = 3) (resp : Int) (g : AD) (q : Bool) (rob every : Int) (src : List AD) (rcs : List RC) :
    good9 ⟨v6, ver, kind, resp, g, q, rob, every, src, rcs⟩ = (grp9 g && decide ((⟨v6, ver, kind, resp, g, q, rob, every, src, rcs⟩ : TK) = ⟨true, ver, kind, 0, g, false, 0, 0, [], []⟩)) := by
  rw [Bool.eq_iff_iff]
  simp only [Bool.and_eq_true, decide_eq_true_iff, TK.mk.injEq, true_and]
  unfold good9
  simp only [len0]
  rcases h with ⟨rfl, rfl⟩ | ⟨rfl, rfl⟩ <;> cases v6 <;> cases q <;> simp <;> (try split) <;> (try simp_all) <;> (try split) <;> (try simp_all) <;> (try omega) <;> (try grind)
theorem g9_21 (v6 : Bool) (resp : Int) (g : AD) (q : Bool) (rob every : Int) (src : List AD) (rcs : List RC) :
    good9 ⟨v6, 2, 1, resp, g, q, rob, every, src, rcs⟩ = ((((((exactN resp 4096 65535 && exactN every 16 255) && decide (0 ≤ rob ∧ rob ≤ 7)) && targ9 g) && srcs9 src) && (!zer9 g || decide (src.length = 0))) && decide ((⟨v6, 2, 1, resp, g, q, rob, every, src, rcs⟩ : TK) = ⟨true, 2, 1, resp, g, q, rob, every, src, []⟩)) := by
  have hx : exactN resp 4096 65535 = true → 0 ≤ resp := fun h => (exactN_parts h).1
  rw [Bool.eq_iff_iff]
  simp only [Bool.and_eq_true, decide_eq_true_iff, TK.mk.injEq, true_and]
  unfold good9 targ9
  simp only [len0]
  cases v6 <;> simp <;> (try split) <;> (try simp_all) <;> (try split) <;> (try simp_all) <;> (try omega) <;> (try grind)
theorem zeroA_eq (g : AD) : decide (g = zeroA) = (decide (g.1 = false) && decide (g.2 = z16)) := by
  obtain ⟨v, l⟩ := g
  unfold zeroA z16
  rw [Bool.eq_iff_iff]
  simp
theorem g9_22 (v6 : Bool) (resp : Int) (g : AD) (q : Bool) (rob every : Int) (src : List AD) (rcs : List RC) :
    good9 ⟨v6, 2, 2, resp, g, q, rob, every, src, rcs⟩ = (recs9 rcs && decide ((⟨v6, 2, 2, resp, g, q, rob, every, src, rcs⟩ : TK) = ⟨true, 2, 2, 0, zeroA, false, 0, 0, [], rcs⟩)) := by
  have hz : g = zeroA ↔ (g.1 = false ∧ g.2 = z16) := by
    have := zeroA_eq g
    rw [Bool.eq_iff_iff] at this
    simpa using this
  rw [Bool.eq_iff_iff]
  simp only [Bool.and_eq_true, decide_eq_true_iff, TK.mk.injEq, true_and, hz]
  unfold good9 recs9
  simp only [len0]
  cases v6 <;> cases q <;> simp <;> (try split) <;> (try simp_all) <;> (try split) <;> (try simp_all) <;> (try omega) <;> (try grind)
theorem g9_no (v6 : Bool) (ver kind : Int) (h : ¬ (ver = 1 ∧ kind = 1) ∧ ¬ (ver = 1 ∧ kind = 2) ∧ ¬ (ver = 1 ∧ kind = 3) ∧ ¬ (ver = 2 ∧ kind = 1) ∧ ¬ (ver = 2 ∧ kind = 2)) (resp : Int) (g : AD) (q : Bool) (rob every : Int) (src : List AD) (rcs : List RC) :
    good9 ⟨v6, ver, kind, resp, g, q, rob, every, src, rcs⟩ = false := by
  unfold good9
  rw [if_pos]
  simp only
  by_cases hv : v6 = true
  · omega
  · exact Or.inl (by simpa using hv)
end Go.Proofs.Ytgpccgcppbdlpaa

