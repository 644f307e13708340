/-
  SumParts: for every input the law returns true and leaves its arguments as they were. It is proved for all arguments, without a condition.
-/
import Derived.Test.YtogdbpickcnjaaaRefb
import Derived.Test.YtogdbpickcnjaaaOpen
import Derived.WalkKit
import Derived.ProofKit
import Derived.OpenShut
import Derived.ShutString
import Derived.ChangeOld
import Derived.Below
import Derived.Lib.SmallJoins
import Derived.Test.YtogdbpickcnjaaaRows
namespace Go.Proofs.Ytogdbpickcnjaaa.sumParts
open Go.ChangeShapes Go.WideShapes Go.ChangeAt Go.RowKit Go.Joins
open Go.ChangeMaps (open_string shut_string)
set_option linter.unusedVariables false

theorem own : ownKnob Try.prog.godebug = none := by kernel_rfl
theorem laidOut : laidOutB Try.prog = true := by kernel_rfl

--WALK
set_option maxHeartbeats 400000 in
theorem walk (w : World) (v0 : Value) {x0 : _} (w0 : strsS w [v0] x0) (a1 : Int) (w1 : (Lit.int .u64 a1).wf = true) :
    Calls Try.prog 3 #[v0, .int .u64 a1] w fun e w' => e = .returned (.bool true) ∧ Below w.heap.size w w' := by
  obtain ⟨b0, b1⟩ := bounds_u64 w1
  obtain ⟨n, rfl⟩ := Int.eq_ofNat_of_zero_le b0
  have hn : n ≤ 18446744073709551615 := by omega
  clear b0 b1 w1
  have h1 := fewL_flat x0 5
  have h2 := fewL_length x0 5
  have h3 : (fewL x0 5).flatten.length ≤ 1048576 := by omega
  have h4 : (fewL x0 5).length ≤ 1048576 := by omega
  clear h1 h2
  have hR := foldN_le (wsum (fewL x0 5).flatten)
  generalize hr : foldN (wsum (fewL x0 5).flatten) = R at hR
  have Hr := Lib.hid hr; clear hr
  have HF := Lib.hid (show foldN n = foldN n from rfl)
  generalize hf : foldN n = F at HF
  have Hf := Lib.hid hf; clear hf HF
  have W0 := Lib.hid w0; clear w0
  go_enter Try.func3, Try.ntmps3
  go_wp2_with fail
  refine (few_any v0 x0 _ W0.out).mono ?_
  rintro e wa ⟨r, rfl, own, bel⟩
  have Own := Lib.hid own; have Bel := Lib.hid bel; clear own bel
  go_wp2_with fail
  refine (all_own _ h3 h4 _ r _ Own.out).mono ?_
  rintro e w2 ⟨rfl, rfl⟩
  go_wp2_with fail
  refine (rsum_any _ h3 _).mono ?_
  rintro e w2 ⟨rfl, rfl⟩
  rw [Hr.out]
  clear Own
  have W1 := Lib.hid (stable_strsS.below Bel.out W0.out)
  go_wp2_with fail
  refine (few_any v0 x0 _ W1.out).mono ?_
  rintro e wb ⟨r2, rfl, own, bel⟩
  have Own := Lib.hid own; have Bel2 := Lib.hid (bstep Bel.out bel); clear own bel
  go_wp2_with fail
  refine (sum_own _ h3 h4 _ r2 _ Own.out).mono ?_
  rintro e w2 ⟨rfl, d2, rfl⟩
  rw [Hr.out]
  clear Own W1
  have Bel3 := Lib.hid (bdrewN Bel2.out d2)
  have W2 := Lib.hid (stable_strsS.below Bel3.out W0.out)
  go_wp2_with fail
  refine (few_any v0 x0 _ W2.out).mono ?_
  rintro e wc ⟨r3, rfl, own, bel⟩
  have Own := Lib.hid own; have Bel4 := Lib.hid (bstep Bel3.out bel); clear own bel
  go_wp2_with fail
  refine (check_own _ h3 h4 _ r3 _ Own.out).mono ?_
  rintro e w2 ⟨rfl, d3, rfl⟩
  rw [Hr.out]
  clear Own W2
  have Bel5 := Lib.hid (bdrewN Bel4.out d3)
  have W3 := Lib.hid (stable_strsS.below Bel5.out W0.out)
  have hsub : (((65535 - R : Nat) : Int) == 65535 - (R : Int)) = true := by simp; omega
  go_wp2_with fail
  refine (few_any v0 x0 _ W3.out).mono ?_
  rintro e wd ⟨r4, rfl, own, bel⟩
  have Own := Lib.hid own; have Bel6 := Lib.hid (bstep Bel5.out bel); clear own bel
  go_wp2_with fail
  refine (good_own _ h3 h4 _ r4 _ Own.out).mono ?_
  rintro e w2 ⟨rfl, d4, rfl⟩
  rw [Hr.out]
  clear Own W3
  have Bel7 := Lib.hid (bdrewN Bel6.out d4)
  have hdec : (decide (R = 65535) == ((R : Int) == 65535)) = true := by
    have : decide (R = 65535) = ((R : Int) == 65535) := by rw [Bool.eq_iff_iff]; simp; omega
    rw [this]; simp
  go_wp2_with fail
  refine (fold_any n hn _).mono ?_
  rintro e w2 ⟨rfl, d5, rfl⟩
  rw [Hf.out]
  have Bel8 := Lib.hid (bdrewN Bel6.out (d4 + d5))
  go_wp2_with fail
  refine (rfold_any n hn _).mono ?_
  rintro e w2 ⟨rfl, rfl⟩
  rw [Hf.out]
  go_wp2_with fail
  refine (lives2_any _).mono ?_
  rintro e we ⟨rfl, hb⟩
  have Hb := Lib.hid hb; clear hb
  go_wp2_with fail
  go_ret
  exact ⟨rfl, bstep Bel8.out Hb.out⟩
--ENDWALK

set_option maxRecDepth 100000 in
theorem lifted (os : Os) (started : os.Started) (H : Type) (enc : TypeId × Value → H) :
    ReturnsInHanded {} Try.checked os 3 .any (Rows.sumPartsSpec.pre6 enc Try.prog Try.f3 Rows.sumPartsRow.domain false) (Rows.sumPartsSpec.post enc Try.prog Try.f3 false true false false) := by
  refine returnsInHanded_of_change (C := Try.checked) own started (by kernel_rfl) Try.func3
    (ChangeSpec.witness6 (enc := enc) (C := Try.checked) false ⟨#[], #[.slice none 0 0, .int .u64 0], []⟩ 8 (by kernel_rfl) (by kernel_rfl) (by kernel_rfl) (by kernel_rfl)) ?_
  intro W base args ds gs before hval0 hW hcnd _
  have hval : ∀ (j : Nat) t v, Try.f3.params[j]? = some t → args[j]? = some v → Value.okWide Try.prog W .any base t v := hval0
  have hW' := hW
  obtain ⟨p, q, hA0, hV, rfl, hfz, hnd⟩ := hW
  have hA : DataW.TrodAll enc Try.prog W 0 (fun _ => true) true Try.f3.params.toList args.toList ds p := hA0
  rw [Try.params3] at hA hval
  obtain ⟨v0, vs0, d0, ds0, p0, q0, hargs, rfl, rfl, h0, r0⟩ := trodAll_cons hA
  obtain ⟨v1, vs1, d1, ds1, p1, q1, rfl, rfl, rfl, h1, r1⟩ := trodAll_cons r0
  obtain ⟨rfl, rfl, rfl⟩ := trodAll_nil r1
  obtain rfl : args = #[v0, v1] := by cases args; simp_all
  obtain ⟨rfl, rfl⟩ := trodVars_none hV
  have k0 := h0
  have lt0 : ∀ x ∈ p0, x.block < W.heap.size := by obtain ⟨m, hm⟩ := k0; exact DataW.trod_lt m _ _ _ hm
  obtain ⟨fuel0, hf0⟩ := h0
  obtain ⟨s0, len0, cap0, rfl⟩ := okWide_slice Try.underlying22 (hval 0 22 v0 rfl rfl)
  obtain ⟨x0, w0⟩ := opens_strsS (cs := [.slice s0 len0 cap0]) hf0
  obtain ⟨a1, rfl, rfl, rfl, w1⟩ := open_int Try.underlying23 (hval 1 23 v1 rfl rfl) h1
  clear hA0 hval0
  refine (walk W _ w0 a1 w1).mono fun e W' ⟨he, bel⟩ => ?_
  subst he
  exact ⟨_, rfl, _, _, _, [], _, [], hW', trodAll_mk1 (shut_bool Try.underlying4 _), (trodAll_cons_mk (Below.trod laidOut (by kernel_rfl) (of_decide_eq_true (by kernel_rfl)) k0 bel lt0) (trodAll_cons_mk (shut_int Try.underlying23 w1) trodAll_mk0)), rfl, bel.frame _, fun h => by cases h⟩

theorem over : Rows.sumPartsRow.holds Try.pinned (OpenSpec.ofChange Rows.sumPartsSpec) :=
  OpenClaim.holds_of_wide 3 Try.f3 rfl rfl rfl rfl rfl rfl rfl ⟨rfl, rfl, rfl, rfl, rfl⟩ rfl rfl rfl rfl rfl (by kernel_rfl) Try.func3 (by kernel_rfl)
    (of_decide_eq_true (by kernel_rfl)) (by unfold Func.isWrapper; first | (rw [if_pos (by decide +kernel)]; kernel_rfl) | (rw [if_neg (by decide +kernel)]; exact ⟨rfl, rfl⟩))
    (fun os started H enc _ => lifted os started H enc)

theorem proved : Rows.SumPartsSaid := over
#print axioms proved
end Go.Proofs.Ytogdbpickcnjaaa.sumParts
