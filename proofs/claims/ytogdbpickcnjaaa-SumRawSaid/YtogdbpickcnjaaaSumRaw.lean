/-
  SumRaw: for every input the law returns true and leaves its arguments as they were. It is proved for all arguments, without a condition.
-/
import Derived.Test.YtogdbpickcnjaaaRefb
import Derived.Test.YtogdbpickcnjaaaOpen
import Derived.WalkKit
import Derived.ProofKit
import Derived.OpenShut
import Derived.ShutString
import Derived.ChangeOld
import Derived.Below
import Derived.Lib.SmallJoins
import Derived.Test.YtogdbpickcnjaaaRows
namespace Go.Proofs.Ytogdbpickcnjaaa.sumRaw
open Go.ChangeShapes Go.WideShapes Go.ChangeAt Go.RowKit Go.Joins
open Go.ChangeMaps (open_string shut_string)
set_option linter.unusedVariables false

theorem own : ownKnob Try.prog.godebug = none := by kernel_rfl
theorem laidOut : laidOutB Try.prog = true := by kernel_rfl

--WALK
theorem wrap_nat (a : Int) : IntKind.u64.wrap a = ((a % 18446744073709551616).toNat : Int) := by
  simp only [IntKind.wrap_u64]; omega
theorem low16 (a : Int) : bitsN (a % 18446744073709551616).toNat 0 16 = (a % 65536).toNat := by
  unfold bitsN
  rw [show clampN 0 64 = 0 from rfl, show clampN 16 64 = 16 from rfl]
  omega

set_option maxHeartbeats 400000 in
theorem walk (w : World) (a0 : Int) (w0 : (Lit.int .i64 a0).wf = true) (a1 : Int) (w1 : (Lit.int .i64 a1).wf = true) (a2 : Int) (w2 : (Lit.int .i64 a2).wf = true) :
    Calls Try.prog 6 #[.int .i64 a0, .int .i64 a1, .int .i64 a2] w fun e w' => e = .returned (.bool true) ∧ Below w.heap.size w w' := by
  clear w0 w1 w2
  have HA := Lib.hid (low16 a0)
  have HB := Lib.hid (low16 a1)
  have HC := Lib.hid (low16 a2)
  have hA : (a0 % 65536).toNat ≤ 65535 := by omega
  have hB : (a1 % 65536).toNat ≤ 65535 := by omega
  have hC : (a2 % 65536).toNat ≤ 65535 := by omega
  have HU := Lib.hid (show updN (a0 % 65536).toNat (a1 % 65536).toNat (a2 % 65536).toNat = 65535 - foldN ((65535 - (a0 % 65536).toNat) + (65535 - (a1 % 65536).toNat) + (a2 % 65536).toNat) from rfl)
  generalize hu : updN (a0 % 65536).toNat (a1 % 65536).toNat (a2 % 65536).toNat = U at HU
  have Hu := Lib.hid hu; clear hu
  have H0 := Lib.hid (wrap_nat a0)
  have H1 := Lib.hid (wrap_nat a1)
  have H2 := Lib.hid (wrap_nat a2)
  generalize (a0 % 65536).toNat = A at HA hA HU
  generalize (a1 % 65536).toNat = B at HB hB HU
  generalize (a2 % 65536).toNat = C at HC hC HU
  have hR := foldN_le ((65535 - A) + (65535 - B) + C)
  generalize hr : foldN ((65535 - A) + (65535 - B) + C) = R at hR HU
  have Hr := Lib.hid hr; clear hr
  go_enter Try.func6, Try.ntmps6
  go_wp2_with fail
  rw [H0.out]
  refine (rbits_any _ (by omega) 0 16 _).mono ?_
  rintro e w1 ⟨rfl, rfl⟩
  rw [HA.out]
  go_wp2_with fail
  rw [H1.out]
  refine (rbits_any _ (by omega) 0 16 _).mono ?_
  rintro e w1 ⟨rfl, rfl⟩
  rw [HB.out]
  go_wp2_with fail
  rw [H2.out]
  refine (rbits_any _ (by omega) 0 16 _).mono ?_
  rintro e w1 ⟨rfl, rfl⟩
  rw [HC.out]
  go_wp2_with fail
  refine (update_any a0 a1 a2 _).mono ?_
  rintro e w1 ⟨rfl, d1, rfl⟩
  rw [Hu.out]
  go_wp2_with fail
  rw [show (65535 : Int) - (A : Int) + 65535 - (B : Int) + (C : Int) = (((65535 - A) + (65535 - B) + C : Nat) : Int) by omega]
  refine (rfold_any _ (by omega) _).mono ?_
  rintro e w1 ⟨rfl, rfl⟩
  rw [Hr.out]
  have hUR : ((U : Int) == 65535 - (R : Int)) = true := by have := HU.out; simp; omega
  go_wp2_with fail
  refine (lives2_any _).mono ?_
  rintro e w2 ⟨rfl, hb⟩
  have Hb := Lib.hid hb; clear hb
  go_wp2_with fail
  go_ret
  exact ⟨rfl, bstep (bdrewN (Below.refl _ _) _) Hb.out⟩
--ENDWALK

set_option maxRecDepth 100000 in
theorem lifted (os : Os) (started : os.Started) (H : Type) (enc : TypeId × Value → H) :
    ReturnsInHanded {} Try.checked os 6 .any (Rows.sumRawSpec.pre6 enc Try.prog Try.f6 Rows.sumRawRow.domain false) (Rows.sumRawSpec.post enc Try.prog Try.f6 false true false false) := by
  refine returnsInHanded_of_change (C := Try.checked) own started (by kernel_rfl) Try.func6
    (ChangeSpec.witness6 (enc := enc) (C := Try.checked) false ⟨#[], #[.int .i64 0, .int .i64 0, .int .i64 0], []⟩ 8 (by kernel_rfl) (by kernel_rfl) (by kernel_rfl) (by kernel_rfl)) ?_
  intro W base args ds gs before hval0 hW hcnd _
  have hval : ∀ (j : Nat) t v, Try.f6.params[j]? = some t → args[j]? = some v → Value.okWide Try.prog W .any base t v := hval0
  have hW' := hW
  obtain ⟨p, q, hA0, hV, rfl, hfz, hnd⟩ := hW
  have hA : DataW.TrodAll enc Try.prog W 0 (fun _ => true) true Try.f6.params.toList args.toList ds p := hA0
  rw [Try.params6] at hA hval
  obtain ⟨v0, vs0, d0, ds0, p0, q0, hargs, rfl, rfl, h0, r0⟩ := trodAll_cons hA
  obtain ⟨v1, vs1, d1, ds1, p1, q1, rfl, rfl, rfl, h1, r1⟩ := trodAll_cons r0
  obtain ⟨v2, vs2, d2, ds2, p2, q2, rfl, rfl, rfl, h2, r2⟩ := trodAll_cons r1
  obtain ⟨rfl, rfl, rfl⟩ := trodAll_nil r2
  obtain rfl : args = #[v0, v1, v2] := by cases args; simp_all
  obtain ⟨rfl, rfl⟩ := trodVars_none hV
  obtain ⟨a0, rfl, rfl, rfl, w0⟩ := open_int Try.underlying3 (hval 0 3 v0 rfl rfl) h0
  obtain ⟨a1, rfl, rfl, rfl, w1⟩ := open_int Try.underlying3 (hval 1 3 v1 rfl rfl) h1
  obtain ⟨a2, rfl, rfl, rfl, w2⟩ := open_int Try.underlying3 (hval 2 3 v2 rfl rfl) h2
  clear hA0 hval0
  refine (walk W a0 w0 a1 w1 a2 w2).mono fun e W' ⟨he, bel⟩ => ?_
  subst he
  exact ⟨_, rfl, _, _, _, [], _, [], hW', trodAll_mk1 (shut_bool Try.underlying4 _), (trodAll_cons_mk (shut_int Try.underlying3 w0) (trodAll_cons_mk (shut_int Try.underlying3 w1) (trodAll_cons_mk (shut_int Try.underlying3 w2) trodAll_mk0))), rfl, bel.frame _, fun h => by cases h⟩

theorem over : Rows.sumRawRow.holds Try.pinned (OpenSpec.ofChange Rows.sumRawSpec) :=
  OpenClaim.holds_of_wide 6 Try.f6 rfl rfl rfl rfl rfl rfl rfl ⟨rfl, rfl, rfl, rfl, rfl⟩ rfl rfl rfl rfl rfl (by kernel_rfl) Try.func6 (by kernel_rfl)
    (of_decide_eq_true (by kernel_rfl)) (by unfold Func.isWrapper; first | (rw [if_pos (by decide +kernel)]; kernel_rfl) | (rw [if_neg (by decide +kernel)]; exact ⟨rfl, rfl⟩))
    (fun os started H enc _ => lifted os started H enc)

theorem proved : Rows.SumRawSaid := over
#print axioms proved
end Go.Proofs.Ytogdbpickcnjaaa.sumRaw
