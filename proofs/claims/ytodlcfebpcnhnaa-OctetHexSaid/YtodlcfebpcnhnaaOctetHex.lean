/-
  OctetHex: for every input the law returns true and leaves its arguments as they were. It is proved for all arguments, without a condition.
-/
import Derived.Test.YtodlcfebpcnhnaaOctHex
import Derived.Test.YtodlcfebpcnhnaaOctUnb
import Derived.Test.YtodlcfebpcnhnaaOctUnc
import Derived.Test.YtodlcfebpcnhnaaRefa
import Derived.WalkKit
import Derived.ProofKit
import Derived.OpenShut
import Derived.ShutString
import Derived.ChangeOld
import Derived.Below
import Derived.Lib.SmallJoins
import Derived.Test.YtodlcfebpcnhnaaRows
namespace Go.Proofs.Ytodlcfebpcnhnaa.octetHex
open Go.ChangeShapes Go.WideShapes Go.ChangeAt Go.RowKit Go.Joins
open Go.ChangeMaps (open_string shut_string)
set_option linter.unusedVariables false

theorem own : ownKnob Try.prog.godebug = none := by kernel_rfl
theorem laidOut : laidOutB Try.prog = true := by kernel_rfl

theorem okS_some (r : List UInt8) : okS (some r) = .string (Str r) := rfl
theorem okS_none : okS none = .string (Str []) := rfl
theorem okE_some (r : List UInt8) : okE (some r) = 0 := rfl
theorem okE_none : okE none = 2 := rfl

set_option maxHeartbeats 1000000 in
theorem walk (a0 : ByteArray) (w0 : a0.size ≤ maxLen) (a1 : ByteArray) (w1 : a1.size ≤ maxLen) (w : World) :
    Calls Try.prog 6 #[.string a0, .string a1] w fun e w' => e = .returned (.bool true) ∧ Below w.heap.size w w' := by
  have hc0 := cutB_size a0 40
  generalize hs0 : cutB a0 40 = s at hc0
  have HS := Lib.hid hs0; clear hs0
  have hc1 := cutB_size a1 40
  generalize ht0 : cutB a1 40 = t at hc1
  have HT := Lib.hid ht0; clear ht0
  have HU := Lib.hid (unhexV_hexL s.data.toList)
  go_enter Try.func6, Try.ntmps6
  go_wp2_with fail
  refine (cut_any a0 w0 40 (by omega) _).mono ?_
  rintro e w1 ⟨rfl, rfl⟩
  rw [HS.out]
  go_wp2_with fail
  refine (cut_any a1 w1 40 (by omega) _).mono ?_
  rintro e w1 ⟨rfl, rfl⟩
  rw [HT.out]
  go_wp2_with fail
  refine (hex_any s (by omega) _).mono ?_
  rintro e w2 ⟨rfl, hb1⟩
  have Hb1 := Lib.hid hb1; clear hb1
  go_wp2_with fail
  refine (unhex_any (Str (hexL s.data.toList)) (by rw [Str_size, hexL_length]; simp; omega) _).mono ?_
  rintro e w3 ⟨rfl, hb2⟩
  have Hb2 := Lib.hid hb2; clear hb2
  rw [Str_data, HU.out, okS_some, okE_some]
  have HS2 := Lib.hid (Str_of s)
  rw [HS2.out]
  go_wp2_with fail
  refine (unhex_any t (by omega) _).mono ?_
  rintro e w4 ⟨rfl, hb3⟩
  have Hb3 := Lib.hid hb3; clear hb3
  cases hr : unhexV t.data.toList with
  | none =>
    have HR := Lib.hid hr; clear hr
    rw [okS_none, okE_none]
    go_wp2_with fail
    refine (runhex_any t (by omega) _).mono ?_
    rintro e w5 ⟨rfl, hb4⟩
    have Hb4 := Lib.hid hb4; clear hb4
    rw [HR.out]
    go_wp2_with fail
    refine (hex_any s (by omega) _).mono ?_
    rintro e w6 ⟨rfl, hb5⟩
    have Hb5 := Lib.hid hb5; clear hb5
    go_wp2_with fail
    refine (rhex_any s (by omega) _).mono ?_
    rintro e w7 ⟨rfl, hb6⟩
    have Hb6 := Lib.hid hb6; clear hb6
    go_wp2_with (go_at_call 14; refine (lives_any _).mono ?_; rintro e w8 ⟨rfl, hb7⟩)
    go_ret
    exact ⟨by simp, bstep (bsame (bstep (bstep (bstep (bstep Hb1.out Hb2.out) Hb3.out) Hb4.out) Hb5.out) Hb6.out) (by assumption)⟩
  | some r =>
    have HR := Lib.hid hr; clear hr
    rw [okS_some, okE_some]
    go_wp2_with fail
    refine (runhex_any t (by omega) _).mono ?_
    rintro e w5 ⟨rfl, hb4⟩
    have Hb4 := Lib.hid hb4; clear hb4
    rw [HR.out]
    go_wp2_with fail
    refine (hex_any s (by omega) _).mono ?_
    rintro e w6 ⟨rfl, hb5⟩
    have Hb5 := Lib.hid hb5; clear hb5
    go_wp2_with fail
    refine (rhex_any s (by omega) _).mono ?_
    rintro e w7 ⟨rfl, hb6⟩
    have Hb6 := Lib.hid hb6; clear hb6
    go_wp2_with (go_at_call 14; refine (lives_any _).mono ?_; rintro e w8 ⟨rfl, hb7⟩)
    go_ret
    exact ⟨by simp, bstep (bsame (bstep (bstep (bstep (bstep Hb1.out Hb2.out) Hb3.out) Hb4.out) Hb5.out) Hb6.out) (by assumption)⟩

set_option maxRecDepth 100000 in
theorem lifted (os : Os) (started : os.Started) (H : Type) (enc : TypeId × Value → H) :
    ReturnsInHanded {} Try.checked os 6 .any (Rows.octetHexSpec.pre6 enc Try.prog Try.f6 Rows.octetHexRow.domain false) (Rows.octetHexSpec.post enc Try.prog Try.f6 false true false false) := by
  refine returnsInHanded_of_change (C := Try.checked) own started (by kernel_rfl) Try.func6
    (ChangeSpec.witness6 (enc := enc) (C := Try.checked) false ⟨#[], #[.string ByteArray.empty, .string ByteArray.empty], []⟩ 8 (by kernel_rfl) (by kernel_rfl) (by kernel_rfl) (by kernel_rfl)) ?_
  intro W base args ds gs before hval0 hW hcnd _
  have hval : ∀ (j : Nat) t v, Try.f6.params[j]? = some t → args[j]? = some v → Value.okWide Try.prog W .any base t v := hval0
  have hW' := hW
  obtain ⟨p, q, hA0, hV, rfl, hfz, hnd⟩ := hW
  have hA : DataW.TrodAll enc Try.prog W 0 (fun _ => true) true Try.f6.params.toList args.toList ds p := hA0
  rw [Try.params6] at hA hval
  obtain ⟨v0, vs0, d0, ds0, p0, q0, hargs, rfl, rfl, h0, r0⟩ := trodAll_cons hA
  obtain ⟨v1, vs1, d1, ds1, p1, q1, rfl, rfl, rfl, h1, r1⟩ := trodAll_cons r0
  obtain ⟨rfl, rfl, rfl⟩ := trodAll_nil r1
  obtain rfl : args = #[v0, v1] := by cases args; simp_all
  obtain ⟨rfl, rfl⟩ := trodVars_none hV
  obtain ⟨a0, rfl, rfl, rfl, w0⟩ := open_string Try.underlying9 (hval 0 9 v0 rfl rfl) h0
  obtain ⟨a1, rfl, rfl, rfl, w1⟩ := open_string Try.underlying9 (hval 1 9 v1 rfl rfl) h1
  clear hA0 hval0
  refine (walk a0 w0 a1 w1 W).mono fun e W' ⟨he, bel⟩ => ?_
  subst he
  exact ⟨_, rfl, _, _, _, [], _, [], hW', trodAll_mk1 (shut_bool Try.underlying4 _), (trodAll_cons_mk (shut_string Try.underlying9 w0) (trodAll_cons_mk (shut_string Try.underlying9 w1) trodAll_mk0)), rfl, bel.frame _, fun h => by cases h⟩

theorem over : Rows.octetHexRow.holds Try.pinned (OpenSpec.ofChange Rows.octetHexSpec) :=
  OpenClaim.holds_of_wide 6 Try.f6 rfl rfl rfl rfl rfl rfl rfl ⟨rfl, rfl, rfl, rfl, rfl⟩ rfl rfl rfl rfl rfl (by kernel_rfl) Try.func6 (by kernel_rfl)
    (of_decide_eq_true (by kernel_rfl)) (by unfold Func.isWrapper; first | (rw [if_pos (by decide +kernel)]; kernel_rfl) | (rw [if_neg (by decide +kernel)]; exact ⟨rfl, rfl⟩))
    (fun os started H enc _ => lifted os started H enc)

theorem proved : Rows.OctetHexSaid := over
#print axioms proved
end Go.Proofs.Ytodlcfebpcnhnaa.octetHex
