/-
  SumChecks: for every input the law returns true and leaves its arguments as they were. It is proved for all arguments, without a condition.
-/
import Derived.Test.YtogdbpickcnjaaaRefb
import Derived.Test.YtogdbpickcnjaaaOpen
import Derived.WalkKit
import Derived.ProofKit
import Derived.OpenShut
import Derived.ShutString
import Derived.ChangeOld
import Derived.Below
import Derived.Lib.SmallJoins
import Derived.Deep.RegionHeld3
import Derived.Test.YtogdbpickcnjaaaRows
namespace Go.Proofs.Ytogdbpickcnjaaa.sumChecks
open Go.ChangeShapes Go.WideShapes Go.ChangeAt Go.RowKit Go.Joins
open Go.ChangeMaps (open_string shut_string)
set_option linter.unusedVariables false

theorem own : ownKnob Try.prog.godebug = none := by kernel_rfl
theorem laidOut : laidOutB Try.prog = true := by kernel_rfl

--WALK
theorem check_good (x : Nat) : foldN (x + (65535 - foldN x)) = 65535 := by
  rcases Nat.eq_zero_or_pos x with rfl | hp
  · rfl
  · have h := foldN_pos hp
    obtain ⟨k, hk⟩ : ∃ k, x + (65535 - foldN x) = 65535 + 65535 * k := ⟨(x - 1) / 65535, by rw [h]; omega⟩
    rw [hk, foldN_more _ _ (by omega)]; rfl
theorem num_two (a b : UInt8) : num [a, b] = 256 * a.toNat + b.toNat := by
  have := a.toNat_lt; have := b.toNat_lt
  simp [num]; omega
theorem putL_two (c : Nat) (h : c ≤ 65535) : wsum (putL c 2) = c ∧ (putL c 2).length = 2 := by
  refine ⟨?_, rfl⟩
  simp only [putL]
  rw [wsum_two, UInt8.toNat_ofNat', UInt8.toNat_ofNat']
  simp
  omega
theorem good_with (s : List UInt8) (i : Nat) (hi : i % 2 = 0) (hs : s.length % 2 = 0) :
    foldN (wsum ([s.take i, putL (65535 - foldN (wsum s)) 2, s.drop i] : List (List UInt8)).flatten) = 65535 := by
  have hp := putL_two (65535 - foldN (wsum s)) (by omega)
  have hts : (s.take i).length % 2 = 0 := by rw [List.length_take]; omega
  have e : wsum ([s.take i, putL (65535 - foldN (wsum s)) 2, s.drop i] : List (List UInt8)).flatten = wsum s + (65535 - foldN (wsum s)) := by
    have e1 : wsum s = wsum (s.take i) + wsum (s.drop i) := by rw [← wsum_append _ _ hts, List.take_append_drop]
    simp only [List.flatten_cons, List.flatten_nil, List.append_nil]
    rw [wsum_append _ _ hts, wsum_append _ _ (by rw [hp.2]), hp.1]
    omega
  rw [e, check_good]

set_option maxHeartbeats 400000 in
theorem walk (w : World) (a0 : ByteArray) (w0 : a0.size ≤ maxLen) (a1 : Int) (w1 : (Lit.int .u8 a1).wf = true) :
    Calls Try.prog 4 #[.string a0, .int .u8 a1] w fun e w' => e = .returned (.bool true) ∧ Below w.heap.size w w' := by
  obtain ⟨b0, b1⟩ := bounds_u8 w1
  obtain ⟨n, rfl⟩ := Int.eq_ofNat_of_zero_le b0
  have hn : n ≤ 255 := by omega
  clear b0 b1 w1
  have hcs := cutB_size a0 60
  generalize hs : cutB a0 60 = s at hcs
  have HS := Lib.hid hs; clear hs
  obtain ⟨l, rfl⟩ : ∃ l, s = Str l := ⟨s.data.toList, (Str_of s).symm⟩
  rw [Str_size] at hcs
  have hsz : (Str l).size = l.length := Str_size l
  obtain ⟨t, ht⟩ : ∃ t : List UInt8, t = l.take (l.length / 2 * 2) := ⟨_, rfl⟩
  have htl : t.length = l.length / 2 * 2 := by rw [ht, List.length_take]; omega
  have hx : (Str l).extract 0 (l.length / 2 * 2) = Str t := by rw [Str_extract2, ht]; simp
  have hev : t.length % 2 = 0 := by omega
  have ht60 : t.length ≤ 60 := by omega
  have htsz : (Str t).size = t.length := Str_size t
  obtain ⟨m, hm⟩ : ∃ m : Nat, m = n % (t.length / 2 + 1) := ⟨_, rfl⟩
  have hmle : m * 2 ≤ t.length := by
    have := Nat.mod_lt n (show t.length / 2 + 1 > 0 by omega)
    omega
  have hI : (n : Int) % ((t.length : Int) / 2 + 1) = (m : Int) := by rw [hm]; push_cast; rfl
  have HG := Lib.hid (good_with t (m * 2) (by omega) hev)
  clear hm
  have hcw := foldN_le (wsum t)
  clear ht
  have Htl := Lib.hid htl; clear htl
  have Hev := Lib.hid hev; clear hev
  have HC := Lib.hid (show 65535 - foldN (wsum ([t] : List (List UInt8)).flatten) = 65535 - foldN (wsum t) by simp)
  generalize hc : 65535 - foldN (wsum t) = c at HG HC
  have hc16 : c ≤ 65535 := by omega
  have Hc := Lib.hid hc; clear hc hcw
  have hgl : ([t.take (m * 2), putL c 2, t.drop (m * 2)] : List (List UInt8)).flatten.length ≤ 1048576 := by simp [putL_length]; omega
  go_enter Try.func4, Try.ntmps4
  go_wp2_with fail
  refine (cut_any a0 w0 60 (by omega) _).mono ?_
  rintro e w1 ⟨rfl, rfl⟩
  rw [HS.out]
  go_wp2_with fail
  refine (check_own [t] (by simp; omega) (by simp) 0 _ _ (own_lit0 _ #[.string (Str t)] _ 1 _ (by simp) (by omega) rfl)).mono ?_
  rintro e w1 ⟨rfl, d2, rfl⟩
  rw [HC.out]
  go_wp2_with fail
  have hx1 : (Str t).extract 0 (m * 2) = Str (t.take (m * 2)) := by rw [Str_extract2]; simp
  have hx2 : (Str t).extract (m * 2) t.length = Str (t.drop (m * 2)) := by rw [Str_extract2, List.take_of_length_le (by simp)]
  have hb1 : (0 : Int) ≤ (m : Int) * 2 := by omega
  have hb2 : (m : Int) * 2 ≤ (t.length : Int) := by omega
  have hb3 : (0 : Int) ≤ (t.length : Int) := by omega
  have hto : ((m : Int) * 2).toNat = m * 2 := by omega
  have hd1 : decide ((0 : Int) ≤ (c : Int)) = true := by simp
  have hd2 : decide ((c : Int) ≤ 65535) = true := by simp; omega
  have hwr : IntKind.u64.wrap (c : Int) = (c : Int) := by simp only [IntKind.wrap_u64]; omega
  go_region_held3 (fun w' => True) (trivial) (first
    | (go_at_call 18; refine (rput_any c (by omega) 2 _).mono ?_; rintro e w3 ⟨rfl, hb3⟩)
    | (go_at_call 16; refine (lives2_any _).mono ?_; rintro e w4 ⟨rfl, hb4⟩)
    | (go_at_call 13; refine (good_own [t.take (m * 2), putL c 2, t.drop (m * 2)] hgl (by simp) 0 _ _ (own_lit0 _ #[.string (Str (t.take (m * 2))), .string (Str (putL c 2)), .string (Str (t.drop (m * 2)))] _ 3 _ (by simp) (by omega) rfl)).mono ?_; rintro e w5 ⟨rfl, d5, rfl⟩; rw [HG.out]))
  all_goals
    have Hb3 := Lib.hid hb3; have Hb4 := Lib.hid hb4; clear hb3 hb4
    go_wp2_with fail
    go_ret
    have h3 := bstep (bdrewN ((Below.refl _ w).alloc (Nat.le_refl _) _) _) Hb3.out
    exact ⟨rfl, bstep (bdrewN (h3.alloc h3.size _) _) Hb4.out⟩
--ENDWALK

set_option maxRecDepth 100000 in
theorem lifted (os : Os) (started : os.Started) (H : Type) (enc : TypeId × Value → H) :
    ReturnsInHanded {} Try.checked os 4 .any (Rows.sumChecksSpec.pre6 enc Try.prog Try.f4 Rows.sumChecksRow.domain false) (Rows.sumChecksSpec.post enc Try.prog Try.f4 false true false false) := by
  refine returnsInHanded_of_change (C := Try.checked) own started (by kernel_rfl) Try.func4
    (ChangeSpec.witness6 (enc := enc) (C := Try.checked) false ⟨#[], #[.string ByteArray.empty, .int .u8 0], []⟩ 8 (by kernel_rfl) (by kernel_rfl) (by kernel_rfl) (by kernel_rfl)) ?_
  intro W base args ds gs before hval0 hW hcnd _
  have hval : ∀ (j : Nat) t v, Try.f4.params[j]? = some t → args[j]? = some v → Value.okWide Try.prog W .any base t v := hval0
  have hW' := hW
  obtain ⟨p, q, hA0, hV, rfl, hfz, hnd⟩ := hW
  have hA : DataW.TrodAll enc Try.prog W 0 (fun _ => true) true Try.f4.params.toList args.toList ds p := hA0
  rw [Try.params4] at hA hval
  obtain ⟨v0, vs0, d0, ds0, p0, q0, hargs, rfl, rfl, h0, r0⟩ := trodAll_cons hA
  obtain ⟨v1, vs1, d1, ds1, p1, q1, rfl, rfl, rfl, h1, r1⟩ := trodAll_cons r0
  obtain ⟨rfl, rfl, rfl⟩ := trodAll_nil r1
  obtain rfl : args = #[v0, v1] := by cases args; simp_all
  obtain ⟨rfl, rfl⟩ := trodVars_none hV
  obtain ⟨a0, rfl, rfl, rfl, w0⟩ := open_string Try.underlying9 (hval 0 9 v0 rfl rfl) h0
  obtain ⟨a1, rfl, rfl, rfl, w1⟩ := open_int Try.underlying5 (hval 1 5 v1 rfl rfl) h1
  clear hA0 hval0
  refine (walk W a0 w0 a1 w1).mono fun e W' ⟨he, bel⟩ => ?_
  subst he
  exact ⟨_, rfl, _, _, _, [], _, [], hW', trodAll_mk1 (shut_bool Try.underlying4 _), (trodAll_cons_mk (shut_string Try.underlying9 w0) (trodAll_cons_mk (shut_int Try.underlying5 w1) trodAll_mk0)), rfl, bel.frame _, fun h => by cases h⟩

theorem over : Rows.sumChecksRow.holds Try.pinned (OpenSpec.ofChange Rows.sumChecksSpec) :=
  OpenClaim.holds_of_wide 4 Try.f4 rfl rfl rfl rfl rfl rfl rfl ⟨rfl, rfl, rfl, rfl, rfl⟩ rfl rfl rfl rfl rfl (by kernel_rfl) Try.func4 (by kernel_rfl)
    (of_decide_eq_true (by kernel_rfl)) (by unfold Func.isWrapper; first | (rw [if_pos (by decide +kernel)]; kernel_rfl) | (rw [if_neg (by decide +kernel)]; exact ⟨rfl, rfl⟩))
    (fun os started H enc _ => lifted os started H enc)

theorem proved : Rows.SumChecksSaid := over
#print axioms proved
end Go.Proofs.Ytogdbpickcnjaaa.sumChecks
