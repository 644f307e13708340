/-
  SumUpdates: for every input the law returns true and leaves its arguments as they were. It is proved for all arguments, without a condition.
-/
import Derived.Test.YtogdbpickcnjaaaRefb
import Derived.Test.YtogdbpickcnjaaaOpen
import Derived.WalkKit
import Derived.ProofKit
import Derived.OpenShut
import Derived.ShutString
import Derived.ChangeOld
import Derived.Below
import Derived.Lib.SmallJoins
import Derived.Deep.RegionHeld3
import Derived.IntWalk
import Derived.Test.YtogdbpickcnjaaaRows
namespace Go.Proofs.Ytogdbpickcnjaaa.sumUpdates
open Go.ChangeShapes Go.WideShapes Go.ChangeAt Go.RowKit Go.Joins
open Go.ChangeMaps (open_string shut_string)
set_option linter.unusedVariables false

theorem own : ownKnob Try.prog.godebug = none := by kernel_rfl
theorem laidOut : laidOutB Try.prog = true := by kernel_rfl

--WALK
theorem num_two (a b : UInt8) : num [a, b] = 256 * a.toNat + b.toNat := by
  have := a.toNat_lt; have := b.toNat_lt
  simp [num]; omega
theorem putL_two (c : Nat) (h : c ≤ 65535) : wsum (putL c 2) = c ∧ (putL c 2).length = 2 := by
  refine ⟨?_, rfl⟩
  simp only [putL]
  rw [wsum_two, UInt8.toNat_ofNat', UInt8.toNat_ofNat']
  simp
  omega
theorem check_good (x : Nat) : foldN (x + (65535 - foldN x)) = 65535 := by
  rcases Nat.eq_zero_or_pos x with rfl | hp
  · rfl
  · have h := foldN_pos hp
    obtain ⟨k, hk⟩ : ∃ k, x + (65535 - foldN x) = 65535 + 65535 * k := ⟨(x - 1) / 65535, by rw [h]; omega⟩
    rw [hk, foldN_more _ _ (by omega)]; rfl
theorem upd_spec (X Y o x : Nat) (h : Y + o = X + x) (ho : o ≤ 65535) (hoX : o ≤ X) : updN (65535 - foldN X) o x = if Y = 0 then 0 else 65535 - foldN Y := by
  unfold updN
  have hf := foldN_le X
  rw [show 65535 - (65535 - foldN X) = foldN X by omega]
  rcases Nat.eq_zero_or_pos X with rfl | hX
  · have : o = 0 := by omega
    subst this
    have : Y = x := by omega
    subst this
    rw [foldN_zero]
    split
    · rename_i h0; subst h0; rfl
    · rw [show 0 + (65535 - 0) + Y = Y + 65535 * 1 by omega, foldN_more _ _ (by omega)]
  · have hp := foldN_pos hX
    obtain ⟨k, hk⟩ : ∃ k, X = foldN X + 65535 * k := ⟨(X - 1) / 65535, by rw [hp]; omega⟩
    generalize foldN X = R at hp hk hf ⊢
    have hR : 0 < R := by omega
    clear hp
    split
    · rename_i h0
      have hk0 : k = 0 := by omega
      subst hk0
      rw [show R + (65535 - o) + x = 65535 by omega]; rfl
    · rcases Nat.lt_or_ge k 2 with h2 | h2
      · rcases (show k = 0 ∨ k = 1 by omega) with rfl | rfl
        · rw [show R + (65535 - o) + x = Y + 65535 * 1 by omega, foldN_more _ _ (by omega)]
        · rw [show R + (65535 - o) + x = Y by omega]
      · obtain ⟨j, rfl⟩ : ∃ j, k = j + 1 := ⟨k - 1, by omega⟩
        rw [show Y = (R + (65535 - o) + x) + 65535 * j by omega, foldN_more _ _ (by omega)]
theorem turned (t : List UInt8) (m x : Nat) (hev : t.length % 2 = 0) (hm : m * 2 + 2 ≤ t.length) (hx : x ≤ 65535) :
    wsum (t.take (m * 2) ++ putL x 2 ++ t.drop (m * 2 + 2)) + num ((t.drop (m * 2)).take 2) = wsum t + x ∧ num ((t.drop (m * 2)).take 2) ≤ 65535 ∧ num ((t.drop (m * 2)).take 2) ≤ wsum t ∧ (t.take (m * 2) ++ putL x 2 ++ t.drop (m * 2 + 2)).length = t.length := by
  have hp := putL_two x hx
  have h0 : m * 2 < t.length := by omega
  have h1 : m * 2 + 1 < t.length := by omega
  have e2 : (t.drop (m * 2)).take 2 = [t[m * 2], t[m * 2 + 1]] := by
    rw [List.drop_eq_getElem_cons h0, List.drop_eq_getElem_cons h1]; rfl
  have hl : (t.take (m * 2)).length % 2 = 0 := by rw [List.length_take]; omega
  have e3 : wsum t = wsum (t.take (m * 2)) + (num [t[m * 2], t[m * 2 + 1]] + wsum (t.drop (m * 2 + 2))) := by
    conv => lhs; rw [← List.take_append_drop (m * 2) t, wsum_append _ _ hl, List.drop_eq_getElem_cons h0, List.drop_eq_getElem_cons h1]
    rw [show ∀ (a b : UInt8) (l : List UInt8), a :: b :: l = [a, b] ++ l from fun _ _ _ => rfl, wsum_append _ _ (show [t[m * 2], t[m * 2 + 1]].length % 2 = 0 from by simp), wsum_two, num_two]
  have b1 := t[m * 2].toNat_lt
  have b2 := t[m * 2 + 1].toNat_lt
  rw [e2, List.append_assoc, wsum_append _ _ hl, wsum_append _ _ (by rw [hp.2]), hp.1, e3]
  refine ⟨by omega, by rw [num_two]; omega, by omega, ?_⟩
  simp [putL_length]
  omega

set_option maxHeartbeats 1000000 in
theorem walk (w : World) (a0 : ByteArray) (w0 : a0.size ≤ maxLen) (a1 : Int) (w1 : (Lit.int .u8 a1).wf = true) (a2 : Int) (w2 : (Lit.int .u16 a2).wf = true) :
    Calls Try.prog 5 #[.string a0, .int .u8 a1, .int .u16 a2] w fun e w' => e = .returned (.bool true) ∧ Below w.heap.size w w' := by
  obtain ⟨b0, b1⟩ := bounds_u8 w1
  obtain ⟨n, rfl⟩ := Int.eq_ofNat_of_zero_le b0
  have hn : n ≤ 255 := by omega
  obtain ⟨b2, b3⟩ := bounds_u16 w2
  obtain ⟨x, rfl⟩ := Int.eq_ofNat_of_zero_le b2
  have hx16 : x ≤ 65535 := by omega
  clear b0 b1 w1 b2 b3 w2
  have hcs := cutB_size a0 60
  generalize hs : cutB a0 60 = s at hcs
  have HS := Lib.hid hs; clear hs
  obtain ⟨l, rfl⟩ : ∃ l, s = Str l := ⟨s.data.toList, (Str_of s).symm⟩
  rw [Str_size] at hcs
  have hsz : (Str l).size = l.length := Str_size l
  obtain ⟨t, ht⟩ : ∃ t : List UInt8, t = l.take (l.length / 2 * 2) := ⟨_, rfl⟩
  have htl : t.length = l.length / 2 * 2 := by rw [ht, List.length_take]; omega
  have hx : (Str l).extract 0 (l.length / 2 * 2) = Str t := by rw [Str_extract2, ht]; simp
  have hev : t.length % 2 = 0 := by omega
  have ht60 : t.length ≤ 60 := by omega
  have htsz : (Str t).size = t.length := Str_size t
  clear ht
  have Htl := Lib.hid htl; clear htl
  by_cases h0 : t.length = 0
  · have ht0 : t = [] := List.eq_nil_of_length_eq_zero h0
    subst ht0
    have he : (Str ([] : List UInt8)).toList.isEmpty = true := by rw [ByteArray.toList_eq]; rfl
    clear h0 htsz hev ht60
    go_enter Try.func5, Try.ntmps5
    go_wp2_with fail
    refine (cut_any a0 w0 60 (by omega) _).mono ?_
    rintro e w1 ⟨rfl, rfl⟩
    rw [HS.out]
    go_wp2_with fail
    refine (lives2_any _).mono ?_
    rintro e w2 ⟨rfl, hb⟩
    have Hb := Lib.hid hb; clear hb
    go_wp2_with fail
    go_ret
    exact ⟨rfl, Hb.out⟩
  · have he : (Str t).toList.isEmpty = false := by
      rw [ByteArray.toList_eq, Str_data]
      cases t with
      | nil => simp at h0
      | cons a t => rfl
    obtain ⟨m, hm⟩ : ∃ m : Nat, m = n % (t.length / 2) := ⟨_, rfl⟩
    have hmle : m * 2 + 2 ≤ t.length := by
      have := Nat.mod_lt n (show t.length / 2 > 0 by omega)
      omega
    have hI : (n : Int) % ((t.length : Int) / 2) = (m : Int) := by rw [hm]; push_cast; rfl
    clear hm
    have HT := Lib.hid (turned t m x hev hmle hx16)
    have hlen2 := HT.out.2.2.2
    have hev2 := hev
    generalize hu : t.take (m * 2) ++ putL x 2 ++ t.drop (m * 2 + 2) = u at HT hlen2
    have Hu := Lib.hid hu; clear hu
    have HX := Lib.hid (show ((Str t).extract (m * 2) (m * 2 + 2)).data.toList = (t.drop (m * 2)).take 2 by rw [Str_extract2, show m * 2 + 2 - m * 2 = 2 by omega]; rfl)
    have ho := HT.out.2.1
    generalize hoo : num ((t.drop (m * 2)).take 2) = o at HT ho
    have Ho := Lib.hid hoo; clear hoo
    obtain ⟨hA, _, hB, _⟩ := HT.out
    have HU := Lib.hid (upd_spec (wsum t) (wsum u) o x hA ho hB)
    have HGd := Lib.hid (show foldN (wsum ([u, putL (65535 - foldN (wsum u)) 2] : List (List UInt8)).flatten) = 65535 by
      simp only [List.flatten_cons, List.flatten_nil, List.append_nil]
      rw [wsum_append _ _ (by rw [hlen2]; exact hev2), (putL_two _ (by omega)).1, check_good])
    clear hA hB
    have hR := foldN_le (wsum t)
    have hS := foldN_le (wsum u)
    have hz : foldN (wsum u) = 0 ↔ wsum u = 0 := foldN_eq_zero
    have Hz := Lib.hid hz; clear hz
    have hu60 : u.length ≤ 60 := by omega
    have Hl2 := Lib.hid hlen2; clear hlen2
    have Hev := Lib.hid hev; clear hev hev2
    generalize hr : foldN (wsum t) = R at hR HU
    have Hr := Lib.hid hr; clear hr
    generalize hs2 : foldN (wsum u) = S at hS HU HGd Hz
    have Hs2 := Lib.hid hs2; clear hs2
    have hx1 : (Str t).extract 0 (m * 2) = Str (t.take (m * 2)) := by rw [Str_extract2]; simp
    have hx2 : (Str t).extract (m * 2 + 2) t.length = Str (t.drop (m * 2 + 2)) := by rw [Str_extract2, List.take_of_length_le (by simp)]
    have hrun1 := run_cat' (P := Try.prog) (t.take (m * 2)) (putL x 2) (by simp [putL_length]; omega)
    have hrun2 := run_cat' (P := Try.prog) (t.take (m * 2) ++ putL x 2) (t.drop (m * 2 + 2)) (by simp [putL_length]; omega)
    rw [Hu.out] at hrun2
    have hsz1 : (Str (t.take (m * 2))).size = m * 2 := by rw [Str_size, List.length_take]; omega
    have hsz2 : (Str (putL x 2)).size = 2 := by rw [Str_size, putL_length]
    have hsz3 : (Str (t.take (m * 2) ++ putL x 2)).size = m * 2 + 2 := by rw [Str_size, List.length_append, List.length_take, putL_length]; omega
    have hsz4 : (Str (t.drop (m * 2 + 2))).size = t.length - (m * 2 + 2) := by rw [Str_size, List.length_drop]
    have hb1 : (0 : Int) ≤ (m : Int) * 2 := by omega
    have hb2 : (m : Int) * 2 ≤ (t.length : Int) := by omega
    have hb3 : (0 : Int) ≤ (t.length : Int) := by omega
    have hb4 : (m : Int) * 2 + 2 ≤ (t.length : Int) := by omega
    have hb5 : (0 : Int) ≤ (m : Int) * 2 + 2 := by omega
    have hb6 : (m : Int) * 2 ≤ (m : Int) * 2 + 2 := by omega
    have hto : ((m : Int) * 2).toNat = m * 2 := by omega
    have hto2 : ((m : Int) * 2 + 2).toNat = m * 2 + 2 := by omega
    have hwr : IntKind.u64.wrap (x : Int) = (x : Int) := by simp only [IntKind.wrap_u64]; omega
    have hwi : IntKind.i64.wrap ((m : Int) * 2 + 2) = (m : Int) * 2 + 2 := IntWalk.i64_in _ (by omega)
    have hw1 : IntKind.i64.wrap (65535 - (R : Int)) = 65535 - (R : Int) := IntWalk.i64_in _ (by omega)
    have hw2 : IntKind.i64.wrap (o : Int) = (o : Int) := IntWalk.i64_in _ (by omega)
    have hw3 : IntKind.i64.wrap (x : Int) = (x : Int) := IntWalk.i64_in _ (by omega)
    have HUU := Lib.hid (show updN (((65535 : Int) - (R : Int)) % 65536).toNat ((o : Int) % 65536).toNat ((x : Int) % 65536).toNat = if wsum u = 0 then 0 else 65535 - S by
      rw [← HU.out, show (((65535 : Int) - (R : Int)) % 65536).toNat = 65535 - R by omega, show ((o : Int) % 65536).toNat = o by omega, show ((x : Int) % 65536).toNat = x by omega])
    generalize hv : updN (((65535 : Int) - (R : Int)) % 65536).toNat ((o : Int) % 65536).toNat ((x : Int) % 65536).toNat = V at HUU
    have Hv := Lib.hid hv; clear hv
    have hV : V ≤ 65535 := by have := HUU.out; split at this <;> omega
    clear HT HU
    by_cases hS0 : S = 0
    · have hV0 : ((V : Int) == 0) = true := by have := HUU.out; rw [if_pos (Hz.out.1 hS0)] at this; simp; omega
      have hSb : ((S : Int) == 0) = true := by simp; omega
      clear hS0
      go_enter Try.func5, Try.ntmps5
      go_wp2_with fail
      refine (cut_any a0 w0 60 (by omega) _).mono ?_
      rintro e w1 ⟨rfl, rfl⟩
      rw [HS.out]
      go_wp2_with fail
      go_region_held3 (fun w' => True) (trivial) (first
        | (go_at_call 18; refine (rput_two x (by omega) _).mono ?_; rintro e w3 ⟨rfl, hb7⟩))
      have Hb7 := Lib.hid (bstep (bdrewN (Below.refl w.heap.size w) 1) hb7); clear hb7
      go_wp2_with fail
      go_region_held3 (fun w' => True) (trivial) (first
        | (go_at_call 8; refine (rsum_any t (by omega) _).mono ?_; rintro e w4 ⟨rfl, rfl⟩; rw [Hr.out])
        | (go_at_call 20; refine (rnum_any _ (by unfold maxLen; simp; omega) _).mono ?_; rintro e w4 ⟨rfl, rfl⟩; rw [HX.out, Ho.out])
        | (go_at_call 19; refine (update_any _ _ _ _).mono ?_; rintro e w4 ⟨rfl, d4, rfl⟩; rw [Hv.out]))
      go_wp2_with fail
      refine (rsum_any u (by omega) _).mono ?_
      rintro e w4 ⟨rfl, rfl⟩
      rw [Hs2.out]
      go_wp2_with fail
      refine (lives2_any _).mono ?_
      rintro e w6 ⟨rfl, hb⟩
      have Hb := Lib.hid hb; clear hb
      go_wp2_with fail
      go_ret
      exact ⟨rfl, bstep (bdrewN Hb7.out _) Hb.out⟩
    · have hVS : V = 65535 - S := by have := HUU.out; rw [if_neg (fun h => hS0 (Hz.out.2 h))] at this; exact this
      have hSb : ((S : Int) == 0) = false := by simp; omega
      have hVb : ((V : Int) == 65535 - (S : Int)) = true := by simp; omega
      rw [← hVS] at HGd
      have hwv : IntKind.u64.wrap (V : Int) = (V : Int) := by simp only [IntKind.wrap_u64]; omega
      have hgl : ([u, putL V 2] : List (List UInt8)).flatten.length ≤ 1048576 := by simp [putL_length]; omega
      have Hgl := Lib.hid hgl
      clear hS0 hVS hgl
      go_enter Try.func5, Try.ntmps5
      go_wp2_with fail
      refine (cut_any a0 w0 60 (by omega) _).mono ?_
      rintro e w1 ⟨rfl, rfl⟩
      rw [HS.out]
      go_wp2_with fail
      go_region_held3 (fun w' => True) (trivial) (first
        | (go_at_call 18; refine (rput_two x (by omega) _).mono ?_; rintro e w3 ⟨rfl, hb7⟩))
      have Hb7 := Lib.hid (bstep (bdrewN (Below.refl w.heap.size w) 1) hb7); clear hb7
      go_wp2_with fail
      go_region_held3 (fun w' => True) (trivial) (first
        | (go_at_call 8; refine (rsum_any t (by omega) _).mono ?_; rintro e w4 ⟨rfl, rfl⟩; rw [Hr.out])
        | (go_at_call 20; refine (rnum_any _ (by unfold maxLen; simp; omega) _).mono ?_; rintro e w4 ⟨rfl, rfl⟩; rw [HX.out, Ho.out])
        | (go_at_call 19; refine (update_any _ _ _ _).mono ?_; rintro e w4 ⟨rfl, d4, rfl⟩; rw [Hv.out]))
      go_wp2_with fail
      refine (rsum_any u (by omega) _).mono ?_
      rintro e w4 ⟨rfl, rfl⟩
      rw [Hs2.out]
      go_wp2_with fail
      refine (rput_two V (by omega) _).mono ?_
      rintro e w8 ⟨rfl, hb8⟩
      have Hb8 := Lib.hid hb8; clear hb8
      go_wp2_with fail
      refine (good_own [u, putL V 2] Hgl.out (by simp) 0 _ _ (own_lit0 _ #[.string (Str u), .string (Str (putL V 2))] _ 2 _ (by simp) (by omega) rfl)).mono ?_
      rintro e w5 ⟨rfl, d5, rfl⟩
      rw [HGd.out]
      go_wp2_with fail
      refine (rsum_any u (by omega) _).mono ?_
      rintro e w4 ⟨rfl, rfl⟩
      rw [Hs2.out]
      go_wp2_with fail
      refine (lives2_any _).mono ?_
      rintro e w6 ⟨rfl, hb⟩
      have Hb := Lib.hid hb; clear hb
      go_wp2_with fail
      go_ret
      have h3 := bstep (bdrewN Hb7.out _) Hb8.out
      exact ⟨rfl, bstep (bdrewN (h3.alloc h3.size _) _) Hb.out⟩
--ENDWALK

set_option maxRecDepth 100000 in
theorem lifted (os : Os) (started : os.Started) (H : Type) (enc : TypeId × Value → H) :
    ReturnsInHanded {} Try.checked os 5 .any (Rows.sumUpdatesSpec.pre6 enc Try.prog Try.f5 Rows.sumUpdatesRow.domain false) (Rows.sumUpdatesSpec.post enc Try.prog Try.f5 false true false false) := by
  refine returnsInHanded_of_change (C := Try.checked) own started (by kernel_rfl) Try.func5
    (ChangeSpec.witness6 (enc := enc) (C := Try.checked) false ⟨#[], #[.string ByteArray.empty, .int .u8 0, .int .u16 0], []⟩ 8 (by kernel_rfl) (by kernel_rfl) (by kernel_rfl) (by kernel_rfl)) ?_
  intro W base args ds gs before hval0 hW hcnd _
  have hval : ∀ (j : Nat) t v, Try.f5.params[j]? = some t → args[j]? = some v → Value.okWide Try.prog W .any base t v := hval0
  have hW' := hW
  obtain ⟨p, q, hA0, hV, rfl, hfz, hnd⟩ := hW
  have hA : DataW.TrodAll enc Try.prog W 0 (fun _ => true) true Try.f5.params.toList args.toList ds p := hA0
  rw [Try.params5] at hA hval
  obtain ⟨v0, vs0, d0, ds0, p0, q0, hargs, rfl, rfl, h0, r0⟩ := trodAll_cons hA
  obtain ⟨v1, vs1, d1, ds1, p1, q1, rfl, rfl, rfl, h1, r1⟩ := trodAll_cons r0
  obtain ⟨v2, vs2, d2, ds2, p2, q2, rfl, rfl, rfl, h2, r2⟩ := trodAll_cons r1
  obtain ⟨rfl, rfl, rfl⟩ := trodAll_nil r2
  obtain rfl : args = #[v0, v1, v2] := by cases args; simp_all
  obtain ⟨rfl, rfl⟩ := trodVars_none hV
  obtain ⟨a0, rfl, rfl, rfl, w0⟩ := open_string Try.underlying9 (hval 0 9 v0 rfl rfl) h0
  obtain ⟨a1, rfl, rfl, rfl, w1⟩ := open_int Try.underlying5 (hval 1 5 v1 rfl rfl) h1
  obtain ⟨a2, rfl, rfl, rfl, w2⟩ := open_int Try.underlying35 (hval 2 35 v2 rfl rfl) h2
  clear hA0 hval0
  refine (walk W a0 w0 a1 w1 a2 w2).mono fun e W' ⟨he, bel⟩ => ?_
  subst he
  exact ⟨_, rfl, _, _, _, [], _, [], hW', trodAll_mk1 (shut_bool Try.underlying4 _), (trodAll_cons_mk (shut_string Try.underlying9 w0) (trodAll_cons_mk (shut_int Try.underlying5 w1) (trodAll_cons_mk (shut_int Try.underlying35 w2) trodAll_mk0))), rfl, bel.frame _, fun h => by cases h⟩

theorem over : Rows.sumUpdatesRow.holds Try.pinned (OpenSpec.ofChange Rows.sumUpdatesSpec) :=
  OpenClaim.holds_of_wide 5 Try.f5 rfl rfl rfl rfl rfl rfl rfl ⟨rfl, rfl, rfl, rfl, rfl⟩ rfl rfl rfl rfl rfl (by kernel_rfl) Try.func5 (by kernel_rfl)
    (of_decide_eq_true (by kernel_rfl)) (by unfold Func.isWrapper; first | (rw [if_pos (by decide +kernel)]; kernel_rfl) | (rw [if_neg (by decide +kernel)]; exact ⟨rfl, rfl⟩))
    (fun os started H enc _ => lifted os started H enc)

theorem proved : Rows.SumUpdatesSaid := over
#print axioms proved
end Go.Proofs.Ytogdbpickcnjaaa.sumUpdates
