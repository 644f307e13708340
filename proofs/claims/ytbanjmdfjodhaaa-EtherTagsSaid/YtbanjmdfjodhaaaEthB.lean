/-
  Contracts of ether's Good, Size, tag and Write.
-/
import Derived.Test.YtbanjmdfjodhaaaEthA
namespace Go.Proofs.Ytbanjmdfjodhaaa
open Go.RowKit
set_option linter.unusedVariables false
attribute [local go_sem ↓] bld_eth ld_eth st_eth ld_mac st_mac
attribute [local go_sem] ldr_eth str_eth ldr_mac str_mac

set_option maxRecDepth 100000 in
set_option maxHeartbeats 1000000 in
theorem goodE_any (e : Eth) (ho : e.ok) (hl : e.bd.length ≤ 1000000) (w : World) : Calls Try.prog 9 #[.agg (ethC e).toArray] w fun x w' => x = .returned (.bool e.good) ∧ Below w.heap.size w w' := by
  have HB := Lib.hid (EB.made w e)
  have Ho := Lib.hid ho
  have hsz := Str_size e.bd
  cases h1 : goodTyV e.ty with
  | false =>
    have HG := Lib.hid (show e.good = false by unfold Eth.good goodEV; rw [h1]; rfl)
    have H1 := Lib.hid h1
    clear h1
    go_enter Try.func9, Try.ntmps9
    go_upto_region 1 with (fail)
    generalize w.alloc (.cells (ethC e).toArray 25) = W at HB ⊢
    have c4 := HB.out.1.ty ho
    clear ho
    go_wp2_with (go_at_call 19; refine (goodType_any e.ty _).mono ?_; rintro x w1 ⟨rfl, rfl⟩; rw [H1.out])
    go_ret
    exact ⟨ret_bool HG.out.symm, HB.out.2⟩
  | true =>
    cases h2 : goodTgV e.tg e.vl e.pr with
    | false =>
      have HG := Lib.hid (show e.good = false by unfold Eth.good goodEV; rw [h1, h2]; rfl)
      have H1 := Lib.hid h1
      have H2 := Lib.hid h2
      clear h1 h2
      go_enter Try.func9, Try.ntmps9
      go_upto_region 1 with (fail)
      generalize w.alloc (.cells (ethC e).toArray 25) = W at HB ⊢
      have c4 := HB.out.1.ty ho
      have hr := HB.out.1.row ho
      clear ho
      go_wp2_with (first
        | (go_at_call 19; refine (goodType_any e.ty _).mono ?_; rintro x w1 ⟨rfl, rfl⟩; rw [H1.out])
        | (go_at_call 20; refine (goodTag_any e Ho.out _).mono ?_; rintro x w1 ⟨rfl, hb1⟩; rw [H2.out]; have HB1 := Lib.hid (HB.out.keep hb1); clear hb1 hr c4))
      go_ret
      exact ⟨ret_bool HG.out.symm, HB1.out.2⟩
    | true =>
      have HG := Lib.hid (show e.good = decide ((e.bd.length : Int) ≤ 1500) by unfold Eth.good goodEV; rw [h1, h2, Bool.eq_iff_iff]; simp; omega)
      have H1 := Lib.hid h1
      have H2 := Lib.hid h2
      clear h1 h2
      go_enter Try.func9, Try.ntmps9
      go_upto_region 1 with (fail)
      generalize w.alloc (.cells (ethC e).toArray 25) = W at HB ⊢
      have c4 := HB.out.1.ty ho
      have hr := HB.out.1.row ho
      clear ho
      go_wp2_with (first
        | (go_at_call 19; refine (goodType_any e.ty _).mono ?_; rintro x w1 ⟨rfl, rfl⟩; rw [H1.out])
        | (go_at_call 20; refine (goodTag_any e Ho.out _).mono ?_; rintro x w1 ⟨rfl, hb1⟩; rw [H2.out]; have HB1 := Lib.hid (HB.out.keep hb1); have c5 := HB1.out.1.bd Ho.out; clear hb1 hr c4))
      go_ret
      exact ⟨ret_bool HG.out.symm, HB1.out.2⟩

set_option maxRecDepth 100000 in
set_option maxHeartbeats 1000000 in
theorem size_any (e : Eth) (ho : e.ok) (hl : e.bd.length ≤ 1000000) (w : World) : Calls Try.prog 14 #[.agg (ethC e).toArray] w fun x w' => x = .returned (.int .i64 e.wrt.length) ∧ Below w.heap.size w w' := by
  have HB := Lib.hid (EB.made w e)
  have hsz := Str_size e.bd
  have HL := Lib.hid (wrtL_length e.to e.fr e.tg e.vl e.pr e.ty e.bd ho.1 ho.2)
  obtain ⟨R, hR⟩ : ∃ R, R = e.wrt.length := ⟨_, rfl⟩
  rw [← hR]
  have HR := Lib.hid hR; clear hR
  go_enter Try.func14, Try.ntmps14
  go_upto_region 1 with (fail)
  generalize w.alloc (.cells (ethC e).toArray 25) = W at HB ⊢
  have c1 := HB.out.1.tg ho
  have c5 := HB.out.1.bd ho
  have Hb := Lib.hid HB.out.2
  clear HB ho
  obtain ⟨to, fr, tg, v, p, k, b⟩ := e
  simp only at c1 c5 hl hsz
  cases tg <;>
  · go_wp2
    go_ret
    exact ⟨ret_int (by rw [HR.out]; unfold Eth.wrt; rw [HL.out]; simp; try omega), Hb.out⟩

theorem put_vlan (w : World) : Calls Try.prog 18 #[.int .u64 33024, .int .i64 2] w fun e w' => e = .returned (.string (Str [129, 0])) ∧ Below w.heap.size w w' := put_two 33024 (by omega) w
theorem clamp13 : clampN 13 64 = 13 ∧ clampN 3 64 = 3 := ⟨rfl, rfl⟩
set_option maxRecDepth 100000 in
set_option maxHeartbeats 1000000 in
theorem tag_any (e : Eth) (ho : e.ok) (hg : goodTgV e.tg e.vl e.pr = true) (w : World) : Calls Try.prog 17 #[.agg (ethC e).toArray] w fun x w' => x = .returned (.string (Str (tagL e.tg e.vl e.pr))) ∧ Below w.heap.size w w' := by
  have HB := Lib.hid (EB.made w e)
  obtain ⟨to, fr, tg, v, p, k, b⟩ := e
  simp only at hg
  show Calls Try.prog 17 _ w fun x w' => x = .returned (.string (Str (tagL tg v p))) ∧ Below w.heap.size w w'
  cases tg with
  | false =>
    have HT := Lib.hid (show Str (tagL false v p) = ⟨#[]⟩ from rfl)
    go_enter Try.func17, Try.ntmps17
    go_upto_region 1 with (fail)
    generalize w.alloc (.cells (ethC _).toArray 25) = W at HB ⊢
    have c1 := HB.out.1.tg ho
    have Hb := Lib.hid HB.out.2
    clear HB ho
    simp only at c1
    go_wp2
    go_ret
    exact ⟨by rw [HT.out]; rfl, Hb.out⟩
  | true =>
    simp only [goodTgV, if_true, decide_eq_true_eq] at hg
    obtain ⟨vn, rfl⟩ := Int.eq_ofNat_of_zero_le (show 0 ≤ v by omega)
    obtain ⟨pn, rfl⟩ := Int.eq_ofNat_of_zero_le (show 0 ≤ p by omega)
    have hv : vn ≤ 4094 := by omega
    have hp : pn ≤ 7 := by omega
    have hS := setN_tag vn pn (by omega) hp
    have hT : tagL true (vn : Int) (pn : Int) = [129, 0] ++ putL (8192 * pn + vn) 2 := by unfold tagL; rw [if_pos rfl, show (8192 * (pn : Int) + (vn : Int)).toNat = 8192 * pn + vn by omega]; rfl
    have hle : 8192 * pn + vn ≤ 18446744073709551615 := by omega
    generalize 8192 * pn + vn = N at hS hT hle
    have HS := Lib.hid hS
    have HT := Lib.hid hT
    have HVB := Lib.hid hle
    clear hS hT hle
    have HV := Lib.hid (show IntKind.u64.wrap (vn : Int) = (vn : Int) by simp only [IntKind.wrap_u64]; omega)
    have HP := Lib.hid (show IntKind.u64.wrap (pn : Int) = (pn : Int) by simp only [IntKind.wrap_u64]; omega)
    obtain ⟨R, hR⟩ : ∃ R, R = tagL true (vn : Int) (pn : Int) := ⟨_, rfl⟩
    rw [← hR]
    have HR := Lib.hid hR; clear hR
    have hcat := run_cat (P := Try.prog) [129, 0] (putL N 2) (by simp [putL_length])
    have HVN : Hid (vn ≤ 4094 ∧ pn ≤ 7) := Lib.hid ⟨hv, hp⟩
    clear hg
    go_enter Try.func17, Try.ntmps17
    go_upto_region 1 with (fail)
    generalize w.alloc (.cells (ethC _).toArray 25) = W at HB ⊢
    have c1 := HB.out.1.tg ho
    have c2 := HB.out.1.vl ho
    have c3 := HB.out.1.pr ho
    simp only at c1 c2 c3
    have Hb := Lib.hid HB.out.2
    clear HB ho
    go_wp2_with (first
      | (go_at_call 30; refine (set_any vn (by have := HVN.out; omega) 13 3 pn (by have := HVN.out; omega) _).mono ?_; rintro x w1 ⟨rfl, rfl⟩; rw [clamp13.1, clamp13.2, HS.out])
      | (go_at_call 18; (with_reducible refine (put_vlan _).mono ?_); rintro x w2 ⟨rfl, hb2⟩; have Hb2 := Lib.hid (bstep Hb.out hb2); clear hb2 Hb c1 c2 c3)
      | (go_at_call 18; (with_reducible refine (put_two N HVB.out _).mono ?_); rintro x w3 ⟨rfl, hb3⟩; have Hb3 := Lib.hid (bstep Hb2.out hb3); clear hb3))
    go_ret
    exact ⟨by rw [HR.out, HT.out]; rfl, Hb3.out⟩
end Go.Proofs.Ytbanjmdfjodhaaa
