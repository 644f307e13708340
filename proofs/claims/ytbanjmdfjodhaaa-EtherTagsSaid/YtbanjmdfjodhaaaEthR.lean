/-
  The document's own bytes of a frame.
-/
import Derived.Test.YtbanjmdfjodhaaaEthC
import Derived.Test.YtbanjmdfjodhaaaRefPseudo
namespace Go.Proofs.Ytbanjmdfjodhaaa
open Go.RowKit
set_option linter.unusedVariables false
attribute [local go_sem ↓] bld_eth ld_eth st_eth ld_mac st_mac
attribute [local go_sem] ldr_eth str_eth ldr_mac str_mac

theorem objRow {w : World} {b : Nat} {l : List UInt8} {t : TypeId} (h : ObjAt w b (B8 l).toArray t) : RowAt w b 0 l := fun i hi => by
  rw [h.cell, List.getElem?_toArray, Nat.zero_add, B8_get, List.getElem?_eq_getElem hi]; rfl

set_option maxRecDepth 100000 in
set_option maxHeartbeats 1000000 in
theorem rmac4_any (m : List UInt8) (hm : m.length = 6) (w : World) : Calls Try.prog 27 #[.agg (B8 m).toArray] w fun x w' => x = .returned (.string (Str m)) ∧ Below w.heap.size w w' := by
  have h0 : ObjAt (w.alloc (.cells (B8 m).toArray 23)) w.heap.size (B8 m).toArray 23 := ObjAt.made w _ _
  have HQ : Hid (RowAt (w.alloc (.cells (B8 m).toArray 23)) w.heap.size 0 m ∧ w.heap.size < (w.alloc (.cells (B8 m).toArray 23)).heap.size ∧ Below w.heap.size w (w.alloc (.cells (B8 m).toArray 23))) := Lib.hid ⟨objRow h0, h0.lt, (Below.refl _ _).alloc (Nat.le_refl _) _⟩
  clear h0
  have Hm := Lib.hid hm
  go_enter Try.func27, Try.ntmps27
  go_upto_region 1 with (fail)
  generalize w.alloc (.cells (B8 m).toArray 23) = W at HQ ⊢
  go_wp2_with fail
  go_loopw [3, 4] (fun t i wr => ∃ k : Nat, k ≤ 6 ∧ i = .int .i64 k ∧ t = .string (Str (m.take k)) ∧ RowAt wr w.heap.size 0 m ∧ w.heap.size < wr.heap.size ∧ Below w.heap.size w wr) (fun _ i _ => 6 - (intOf i).toNat)
  case atStart => exact ⟨0, by omega, rfl, by first | rfl | simp, HQ.out⟩
  case round _ _ wr =>
    obtain ⟨k, hk, rfl, rfl, hq⟩ := hrel
    have Hq := Lib.hid hq; clear hq
    by_cases hlt : k < 6
    · have hc := Hq.out.1 k (by omega)
      rw [Nat.zero_add] at hc
      have Hs := Lib.hid (take_snoc_l m k (by omega))
      generalize hbb : m[k] = b at hc Hs
      have Hbb := Lib.hid hbb; clear hbb
      have hb8 := b.toNat_lt
      have Hby := Lib.hid (putL_byte b)
      have hrun := run_cat (P := Try.prog) (m.take k) [b] (by simp; omega)
      rw [Hs.out] at hrun
      have hwb : IntKind.u64.wrap (b.toNat : Int) = (b.toNat : Int) := by simp only [IntKind.wrap_u64]; omega
      go_wp2_with fail
      refine (rput_one b.toNat (by omega) _).mono ?_
      rintro e w1 ⟨rfl, hb1⟩
      rw [Hby.out]
      have Hq1 := Lib.hid (show RowAt w1 w.heap.size 0 m ∧ w.heap.size < w1.heap.size ∧ Below w.heap.size w w1 from ⟨Hq.out.1.below Hq.out.2.1 hb1, Nat.lt_of_lt_of_le Hq.out.2.1 hb1.size, bstep Hq.out.2.2 hb1⟩); clear hb1
      go_wp2_with fail
      go_roundw
      case rel => exact ⟨k + 1, by omega, by go_num, by simp, Hq1.out⟩
      case measure => simp [intOf]; omega
    · obtain rfl : k = 6 := by omega
      have e6 : m.take 6 = m := List.take_of_length_le (by omega)
      rw [e6]
      clear e6
      go_wp2_with fail
      go_ret
      exact ⟨rfl, Hq.out.2.2⟩

set_option maxRecDepth 100000 in
set_option maxHeartbeats 1000000 in
theorem rwrite4_any (e : Eth) (ho : e.ok) (hy : goodTyV e.ty = true) (hg : goodTgV e.tg e.vl e.pr = true) (hl : e.bd.length ≤ 100000) (w : World) : Calls Try.prog 13 #[.agg (ethC e).toArray] w fun x w' => x = .returned (.string (Str e.wrt)) ∧ Below w.heap.size w w' := by
  have HB := Lib.hid (EB.made w e)
  have Ho := Lib.hid ho
  obtain ⟨to, fr, tg, v, p, k, b⟩ := e
  simp only at hy hg hl
  unfold goodTyV at hy
  rw [decide_eq_true_eq] at hy
  obtain ⟨kn, rfl⟩ := Int.eq_ofNat_of_zero_le (show 0 ≤ k by omega)
  obtain ⟨l1, l2⟩ := id ho
  simp only at l1 l2
  have hkw : IntKind.u64.wrap (kn : Int) = (kn : Int) := by simp only [IntKind.wrap_u64]; omega
  have HKB := Lib.hid (show kn ≤ 18446744073709551615 by omega)
  have HM1 := Lib.hid (fun W => rmac4_any to l1 W)
  have HM2 := Lib.hid (fun W => rmac4_any fr l2 W)
  have c1 := run_cat (P := Try.prog) to fr (by omega)
  have HK : Hid (∀ W, EB w W ⟨to, fr, tg, v, p, kn, b⟩ → row? W w.heap.size 0 6 = some (B8 to) ∧ row? W w.heap.size 6 6 = some (B8 fr) ∧ EB w W ⟨to, fr, tg, v, p, kn, b⟩) := Lib.hid fun W h => ⟨h.1.rto ho, h.1.rfr ho, h⟩
  have HF : Hid (∀ W, EB w W ⟨to, fr, tg, v, p, kn, b⟩ → W.cell? ⟨w.heap.size, 12, none⟩ = some (.bool tg) ∧ W.cell? ⟨w.heap.size, 13, none⟩ = some (.int .i64 v) ∧ W.cell? ⟨w.heap.size, 14, none⟩ = some (.int .i64 p) ∧ W.cell? ⟨w.heap.size, 15, none⟩ = some (.int .i64 kn) ∧ W.cell? ⟨w.heap.size, 16, none⟩ = some (.string (Str b))) := Lib.hid fun W h => ⟨h.1.tg ho, h.1.vl ho, h.1.pr ho, h.1.ty ho, h.1.bd ho⟩
  cases tg with
  | false =>
    have HW := Lib.hid (show (⟨to, fr, false, v, p, kn, b⟩ : Eth).wrt = to ++ (fr ++ (putL kn 2 ++ b)) by unfold Eth.wrt wrtL tagL; simp)
    have c3 := run_cat (P := Try.prog) (to ++ fr) (putL kn 2) (by simp [putL_length]; omega)
    have c4 := run_cat (P := Try.prog) (to ++ (fr ++ putL kn 2)) b (by simp [putL_length]; omega)
    simp only [List.append_assoc] at c3 c4
    have HG4 : Hid (∀ W, EB w W ⟨to, fr, false, v, p, kn, b⟩ → W.cell? ⟨w.heap.size, 15, none⟩ = some (.int .i64 kn) ∧ W.cell? ⟨w.heap.size, 16, none⟩ = some (.string (Str b)) ∧ EB w W ⟨to, fr, false, v, p, kn, b⟩) := Lib.hid fun W h => ⟨(HF.out W h).2.2.2.1, (HF.out W h).2.2.2.2, h⟩
    clear hg hy l1 l2 ho
    go_enter Try.func13, Try.ntmps13
    go_upto_region 1 with (fail)
    generalize w.alloc (.cells (ethC _).toArray 25) = W at HB ⊢
    go_region_held3 (fun W => row? W w.heap.size 0 6 = some (B8 to) ∧ row? W w.heap.size 6 6 = some (B8 fr) ∧ EB w W ⟨to, fr, false, v, p, kn, b⟩) (first | assumption | exact HK.out _ HB.out | exact HK.out _ (HB.out.drewN 1)) (first
      | (go_at_call 27; (with_reducible refine (HM1.out _).mono ?_); rintro x w3 ⟨rfl, hb3⟩; have hk := HK.out _ (EB.keep (And.right (And.right (by assumption))) hb3); clear hb3)
      | (go_at_call 27; (with_reducible refine (HM2.out _).mono ?_); rintro x w3 ⟨rfl, hb3⟩; have hk := HK.out _ (EB.keep (And.right (And.right (by assumption))) hb3); clear hb3))
    have HB2 := Lib.hid hk.2.2
    clear hk
    obtain ⟨q1, q2, q3, q4, q5⟩ := HF.out _ HB2.out
    go_upto_region 4 with (fail)
    go_region_held3 (fun W => W.cell? ⟨w.heap.size, 15, none⟩ = some (.int .i64 kn) ∧ W.cell? ⟨w.heap.size, 16, none⟩ = some (.string (Str b)) ∧ EB w W ⟨to, fr, false, v, p, kn, b⟩) (first | assumption | exact HG4.out _ HB2.out | exact HG4.out _ (HB2.out.drewN 1)) (first
      | (go_at_call 28; (with_reducible refine (rput_two kn HKB.out _).mono ?_); rintro x w4 ⟨rfl, hb3⟩; have hk := HG4.out _ (EB.keep (And.right (And.right (by assumption))) hb3); clear hb3))
    go_wp2_with fail
    go_ret
    exact ⟨by rw [HW.out]; rfl, hk.2.2.2⟩
  | true =>
    simp only [goodTgV, if_true, decide_eq_true_eq] at hg
    obtain ⟨vn, rfl⟩ := Int.eq_ofNat_of_zero_le (show 0 ≤ v by omega)
    obtain ⟨pn, rfl⟩ := Int.eq_ofNat_of_zero_le (show 0 ≤ p by omega)
    obtain ⟨N, hN⟩ : ∃ N : Nat, N = 8192 * pn + vn := ⟨_, rfl⟩
    have hN6 : N ≤ 65536 := by omega
    have HN := Lib.hid (show N ≤ 18446744073709551615 from Nat.le_trans hN6 (of_decide_eq_true rfl))
    obtain ⟨T, hT⟩ : ∃ T : List UInt8, T = [129, 0] := ⟨_, rfl⟩
    have hT2 : T.length = 2 := by rw [hT]; rfl
    have HW := Lib.hid (show (⟨to, fr, true, vn, pn, kn, b⟩ : Eth).wrt = to ++ (fr ++ (T ++ (putL N 2 ++ (putL kn 2 ++ b)))) by unfold Eth.wrt wrtL tagL; rw [if_pos rfl, show (8192 * (pn : Int) + (vn : Int)).toNat = N by omega, hT]; rfl)
    have hm1 : IntKind.i64.wrap (8192 * (pn : Int)) = 8192 * (pn : Int) := by simp only [IntKind.wrap_i64]; omega
    have hm2 : IntKind.i64.wrap (8192 * (pn : Int) + (vn : Int)) = (N : Int) := by simp only [IntKind.wrap_i64]; omega
    have hm3 : IntKind.u64.wrap (N : Int) = (N : Int) := by simp only [IntKind.wrap_u64]; omega
    have hm5 : wrap64 (N : Int) = (N : Int) := IntWalk.wrap64_in _ ⟨by omega, by omega⟩
    have hm4 : 8192 * (pn : Int) + (vn : Int) = (N : Int) := by omega
    have c2 : ∀ w, (Op.stringOp .add (Str (to ++ fr)) ⟨#[129, 0]⟩).run Try.prog w = .ok (.string (Str (to ++ (fr ++ T)))) w := fun w => by
      have := run_cat (P := Try.prog) (to ++ fr) [129, 0] (by simp; omega) w
      rw [List.append_assoc] at this
      rw [hT]; exact this
    have c3 := run_cat (P := Try.prog) (to ++ (fr ++ T)) (putL N 2) (by simp [putL_length]; omega)
    have c4 := run_cat (P := Try.prog) (to ++ (fr ++ (T ++ putL N 2))) (putL kn 2) (by simp [putL_length]; omega)
    have c5 := run_cat (P := Try.prog) (to ++ (fr ++ (T ++ (putL N 2 ++ putL kn 2)))) b (by simp [putL_length]; omega)
    simp only [List.append_assoc] at c3 c4 c5
    clear hT hT2 hg hy l1 l2 ho hN
    have HG4 : Hid (∀ W, EB w W ⟨to, fr, true, vn, pn, kn, b⟩ → W.cell? ⟨w.heap.size, 15, none⟩ = some (.int .i64 kn) ∧ W.cell? ⟨w.heap.size, 16, none⟩ = some (.string (Str b)) ∧ EB w W ⟨to, fr, true, vn, pn, kn, b⟩) := Lib.hid fun W h => ⟨(HF.out W h).2.2.2.1, (HF.out W h).2.2.2.2, h⟩
    go_enter Try.func13, Try.ntmps13
    go_upto_region 1 with (fail)
    generalize w.alloc (.cells (ethC _).toArray 25) = W at HB ⊢
    go_region_held3 (fun W => row? W w.heap.size 0 6 = some (B8 to) ∧ row? W w.heap.size 6 6 = some (B8 fr) ∧ EB w W ⟨to, fr, true, vn, pn, kn, b⟩) (first | assumption | exact HK.out _ HB.out | exact HK.out _ (HB.out.drewN 1)) (first
      | (go_at_call 27; (with_reducible refine (HM1.out _).mono ?_); rintro x w3 ⟨rfl, hb3⟩; have hk := HK.out _ (EB.keep (And.right (And.right (by assumption))) hb3); clear hb3)
      | (go_at_call 27; (with_reducible refine (HM2.out _).mono ?_); rintro x w3 ⟨rfl, hb3⟩; have hk := HK.out _ (EB.keep (And.right (And.right (by assumption))) hb3); clear hb3))
    have HB2 := Lib.hid hk.2.2
    clear hk
    obtain ⟨q1, q2, q3, q4, q5⟩ := HF.out _ HB2.out
    go_upto_region 4 with (go_at_call 28; go_loud (with_reducible refine (rput_two N HN.out _).mono ?_); rintro x w4 ⟨rfl, hb3⟩; have HB3 := Lib.hid (HB2.out.keep hb3); clear hb3 q1 q2 q3 q4 q5)
    go_region_held3 (fun W => W.cell? ⟨w.heap.size, 15, none⟩ = some (.int .i64 kn) ∧ W.cell? ⟨w.heap.size, 16, none⟩ = some (.string (Str b)) ∧ EB w W ⟨to, fr, true, vn, pn, kn, b⟩) (first | assumption | exact HG4.out _ HB3.out | exact HG4.out _ (HB3.out.drewN 1)) (first
      | (go_at_call 28; (with_reducible refine (rput_two kn HKB.out _).mono ?_); rintro x w4 ⟨rfl, hb3⟩; have hk := HG4.out _ (EB.keep (And.right (And.right (by assumption))) hb3); clear hb3))
    go_wp2_with fail
    go_ret
    exact ⟨by rw [HW.out]; rfl, hk.2.2.2⟩
end Go.Proofs.Ytbanjmdfjodhaaa
