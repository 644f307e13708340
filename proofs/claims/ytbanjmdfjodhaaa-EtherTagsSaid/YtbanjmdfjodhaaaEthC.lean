/-
  The contract of ether.Write.
-/
import Derived.Test.YtbanjmdfjodhaaaEthB
namespace Go.Proofs.Ytbanjmdfjodhaaa
open Go.RowKit
set_option linter.unusedVariables false
attribute [local go_sem ↓] bld_eth ld_eth st_eth ld_mac st_mac
attribute [local go_sem] ldr_eth str_eth ldr_mac str_mac

/-- All that a walk asks of a frame boxed first of all. -/
def EF (w W : World) (e : Eth) : Prop := row? W w.heap.size 0 17 = some (ethC e) ∧ RowAt W w.heap.size 0 e.to ∧ RowAt W w.heap.size 6 e.fr ∧ W.cell? ⟨w.heap.size, 15, none⟩ = some (.int .i64 e.ty) ∧ W.cell? ⟨w.heap.size, 16, none⟩ = some (.string (Str e.bd)) ∧ EB w W e
theorem EthAt.rowTo {W : World} {b : Nat} {e : Eth} (h : EthAt W b e) (ho : e.ok) : RowAt W b 0 e.to := fun i hi => by
  rw [ObjAt.cell h, List.getElem?_toArray]
  unfold ethC
  rw [List.getElem?_append_left (by rw [B8_length]; omega), Nat.zero_add, B8_get, List.getElem?_eq_getElem hi]; rfl
theorem EthAt.rowFr {W : World} {b : Nat} {e : Eth} (h : EthAt W b e) (ho : e.ok) : RowAt W b 6 e.fr := fun i hi => by
  rw [ObjAt.cell h, List.getElem?_toArray]
  unfold ethC
  rw [List.getElem?_append_right (by rw [B8_length, ho.1]; omega), B8_length, ho.1, Nat.add_sub_cancel_left, List.getElem?_append_left (by rw [B8_length]; omega), B8_get, List.getElem?_eq_getElem hi]; rfl
theorem EB.ef {w W : World} {e : Eth} (h : EB w W e) (ho : e.ok) : EF w W e := ⟨h.1.row ho, h.1.rowTo ho, h.1.rowFr ho, h.1.ty ho, h.1.bd ho, h⟩

def Eth.wr (e : Eth) : List UInt8 × Int := if e.good then (e.wrt, 0) else ([], 2)
set_option maxRecDepth 100000 in
set_option maxHeartbeats 1000000 in
theorem write_bad (e : Eth) (ho : e.ok) (hl : e.bd.length ≤ 1000000) (hg : e.good = false) (w : World) : Calls Try.prog 8 #[.agg (ethC e).toArray] w fun x w' => x = .returned (.tuple #[.string (Str []), .int .i64 2]) ∧ Below w.heap.size w w' := by
  have HB := Lib.hid (EB.made w e)
  have HG := Lib.hid hg
  have Ho := Lib.hid ho
  clear hg
  go_enter Try.func8, Try.ntmps8
  go_upto_region 1 with (fail)
  generalize w.alloc (.cells (ethC e).toArray 25) = W at HB ⊢
  have hr := HB.out.1.row ho
  clear ho
  go_wp2_with (go_at_call 9; refine (goodE_any e Ho.out hl _).mono ?_; rintro x w1 ⟨rfl, hb1⟩; rw [HG.out]; have HB1 := Lib.hid (HB.out.keep hb1); clear hb1 hr)
  go_ret2
  exact ⟨rfl, HB1.out.2⟩

set_option maxRecDepth 100000 in
set_option maxHeartbeats 1000000 in
theorem write_good (e : Eth) (ho : e.ok) (hg : e.good = true) (w : World) : Calls Try.prog 8 #[.agg (ethC e).toArray] w fun x w' => x = .returned (.tuple #[.string (Str e.wrt), .int .i64 0]) ∧ Below w.heap.size w w' := by
  have HB := Lib.hid (EB.made w e)
  have HG := Lib.hid hg
  have Ho := Lib.hid ho
  have hg2 := hg
  unfold Eth.good goodEV at hg2
  simp only [Bool.and_eq_true, decide_eq_true_eq] at hg2
  obtain ⟨g1, g2, g3⟩ := hg2
  unfold goodTyV at g1
  rw [decide_eq_true_eq] at g1
  have HG2 := Lib.hid g2
  have HL := Lib.hid (show e.bd.length ≤ 1000000 by omega)
  obtain ⟨kn, hk⟩ := Int.eq_ofNat_of_zero_le (show 0 ≤ e.ty by omega)
  have HW := Lib.hid (show e.wrt = e.to ++ (e.fr ++ (tagL e.tg e.vl e.pr ++ (putL kn 2 ++ e.bd))) by unfold Eth.wrt wrtL; rw [hk]; rfl)
  have hkw : IntKind.u64.wrap (kn : Int) = (kn : Int) := by simp only [IntKind.wrap_u64]; omega
  have hkb : kn ≤ 18446744073709551615 := by omega
  have HKB := Lib.hid hkb
  have ht4 : (tagL e.tg e.vl e.pr).length ≤ 4 := by rw [tagL_length]; split <;> omega
  have hT := fun w => tag_any e ho g2 w
  generalize tagL e.tg e.vl e.pr = T at HW ht4 hT
  have HT := Lib.hid hT; clear hT
  obtain ⟨l1, l2⟩ := id ho
  have hA := row_to (P := Try.prog) (b := w.heap.size) (o := 0) (l := e.to) 40 9 5 Try.underlying40 Try.underlying5 Try.underlying9 6 6 (by omega)
  have hB := row_to (P := Try.prog) (b := w.heap.size) (o := 6) (l := e.fr) 40 9 5 Try.underlying40 Try.underlying5 Try.underlying9 6 6 (by omega)
  rw [List.take_of_length_le (by omega)] at hA hB
  have c1 := run_cat (P := Try.prog) e.to e.fr (by omega)
  have c2 := run_cat (P := Try.prog) (e.to ++ e.fr) T (by simp; omega)
  have c3 := run_cat (P := Try.prog) (e.to ++ (e.fr ++ T)) (putL kn 2) (by simp [putL_length]; omega)
  have c4 := run_cat (P := Try.prog) (e.to ++ (e.fr ++ (T ++ putL kn 2))) e.bd (by simp [putL_length]; omega)
  simp only [List.append_assoc] at c2 c3 c4
  have HK : Hid (∀ W, EB w W e → row? W w.heap.size 0 17 = some (ethC e) ∧ RowAt W w.heap.size 0 e.to ∧ RowAt W w.heap.size 6 e.fr ∧ W.cell? ⟨w.heap.size, 15, none⟩ = some (.int .i64 (kn : Int)) ∧ W.cell? ⟨w.heap.size, 16, none⟩ = some (.string (Str e.bd)) ∧ EB w W e) :=
    Lib.hid fun W h => by
      obtain ⟨q1, q2, q3, q4, q5, q6⟩ := h.ef ho
      rw [hk] at q4
      exact ⟨q1, q2, q3, q4, q5, q6⟩
  have hr0 : ∀ W, EB w W e → row? W w.heap.size 0 17 = some (ethC e) := fun W h => h.1.row ho
  have HR0 := Lib.hid hr0
  have Hk := Lib.hid hk
  have h4 := Lib.hid ht4
  clear hg g1 g2 g3 hk ht4 l1 l2 ho hkb hr0
  go_enter Try.func8, Try.ntmps8
  go_upto_region 1 with (fail)
  generalize w.alloc (.cells (ethC e).toArray 25) = W at HB ⊢
  have hr := HR0.out _ HB.out
  go_upto_region 3 with (go_at_call 9; refine (goodE_any e Ho.out HL.out _).mono ?_; rintro x w1 ⟨rfl, hb1⟩; rw [HG.out]; have HB1 := Lib.hid (HB.out.keep hb1); clear hb1 hr)
  go_region_held3 (fun W => row? W w.heap.size 0 17 = some (ethC e) ∧ RowAt W w.heap.size 0 e.to ∧ RowAt W w.heap.size 6 e.fr ∧ W.cell? ⟨w.heap.size, 15, none⟩ = some (.int .i64 (kn : Int)) ∧ W.cell? ⟨w.heap.size, 16, none⟩ = some (.string (Str e.bd)) ∧ EB w W e) (first | assumption | exact HK.out _ (HB1.out.drewN 1)) (first
    | (go_at_call 18; (with_reducible refine (put_two kn HKB.out _).mono ?_); rintro x w3 ⟨rfl, hb3⟩; have hk := HK.out _ (EB.keep (w := w) (e := e) (And.right (And.right (And.right (And.right (And.right (by assumption)))))) hb3); clear hb3)
    | (go_at_call 17; refine (HT.out _).mono ?_; rintro x w3 ⟨rfl, hb3⟩; have hk := HK.out _ (EB.keep (w := w) (e := e) (And.right (And.right (And.right (And.right (And.right (by assumption)))))) hb3); clear hb3))
  go_wp2_with fail
  go_ret2
  exact ⟨by rw [HW.out]; rfl, hk.2.2.2.2.2.2⟩
end Go.Proofs.Ytbanjmdfjodhaaa
