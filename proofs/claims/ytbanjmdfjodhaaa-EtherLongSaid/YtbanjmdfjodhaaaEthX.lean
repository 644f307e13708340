/-
  The walk of the law EtherWrites.
-/
import Derived.Test.YtbanjmdfjodhaaaEthL
namespace Go.Proofs.Ytbanjmdfjodhaaa
open Go.RowKit
set_option linter.unusedVariables false
attribute [local go_sem ↓] bld_eth ld_eth st_eth ld_mac st_mac
attribute [local go_sem] ldr_eth str_eth ldr_mac str_mac

def Eth.cut (e : Eth) (n : Nat) : Eth := ⟨e.to, e.fr, e.tg, e.vl, e.pr, e.ty, e.bd.take n⟩
theorem EB.set {w W : World} {e e' : Eth} (h : EB w W e) (ho : e.ok) (j : Nat) (v : Value) (he : B8 e.to ++ (B8 e.fr ++ [.bool e.tg, .int .i64 e.vl, .int .i64 e.pr, .int .i64 e.ty, .string (Str e.bd)].set j v) = ethC e') : EB w (W.setCell ⟨w.heap.size, 12 + j, none⟩ v) e' := by
  refine ⟨?_, h.2.setCell (p := ⟨w.heap.size, 12 + j, none⟩) (Nat.le_refl _) v⟩
  have := ObjAt.set h.1 (12 + j) v
  rw [ethC_set e ho, he] at this
  exact this
theorem boolself (b : Bool) : (b != b) = false := by cases b <;> rfl
/-- The frame boxed first, and another one made later. -/
def E2 (w W : World) (n : Nat) (e f : Eth) : Prop := EB w W e ∧ EthAt W n f ∧ w.heap.size < n
theorem E2.below {w W W' : World} {n : Nat} {e f : Eth} (h : E2 w W n e f) (hb : Below W.heap.size W W') : E2 w W' n e f := ⟨h.1.keep hb, h.2.1.below hb, h.2.2⟩
theorem E2.made {w W : World} {e : Eth} (h : EB w W e) (f : Eth) (hf : f.ok) : E2 w (aggW (W.alloc (.cells (ethC zeroE).toArray 25)) W.heap.size (ethC f)) W.heap.size e f := by
  have hl := h.lt
  exact ⟨⟨aggW_other (ObjAt.alloc h.1 _) _ (by omega), aggW_below (h.2.alloc (by omega) _) (by omega) _⟩, aggW_obj (ObjAt.made W (ethC zeroE).toArray 25) (by rw [ethC_length hf, ethC_length zeroE_ok]) (ethC_one f), hl⟩

set_option maxRecDepth 100000 in
set_option maxHeartbeats 2000000 in
theorem ewrites (e0 : Eth) (ho0 : e0.ok) (hl0 : e0.bd.length ≤ maxLen) (w : World) : Calls Try.prog 3 #[.agg (ethC e0).toArray] w fun x w' => x = .returned (.bool true) ∧ Below w.heap.size w w' := by
  have HB0 := Lib.hid (EB.made w e0)
  obtain ⟨e, he⟩ : ∃ e, e = e0.cut 60 := ⟨_, rfl⟩
  have ho : e.ok := by rw [he]; exact ho0
  have hl : e.bd.length ≤ 60 := by rw [he]; simp [Eth.cut]; omega
  have HC : Hid (∀ W, Calls Try.prog 7 #[.string (Str e0.bd), .int .i64 60] W fun x w' => x = .returned (.string (Str e.bd)) ∧ W = w') := Lib.hid fun W => by
    have := cut_any (Str e0.bd) (by rw [Str_size]; exact hl0) 60 (by omega) W
    rw [cutB_str] at this
    rw [he]; exact this
  have HS : Hid (∀ W, EB w W e0 → EB w (W.setCell ⟨w.heap.size, 16, none⟩ (.string (Str e.bd))) e) := Lib.hid fun W h => h.set ho0 4 (.string (Str e.bd)) (by rw [he]; rfl)
  have HO0 := Lib.hid ho0
  have HO := Lib.hid ho
  have HL := Lib.hid hl
  have hst : ∀ t : List UInt8, (t == t) = true := fun t => by simp
  have hsi : ∀ t : Int, (t == t) = true := fun t => by simp
  have hbs := boolself
  have heq := eq_eth e ho
  have HK : Hid (∀ W, EB w W e → row? W w.heap.size 0 17 = some (ethC e) ∧ EB w W e) := Lib.hid fun W h => ⟨h.1.row ho, h⟩
  have hbl : (⟨#[]⟩ : ByteArray) = Str [] := rfl
  clear ho0 hl0 he ho hl
  cases hg : e.good with
  | false =>
    have HG := Lib.hid hg; clear hg
    go_enter Try.func3, Try.ntmps3
    go_upto_region 1 with (fail)
    generalize w.alloc (.cells (ethC e0).toArray 25) = W at HB0 ⊢
    have c5 := HB0.out.1.bd HO0.out
    have f5 := EthAt.frz HB0.out.1 16
    have HB := Lib.hid (HS.out _ HB0.out)
    go_upto_region 2 with (go_at_call 7; (with_reducible refine (HC.out _).mono ?_); rintro x w1 ⟨rfl, rfl⟩)
    generalize World.setCell _ _ _ = W1 at HB ⊢
    have hr := HB.out.1.row HO.out
    clear c5 f5
    go_upto_region 3 with (go_at_call 8; (refine (write_bad e HO.out (by have := HL.out; omega) HG.out _).mono ?_); rintro x w2 ⟨rfl, hb2⟩; have HB2 := Lib.hid (HB.out.keep hb2); clear hb2 hr)
    go_region_held3 (fun W => row? W w.heap.size 0 17 = some (ethC e) ∧ EB w W e) (first | assumption | exact HK.out _ HB2.out | exact HK.out _ (HB2.out.drewN 1)) (first
      | (go_at_call 9; (refine (goodE_any e HO.out (by have := HL.out; omega) _).mono ?_); rintro x w3 ⟨rfl, hb3⟩; rw [HG.out]; have hk := HK.out _ (EB.keep (And.right (by assumption)) hb3); clear hb3)
      | (go_at_call 10; (refine (rgoodE_any e HO.out (by have := HL.out; omega) _).mono ?_); rintro x w3 ⟨rfl, hb3⟩; rw [HG.out]; have hk := HK.out _ (EB.keep (And.right (by assumption)) hb3); clear hb3))
    have HB3 := Lib.hid hk.2
    clear hk
    have hr := HB3.out.1.row HO.out
    go_wp2_with (first
      | (go_at_call 10; (refine (rgoodE_any e HO.out (by have := HL.out; omega) _).mono ?_); rintro x w4 ⟨rfl, hb4⟩; rw [HG.out]; have HB4 := Lib.hid (HB3.out.keep hb4); clear hb4 hr)
      | (go_at_call 11; (with_reducible refine (lives4_any _).mono ?_); rintro x w5 ⟨rfl, hb5⟩; have HB5 := Lib.hid (HB4.out.keep hb5); clear hb5))
    go_ret
    exact ⟨rfl, HB5.out.2⟩
  | true =>
    have HG := Lib.hid hg
    obtain ⟨g1, g2, g3⟩ := good_parts hg
    have HR : Hid (∀ W, Calls Try.prog 12 #[.string (Str e.wrt)] W fun x w' => x = .returned (.tuple #[.agg (ethC e).toArray, .int .i64 0]) ∧ Below W.heap.size W w') := Lib.hid fun W => by
      have hlen := wrtL_length e.to e.fr e.tg e.vl e.pr e.ty e.bd HO.out.1 HO.out.2
      have := read_any e.wrt (by unfold Eth.wrt; rw [hlen]; split <;> omega) W
      rw [read_wrt e HO.out g1 g2, if_pos g3] at this
      exact this
    have HRW : Hid (∀ W, Calls Try.prog 13 #[.agg (ethC e).toArray] W fun x w' => x = .returned (.string (Str e.wrt)) ∧ Below W.heap.size W w') := Lib.hid fun W => rwrite4_any e HO.out g1 g2 (by omega) W
    have hfok := fok_eth HO.out
    have hsz := Str_size e.wrt
    have HSZ := Lib.hid (fun W => size_any e HO.out (by have := HL.out; omega) W)
    have HWG := Lib.hid (fun W => write_good e HO.out hg W)
    have hwl : e.wrt.length ≤ 1000000 := by
      unfold Eth.wrt; rw [wrtL_length e.to e.fr e.tg e.vl e.pr e.ty e.bd HO.out.1 HO.out.2]; split <;> omega
    generalize e.wrt.length = Ln at hsz HSZ hwl
    generalize Str e.wrt = S at HR HRW hsz HWG
    have hss2 : (S.toList == S.toList) = true := hst _
    clear hg g1 g2 g3 hbl
    go_enter Try.func3, Try.ntmps3
    go_upto_region 1 with (fail)
    generalize w.alloc (.cells (ethC e0).toArray 25) = W at HB0 ⊢
    have c5 := HB0.out.1.bd HO0.out
    have f5 := EthAt.frz HB0.out.1 16
    have HB := Lib.hid (HS.out _ HB0.out)
    go_upto_region 2 with (go_at_call 7; (with_reducible refine (HC.out _).mono ?_); rintro x w1 ⟨rfl, rfl⟩)
    generalize World.setCell _ _ _ = W1 at HB ⊢
    have hr := HB.out.1.row HO.out
    clear c5 f5
    go_upto_region 3 with (go_at_call 8; (with_reducible refine (HWG.out _).mono ?_); rintro x w2 ⟨rfl, hb2⟩; have HB2 := Lib.hid (HB.out.keep hb2); clear hb2 hr)
    go_region_held3 (fun W => row? W w.heap.size 0 17 = some (ethC e) ∧ EB w W e) (first | assumption | exact HK.out _ HB2.out | exact HK.out _ (HB2.out.drewN 1)) (first
      | (go_at_call 9; (refine (goodE_any e HO.out (by have := HL.out; omega) _).mono ?_); rintro x w3 ⟨rfl, hb3⟩; rw [HG.out]; have hk := HK.out _ (EB.keep (And.right (by assumption)) hb3); clear hb3)
      | (go_at_call 10; (refine (rgoodE_any e HO.out (by have := HL.out; omega) _).mono ?_); rintro x w3 ⟨rfl, hb3⟩; rw [HG.out]; have hk := HK.out _ (EB.keep (And.right (by assumption)) hb3); clear hb3))
    have HB3 := Lib.hid hk.2
    clear hk
    have hr := HB3.out.1.row HO.out
    go_upto_region 7 with (go_at_call 10; (refine (rgoodE_any e HO.out (by have := HL.out; omega) _).mono ?_); rintro x w4 ⟨rfl, hb4⟩; rw [HG.out]; have HB4 := Lib.hid (HB3.out.keep hb4); clear hb4 hr)
    have hr := HB4.out.1.row HO.out
    go_upto_region 8 with (first
      | (go_at_call 13; (with_reducible refine (HRW.out _).mono ?_); rintro x w5 ⟨rfl, hb5⟩; have HB5 := Lib.hid (HB4.out.keep hb5); clear hb5 hr)
      | (go_at_call 12; (with_reducible refine (HR.out _).mono ?_); rintro x w6 ⟨rfl, hb6⟩; have HB6 := Lib.hid (HB5.out.keep hb6); have hf6 := free_made w6 #[.int .u8 0, .int .u8 0, .int .u8 0, .int .u8 0, .int .u8 0, .int .u8 0, .int .u8 0, .int .u8 0, .int .u8 0, .int .u8 0, .int .u8 0, .int .u8 0, .bool false, .int .i64 0, .int .i64 0, .int .i64 0, .string ⟨#[]⟩] 25 17 (by simp); have hs6 := E2.made HB6.out e HO.out; rw [zeroE_cells] at hs6; have H2 := Lib.hid hs6; clear hb6 hs6))
    generalize aggW (w6.alloc (.cells #[.int .u8 0, .int .u8 0, .int .u8 0, .int .u8 0, .int .u8 0, .int .u8 0, .int .u8 0, .int .u8 0, .int .u8 0, .int .u8 0, .int .u8 0, .int .u8 0, .bool false, .int .i64 0, .int .i64 0, .int .i64 0, .string ⟨#[]⟩] 25)) w6.heap.size _ = W7 at H2 ⊢
    clear hf6
    generalize w6.heap.size = m at H2 ⊢
    have hr := H2.out.1.1.row HO.out
    go_wp2_with (first
      | (go_at_call 13; (with_reducible refine (HRW.out _).mono ?_); rintro x w8 ⟨rfl, hb8⟩; have H3 := Lib.hid (H2.out.below hb8); clear hb8 hr; have hr := H3.out.1.1.row HO.out)
      | (go_at_call 14; (with_reducible refine (HSZ.out _).mono ?_); rintro x w9 ⟨rfl, hb9⟩; have H4 := Lib.hid (H3.out.below hb9); clear hb9 hr; have hr := H4.out.1.1.row HO.out; have hr2 := H4.out.2.1.row HO.out)
      | (go_at_call 11; (with_reducible refine (lives4_any _).mono ?_); rintro x w10 ⟨rfl, hb10⟩; have H5 := Lib.hid (H4.out.below hb10); clear hb10))
    go_ret
    exact ⟨rfl, H5.out.1.2⟩
end Go.Proofs.Ytbanjmdfjodhaaa
