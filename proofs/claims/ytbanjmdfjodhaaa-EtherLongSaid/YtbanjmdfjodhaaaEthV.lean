/-
  The walk of the law EtherLong.
-/
import Derived.Test.YtbanjmdfjodhaaaEthZ
namespace Go.Proofs.Ytbanjmdfjodhaaa
open Go.RowKit
set_option linter.unusedVariables false
attribute [local go_sem ↓] bld_eth ld_eth st_eth ld_mac st_mac
attribute [local go_sem] ldr_eth str_eth ldr_mac str_mac

theorem bld_long (tg : Bool) (S : ByteArray) (l : List UInt8) (h : S = Str l) (w0 : World) : (aggBuild 25 #[(2, .bool tg), (5, .int .i64 2048), (6, .string S)]).run Try.prog w0 = .ok (.agg (ethC ⟨[0, 0, 0, 0, 0, 0], [0, 0, 0, 0, 0, 0], tg, 0, 0, 2048, l⟩).toArray) w0 := by
  subst h
  exact bld_run _ _ _ (by kernel_rfl) _
/-- Two frames made later. -/
def EL (w W : World) (m n : Nat) (f g : Eth) : Prop := E1 w W m f ∧ EthAt W n g ∧ m < n
theorem EL.below {w W W' : World} {m n : Nat} {f g : Eth} (h : EL w W m n f g) (hb : Below W.heap.size W W') : EL w W' m n f g := ⟨h.1.below hb, h.2.1.below hb, h.2.2⟩
theorem EL.made {w W : World} {m : Nat} {f : Eth} (h : E1 w W m f) (g : Eth) (hg : g.ok) : EL w (aggW (W.alloc (.cells (ethC zeroE).toArray 25)) W.heap.size (ethC g)) m W.heap.size f g := by
  have hl := h.1.lt
  exact ⟨⟨aggW_other (ObjAt.alloc h.1 _) _ (by omega), aggW_below (h.2.alloc h.2.size _) h.2.size _⟩, aggW_obj (ObjAt.made W (ethC zeroE).toArray 25) (by rw [ethC_length hg, ethC_length zeroE_ok]) (ethC_one g), hl⟩

set_option maxRecDepth 100000 in
set_option maxHeartbeats 2000000 in
theorem elong (n : Int) (hn : (Lit.int .u8 n).wf = true) (tg : Bool) (w : World) : Calls Try.prog 6 #[.int .u8 n, .bool tg] w fun x w' => x = .returned (.bool true) ∧ Below w.heap.size w w' := by
  obtain ⟨n0, n1⟩ := bounds_u8 hn
  obtain ⟨k, rfl⟩ := Int.eq_ofNat_of_zero_le n0
  obtain ⟨i0, hi, hz0, hz1, hz2⟩ := info_parts Try.info_u8
  obtain ⟨L, hL⟩ : ∃ L, L = 1490 + k % 20 := ⟨_, rfl⟩
  have hLe : L ≤ 1509 := by omega
  obtain ⟨e, he⟩ : ∃ e : Eth, e = ⟨[0, 0, 0, 0, 0, 0], [0, 0, 0, 0, 0, 0], tg, 0, 0, 2048, List.replicate L 0⟩ := ⟨_, rfl⟩
  have ho : e.ok := by rw [he]; exact ⟨rfl, rfl⟩
  have hbd : e.bd.length = L := by rw [he]; simp
  have g1 : goodTyV e.ty = true := by rw [he]; rfl
  have g2 : goodTgV e.tg e.vl e.pr = true := by rw [he]; cases tg <;> rfl
  obtain ⟨S, hS⟩ : ∃ S, S = Str (List.replicate L 0) := ⟨_, rfl⟩
  have hbl := bld_long tg S _ hS
  rw [← he] at hbl
  have hlen := wrtL_length e.to e.fr e.tg e.vl e.pr e.ty e.bd ho.1 ho.2
  have hR := fun W => read_any e.wrt (by unfold Eth.wrt; rw [hlen]; split <;> omega) W
  rw [read_wrt e ho g1 g2] at hR
  have HRW := Lib.hid (fun W => rwrite4_any e ho g1 g2 (by omega) W)
  have hfok := fok_eth ho
  have hfokz := fok_eth zeroE_ok
  have hbz := bld_zero
  have heqz := eq_eth zeroE zeroE_ok
  have heqe := eq_eth e ho
  have HO := Lib.hid ho
  have HSS := Lib.hid hS
  have hcast : (1490 : Int) + (k : Int) % 20 = (L : Int) := by omega
  have hw1 : IntKind.u8.wrap ((k : Int) % 20) = (k : Int) % 20 := by simp only [IntKind.wrap_u8]; omega
  have hw2 : IntKind.i64.wrap ((k : Int) % 20) = (k : Int) % 20 := by simp only [IntKind.wrap_i64]; omega
  have hw3 : IntKind.i64.wrap (L : Int) = (L : Int) := by simp only [IntKind.wrap_i64]; omega
  by_cases hgt : L ≤ 1500
  · have hgd : e.good = true := by unfold Eth.good goodEV; rw [g1, g2, hbd]; simpa using hgt
    rw [if_pos (by omega)] at hR
    have HR := Lib.hid hR
    have HW := Lib.hid (fun W => write_good e ho hgd W)
    generalize Str e.wrt = SW at HRW HR HW
    clear hlen hR hgd g1 g2 hbd ho hS n0 n1 hL he
    go_enter Try.func6, Try.ntmps6
    go_wp2_with (at_make; refine wpList_make_full _ rfl _ _ 40 rfl w.heap.size 5 i0 (.int .u8 0) 1 Try.underlying40 hi hz0 hz1 .i64 .i64 _ _ L rfl rfl rfl rfl ?c1 ?c2 ?c3 ?_)
    case c1 => omega
    case c2 => unfold maxLen; omega
    intro w1 hown hgrow
    rw [toList_madeCells_one] at hown
    have hbel : Below w.heap.size w w1 := (Below.refl _ _).grown hgrow (Nat.le_refl _) (fun k h => by cases h)
    rw [← B8_replicate] at hown
    have hcv := run_string_own 40 9 5 Try.underlying40 Try.underlying5 Try.underlying9 hown
    rw [← HSS.out] at hcv
    have Hbel := Lib.hid hbel
    have hf1 := free_made w1 #[.int .u8 0, .int .u8 0, .int .u8 0, .int .u8 0, .int .u8 0, .int .u8 0, .int .u8 0, .int .u8 0, .int .u8 0, .int .u8 0, .int .u8 0, .int .u8 0, .bool false, .int .i64 0, .int .i64 0, .int .i64 0, .string ⟨#[]⟩] 25 17 (by simp)
    have H1 := Lib.hid (show E1 w (aggW (w1.alloc (.cells #[.int .u8 0, .int .u8 0, .int .u8 0, .int .u8 0, .int .u8 0, .int .u8 0, .int .u8 0, .int .u8 0, .int .u8 0, .int .u8 0, .int .u8 0, .int .u8 0, .bool false, .int .i64 0, .int .i64 0, .int .i64 0, .string ⟨#[]⟩] 25)) w1.heap.size (ethC e)) w1.heap.size e from E1.made hbel e HO.out)
    clear hgrow hown hbel
    go_upto_region 3 with (fail)
    generalize aggW (w1.alloc (.cells #[.int .u8 0, .int .u8 0, .int .u8 0, .int .u8 0, .int .u8 0, .int .u8 0, .int .u8 0, .int .u8 0, .int .u8 0, .int .u8 0, .int .u8 0, .int .u8 0, .bool false, .int .i64 0, .int .i64 0, .int .i64 0, .string ⟨#[]⟩] 25)) w1.heap.size _ = W3 at H1 ⊢
    clear hf1 hcv
    generalize w1.heap.size = m at H1 ⊢
    have hr := H1.out.1.row HO.out
    go_upto_region 5 with (first
      | (go_at_call 8; (with_reducible refine (HW.out _).mono ?_); rintro x w2 ⟨rfl, hb2⟩; have H2 := Lib.hid (H1.out.below hb2); clear hb2 hr; have hr := H2.out.1.row HO.out)
      | (go_at_call 13; (with_reducible refine (HRW.out _).mono ?_); rintro x w3 ⟨rfl, hb3⟩; have H3 := Lib.hid (H2.out.below hb3); clear hb3 hr)
      | (go_at_call 12; (with_reducible refine (HR.out _).mono ?_); rintro x w4 ⟨rfl, hb4⟩; have H4 := Lib.hid (H3.out.below hb4); have hf4 := free_made w4 #[.int .u8 0, .int .u8 0, .int .u8 0, .int .u8 0, .int .u8 0, .int .u8 0, .int .u8 0, .int .u8 0, .int .u8 0, .int .u8 0, .int .u8 0, .int .u8 0, .bool false, .int .i64 0, .int .i64 0, .int .i64 0, .string ⟨#[]⟩] 25 17 (by simp); have H5 := Lib.hid (show EL w (aggW (w4.alloc (.cells #[.int .u8 0, .int .u8 0, .int .u8 0, .int .u8 0, .int .u8 0, .int .u8 0, .int .u8 0, .int .u8 0, .int .u8 0, .int .u8 0, .int .u8 0, .int .u8 0, .bool false, .int .i64 0, .int .i64 0, .int .i64 0, .string ⟨#[]⟩] 25)) w4.heap.size (ethC e)) m w4.heap.size e e from EL.made H4.out e HO.out); clear hb4))
    generalize aggW (w4.alloc (.cells #[.int .u8 0, .int .u8 0, .int .u8 0, .int .u8 0, .int .u8 0, .int .u8 0, .int .u8 0, .int .u8 0, .int .u8 0, .int .u8 0, .int .u8 0, .int .u8 0, .bool false, .int .i64 0, .int .i64 0, .int .i64 0, .string ⟨#[]⟩] 25)) w4.heap.size _ = W5 at H5 ⊢
    clear hf4
    generalize w4.heap.size = q at H5 ⊢
    have hr1 := H5.out.1.1.row HO.out
    have hr2 := H5.out.2.1.row HO.out
    go_wp2_with (go_at_call 11; (with_reducible refine (lives4_any _).mono ?_); rintro x w7 ⟨rfl, hb7⟩; have H6 := Lib.hid (H5.out.below hb7); clear hb7)
    go_ret
    exact ⟨rfl, H6.out.1.2⟩
  · have hgd : e.good = false := by unfold Eth.good goodEV; rw [g1, g2, hbd]; simpa using hgt
    rw [if_neg (by omega)] at hR
    have HR := Lib.hid hR
    have HW := Lib.hid (fun W => write_bad e ho (by omega) hgd W)
    generalize Str e.wrt = SW at HRW HR
    clear hlen hR hgd g1 g2 hbd ho hS n0 n1 hL he
    go_enter Try.func6, Try.ntmps6
    go_wp2_with (at_make; refine wpList_make_full _ rfl _ _ 40 rfl w.heap.size 5 i0 (.int .u8 0) 1 Try.underlying40 hi hz0 hz1 .i64 .i64 _ _ L rfl rfl rfl rfl ?c1 ?c2 ?c3 ?_)
    case c1 => omega
    case c2 => unfold maxLen; omega
    intro w1 hown hgrow
    rw [toList_madeCells_one] at hown
    have hbel : Below w.heap.size w w1 := (Below.refl _ _).grown hgrow (Nat.le_refl _) (fun k h => by cases h)
    rw [← B8_replicate] at hown
    have hcv := run_string_own 40 9 5 Try.underlying40 Try.underlying5 Try.underlying9 hown
    rw [← HSS.out] at hcv
    have Hbel := Lib.hid hbel
    have hf1 := free_made w1 #[.int .u8 0, .int .u8 0, .int .u8 0, .int .u8 0, .int .u8 0, .int .u8 0, .int .u8 0, .int .u8 0, .int .u8 0, .int .u8 0, .int .u8 0, .int .u8 0, .bool false, .int .i64 0, .int .i64 0, .int .i64 0, .string ⟨#[]⟩] 25 17 (by simp)
    have H1 := Lib.hid (show E1 w (aggW (w1.alloc (.cells #[.int .u8 0, .int .u8 0, .int .u8 0, .int .u8 0, .int .u8 0, .int .u8 0, .int .u8 0, .int .u8 0, .int .u8 0, .int .u8 0, .int .u8 0, .int .u8 0, .bool false, .int .i64 0, .int .i64 0, .int .i64 0, .string ⟨#[]⟩] 25)) w1.heap.size (ethC e)) w1.heap.size e from E1.made hbel e HO.out)
    clear hgrow hown hbel
    go_upto_region 3 with (fail)
    generalize aggW (w1.alloc (.cells #[.int .u8 0, .int .u8 0, .int .u8 0, .int .u8 0, .int .u8 0, .int .u8 0, .int .u8 0, .int .u8 0, .int .u8 0, .int .u8 0, .int .u8 0, .int .u8 0, .bool false, .int .i64 0, .int .i64 0, .int .i64 0, .string ⟨#[]⟩] 25)) w1.heap.size _ = W3 at H1 ⊢
    clear hf1 hcv
    generalize w1.heap.size = m at H1 ⊢
    have hr := H1.out.1.row HO.out
    go_upto_region 5 with (first
      | (go_at_call 8; (with_reducible refine (HW.out _).mono ?_); rintro x w2 ⟨rfl, hb2⟩; have H2 := Lib.hid (H1.out.below hb2); clear hb2 hr; have hr := H2.out.1.row HO.out)
      | (go_at_call 13; (with_reducible refine (HRW.out _).mono ?_); rintro x w3 ⟨rfl, hb3⟩; have H3 := Lib.hid (H2.out.below hb3); clear hb3 hr)
      | (go_at_call 12; (with_reducible refine (HR.out _).mono ?_); rintro x w4 ⟨rfl, hb4⟩; have H4 := Lib.hid (H3.out.below hb4); have hf4 := free_made w4 #[.int .u8 0, .int .u8 0, .int .u8 0, .int .u8 0, .int .u8 0, .int .u8 0, .int .u8 0, .int .u8 0, .int .u8 0, .int .u8 0, .int .u8 0, .int .u8 0, .bool false, .int .i64 0, .int .i64 0, .int .i64 0, .string ⟨#[]⟩] 25 17 (by simp); have H5 := Lib.hid (show EL w (aggW (w4.alloc (.cells #[.int .u8 0, .int .u8 0, .int .u8 0, .int .u8 0, .int .u8 0, .int .u8 0, .int .u8 0, .int .u8 0, .int .u8 0, .int .u8 0, .int .u8 0, .int .u8 0, .bool false, .int .i64 0, .int .i64 0, .int .i64 0, .string ⟨#[]⟩] 25)) w4.heap.size (ethC zeroE)) m w4.heap.size e zeroE from EL.made H4.out zeroE zeroE_ok); clear hb4))
    generalize aggW (w4.alloc (.cells #[.int .u8 0, .int .u8 0, .int .u8 0, .int .u8 0, .int .u8 0, .int .u8 0, .int .u8 0, .int .u8 0, .int .u8 0, .int .u8 0, .int .u8 0, .int .u8 0, .bool false, .int .i64 0, .int .i64 0, .int .i64 0, .string ⟨#[]⟩] 25)) w4.heap.size _ = W5 at H5 ⊢
    clear hf4
    generalize w4.heap.size = q at H5 ⊢
    have hr1 := H5.out.1.1.row HO.out
    have hr2 := H5.out.2.1.row zeroE_ok
    go_wp2_with (go_at_call 11; (with_reducible refine (lives4_any _).mono ?_); rintro x w7 ⟨rfl, hb7⟩; have H6 := Lib.hid (H5.out.below hb7); clear hb7)
    go_ret
    exact ⟨rfl, H6.out.1.2⟩
end Go.Proofs.Ytbanjmdfjodhaaa
