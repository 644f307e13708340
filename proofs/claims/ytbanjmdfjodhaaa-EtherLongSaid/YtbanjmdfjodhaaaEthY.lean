/-
  The walk of the law EtherReads.
-/
import Derived.Test.YtbanjmdfjodhaaaEthX
namespace Go.Proofs.Ytbanjmdfjodhaaa
open Go.RowKit
set_option linter.unusedVariables false
attribute [local go_sem ↓] bld_eth ld_eth st_eth ld_mac st_mac
attribute [local go_sem] ldr_eth str_eth ldr_mac str_mac

/-- A frame made later. -/
def E1 (w W : World) (n : Nat) (f : Eth) : Prop := EthAt W n f ∧ Below w.heap.size w W
theorem E1.below {w W W' : World} {n : Nat} {f : Eth} (h : E1 w W n f) (hb : Below W.heap.size W W') : E1 w W' n f := ⟨h.1.below hb, bstep h.2 hb⟩
theorem E1.made {w W : World} (h : Below w.heap.size w W) (f : Eth) (hf : f.ok) : E1 w (aggW (W.alloc (.cells (ethC zeroE).toArray 25)) W.heap.size (ethC f)) W.heap.size f :=
  ⟨aggW_obj (ObjAt.made W (ethC zeroE).toArray 25) (by rw [ethC_length hf, ethC_length zeroE_ok]) (ethC_one f), aggW_below (h.alloc h.size _) h.size _⟩

set_option maxRecDepth 100000 in
set_option maxHeartbeats 2000000 in
theorem ereads (s : ByteArray) (hs : s.size ≤ maxLen) (w : World) : Calls Try.prog 4 #[.string s] w fun x w' => x = .returned (.bool true) ∧ Below w.heap.size w w' := by
  obtain ⟨l, hlE⟩ : ∃ l : List UInt8, Str l = cutB s 80 := ⟨(cutB s 80).data.toList, Str_of _⟩
  have hll : l.length ≤ 80 := by have := cutB_size s 80; rw [← hlE, Str_size] at this; exact this
  have HC : Hid (∀ W, Calls Try.prog 7 #[.string s, .int .i64 80] W fun x w' => x = .returned (.string (Str l)) ∧ W = w') := Lib.hid fun W => by
    rw [hlE]; exact cut_any s hs 80 (by omega) W
  have HY := Lib.hid (fun W => rwhy_any l (by omega) W)
  have HR := Lib.hid (fun W => read_any l (by omega) W)
  have hst : ∀ t : List UInt8, (t == t) = true := fun t => by simp
  have hsi : ∀ t : Int, (t == t) = true := fun t => by simp
  by_cases hc : whyV l = 0
  · obtain ⟨w1, w2, w3⟩ := wrt_parts hc
    obtain ⟨f, hf⟩ : ∃ f : Eth, f = ⟨l.take 6, (l.drop 6).take 6, tgV l, vlV l, prV l, tyV l, bdV l⟩ := ⟨_, rfl⟩
    have hok : f.ok := by rw [hf]; exact ⟨by simp; omega, by simp; omega⟩
    have hrd : readV4 l = (f, 0) := by unfold readV4; rw [if_pos hc, hf]
    have hwr : f.wrt = l := by rw [hf]; exact w2
    have hgd : f.good = true := by rw [hf]; exact w3
    obtain ⟨g1, g2, g3⟩ := good_parts hgd
    rw [hrd] at HR
    rw [hc] at HY
    have HG : Hid (∀ W, Calls Try.prog 10 #[.agg (ethC f).toArray] W fun x w' => x = .returned (.bool true) ∧ Below W.heap.size W w') := Lib.hid fun W => by
      have := rgoodE_any f hok (by omega) W
      rw [hgd] at this; exact this
    have HW : Hid (∀ W, Calls Try.prog 13 #[.agg (ethC f).toArray] W fun x w' => x = .returned (.string (Str l)) ∧ Below W.heap.size W w') := Lib.hid fun W => by
      have := rwrite4_any f hok g1 g2 (by omega) W
      rw [hwr] at this; exact this
    have hfok := fok_eth hok
    have HO := Lib.hid hok
    generalize Str l = S at HC HY HR HW
    clear w1 w2 w3 hf hok hrd hwr hgd g1 g2 g3 hc hll hlE
    go_enter Try.func4, Try.ntmps4
    go_upto_region 3 with (first
      | (go_at_call 7; (with_reducible refine (HC.out _).mono ?_); rintro x w1 ⟨rfl, rfl⟩)
      | (go_at_call 12; (with_reducible refine (HR.out _).mono ?_); rintro x w2 ⟨rfl, hb2⟩; have hf2 := free_made w2 #[.int .u8 0, .int .u8 0, .int .u8 0, .int .u8 0, .int .u8 0, .int .u8 0, .int .u8 0, .int .u8 0, .int .u8 0, .int .u8 0, .int .u8 0, .int .u8 0, .bool false, .int .i64 0, .int .i64 0, .int .i64 0, .string ⟨#[]⟩] 25 17 (by simp); have hs2 := E1.made hb2 f HO.out; rw [zeroE_cells] at hs2; have H1 := Lib.hid hs2; clear hb2 hs2))
    generalize aggW (w2.alloc (.cells #[.int .u8 0, .int .u8 0, .int .u8 0, .int .u8 0, .int .u8 0, .int .u8 0, .int .u8 0, .int .u8 0, .int .u8 0, .int .u8 0, .int .u8 0, .int .u8 0, .bool false, .int .i64 0, .int .i64 0, .int .i64 0, .string ⟨#[]⟩] 25)) w2.heap.size _ = W3 at H1 ⊢
    clear hf2
    generalize w2.heap.size = m at H1 ⊢
    go_wp2_with (first
      | (go_at_call 15; (with_reducible refine (HY.out _).mono ?_); rintro x w4 ⟨rfl, hb4⟩; have H2 := Lib.hid (H1.out.below hb4); have hr := H2.out.1.row HO.out; clear hb4)
      | (go_at_call 10; (with_reducible refine (HG.out _).mono ?_); rintro x w5 ⟨rfl, hb5⟩; have H3 := Lib.hid (H2.out.below hb5); clear hr; have hr := H3.out.1.row HO.out; clear hb5)
      | (go_at_call 13; (with_reducible refine (HW.out _).mono ?_); rintro x w6 ⟨rfl, hb6⟩; have H4 := Lib.hid (H3.out.below hb6); clear hb6 hr)
      | (go_at_call 11; (with_reducible refine (lives4_any _).mono ?_); rintro x w7 ⟨rfl, hb7⟩; have H5 := Lib.hid (H4.out.below hb7); clear hb7))
    go_ret
    exact ⟨rfl, H5.out.2⟩
  · have hrd : readV4 l = (zeroE, whyV l) := by unfold readV4; rw [if_neg hc]
    rw [hrd] at HR
    generalize whyV l = c at hc HY HR
    have hcn : (c != 0) = true := by simpa using hc
    have hfok := fok_eth zeroE_ok
    have hbz := bld_zero
    have heq := eq_eth zeroE zeroE_ok
    generalize Str l = S at HC HY HR
    clear hrd hc hll hlE
    go_enter Try.func4, Try.ntmps4
    go_upto_region 3 with (first
      | (go_at_call 7; (with_reducible refine (HC.out _).mono ?_); rintro x w1 ⟨rfl, rfl⟩)
      | (go_at_call 12; (with_reducible refine (HR.out _).mono ?_); rintro x w2 ⟨rfl, hb2⟩; have hf2 := free_made w2 #[.int .u8 0, .int .u8 0, .int .u8 0, .int .u8 0, .int .u8 0, .int .u8 0, .int .u8 0, .int .u8 0, .int .u8 0, .int .u8 0, .int .u8 0, .int .u8 0, .bool false, .int .i64 0, .int .i64 0, .int .i64 0, .string ⟨#[]⟩] 25 17 (by simp); have hs2 := E1.made hb2 zeroE zeroE_ok; rw [show (.cells (ethC zeroE).toArray 25 : Obj) = .cells #[.int .u8 0, .int .u8 0, .int .u8 0, .int .u8 0, .int .u8 0, .int .u8 0, .int .u8 0, .int .u8 0, .int .u8 0, .int .u8 0, .int .u8 0, .int .u8 0, .bool false, .int .i64 0, .int .i64 0, .int .i64 0, .string ⟨#[]⟩] 25 from rfl] at hs2; have H1 := Lib.hid hs2; clear hb2 hs2))
    generalize aggW (w2.alloc (.cells #[.int .u8 0, .int .u8 0, .int .u8 0, .int .u8 0, .int .u8 0, .int .u8 0, .int .u8 0, .int .u8 0, .int .u8 0, .int .u8 0, .int .u8 0, .int .u8 0, .bool false, .int .i64 0, .int .i64 0, .int .i64 0, .string ⟨#[]⟩] 25)) w2.heap.size _ = W3 at H1 ⊢
    clear hf2
    generalize w2.heap.size = m at H1 ⊢
    go_wp2_with (first
      | (go_at_call 15; (with_reducible refine (HY.out _).mono ?_); rintro x w4 ⟨rfl, hb4⟩; have H2 := Lib.hid (H1.out.below hb4); have hr := H2.out.1.row zeroE_ok; clear hb4)
      | (go_at_call 11; (with_reducible refine (lives4_any _).mono ?_); rintro x w7 ⟨rfl, hb7⟩; have H5 := Lib.hid (H2.out.below hb7); clear hb7))
    go_ret
    exact ⟨rfl, H5.out.2⟩
end Go.Proofs.Ytbanjmdfjodhaaa
