/-
  The walk of the law EtherTags.
-/
import Derived.Test.YtbanjmdfjodhaaaEthY
namespace Go.Proofs.Ytbanjmdfjodhaaa
open Go.RowKit
set_option linter.unusedVariables false
attribute [local go_sem ↓] bld_eth ld_eth st_eth ld_mac st_mac
attribute [local go_sem] ldr_eth str_eth ldr_mac str_mac

/-- The frame that came in, and two made later. -/
def E3 (w W : World) (m n : Nat) (e f g : Eth) : Prop := E2 w W m e f ∧ EthAt W n g ∧ m < n
theorem E3.below {w W W' : World} {m n : Nat} {e f g : Eth} (h : E3 w W m n e f g) (hb : Below W.heap.size W W') : E3 w W' m n e f g := ⟨h.1.below hb, h.2.1.below hb, h.2.2⟩
theorem E3.made {w W : World} {m : Nat} {e f : Eth} (h : E2 w W m e f) (g : Eth) (hg : g.ok) : E3 w (aggW (W.alloc (.cells (ethC zeroE).toArray 25)) W.heap.size (ethC g)) m W.heap.size e f g := by
  have hl := h.2.1.lt
  have hl0 := h.1.lt
  exact ⟨⟨⟨aggW_other (ObjAt.alloc h.1.1 _) _ (by omega), aggW_below (h.1.2.alloc (by omega) _) (by omega) _⟩, aggW_other (ObjAt.alloc h.2.1 _) _ (by omega), h.2.2⟩,
    aggW_obj (ObjAt.made W (ethC zeroE).toArray 25) (by rw [ethC_length hg, ethC_length zeroE_ok]) (ethC_one g), hl⟩
theorem E3.set {w W : World} {m n : Nat} {e f g g' : Eth} (h : E3 w W m n e f g) (ho : g.ok) (j : Nat) (v : Value) (he : B8 g.to ++ (B8 g.fr ++ [.bool g.tg, .int .i64 g.vl, .int .i64 g.pr, .int .i64 g.ty, .string (Str g.bd)].set j v) = ethC g') : E3 w (W.setCell ⟨n, 12 + j, none⟩ v) m n e f g' := by
  obtain ⟨⟨⟨h1, h2⟩, h3, h4⟩, h5, h6⟩ := h
  refine ⟨⟨⟨ObjAt.other h1 ⟨n, 12 + j, none⟩ v (by show w.heap.size ≠ n; omega), h2.setCell (p := ⟨n, 12 + j, none⟩) (by show w.heap.size ≤ n; omega) v⟩, ObjAt.other h3 ⟨n, 12 + j, none⟩ v (by show m ≠ n; omega), h4⟩, ?_, h6⟩
  have := ObjAt.set h5 (12 + j) v
  rw [ethC_set g ho, he] at this
  exact this

set_option maxRecDepth 100000 in
set_option maxHeartbeats 2000000 in
theorem etags (e0 : Eth) (ho0 : e0.ok) (hl0 : e0.bd.length ≤ maxLen) (n : Int) (hn : (Lit.int .i64 n).wf = true) (w : World) : Calls Try.prog 5 #[.agg (ethC e0).toArray, .int .i64 n] w fun x w' => x = .returned (.bool true) ∧ Below w.heap.size w w' := by
  have HB0 := Lib.hid (EB.made w e0)
  obtain ⟨e, he⟩ : ∃ e, e = e0.cut 30 := ⟨_, rfl⟩
  have ho : e.ok := by rw [he]; exact ho0
  have hl : e.bd.length ≤ 30 := by rw [he]; simp [Eth.cut]; omega
  have HC : Hid (∀ W, Calls Try.prog 7 #[.string (Str e0.bd), .int .i64 30] W fun x w' => x = .returned (.string (Str e.bd)) ∧ W = w') := Lib.hid fun W => by
    have := cut_any (Str e0.bd) (by rw [Str_size]; exact hl0) 30 (by omega) W
    rw [cutB_str] at this
    rw [he]; exact this
  have HS : Hid (∀ W, EB w W e0 → EB w (W.setCell ⟨w.heap.size, 16, none⟩ (.string (Str e.bd))) e) := Lib.hid fun W h => h.set ho0 4 (.string (Str e.bd)) (by rw [he]; rfl)
  have HO0 := Lib.hid ho0
  have HO := Lib.hid ho
  have hfokz := fok_eth zeroE_ok
  have hbz := bld_zero
  have heqz := eq_eth zeroE zeroE_ok
  have HT := Lib.hid (fun W => retag_any e ho (by omega) n hn W)
  have HG := Lib.hid (fun W => rgoodE_any e ho (by omega) W)
  clear ho0 hl0 he hn
  cases hg : e.good with
  | false =>
    have hT : retagV e n = (zeroE, 2) := by unfold retagV; rw [if_pos hg]
    rw [hT] at HT
    rw [hg] at HG
    clear hT hg ho hl
    go_enter Try.func5, Try.ntmps5
    go_upto_region 1 with (fail)
    generalize w.alloc (.cells (ethC e0).toArray 25) = W at HB0 ⊢
    have c5 := HB0.out.1.bd HO0.out
    have f5 := EthAt.frz HB0.out.1 16
    have HB := Lib.hid (HS.out _ HB0.out)
    go_upto_region 2 with (go_at_call 7; (with_reducible refine (HC.out _).mono ?_); rintro x w1 ⟨rfl, rfl⟩)
    generalize World.setCell _ _ _ = W1 at HB ⊢
    have hr := HB.out.1.row HO.out
    clear c5 f5
    go_upto_region 3 with (go_at_call 16; (with_reducible refine (HT.out _).mono ?_); rintro x w2 ⟨rfl, hb2⟩; have HB2 := Lib.hid (HB.out.keep hb2); have hf2 := free_made w2 #[.int .u8 0, .int .u8 0, .int .u8 0, .int .u8 0, .int .u8 0, .int .u8 0, .int .u8 0, .int .u8 0, .int .u8 0, .int .u8 0, .int .u8 0, .int .u8 0, .bool false, .int .i64 0, .int .i64 0, .int .i64 0, .string ⟨#[]⟩] 25 17 (by simp); have hs2 := E2.made HB2.out zeroE zeroE_ok; have H1 := Lib.hid (show E2 w (aggW (w2.alloc (.cells #[.int .u8 0, .int .u8 0, .int .u8 0, .int .u8 0, .int .u8 0, .int .u8 0, .int .u8 0, .int .u8 0, .int .u8 0, .int .u8 0, .int .u8 0, .int .u8 0, .bool false, .int .i64 0, .int .i64 0, .int .i64 0, .string ⟨#[]⟩] 25)) w2.heap.size (ethC zeroE)) w2.heap.size e zeroE from hs2); clear hb2 hs2 hr)
    generalize aggW (w2.alloc (.cells #[.int .u8 0, .int .u8 0, .int .u8 0, .int .u8 0, .int .u8 0, .int .u8 0, .int .u8 0, .int .u8 0, .int .u8 0, .int .u8 0, .int .u8 0, .int .u8 0, .bool false, .int .i64 0, .int .i64 0, .int .i64 0, .string ⟨#[]⟩] 25)) w2.heap.size _ = W3 at H1 ⊢
    clear hf2
    generalize w2.heap.size = m at H1 ⊢
    have hr := H1.out.1.1.row HO.out
    go_wp2_with (first
      | (go_at_call 10; (with_reducible refine (HG.out _).mono ?_); rintro x w4 ⟨rfl, hb4⟩; have H2 := Lib.hid (H1.out.below hb4); clear hb4 hr; have hr := H2.out.2.1.row zeroE_ok)
      | (go_at_call 11; (with_reducible refine (lives4_any _).mono ?_); rintro x w7 ⟨rfl, hb7⟩; have H5 := Lib.hid (H2.out.below hb7); clear hb7))
    go_ret
    exact ⟨rfl, H5.out.1.2⟩
  | true =>
    rw [hg] at HG
    by_cases hb : n < -1 ∨ 4094 < n
    · have hT : retagV e n = (zeroE, 1) := by unfold retagV; rw [if_neg (by rw [hg]; simp), if_pos hb]
      rw [hT] at HT
      clear hT hg ho hl
      go_enter Try.func5, Try.ntmps5
      go_upto_region 1 with (fail)
      generalize w.alloc (.cells (ethC e0).toArray 25) = W at HB0 ⊢
      have c5 := HB0.out.1.bd HO0.out
      have f5 := EthAt.frz HB0.out.1 16
      have HB := Lib.hid (HS.out _ HB0.out)
      go_upto_region 2 with (go_at_call 7; (with_reducible refine (HC.out _).mono ?_); rintro x w1 ⟨rfl, rfl⟩)
      generalize World.setCell _ _ _ = W1 at HB ⊢
      have hr := HB.out.1.row HO.out
      clear c5 f5
      go_upto_region 3 with (go_at_call 16; (with_reducible refine (HT.out _).mono ?_); rintro x w2 ⟨rfl, hb2⟩; have HB2 := Lib.hid (HB.out.keep hb2); have hf2 := free_made w2 #[.int .u8 0, .int .u8 0, .int .u8 0, .int .u8 0, .int .u8 0, .int .u8 0, .int .u8 0, .int .u8 0, .int .u8 0, .int .u8 0, .int .u8 0, .int .u8 0, .bool false, .int .i64 0, .int .i64 0, .int .i64 0, .string ⟨#[]⟩] 25 17 (by simp); have hs2 := E2.made HB2.out zeroE zeroE_ok; have H1 := Lib.hid (show E2 w (aggW (w2.alloc (.cells #[.int .u8 0, .int .u8 0, .int .u8 0, .int .u8 0, .int .u8 0, .int .u8 0, .int .u8 0, .int .u8 0, .int .u8 0, .int .u8 0, .int .u8 0, .int .u8 0, .bool false, .int .i64 0, .int .i64 0, .int .i64 0, .string ⟨#[]⟩] 25)) w2.heap.size (ethC zeroE)) w2.heap.size e zeroE from hs2); clear hb2 hs2 hr)
      generalize aggW (w2.alloc (.cells #[.int .u8 0, .int .u8 0, .int .u8 0, .int .u8 0, .int .u8 0, .int .u8 0, .int .u8 0, .int .u8 0, .int .u8 0, .int .u8 0, .int .u8 0, .int .u8 0, .bool false, .int .i64 0, .int .i64 0, .int .i64 0, .string ⟨#[]⟩] 25)) w2.heap.size _ = W3 at H1 ⊢
      clear hf2
      generalize w2.heap.size = m at H1 ⊢
      have hr := H1.out.1.1.row HO.out
      go_wp2_with (first
        | (go_at_call 10; (with_reducible refine (HG.out _).mono ?_); rintro x w4 ⟨rfl, hb4⟩; have H2 := Lib.hid (H1.out.below hb4); clear hb4 hr; have hr := H2.out.2.1.row zeroE_ok)
        | (go_at_call 11; (with_reducible refine (lives4_any _).mono ?_); rintro x w7 ⟨rfl, hb7⟩; have H5 := Lib.hid (H2.out.below hb7); clear hb7))
      all_goals
        first
        | (exfalso; simp_all; omega)
        | (go_ret; exact ⟨rfl, H5.out.1.2⟩)
    · have h1 : -1 ≤ n := by omega
      have h2 : n ≤ 4094 := by omega
      clear hb
      by_cases hm : n = -1
      · have hT : retagV e n = (⟨e.to, e.fr, false, 0, 0, e.ty, e.bd⟩, 0) := by unfold retagV; rw [if_neg (by rw [hg]; simp), if_neg (by omega), if_pos hm]
        rw [hT] at HT
        obtain ⟨g1, g2, g3⟩ := good_parts hg
        have hok : (⟨e.to, e.fr, false, 0, 0, e.ty, e.bd⟩ : Eth).ok := ho
        have hgf : (⟨e.to, e.fr, false, 0, 0, e.ty, e.bd⟩ : Eth).good = true := by
          unfold Eth.good goodEV
          simp only
          rw [g1, Bool.true_and, Bool.and_eq_true]
          refine ⟨rfl, by simpa using g3⟩
        have HGF : Hid (∀ W, Calls Try.prog 10 #[.agg (ethC ⟨e.to, e.fr, false, 0, 0, e.ty, e.bd⟩).toArray] W fun x w' => x = .returned (.bool true) ∧ Below W.heap.size W w') := Lib.hid fun W => by
          have := rgoodE_any ⟨e.to, e.fr, false, 0, 0, e.ty, e.bd⟩ hok (by show e.bd.length ≤ 1000000; omega) W
          rw [hgf] at this; exact this
        have hfok := fok_eth hok
        have hfoke := fok_eth ho
        have heqf := eq_eth ⟨e.to, e.fr, false, 0, 0, e.ty, e.bd⟩ hok
        have HOF := Lib.hid hok
        obtain ⟨f, hf⟩ : ∃ f : Eth, f = ⟨e.to, e.fr, false, 0, 0, e.ty, e.bd⟩ := ⟨_, rfl⟩
        have HFE := Lib.hid hf
        rw [← hf] at HT HGF hfok heqf HOF
        subst hm; clear hT hg ho hl hok hgf g1 g2 g3 hf
        go_enter Try.func5, Try.ntmps5
        go_upto_region 1 with (fail)
        generalize w.alloc (.cells (ethC e0).toArray 25) = W at HB0 ⊢
        have c5 := HB0.out.1.bd HO0.out
        have f5 := EthAt.frz HB0.out.1 16
        have HB := Lib.hid (HS.out _ HB0.out)
        go_upto_region 2 with (go_at_call 7; (with_reducible refine (HC.out _).mono ?_); rintro x w1 ⟨rfl, rfl⟩)
        generalize World.setCell _ _ _ = W1 at HB ⊢
        have hr := HB.out.1.row HO.out
        clear c5 f5
        go_upto_region 3 with (go_at_call 16; (with_reducible refine (HT.out _).mono ?_); rintro x w2 ⟨rfl, hb2⟩; have HB2 := Lib.hid (HB.out.keep hb2); have hf2 := free_made w2 #[.int .u8 0, .int .u8 0, .int .u8 0, .int .u8 0, .int .u8 0, .int .u8 0, .int .u8 0, .int .u8 0, .int .u8 0, .int .u8 0, .int .u8 0, .int .u8 0, .bool false, .int .i64 0, .int .i64 0, .int .i64 0, .string ⟨#[]⟩] 25 17 (by simp); have hs2 := E2.made HB2.out f HOF.out; have H1 := Lib.hid (show E2 w (aggW (w2.alloc (.cells #[.int .u8 0, .int .u8 0, .int .u8 0, .int .u8 0, .int .u8 0, .int .u8 0, .int .u8 0, .int .u8 0, .int .u8 0, .int .u8 0, .int .u8 0, .int .u8 0, .bool false, .int .i64 0, .int .i64 0, .int .i64 0, .string ⟨#[]⟩] 25)) w2.heap.size (ethC f)) w2.heap.size e f from hs2); clear hb2 hs2 hr)
        generalize aggW (w2.alloc (.cells #[.int .u8 0, .int .u8 0, .int .u8 0, .int .u8 0, .int .u8 0, .int .u8 0, .int .u8 0, .int .u8 0, .int .u8 0, .int .u8 0, .int .u8 0, .int .u8 0, .bool false, .int .i64 0, .int .i64 0, .int .i64 0, .string ⟨#[]⟩] 25)) w2.heap.size _ = W3 at H1 ⊢
        clear hf2
        generalize w2.heap.size = m at H1 ⊢
        have hr := H1.out.1.1.row HO.out
        go_upto_region 8 with (go_at_call 10; (with_reducible refine (HG.out _).mono ?_); rintro x w4 ⟨rfl, hb4⟩; have H2 := Lib.hid (H1.out.below hb4); clear hb4 hr; have hr := H2.out.1.1.row HO.out; have hf4 := free_made w4 #[.int .u8 0, .int .u8 0, .int .u8 0, .int .u8 0, .int .u8 0, .int .u8 0, .int .u8 0, .int .u8 0, .int .u8 0, .int .u8 0, .int .u8 0, .int .u8 0, .bool false, .int .i64 0, .int .i64 0, .int .i64 0, .string ⟨#[]⟩] 25 17 (by simp); have H3 := Lib.hid (show E3 w (aggW (w4.alloc (.cells #[.int .u8 0, .int .u8 0, .int .u8 0, .int .u8 0, .int .u8 0, .int .u8 0, .int .u8 0, .int .u8 0, .int .u8 0, .int .u8 0, .int .u8 0, .int .u8 0, .bool false, .int .i64 0, .int .i64 0, .int .i64 0, .string ⟨#[]⟩] 25)) w4.heap.size (ethC e)) m w4.heap.size e f e from E3.made H2.out e HO.out))
        generalize aggW (w4.alloc (.cells #[.int .u8 0, .int .u8 0, .int .u8 0, .int .u8 0, .int .u8 0, .int .u8 0, .int .u8 0, .int .u8 0, .int .u8 0, .int .u8 0, .int .u8 0, .int .u8 0, .bool false, .int .i64 0, .int .i64 0, .int .i64 0, .string ⟨#[]⟩] 25)) w4.heap.size _ = W5 at H3 ⊢
        clear hf4 hr
        generalize w4.heap.size = k at H3 ⊢
        have c1 := H3.out.2.1.tg HO.out
        have c2 := H3.out.2.1.vl HO.out
        have c3 := H3.out.2.1.pr HO.out
        have f1 := EthAt.frz H3.out.2.1 12
        have f2 := EthAt.frz H3.out.2.1 13
        have f3 := EthAt.frz H3.out.2.1 14
        have s1 := E3.set (g' := ⟨e.to, e.fr, false, e.vl, e.pr, e.ty, e.bd⟩) H3.out HO.out 0 (.bool false) rfl
        have s2 := E3.set (g' := ⟨e.to, e.fr, false, 0, e.pr, e.ty, e.bd⟩) s1 HO.out 1 (.int .i64 0) rfl
        have H4 := Lib.hid (E3.set (g' := f) s2 HO.out 2 (.int .i64 0) (by rw [HFE.out]; rfl))
        clear s1 s2
        go_upto_region 11 with (fail)
        generalize World.setCell _ _ _ = W6 at H4 ⊢
        have hr1 := H4.out.1.2.1.row HOF.out
        have hr2 := H4.out.2.1.row HOF.out
        clear c1 c2 c3 f1 f2 f3
        go_wp2_with (first
          | (go_at_call 10; (with_reducible refine (HGF.out _).mono ?_); rintro x w7 ⟨rfl, hb7⟩; have H5 := Lib.hid (H4.out.below hb7); clear hb7 hr1 hr2)
          | (go_at_call 11; (with_reducible refine (lives4_any _).mono ?_); rintro x w8 ⟨rfl, hb8⟩; have H6 := Lib.hid (H5.out.below hb8); clear hb8))
        go_ret
        exact ⟨rfl, H6.out.1.1.2⟩
      · have hT : retagV e n = (⟨e.to, e.fr, true, n, e.pr, e.ty, e.bd⟩, 0) := by unfold retagV; rw [if_neg (by rw [hg]; simp), if_neg (by omega), if_neg hm]
        rw [hT] at HT
        obtain ⟨g1, g2, g3⟩ := good_parts hg
        have hok : (⟨e.to, e.fr, true, n, e.pr, e.ty, e.bd⟩ : Eth).ok := ho
        have hgf : (⟨e.to, e.fr, true, n, e.pr, e.ty, e.bd⟩ : Eth).good = true := by
          unfold Eth.good goodEV
          simp only
          rw [g1, Bool.true_and, Bool.and_eq_true]
          refine ⟨by cases ht : e.tg <;> (rw [ht] at g2; simp [goodTgV] at g2 ⊢; omega), by simpa using g3⟩
        have HGF : Hid (∀ W, Calls Try.prog 10 #[.agg (ethC ⟨e.to, e.fr, true, n, e.pr, e.ty, e.bd⟩).toArray] W fun x w' => x = .returned (.bool true) ∧ Below W.heap.size W w') := Lib.hid fun W => by
          have := rgoodE_any ⟨e.to, e.fr, true, n, e.pr, e.ty, e.bd⟩ hok (by show e.bd.length ≤ 1000000; omega) W
          rw [hgf] at this; exact this
        have hfok := fok_eth hok
        have hfoke := fok_eth ho
        have heqf := eq_eth ⟨e.to, e.fr, true, n, e.pr, e.ty, e.bd⟩ hok
        have HOF := Lib.hid hok
        obtain ⟨f, hf⟩ : ∃ f : Eth, f = ⟨e.to, e.fr, true, n, e.pr, e.ty, e.bd⟩ := ⟨_, rfl⟩
        have HFE := Lib.hid hf
        rw [← hf] at HT HGF hfok heqf HOF
        have h0 : 0 ≤ n := by omega
        clear hT hg ho hl hok hgf g1 g2 g3 hf
        go_enter Try.func5, Try.ntmps5
        go_upto_region 1 with (fail)
        generalize w.alloc (.cells (ethC e0).toArray 25) = W at HB0 ⊢
        have c5 := HB0.out.1.bd HO0.out
        have f5 := EthAt.frz HB0.out.1 16
        have HB := Lib.hid (HS.out _ HB0.out)
        go_upto_region 2 with (go_at_call 7; (with_reducible refine (HC.out _).mono ?_); rintro x w1 ⟨rfl, rfl⟩)
        generalize World.setCell _ _ _ = W1 at HB ⊢
        have hr := HB.out.1.row HO.out
        clear c5 f5
        go_upto_region 3 with (go_at_call 16; (with_reducible refine (HT.out _).mono ?_); rintro x w2 ⟨rfl, hb2⟩; have HB2 := Lib.hid (HB.out.keep hb2); have hf2 := free_made w2 #[.int .u8 0, .int .u8 0, .int .u8 0, .int .u8 0, .int .u8 0, .int .u8 0, .int .u8 0, .int .u8 0, .int .u8 0, .int .u8 0, .int .u8 0, .int .u8 0, .bool false, .int .i64 0, .int .i64 0, .int .i64 0, .string ⟨#[]⟩] 25 17 (by simp); have hs2 := E2.made HB2.out f HOF.out; have H1 := Lib.hid (show E2 w (aggW (w2.alloc (.cells #[.int .u8 0, .int .u8 0, .int .u8 0, .int .u8 0, .int .u8 0, .int .u8 0, .int .u8 0, .int .u8 0, .int .u8 0, .int .u8 0, .int .u8 0, .int .u8 0, .bool false, .int .i64 0, .int .i64 0, .int .i64 0, .string ⟨#[]⟩] 25)) w2.heap.size (ethC f)) w2.heap.size e f from hs2); clear hb2 hs2 hr)
        generalize aggW (w2.alloc (.cells #[.int .u8 0, .int .u8 0, .int .u8 0, .int .u8 0, .int .u8 0, .int .u8 0, .int .u8 0, .int .u8 0, .int .u8 0, .int .u8 0, .int .u8 0, .int .u8 0, .bool false, .int .i64 0, .int .i64 0, .int .i64 0, .string ⟨#[]⟩] 25)) w2.heap.size _ = W3 at H1 ⊢
        clear hf2
        generalize w2.heap.size = m at H1 ⊢
        have hr := H1.out.1.1.row HO.out
        go_upto_region 8 with (go_at_call 10; (with_reducible refine (HG.out _).mono ?_); rintro x w4 ⟨rfl, hb4⟩; have H2 := Lib.hid (H1.out.below hb4); clear hb4 hr; have hr := H2.out.1.1.row HO.out; have hf4 := free_made w4 #[.int .u8 0, .int .u8 0, .int .u8 0, .int .u8 0, .int .u8 0, .int .u8 0, .int .u8 0, .int .u8 0, .int .u8 0, .int .u8 0, .int .u8 0, .int .u8 0, .bool false, .int .i64 0, .int .i64 0, .int .i64 0, .string ⟨#[]⟩] 25 17 (by simp); have H3 := Lib.hid (show E3 w (aggW (w4.alloc (.cells #[.int .u8 0, .int .u8 0, .int .u8 0, .int .u8 0, .int .u8 0, .int .u8 0, .int .u8 0, .int .u8 0, .int .u8 0, .int .u8 0, .int .u8 0, .int .u8 0, .bool false, .int .i64 0, .int .i64 0, .int .i64 0, .string ⟨#[]⟩] 25)) w4.heap.size (ethC e)) m w4.heap.size e f e from E3.made H2.out e HO.out))
        generalize aggW (w4.alloc (.cells #[.int .u8 0, .int .u8 0, .int .u8 0, .int .u8 0, .int .u8 0, .int .u8 0, .int .u8 0, .int .u8 0, .int .u8 0, .int .u8 0, .int .u8 0, .int .u8 0, .bool false, .int .i64 0, .int .i64 0, .int .i64 0, .string ⟨#[]⟩] 25)) w4.heap.size _ = W5 at H3 ⊢
        clear hf4 hr
        generalize w4.heap.size = k at H3 ⊢
        have c1 := H3.out.2.1.tg HO.out
        have c2 := H3.out.2.1.vl HO.out
        have c3 := H3.out.2.1.pr HO.out
        have f1 := EthAt.frz H3.out.2.1 12
        have f2 := EthAt.frz H3.out.2.1 13
        have f3 := EthAt.frz H3.out.2.1 14
        have s1 := E3.set (g' := ⟨e.to, e.fr, true, e.vl, e.pr, e.ty, e.bd⟩) H3.out HO.out 0 (.bool true) rfl
        have H4 := Lib.hid (E3.set (g' := f) s1 HO.out 1 (.int .i64 n) (by rw [HFE.out]; rfl))
        clear s1
        go_upto_region 11 with (fail)
        generalize World.setCell _ _ _ = W6 at H4 ⊢
        have hr1 := H4.out.1.2.1.row HOF.out
        have hr2 := H4.out.2.1.row HOF.out
        clear c1 c2 c3 f1 f2 f3
        go_wp2_with (first
          | (go_at_call 10; (with_reducible refine (HGF.out _).mono ?_); rintro x w7 ⟨rfl, hb7⟩; have H5 := Lib.hid (H4.out.below hb7); clear hb7 hr1 hr2)
          | (go_at_call 11; (with_reducible refine (lives4_any _).mono ?_); rintro x w8 ⟨rfl, hb8⟩; have H6 := Lib.hid (H5.out.below hb8); clear hb8))
        go_ret
        exact ⟨rfl, H6.out.1.1.2⟩
end Go.Proofs.Ytbanjmdfjodhaaa
