/-
  The contract of ether.Retag.
-/
import Derived.Test.YtbanjmdfjodhaaaEthE
namespace Go.Proofs.Ytbanjmdfjodhaaa
open Go.RowKit
set_option linter.unusedVariables false
attribute [local go_sem ↓] bld_eth ld_eth st_eth ld_mac st_mac
attribute [local go_sem] ldr_eth str_eth ldr_mac str_mac

def retagV (e : Eth) (n : Int) : Eth × Int :=
  if e.good = false then (zeroE, 2) else if n < -1 ∨ 4094 < n then (zeroE, 1) else if n = -1 then (⟨e.to, e.fr, false, 0, 0, e.ty, e.bd⟩, 0) else (⟨e.to, e.fr, true, n, e.pr, e.ty, e.bd⟩, 0)
/-- The frame and the result's block. -/
def RT (w W : World) (e : Eth) : Prop := EthAt W w.heap.size e ∧ ObjAt W (w.heap.size + 1) (ethC zeroE).toArray 25 ∧ Below w.heap.size w W ∧ e.ok
theorem RT.start (w : World) (e : Eth) (ho : e.ok) : RT w ((w.alloc (.cells (ethC e).toArray 25)).alloc (.cells (ethC zeroE).toArray 25)) e := by
  refine ⟨(ObjAt.made w _ _).alloc _, ?_, ((Below.refl _ _).alloc (Nat.le_refl _) _).alloc (by simp) _, ho⟩
  have := ObjAt.made (w.alloc (.cells (ethC e).toArray 25)) (ethC zeroE).toArray 25
  rw [show (w.alloc (.cells (ethC e).toArray 25)).heap.size = w.heap.size + 1 by simp] at this
  exact this
theorem RT.below {w W W' : World} {e : Eth} (h : RT w W e) (hb : Below W.heap.size W W') : RT w W' e := ⟨h.1.below hb, ObjAt.below h.2.1 hb (ObjAt.lt h.2.1), bstep h.2.2.1 hb, h.2.2.2⟩
theorem RT.set {w W : World} {e e' : Eth} (h : RT w W e) (j : Nat) (v : Value) (he : B8 e.to ++ (B8 e.fr ++ [.bool e.tg, .int .i64 e.vl, .int .i64 e.pr, .int .i64 e.ty, .string (Str e.bd)].set j v) = ethC e') (ho : e'.ok) : RT w (W.setCell ⟨w.heap.size, 12 + j, none⟩ v) e' := by
  obtain ⟨h1, h2, h3, h4⟩ := h
  refine ⟨?_, ObjAt.other h2 ⟨w.heap.size, 12 + j, none⟩ v (by show w.heap.size + 1 ≠ w.heap.size; omega), h3.setCell (p := ⟨w.heap.size, 12 + j, none⟩) (Nat.le_refl _) v, ho⟩
  have := ObjAt.set h1 (12 + j) v
  rw [ethC_set e h4, he] at this
  exact this
theorem RT.free {w W : World} {e : Eth} (h : RT w W e) : free? W (w.heap.size + 1) 0 17 = true := obj_free h.2.1 (by simp [ethC_length zeroE_ok])
theorem RT.done {w W : World} {e : Eth} (h : RT w W e) (e' : Eth) (ho : e'.ok) : row? (aggW W (w.heap.size + 1) (ethC e')) (w.heap.size + 1) 0 17 = some (ethC e') ∧ Below w.heap.size w (aggW W (w.heap.size + 1) (ethC e')) :=
  ⟨aggW_row h.free (ethC_length ho), aggW_below h.2.2.1 (by omega) _⟩

set_option maxRecDepth 100000 in
set_option maxHeartbeats 2000000 in
theorem retag_any (e : Eth) (ho : e.ok) (hl : e.bd.length ≤ 1000000) (n : Int) (hn : (Lit.int .i64 n).wf = true) (w : World) : Calls Try.prog 16 #[.agg (ethC e).toArray, .int .i64 n] w fun x w' => x = .returned (.tuple #[.agg (ethC (retagV e n).1).toArray, .int .i64 (retagV e n).2]) ∧ Below w.heap.size w w' := by
  obtain ⟨R, hR⟩ : ∃ R, R = retagV e n := ⟨_, rfl⟩
  rw [← hR]
  unfold retagV at hR
  have h0 := RT.start w e ho
  rw [zeroE_cells] at h0
  have H0 := Lib.hid h0
  have hbz := bld_zero
  have hfokz := fok_eth zeroE_ok
  have hfoke : ∀ (tg : Bool) (v p : Int), fok (ethC ⟨e.to, e.fr, tg, v, p, e.ty, e.bd⟩).toArray 17 = true := fun _ _ _ => fok_eth (e := ⟨e.to, e.fr, _, _, _, e.ty, e.bd⟩) ho
  have HF := Lib.hid hfoke
  have HO := Lib.hid ho
  have HL := Lib.hid hl
  clear h0 hn hfoke hl ho
  cases hg : e.good with
  | false =>
    have HV := Lib.hid (show R = (zeroE, 2) by rw [hR, if_pos hg])
    have HG := Lib.hid hg
    clear hR hg
    go_enter Try.func16, Try.ntmps16
    go_upto_region 2 with (fail)
    generalize (w.alloc (.cells (ethC e).toArray 25)).alloc _ = W at H0 ⊢
    have hr := H0.out.1.row HO.out
    go_wp2_with (go_at_call 9; (refine (goodE_any e HO.out HL.out _).mono ?_); rintro x w1 ⟨rfl, hb1⟩; rw [HG.out]; have H1 := Lib.hid (H0.out.below hb1); have hf := H1.out.free; clear hb1 hr)
    obtain ⟨q1, q2⟩ := H1.out.done zeroE zeroE_ok
    exact bodyPost_ret (results_cell2 Try.results16 rfl (ld_some q1 (ldr_eth _ _ _))) rfl ⟨by rw [HV.out]; rfl, q2⟩
  | true =>
    have HG := Lib.hid hg
    rw [if_neg (by rw [hg]; simp)] at hR
    clear hg
    by_cases hb : n < -1 ∨ 4094 < n
    · have HV := Lib.hid (show R = (zeroE, 1) by rw [hR, if_pos hb])
      clear hR
      go_enter Try.func16, Try.ntmps16
      go_upto_region 2 with (fail)
      generalize (w.alloc (.cells (ethC e).toArray 25)).alloc _ = W at H0 ⊢
      have hr := H0.out.1.row HO.out
      go_wp2_with (go_at_call 9; (refine (goodE_any e HO.out HL.out _).mono ?_); rintro x w1 ⟨rfl, hb1⟩; rw [HG.out]; have H1 := Lib.hid (H0.out.below hb1); have hf := H1.out.free; clear hb1 hr)
      all_goals
        first
        | (exfalso; simp_all; omega)
        | (obtain ⟨q1, q2⟩ := H1.out.done zeroE zeroE_ok
           exact bodyPost_ret (results_cell2 Try.results16 rfl (ld_some q1 (ldr_eth _ _ _))) rfl ⟨by rw [HV.out]; rfl, q2⟩)
    · rw [if_neg hb] at hR
      have h1 : -1 ≤ n := by omega
      have h2 : n ≤ 4094 := by omega
      clear hb
      by_cases hm : n = -1
      · have HV := Lib.hid (show R = (⟨e.to, e.fr, false, 0, 0, e.ty, e.bd⟩, 0) by rw [hR, if_pos hm])
        clear hR
        subst hm
        go_enter Try.func16, Try.ntmps16
        go_upto_region 2 with (fail)
        generalize (w.alloc (.cells (ethC e).toArray 25)).alloc _ = W at H0 ⊢
        have hr := H0.out.1.row HO.out
        go_upto_region 7 with (go_at_call 9; (refine (goodE_any e HO.out HL.out _).mono ?_); rintro x w1 ⟨rfl, hb1⟩; rw [HG.out]; have H1 := Lib.hid (H0.out.below hb1); clear hb1 hr)
        have c1 := H1.out.1.tg HO.out
        have c2 := H1.out.1.vl HO.out
        have c3 := H1.out.1.pr HO.out
        have f1 := EthAt.frz H1.out.1 12
        have f2 := EthAt.frz H1.out.1 13
        have f3 := EthAt.frz H1.out.1 14
        have s1 := RT.set (e' := ⟨e.to, e.fr, false, e.vl, e.pr, e.ty, e.bd⟩) H1.out 0 (.bool false) rfl HO.out
        have s2 := RT.set (e' := ⟨e.to, e.fr, false, 0, e.pr, e.ty, e.bd⟩) s1 1 (.int .i64 0) rfl HO.out
        have H2 := Lib.hid (RT.set (e' := ⟨e.to, e.fr, false, 0, 0, e.ty, e.bd⟩) s2 2 (.int .i64 0) rfl HO.out)
        clear s1 s2
        go_upto_region 8 with (fail)
        generalize World.setCell _ _ _ = W2 at H2 ⊢
        have hr := H2.out.1.row H2.out.2.2.2
        have hf := H2.out.free
        have hk := HF.out
        clear c1 c2 c3 f1 f2 f3
        go_wp2
        obtain ⟨q1, q2⟩ := H2.out.done _ H2.out.2.2.2
        exact bodyPost_ret (results_cell2 Try.results16 rfl (ld_some q1 (ldr_eth _ _ _))) rfl ⟨by rw [HV.out]; rfl, q2⟩
      · have HV := Lib.hid (show R = (⟨e.to, e.fr, true, n, e.pr, e.ty, e.bd⟩, 0) by rw [hR, if_neg hm])
        have hm1 : (n == -1) = false := by simpa using hm
        clear hR hm
        go_enter Try.func16, Try.ntmps16
        go_upto_region 2 with (fail)
        generalize (w.alloc (.cells (ethC e).toArray 25)).alloc _ = W at H0 ⊢
        have hr := H0.out.1.row HO.out
        go_upto_region 1 with (go_at_call 9; (refine (goodE_any e HO.out HL.out _).mono ?_); rintro x w1 ⟨rfl, hb1⟩; rw [HG.out]; have H1 := Lib.hid (H0.out.below hb1); clear hb1 hr)
        have c1 := H1.out.1.tg HO.out
        have c2 := H1.out.1.vl HO.out
        have c3 := H1.out.1.pr HO.out
        have f1 := EthAt.frz H1.out.1 12
        have f2 := EthAt.frz H1.out.1 13
        have f3 := EthAt.frz H1.out.1 14
        have s1 := RT.set (e' := ⟨e.to, e.fr, true, e.vl, e.pr, e.ty, e.bd⟩) H1.out 0 (.bool true) rfl HO.out
        have H2 := Lib.hid (RT.set (e' := ⟨e.to, e.fr, true, n, e.pr, e.ty, e.bd⟩) s1 1 (.int .i64 n) rfl HO.out)
        clear s1
        go_upto_region 8 with (fail)
        generalize World.setCell _ _ _ = W2 at H2 ⊢
        have hr := H2.out.1.row H2.out.2.2.2
        have hf := H2.out.free
        have hk := HF.out
        clear c1 c2 c3 f1 f2 f3
        go_wp2
        obtain ⟨q1, q2⟩ := H2.out.done _ H2.out.2.2.2
        exact bodyPost_ret (results_cell2 Try.results16 rfl (ld_some q1 (ldr_eth _ _ _))) rfl ⟨by rw [HV.out]; rfl, q2⟩
end Go.Proofs.Ytbanjmdfjodhaaa
