/-
  Texts joined: TnP, TnX.
-/
import Derived.Test.YtlkihfmojnghhaaTnPc
import Derived.Test.YtlkihfmojnghhaaMg42
import Derived.Test.YtlkihfmojnghhaaMg37
/-
  Layer 14: the program's answers.
-/

/-
  Layer 14: the walks of the laws.
-/
namespace Go.Proofs.Ytlkihfmojnghhaa
open Go.RowKit
set_option linter.unusedVariables false
set_option linter.unusedSimpArgs false
attribute [local go_sem ↓] ld_addr st_addr bld_addr ld_tk st_tk bld_tk ld_tn st_tn bld_tn
attribute [local go_sem] ldr_addr str_addr ldr_tk str_tk ldr_tn str_tn row?_drewN_eq row?_drew_eq

/-- Parameters in block m. -/
def TnB (w : World) (m : Nat) (t : TN) (W : World) : Prop := Below w.heap.size w W ∧ ObjAt W m (tnC t).toArray 23
theorem TnB.keep {w : World} {m : Nat} {t : TN} (W W' : World) (h : TnB w m t W) (hb : Below W.heap.size W W') : TnB w m t W' := ⟨bstep h.1 hb, obj_keep h.2 hb⟩
theorem TnB.row {w W : World} {m : Nat} {t : TN} (h : TnB w m t W) : row? W m 0 5 = some (tnC t) := tn_row h.2
theorem TnB.boxed (w : World) (t : TN) : TnB w w.heap.size t (w.alloc (.cells (tnC t).toArray 23)) := ⟨bbox w _, ObjAt.made w _ _⟩
theorem TnB.new {w W : World} (h : Below w.heap.size w W) (t : TN) : TnB w W.heap.size t (aggW (W.alloc (.cells #[.int .i64 0, .int .i64 0, .int .i64 0, .int .i64 0, .int .i64 0] 23)) W.heap.size (tnC t)) := ⟨bstep h (newBlw W _ _), newObj W _ _ rfl (tn_one t)⟩
theorem usual_good : gdN usualN = true := by decide
set_option maxRecDepth 100000 in
set_option maxHeartbeats 2000000 in
theorem lives14_any (w : World) : Calls Try.prog 9 #[] w fun x w' => x = .returned (.bool true) ∧ Below w.heap.size w w' := by
  have HU := Lib.hid (fun W => tusual_any W)
  have HG : Hid (∀ W, Calls Try.prog 7 #[.agg (tnC usualN).toArray] W fun x w' => x = .returned (.bool true) ∧ Below W.heap.size W w') := Lib.hid fun W => by
    have := tgood_any usualN W; rwa [usual_good] at this
  have HM : Hid (∀ W, Calls Try.prog 11 #[.agg (tnC usualN).toArray] W fun x w' => x = .returned (.int .i64 2600) ∧ Below W.heap.size W w') := Lib.hid fun W => tmember_any usualN usual_good W
  have HO : Hid (∀ W, Calls Try.prog 13 #[.agg (tnC usualN).toArray] W fun x w' => x = .returned (.int .i64 2550) ∧ Below W.heap.size W w') := Lib.hid fun W => tother_any usualN usual_good W
  have HL : Hid (∀ W, Calls Try.prog 15 #[.agg (tnC usualN).toArray] W fun x w' => x = .returned (.int .i64 2600) ∧ Below W.heap.size W w') := Lib.hid fun W => tolder_any usualN usual_good W
  have HF : Hid (∀ W, Calls Try.prog 17 #[.agg (tnC usualN).toArray] W fun x w' => x = .returned (.int .i64 20) ∧ Below W.heap.size W w') := Lib.hid fun W => tfinal_any usualN usual_good W
  have HS : Hid (∀ W, Calls Try.prog 10 #[.agg (tnC usualN).toArray] W fun x w' => x = .returned (.tuple #[.int .i64 312, .int .i64 2]) ∧ Below W.heap.size W w') := Lib.hid fun W => tstartup_any usualN usual_good W
  have hfk := fok_tn usualN
  have hfm := fun W => fmade W #[.int .i64 0, .int .i64 0, .int .i64 0, .int .i64 0, .int .i64 0] 23 5 rfl
  have HN := Lib.hid (fun W (h : Below w.heap.size w W) => TnB.new h usualN)
  generalize usualN = t at *
  have HR := Lib.hid (fun m W (h : TnB w m t W) => h.row)
  go_enter Try.func9, Try.ntmps9
  go_upto_region 2 with (go_at_call 28; (with_reducible refine (HU.out _).mono ?_); rintro x w1 ⟨rfl, hb⟩; have H1 := Lib.hid (HN.out _ hb); clear hb)
  generalize aggW (w1.alloc _) w1.heap.size _ = W at H1 ⊢
  generalize w1.heap.size = m at H1 ⊢
  clear hfm hfk HN HU
  have r := HR.out _ _ H1.out
  go_wp2_with (first
    | (go_at_call 10; (with_reducible refine (HS.out _).mono ?_); rintro x w2 ⟨rfl, hb⟩; replace H1 := Lib.hid (TnB.keep _ _ H1.out hb); clear hb r; have r := HR.out _ _ H1.out)
    | (go_at_call 7; (with_reducible refine (HG.out _).mono ?_); rintro x w2 ⟨rfl, hb⟩; replace H1 := Lib.hid (TnB.keep _ _ H1.out hb); clear hb r; have r := HR.out _ _ H1.out)
    | (go_at_call 11; (with_reducible refine (HM.out _).mono ?_); rintro x w2 ⟨rfl, hb⟩; replace H1 := Lib.hid (TnB.keep _ _ H1.out hb); clear hb r; have r := HR.out _ _ H1.out)
    | (go_at_call 13; (with_reducible refine (HO.out _).mono ?_); rintro x w2 ⟨rfl, hb⟩; replace H1 := Lib.hid (TnB.keep _ _ H1.out hb); clear hb r; have r := HR.out _ _ H1.out)
    | (go_at_call 15; (with_reducible refine (HL.out _).mono ?_); rintro x w2 ⟨rfl, hb⟩; replace H1 := Lib.hid (TnB.keep _ _ H1.out hb); clear hb r; have r := HR.out _ _ H1.out)
    | (go_at_call 17; (with_reducible refine (HF.out _).mono ?_); rintro x w2 ⟨rfl, hb⟩; replace H1 := Lib.hid (TnB.keep _ _ H1.out hb); clear hb r; have r := HR.out _ _ H1.out))
  go_ret
  exact ⟨rfl, H1.out.1⟩

set_option maxRecDepth 100000 in
set_option maxHeartbeats 4000000 in
theorem ttimes_any (t : TN) (w : World) : Calls Try.prog 3 #[.agg (tnC t).toArray] w fun x w' => x = .returned (.bool true) ∧ Below w.heap.size w w' := by
  have H0 := Lib.hid (TnB.boxed w t)
  have HG := Lib.hid (fun W => tgood_any t W)
  have HGR := Lib.hid (fun W => rgood14_any t W)
  have HLV := Lib.hid (fun W => lives14_any W)
  have HR := Lib.hid (fun W (h : TnB w w.heap.size t W) => h.row)
  have z1 : ∀ z : Int, (z == z) = true := fun z => by simp
  have z2 : ∀ z : Bool, (z != z) = false := fun z => by simp
  cases hg : gdN t with
  | false =>
    rw [hg] at HG HGR
    go_enter Try.func3, Try.ntmps3
    go_upto_region 1 with (fail)
    generalize w.alloc _ = W at H0 ⊢
    have fr : ∀ p : InS (TnB w w.heap.size t), row? p.W w.heap.size 0 5 = some (tnC t) := fun p => HR.out _ p.h
    have hne : Nonempty (InS (TnB w w.heap.size t)) := ⟨⟨_, H0.out⟩⟩
    refine wp_region_inS (TnB w w.heap.size t) (by kernel_rfl) (by kernel_rfl) (TnB.keep _ _ H0.out (bdrewN (Below.refl _ _) 1)) ?_
    repeat (go_big_quiet_step (first
      | (go_at_call 7; with_reducible exact Calls.inS TnB.keep _ (fun W _ => HG.out W))
      | (go_at_call 8; with_reducible exact Calls.inS TnB.keep _ (fun W _ => HGR.out W))))
    refine wpQuiet_nil ?_
    rintro _ ⟨⟨W2, hS2⟩, rfl⟩
    have H2 := Lib.hid hS2
    clear hS2 hne fr
    have r := HR.out _ H2.out
    go_wp2_with (first
      | (go_at_call 8; (with_reducible refine (HGR.out _).mono ?_); rintro x w3 ⟨rfl, hb⟩; replace H2 := Lib.hid (TnB.keep _ _ H2.out hb); clear hb r; have r := HR.out _ H2.out)
      | (go_at_call 9; (with_reducible refine (HLV.out _).mono ?_); rintro x w3 ⟨rfl, hb⟩; replace H2 := Lib.hid (TnB.keep _ _ H2.out hb); clear hb r; have r := HR.out _ H2.out))
    go_ret
    exact ⟨rfl, H2.out.1⟩
  | true =>
    rw [hg] at HG HGR
    have HM := Lib.hid (fun W => tmember_any t hg W)
    have HMR := Lib.hid (fun W => rmember_any t hg W)
    have HO := Lib.hid (fun W => tother_any t hg W)
    have HOR := Lib.hid (fun W => rother_any t hg W)
    have HL := Lib.hid (fun W => tolder_any t hg W)
    have HF := Lib.hid (fun W => tfinal_any t hg W)
    have HFR := Lib.hid (fun W => rfinal_any t hg W)
    have HGP := Lib.hid (fun W => rgap_any t hg W)
    have HS := Lib.hid (fun W => tstartup_any t hg W)
    have HC0 := Lib.hid (fun W (h : TnB w w.heap.size t W) => (tn_c h.2).1)
    have hle : t.rob * t.every + t.resp / 2 ≤ t.rob * t.every + t.resp := by have := gdN_iff.1 hg; omega
    generalize t.rob * t.every + t.resp / 2 = oo at *
    generalize t.rob * t.every + t.resp = mm at *
    generalize t.last * t.cnt = ff at *
    generalize gapN t = gg at *
    generalize t.rob = rr at *
    clear hg
    go_enter Try.func3, Try.ntmps3
    go_upto_region 1 with (fail)
    generalize w.alloc _ = W at H0 ⊢
    have fr : ∀ p : InS (TnB w w.heap.size t), row? p.W w.heap.size 0 5 = some (tnC t) := fun p => HR.out _ p.h
    have hne : Nonempty (InS (TnB w w.heap.size t)) := ⟨⟨_, H0.out⟩⟩
    refine wp_region_inS (TnB w w.heap.size t) (by kernel_rfl) (by kernel_rfl) (TnB.keep _ _ H0.out (bdrewN (Below.refl _ _) 1)) ?_
    repeat (go_big_quiet_step (first
      | (go_at_call 7; with_reducible exact Calls.inS TnB.keep _ (fun W _ => HG.out W))
      | (go_at_call 8; with_reducible exact Calls.inS TnB.keep _ (fun W _ => HGR.out W))))
    refine wpQuiet_nil ?_
    rintro _ ⟨⟨W2, hS2⟩, rfl⟩
    have H2 := Lib.hid hS2
    clear hS2 hne fr
    have r := HR.out _ H2.out
    go_upto_region 6 with (first
      | (go_at_call 8; (with_reducible refine (HGR.out _).mono ?_); rintro x w3 ⟨rfl, hb⟩; replace H2 := Lib.hid (TnB.keep _ _ H2.out hb); clear hb r; have r := HR.out _ H2.out)
      | (go_at_call 10; (with_reducible refine (HS.out _).mono ?_); rintro x w3 ⟨rfl, hb⟩; replace H2 := Lib.hid (TnB.keep _ _ H2.out hb); clear hb r; have r := HR.out _ H2.out))
    clear r
    have H0 := H2
    clear H2
    have fr : ∀ p : InS (TnB w w.heap.size t), row? p.W w.heap.size 0 5 = some (tnC t) := fun p => HR.out _ p.h
    have fc : ∀ p : InS (TnB w w.heap.size t), p.W.cell? ⟨w.heap.size, 0, none⟩ = some (.int .i64 rr) := fun p => HC0.out _ p.h
    have hne : Nonempty (InS (TnB w w.heap.size t)) := ⟨⟨_, H0.out⟩⟩
    refine wp_region_inS (TnB w w.heap.size t) (by kernel_rfl) (by kernel_rfl) (TnB.keep _ _ H0.out (bdrewN (Below.refl _ _) 1)) ?_
    repeat (go_big_quiet_step (first
      | (go_at_call 11; with_reducible exact Calls.inS TnB.keep _ (fun W _ => HM.out W))
      | (go_at_call 13; with_reducible exact Calls.inS TnB.keep _ (fun W _ => HO.out W))
      | (go_at_call 15; with_reducible exact Calls.inS TnB.keep _ (fun W _ => HL.out W))
      | (go_at_call 17; with_reducible exact Calls.inS TnB.keep _ (fun W _ => HF.out W))
      | (go_at_call 12; with_reducible exact Calls.inS TnB.keep _ (fun W _ => HMR.out W))
      | (go_at_call 14; with_reducible exact Calls.inS TnB.keep _ (fun W _ => HOR.out W))
      | (go_at_call 18; with_reducible exact Calls.inS TnB.keep _ (fun W _ => HFR.out W))
      | (go_at_call 16; with_reducible exact Calls.inS TnB.keep _ (fun W _ => HGP.out W))
      | (go_at_call 9; with_reducible exact Calls.inS TnB.keep _ (fun W _ => HLV.out W))))
    refine wpQuiet_nil ?_
    rintro _ ⟨⟨W2, hS2⟩, rfl⟩
    have H2 := Lib.hid hS2
    clear hS2 hne fr fc
    go_wp2
    go_ret
    exact ⟨rfl, H2.out.1⟩

end Go.Proofs.Ytlkihfmojnghhaa

