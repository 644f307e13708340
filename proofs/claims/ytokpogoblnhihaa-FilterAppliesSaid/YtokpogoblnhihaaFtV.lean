/-
  Layer 15: the laws' small living call.
-/
import Derived.Test.YtokpogoblnhihaaMg32
import Derived.Test.YtokpogoblnhihaaFtU
import Derived.Test.YtokpogoblnhihaaFtS
namespace Go.Proofs.Ytokpogoblnhihaa
open Go.RowKit
set_option linter.unusedVariables false
set_option linter.unusedSimpArgs false
attribute [local go_sem ↓] ld_addr st_addr bld_addr ld_sta st_sta bld_sta ld_sp st_sp bld_sp adsLit_eq
attribute [local go_sem] ldr_addr str_addr ldr_sta str_sta ldr_sp str_sp row?_drewN_eq row?_drew_eq
attribute [local go_sem ↓] adsLit2_eq

/-- What lives looks at: the step in block m, and its one source's place. -/
structure LvF (w : World) (m : Nat) (us : Nat → Value) (b o : Nat) (W : World) : Prop where
  blw : Below w.heap.size w W
  obj : ObjAt W m (spC true us true false).toArray 28
  st : StT W (us 1) (us 2) ftP.st
  row : row? W b o 17 = some (adC (ftA 2))
  lt : b < W.heap.size
theorem LvF.keep {w : World} {m : Nat} {us : Nat → Value} {b o : Nat} (W W' : World) (h : LvF w m us b o W) (hb : Below W.heap.size W W') : LvF w m us b o W' := ⟨bstep h.blw hb, obj_keep h.obj hb, h.st.below hb, row?_below h.row h.lt hb, Nat.lt_of_lt_of_le h.lt hb.size⟩
set_option maxRecDepth 100000 in
set_option maxHeartbeats 4000000 in
theorem lives15_any (w : World) : Calls Try.prog 14 #[] w fun x w' => x = .returned (.bool true) ∧ Below w.heap.size w w' := by
  have HF1 := Lib.hid (fun W => ft_four 1 1 rfl W)
  have HF2 := Lib.hid (fun W => ft_four 2 2 rfl W)
  have HF3 := Lib.hid (fun W => ft_four 3 3 rfl W)
  have HF9 := Lib.hid (fun W => ft_four 9 9 rfl W)
  have hl1 := adsLit2_run 1 2
  have hl2 := adsLit2_run 2 3
  have HD1 := Lib.hid (fun W => ads_lit2 W 1 2)
  have HD2 := Lib.hid (fun W => ads_lit2 W 2 3)
  have HAP : Hid (∀ W a vl, StT W a (.slice none 0 0) ftS → AdsT W vl [ftA 2, ftA 3] → Calls Try.prog 9 #[.agg (stC false a (.slice none 0 0)).toArray, .int .i64 2, vl] W fun x w' => ∃ us, x = .returned (.agg (spC true us true false).toArray) ∧ Below W.heap.size W w' ∧ SpT w' us ftP) := Lib.hid fun W a vl h hl => by
    have := fapply_any ftS ft_good 2 a (.slice none 0 0) vl [ftA 2, ftA 3] W h hl (by decide) (by decide) (by decide)
    rw [ft_step] at this
    exact this
  have HL9 : Hid (∀ W u v, StT W u v ftP.st → Calls Try.prog 20 #[.agg (stC true u v).toArray, .agg (adC (ftA 9)).toArray] W fun x w' => x = .returned (.bool true) ∧ Below W.heap.size W w') := Lib.hid fun W u v h => by
    have := flets_any ftP.st ft_good2 (ftA 9) u v W h.sta rfl (by decide) (by decide)
    rwa [show (if ftP.st.ex then !decide (ftA 9 ∈ ftP.st.off) else decide (ftA 9 ∈ ftP.st.on)) = true by decide +kernel] at this
  have HL3 : Hid (∀ W u v, StT W u v ftP.st → Calls Try.prog 20 #[.agg (stC true u v).toArray, .agg (adC (ftA 3)).toArray] W fun x w' => x = .returned (.bool false) ∧ Below W.heap.size W w') := Lib.hid fun W u v h => by
    have := flets_any ftP.st ft_good2 (ftA 3) u v W h.sta rfl (by decide) (by decide)
    rwa [show (if ftP.st.ex then !decide (ftA 3 ∈ ftP.st.off) else decide (ftA 3 ∈ ftP.st.on)) = false by decide +kernel] at this
  have hbt := fun w0 => bld_t15 (some ⟨0, 0, none⟩) 0 0 w0
  have hbt2 : ∀ p n c w0, (aggBuild 24 #[(1, .slice p n c)]).run Try.prog w0 = .ok (.agg (stC false (.slice p n c) (.slice none 0 0)).toArray) w0 := fun p n c w0 => bld_t15 p n c w0
  have hfm := fun W => fmade W #[.bool false, .slice none 0 0, .slice none 0 0, .slice none 0 0, .slice none 0 0, .bool false, .slice none 0 0, .bool false] 28 8 rfl
  have HB := Lib.hid (Below.refl w.heap.size w)
  have q := fun w0 => eq_ad (ftA 2) (ftA 2) rfl rfl w0
  rw [decide_eq_true rfl] at q
  generalize adC (ftA 1) = A1 at *
  generalize adC (ftA 9) = A9 at *
  go_enter Try.func14, Try.ntmps14
  go_upto_region 2 with (first
    | (go_at_call 9; (with_reducible refine (HAP.out _ _ _ ⟨HX4.out.below (bbS w4 _), adsT_nil _, (fun n c e => by cases e), nilcap⟩ (HD2.out w4)).mono ?_); rintro x w5 ⟨us, rfl, hb, hs⟩; have HB5 := Lib.hid (bstep (bstep HB4.out (bbS w4 _)) hb); have HS := Lib.hid hs; have hk : fok (spC true us true false).toArray 8 = true := fok_of rfl (hs.one _ _ _); clear hb hs)
    | (go_at_call 37; (with_reducible refine (HF3.out _).mono ?_); rintro x w4 ⟨rfl, hb⟩; have HB4 := Lib.hid (bstep HB3.out hb); have HX4 := Lib.hid (HX.out.below hb); clear hb)
    | (go_at_call 37; (with_reducible refine (HF2.out _).mono ?_); rintro x w3 ⟨rfl, hb⟩; have HX := Lib.hid ((HD1.out w2).below hb); have HB3 := Lib.hid (bstep (bstep HB.out (bbS w2 _)) hb); clear hb)
    | (go_at_call 37; (with_reducible refine (HF1.out _).mono ?_); rintro x w1 ⟨rfl, hb⟩; replace HB := Lib.hid (bstep HB.out hb); clear hb)
    | (go_at_call 37; (with_reducible refine (HF2.out _).mono ?_); rintro x w2 ⟨rfl, hb⟩; replace HB := Lib.hid (bstep HB.out hb); clear hb))
  have HO := Lib.hid (newObj w5 #[.bool false, .slice none 0 0, .slice none 0 0, .slice none 0 0, .slice none 0 0, .bool false, .slice none 0 0, .bool false] 28 (L := spC true us true false) rfl (HS.out.one _ _ _))
  have HB6 := Lib.hid (bstep HB5.out (newBlw w5 (.cells #[.bool false, .slice none 0 0, .slice none 0 0, .slice none 0 0, .slice none 0 0, .bool false, .slice none 0 0, .bool false] 28) (spC true us true false)))
  have HS6 := Lib.hid (HS.out.below (newBlw w5 (.cells #[.bool false, .slice none 0 0, .slice none 0 0, .slice none 0 0, .slice none 0 0, .bool false, .slice none 0 0, .bool false] 28) (spC true us true false)))
  generalize aggW (w5.alloc _) w5.heap.size _ = W at HO HB6 HS6 ⊢
  generalize w5.heap.size = m at HO ⊢
  clear HB HB3 HB4 HB5 HX HX4 HS hk HAP HD1 HD2 hfm hbt hbt2 hl1 hl2
  obtain ⟨b, o, c1, e1, _, _, hlt, hat⟩ := HS6.out.st.on.1.parts (by decide)
  obtain ⟨p2, c2, e2, _, _⟩ := HS6.out.st.off.1.len
  have hr := hat 0 (by decide)
  have HL : Hid (LvF w m us b (o + 0 * 17) W) := Lib.hid ⟨HB6.out, HO.out, HS6.out.st, hr, hlt⟩
  rw [show o + 0 * 17 = o by omega] at HL
  clear hat hr hlt
  have e1' : us 1 = .slice (some ⟨b, o, none⟩) 1 c1 := e1
  have e2' : us 2 = .slice p2 1 c2 := e2
  have HC : Hid (∀ p : InS (LvF w m us b o), p.W.cell? ⟨m, 0, none⟩ = some (.bool true) ∧ p.W.cell? ⟨m, 1, none⟩ = some (.slice (some ⟨b, o, none⟩) 1 c1) ∧ p.W.cell? ⟨m, 2, none⟩ = some (.slice p2 1 c2) ∧ p.W.cell? ⟨m, 5, none⟩ = some (.bool true) ∧ row? p.W m 0 3 = some (stC true (.slice (some ⟨b, o, none⟩) 1 c1) (.slice p2 1 c2)) ∧ row? p.W b o 17 = some (adC (ftA 2))) := Lib.hid fun p => by
    obtain ⟨d0, d1, d2, d3, d4, d5, d6, d7, df⟩ := spC_cells p.h.obj
    rw [e1'] at d1
    rw [e2'] at d2
    have r := sp_st p.h.obj
    rw [e1', e2'] at r
    exact ⟨d0, d1, d2, d5, r, p.h.row⟩
  have HL9' : Hid (∀ W, LvF w m us b o W → Calls Try.prog 20 #[.agg (stC true (.slice (some ⟨b, o, none⟩) 1 c1) (.slice p2 1 c2)).toArray, .agg A9.toArray] W fun x w' => x = .returned (.bool true) ∧ Below W.heap.size W w') := Lib.hid fun W h => by
    have := HL9.out W _ _ h.st
    rwa [e1', e2'] at this
  have HL3' : Hid (∀ W, LvF w m us b o W → Calls Try.prog 20 #[.agg (stC true (.slice (some ⟨b, o, none⟩) 1 c1) (.slice p2 1 c2)).toArray, .agg (adC (ftA 3)).toArray] W fun x w' => x = .returned (.bool false) ∧ Below W.heap.size W w') := Lib.hid fun W h => by
    have := HL3.out W _ _ h.st
    rwa [e1', e2'] at this
  clear e1 e2 e1' e2' HL9 HL3 HO HB6 HS6 HF1
  generalize adC (ftA 3) = A3 at *
  generalize adC (ftA 2) = A2 at *
  have f0 : ∀ p : InS (LvF w m us b o), p.W.cell? ⟨m, 0, none⟩ = some (.bool true) := fun p => (HC.out p).1
  have f1 : ∀ p : InS (LvF w m us b o), p.W.cell? ⟨m, 1, none⟩ = some (.slice (some ⟨b, o, none⟩) 1 c1) := fun p => (HC.out p).2.1
  have f2 : ∀ p : InS (LvF w m us b o), p.W.cell? ⟨m, 2, none⟩ = some (.slice p2 1 c2) := fun p => (HC.out p).2.2.1
  have f5 : ∀ p : InS (LvF w m us b o), p.W.cell? ⟨m, 5, none⟩ = some (.bool true) := fun p => (HC.out p).2.2.2.1
  have f6 : ∀ p : InS (LvF w m us b o), row? p.W m 0 3 = some (stC true (.slice (some ⟨b, o, none⟩) 1 c1) (.slice p2 1 c2)) := fun p => (HC.out p).2.2.2.2.1
  have f7 : ∀ p : InS (LvF w m us b o), row? p.W b o 17 = some A2 := fun p => (HC.out p).2.2.2.2.2
  have hne : Nonempty (InS (LvF w m us b o)) := ⟨⟨_, HL.out⟩⟩
  refine wp_region_inS (LvF w m us b o) (by kernel_rfl) (by kernel_rfl) (LvF.keep _ _ HL.out (bdrewN (Below.refl _ _) 1)) ?_
  repeat (go_big_quiet_step (first
    | (go_at_call 37; with_reducible exact Calls.inS LvF.keep _ (fun W _ => HF2.out W))
    | (go_at_call 37; with_reducible exact Calls.inS LvF.keep _ (fun W _ => HF9.out W))
    | (go_at_call 37; with_reducible exact Calls.inS LvF.keep _ (fun W _ => HF3.out W))
    | (go_at_call 20; with_reducible exact Calls.inS LvF.keep _ (HL9'.out))
    | (go_at_call 20; with_reducible exact Calls.inS LvF.keep _ (HL3'.out))))
  refine wpQuiet_nil ?_
  rintro _ ⟨⟨W2, hS2⟩, rfl⟩
  have H2 := Lib.hid hS2
  clear hS2 hne f0 f1 f2 f5 f6 f7
  go_wp2
  go_ret
  exact ⟨rfl, H2.out.blw⟩
end Go.Proofs.Ytokpogoblnhihaa
