/-
  Layer 16: the laws' small living call; the walk of CompatModes.
-/
import Derived.Test.YtacnhelnpngkgaaCpP
import Derived.Test.YtacnhelnpngkgaaMg07
namespace Go.Proofs.Ytacnhelnpngkgaa
open Go.RowKit
set_option linter.unusedVariables false
set_option linter.unusedSimpArgs false
attribute [local go_sem ↓] ld_addr st_addr bld_addr ld_tk st_tk bld_tk ld_rec st_rec bld_rec rcsLit_eq
attribute [local go_sem] ldr_addr str_addr ldr_tk str_tk ldr_rec str_rec row?_drewN_eq row?_drew_eq
attribute [local go_sem ↓] bld_b16 ld_b16
attribute [local go_sem] ldr_b16
def gC : AD := (false, [239, 1, 1, 1, 0, 0, 0, 0, 0, 0, 0, 0, 0, 0, 0, 0])
theorem gC_ok : adOk gC := rfl
def liveQ : TK := ⟨false, 2, 2, 0, gC, false, 0, 0, [], []⟩
theorem liveQ_good : gdT liveQ = true := by decide +kernel
theorem blC_b (w : World) : (aggBuild 22 #[(0, .int .u8 239), (1, .int .u8 1), (2, .int .u8 1), (3, .int .u8 1)]).run Try.prog w = .ok (.agg (B8 gC.2).toArray) w := bld_run _ _ _ (by kernel_rfl) _
theorem blC_a (w : World) : (aggBuild 24 #[(1, .agg (B8 gC.2).toArray)]).run Try.prog w = .ok (.agg (adC gC).toArray) w := bld_run _ _ _ (by kernel_rfl) _
theorem blC_t (w : World) : (aggBuild 28 #[(1, .int .i64 2), (2, .int .i64 2), (4, .agg (adC gC).toArray)]).run Try.prog w = .ok (.agg (tkC liveQ (.slice none 0 0) (.slice none 0 0)).toArray) w := bld_run _ _ _ (by kernel_rfl) _
theorem rcT_nil (w : World) : RcT w (.slice none 0 0) [] := ⟨0, [], ⟨⟨rfl, .inl ⟨rfl, rfl⟩⟩, fun x hx => by cases hx⟩, rfl⟩
structure LvC (w : World) (m b o : Nat) (W : World) : Prop where
  blw : Below w.heap.size w W
  adr : ObjAt W m (adC gC).toArray 24
  rc : RcAt W b o ⟨2, gC, []⟩
theorem LvC.keep {w : World} {m b o : Nat} (W W' : World) (h : LvC w m b o W) (hb : Below W.heap.size W W') : LvC w m b o W' := ⟨bstep h.blw hb, obj_keep h.adr hb, h.rc.below hb⟩
theorem LvC.facts {w W : World} {m b o : Nat} (h : LvC w m b o W) : row? W m 0 17 = some (adC gC) ∧ W.cell? ⟨b, o, none⟩ = some (.int .i64 2) ∧ row? W b (o + 1) 17 = some (adC gC) := by
  obtain ⟨u, h1, h2, _, _, _⟩ := h.rc.parts
  exact ⟨obj_re h.adr (A := []) (M := adC gC) (C := []) (by simp) rfl rfl, h1, h2⟩
set_option maxRecDepth 100000 in
set_option maxHeartbeats 4000000 in
theorem lives16_any (w : World) : Calls Try.prog 8 #[] w fun x w' => x = .returned (.bool true) ∧ Below w.heap.size w w' := by
  have HR : Hid (∀ W, Calls Try.prog 10 #[.agg (tkC liveQ (.slice none 0 0) (.slice none 0 0)).toArray] W fun x w' => ∃ b o c, x = .returned (.slice (some ⟨b, o, none⟩) 1 c) ∧ Below W.heap.size W w' ∧ RcAt w' b o ⟨2, gC, []⟩) := Lib.hid fun W => (crecs_any liveQ _ _ gC_ok liveQ_good W (rcT_nil W) (by decide) (by decide)).mono fun x w' ⟨v, hx, hb, hr⟩ => by
    have e : recsC liveQ = [⟨2, gC, []⟩] := by decide
    rw [e] at hr
    obtain ⟨b, o, c, rfl, _, _, h4⟩ := hr.parts (by simp)
    exact ⟨b, o, c, hx, hb, by have := h4 0 (by simp); simpa using this⟩
  have HM : Hid (∀ W, Calls Try.prog 14 #[.bool false, .int .i64 5, .int .i64 5, .int .i64 6] W fun x w' => x = .returned (.int .i64 2) ∧ Below W.heap.size W w') := Lib.hid fun W => cmode_any false 5 5 6 W
  have HL : Hid (∀ W, Calls Try.prog 16 #[.bool true] W fun x w' => x = .returned (.int .i64 2) ∧ Below W.heap.size W w') := Lib.hid fun W => clast_any true W
  have h1 := blC_b
  have h2 := blC_a
  have h3 := blC_t
  have hfk : fok (adC gC).toArray 17 = true := fok_addr _ _ rfl
  have hfm := fmade w #[.bool false, .int .u8 0, .int .u8 0, .int .u8 0, .int .u8 0, .int .u8 0, .int .u8 0, .int .u8 0, .int .u8 0, .int .u8 0, .int .u8 0, .int .u8 0, .int .u8 0, .int .u8 0, .int .u8 0, .int .u8 0, .int .u8 0] 24 17 rfl
  have HB := Lib.hid (Below.refl w.heap.size w)
  have q := fun w0 => eq_ad gC gC rfl rfl w0
  rw [decide_eq_true rfl] at q
  have HF := Lib.hid (fun m b o W (h : LvC w m b o W) => h.facts)
  have HO : Hid (ObjAt (aggW (w.alloc (.cells #[.bool false, .int .u8 0, .int .u8 0, .int .u8 0, .int .u8 0, .int .u8 0, .int .u8 0, .int .u8 0, .int .u8 0, .int .u8 0, .int .u8 0, .int .u8 0, .int .u8 0, .int .u8 0, .int .u8 0, .int .u8 0, .int .u8 0] 24)) w.heap.size (adC gC)) w.heap.size (adC gC).toArray 24 ∧ Below w.heap.size w (aggW (w.alloc (.cells #[.bool false, .int .u8 0, .int .u8 0, .int .u8 0, .int .u8 0, .int .u8 0, .int .u8 0, .int .u8 0, .int .u8 0, .int .u8 0, .int .u8 0, .int .u8 0, .int .u8 0, .int .u8 0, .int .u8 0, .int .u8 0, .int .u8 0] 24)) w.heap.size (adC gC))) := Lib.hid ⟨newObj w _ _ rfl (addrC_one _ _), newBlw w _ _⟩
  have hG : (adC gC).length = 17 := rfl
  generalize B8 gC.2 = GB at *
  go_enter Try.func8, Try.ntmps8
  go_upto_region 2 with (fail)
  generalize aggW (w.alloc _) w.heap.size _ = W at HO ⊢
  have rg : row? W w.heap.size 0 17 = some (adC gC) := obj_re HO.out.1 (A := []) (M := adC gC) (C := []) (by simp) rfl hG
  go_upto_region 3 with (go_at_call 10; (with_reducible refine (HR.out _).mono ?_); rintro x w1 ⟨b, o, c, rfl, hb, hr⟩; have H1 := Lib.hid (show LvC w w.heap.size b o w1 from ⟨bstep HO.out.2 hb, obj_keep HO.out.1 hb, hr⟩); clear hb hr)
  clear hfm rg HO
  have f1 : ∀ p : InS (LvC w w.heap.size b o), row? p.W w.heap.size 0 17 = some (adC gC) := fun p => (HF.out _ _ _ _ p.h).1
  have f2 : ∀ p : InS (LvC w w.heap.size b o), p.W.cell? ⟨b, o, none⟩ = some (.int .i64 2) := fun p => (HF.out _ _ _ _ p.h).2.1
  have f3 : ∀ p : InS (LvC w w.heap.size b o), row? p.W b (o + 1) 17 = some (adC gC) := fun p => (HF.out _ _ _ _ p.h).2.2
  have hne : Nonempty (InS (LvC w w.heap.size b o)) := ⟨⟨_, H1.out⟩⟩
  refine wp_region_inS (LvC w w.heap.size b o) (by kernel_rfl) (by kernel_rfl) (LvC.keep _ _ H1.out (bdrewN (Below.refl _ _) 1)) ?_
  repeat (go_big_quiet_step (first
    | (go_at_call 14; with_reducible exact Calls.inS LvC.keep _ (fun W _ => HM.out W))
    | (go_at_call 16; with_reducible exact Calls.inS LvC.keep _ (fun W _ => HL.out W))))
  refine wpQuiet_nil ?_
  rintro _ ⟨⟨W2, hS2⟩, rfl⟩
  have H2 := Lib.hid hS2
  clear hS2 hne f1 f2 f3
  go_wp2
  go_ret
  exact ⟨rfl, H2.out.blw⟩
/-- Two times, boxed. -/
structure PaB (w : World) (a b : Int) (W : World) : Prop where
  blw : Below w.heap.size w W
  obj : ObjAt W w.heap.size #[.int .i64 a, .int .i64 b] 35
theorem PaB.keep {w : World} {a b : Int} (W W' : World) (h : PaB w a b W) (hb : Below W.heap.size W W') : PaB w a b W' := ⟨bstep h.blw hb, obj_keep h.obj hb⟩
theorem PaB.facts {w W : World} {a b : Int} (h : PaB w a b W) : W.cell? ⟨w.heap.size, 0, none⟩ = some (.int .i64 a) ∧ W.cell? ⟨w.heap.size, 1, none⟩ = some (.int .i64 b) := by
  constructor <;> (rw [ObjAt.cell h.obj]; rfl)
set_option maxRecDepth 100000 in
set_option maxHeartbeats 4000000 in
theorem cmodes_any (v6 : Bool) (now a b : Int) (w : World) : Calls Try.prog 4 #[.bool v6, .int .i64 now, .agg #[.int .i64 a, .int .i64 b]] w fun x w' => x = .returned (.bool true) ∧ Below w.heap.size w w' := by
  have H0 : Hid (PaB w a b (w.alloc (.cells #[.int .i64 a, .int .i64 b] 35))) := Lib.hid ⟨bbox w _, ObjAt.made w _ _⟩
  obtain ⟨m1, m2⟩ := modeC_in v6 now a b
  have HM := Lib.hid (fun W => cmode_any v6 now a b W)
  have HMR : Hid (∀ W, Calls Try.prog 15 #[.bool v6, .int .i64 now, .int .i64 a, .int .i64 b] W fun x w' => x = .returned (.int .i64 (modeC v6 now a b)) ∧ Below W.heap.size W w') := Lib.hid fun W => (rmode16_any v6 now a b W).mono fun _ _ h => ⟨h.1, h.2 ▸ Below.refl _ _⟩
  have HL := Lib.hid (fun W => clast_any v6 W)
  have HLR : Hid (∀ W, Calls Try.prog 17 #[.bool v6] W fun x w' => x = .returned (.int .i64 (lastN v6)) ∧ Below W.heap.size W w') := Lib.hid fun W => (rlast16_any v6 W).mono fun _ _ h => ⟨h.1, h.2 ▸ Below.refl _ _⟩
  have HLV := Lib.hid (fun W => lives16_any W)
  have HF := Lib.hid (fun W (h : PaB w a b W) => h.facts)
  generalize modeC v6 now a b = m at *
  generalize lastN v6 = l at *
  have z1 : ∀ z : Int, (z == z) = true := fun z => by simp
  go_enter Try.func4, Try.ntmps4
  go_upto_region 1 with (fail)
  generalize w.alloc _ = W at H0 ⊢
  obtain ⟨c0, c1⟩ := HF.out _ H0.out
  go_wp2_with (first
    | (go_at_call 14; (with_reducible refine (HM.out _).mono ?_); rintro x w1 ⟨rfl, hb⟩; replace H0 := Lib.hid (PaB.keep _ _ H0.out hb); clear hb c0 c1; obtain ⟨c0, c1⟩ := HF.out _ H0.out)
    | (go_at_call 15; (with_reducible refine (HMR.out _).mono ?_); rintro x w1 ⟨rfl, hb⟩; replace H0 := Lib.hid (PaB.keep _ _ H0.out hb); clear hb c0 c1; obtain ⟨c0, c1⟩ := HF.out _ H0.out)
    | (go_at_call 16; (with_reducible refine (HL.out _).mono ?_); rintro x w1 ⟨rfl, hb⟩; replace H0 := Lib.hid (PaB.keep _ _ H0.out hb); clear hb c0 c1; obtain ⟨c0, c1⟩ := HF.out _ H0.out)
    | (go_at_call 17; (with_reducible refine (HLR.out _).mono ?_); rintro x w1 ⟨rfl, hb⟩; replace H0 := Lib.hid (PaB.keep _ _ H0.out hb); clear hb c0 c1; obtain ⟨c0, c1⟩ := HF.out _ H0.out)
    | (go_at_call 8; (with_reducible refine (HLV.out _).mono ?_); rintro x w1 ⟨rfl, hb⟩; replace H0 := Lib.hid (PaB.keep _ _ H0.out hb); clear hb c0 c1; obtain ⟨c0, c1⟩ := HF.out _ H0.out))
  go_ret
  exact ⟨rfl, H0.out.blw⟩
end Go.Proofs.Ytacnhelnpngkgaa
