/-
  Layer 15: the program's table, a record of each kind at a state of each kind.
-/
import Derived.Test.YtokpogoblnhihaaFtHa
namespace Go.Proofs.Ytokpogoblnhihaa
open Go.RowKit
set_option linter.unusedVariables false
set_option linter.unusedSimpArgs false
attribute [local go_sem ↓] ld_addr st_addr bld_addr ld_sta st_sta bld_sta ld_sp st_sp bld_sp adsLit_eq
attribute [local go_sem] ldr_addr str_addr ldr_sta str_sta ldr_sp str_sp row?_drewN_eq row?_drew_eq

def usF (v1 v2 v3 v4 v6 : Value) : Nat → Value := fun j => if j = 1 then v1 else if j = 2 then v2 else if j = 3 then v3 else if j = 4 then v4 else if j = 6 then v6 else .slice none 0 0
/-- What a call that makes a step gives. -/
abbrev GivesP (f : Nat) (args : Array Value) (W : World) (P : SP) : Prop := Calls Try.prog f args W fun x w' => ∃ us, x = .returned (.agg (spC P.st.ex us P.grp P.all).toArray) ∧ Below W.heap.size W w' ∧ SpT w' us P
theorem SpT.gs {W : World} {v1 v2 v3 v4 v6 : Value} {P : SP} (h1 : GSl W v1 P.st.on) (h2 : GSl W v2 P.st.off) (h3 : GSl W v3 P.full) (h4 : GSl W v4 P.rest) (h6 : GSl W v6 P.ask) : SpT W (usF v1 v2 v3 v4 v6) P := ⟨StT.gs h1 h2, h3.1, h4.1, h6.1⟩
theorem usF_one {v1 v2 v3 v4 v6 : Value} (h1 : v1.oneCell' = true) (h2 : v2.oneCell' = true) (h3 : v3.oneCell' = true) (h4 : v4.oneCell' = true) (h6 : v6.oneCell' = true) (j : Nat) : (usF v1 v2 v3 v4 v6 j).oneCell' = true := by
  unfold usF
  repeat' split
  all_goals first | assumption | rfl

theorem bld_fin_3 (p1 p2 qb : Option Addr) (n1 c1 n2 c2 mb db : Nat) (w : World) : (aggBuild 28 #[(0, .agg (stC false (.slice p1 n1 c1) (.slice none 0 0)).toArray), (1, (.slice qb mb db)), (4, (.slice p2 n2 c2))]).run Try.prog w = .ok (.agg (spC false (usF (.slice p1 n1 c1) (.slice none 0 0) (.slice qb mb db) (.slice none 0 0) (.slice p2 n2 c2)) false false).toArray) w := bld_run _ _ _ (by kernel_rfl) _
set_option maxRecDepth 100000 in
set_option maxHeartbeats 1000000 in
theorem fin_3 (a b : List AD) (va vb : Value) (w : World) (ha : GSl w va a) (hb : GSl w vb b) (ga : SetA a) (gb : SetA b) (la : a.length ≤ 200) (lb : b.length ≤ 200) : GivesP 32 #[va, vb, .int .i64 3] w ⟨⟨false, (orA a b), []⟩, b, [], false, (pickA a b false), false⟩ := by
  have HVa : Hid (∀ W, Below w.heap.size w W → GSl W va a) := Lib.hid fun W hw => ha.below hw
  have HVb : Hid (∀ W, Below w.heap.size w W → GSl W vb b) := Lib.hid fun W hw => hb.below hw
  have HC1 : Hid (∀ W, Below w.heap.size w W → Gives 40 #[va, vb] W (orA a b)) := Lib.hid fun W hb => gOr (HVa.out _ hb) (HVb.out _ hb) (ga) (gb) (Nat.le_trans la (by decide)) (Nat.le_trans lb (by decide))
  have HC2 : Hid (∀ W, Below w.heap.size w W → Gives 38 #[va, vb] W (pickA a b false)) := Lib.hid fun W hb => gMinus (HVa.out _ hb).1.1 (HVb.out _ hb).1.1 (gb) (Nat.le_trans la (by decide)) (Nat.le_trans lb (by decide))
  obtain ⟨qb, db, eb, _, _⟩ := hb.1.1.len
  obtain ⟨mb, hmb⟩ : ∃ n, n = b.length := ⟨_, rfl⟩
  rw [← hmb] at eb
  subst eb
  clear hmb
  have hbl := fun p1 p2 qb n1 c1 n2 c2 mb db w0 => bld_fin_3 p1 p2 qb n1 c1 n2 c2 mb db w0
  clear ha hb ga gb la lb
  have H0 := Lib.hid (ObjAt.made w #[.bool false, .slice none 0 0, .slice none 0 0, .slice none 0 0, .slice none 0 0, .bool false, .slice none 0 0, .bool false] 28)
  have HB := Lib.hid (bbox w (.cells #[.bool false, .slice none 0 0, .slice none 0 0, .slice none 0 0, .slice none 0 0, .bool false, .slice none 0 0, .bool false] 28))
  unfold GivesP
  go_enter Try.func32, Try.ntmps32
  go_upto_region 1 with (fail)
  generalize w.alloc _ = W at H0 HB ⊢
  have hfk : ∀ e us g al, (∀ j, (us j).oneCell' = true) → fok (spC e us g al).toArray 8 = true := fun e us g al h => fok_of rfl (spC_one h)
  go_wp2_with (first
    | (go_at_call 40; (with_reducible refine (HC1.out _ HB.out).mono ?_); rintro x w1 ⟨p1, n1, c1, rfl, hb, ho⟩; replace H0 := Lib.hid (obj_keep H0.out hb); replace HB := Lib.hid (bstep HB.out hb); have HS1 := Lib.hid ho; clear hb ho HC1)
    | (go_at_call 41; refine (fonly_any _ _ _ _).mono ?_; rintro x w1 ⟨rfl, hb⟩; replace H0 := Lib.hid (obj_keep H0.out hb); replace HB := Lib.hid (bstep HB.out hb); replace HS1 := Lib.hid (HS1.out.below hb); clear hb)
    | (go_at_call 38; (with_reducible refine (HC2.out _ HB.out).mono ?_); rintro x w1 ⟨p2, n2, c2, rfl, hb, ho⟩; replace H0 := Lib.hid (obj_keep H0.out hb); replace HB := Lib.hid (bstep HB.out hb); replace HS1 := Lib.hid (HS1.out.below hb); have HS2 := Lib.hid ho; clear hb ho HC2; have hf := obj_free_at H0.out 0 8 (Nat.le_refl _); have hfk2 := hfk false (usF (.slice p1 n1 c1) (.slice none 0 0) (.slice qb mb db) (.slice none 0 0) (.slice p2 n2 c2)) false false (usF_one rfl rfl rfl rfl rfl)))
  have q := resDone H0.out HB.out (Nat.le_refl _) (spC false (usF (.slice p1 n1 c1) (.slice none 0 0) (.slice qb mb db) (.slice none 0 0) (.slice p2 n2 c2)) false false) rfl
  have hg := fun W0 : World => aggW_grown W0 w.heap.size (spC false (usF (.slice p1 n1 c1) (.slice none 0 0) (.slice qb mb db) (.slice none 0 0) (.slice p2 n2 c2)) false false)
  refine bodyPost_ret (results_cell Try.results32 rfl (ld_some q.1 (ldr_sp _ _ _))) rfl ⟨_, rfl, q.2, SpT.gs (HS1.out.off H0.out (by decide) (hg _)) (GSl.nil _) (HVb.out _ q.2) (GSl.nil _) (HS2.out.off H0.out (by decide) (hg _))⟩
theorem bld_fin_6 (p1 p2 : Option Addr) (n1 c1 n2 c2 : Nat) (w : World) : (aggBuild 28 #[(0, .agg (stC false (.slice p1 n1 c1) (.slice none 0 0)).toArray), (4, (.slice p2 n2 c2))]).run Try.prog w = .ok (.agg (spC false (usF (.slice p1 n1 c1) (.slice none 0 0) (.slice none 0 0) (.slice none 0 0) (.slice p2 n2 c2)) false false).toArray) w := bld_run _ _ _ (by kernel_rfl) _
set_option maxRecDepth 100000 in
set_option maxHeartbeats 1000000 in
theorem fin_6 (a b : List AD) (va vb : Value) (w : World) (ha : GSl w va a) (hb : GSl w vb b) (ga : SetA a) (gb : SetA b) (la : a.length ≤ 200) (lb : b.length ≤ 200) : GivesP 32 #[va, vb, .int .i64 6] w ⟨⟨false, a, []⟩, [], [], false, (pickA a b true), false⟩ := by
  have HVa : Hid (∀ W, Below w.heap.size w W → GSl W va a) := Lib.hid fun W hw => ha.below hw
  have HVb : Hid (∀ W, Below w.heap.size w W → GSl W vb b) := Lib.hid fun W hw => hb.below hw
  have HC1 : Hid (∀ W, Below w.heap.size w W → Gives 42 #[va] W a) := Lib.hid fun W hb => fown_any (HVa.out _ hb) (Nat.le_trans la (by decide))
  have HC2 : Hid (∀ W, Below w.heap.size w W → Gives 36 #[va, vb] W (pickA a b true)) := Lib.hid fun W hb => gAnd (HVa.out _ hb).1.1 (HVb.out _ hb).1.1 (gb) (Nat.le_trans la (by decide)) (Nat.le_trans lb (by decide))
  have hbl := fun p1 p2 n1 c1 n2 c2 w0 => bld_fin_6 p1 p2 n1 c1 n2 c2 w0
  clear ha hb ga gb la lb
  have H0 := Lib.hid (ObjAt.made w #[.bool false, .slice none 0 0, .slice none 0 0, .slice none 0 0, .slice none 0 0, .bool false, .slice none 0 0, .bool false] 28)
  have HB := Lib.hid (bbox w (.cells #[.bool false, .slice none 0 0, .slice none 0 0, .slice none 0 0, .slice none 0 0, .bool false, .slice none 0 0, .bool false] 28))
  unfold GivesP
  go_enter Try.func32, Try.ntmps32
  go_upto_region 1 with (fail)
  generalize w.alloc _ = W at H0 HB ⊢
  have hfk : ∀ e us g al, (∀ j, (us j).oneCell' = true) → fok (spC e us g al).toArray 8 = true := fun e us g al h => fok_of rfl (spC_one h)
  go_wp2_with (first
    | (go_at_call 42; (with_reducible refine (HC1.out _ HB.out).mono ?_); rintro x w1 ⟨p1, n1, c1, rfl, hb, ho⟩; replace H0 := Lib.hid (obj_keep H0.out hb); replace HB := Lib.hid (bstep HB.out hb); have HS1 := Lib.hid ho; clear hb ho HC1)
    | (go_at_call 41; refine (fonly_any _ _ _ _).mono ?_; rintro x w1 ⟨rfl, hb⟩; replace H0 := Lib.hid (obj_keep H0.out hb); replace HB := Lib.hid (bstep HB.out hb); replace HS1 := Lib.hid (HS1.out.below hb); clear hb)
    | (go_at_call 36; (with_reducible refine (HC2.out _ HB.out).mono ?_); rintro x w1 ⟨p2, n2, c2, rfl, hb, ho⟩; replace H0 := Lib.hid (obj_keep H0.out hb); replace HB := Lib.hid (bstep HB.out hb); replace HS1 := Lib.hid (HS1.out.below hb); have HS2 := Lib.hid ho; clear hb ho HC2; have hf := obj_free_at H0.out 0 8 (Nat.le_refl _); have hfk2 := hfk false (usF (.slice p1 n1 c1) (.slice none 0 0) (.slice none 0 0) (.slice none 0 0) (.slice p2 n2 c2)) false false (usF_one rfl rfl rfl rfl rfl)))
  have q := resDone H0.out HB.out (Nat.le_refl _) (spC false (usF (.slice p1 n1 c1) (.slice none 0 0) (.slice none 0 0) (.slice none 0 0) (.slice p2 n2 c2)) false false) rfl
  have hg := fun W0 : World => aggW_grown W0 w.heap.size (spC false (usF (.slice p1 n1 c1) (.slice none 0 0) (.slice none 0 0) (.slice none 0 0) (.slice p2 n2 c2)) false false)
  refine bodyPost_ret (results_cell Try.results32 rfl (ld_some q.1 (ldr_sp _ _ _))) rfl ⟨_, rfl, q.2, SpT.gs (HS1.out.off H0.out (by decide) (hg _)) (GSl.nil _) (GSl.nil _) (GSl.nil _) (HS2.out.off H0.out (by decide) (hg _))⟩
theorem bld_fin_2 (p1 p2 : Option Addr) (n1 c1 n2 c2 : Nat) (w : World) : (aggBuild 28 #[(0, .agg (stC true (.slice p1 n1 c1) (.slice p2 n2 c2)).toArray), (3, .bool true)]).run Try.prog w = .ok (.agg (spC true (usF (.slice p1 n1 c1) (.slice p2 n2 c2) (.slice none 0 0) (.slice none 0 0) (.slice none 0 0)) true false).toArray) w := bld_run _ _ _ (by kernel_rfl) _
set_option maxRecDepth 100000 in
set_option maxHeartbeats 1000000 in
theorem fin_2 (a b : List AD) (va vb : Value) (w : World) (ha : GSl w va a) (hb : GSl w vb b) (ga : SetA a) (gb : SetA b) (la : a.length ≤ 200) (lb : b.length ≤ 200) : GivesP 32 #[va, vb, .int .i64 2] w ⟨⟨true, (pickA a b true), (pickA b a false)⟩, [], [], true, [], false⟩ := by
  have HVa : Hid (∀ W, Below w.heap.size w W → GSl W va a) := Lib.hid fun W hw => ha.below hw
  have HVb : Hid (∀ W, Below w.heap.size w W → GSl W vb b) := Lib.hid fun W hw => hb.below hw
  have HC1 : Hid (∀ W, Below w.heap.size w W → Gives 36 #[va, vb] W (pickA a b true)) := Lib.hid fun W hb => gAnd (HVa.out _ hb).1.1 (HVb.out _ hb).1.1 (gb) (Nat.le_trans la (by decide)) (Nat.le_trans lb (by decide))
  have HC2 : Hid (∀ W, Below w.heap.size w W → Gives 38 #[vb, va] W (pickA b a false)) := Lib.hid fun W hb => gMinus (HVb.out _ hb).1.1 (HVa.out _ hb).1.1 (ga) (Nat.le_trans lb (by decide)) (Nat.le_trans la (by decide))
  have hbl := fun p1 p2 n1 c1 n2 c2 w0 => bld_fin_2 p1 p2 n1 c1 n2 c2 w0
  clear ha hb ga gb la lb
  have H0 := Lib.hid (ObjAt.made w #[.bool false, .slice none 0 0, .slice none 0 0, .slice none 0 0, .slice none 0 0, .bool false, .slice none 0 0, .bool false] 28)
  have HB := Lib.hid (bbox w (.cells #[.bool false, .slice none 0 0, .slice none 0 0, .slice none 0 0, .slice none 0 0, .bool false, .slice none 0 0, .bool false] 28))
  unfold GivesP
  go_enter Try.func32, Try.ntmps32
  go_upto_region 1 with (fail)
  generalize w.alloc _ = W at H0 HB ⊢
  have hfk : ∀ e us g al, (∀ j, (us j).oneCell' = true) → fok (spC e us g al).toArray 8 = true := fun e us g al h => fok_of rfl (spC_one h)
  go_wp2_with (first
    | (go_at_call 36; (with_reducible refine (HC1.out _ HB.out).mono ?_); rintro x w1 ⟨p1, n1, c1, rfl, hb, ho⟩; replace H0 := Lib.hid (obj_keep H0.out hb); replace HB := Lib.hid (bstep HB.out hb); have HS1 := Lib.hid ho; clear hb ho HC1)
    | (go_at_call 38; (with_reducible refine (HC2.out _ HB.out).mono ?_); rintro x w1 ⟨p2, n2, c2, rfl, hb, ho⟩; replace H0 := Lib.hid (obj_keep H0.out hb); replace HB := Lib.hid (bstep HB.out hb); replace HS1 := Lib.hid (HS1.out.below hb); have HS2 := Lib.hid ho; clear hb ho HC2)
    | (go_at_call 39; refine (fexcept_any _ _ _ _ _ _ _).mono ?_; rintro x w1 ⟨rfl, hb⟩; replace H0 := Lib.hid (obj_keep H0.out hb); replace HB := Lib.hid (bstep HB.out hb); replace HS1 := Lib.hid (HS1.out.below hb); replace HS2 := Lib.hid (HS2.out.below hb); clear hb; have hf := obj_free_at H0.out 0 8 (Nat.le_refl _); have hfk2 := hfk true (usF (.slice p1 n1 c1) (.slice p2 n2 c2) (.slice none 0 0) (.slice none 0 0) (.slice none 0 0)) true false (usF_one rfl rfl rfl rfl rfl)))
  have q := resDone H0.out HB.out (Nat.le_refl _) (spC true (usF (.slice p1 n1 c1) (.slice p2 n2 c2) (.slice none 0 0) (.slice none 0 0) (.slice none 0 0)) true false) rfl
  have hg := fun W0 : World => aggW_grown W0 w.heap.size (spC true (usF (.slice p1 n1 c1) (.slice p2 n2 c2) (.slice none 0 0) (.slice none 0 0) (.slice none 0 0)) true false)
  refine bodyPost_ret (results_cell Try.results32 rfl (ld_some q.1 (ldr_sp _ _ _))) rfl ⟨_, rfl, q.2, SpT.gs (HS1.out.off H0.out (by decide) (hg _)) (HS2.out.off H0.out (by decide) (hg _)) (GSl.nil _) (GSl.nil _) (GSl.nil _)⟩
theorem bld_fin_4 (p1 p2 p3 : Option Addr) (n1 c1 n2 c2 n3 c3 : Nat) (w : World) : (aggBuild 28 #[(0, .agg (stC true (.slice p1 n1 c1) (.slice p2 n2 c2)).toArray), (3, .bool true), (4, (.slice p3 n3 c3))]).run Try.prog w = .ok (.agg (spC true (usF (.slice p1 n1 c1) (.slice p2 n2 c2) (.slice none 0 0) (.slice none 0 0) (.slice p3 n3 c3)) true false).toArray) w := bld_run _ _ _ (by kernel_rfl) _
set_option maxRecDepth 100000 in
set_option maxHeartbeats 1000000 in
theorem fin_4 (a b : List AD) (va vb : Value) (w : World) (ha : GSl w va a) (hb : GSl w vb b) (ga : SetA a) (gb : SetA b) (la : a.length ≤ 200) (lb : b.length ≤ 200) : GivesP 32 #[va, vb, .int .i64 4] w ⟨⟨true, (pickA a b true), (pickA b a false)⟩, [], [], true, (pickA a b true), false⟩ := by
  have HVa : Hid (∀ W, Below w.heap.size w W → GSl W va a) := Lib.hid fun W hw => ha.below hw
  have HVb : Hid (∀ W, Below w.heap.size w W → GSl W vb b) := Lib.hid fun W hw => hb.below hw
  have HC1 : Hid (∀ W, Below w.heap.size w W → Gives 36 #[va, vb] W (pickA a b true)) := Lib.hid fun W hb => gAnd (HVa.out _ hb).1.1 (HVb.out _ hb).1.1 (gb) (Nat.le_trans la (by decide)) (Nat.le_trans lb (by decide))
  have HC2 : Hid (∀ W, Below w.heap.size w W → Gives 38 #[vb, va] W (pickA b a false)) := Lib.hid fun W hb => gMinus (HVb.out _ hb).1.1 (HVa.out _ hb).1.1 (ga) (Nat.le_trans lb (by decide)) (Nat.le_trans la (by decide))
  have HC3 : Hid (∀ W, Below w.heap.size w W → Gives 36 #[va, vb] W (pickA a b true)) := Lib.hid fun W hb => gAnd (HVa.out _ hb).1.1 (HVb.out _ hb).1.1 (gb) (Nat.le_trans la (by decide)) (Nat.le_trans lb (by decide))
  have hbl := fun p1 p2 p3 n1 c1 n2 c2 n3 c3 w0 => bld_fin_4 p1 p2 p3 n1 c1 n2 c2 n3 c3 w0
  clear ha hb ga gb la lb
  have H0 := Lib.hid (ObjAt.made w #[.bool false, .slice none 0 0, .slice none 0 0, .slice none 0 0, .slice none 0 0, .bool false, .slice none 0 0, .bool false] 28)
  have HB := Lib.hid (bbox w (.cells #[.bool false, .slice none 0 0, .slice none 0 0, .slice none 0 0, .slice none 0 0, .bool false, .slice none 0 0, .bool false] 28))
  unfold GivesP
  go_enter Try.func32, Try.ntmps32
  go_upto_region 1 with (fail)
  generalize w.alloc _ = W at H0 HB ⊢
  have hfk : ∀ e us g al, (∀ j, (us j).oneCell' = true) → fok (spC e us g al).toArray 8 = true := fun e us g al h => fok_of rfl (spC_one h)
  go_wp2_with (first
    | (go_at_call 36; (with_reducible refine (HC1.out _ HB.out).mono ?_); rintro x w1 ⟨p1, n1, c1, rfl, hb, ho⟩; replace H0 := Lib.hid (obj_keep H0.out hb); replace HB := Lib.hid (bstep HB.out hb); have HS1 := Lib.hid ho; clear hb ho HC1)
    | (go_at_call 38; (with_reducible refine (HC2.out _ HB.out).mono ?_); rintro x w1 ⟨p2, n2, c2, rfl, hb, ho⟩; replace H0 := Lib.hid (obj_keep H0.out hb); replace HB := Lib.hid (bstep HB.out hb); replace HS1 := Lib.hid (HS1.out.below hb); have HS2 := Lib.hid ho; clear hb ho HC2)
    | (go_at_call 39; refine (fexcept_any _ _ _ _ _ _ _).mono ?_; rintro x w1 ⟨rfl, hb⟩; replace H0 := Lib.hid (obj_keep H0.out hb); replace HB := Lib.hid (bstep HB.out hb); replace HS1 := Lib.hid (HS1.out.below hb); replace HS2 := Lib.hid (HS2.out.below hb); clear hb)
    | (go_at_call 36; (with_reducible refine (HC3.out _ HB.out).mono ?_); rintro x w1 ⟨p3, n3, c3, rfl, hb, ho⟩; replace H0 := Lib.hid (obj_keep H0.out hb); replace HB := Lib.hid (bstep HB.out hb); replace HS1 := Lib.hid (HS1.out.below hb); replace HS2 := Lib.hid (HS2.out.below hb); have HS3 := Lib.hid ho; clear hb ho HC3; have hf := obj_free_at H0.out 0 8 (Nat.le_refl _); have hfk2 := hfk true (usF (.slice p1 n1 c1) (.slice p2 n2 c2) (.slice none 0 0) (.slice none 0 0) (.slice p3 n3 c3)) true false (usF_one rfl rfl rfl rfl rfl)))
  have q := resDone H0.out HB.out (Nat.le_refl _) (spC true (usF (.slice p1 n1 c1) (.slice p2 n2 c2) (.slice none 0 0) (.slice none 0 0) (.slice p3 n3 c3)) true false) rfl
  have hg := fun W0 : World => aggW_grown W0 w.heap.size (spC true (usF (.slice p1 n1 c1) (.slice p2 n2 c2) (.slice none 0 0) (.slice none 0 0) (.slice p3 n3 c3)) true false)
  refine bodyPost_ret (results_cell Try.results32 rfl (ld_some q.1 (ldr_sp _ _ _))) rfl ⟨_, rfl, q.2, SpT.gs (HS1.out.off H0.out (by decide) (hg _)) (HS2.out.off H0.out (by decide) (hg _)) (GSl.nil _) (GSl.nil _) (HS3.out.off H0.out (by decide) (hg _))⟩
theorem bld_fin_d (p1 qb : Option Addr) (n1 c1 mb db : Nat) (w : World) : (aggBuild 28 #[(0, .agg (stC false (.slice p1 n1 c1) (.slice none 0 0)).toArray), (1, (.slice qb mb db))]).run Try.prog w = .ok (.agg (spC false (usF (.slice p1 n1 c1) (.slice none 0 0) (.slice qb mb db) (.slice none 0 0) (.slice none 0 0)) false false).toArray) w := bld_run _ _ _ (by kernel_rfl) _
set_option maxRecDepth 100000 in
set_option maxHeartbeats 1000000 in
theorem fin_d (K : Int) (hK : K = 1 ∨ K = 5) (a b : List AD) (va vb : Value) (w : World) (ha : GSl w va a) (hb : GSl w vb b) (ga : SetA a) (gb : SetA b) (la : a.length ≤ 200) (lb : b.length ≤ 200) : GivesP 32 #[va, vb, .int .i64 K] w ⟨⟨false, (orA a b), []⟩, b, [], false, [], false⟩ := by
  have HVa : Hid (∀ W, Below w.heap.size w W → GSl W va a) := Lib.hid fun W hw => ha.below hw
  have HVb : Hid (∀ W, Below w.heap.size w W → GSl W vb b) := Lib.hid fun W hw => hb.below hw
  have HC1 : Hid (∀ W, Below w.heap.size w W → Gives 40 #[va, vb] W (orA a b)) := Lib.hid fun W hb => gOr (HVa.out _ hb) (HVb.out _ hb) (ga) (gb) (Nat.le_trans la (by decide)) (Nat.le_trans lb (by decide))
  obtain ⟨qb, db, eb, _, _⟩ := hb.1.1.len
  obtain ⟨mb, hmb⟩ : ∃ n, n = b.length := ⟨_, rfl⟩
  rw [← hmb] at eb
  subst eb
  clear hmb
  have hbl := fun p1 qb n1 c1 mb db w0 => bld_fin_d p1 qb n1 c1 mb db w0
  clear ha hb ga gb la lb
  have H0 := Lib.hid (ObjAt.made w #[.bool false, .slice none 0 0, .slice none 0 0, .slice none 0 0, .slice none 0 0, .bool false, .slice none 0 0, .bool false] 28)
  have HB := Lib.hid (bbox w (.cells #[.bool false, .slice none 0 0, .slice none 0 0, .slice none 0 0, .slice none 0 0, .bool false, .slice none 0 0, .bool false] 28))
  unfold GivesP
  have k3 : ¬ (K = 3) := by omega
  have k6 : ¬ (K = 6) := by omega
  have k2 : ¬ (K = 2) := by omega
  have k4 : ¬ (K = 4) := by omega
  clear hK
  go_enter Try.func32, Try.ntmps32
  go_upto_region 1 with (fail)
  generalize w.alloc _ = W at H0 HB ⊢
  have hfk : ∀ e us g al, (∀ j, (us j).oneCell' = true) → fok (spC e us g al).toArray 8 = true := fun e us g al h => fok_of rfl (spC_one h)
  go_wp2_with (first
    | (go_at_call 40; (with_reducible refine (HC1.out _ HB.out).mono ?_); rintro x w1 ⟨p1, n1, c1, rfl, hb, ho⟩; replace H0 := Lib.hid (obj_keep H0.out hb); replace HB := Lib.hid (bstep HB.out hb); have HS1 := Lib.hid ho; clear hb ho HC1)
    | (go_at_call 41; refine (fonly_any _ _ _ _).mono ?_; rintro x w1 ⟨rfl, hb⟩; replace H0 := Lib.hid (obj_keep H0.out hb); replace HB := Lib.hid (bstep HB.out hb); replace HS1 := Lib.hid (HS1.out.below hb); clear hb; have hf := obj_free_at H0.out 0 8 (Nat.le_refl _); have hfk2 := hfk false (usF (.slice p1 n1 c1) (.slice none 0 0) (.slice qb mb db) (.slice none 0 0) (.slice none 0 0)) false false (usF_one rfl rfl rfl rfl rfl)))
  have q := resDone H0.out HB.out (Nat.le_refl _) (spC false (usF (.slice p1 n1 c1) (.slice none 0 0) (.slice qb mb db) (.slice none 0 0) (.slice none 0 0)) false false) rfl
  have hg := fun W0 : World => aggW_grown W0 w.heap.size (spC false (usF (.slice p1 n1 c1) (.slice none 0 0) (.slice qb mb db) (.slice none 0 0) (.slice none 0 0)) false false)
  refine bodyPost_ret (results_cell Try.results32 rfl (ld_some q.1 (ldr_sp _ _ _))) rfl ⟨_, rfl, q.2, SpT.gs (HS1.out.off H0.out (by decide) (hg _)) (GSl.nil _) (HVb.out _ q.2) (GSl.nil _) (GSl.nil _)⟩
theorem bld_fex_3 (p1 p2 p3 qb : Option Addr) (n1 c1 n2 c2 n3 c3 mb db : Nat) (w : World) : (aggBuild 28 #[(0, .agg (stC true (.slice p1 n1 c1) (.slice p2 n2 c2)).toArray), (1, (.slice qb mb db)), (4, (.slice p3 n3 c3)), (5, .bool true)]).run Try.prog w = .ok (.agg (spC true (usF (.slice p1 n1 c1) (.slice p2 n2 c2) (.slice qb mb db) (.slice none 0 0) (.slice p3 n3 c3)) false true).toArray) w := bld_run _ _ _ (by kernel_rfl) _
set_option maxRecDepth 100000 in
set_option maxHeartbeats 1000000 in
theorem fex_3 (a y b : List AD) (va vy vb : Value) (w : World) (ha : GSl w va a) (hy : GSl w vy y) (hb : GSl w vb b) (ga : SetA a) (gy : SetA y) (gb : SetA b) (la : a.length ≤ 200) (ly : y.length ≤ 200) (lb : b.length ≤ 200) : GivesP 31 #[va, vy, vb, .int .i64 3] w ⟨⟨true, (orA a b), (pickA y b false)⟩, b, [], false, (pickA a b false), true⟩ := by
  have HVa : Hid (∀ W, Below w.heap.size w W → GSl W va a) := Lib.hid fun W hw => ha.below hw
  have HVy : Hid (∀ W, Below w.heap.size w W → GSl W vy y) := Lib.hid fun W hw => hy.below hw
  have HVb : Hid (∀ W, Below w.heap.size w W → GSl W vb b) := Lib.hid fun W hw => hb.below hw
  have HC1 : Hid (∀ W, Below w.heap.size w W → Gives 40 #[va, vb] W (orA a b)) := Lib.hid fun W hb => gOr (HVa.out _ hb) (HVb.out _ hb) (ga) (gb) (Nat.le_trans la (by decide)) (Nat.le_trans lb (by decide))
  have HC2 : Hid (∀ W, Below w.heap.size w W → Gives 38 #[vy, vb] W (pickA y b false)) := Lib.hid fun W hb => gMinus (HVy.out _ hb).1.1 (HVb.out _ hb).1.1 (gb) (Nat.le_trans ly (by decide)) (Nat.le_trans lb (by decide))
  have HC3 : Hid (∀ W, Below w.heap.size w W → Gives 38 #[va, vb] W (pickA a b false)) := Lib.hid fun W hb => gMinus (HVa.out _ hb).1.1 (HVb.out _ hb).1.1 (gb) (Nat.le_trans la (by decide)) (Nat.le_trans lb (by decide))
  obtain ⟨qb, db, eb, _, _⟩ := hb.1.1.len
  obtain ⟨mb, hmb⟩ : ∃ n, n = b.length := ⟨_, rfl⟩
  rw [← hmb] at eb
  subst eb
  clear hmb
  have hbl := fun p1 p2 p3 qb n1 c1 n2 c2 n3 c3 mb db w0 => bld_fex_3 p1 p2 p3 qb n1 c1 n2 c2 n3 c3 mb db w0
  clear ha hy hb ga gy gb la ly lb
  have H0 := Lib.hid (ObjAt.made w #[.bool false, .slice none 0 0, .slice none 0 0, .slice none 0 0, .slice none 0 0, .bool false, .slice none 0 0, .bool false] 28)
  have HB := Lib.hid (bbox w (.cells #[.bool false, .slice none 0 0, .slice none 0 0, .slice none 0 0, .slice none 0 0, .bool false, .slice none 0 0, .bool false] 28))
  unfold GivesP
  go_enter Try.func31, Try.ntmps31
  go_upto_region 1 with (fail)
  generalize w.alloc _ = W at H0 HB ⊢
  have hfk : ∀ e us g al, (∀ j, (us j).oneCell' = true) → fok (spC e us g al).toArray 8 = true := fun e us g al h => fok_of rfl (spC_one h)
  go_wp2_with (first
    | (go_at_call 40; (with_reducible refine (HC1.out _ HB.out).mono ?_); rintro x w1 ⟨p1, n1, c1, rfl, hb, ho⟩; replace H0 := Lib.hid (obj_keep H0.out hb); replace HB := Lib.hid (bstep HB.out hb); have HS1 := Lib.hid ho; clear hb ho HC1)
    | (go_at_call 38; (with_reducible refine (HC2.out _ HB.out).mono ?_); rintro x w1 ⟨p2, n2, c2, rfl, hb, ho⟩; replace H0 := Lib.hid (obj_keep H0.out hb); replace HB := Lib.hid (bstep HB.out hb); replace HS1 := Lib.hid (HS1.out.below hb); have HS2 := Lib.hid ho; clear hb ho HC2)
    | (go_at_call 39; refine (fexcept_any _ _ _ _ _ _ _).mono ?_; rintro x w1 ⟨rfl, hb⟩; replace H0 := Lib.hid (obj_keep H0.out hb); replace HB := Lib.hid (bstep HB.out hb); replace HS1 := Lib.hid (HS1.out.below hb); replace HS2 := Lib.hid (HS2.out.below hb); clear hb)
    | (go_at_call 38; (with_reducible refine (HC3.out _ HB.out).mono ?_); rintro x w1 ⟨p3, n3, c3, rfl, hb, ho⟩; replace H0 := Lib.hid (obj_keep H0.out hb); replace HB := Lib.hid (bstep HB.out hb); replace HS1 := Lib.hid (HS1.out.below hb); replace HS2 := Lib.hid (HS2.out.below hb); have HS3 := Lib.hid ho; clear hb ho HC3; have hf := obj_free_at H0.out 0 8 (Nat.le_refl _); have hfk2 := hfk true (usF (.slice p1 n1 c1) (.slice p2 n2 c2) (.slice qb mb db) (.slice none 0 0) (.slice p3 n3 c3)) false true (usF_one rfl rfl rfl rfl rfl)))
  have q := resDone H0.out HB.out (Nat.le_refl _) (spC true (usF (.slice p1 n1 c1) (.slice p2 n2 c2) (.slice qb mb db) (.slice none 0 0) (.slice p3 n3 c3)) false true) rfl
  have hg := fun W0 : World => aggW_grown W0 w.heap.size (spC true (usF (.slice p1 n1 c1) (.slice p2 n2 c2) (.slice qb mb db) (.slice none 0 0) (.slice p3 n3 c3)) false true)
  refine bodyPost_ret (results_cell Try.results31 rfl (ld_some q.1 (ldr_sp _ _ _))) rfl ⟨_, rfl, q.2, SpT.gs (HS1.out.off H0.out (by decide) (hg _)) (HS2.out.off H0.out (by decide) (hg _)) (HVb.out _ q.2) (GSl.nil _) (HS3.out.off H0.out (by decide) (hg _))⟩
theorem bld_fex_2 (p1 p2 p3 : Option Addr) (n1 c1 n2 c2 n3 c3 : Nat) (w : World) : (aggBuild 28 #[(0, .agg (stC true (.slice p1 n1 c1) (.slice p2 n2 c2)).toArray), (1, (.slice p3 n3 c3)), (3, .bool true)]).run Try.prog w = .ok (.agg (spC true (usF (.slice p1 n1 c1) (.slice p2 n2 c2) (.slice p3 n3 c3) (.slice none 0 0) (.slice none 0 0)) true false).toArray) w := bld_run _ _ _ (by kernel_rfl) _
set_option maxRecDepth 100000 in
set_option maxHeartbeats 1000000 in
theorem fex_2 (a y b : List AD) (va vy vb : Value) (w : World) (ha : GSl w va a) (hy : GSl w vy y) (hb : GSl w vb b) (ga : SetA a) (gy : SetA y) (gb : SetA b) (la : a.length ≤ 200) (ly : y.length ≤ 200) (lb : b.length ≤ 200) : GivesP 31 #[va, vy, vb, .int .i64 2] w ⟨⟨true, (pickA b y false), (pickA y b true)⟩, (pickA (pickA b a false) y false), [], true, [], false⟩ := by
  have HVa : Hid (∀ W, Below w.heap.size w W → GSl W va a) := Lib.hid fun W hw => ha.below hw
  have HVy : Hid (∀ W, Below w.heap.size w W → GSl W vy y) := Lib.hid fun W hw => hy.below hw
  have HVb : Hid (∀ W, Below w.heap.size w W → GSl W vb b) := Lib.hid fun W hw => hb.below hw
  have HC1 : Hid (∀ W, Below w.heap.size w W → Gives 38 #[vb, vy] W (pickA b y false)) := Lib.hid fun W hb => gMinus (HVb.out _ hb).1.1 (HVy.out _ hb).1.1 (gy) (Nat.le_trans lb (by decide)) (Nat.le_trans ly (by decide))
  have HC2 : Hid (∀ W, Below w.heap.size w W → Gives 36 #[vy, vb] W (pickA y b true)) := Lib.hid fun W hb => gAnd (HVy.out _ hb).1.1 (HVb.out _ hb).1.1 (gb) (Nat.le_trans ly (by decide)) (Nat.le_trans lb (by decide))
  have HC3 : Hid (∀ W, Below w.heap.size w W → Gives 49 #[vb, va, vy] W (pickA (pickA b a false) y false)) := Lib.hid fun W hb => fbeyond_any (HVb.out _ hb).1.1 (HVa.out _ hb).1.1 (HVy.out _ hb).1.1 (ga) (gy) (by omega) (by omega) (by omega)
  have hbl := fun p1 p2 p3 n1 c1 n2 c2 n3 c3 w0 => bld_fex_2 p1 p2 p3 n1 c1 n2 c2 n3 c3 w0
  clear ha hy hb ga gy gb la ly lb
  have H0 := Lib.hid (ObjAt.made w #[.bool false, .slice none 0 0, .slice none 0 0, .slice none 0 0, .slice none 0 0, .bool false, .slice none 0 0, .bool false] 28)
  have HB := Lib.hid (bbox w (.cells #[.bool false, .slice none 0 0, .slice none 0 0, .slice none 0 0, .slice none 0 0, .bool false, .slice none 0 0, .bool false] 28))
  unfold GivesP
  go_enter Try.func31, Try.ntmps31
  go_upto_region 1 with (fail)
  generalize w.alloc _ = W at H0 HB ⊢
  have hfk : ∀ e us g al, (∀ j, (us j).oneCell' = true) → fok (spC e us g al).toArray 8 = true := fun e us g al h => fok_of rfl (spC_one h)
  go_wp2_with (first
    | (go_at_call 38; (with_reducible refine (HC1.out _ HB.out).mono ?_); rintro x w1 ⟨p1, n1, c1, rfl, hb, ho⟩; replace H0 := Lib.hid (obj_keep H0.out hb); replace HB := Lib.hid (bstep HB.out hb); have HS1 := Lib.hid ho; clear hb ho HC1)
    | (go_at_call 36; (with_reducible refine (HC2.out _ HB.out).mono ?_); rintro x w1 ⟨p2, n2, c2, rfl, hb, ho⟩; replace H0 := Lib.hid (obj_keep H0.out hb); replace HB := Lib.hid (bstep HB.out hb); replace HS1 := Lib.hid (HS1.out.below hb); have HS2 := Lib.hid ho; clear hb ho HC2)
    | (go_at_call 39; refine (fexcept_any _ _ _ _ _ _ _).mono ?_; rintro x w1 ⟨rfl, hb⟩; replace H0 := Lib.hid (obj_keep H0.out hb); replace HB := Lib.hid (bstep HB.out hb); replace HS1 := Lib.hid (HS1.out.below hb); replace HS2 := Lib.hid (HS2.out.below hb); clear hb)
    | (go_at_call 49; (with_reducible refine (HC3.out _ HB.out).mono ?_); rintro x w1 ⟨p3, n3, c3, rfl, hb, ho⟩; replace H0 := Lib.hid (obj_keep H0.out hb); replace HB := Lib.hid (bstep HB.out hb); replace HS1 := Lib.hid (HS1.out.below hb); replace HS2 := Lib.hid (HS2.out.below hb); have HS3 := Lib.hid ho; clear hb ho HC3; have hf := obj_free_at H0.out 0 8 (Nat.le_refl _); have hfk2 := hfk true (usF (.slice p1 n1 c1) (.slice p2 n2 c2) (.slice p3 n3 c3) (.slice none 0 0) (.slice none 0 0)) true false (usF_one rfl rfl rfl rfl rfl)))
  have q := resDone H0.out HB.out (Nat.le_refl _) (spC true (usF (.slice p1 n1 c1) (.slice p2 n2 c2) (.slice p3 n3 c3) (.slice none 0 0) (.slice none 0 0)) true false) rfl
  have hg := fun W0 : World => aggW_grown W0 w.heap.size (spC true (usF (.slice p1 n1 c1) (.slice p2 n2 c2) (.slice p3 n3 c3) (.slice none 0 0) (.slice none 0 0)) true false)
  refine bodyPost_ret (results_cell Try.results31 rfl (ld_some q.1 (ldr_sp _ _ _))) rfl ⟨_, rfl, q.2, SpT.gs (HS1.out.off H0.out (by decide) (hg _)) (HS2.out.off H0.out (by decide) (hg _)) (HS3.out.off H0.out (by decide) (hg _)) (GSl.nil _) (GSl.nil _)⟩
theorem bld_fex_4 (p1 p2 p3 p4 : Option Addr) (n1 c1 n2 c2 n3 c3 n4 c4 : Nat) (w : World) : (aggBuild 28 #[(0, .agg (stC true (.slice p1 n1 c1) (.slice p2 n2 c2)).toArray), (2, (.slice p3 n3 c3)), (3, .bool true), (4, (.slice p4 n4 c4))]).run Try.prog w = .ok (.agg (spC true (usF (.slice p1 n1 c1) (.slice p2 n2 c2) (.slice none 0 0) (.slice p3 n3 c3) (.slice p4 n4 c4)) true false).toArray) w := bld_run _ _ _ (by kernel_rfl) _
set_option maxRecDepth 100000 in
set_option maxHeartbeats 1000000 in
theorem fex_4 (a y b : List AD) (va vy vb : Value) (w : World) (ha : GSl w va a) (hy : GSl w vy y) (hb : GSl w vb b) (ga : SetA a) (gy : SetA y) (gb : SetA b) (la : a.length ≤ 200) (ly : y.length ≤ 200) (lb : b.length ≤ 200) : GivesP 31 #[va, vy, vb, .int .i64 4] w ⟨⟨true, (pickA b y false), (pickA y b true)⟩, [], (pickA (pickA b a false) y false), true, (pickA b y false), false⟩ := by
  have HVa : Hid (∀ W, Below w.heap.size w W → GSl W va a) := Lib.hid fun W hw => ha.below hw
  have HVy : Hid (∀ W, Below w.heap.size w W → GSl W vy y) := Lib.hid fun W hw => hy.below hw
  have HVb : Hid (∀ W, Below w.heap.size w W → GSl W vb b) := Lib.hid fun W hw => hb.below hw
  have HC1 : Hid (∀ W, Below w.heap.size w W → Gives 38 #[vb, vy] W (pickA b y false)) := Lib.hid fun W hb => gMinus (HVb.out _ hb).1.1 (HVy.out _ hb).1.1 (gy) (Nat.le_trans lb (by decide)) (Nat.le_trans ly (by decide))
  have HC2 : Hid (∀ W, Below w.heap.size w W → Gives 36 #[vy, vb] W (pickA y b true)) := Lib.hid fun W hb => gAnd (HVy.out _ hb).1.1 (HVb.out _ hb).1.1 (gb) (Nat.le_trans ly (by decide)) (Nat.le_trans lb (by decide))
  have HC3 : Hid (∀ W, Below w.heap.size w W → Gives 49 #[vb, va, vy] W (pickA (pickA b a false) y false)) := Lib.hid fun W hb => fbeyond_any (HVb.out _ hb).1.1 (HVa.out _ hb).1.1 (HVy.out _ hb).1.1 (ga) (gy) (by omega) (by omega) (by omega)
  have HC4 : Hid (∀ W, Below w.heap.size w W → Gives 38 #[vb, vy] W (pickA b y false)) := Lib.hid fun W hb => gMinus (HVb.out _ hb).1.1 (HVy.out _ hb).1.1 (gy) (Nat.le_trans lb (by decide)) (Nat.le_trans ly (by decide))
  have hbl := fun p1 p2 p3 p4 n1 c1 n2 c2 n3 c3 n4 c4 w0 => bld_fex_4 p1 p2 p3 p4 n1 c1 n2 c2 n3 c3 n4 c4 w0
  clear ha hy hb ga gy gb la ly lb
  have H0 := Lib.hid (ObjAt.made w #[.bool false, .slice none 0 0, .slice none 0 0, .slice none 0 0, .slice none 0 0, .bool false, .slice none 0 0, .bool false] 28)
  have HB := Lib.hid (bbox w (.cells #[.bool false, .slice none 0 0, .slice none 0 0, .slice none 0 0, .slice none 0 0, .bool false, .slice none 0 0, .bool false] 28))
  unfold GivesP
  go_enter Try.func31, Try.ntmps31
  go_upto_region 1 with (fail)
  generalize w.alloc _ = W at H0 HB ⊢
  have hfk : ∀ e us g al, (∀ j, (us j).oneCell' = true) → fok (spC e us g al).toArray 8 = true := fun e us g al h => fok_of rfl (spC_one h)
  go_wp2_with (first
    | (go_at_call 38; (with_reducible refine (HC1.out _ HB.out).mono ?_); rintro x w1 ⟨p1, n1, c1, rfl, hb, ho⟩; replace H0 := Lib.hid (obj_keep H0.out hb); replace HB := Lib.hid (bstep HB.out hb); have HS1 := Lib.hid ho; clear hb ho HC1)
    | (go_at_call 36; (with_reducible refine (HC2.out _ HB.out).mono ?_); rintro x w1 ⟨p2, n2, c2, rfl, hb, ho⟩; replace H0 := Lib.hid (obj_keep H0.out hb); replace HB := Lib.hid (bstep HB.out hb); replace HS1 := Lib.hid (HS1.out.below hb); have HS2 := Lib.hid ho; clear hb ho HC2)
    | (go_at_call 39; refine (fexcept_any _ _ _ _ _ _ _).mono ?_; rintro x w1 ⟨rfl, hb⟩; replace H0 := Lib.hid (obj_keep H0.out hb); replace HB := Lib.hid (bstep HB.out hb); replace HS1 := Lib.hid (HS1.out.below hb); replace HS2 := Lib.hid (HS2.out.below hb); clear hb)
    | (go_at_call 49; (with_reducible refine (HC3.out _ HB.out).mono ?_); rintro x w1 ⟨p3, n3, c3, rfl, hb, ho⟩; replace H0 := Lib.hid (obj_keep H0.out hb); replace HB := Lib.hid (bstep HB.out hb); replace HS1 := Lib.hid (HS1.out.below hb); replace HS2 := Lib.hid (HS2.out.below hb); have HS3 := Lib.hid ho; clear hb ho HC3)
    | (go_at_call 38; (with_reducible refine (HC4.out _ HB.out).mono ?_); rintro x w1 ⟨p4, n4, c4, rfl, hb, ho⟩; replace H0 := Lib.hid (obj_keep H0.out hb); replace HB := Lib.hid (bstep HB.out hb); replace HS1 := Lib.hid (HS1.out.below hb); replace HS2 := Lib.hid (HS2.out.below hb); replace HS3 := Lib.hid (HS3.out.below hb); have HS4 := Lib.hid ho; clear hb ho HC4; have hf := obj_free_at H0.out 0 8 (Nat.le_refl _); have hfk2 := hfk true (usF (.slice p1 n1 c1) (.slice p2 n2 c2) (.slice none 0 0) (.slice p3 n3 c3) (.slice p4 n4 c4)) true false (usF_one rfl rfl rfl rfl rfl)))
  have q := resDone H0.out HB.out (Nat.le_refl _) (spC true (usF (.slice p1 n1 c1) (.slice p2 n2 c2) (.slice none 0 0) (.slice p3 n3 c3) (.slice p4 n4 c4)) true false) rfl
  have hg := fun W0 : World => aggW_grown W0 w.heap.size (spC true (usF (.slice p1 n1 c1) (.slice p2 n2 c2) (.slice none 0 0) (.slice p3 n3 c3) (.slice p4 n4 c4)) true false)
  refine bodyPost_ret (results_cell Try.results31 rfl (ld_some q.1 (ldr_sp _ _ _))) rfl ⟨_, rfl, q.2, SpT.gs (HS1.out.off H0.out (by decide) (hg _)) (HS2.out.off H0.out (by decide) (hg _)) (GSl.nil _) (HS3.out.off H0.out (by decide) (hg _)) (HS4.out.off H0.out (by decide) (hg _))⟩
theorem bld_fex_6 (p2 p3 p4 p5 : Option Addr) (n2 c2 n3 c3 n4 c4 n5 c5 : Nat) (w : World) : (aggBuild 28 #[(0, .agg (stC true (.slice p2 n2 c2) (.slice p3 n3 c3)).toArray), (2, (.slice p4 n4 c4)), (4, (.slice p5 n5 c5))]).run Try.prog w = .ok (.agg (spC true (usF (.slice p2 n2 c2) (.slice p3 n3 c3) (.slice none 0 0) (.slice p4 n4 c4) (.slice p5 n5 c5)) false false).toArray) w := bld_run _ _ _ (by kernel_rfl) _
set_option maxRecDepth 100000 in
set_option maxHeartbeats 1000000 in
theorem fex_6 (a y b : List AD) (va vy vb : Value) (w : World) (ha : GSl w va a) (hy : GSl w vy y) (hb : GSl w vb b) (ga : SetA a) (gy : SetA y) (gb : SetA b) (la : a.length ≤ 200) (ly : y.length ≤ 200) (lb : b.length ≤ 200) : GivesP 31 #[va, vy, vb, .int .i64 6] w ⟨⟨true, (orA a (pickA b y false)), y⟩, [], (pickA (pickA b a false) y false), false, (pickA b y false), false⟩ := by
  have HVa : Hid (∀ W, Below w.heap.size w W → GSl W va a) := Lib.hid fun W hw => ha.below hw
  have HVy : Hid (∀ W, Below w.heap.size w W → GSl W vy y) := Lib.hid fun W hw => hy.below hw
  have HVb : Hid (∀ W, Below w.heap.size w W → GSl W vb b) := Lib.hid fun W hw => hb.below hw
  have HC1 : Hid (∀ W, Below w.heap.size w W → Gives 38 #[vb, vy] W (pickA b y false)) := Lib.hid fun W hb => gMinus (HVb.out _ hb).1.1 (HVy.out _ hb).1.1 (gy) (Nat.le_trans lb (by decide)) (Nat.le_trans ly (by decide))
  have HC2 : Hid (∀ W p1 n1 c1, Below w.heap.size w W → GSl W (.slice p1 n1 c1) (pickA b y false) → Gives 40 #[va, (.slice p1 n1 c1)] W (orA a (pickA b y false))) := Lib.hid fun W p1 n1 c1 hb hs1 => gOr (HVa.out _ hb) (hs1) (ga) ((SetA.pick gb _ _)) (Nat.le_trans la (by decide)) (Nat.le_trans (Nat.le_trans (pickA_length _ _ _) lb) (by decide))
  have HC3 : Hid (∀ W, Below w.heap.size w W → Gives 42 #[vy] W y) := Lib.hid fun W hb => fown_any (HVy.out _ hb) (Nat.le_trans ly (by decide))
  have HC4 : Hid (∀ W, Below w.heap.size w W → Gives 49 #[vb, va, vy] W (pickA (pickA b a false) y false)) := Lib.hid fun W hb => fbeyond_any (HVb.out _ hb).1.1 (HVa.out _ hb).1.1 (HVy.out _ hb).1.1 (ga) (gy) (by omega) (by omega) (by omega)
  have HC5 : Hid (∀ W, Below w.heap.size w W → Gives 38 #[vb, vy] W (pickA b y false)) := Lib.hid fun W hb => gMinus (HVb.out _ hb).1.1 (HVy.out _ hb).1.1 (gy) (Nat.le_trans lb (by decide)) (Nat.le_trans ly (by decide))
  have hbl := fun p2 p3 p4 p5 n2 c2 n3 c3 n4 c4 n5 c5 w0 => bld_fex_6 p2 p3 p4 p5 n2 c2 n3 c3 n4 c4 n5 c5 w0
  clear ha hy hb ga gy gb la ly lb
  have H0 := Lib.hid (ObjAt.made w #[.bool false, .slice none 0 0, .slice none 0 0, .slice none 0 0, .slice none 0 0, .bool false, .slice none 0 0, .bool false] 28)
  have HB := Lib.hid (bbox w (.cells #[.bool false, .slice none 0 0, .slice none 0 0, .slice none 0 0, .slice none 0 0, .bool false, .slice none 0 0, .bool false] 28))
  unfold GivesP
  go_enter Try.func31, Try.ntmps31
  go_upto_region 1 with (fail)
  generalize w.alloc _ = W at H0 HB ⊢
  have hfk : ∀ e us g al, (∀ j, (us j).oneCell' = true) → fok (spC e us g al).toArray 8 = true := fun e us g al h => fok_of rfl (spC_one h)
  go_wp2_with (first
    | (go_at_call 38; (with_reducible refine (HC1.out _ HB.out).mono ?_); rintro x w1 ⟨p1, n1, c1, rfl, hb, ho⟩; replace H0 := Lib.hid (obj_keep H0.out hb); replace HB := Lib.hid (bstep HB.out hb); have HS1 := Lib.hid ho; clear hb ho HC1)
    | (go_at_call 40; (with_reducible refine (HC2.out _ _ _ _ HB.out HS1.out).mono ?_); rintro x w1 ⟨p2, n2, c2, rfl, hb, ho⟩; replace H0 := Lib.hid (obj_keep H0.out hb); replace HB := Lib.hid (bstep HB.out hb); replace HS1 := Lib.hid (HS1.out.below hb); have HS2 := Lib.hid ho; clear hb ho HC2)
    | (go_at_call 42; (with_reducible refine (HC3.out _ HB.out).mono ?_); rintro x w1 ⟨p3, n3, c3, rfl, hb, ho⟩; replace H0 := Lib.hid (obj_keep H0.out hb); replace HB := Lib.hid (bstep HB.out hb); replace HS1 := Lib.hid (HS1.out.below hb); replace HS2 := Lib.hid (HS2.out.below hb); have HS3 := Lib.hid ho; clear hb ho HC3)
    | (go_at_call 39; refine (fexcept_any _ _ _ _ _ _ _).mono ?_; rintro x w1 ⟨rfl, hb⟩; replace H0 := Lib.hid (obj_keep H0.out hb); replace HB := Lib.hid (bstep HB.out hb); replace HS1 := Lib.hid (HS1.out.below hb); replace HS2 := Lib.hid (HS2.out.below hb); replace HS3 := Lib.hid (HS3.out.below hb); clear hb)
    | (go_at_call 49; (with_reducible refine (HC4.out _ HB.out).mono ?_); rintro x w1 ⟨p4, n4, c4, rfl, hb, ho⟩; replace H0 := Lib.hid (obj_keep H0.out hb); replace HB := Lib.hid (bstep HB.out hb); replace HS1 := Lib.hid (HS1.out.below hb); replace HS2 := Lib.hid (HS2.out.below hb); replace HS3 := Lib.hid (HS3.out.below hb); have HS4 := Lib.hid ho; clear hb ho HC4)
    | (go_at_call 38; (with_reducible refine (HC5.out _ HB.out).mono ?_); rintro x w1 ⟨p5, n5, c5, rfl, hb, ho⟩; replace H0 := Lib.hid (obj_keep H0.out hb); replace HB := Lib.hid (bstep HB.out hb); replace HS1 := Lib.hid (HS1.out.below hb); replace HS2 := Lib.hid (HS2.out.below hb); replace HS3 := Lib.hid (HS3.out.below hb); replace HS4 := Lib.hid (HS4.out.below hb); have HS5 := Lib.hid ho; clear hb ho HC5; have hf := obj_free_at H0.out 0 8 (Nat.le_refl _); have hfk2 := hfk true (usF (.slice p2 n2 c2) (.slice p3 n3 c3) (.slice none 0 0) (.slice p4 n4 c4) (.slice p5 n5 c5)) false false (usF_one rfl rfl rfl rfl rfl)))
  have q := resDone H0.out HB.out (Nat.le_refl _) (spC true (usF (.slice p2 n2 c2) (.slice p3 n3 c3) (.slice none 0 0) (.slice p4 n4 c4) (.slice p5 n5 c5)) false false) rfl
  have hg := fun W0 : World => aggW_grown W0 w.heap.size (spC true (usF (.slice p2 n2 c2) (.slice p3 n3 c3) (.slice none 0 0) (.slice p4 n4 c4) (.slice p5 n5 c5)) false false)
  refine bodyPost_ret (results_cell Try.results31 rfl (ld_some q.1 (ldr_sp _ _ _))) rfl ⟨_, rfl, q.2, SpT.gs (HS2.out.off H0.out (by decide) (hg _)) (HS3.out.off H0.out (by decide) (hg _)) (GSl.nil _) (HS4.out.off H0.out (by decide) (hg _)) (HS5.out.off H0.out (by decide) (hg _))⟩
theorem bld_fex_d (p1 p2 qb : Option Addr) (n1 c1 n2 c2 mb db : Nat) (w : World) : (aggBuild 28 #[(0, .agg (stC true (.slice p1 n1 c1) (.slice p2 n2 c2)).toArray), (1, (.slice qb mb db))]).run Try.prog w = .ok (.agg (spC true (usF (.slice p1 n1 c1) (.slice p2 n2 c2) (.slice qb mb db) (.slice none 0 0) (.slice none 0 0)) false false).toArray) w := bld_run _ _ _ (by kernel_rfl) _
set_option maxRecDepth 100000 in
set_option maxHeartbeats 1000000 in
theorem fex_d (K : Int) (hK : K = 1 ∨ K = 5) (a y b : List AD) (va vy vb : Value) (w : World) (ha : GSl w va a) (hy : GSl w vy y) (hb : GSl w vb b) (ga : SetA a) (gy : SetA y) (gb : SetA b) (la : a.length ≤ 200) (ly : y.length ≤ 200) (lb : b.length ≤ 200) : GivesP 31 #[va, vy, vb, .int .i64 K] w ⟨⟨true, (orA a b), (pickA y b false)⟩, b, [], false, [], false⟩ := by
  have HVa : Hid (∀ W, Below w.heap.size w W → GSl W va a) := Lib.hid fun W hw => ha.below hw
  have HVy : Hid (∀ W, Below w.heap.size w W → GSl W vy y) := Lib.hid fun W hw => hy.below hw
  have HVb : Hid (∀ W, Below w.heap.size w W → GSl W vb b) := Lib.hid fun W hw => hb.below hw
  have HC1 : Hid (∀ W, Below w.heap.size w W → Gives 40 #[va, vb] W (orA a b)) := Lib.hid fun W hb => gOr (HVa.out _ hb) (HVb.out _ hb) (ga) (gb) (Nat.le_trans la (by decide)) (Nat.le_trans lb (by decide))
  have HC2 : Hid (∀ W, Below w.heap.size w W → Gives 38 #[vy, vb] W (pickA y b false)) := Lib.hid fun W hb => gMinus (HVy.out _ hb).1.1 (HVb.out _ hb).1.1 (gb) (Nat.le_trans ly (by decide)) (Nat.le_trans lb (by decide))
  obtain ⟨qb, db, eb, _, _⟩ := hb.1.1.len
  obtain ⟨mb, hmb⟩ : ∃ n, n = b.length := ⟨_, rfl⟩
  rw [← hmb] at eb
  subst eb
  clear hmb
  have hbl := fun p1 p2 qb n1 c1 n2 c2 mb db w0 => bld_fex_d p1 p2 qb n1 c1 n2 c2 mb db w0
  clear ha hy hb ga gy gb la ly lb
  have H0 := Lib.hid (ObjAt.made w #[.bool false, .slice none 0 0, .slice none 0 0, .slice none 0 0, .slice none 0 0, .bool false, .slice none 0 0, .bool false] 28)
  have HB := Lib.hid (bbox w (.cells #[.bool false, .slice none 0 0, .slice none 0 0, .slice none 0 0, .slice none 0 0, .bool false, .slice none 0 0, .bool false] 28))
  unfold GivesP
  have k3 : ¬ (K = 3) := by omega
  have k6 : ¬ (K = 6) := by omega
  have k2 : ¬ (K = 2) := by omega
  have k4 : ¬ (K = 4) := by omega
  clear hK
  go_enter Try.func31, Try.ntmps31
  go_upto_region 1 with (fail)
  generalize w.alloc _ = W at H0 HB ⊢
  have hfk : ∀ e us g al, (∀ j, (us j).oneCell' = true) → fok (spC e us g al).toArray 8 = true := fun e us g al h => fok_of rfl (spC_one h)
  go_wp2_with (first
    | (go_at_call 40; (with_reducible refine (HC1.out _ HB.out).mono ?_); rintro x w1 ⟨p1, n1, c1, rfl, hb, ho⟩; replace H0 := Lib.hid (obj_keep H0.out hb); replace HB := Lib.hid (bstep HB.out hb); have HS1 := Lib.hid ho; clear hb ho HC1)
    | (go_at_call 38; (with_reducible refine (HC2.out _ HB.out).mono ?_); rintro x w1 ⟨p2, n2, c2, rfl, hb, ho⟩; replace H0 := Lib.hid (obj_keep H0.out hb); replace HB := Lib.hid (bstep HB.out hb); replace HS1 := Lib.hid (HS1.out.below hb); have HS2 := Lib.hid ho; clear hb ho HC2)
    | (go_at_call 39; refine (fexcept_any _ _ _ _ _ _ _).mono ?_; rintro x w1 ⟨rfl, hb⟩; replace H0 := Lib.hid (obj_keep H0.out hb); replace HB := Lib.hid (bstep HB.out hb); replace HS1 := Lib.hid (HS1.out.below hb); replace HS2 := Lib.hid (HS2.out.below hb); clear hb; have hf := obj_free_at H0.out 0 8 (Nat.le_refl _); have hfk2 := hfk true (usF (.slice p1 n1 c1) (.slice p2 n2 c2) (.slice qb mb db) (.slice none 0 0) (.slice none 0 0)) false false (usF_one rfl rfl rfl rfl rfl)))
  have q := resDone H0.out HB.out (Nat.le_refl _) (spC true (usF (.slice p1 n1 c1) (.slice p2 n2 c2) (.slice qb mb db) (.slice none 0 0) (.slice none 0 0)) false false) rfl
  have hg := fun W0 : World => aggW_grown W0 w.heap.size (spC true (usF (.slice p1 n1 c1) (.slice p2 n2 c2) (.slice qb mb db) (.slice none 0 0) (.slice none 0 0)) false false)
  refine bodyPost_ret (results_cell Try.results31 rfl (ld_some q.1 (ldr_sp _ _ _))) rfl ⟨_, rfl, q.2, SpT.gs (HS1.out.off H0.out (by decide) (hg _)) (HS2.out.off H0.out (by decide) (hg _)) (HVb.out _ q.2) (GSl.nil _) (GSl.nil _)⟩
end Go.Proofs.Ytokpogoblnhihaa
