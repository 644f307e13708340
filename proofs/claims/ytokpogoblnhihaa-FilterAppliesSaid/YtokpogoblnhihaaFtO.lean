/-
  Layer 15: the document's other answers.
-/
import Derived.Test.YtokpogoblnhihaaFtM
namespace Go.Proofs.Ytokpogoblnhihaa
open Go.RowKit
set_option linter.unusedVariables false
set_option linter.unusedSimpArgs false
attribute [local go_sem ↓] ld_addr st_addr bld_addr ld_sta st_sta bld_sta ld_sp st_sp bld_sp adsLit_eq
attribute [local go_sem] ldr_addr str_addr ldr_sta str_sta ldr_sp str_sp row?_drewN_eq row?_drew_eq

theorem AdsT.off {w w' : World} {v : Value} {l : List AD} {m : Nat} {L : Array Value} {T : TypeId} (h : AdsT w v l) (hm : ObjAt w m L T) (hT : T ≠ 37) (hg : w.grownBy w' (some m)) : AdsT w' v l := by
  have hf : ∀ b o n c, v = .slice (some ⟨b, o, none⟩) n c → some b ≠ some m := fun b o n c e => by
    obtain ⟨h1, cur, fz, h2⟩ := h.2 b o n c e
    intro hb
    simp only [Option.some.injEq] at hb
    subst hb
    unfold ObjAt at hm
    rw [h2] at hm
    simp only [Option.some.injEq, Obj.cells.injEq] at hm
    exact hT hm.2.1.symm
  exact ⟨h.1.grown hg hf, h.2.grown hg hf⟩
theorem setc_grown (w : World) (m j : Nat) (v : Value) : w.grownBy (w.setCell ⟨m, j, none⟩ v) (some m) := setCells_grown m [v] j w
theorem AdsT.toAds {w : World} {v : Value} {l : List AD} (h : AdsT w v l) : Ads w v l := h.1
/-- A state's slices. -/
structure StA (W : World) (a y : Value) (s : ST) : Prop where
  on : Ads W a s.on
  off : Ads W y s.off
  ca : ∀ n c, a = .slice none n c → c = 0
  cy : ∀ n c, y = .slice none n c → c = 0
theorem StA.below {W W' : World} {a y : Value} {s : ST} (h : StA W a y s) (hb : Below W.heap.size W W') : StA W' a y s := ⟨h.on.below hb, h.off.below hb, h.ca, h.cy⟩
theorem StA.one {W : World} {a y : Value} {s : ST} (h : StA W a y s) (e : Bool) : ∀ v ∈ stC e a y, v.oneCell' = true := stC_one h.on.one h.off.one
theorem nilcap : ∀ n c, Value.slice none 0 0 = .slice none n c → c = 0 := fun n c e => by cases e; rfl
theorem st_cells {W : World} {b : Nat} {e : Bool} {a y : Value} (h : ObjAt W b (stC e a y).toArray 24) : W.cell? ⟨b, 0, none⟩ = some (.bool e) ∧ W.cell? ⟨b, 1, none⟩ = some a ∧ W.cell? ⟨b, 2, none⟩ = some y := by
  refine ⟨?_, ?_, ?_⟩ <;> (rw [ObjAt.cell h]; rfl)
theorem st_row {W : World} {b : Nat} {e : Bool} {a y : Value} (h : ObjAt W b (stC e a y).toArray 24) : row? W b 0 3 = some (stC e a y) := obj_re h (A := []) (M := stC e a y) (C := []) (by simp) rfl rfl
set_option maxRecDepth 100000 in
theorem rgone15_any (s : ST) (a y : Value) (w : World) (h : StA w a y s) : Calls Try.prog 23 #[.agg (stC s.ex a y).toArray] w fun x w' => x = .returned (.bool (!s.ex && decide (s.on = []))) ∧ Below w.heap.size w w' := by
  obtain ⟨pa, ca, rfl, _, _⟩ := h.on.len
  have HL : Hid (decide (s.on = []) = decide ((s.on.length : Int) = 0)) := Lib.hid (by rw [Bool.eq_iff_iff]; simp)
  have H0 := Lib.hid (ObjAt.made w (stC s.ex (.slice pa s.on.length ca) y).toArray 24)
  have HB := Lib.hid (bbox w (.cells (stC s.ex (.slice pa s.on.length ca) y).toArray 24))
  rw [HL.out]
  clear h HL
  obtain ⟨n, HN⟩ : ∃ n, n = s.on.length := ⟨_, rfl⟩
  rw [← HN] at H0 HB ⊢
  clear HN
  generalize s.ex = e at *
  go_enter Try.func23, Try.ntmps23
  go_upto_region 1 with (fail)
  generalize w.alloc (.cells _ _) = W at H0 HB ⊢
  obtain ⟨c0, c1, c2⟩ := st_cells H0.out
  cases e
  · go_wp2
    go_ret
    exact ⟨ret_boolF (by rw [Bool.eq_iff_iff]; simp), HB.out⟩
  · go_wp2
    go_ret
    exact ⟨ret_boolF (by simp), HB.out⟩
set_option maxRecDepth 100000 in
theorem rsame15_any (s t : ST) (a y a' y' : Value) (w : World) (h : StA w a y s) (k : StA w a' y' t) : Calls Try.prog 17 #[.agg (stC s.ex a y).toArray, .agg (stC t.ex a' y').toArray] w fun x w' => x = .returned (.bool (decide (s = t))) ∧ Below w.heap.size w w' := by
  obtain ⟨e, on, off⟩ := s
  obtain ⟨e', on', off'⟩ := t
  have H0 := Lib.hid (Bx.made w (stC e a y).toArray 24 (stC e' a' y').toArray 24)
  have HS1 : Hid (∀ W, Below w.heap.size w W → Calls Try.prog 33 #[a, a'] W fun x w' => x = .returned (.bool (decide (on = on'))) ∧ Below W.heap.size W w') := Lib.hid fun W hb => (same11_any a a' on on' W (h.on.below hb) (k.on.below hb)).mono fun x w' ⟨hx, d, hw⟩ => ⟨hx, by rw [hw]; exact bdrewN (Below.refl _ _) _⟩
  have HS2 : Hid (∀ W, Below w.heap.size w W → Calls Try.prog 33 #[y, y'] W fun x w' => x = .returned (.bool (decide (off = off'))) ∧ Below W.heap.size W w') := Lib.hid fun W hb => (same11_any y y' off off' W (h.off.below hb) (k.off.below hb)).mono fun x w' ⟨hx, d, hw⟩ => ⟨hx, by rw [hw]; exact bdrewN (Below.refl _ _) _⟩
  have HE : Hid (decide (ST.mk e on off = ST.mk e' on' off') = ((e == e') && (decide (on = on') && decide (off = off')))) := Lib.hid (by rw [Bool.eq_iff_iff]; simp)
  rw [HE.out]
  simp only
  clear h k HE
  generalize decide (on = on') = r1 at *
  generalize decide (off = off') = r2 at *
  go_enter Try.func17, Try.ntmps17
  go_upto_region 1 with (fail)
  generalize (w.alloc _).alloc _ = W at H0 ⊢
  obtain ⟨c0, c1, c2⟩ := st_cells H0.out.one
  obtain ⟨d0, d1, d2⟩ := st_cells H0.out.two
  cases e <;> cases e' <;> cases r1 <;> cases r2
  all_goals (
    go_wp2_with (first
      | (go_at_call 33; (with_reducible refine (HS1.out _ H0.out.blw).mono ?_); rintro x w1 ⟨rfl, hb⟩; replace H0 := Lib.hid (H0.out.below hb); clear hb c0 c1 c2 d0 d1 d2; obtain ⟨c0, c1, c2⟩ := st_cells H0.out.one; obtain ⟨d0, d1, d2⟩ := st_cells H0.out.two)
      | (go_at_call 33; (with_reducible refine (HS2.out _ H0.out.blw).mono ?_); rintro x w1 ⟨rfl, hb⟩; replace H0 := Lib.hid (H0.out.below hb); clear hb c0 c1 c2 d0 d1 d2; obtain ⟨c0, c1, c2⟩ := st_cells H0.out.one; obtain ⟨d0, d1, d2⟩ := st_cells H0.out.two))
    go_ret
    exact ⟨ret_boolF (by rfl), H0.out.blw⟩)
set_option maxRecDepth 100000 in
theorem rlets15_any (s : ST) (c : AD) (a y : Value) (w : World) (h : StA w a y s) (hc : adOk c) : Calls Try.prog 21 #[.agg (stC s.ex a y).toArray, .agg (adC c).toArray] w fun x w' => x = .returned (.bool (if s.ex then !decide (c ∈ s.off) else decide (c ∈ s.on))) ∧ Below w.heap.size w w' := by
  have H0 := Lib.hid (Bx.made w (stC s.ex a y).toArray 24 (adC c).toArray 37)
  have HH1 : Hid (∀ W, Below w.heap.size w W → Calls Try.prog 25 #[a, .agg (adC c).toArray] W fun x w' => x = .returned (.bool (decide (c ∈ s.on))) ∧ Below W.heap.size W w') := Lib.hid fun W hb => has11_any a s.on c W (h.on.below hb) hc
  have HH2 : Hid (∀ W, Below w.heap.size w W → Calls Try.prog 25 #[y, .agg (adC c).toArray] W fun x w' => x = .returned (.bool (decide (c ∈ s.off))) ∧ Below W.heap.size W w') := Lib.hid fun W hb => has11_any y s.off c W (h.off.below hb) hc
  have HV := Lib.hid (fun W (h : ObjAt W (w.heap.size + 1) (adC c).toArray 37) => (obj_re h (A := []) (M := adC c) (C := []) (by simp) rfl (adC_length hc) : row? W (w.heap.size + 1) 0 17 = some (adC c)))
  clear h hc
  generalize decide (c ∈ s.on) = r1 at *
  generalize decide (c ∈ s.off) = r2 at *
  generalize s.ex = e at *
  go_enter Try.func21, Try.ntmps21
  go_upto_region 1 with (fail)
  generalize (w.alloc _).alloc _ = W at H0 ⊢
  obtain ⟨c0, c1, c2⟩ := st_cells H0.out.one
  have r := HV.out _ H0.out.two
  cases e <;> cases r1 <;> cases r2
  all_goals (
    go_wp2_with (first
      | (go_at_call 25; (with_reducible refine (HH1.out _ H0.out.blw).mono ?_); rintro x w1 ⟨rfl, hb⟩; replace H0 := Lib.hid (H0.out.below hb); clear hb c0 c1 c2 r; obtain ⟨c0, c1, c2⟩ := st_cells H0.out.one; have r := HV.out _ H0.out.two)
      | (go_at_call 25; (with_reducible refine (HH2.out _ H0.out.blw).mono ?_); rintro x w1 ⟨rfl, hb⟩; replace H0 := Lib.hid (H0.out.below hb); clear hb c0 c1 c2 r; obtain ⟨c0, c1, c2⟩ := st_cells H0.out.one; have r := HV.out _ H0.out.two))
    go_ret
    exact ⟨ret_boolF (by rfl), H0.out.blw⟩)
theorem bld_t15 (p : Option Addr) (n c : Nat) (w : World) : (aggBuild 24 #[(1, .slice p n c)]).run Try.prog w = .ok (.agg (stC false (.slice p n c) (.slice none 0 0)).toArray) w := bld_run _ _ _ (by kernel_rfl) _
set_option maxRecDepth 100000 in
theorem rturn15_any (s : ST) (a y : Value) (w : World) (h : StA w a y s) : Calls Try.prog 19 #[.agg (stC s.ex a y).toArray] w fun x w' => x = .returned (.agg (stC false a (.slice none 0 0)).toArray) ∧ Below w.heap.size w w' := by
  have ho : a.oneCell' = true := h.on.one
  obtain ⟨pa, ca, rfl, _, _⟩ := h.on.len
  generalize s.on.length = n at *
  have H0 : Hid (Bx w ((w.alloc (.cells (stC s.ex (.slice pa n ca) y).toArray 24)).alloc (.cells #[.bool false, .slice none 0 0, .slice none 0 0] 24)) (stC s.ex (.slice pa n ca) y).toArray 24 (stC false (.slice none 0 0) (.slice none 0 0)).toArray 24) := Lib.hid (Bx.made w _ _ _ _)
  have hbt := fun w0 => bld_t15 pa n ca w0
  have hfk : fok (stC false (.slice pa n ca) (.slice none 0 0)).toArray 3 = true := fok_of rfl (stC_one ho rfl)
  clear h ho
  go_enter Try.func19, Try.ntmps19
  go_upto_region 1 with (fail)
  generalize (w.alloc _).alloc _ = W at H0 ⊢
  obtain ⟨c0, c1, c2⟩ := st_cells H0.out.one
  have hf := H0.out.free 3 (Nat.le_refl _)
  go_wp2
  obtain ⟨q1, q2⟩ := H0.out.done (stC false (.slice pa n ca) (.slice none 0 0)) rfl
  exact bodyPost_ret (results_cell Try.results19 rfl (ld_some q1 (ldr_sta _ _ _))) rfl ⟨rfl, q2⟩
end Go.Proofs.Ytokpogoblnhihaa
