/-
  Layer 15: the program's small answers.
-/
import Derived.Test.YtokpogoblnhihaaMg20
import Derived.Test.YtokpogoblnhihaaMg21
import Derived.Test.YtokpogoblnhihaaFtQ
import Derived.Test.YtokpogoblnhihaaMg26
import Derived.Test.YtokpogoblnhihaaSeH
namespace Go.Proofs.Ytokpogoblnhihaa
open Go.RowKit
set_option linter.unusedVariables false
set_option linter.unusedSimpArgs false
attribute [local go_sem ↓] ld_addr st_addr bld_addr ld_sta st_sta bld_sta ld_sp st_sp bld_sp adsLit_eq
attribute [local go_sem] ldr_addr str_addr ldr_sta str_sta ldr_sp str_sp row?_drewN_eq row?_drew_eq

/-- A slice that is read, in a block of its type, nil or not. -/
def GSl (W : World) (v : Value) (l : List AD) : Prop := AdsT W v l ∧ ∀ n c, v = .slice none n c → c = 0
theorem GSl.below {W W' : World} {v : Value} {l : List AD} (h : GSl W v l) (hb : Below W.heap.size W W') : GSl W' v l := ⟨h.1.below hb, h.2⟩
theorem GSl.off {W W' : World} {v : Value} {l : List AD} {m : Nat} {L : Array Value} {T : TypeId} (h : GSl W v l) (hm : ObjAt W m L T) (hT : T ≠ 37) (hg : W.grownBy W' (some m)) : GSl W' v l := ⟨AdsT.off h.1 hm hT hg, h.2⟩
theorem GSl.nil (W : World) : GSl W (.slice none 0 0) [] := ⟨adsT_nil W, nilcap⟩
theorem OwnL.gs {w : World} {b : Nat} {v : Value} {l : List AD} (h : OwnL w b v l) (ho : ∀ a ∈ l, adOk a) : GSl w v l := ⟨h.ads ho, h.cap⟩
theorem StT.gs {W : World} {a y : Value} {s : ST} (h : GSl W a s.on) (k : GSl W y s.off) : StT W a y s := ⟨h.1, k.1, h.2, k.2⟩
theorem StT.gon {W : World} {a y : Value} {s : ST} (h : StT W a y s) : GSl W a s.on := ⟨h.on, h.ca⟩
theorem StT.goff {W : World} {a y : Value} {s : ST} (h : StT W a y s) : GSl W y s.off := ⟨h.off, h.cy⟩
/-- A step's slices, in blocks of their type. -/
structure SpT (W : World) (us : Nat → Value) (P : SP) : Prop where
  st : StT W (us 1) (us 2) P.st
  full : AdsT W (us 3) P.full
  rest : AdsT W (us 4) P.rest
  ask : AdsT W (us 6) P.ask
theorem SpT.spa {W : World} {us : Nat → Value} {P : SP} (h : SpT W us P) : SpA W us P := ⟨h.st.sta, h.full.1, h.rest.1, h.ask.1⟩
theorem SpT.below {W W' : World} {us : Nat → Value} {P : SP} (h : SpT W us P) (hb : Below W.heap.size W W') : SpT W' us P := ⟨h.st.below hb, h.full.below hb, h.rest.below hb, h.ask.below hb⟩
theorem SpT.off' {W W' : World} {us : Nat → Value} {P : SP} {m : Nat} {L : Array Value} {T : TypeId} (h : SpT W us P) (hm : ObjAt W m L T) (hT : T ≠ 37) (hg : W.grownBy W' (some m)) : SpT W' us P := ⟨h.st.off' hm hT hg, AdsT.off h.full hm hT hg, AdsT.off h.rest hm hT hg, AdsT.off h.ask hm hT hg⟩
theorem SpT.one {W : World} {us : Nat → Value} {P : SP} (h : SpT W us P) (e g al : Bool) : ∀ v ∈ spC e us g al, v.oneCell' = true := by
  intro v hv
  simp only [spC, List.mem_cons, List.not_mem_nil, or_false] at hv
  rcases hv with rfl | rfl | rfl | rfl | rfl | rfl | rfl | rfl
  · rfl
  · exact h.st.on.1.one
  · exact h.st.off.1.one
  · exact h.full.1.one
  · exact h.rest.1.one
  · rfl
  · exact h.ask.1.one
  · rfl
/-- What a call that makes a slice gives. -/
abbrev Gives (f : Nat) (args : Array Value) (W : World) (l : List AD) : Prop := Calls Try.prog f args W fun x w' => ∃ p n c, x = .returned (.slice p n c) ∧ Below W.heap.size W w' ∧ GSl w' (.slice p n c) l
theorem Gives.own {f : Nat} {args : Array Value} {W : World} {l : List AD} (h : Calls Try.prog f args W fun x w' => ∃ v', x = .returned v' ∧ Below W.heap.size W w' ∧ OwnL w' W.heap.size v' l) (ho : ∀ a ∈ l, adOk a) : Gives f args W l := h.mono fun x w' ⟨v, hx, hb, hw⟩ => by
  obtain ⟨p, n, c, rfl⟩ := hw.shape
  exact ⟨p, n, c, hx, hb, hw.gs ho⟩
theorem gOf {W : World} {v : Value} {l : List AD} (h : Ads W v l) (hl : l.length ≤ 100000) : Gives 29 #[v] W (ofA l) := Gives.own (sof_any v l W h hl) (ofA_ok h.ok)
theorem gAnd {W : World} {v u : Value} {l m : List AD} (h : Ads W v l) (k : Ads W u m) (hm : SetA m) (h1 : l.length ≤ 100000) (h2 : m.length ≤ 100000) : Gives 36 #[v, u] W (pickA l m true) := Gives.own (sand_any v u l m W h k hm.1 h1 h2) (pickA_ok h.ok)
theorem gMinus {W : World} {v u : Value} {l m : List AD} (h : Ads W v l) (k : Ads W u m) (hm : SetA m) (h1 : l.length ≤ 100000) (h2 : m.length ≤ 100000) : Gives 38 #[v, u] W (pickA l m false) := Gives.own (sminus_any v u l m W h k hm.1 h1 h2) (pickA_ok h.ok)
theorem gOr {W : World} {v u : Value} {l m : List AD} (h : GSl W v l) (k : GSl W u m) (hl : SetA l) (hm : SetA m) (h1 : l.length ≤ 50000) (h2 : m.length ≤ 50000) : Gives 40 #[v, u] W (orA l m) :=
  Gives.own (sor_any v u l m W h.1.1 k.1.1 h.2 k.2 (fun x hx => (List.mem_append.1 hx).elim (hl.2 x) (hm.2 x)) h1 h2) (ofA_ok fun x hx => (List.mem_append.1 hx).elim (h.1.1.ok x) (k.1.1.ok x))
set_option maxRecDepth 100000 in
theorem fown_any {W : World} {v : Value} {l : List AD} (h : GSl W v l) (hl : l.length ≤ 50000) : Gives 42 #[v] W l := by
  have HSA := Lib.hid (src_of h.1.1 h.2)
  have HOK := Lib.hid h.1.1.ok
  have HL := Lib.hid hl
  obtain ⟨pa, ca, rfl, _, _⟩ := h.1.1.len
  clear h hl
  refine Gives.own ?_ HOK.out
  go_enter Try.func42, Try.ntmps42
  go_wp2_with (at_builtin; refine wpList_app rfl _ _ rfl W.heap.size _ [] l _ rfl (fun x hx => by cases hx) (OwnL.nil W W.heap.size) rfl HSA.out (by have := HL.out; simp only [List.length_nil]; omega) (Nat.le_refl _) ?_; intro v' w2 hown' hgrow'; have H2 := Lib.hid (bgrown (Below.refl W.heap.size W) hgrow' (fun q hq => by cases hq)); have HO2 := Lib.hid (show OwnL w2 W.heap.size v' l from hown'); clear hown' hgrow')
  go_ret
  exact ⟨_, rfl, H2.out, HO2.out⟩
theorem bld_n15 (p : Option Addr) (n c : Nat) (w : World) : (aggBuild 24 #[(1, .slice p n c)]).run Try.prog w = .ok (.agg (stC false (.slice p n c) (.slice none 0 0)).toArray) w := bld_run _ _ _ (by kernel_rfl) _
set_option maxRecDepth 100000 in
theorem fonly_any (p : Option Addr) (n c : Nat) (w : World) : Calls Try.prog 41 #[.slice p n c] w fun x w' => x = .returned (.agg (stC false (.slice p n c) (.slice none 0 0)).toArray) ∧ Below w.heap.size w w' := by
  have hbl := fun w0 => bld_n15 p n c w0
  have H0 := Lib.hid (ObjAt.made w #[.bool false, .slice none 0 0, .slice none 0 0] 24)
  have HB := Lib.hid (bbox w (.cells #[.bool false, .slice none 0 0, .slice none 0 0] 24))
  have hfk : fok (stC false (.slice p n c) (.slice none 0 0)).toArray 3 = true := fok_of rfl (stC_one rfl rfl)
  go_enter Try.func41, Try.ntmps41
  go_upto_region 1 with (fail)
  generalize w.alloc _ = W at H0 HB ⊢
  have hf := obj_free_at H0.out 0 3 (Nat.le_refl _)
  go_wp2
  obtain ⟨q1, q2⟩ := resDone H0.out HB.out (Nat.le_refl _) (stC false (.slice p n c) (.slice none 0 0)) rfl
  exact bodyPost_ret (results_cell Try.results41 rfl (ld_some q1 (ldr_sta _ _ _))) rfl ⟨rfl, q2⟩
set_option maxRecDepth 100000 in
theorem fexcept_any (p q : Option Addr) (n c m d : Nat) (w : World) : Calls Try.prog 39 #[.slice p n c, .slice q m d] w fun x w' => x = .returned (.agg (stC true (.slice p n c) (.slice q m d)).toArray) ∧ Below w.heap.size w w' := by
  have hbl := fun w0 => bld_v15 true p q n c m d w0
  have H0 := Lib.hid (ObjAt.made w #[.bool false, .slice none 0 0, .slice none 0 0] 24)
  have HB := Lib.hid (bbox w (.cells #[.bool false, .slice none 0 0, .slice none 0 0] 24))
  have hfk : fok (stC true (.slice p n c) (.slice q m d)).toArray 3 = true := fok_of rfl (stC_one rfl rfl)
  go_enter Try.func39, Try.ntmps39
  go_upto_region 1 with (fail)
  generalize w.alloc _ = W at H0 HB ⊢
  have hf := obj_free_at H0.out 0 3 (Nat.le_refl _)
  go_wp2
  obtain ⟨q1, q2⟩ := resDone H0.out HB.out (Nat.le_refl _) (stC true (.slice p n c) (.slice q m d)) rfl
  exact bodyPost_ret (results_cell Try.results39 rfl (ld_some q1 (ldr_sta _ _ _))) rfl ⟨rfl, q2⟩
set_option maxRecDepth 100000 in
theorem fbeyond_any {W : World} {v u z : Value} {b x y : List AD} (h : Ads W v b) (k : Ads W u x) (g : Ads W z y) (hx : SetA x) (hy : SetA y) (h1 : b.length ≤ 100000) (h2 : x.length ≤ 100000) (h3 : y.length ≤ 100000) : Gives 49 #[v, u, z] W (pickA (pickA b x false) y false) := by
  have HC1 := Lib.hid (gMinus h k hx h1 h2)
  have HC2 : Hid (∀ w1 p n c, Below W.heap.size W w1 → GSl w1 (.slice p n c) (pickA b x false) → Gives 38 #[.slice p n c, z] w1 (pickA (pickA b x false) y false)) := Lib.hid fun w1 p n c hb hs => gMinus hs.1.1 (g.below hb) hy (Nat.le_trans (pickA_length _ _ _) h1) h3
  clear h k g hx hy h1 h2 h3
  unfold Gives
  go_enter Try.func49, Try.ntmps49
  go_wp2_with (first
    | (go_at_call 38; (with_reducible refine (HC1.out).mono ?_); rintro x w1 ⟨p1, n1, c1, rfl, hb, ho⟩; have H1 := Lib.hid hb; have HS := Lib.hid ho; clear hb ho HC1)
    | (go_at_call 38; (with_reducible refine (HC2.out _ _ _ _ H1.out HS.out).mono ?_); rintro x w2 ⟨p2, n2, c2, rfl, hb, ho⟩; have H2 := Lib.hid (bstep H1.out hb); have HS2 := Lib.hid ho; clear hb ho))
  go_ret
  exact ⟨_, _, _, rfl, H2.out, HS2.out⟩
theorem pickA_ofA {a : List AD} (l : List AD) (i : Bool) (h : ∀ x ∈ a, goodB x = true) : pickA a (ofA l) i = pickA a l i := by
  unfold pickA
  refine List.filter_congr fun x hx => ?_
  have : decide (x ∈ ofA l) = decide (x ∈ l) := by rw [Bool.eq_iff_iff, decide_eq_true_iff, decide_eq_true_iff, mem_ofA]; exact ⟨fun k => k.1, fun k => ⟨k, h x hx⟩⟩
  rw [this]
set_option maxRecDepth 100000 in
theorem fturn_any (s : ST) (a y : Value) (w : World) (h : StT w a y s) (la : s.on.length ≤ 50000) : Calls Try.prog 16 #[.agg (stC s.ex a y).toArray] w fun x w' => ∃ a' y', x = .returned (.agg (stC false a' y').toArray) ∧ Below w.heap.size w w' ∧ StT w' a' y' ⟨false, s.on, []⟩ := by
  have HC1 : Hid (∀ W, Below w.heap.size w W → Gives 42 #[a] W s.on) := Lib.hid fun W hb => fown_any (h.gon.below hb) la
  have H0 : Hid (Bx w ((w.alloc (.cells (stC s.ex a y).toArray 24)).alloc (.cells #[.bool false, .slice none 0 0, .slice none 0 0] 24)) (stC s.ex a y).toArray 24 (stC false (.slice none 0 0) (.slice none 0 0)).toArray 24) := Lib.hid (Bx.made w _ _ _ _)
  clear h la
  go_enter Try.func16, Try.ntmps16
  go_upto_region 1 with (fail)
  generalize (w.alloc _).alloc _ = W at H0 ⊢
  obtain ⟨c0, c1, c2⟩ := st_cells H0.out.one
  go_wp2_with (first
    | (go_at_call 42; (with_reducible refine (HC1.out _ H0.out.blw).mono ?_); rintro x w1 ⟨p1, n1, k1, rfl, hb, ho⟩; replace H0 := Lib.hid (H0.out.below hb); have HS := Lib.hid ho; clear hb ho c0 c1 c2)
    | (go_at_call 41; refine (fonly_any _ _ _ _).mono ?_; rintro x w2 ⟨rfl, hb⟩; replace H0 := Lib.hid (H0.out.below hb); replace HS := Lib.hid (HS.out.below hb); clear hb; have hf := H0.out.free 3 (Nat.le_refl _); have hfk : fok (stC false (.slice p1 n1 k1) (.slice none 0 0)).toArray 3 = true := fok_of rfl (stC_one rfl rfl)))
  obtain ⟨q1, q2⟩ := H0.out.done (stC false (.slice p1 n1 k1) (.slice none 0 0)) rfl
  have HT := GSl.off HS.out H0.out.two (by decide) (aggW_grown _ _ (stC false (.slice p1 n1 k1) (.slice none 0 0)))
  exact bodyPost_ret (results_cell Try.results16 rfl (ld_some q1 (ldr_sta _ _ _))) rfl ⟨_, _, rfl, q2, StT.gs HT (GSl.nil _)⟩
set_option maxRecDepth 100000 in
theorem fgone_any (s : ST) (a y : Value) (w : World) (h : StA w a y s) : Calls Try.prog 22 #[.agg (stC s.ex a y).toArray] w fun x w' => x = .returned (.bool (!s.ex && decide (s.on = []))) ∧ Below w.heap.size w w' := by
  obtain ⟨pa, ca, rfl, _, _⟩ := h.on.len
  have HL : Hid (decide (s.on = []) = decide ((s.on.length : Int) = 0)) := Lib.hid (by rw [Bool.eq_iff_iff]; simp)
  have H0 := Lib.hid (ObjAt.made w (stC s.ex (.slice pa s.on.length ca) y).toArray 24)
  have HB := Lib.hid (bbox w (.cells (stC s.ex (.slice pa s.on.length ca) y).toArray 24))
  rw [HL.out]
  clear h HL
  obtain ⟨n, HN⟩ : ∃ n, n = s.on.length := ⟨_, rfl⟩
  rw [← HN] at H0 HB ⊢
  clear HN
  generalize s.ex = e at *
  go_enter Try.func22, Try.ntmps22
  go_upto_region 1 with (fail)
  generalize w.alloc (.cells _ _) = W at H0 HB ⊢
  obtain ⟨c0, c1, c2⟩ := st_cells H0.out
  cases e
  · go_wp2
    go_ret
    exact ⟨ret_boolF (by rw [Bool.eq_iff_iff]; simp), HB.out⟩
  · go_wp2
    go_ret
    exact ⟨ret_boolF (by simp), HB.out⟩
set_option maxRecDepth 100000 in
theorem fsame_any (s t : ST) (a y a' y' : Value) (w : World) (h : StA w a y s) (k : StA w a' y' t) : Calls Try.prog 27 #[.agg (stC s.ex a y).toArray, .agg (stC t.ex a' y').toArray] w fun x w' => x = .returned (.bool (decide (s = t))) ∧ Below w.heap.size w w' := by
  obtain ⟨e, on, off⟩ := s
  obtain ⟨e', on', off'⟩ := t
  have H0 := Lib.hid (Bx.made w (stC e a y).toArray 24 (stC e' a' y').toArray 24)
  have HS1 : Hid (∀ W, Below w.heap.size w W → Calls Try.prog 45 #[a, a'] W fun x w' => x = .returned (.bool (decide (on = on'))) ∧ Below W.heap.size W w') := Lib.hid fun W hb => ssame_any a a' on on' W (h.on.below hb) (k.on.below hb)
  have HS2 : Hid (∀ W, Below w.heap.size w W → Calls Try.prog 45 #[y, y'] W fun x w' => x = .returned (.bool (decide (off = off'))) ∧ Below W.heap.size W w') := Lib.hid fun W hb => ssame_any y y' off off' W (h.off.below hb) (k.off.below hb)
  have HE : Hid (decide (ST.mk e on off = ST.mk e' on' off') = ((e == e') && (decide (on = on') && decide (off = off')))) := Lib.hid (by rw [Bool.eq_iff_iff]; simp)
  rw [HE.out]
  simp only
  clear h k HE
  generalize decide (on = on') = r1 at *
  generalize decide (off = off') = r2 at *
  go_enter Try.func27, Try.ntmps27
  go_upto_region 1 with (fail)
  generalize (w.alloc _).alloc _ = W at H0 ⊢
  obtain ⟨c0, c1, c2⟩ := st_cells H0.out.one
  obtain ⟨d0, d1, d2⟩ := st_cells H0.out.two
  cases e <;> cases e' <;> cases r1 <;> cases r2
  all_goals (
    go_wp2_with (first
      | (go_at_call 45; (with_reducible refine (HS1.out _ H0.out.blw).mono ?_); rintro x w1 ⟨rfl, hb⟩; replace H0 := Lib.hid (H0.out.below hb); clear hb c0 c1 c2 d0 d1 d2; obtain ⟨c0, c1, c2⟩ := st_cells H0.out.one; obtain ⟨d0, d1, d2⟩ := st_cells H0.out.two)
      | (go_at_call 45; (with_reducible refine (HS2.out _ H0.out.blw).mono ?_); rintro x w1 ⟨rfl, hb⟩; replace H0 := Lib.hid (H0.out.below hb); clear hb c0 c1 c2 d0 d1 d2; obtain ⟨c0, c1, c2⟩ := st_cells H0.out.one; obtain ⟨d0, d1, d2⟩ := st_cells H0.out.two))
    go_ret
    exact ⟨ret_boolF (by rfl), H0.out.blw⟩)
set_option maxRecDepth 100000 in
theorem flets_any (s : ST) (hs : s.Good) (c : AD) (a y : Value) (w : World) (h : StA w a y s) (hc : adOk c) (la : s.on.length ≤ 100) (ly : s.off.length ≤ 100) : Calls Try.prog 20 #[.agg (stC s.ex a y).toArray, .agg (adC c).toArray] w fun x w' => x = .returned (.bool (if s.ex then !decide (c ∈ s.off) else decide (c ∈ s.on))) ∧ Below w.heap.size w w' := by
  have H0 := Lib.hid (Bx.made w (stC s.ex a y).toArray 24 (adC c).toArray 37)
  have HH1 : Hid (∀ W, Below w.heap.size w W → Calls Try.prog 44 #[a, .agg (adC c).toArray] W fun x w' => x = .returned (.bool (decide (c ∈ s.on))) ∧ Below W.heap.size W w') := Lib.hid fun W hb => shas_any a s.on c W (h.on.below hb) hs.on.1 (by omega) hc
  have HH2 : Hid (∀ W, Below w.heap.size w W → Calls Try.prog 44 #[y, .agg (adC c).toArray] W fun x w' => x = .returned (.bool (decide (c ∈ s.off))) ∧ Below W.heap.size W w') := Lib.hid fun W hb => shas_any y s.off c W (h.off.below hb) hs.off.1 (by omega) hc
  have HV := Lib.hid (fun W (h : ObjAt W (w.heap.size + 1) (adC c).toArray 37) => (obj_re h (A := []) (M := adC c) (C := []) (by simp) rfl (adC_length hc) : row? W (w.heap.size + 1) 0 17 = some (adC c)))
  clear h hc hs la ly
  generalize decide (c ∈ s.on) = r1 at *
  generalize decide (c ∈ s.off) = r2 at *
  generalize s.ex = e at *
  go_enter Try.func20, Try.ntmps20
  go_upto_region 1 with (fail)
  generalize (w.alloc _).alloc _ = W at H0 ⊢
  obtain ⟨c0, c1, c2⟩ := st_cells H0.out.one
  have r := HV.out _ H0.out.two
  cases e <;> cases r1 <;> cases r2
  all_goals (
    go_wp2_with (first
      | (go_at_call 44; (with_reducible refine (HH1.out _ H0.out.blw).mono ?_); rintro x w1 ⟨rfl, hb⟩; replace H0 := Lib.hid (H0.out.below hb); clear hb c0 c1 c2 r)
      | (go_at_call 44; (with_reducible refine (HH2.out _ H0.out.blw).mono ?_); rintro x w1 ⟨rfl, hb⟩; replace H0 := Lib.hid (H0.out.below hb); clear hb c0 c1 c2 r))
    go_ret
    exact ⟨ret_boolF (by rfl), H0.out.blw⟩)
theorem gdS_by (e : Bool) (on off : List AD) : gdS ⟨e, on, off⟩ = (decide (ofA on = on) && (decide (ofA off = off) && (if e then decide (((pickA on off true).length : Int) = 0) else decide ((off.length : Int) = 0)))) := by
  unfold gdS
  simp only
  rw [show decide (off = []) = decide ((off.length : Int) = 0) by rw [Bool.eq_iff_iff]; simp, show decide (pickA on off true = []) = decide (((pickA on off true).length : Int) = 0) by rw [Bool.eq_iff_iff]; simp]
  cases e
  · by_cases h : off = []
    · subst h
      have : pickA on [] true = [] := by unfold pickA; simp
      rw [this]; simp
    · have : ¬ ((off.length : Int) = 0) := by simp [h]
      rw [decide_eq_false this]; simp
  · simp
set_option maxRecDepth 100000 in
set_option maxHeartbeats 1000000 in
theorem fgood_any (s : ST) (a y : Value) (w : World) (h : StA w a y s) (la : s.on.length ≤ 100) (ly : s.off.length ≤ 100) : Calls Try.prog 13 #[.agg (stC s.ex a y).toArray] w fun x w' => x = .returned (.bool (gdS s)) ∧ Below w.heap.size w w' := by
  obtain ⟨e, on, off⟩ := s
  simp only at la ly h ⊢
  rw [gdS_by]
  obtain ⟨py, cy, rfl, _, _⟩ := h.off.len
  have H0 := Lib.hid (ObjAt.made w (stC e a (.slice py off.length cy)).toArray 24)
  have HB := Lib.hid (bbox w (.cells (stC e a (.slice py off.length cy)).toArray 24))
  have HG1 : Hid (∀ W, Below w.heap.size w W → Calls Try.prog 35 #[a] W fun x w' => x = .returned (.bool (decide (ofA on = on))) ∧ Below W.heap.size W w') := Lib.hid fun W hb => sgood_any a on _ (by rw [decide_eq_true_iff]; exact SetA.iff) W (h.on.below hb)
  have HG2 : Hid (∀ W, Below w.heap.size w W → Calls Try.prog 35 #[.slice py off.length cy] W fun x w' => x = .returned (.bool (decide (ofA off = off))) ∧ Below W.heap.size W w') := Lib.hid fun W hb => sgood_any _ off _ (by rw [decide_eq_true_iff]; exact SetA.iff) W (h.off.below hb)
  have HPK : Hid (∀ W, Below w.heap.size w W → decide (ofA off = off) = true → Calls Try.prog 36 #[a, .slice py off.length cy] W fun x w' => ∃ p c, x = .returned (.slice p (pickA on off true).length c) ∧ Below W.heap.size W w') := Lib.hid fun W hb hd => (sand_any a _ on off W (h.on.below hb) (h.off.below hb) (SetA.iff.1 (of_decide_eq_true hd)).1 (by omega) (by omega)).mono fun x w' ⟨v, hx, hb2, ho⟩ => by
    obtain ⟨p, c, e, _, _⟩ := (ho.ads (pickA_ok h.on.ok)).toAds.len
    exact ⟨p, c, by rw [hx, e], hb2⟩
  clear h la ly
  generalize decide (ofA on = on) = r1 at *
  generalize decide (ofA off = off) = r2 at *
  generalize off.length = n at *
  generalize (pickA on off true).length = k at *
  go_enter Try.func13, Try.ntmps13
  go_upto_region 1 with (fail)
  generalize w.alloc _ = W at H0 HB ⊢
  obtain ⟨c0, c1, c2⟩ := st_cells H0.out
  cases r1 <;> cases r2 <;> cases e
  all_goals (
    go_wp2_with (first
      | (go_at_call 35; (with_reducible refine (HG1.out _ HB.out).mono ?_); rintro x w1 ⟨rfl, hb⟩; replace H0 := Lib.hid (obj_keep H0.out hb); replace HB := Lib.hid (bstep HB.out hb); clear hb c0 c1 c2; obtain ⟨c0, c1, c2⟩ := st_cells H0.out)
      | (go_at_call 35; (with_reducible refine (HG2.out _ HB.out).mono ?_); rintro x w1 ⟨rfl, hb⟩; replace H0 := Lib.hid (obj_keep H0.out hb); replace HB := Lib.hid (bstep HB.out hb); clear hb c0 c1 c2; obtain ⟨c0, c1, c2⟩ := st_cells H0.out)
      | (go_at_call 36; (with_reducible refine (HPK.out _ HB.out trivial).mono ?_); rintro x w1 ⟨pp, pc, rfl, hb⟩; replace H0 := Lib.hid (obj_keep H0.out hb); replace HB := Lib.hid (bstep HB.out hb); clear hb c0 c1 c2; obtain ⟨c0, c1, c2⟩ := st_cells H0.out))
    go_ret
    exact ⟨ret_boolF (by first | rfl | (rw [Bool.eq_iff_iff]; simp; done)), HB.out⟩)
end Go.Proofs.Ytokpogoblnhihaa
