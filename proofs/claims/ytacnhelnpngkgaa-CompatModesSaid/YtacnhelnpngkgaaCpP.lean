/-
  Layer 16: the program's answers.
-/
import Derived.Test.YtacnhelnpngkgaaCpQ
namespace Go.Proofs.Ytacnhelnpngkgaa
open Go.RowKit
set_option linter.unusedVariables false
set_option linter.unusedSimpArgs false
attribute [local go_sem ↓] ld_addr st_addr bld_addr ld_tk st_tk bld_tk ld_rec st_rec bld_rec rcsLit_eq
attribute [local go_sem] ldr_addr str_addr ldr_tk str_tk ldr_rec str_rec row?_drewN_eq row?_drew_eq

set_option maxRecDepth 100000 in
theorem clast0_any (v6 : Bool) (w : World) : Calls Try.prog 16 #[.bool v6] w fun x w' => x = .returned (.int .i64 (lastN v6)) ∧ w = w' := by
  cases v6
  · go_enter Try.func16, Try.ntmps16
    go_wp2
    go_ret
    exact ⟨rfl, rfl⟩
  · go_enter Try.func16, Try.ntmps16
    go_wp2
    go_ret
    exact ⟨rfl, rfl⟩
theorem clast_any (v6 : Bool) (w : World) : Calls Try.prog 16 #[.bool v6] w fun x w' => x = .returned (.int .i64 (lastN v6)) ∧ Below w.heap.size w w' := (clast0_any v6 w).mono fun x w' ⟨h1, h2⟩ => ⟨h1, h2 ▸ Below.refl _ _⟩
set_option maxRecDepth 100000 in
theorem cmode_any (v6 : Bool) (now one two : Int) (w : World) : Calls Try.prog 14 #[.bool v6, .int .i64 now, .int .i64 one, .int .i64 two] w fun x w' => x = .returned (.int .i64 (modeC v6 now one two)) ∧ Below w.heap.size w w' := by
  have HL := Lib.hid (fun W => clast0_any v6 W)
  unfold modeC
  by_cases h1 : now < one
  · rw [if_pos h1]
    go_enter Try.func14, Try.ntmps14
    go_wp2
    go_ret
    exact ⟨rfl, Below.refl _ _⟩
  · rw [if_neg h1]
    by_cases h2 : now < two
    · cases v6 with
      | false =>
        rw [if_pos ⟨h2, rfl⟩]
        go_enter Try.func14, Try.ntmps14
        go_wp2
        go_ret
        exact ⟨rfl, Below.refl _ _⟩
      | true =>
        rw [if_neg (by simp)]
        go_enter Try.func14, Try.ntmps14
        go_wp2_with (go_at_call 16; (with_reducible refine (HL.out _).mono ?_); rintro x w1 ⟨rfl, rfl⟩)
        go_ret
        exact ⟨rfl, Below.refl _ _⟩
    · rw [if_neg (fun h => h2 h.1)]
      cases v6
      all_goals (
        go_enter Try.func14, Try.ntmps14
        go_wp2_with (go_at_call 16; (with_reducible refine (HL.out _).mono ?_); rintro x w1 ⟨rfl, rfl⟩)
        go_ret
        exact ⟨rfl, Below.refl _ _⟩)

set_option maxRecDepth 100000 in
set_option maxHeartbeats 2000000 in
theorem colder_any (q : TK) (us ur : Value) (ho : adOk q.g) (hg : gdT q = true) (w : World) : Calls Try.prog 12 #[.agg (tkC q us ur).toArray] w fun x w' => x = .returned (.int .i64 (oldC q)) ∧ Below w.heap.size w w' := by
  have H0 := Lib.hid (TbC.boxed w q us ur ho)
  have HL := Lib.hid (fun W => clast0_any q.v6 W)
  obtain ⟨R, hR⟩ : ∃ R, R = oldC q := ⟨_, rfl⟩
  rw [← hR]
  have HR : Hid (R = if q.kind = 2 ∧ q.ver < lastN q.v6 then q.ver else 0) := Lib.hid hR
  clear hR ho hg
  have HC := Lib.hid (fun W (h : TbC w q us ur W) => (⟨h.tk.v6, h.tk.ver, h.tk.kind⟩ : W.cell? ⟨w.heap.size, 0, none⟩ = some (.bool q.v6) ∧ W.cell? ⟨w.heap.size, 1, none⟩ = some (.int .i64 q.ver) ∧ W.cell? ⟨w.heap.size, 2, none⟩ = some (.int .i64 q.kind)))
  generalize lastN q.v6 = L at *
  generalize q.v6 = v6 at HL HC
  generalize q.ver = ver at HR HC
  generalize q.kind = kind at HR HC
  go_enter Try.func12, Try.ntmps12
  go_upto_region 1 with (fail)
  generalize w.alloc _ = W at H0 ⊢
  by_cases hk : kind = 2
  · subst hk
    by_cases hv : ver < L
    · have HE : Hid (R = ver) := Lib.hid (by rw [HR.out, if_pos ⟨rfl, hv⟩])
      clear HR

      have f1 : ∀ p : InS (TbC w q us ur), p.W.cell? ⟨w.heap.size, 0, none⟩ = some (.bool v6) := fun p => (HC.out _ p.h).1
      have f2 : ∀ p : InS (TbC w q us ur), p.W.cell? ⟨w.heap.size, 1, none⟩ = some (.int .i64 ver) := fun p => (HC.out _ p.h).2.1
      have f3 : ∀ p : InS (TbC w q us ur), p.W.cell? ⟨w.heap.size, 2, none⟩ = some (.int .i64 2) := fun p => (HC.out _ p.h).2.2
      have hne : Nonempty (InS (TbC w q us ur)) := ⟨⟨_, H0.out⟩⟩
      refine wp_region_inS (TbC w q us ur) (by kernel_rfl) (by kernel_rfl) (TbC.keep _ _ H0.out (bdrewN (Below.refl _ _) 1)) ?_
      repeat (go_big_quiet_step (first
        | (go_at_call 16; with_reducible exact Calls.inS TbC.keep _ (fun W _ => (HL.out W).mono fun _ _ h => ⟨h.1, h.2 ▸ Below.refl _ _⟩))))
      refine wpQuiet_nil ?_
      rintro _ ⟨⟨W2, hS2⟩, rfl⟩
      have H2 := Lib.hid hS2
      clear hS2 hne f1 f2 f3
      obtain ⟨c0, c1, c2⟩ := HC.out _ H2.out
      go_wp2
      go_ret
      exact ⟨ret_intCp HE.out.symm, H2.out.blw⟩
    · have HE : Hid (R = 0) := Lib.hid (by rw [HR.out, if_neg (fun h => hv h.2)])
      clear HR
      have f1 : ∀ p : InS (TbC w q us ur), p.W.cell? ⟨w.heap.size, 0, none⟩ = some (.bool v6) := fun p => (HC.out _ p.h).1
      have f2 : ∀ p : InS (TbC w q us ur), p.W.cell? ⟨w.heap.size, 1, none⟩ = some (.int .i64 ver) := fun p => (HC.out _ p.h).2.1
      have f3 : ∀ p : InS (TbC w q us ur), p.W.cell? ⟨w.heap.size, 2, none⟩ = some (.int .i64 2) := fun p => (HC.out _ p.h).2.2
      have hne : Nonempty (InS (TbC w q us ur)) := ⟨⟨_, H0.out⟩⟩
      refine wp_region_inS (TbC w q us ur) (by kernel_rfl) (by kernel_rfl) (TbC.keep _ _ H0.out (bdrewN (Below.refl _ _) 1)) ?_
      repeat (go_big_quiet_step (first
        | (go_at_call 16; with_reducible exact Calls.inS TbC.keep _ (fun W _ => (HL.out W).mono fun _ _ h => ⟨h.1, h.2 ▸ Below.refl _ _⟩))))
      refine wpQuiet_nil ?_
      rintro _ ⟨⟨W2, hS2⟩, rfl⟩
      have H2 := Lib.hid hS2
      clear hS2 hne f1 f2 f3
      obtain ⟨c0, c1, c2⟩ := HC.out _ H2.out
      go_wp2
      go_ret
      exact ⟨ret_intCp HE.out.symm, H2.out.blw⟩
  · have hd : (kind == 2) = false := by simpa using hk
    have HE : Hid (R = 0) := Lib.hid (by rw [HR.out, if_neg (fun h => hk h.1)])
    clear HR hk
    have f1 : ∀ p : InS (TbC w q us ur), p.W.cell? ⟨w.heap.size, 0, none⟩ = some (.bool v6) := fun p => (HC.out _ p.h).1
    have f2 : ∀ p : InS (TbC w q us ur), p.W.cell? ⟨w.heap.size, 1, none⟩ = some (.int .i64 ver) := fun p => (HC.out _ p.h).2.1
    have f3 : ∀ p : InS (TbC w q us ur), p.W.cell? ⟨w.heap.size, 2, none⟩ = some (.int .i64 kind) := fun p => (HC.out _ p.h).2.2
    have hne : Nonempty (InS (TbC w q us ur)) := ⟨⟨_, H0.out⟩⟩
    refine wp_region_inS (TbC w q us ur) (by kernel_rfl) (by kernel_rfl) (TbC.keep _ _ H0.out (bdrewN (Below.refl _ _) 1)) ?_
    repeat (go_big_quiet_step (first
      | (go_at_call 16; with_reducible exact Calls.inS TbC.keep _ (fun W _ => (HL.out W).mono fun _ _ h => ⟨h.1, h.2 ▸ Below.refl _ _⟩))))
    refine wpQuiet_nil ?_
    rintro _ ⟨⟨W2, hS2⟩, rfl⟩
    have H2 := Lib.hid hS2
    clear hS2 hne f1 f2 f3
    obtain ⟨c0, c1, c2⟩ := HC.out _ H2.out
    go_wp2
    go_ret
    exact ⟨ret_intCp HE.out.symm, H2.out.blw⟩
set_option maxRecDepth 100000 in
set_option maxHeartbeats 2000000 in
theorem crecs_any (q : TK) (us ur : Value) (ho : adOk q.g) (hg : gdT q = true) (w : World) (hr : RcT w ur q.rcs) (hl : q.rcs.length ≤ 100) (hs : ∀ r ∈ q.rcs, r.src.length ≤ 100) : Calls Try.prog 10 #[.agg (tkC q us ur).toArray] w fun x w' => ∃ v, x = .returned v ∧ Below w.heap.size w w' ∧ Rcs w' v (recsC q) := by
  have H0 := Lib.hid (TbC.boxed w q us ur ho)
  have HL := Lib.hid (fun W => clast0_any q.v6 W)
  have HRC := Lib.hid (fun W (h : TbC w q us ur W) => ccopied_any q.rcs ur W (hr.rcs.below h.blw) (by omega) (fun r hr => by have := hs r hr; omega))
  have HN := Lib.hid ho
  obtain ⟨R, hR⟩ : ∃ R, R = recsC q := ⟨_, rfl⟩
  rw [← hR]
  have HR : Hid (R = if q.kind = 3 then [⟨3, q.g, []⟩] else if q.kind ≠ 2 then [] else if q.ver = lastN q.v6 then q.rcs else [⟨2, q.g, []⟩]) := Lib.hid hR
  have hb3 := fun w0 => bld_rk 3 q.g ho w0
  have hb2 := fun w0 => bld_rk 2 q.g ho w0
  have hl3 := fun w0 => rcsLit_run ⟨3, q.g, []⟩ ho none 0 0 w0
  have hl2 := fun w0 => rcsLit_run ⟨2, q.g, []⟩ ho none 0 0 w0
  clear hR ho hr hg hl hs
  have HC := Lib.hid (fun W (h : TbC w q us ur W) => (⟨h.tk.v6, h.tk.ver, h.tk.kind, h.tk.rg, h.tk.ur⟩ : W.cell? ⟨w.heap.size, 0, none⟩ = some (.bool q.v6) ∧ W.cell? ⟨w.heap.size, 1, none⟩ = some (.int .i64 q.ver) ∧ W.cell? ⟨w.heap.size, 2, none⟩ = some (.int .i64 q.kind) ∧ row? W w.heap.size 4 17 = some (adC q.g) ∧ W.cell? ⟨w.heap.size, 25, none⟩ = some ur))
  generalize lastN q.v6 = L at *
  generalize q.v6 = v6 at HL HC
  generalize q.ver = ver at HR HC
  generalize q.kind = kind at HR HC
  generalize q.g = g at HR HC HN hb3 hb2 hl3 hl2
  generalize q.rcs = rs at HR HRC
  go_enter Try.func10, Try.ntmps10
  go_upto_region 1 with (fail)
  generalize w.alloc _ = W at H0 ⊢
  by_cases h2 : kind = 2
  · subst h2
    by_cases hv : ver = L
    · subst hv
      have HE : Hid (R = rs) := Lib.hid (by rw [HR.out, if_neg (by decide), if_neg (by simp), if_pos rfl])
      clear HR
      have hd : (ver == ver) = true := by simp
      have f1 : ∀ p : InS (TbC w q us ur), p.W.cell? ⟨w.heap.size, 0, none⟩ = some (.bool v6) := fun p => (HC.out _ p.h).1
      have f2 : ∀ p : InS (TbC w q us ur), p.W.cell? ⟨w.heap.size, 1, none⟩ = some (.int .i64 ver) := fun p => (HC.out _ p.h).2.1
      have f3 : ∀ p : InS (TbC w q us ur), p.W.cell? ⟨w.heap.size, 2, none⟩ = some (.int .i64 2) := fun p => (HC.out _ p.h).2.2.1
      have hne : Nonempty (InS (TbC w q us ur)) := ⟨⟨_, H0.out⟩⟩
      refine wp_region_inS (TbC w q us ur) (by kernel_rfl) (by kernel_rfl) (TbC.keep _ _ H0.out (bdrewN (Below.refl _ _) 1)) ?_
      repeat (go_big_quiet_step (first
        | (go_at_call 16; with_reducible exact Calls.inS TbC.keep _ (fun W _ => (HL.out W).mono fun _ _ h => ⟨h.1, h.2 ▸ Below.refl _ _⟩))))
      refine wpQuiet_nil ?_
      rintro _ ⟨⟨W2, hS2⟩, rfl⟩
      have H2 := Lib.hid hS2
      clear hS2 hne f1 f2 f3
      obtain ⟨c0, c1, c2, c3, c4⟩ := HC.out _ H2.out
      go_wp2_with (go_at_call 25; (with_reducible refine (HRC.out _ H2.out).mono ?_); rintro x w3 ⟨v3, rfl, hb, hv3⟩; have H3 := Lib.hid (bstep H2.out.blw hb); have HV := Lib.hid hv3; clear hb hv3)
      go_ret
      exact ⟨_, rfl, H3.out, by rw [HE.out]; exact HV.out⟩
    · have hd : (ver == L) = false := by simpa using hv
      have HE : Hid (R = [⟨2, g, []⟩]) := Lib.hid (by rw [HR.out, if_neg (by decide), if_neg (by simp), if_neg hv])
      clear HR hv
      have f1 : ∀ p : InS (TbC w q us ur), p.W.cell? ⟨w.heap.size, 0, none⟩ = some (.bool v6) := fun p => (HC.out _ p.h).1
      have f2 : ∀ p : InS (TbC w q us ur), p.W.cell? ⟨w.heap.size, 1, none⟩ = some (.int .i64 ver) := fun p => (HC.out _ p.h).2.1
      have f3 : ∀ p : InS (TbC w q us ur), p.W.cell? ⟨w.heap.size, 2, none⟩ = some (.int .i64 2) := fun p => (HC.out _ p.h).2.2.1
      have hne : Nonempty (InS (TbC w q us ur)) := ⟨⟨_, H0.out⟩⟩
      refine wp_region_inS (TbC w q us ur) (by kernel_rfl) (by kernel_rfl) (TbC.keep _ _ H0.out (bdrewN (Below.refl _ _) 1)) ?_
      repeat (go_big_quiet_step (first
        | (go_at_call 16; with_reducible exact Calls.inS TbC.keep _ (fun W _ => (HL.out W).mono fun _ _ h => ⟨h.1, h.2 ▸ Below.refl _ _⟩))))
      refine wpQuiet_nil ?_
      rintro _ ⟨⟨W2, hS2⟩, rfl⟩
      have H2 := Lib.hid hS2
      clear hS2 hne f1 f2 f3
      obtain ⟨c0, c1, c2, c3, c4⟩ := HC.out _ H2.out
      go_wp2
      go_ret
      exact ⟨_, rfl, bstep H2.out.blw (bbox _ _), by rw [HE.out]; exact rcs_lit _ ⟨2, g, []⟩ _ HN.out (Ads.nil _)⟩
  · have hd : (kind == 2) = false := by simpa using h2
    by_cases h3 : kind = 3
    · have HE : Hid (R = [⟨3, g, []⟩]) := Lib.hid (by rw [HR.out, if_pos h3])
      have hd3 : (kind == 3) = true := by simpa using h3
      clear HR h2 h3
      have f1 : ∀ p : InS (TbC w q us ur), p.W.cell? ⟨w.heap.size, 0, none⟩ = some (.bool v6) := fun p => (HC.out _ p.h).1
      have f2 : ∀ p : InS (TbC w q us ur), p.W.cell? ⟨w.heap.size, 1, none⟩ = some (.int .i64 ver) := fun p => (HC.out _ p.h).2.1
      have f3 : ∀ p : InS (TbC w q us ur), p.W.cell? ⟨w.heap.size, 2, none⟩ = some (.int .i64 kind) := fun p => (HC.out _ p.h).2.2.1
      have hne : Nonempty (InS (TbC w q us ur)) := ⟨⟨_, H0.out⟩⟩
      refine wp_region_inS (TbC w q us ur) (by kernel_rfl) (by kernel_rfl) (TbC.keep _ _ H0.out (bdrewN (Below.refl _ _) 1)) ?_
      repeat (go_big_quiet_step (first
        | (go_at_call 16; with_reducible exact Calls.inS TbC.keep _ (fun W _ => (HL.out W).mono fun _ _ h => ⟨h.1, h.2 ▸ Below.refl _ _⟩))))
      refine wpQuiet_nil ?_
      rintro _ ⟨⟨W2, hS2⟩, rfl⟩
      have H2 := Lib.hid hS2
      clear hS2 hne f1 f2 f3
      obtain ⟨c0, c1, c2, c3, c4⟩ := HC.out _ H2.out
      go_wp2
      go_ret
      exact ⟨_, rfl, bstep H2.out.blw (bbox _ _), by rw [HE.out]; exact rcs_lit _ ⟨3, g, []⟩ _ HN.out (Ads.nil _)⟩
    · have HE : Hid (R = []) := Lib.hid (by rw [HR.out, if_neg h3, if_pos h2])
      have hd3 : (kind == 3) = false := by simpa using h3
      clear HR h2 h3
      have f1 : ∀ p : InS (TbC w q us ur), p.W.cell? ⟨w.heap.size, 0, none⟩ = some (.bool v6) := fun p => (HC.out _ p.h).1
      have f2 : ∀ p : InS (TbC w q us ur), p.W.cell? ⟨w.heap.size, 1, none⟩ = some (.int .i64 ver) := fun p => (HC.out _ p.h).2.1
      have f3 : ∀ p : InS (TbC w q us ur), p.W.cell? ⟨w.heap.size, 2, none⟩ = some (.int .i64 kind) := fun p => (HC.out _ p.h).2.2.1
      have hne : Nonempty (InS (TbC w q us ur)) := ⟨⟨_, H0.out⟩⟩
      refine wp_region_inS (TbC w q us ur) (by kernel_rfl) (by kernel_rfl) (TbC.keep _ _ H0.out (bdrewN (Below.refl _ _) 1)) ?_
      repeat (go_big_quiet_step (first
        | (go_at_call 16; with_reducible exact Calls.inS TbC.keep _ (fun W _ => (HL.out W).mono fun _ _ h => ⟨h.1, h.2 ▸ Below.refl _ _⟩))))
      refine wpQuiet_nil ?_
      rintro _ ⟨⟨W2, hS2⟩, rfl⟩
      have H2 := Lib.hid hS2
      clear hS2 hne f1 f2 f3
      obtain ⟨c0, c1, c2, c3, c4⟩ := HC.out _ H2.out
      go_wp2
      go_ret
      exact ⟨_, rfl, H2.out.blw, by rw [HE.out]; exact Rcs.nil _⟩
set_option maxRecDepth 100000 in
set_option maxHeartbeats 4000000 in
theorem ccut_any (v6 : Bool) (m : Int) (r : RC) (u : Value) (ho : adOk r.g) (w : World) (hu : AdsT w u r.src) (hl : r.src.length ≤ 100) : Calls Try.prog 19 #[.bool v6, .int .i64 m, .agg (rcC r u).toArray] w fun x w' => ∃ u', x = .returned (.tuple #[.agg (rcC (cutC v6 m r) u').toArray, .bool (cutIs v6 m r)]) ∧ Below w.heap.size w w' ∧ AdsT w' u' (cutC v6 m r).src := by
  have H0 := Lib.hid (CtB.boxed w r u ho)
  have HL := Lib.hid (fun W => clast0_any v6 W)
  have HOW := Lib.hid (fun W (h : CtB w r u W) => cown_any r u ho W (hu.1.below h.blw) (by omega))
  have HK := Lib.hid ho
  have hfk : ∀ p n c, fok (rcC r (.slice p n c)).toArray 19 = true := fun p n c => fok_rec ho rfl
  have hf2 : fok (rcC ⟨r.kind, r.g, []⟩ (.slice none 0 0)).toArray 19 = true := fok_rec (r := ⟨r.kind, r.g, []⟩) ho rfl
  have hf3 : fok (rcC ⟨0, zeroA, []⟩ (.slice none 0 0)).toArray 19 = true := fok_rec (r := ⟨0, zeroA, []⟩) zeroA_ok rfl
  have hb0 := fun w0 => bld_r0 w0
  have hb4 := fun w0 => bld_rk r.kind r.g ho w0
  have hrl : ∀ (r : RC) (u : Value), adOk r.g → (rcC r u).length = 19 := fun r u h => rcC_length h u
  have HRL := Lib.hid hrl
  obtain ⟨c, hc⟩ : ∃ c, c = cutC v6 m r := ⟨_, rfl⟩
  obtain ⟨i, hi⟩ : ∃ i, i = cutIs v6 m r := ⟨_, rfl⟩
  rw [← hc, ← hi]
  have HI : Hid (i = !(decide (m < lastN v6) && (decide (r.kind = 6) || (decide (r.kind = 3) && (decide (m = 1) && !v6))))) := Lib.hid hi
  have HC : Hid (c = if i then (if m < lastN v6 ∧ r.kind = 4 then ⟨4, r.g, []⟩ else r) else ⟨0, zeroA, []⟩) := Lib.hid (by rw [hc, hi]; rfl)
  clear hc hi hrl ho hu hl
  have HF := Lib.hid (fun (W : World) (h : CtB w r u W) => (⟨h.one.kind, h.one.row, h.one.grp, h.one.src, h.freeR⟩ : W.cell? ⟨w.heap.size, 0, none⟩ = some (.int .i64 r.kind) ∧ row? W w.heap.size 0 19 = some (rcC r u) ∧ row? W w.heap.size 1 17 = some (adC r.g) ∧ W.cell? ⟨w.heap.size, 18, none⟩ = some u ∧ free? W (w.heap.size + 1) 0 19 = true))
  go_enter Try.func19, Try.ntmps19
  go_upto_region 1 with (fail)
  generalize (w.alloc _).alloc _ = W at H0 ⊢
  generalize lastN v6 = L at *
  by_cases hm : m < L
  · by_cases h6 : r.kind = 6
    · have HJ : Hid (i = false) := Lib.hid (by rw [HI.out, decide_eq_true hm, decide_eq_true h6]; rfl)
      have HE : Hid (c = ⟨0, zeroA, []⟩) := Lib.hid (by rw [HC.out, HJ.out]; rfl)
      have hd6 : (r.kind == 6) = true := by simpa using h6
      clear HI HC h6
      obtain ⟨c0, r0, g0, s0, ff⟩ := HF.out _ H0.out
      go_wp2_with (go_at_call 16; (with_reducible refine (HL.out _).mono ?_); rintro x w1 ⟨rfl, rfl⟩)
      obtain ⟨y1, y2⟩ := resDone H0.out.res H0.out.blw (by omega) (rcC ⟨0, zeroA, []⟩ (.slice none 0 0)) (by rw [HRL.out ⟨0, zeroA, []⟩ _ (zeroA_ok)]; rfl)
      exact bodyPost_ret (results_cell2 Try.results19 rfl (ld_some y1 (ldr_rec _ _ _))) rfl ⟨_, by rw [HE.out, HJ.out]; rfl, y2, by rw [HE.out]; exact ⟨Ads.nil _, fun b o n c e => by cases e⟩⟩
    have hd6 : (r.kind == 6) = false := by simpa using h6
    by_cases hx : r.kind = 3 ∧ m = 1 ∧ v6 = false
    · obtain ⟨h3, rfl, rfl⟩ := hx
      have HJ : Hid (i = false) := Lib.hid (by rw [HI.out, decide_eq_true hm, decide_eq_true h3]; simp)
      have HE : Hid (c = ⟨0, zeroA, []⟩) := Lib.hid (by rw [HC.out, HJ.out]; rfl)
      have hd3 : (r.kind == 3) = true := by simpa using h3
      clear HI HC h3 h6
      obtain ⟨c0, r0, g0, s0, ff⟩ := HF.out _ H0.out
      go_wp2_with (go_at_call 16; (with_reducible refine (HL.out _).mono ?_); rintro x w1 ⟨rfl, rfl⟩)
      obtain ⟨y1, y2⟩ := resDone H0.out.res H0.out.blw (by omega) (rcC ⟨0, zeroA, []⟩ (.slice none 0 0)) (by rw [HRL.out ⟨0, zeroA, []⟩ _ (zeroA_ok)]; rfl)
      exact bodyPost_ret (results_cell2 Try.results19 rfl (ld_some y1 (ldr_rec _ _ _))) rfl ⟨_, by rw [HE.out, HJ.out]; rfl, y2, by rw [HE.out]; exact ⟨Ads.nil _, fun b o n c e => by cases e⟩⟩
    have HJ : Hid (i = true) := Lib.hid (by
      rw [HI.out, decide_eq_false h6]
      by_cases q3 : r.kind = 3
      · by_cases q1 : m = 1
        · cases hv : v6
          · exact absurd ⟨q3, q1, hv⟩ hx
          · simp
        · simp [q1]
      · simp [q3])
    by_cases h4 : r.kind = 4
    · have HE : Hid (c = ⟨r.kind, r.g, []⟩) := Lib.hid (by rw [HC.out, HJ.out, if_pos rfl, if_pos ⟨hm, h4⟩, h4])
      have hd3 : (r.kind == 3) = false := by rw [h4]; rfl
      have h4c : (r.kind == 4) = true := by rw [h4]; rfl
      clear HI HC h6 hx h4
      obtain ⟨c0, r0, g0, s0, ff⟩ := HF.out _ H0.out
      go_wp2_with (go_at_call 16; (with_reducible refine (HL.out _).mono ?_); rintro x w1 ⟨rfl, rfl⟩)
      obtain ⟨y1, y2⟩ := resDone H0.out.res H0.out.blw (by omega) (rcC ⟨r.kind, r.g, []⟩ (.slice none 0 0)) (by rw [HRL.out ⟨r.kind, r.g, []⟩ _ (HK.out)]; rfl)
      exact bodyPost_ret (results_cell2 Try.results19 rfl (ld_some y1 (ldr_rec _ _ _))) rfl ⟨_, by rw [HE.out, HJ.out]; rfl, y2, by rw [HE.out]; exact ⟨Ads.nil _, fun b o n c e => by cases e⟩⟩
    · have HE : Hid (c = r) := Lib.hid (by rw [HC.out, HJ.out, if_pos rfl, if_neg (fun h => h4 h.2)])
      have hd4 : (r.kind == 4) = false := by simpa using h4
      clear HI HC h6 h4
      by_cases h3 : r.kind = 3
      · have hd3 : (r.kind == 3) = true := by simpa using h3
        by_cases h1 : m = 1
        · subst h1
          have hv : v6 = true := by cases hv : v6 with | true => rfl | false => exact absurd ⟨h3, rfl, hv⟩ hx
          subst hv
          clear h3 hx
          obtain ⟨c0, r0, g0, s0, ff⟩ := HF.out _ H0.out
          go_wp2_with (first
            | (go_at_call 16; (with_reducible refine (HL.out _).mono ?_); rintro x w1 ⟨rfl, rfl⟩)
            | (go_at_call 26; (with_reducible refine (HOW.out _ H0.out).mono ?_); rintro x w3 ⟨p3, n3, k3, rfl, hb, hv⟩; replace H0 := Lib.hid (CtB.keep _ _ H0.out hb); have HV := Lib.hid hv; have ff3 := H0.out.freeR; have hfk3 := hfk p3 n3 k3; clear hb hv c0 r0 g0 s0 ff))
          obtain ⟨y1, y2⟩ := resDone H0.out.res H0.out.blw (by omega) (rcC r (.slice p3 n3 k3)) (by rw [HRL.out _ _ HK.out]; rfl)
          exact bodyPost_ret (results_cell2 Try.results19 rfl (ld_some y1 (ldr_rec _ _ _))) rfl ⟨_, by rw [HE.out, HJ.out]; rfl, y2, by rw [HE.out]; exact AdsT.offC HV.out H0.out.res (by decide) (aggW_grown _ _ _)⟩
        · have hd1 : (m == 1) = false := by simpa using h1
          clear h3 hx h1
          obtain ⟨c0, r0, g0, s0, ff⟩ := HF.out _ H0.out
          go_wp2_with (first
            | (go_at_call 16; (with_reducible refine (HL.out _).mono ?_); rintro x w1 ⟨rfl, rfl⟩)
            | (go_at_call 26; (with_reducible refine (HOW.out _ H0.out).mono ?_); rintro x w3 ⟨p3, n3, k3, rfl, hb, hv⟩; replace H0 := Lib.hid (CtB.keep _ _ H0.out hb); have HV := Lib.hid hv; have ff3 := H0.out.freeR; have hfk3 := hfk p3 n3 k3; clear hb hv c0 r0 g0 s0 ff))
          obtain ⟨y1, y2⟩ := resDone H0.out.res H0.out.blw (by omega) (rcC r (.slice p3 n3 k3)) (by rw [HRL.out _ _ HK.out]; rfl)
          exact bodyPost_ret (results_cell2 Try.results19 rfl (ld_some y1 (ldr_rec _ _ _))) rfl ⟨_, by rw [HE.out, HJ.out]; rfl, y2, by rw [HE.out]; exact AdsT.offC HV.out H0.out.res (by decide) (aggW_grown _ _ _)⟩
      · have hd3 : (r.kind == 3) = false := by simpa using h3
        clear h3 hx
        obtain ⟨c0, r0, g0, s0, ff⟩ := HF.out _ H0.out
        go_wp2_with (first
          | (go_at_call 16; (with_reducible refine (HL.out _).mono ?_); rintro x w1 ⟨rfl, rfl⟩)
          | (go_at_call 26; (with_reducible refine (HOW.out _ H0.out).mono ?_); rintro x w3 ⟨p3, n3, k3, rfl, hb, hv⟩; replace H0 := Lib.hid (CtB.keep _ _ H0.out hb); have HV := Lib.hid hv; have ff3 := H0.out.freeR; have hfk3 := hfk p3 n3 k3; clear hb hv c0 r0 g0 s0 ff))
        obtain ⟨y1, y2⟩ := resDone H0.out.res H0.out.blw (by omega) (rcC r (.slice p3 n3 k3)) (by rw [HRL.out _ _ HK.out]; rfl)
        exact bodyPost_ret (results_cell2 Try.results19 rfl (ld_some y1 (ldr_rec _ _ _))) rfl ⟨_, by rw [HE.out, HJ.out]; rfl, y2, by rw [HE.out]; exact AdsT.offC HV.out H0.out.res (by decide) (aggW_grown _ _ _)⟩
  · have HJ : Hid (i = true) := Lib.hid (by rw [HI.out, decide_eq_false hm]; rfl)
    have HE : Hid (c = r) := Lib.hid (by rw [HC.out, HJ.out, if_pos rfl, if_neg (fun h => hm h.1)])
    clear HI HC
    obtain ⟨c0, r0, g0, s0, ff⟩ := HF.out _ H0.out
    go_wp2_with (first
      | (go_at_call 16; (with_reducible refine (HL.out _).mono ?_); rintro x w1 ⟨rfl, rfl⟩)
      | (go_at_call 26; (with_reducible refine (HOW.out _ H0.out).mono ?_); rintro x w3 ⟨p3, n3, k3, rfl, hb, hv⟩; replace H0 := Lib.hid (CtB.keep _ _ H0.out hb); have HV := Lib.hid hv; have ff3 := H0.out.freeR; have hfk3 := hfk p3 n3 k3; clear hb hv c0 r0 g0 s0 ff))
    obtain ⟨y1, y2⟩ := resDone H0.out.res H0.out.blw (by omega) (rcC r (.slice p3 n3 k3)) (by rw [HRL.out _ _ HK.out]; rfl)
    exact bodyPost_ret (results_cell2 Try.results19 rfl (ld_some y1 (ldr_rec _ _ _))) rfl ⟨_, by rw [HE.out, HJ.out]; rfl, y2, by rw [HE.out]; exact AdsT.offC HV.out H0.out.res (by decide) (aggW_grown _ _ _)⟩
end Go.Proofs.Ytacnhelnpngkgaa
