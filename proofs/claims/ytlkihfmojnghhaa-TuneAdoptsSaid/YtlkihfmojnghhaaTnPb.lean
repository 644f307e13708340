/-
  Layer 14: the program's Adopt.
-/
import Derived.Test.YtlkihfmojnghhaaTnPa
namespace Go.Proofs.Ytlkihfmojnghhaa
open Go.RowKit
set_option linter.unusedVariables false
set_option linter.unusedSimpArgs false
attribute [local go_sem ↓] ld_addr st_addr bld_addr ld_tk st_tk bld_tk ld_tn st_tn bld_tn
attribute [local go_sem] ldr_addr str_addr ldr_tk str_tk ldr_tn str_tn row?_drewN_eq row?_drew_eq

/-- Adopt's blocks: the parameters, the query, the result. -/
structure Ad3 (w : World) (q : TK) (us ur : Value) (e : TN) (W : World) : Prop where
  one : ObjAt W w.heap.size (tnC e).toArray 23
  two : TkAt W (w.heap.size + 1) q us ur
  three : ObjAt W (w.heap.size + 1 + 1) (tnC zeroN).toArray 23
  blw : Below w.heap.size w W
theorem Ad3.set {w W : World} {q : TK} {us ur : Value} {e e' : TN} (h : Ad3 w q us ur e W) (j : Nat) (v : Value) (he : (tnC e).set j v = tnC e') : Ad3 w q us ur e' (W.setCell ⟨w.heap.size, j, none⟩ v) := by
  refine ⟨?_, ⟨h.two.1.other _ _ (by simp <;> omega), h.two.2⟩, h.three.other _ _ (by simp <;> omega), h.blw.setCell (p := ⟨w.heap.size, j, none⟩) (by simp <;> omega) v⟩
  have := h.one.set j v
  rwa [List.setIfInBounds_toArray, he] at this
theorem Ad3.below {w : World} {q : TK} {us ur : Value} {e : TN} (W W' : World) (h : Ad3 w q us ur e W) (hb : Below W.heap.size W W') : Ad3 w q us ur e W' := ⟨obj_keep h.one hb, h.two.below hb, obj_keep h.three hb, bstep h.blw hb⟩
theorem Ad3.start (w : World) (t : TN) (q : TK) (us ur : Value) (ho : adOk q.g) : Ad3 w q us ur t (((w.alloc (.cells (tnC t).toArray 23)).alloc (.cells (tkC q us ur).toArray 35)).alloc (.cells #[.int .i64 0, .int .i64 0, .int .i64 0, .int .i64 0, .int .i64 0] 23)) := by
  have a1 := ObjAt.made w (tnC t).toArray 23
  have a2 := TkAt.made (w.alloc (.cells (tnC t).toArray 23)) q us ur ho
  have s1 : (w.alloc (.cells (tnC t).toArray 23)).heap.size = w.heap.size + 1 := by simp
  rw [s1] at a2
  generalize hX : w.alloc (.cells (tnC t).toArray 23) = X at *
  have bX : Below w.heap.size w X := hX ▸ bbox w _
  have a3 := ObjAt.made (X.alloc (.cells (tkC q us ur).toArray 35)) (tnC zeroN).toArray 23
  have s2 : (X.alloc (.cells (tkC q us ur).toArray 35)).heap.size = w.heap.size + 1 + 1 := by simp [s1]
  rw [s2] at a3
  have bY : Below w.heap.size w (X.alloc (.cells (tkC q us ur).toArray 35)) := bX.alloc (by omega) _
  have a1' := a1.alloc (.cells (tkC q us ur).toArray 35)
  generalize X.alloc (.cells (tkC q us ur).toArray 35) = Y at *
  exact ⟨a1'.alloc _, ⟨a2.1.alloc _, ho⟩, a3, bY.alloc (by omega) _⟩
theorem Ad3.drew {w W : World} {q : TK} {us ur : Value} {e : TN} (h : Ad3 w q us ur e W) : Ad3 w q us ur e W.drew := ⟨h.one, h.two, h.three, bdrewN h.blw 1⟩
def evI (n m : Int) : Int := clampI (clampI n 0 100000 * 10) m 317440
theorem evI_eq {n m : Int} (hn : 0 < n) (hm : 1 ≤ m ∧ m ≤ 31744) : evI n m = if 31743 < n then 317440 else if 10 * n < m then m else 10 * n := by
  unfold evI
  obtain ⟨c, hc⟩ : ∃ c, c = clampI n 0 100000 := ⟨_, rfl⟩
  rw [← hc]
  have hc2 : (n ≤ 100000 ∧ c = n) ∨ (100000 < n ∧ c = 100000) := by
    rw [hc]; unfold clampI; rw [if_neg (by omega)]; split
    · right; exact ⟨by omega, rfl⟩
    · left; exact ⟨by omega, rfl⟩
  unfold clampI
  repeat' split
  all_goals omega
set_option maxRecDepth 100000 in
set_option maxHeartbeats 2000000 in
theorem tadopt_any (t : TN) (q : TK) (us ur : Value) (ho : adOk q.g) (hg : gdN t = true) (w : World) : Calls Try.prog 19 #[.agg (tnC t).toArray, .agg (tkC q us ur).toArray] w fun x w' => x = .returned (.agg (tnC (adoptN t q)).toArray) ∧ Below w.heap.size w w' := by
  have H0 := Lib.hid (Ad3.start w t q us ur ho)
  have hb := gdN_iff.1 hg
  obtain ⟨A, hA⟩ : ∃ A, A = adoptN t q := ⟨_, rfl⟩
  rw [← hA]
  obtain ⟨tr, te, m, tl, tc⟩ := t
  have hm : 1 ≤ m ∧ m ≤ 31744 := by simp only at hb; omega
  have HC := Lib.hid (fun (e : TN) (W : World) (h : Ad3 w q us ur e W) => (⟨h.two.v6, h.two.ver, h.two.kind, h.two.rob, h.two.every, (tn_c h.one).2.2.1, (tn_c h.one).1, (tn_c h.one).2.1, tn_row h.one, h.one.free 0, h.one.free 1, obj_free_at h.three 0 5 (Nat.le_refl _)⟩ : W.cell? ⟨w.heap.size + 1, 0, none⟩ = some (.bool q.v6) ∧ W.cell? ⟨w.heap.size + 1, 1, none⟩ = some (.int .i64 q.ver) ∧ W.cell? ⟨w.heap.size + 1, 2, none⟩ = some (.int .i64 q.kind) ∧ W.cell? ⟨w.heap.size + 1, 22, none⟩ = some (.int .i64 q.rob) ∧ W.cell? ⟨w.heap.size + 1, 23, none⟩ = some (.int .i64 q.every) ∧ W.cell? ⟨w.heap.size, 2, none⟩ = some (.int .i64 e.resp) ∧ W.cell? ⟨w.heap.size, 0, none⟩ = some (.int .i64 e.rob) ∧ W.cell? ⟨w.heap.size, 1, none⟩ = some (.int .i64 e.every) ∧ row? W w.heap.size 0 5 = some (tnC e) ∧ W.frozen? ⟨w.heap.size, 0, none⟩ = false ∧ W.frozen? ⟨w.heap.size, 1, none⟩ = false ∧ free? W (w.heap.size + 1 + 1) 0 5 = true))
  have hfk := fok_tn
  have HL := Lib.hid (fun W => tlatest_any q.v6 W)
  have HW := Lib.hid (fun W => twithin_any q.rob 1 7 W)
  have HT := Lib.hid (fun W => ttimes_k q.every 10 (by omega) W)
  have HV : Hid (∀ W, Calls Try.prog 30 #[.int .i64 (clampI q.every 0 100000 * 10), .int .i64 m, .int .i64 317440] W fun x w' => x = .returned (.int .i64 (evI q.every m)) ∧ W = w') := Lib.hid fun W => tclamp_any _ m 317440 (by omega) W
  have HA : Hid (A = if decide (q.kind = 1 ∧ q.ver = newV q.v6) then ⟨if 0 < q.rob ∧ q.rob < 8 then q.rob else tr, if q.every ≤ 0 then te else evI q.every m, m, tl, tc⟩ else ⟨tr, te, m, tl, tc⟩) := Lib.hid (by
    rw [hA]; unfold adoptN fullQ robQ evQ
    by_cases h : q.every ≤ 0
    · rw [if_pos h, if_pos h]
    · rw [if_neg h, if_neg h, evI_eq (by omega) hm])
  clear hA hg hb hm
  generalize newV q.v6 = L at *
  generalize evI q.every m = ev at *
  generalize clampI q.every 0 100000 * 10 = c10 at *
  have HD : Hid (∀ e W, Ad3 w q us ur e W → Ad3 w q us ur e W) := Lib.hid fun _ _ h => h
  generalize hv : q.v6 = v6 at *
  generalize hk : q.kind = kind at *
  generalize hn : q.ver = ver at *
  generalize hr : q.rob = r at *
  generalize he : q.every = n at *
  clear hv hk hn hr he HD ho
  have d1 : decide (1 ≤ r ∧ r ≤ 7) = decide (0 < r ∧ r < 8) := decide_eq_decide.2 (by omega)
  rw [d1] at HW
  clear d1
  go_enter Try.func19, Try.ntmps19
  go_upto_region 1 with (fail)
  generalize ((w.alloc _).alloc _).alloc _ = W at H0 ⊢
  by_cases hk : kind = 1
  · subst hk
    by_cases hv : ver = L
    · subst hv
      replace HA : Hid (A = ⟨if 0 < r ∧ r < 8 then r else tr, if n ≤ 0 then te else ev, m, tl, tc⟩) := Lib.hid (by simpa using HA.out)
      have hd : (ver != ver) = false := by simp
      have f1 : ∀ p : InS (Ad3 w q us ur ⟨tr, te, m, tl, tc⟩), p.W.cell? ⟨w.heap.size + 1, 0, none⟩ = some (.bool v6) := fun p => (HC.out _ _ p.h).1
      have f2 : ∀ p : InS (Ad3 w q us ur ⟨tr, te, m, tl, tc⟩), p.W.cell? ⟨w.heap.size + 1, 1, none⟩ = some (.int .i64 ver) := fun p => (HC.out _ _ p.h).2.1
      have f3 : ∀ p : InS (Ad3 w q us ur ⟨tr, te, m, tl, tc⟩), p.W.cell? ⟨w.heap.size + 1, 2, none⟩ = some (.int .i64 1) := fun p => (HC.out _ _ p.h).2.2.1
      have hne : Nonempty (InS (Ad3 w q us ur ⟨tr, te, m, tl, tc⟩)) := ⟨⟨_, H0.out⟩⟩
      refine wp_region_inS (Ad3 w q us ur ⟨tr, te, m, tl, tc⟩) (by kernel_rfl) (by kernel_rfl) (Ad3.below _ _ H0.out (bdrewN (Below.refl _ _) 1)) ?_
      repeat (go_big_quiet_step (first
        | (go_at_call 29; with_reducible exact Calls.inS Ad3.below _ (fun W _ => (HL.out W).mono fun _ _ h => ⟨h.1, h.2 ▸ Below.refl _ _⟩))))
      refine wpQuiet_nil ?_
      rintro _ ⟨⟨W2, hS2⟩, rfl⟩
      have H2 := Lib.hid hS2
      clear hS2 hne f1 f2 f3
      clear H0 hd
      have hx : ∀ e W, Ad3 w q us ur e W → W.cell? ⟨w.heap.size + 1, 23, none⟩ = some (.int .i64 n) := fun e W h => (HC.out _ _ h).2.2.2.2.1
      by_cases hr : 0 < r ∧ r < 8
      · rw [if_pos hr] at HA
        rw [decide_eq_true hr] at HW
        clear hr
        obtain ⟨k0, k1, k2, k6, k7, k3, k4, k5, r3, g0, g1, ff⟩ := HC.out _ _ H2.out
        simp only at k3 k4 k5
        go_upto_region 5 with (go_at_call 27; (with_reducible refine (HW.out _).mono ?_); rintro x w1 ⟨rfl, rfl⟩)
        have H3 := Lib.hid (H2.out.set 0 (.int .i64 r) (e' := ⟨r, te, m, tl, tc⟩) rfl)
        generalize World.setCell _ _ _ = W3 at H3 ⊢
        clear H2 k0 k1 k2 k6 k7 k3 k4 k5 r3 g0 g1 ff hx
        by_cases hn : n ≤ 0
        · rw [if_pos hn] at HA
          have HE : Hid (A = ⟨r, te, m, tl, tc⟩) := HA
          have hn2 : ¬ 0 < n := by omega
          clear HA
          obtain ⟨k0, k1, k2, k6, k7, k3, k4, k5, r3, g0, g1, ff⟩ := HC.out _ _ H3.out
          simp only at k3 k4 k5
          go_wp2
          obtain ⟨q1, q2⟩ := resDone H3.out.three H3.out.blw (by omega) (tnC ⟨r, te, m, tl, tc⟩) rfl
          exact bodyPost_ret (results_cell Try.results19 rfl (ld_some q1 (ldr_tn _ _ _))) rfl ⟨by rw [HE.out], q2⟩
        · rw [if_neg hn] at HA
          have HE : Hid (A = ⟨r, ev, m, tl, tc⟩) := HA
          have hn2 : 0 < n := by omega
          clear HA hn
          obtain ⟨k0, k1, k2, k6, k7, k3, k4, k5, r3, g0, g1, ff⟩ := HC.out _ _ H3.out
          simp only at k3 k4 k5
          have H4 := Lib.hid (Ad3.drew (H3.out.set 1 (.int .i64 ev) (e' := ⟨r, ev, m, tl, tc⟩) rfl))
          go_upto_region 6 with (fail)
          go_region_with (first
            | (go_at_call 31; (with_reducible refine (HT.out _).mono ?_); rintro x w1 ⟨rfl, rfl⟩)
            | (go_at_call 30; (with_reducible refine (HV.out _).mono ?_); rintro x w1 ⟨rfl, rfl⟩))
          all_goals (
            generalize World.drew _ = W5 at H4 ⊢
            clear H3 k0 k1 k2 k6 k7 k3 k4 k5 r3 g0 g1 ff
            obtain ⟨k0, k1, k2, k6, k7, k3, k4, k5, r3, g0, g1, ff⟩ := HC.out _ _ H4.out
            simp only at k3 k4 k5
            go_wp2
            obtain ⟨q1, q2⟩ := resDone H4.out.three H4.out.blw (by omega) (tnC ⟨r, ev, m, tl, tc⟩) rfl
            exact bodyPost_ret (results_cell Try.results19 rfl (ld_some q1 (ldr_tn _ _ _))) rfl ⟨by rw [HE.out], q2⟩)
      · rw [if_neg hr] at HA
        rw [decide_eq_false hr] at HW
        clear hr
        obtain ⟨k0, k1, k2, k6, k7, k3, k4, k5, r3, g0, g1, ff⟩ := HC.out _ _ H2.out
        simp only at k3 k4 k5
        go_upto_region 5 with (go_at_call 27; (with_reducible refine (HW.out _).mono ?_); rintro x w1 ⟨rfl, rfl⟩)
        have H3 := H2
        clear H2 k0 k1 k2 k6 k7 k3 k4 k5 r3 g0 g1 ff hx
        by_cases hn : n ≤ 0
        · rw [if_pos hn] at HA
          have HE : Hid (A = ⟨tr, te, m, tl, tc⟩) := HA
          have hn2 : ¬ 0 < n := by omega
          clear HA
          obtain ⟨k0, k1, k2, k6, k7, k3, k4, k5, r3, g0, g1, ff⟩ := HC.out _ _ H3.out
          simp only at k3 k4 k5
          go_wp2
          obtain ⟨q1, q2⟩ := resDone H3.out.three H3.out.blw (by omega) (tnC ⟨tr, te, m, tl, tc⟩) rfl
          exact bodyPost_ret (results_cell Try.results19 rfl (ld_some q1 (ldr_tn _ _ _))) rfl ⟨by rw [HE.out], q2⟩
        · rw [if_neg hn] at HA
          have HE : Hid (A = ⟨tr, ev, m, tl, tc⟩) := HA
          have hn2 : 0 < n := by omega
          clear HA hn
          obtain ⟨k0, k1, k2, k6, k7, k3, k4, k5, r3, g0, g1, ff⟩ := HC.out _ _ H3.out
          simp only at k3 k4 k5
          have H4 := Lib.hid (Ad3.drew (H3.out.set 1 (.int .i64 ev) (e' := ⟨tr, ev, m, tl, tc⟩) rfl))
          go_upto_region 6 with (fail)
          go_region_with (first
            | (go_at_call 31; (with_reducible refine (HT.out _).mono ?_); rintro x w1 ⟨rfl, rfl⟩)
            | (go_at_call 30; (with_reducible refine (HV.out _).mono ?_); rintro x w1 ⟨rfl, rfl⟩))
          all_goals (
            generalize World.drew _ = W5 at H4 ⊢
            clear H3 k0 k1 k2 k6 k7 k3 k4 k5 r3 g0 g1 ff
            obtain ⟨k0, k1, k2, k6, k7, k3, k4, k5, r3, g0, g1, ff⟩ := HC.out _ _ H4.out
            simp only at k3 k4 k5
            go_wp2
            obtain ⟨q1, q2⟩ := resDone H4.out.three H4.out.blw (by omega) (tnC ⟨tr, ev, m, tl, tc⟩) rfl
            exact bodyPost_ret (results_cell Try.results19 rfl (ld_some q1 (ldr_tn _ _ _))) rfl ⟨by rw [HE.out], q2⟩)
    · have hd : (ver != L) = true := by simpa using hv
      have HE : Hid (A = ⟨tr, te, m, tl, tc⟩) := Lib.hid (by rw [HA.out, decide_eq_false (fun h => hv h.2)]; rfl)
      clear HA hv
      have f1 : ∀ p : InS (Ad3 w q us ur ⟨tr, te, m, tl, tc⟩), p.W.cell? ⟨w.heap.size + 1, 0, none⟩ = some (.bool v6) := fun p => (HC.out _ _ p.h).1
      have f2 : ∀ p : InS (Ad3 w q us ur ⟨tr, te, m, tl, tc⟩), p.W.cell? ⟨w.heap.size + 1, 1, none⟩ = some (.int .i64 ver) := fun p => (HC.out _ _ p.h).2.1
      have f3 : ∀ p : InS (Ad3 w q us ur ⟨tr, te, m, tl, tc⟩), p.W.cell? ⟨w.heap.size + 1, 2, none⟩ = some (.int .i64 1) := fun p => (HC.out _ _ p.h).2.2.1
      have hne : Nonempty (InS (Ad3 w q us ur ⟨tr, te, m, tl, tc⟩)) := ⟨⟨_, H0.out⟩⟩
      refine wp_region_inS (Ad3 w q us ur ⟨tr, te, m, tl, tc⟩) (by kernel_rfl) (by kernel_rfl) (Ad3.below _ _ H0.out (bdrewN (Below.refl _ _) 1)) ?_
      repeat (go_big_quiet_step (first
        | (go_at_call 29; with_reducible exact Calls.inS Ad3.below _ (fun W _ => (HL.out W).mono fun _ _ h => ⟨h.1, h.2 ▸ Below.refl _ _⟩))))
      refine wpQuiet_nil ?_
      rintro _ ⟨⟨W2, hS2⟩, rfl⟩
      have H2 := Lib.hid hS2
      clear hS2 hne f1 f2 f3
      clear H0 hd
      obtain ⟨k0, k1, k2, k6, k7, k3, k4, k5, r3, g0, g1, ff⟩ := HC.out _ _ H2.out
      simp only at k3 k4 k5
      go_wp2
      obtain ⟨q1, q2⟩ := resDone H2.out.three H2.out.blw (by omega) (tnC ⟨tr, te, m, tl, tc⟩) rfl
      exact bodyPost_ret (results_cell Try.results19 rfl (ld_some q1 (ldr_tn _ _ _))) rfl ⟨by rw [HE.out], q2⟩
  · have hd : (kind != 1) = true := by simpa using hk
    have HE : Hid (A = ⟨tr, te, m, tl, tc⟩) := Lib.hid (by rw [HA.out, decide_eq_false (fun h => hk h.1)]; rfl)
    clear HA hk
    have f1 : ∀ p : InS (Ad3 w q us ur ⟨tr, te, m, tl, tc⟩), p.W.cell? ⟨w.heap.size + 1, 0, none⟩ = some (.bool v6) := fun p => (HC.out _ _ p.h).1
    have f2 : ∀ p : InS (Ad3 w q us ur ⟨tr, te, m, tl, tc⟩), p.W.cell? ⟨w.heap.size + 1, 1, none⟩ = some (.int .i64 ver) := fun p => (HC.out _ _ p.h).2.1
    have f3 : ∀ p : InS (Ad3 w q us ur ⟨tr, te, m, tl, tc⟩), p.W.cell? ⟨w.heap.size + 1, 2, none⟩ = some (.int .i64 kind) := fun p => (HC.out _ _ p.h).2.2.1
    have hne : Nonempty (InS (Ad3 w q us ur ⟨tr, te, m, tl, tc⟩)) := ⟨⟨_, H0.out⟩⟩
    refine wp_region_inS (Ad3 w q us ur ⟨tr, te, m, tl, tc⟩) (by kernel_rfl) (by kernel_rfl) (Ad3.below _ _ H0.out (bdrewN (Below.refl _ _) 1)) ?_
    repeat (go_big_quiet_step (first
      | (go_at_call 29; with_reducible exact Calls.inS Ad3.below _ (fun W _ => (HL.out W).mono fun _ _ h => ⟨h.1, h.2 ▸ Below.refl _ _⟩))))
    refine wpQuiet_nil ?_
    rintro _ ⟨⟨W2, hS2⟩, rfl⟩
    have H2 := Lib.hid hS2
    clear hS2 hne f1 f2 f3
    clear H0 hd
    obtain ⟨k0, k1, k2, k6, k7, k3, k4, k5, r3, g0, g1, ff⟩ := HC.out _ _ H2.out
    simp only at k3 k4 k5
    go_wp2
    obtain ⟨q1, q2⟩ := resDone H2.out.three H2.out.blw (by omega) (tnC ⟨tr, te, m, tl, tc⟩) rfl
    exact bodyPost_ret (results_cell Try.results19 rfl (ld_some q1 (ldr_tn _ _ _))) rfl ⟨by rw [HE.out], q2⟩
end Go.Proofs.Ytlkihfmojnghhaa
