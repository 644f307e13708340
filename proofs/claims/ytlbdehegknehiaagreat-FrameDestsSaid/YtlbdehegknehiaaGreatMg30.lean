/-
  Texts joined: FrC, FrS, FrG.
-/
import Derived.Test.YtlbdehegknehiaaGreatMg00
import Derived.Test.YtlbdehegknehiaaGreatMg20
import Derived.Test.YtlbdehegknehiaaGreatIgD
import Derived.Test.YtlbdehegknehiaaGreatMgD
import Derived.Test.YtlbdehegknehiaaGreatMg25
import Derived.Test.YtlbdehegknehiaaGreatMg28
/- A part of the proof. -/
namespace Go.Proofs.YtlbdehegknehiaaGreat
set_option maxRecDepth 100000
set_option maxHeartbeats 4000000
open Go.RowKit
set_option linter.unusedVariables false
set_option linter.unusedSimpArgs false
attribute [local go_sem ↓] ld_addr st_addr bld_addr ld_tk st_tk bld_tk ld_sd st_sd bld_sd ld_pk st_pk bld_pk
attribute [local go_sem] ldr_addr str_addr str_addr_at ldr_tk str_tk str_tk_at ldr_sd str_sd ldr_pk str_pk row?_drewN_eq row?_drew_eq
theorem bld_a0 (w : World) : (aggBuild 24 #[]).run Tryz.prog w = .ok (.agg (adC zeroA).toArray) w := bld_run _ _ _ (by kernel_rfl) _
theorem TkAt.view {W : World} {b : Nat} {t : TK} {us ur : Value} (h : TkAt W b t us ur) : row? W b 0 26 = some (tkC t us ur) ∧ W.cell? ⟨b, 0, none⟩ = some (.bool t.v6) ∧ W.cell? ⟨b, 1, none⟩ = some (.int .i64 t.ver) ∧ W.cell? ⟨b, 2, none⟩ = some (.int .i64 t.kind) ∧ row? W b 4 17 = some (adC t.g) := ⟨h.row, h.v6, h.ver, h.kind, h.rg⟩
theorem Bx.drewN {w W : World} {c d : Array Value} {T U : TypeId} (h : Bx w W c T d U) (n : Nat) : Bx w (W.drewN n) c T d U := ⟨h.one, h.two, bdrewN h.blw n⟩
theorem dest_any (t : TK) (us ur : Value) (w : World) (ho : t.ok) (hs : Ads w us t.src) (hr : Rcs w ur t.rcs) (hL : t.rcs.length ≤ 1000) : Calls Tryz.prog 18 #[.agg (tkC t us ur).toArray] w fun x w' => x = .returned (.tuple #[.agg (adC (destV t)).toArray, .bool (gdT t)]) ∧ Below w.heap.size w w' := by
  have H0 := zh (Bx.made w (tkC t us ur).toArray 28 (adC zeroA).toArray 24)
  have H8 := zh (fun W (h : Below w.heap.size w W) => good8_any t us ur W ho (hs.below h) (hr.below h) hL)
  have H9 := zh (fun W (h : Below w.heap.size w W) => good9_any t us ur W ho (hs.below h) (hr.below h) hL)
  have HZ : Hid (∀ W, Calls Tryz.prog 58 #[.agg (adC t.g).toArray] W fun e w' => e = .returned (.bool (zerA t.g)) ∧ Below W.heap.size W w') := zh (fun W => zero_any t.g.1 t.g.2 ho.1 W)
  have HN1 : Hid (∀ W, Calls Tryz.prog 59 #[.bool t.v6, .int .u8 1] W fun x w' => x = .returned (.agg (adC (onL t.v6 1)).toArray) ∧ Below W.heap.size W w') := zh fun W => onL_any t.v6 1 W
  have HN22 : Hid (∀ W, Calls Tryz.prog 59 #[.bool t.v6, .int .u8 22] W fun x w' => x = .returned (.agg (adC (onL t.v6 22)).toArray) ∧ Below W.heap.size W w') := zh fun W => onL_any t.v6 22 W
  have HN2 : Hid (∀ W, Calls Tryz.prog 59 #[.bool t.v6, .int .u8 2] W fun x w' => x = .returned (.agg (adC (onL t.v6 2)).toArray) ∧ Below W.heap.size W w') := zh fun W => onL_any t.v6 2 W
  have HLV : Hid (∀ W, Calls Tryz.prog 60 #[.bool t.v6] W fun x w' => x = .returned (.int .i64 (lastN t.v6)) ∧ w' = W) := zh fun W => (lastV_any t.v6 W).mono (fun x w' h => ⟨h.1, h.2.symm⟩)
  have HV := zh (fun W (h : Bx w W (tkC t us ur).toArray 28 (adC zeroA).toArray 24) => TkAt.view (⟨h.one, ho.1⟩ : TkAt W w.heap.size t us ur))
  have HOG := zh ho.1
  have hb0 := bld_a0
  have k0 := fok_addr zeroA.1 zeroA.2 rfl
  have k1 := fok_addr (onL t.v6 1).1 (onL t.v6 1).2 (onL_ok _ _)
  have k22 := fok_addr (onL t.v6 22).1 (onL t.v6 22).2 (onL_ok _ _)
  have k2 := fok_addr (onL t.v6 2).1 (onL t.v6 2).2 (onL_ok _ _)
  have kg := fok_addr t.g.1 t.g.2 ho.1
  rw [show addrC zeroA.1 zeroA.2 = adC zeroA from rfl] at k0
  rw [show addrC (onL t.v6 1).1 (onL t.v6 1).2 = adC (onL t.v6 1) from rfl] at k1
  rw [show addrC (onL t.v6 22).1 (onL t.v6 22).2 = adC (onL t.v6 22) from rfl] at k22
  rw [show addrC (onL t.v6 2).1 (onL t.v6 2).2 = adC (onL t.v6 2) from rfl] at k2
  rw [show addrC t.g.1 t.g.2 = adC t.g from rfl] at kg
  obtain ⟨R, hR⟩ : ∃ R, R = gdT t := ⟨_, rfl⟩
  obtain ⟨A, hA⟩ : ∃ A, A = destV t := ⟨_, rfl⟩
  rw [← hR, ← hA]
  unfold destV destT at hA
  rw [← hR] at hA
  unfold gdT at hR
  have HF := zh (zeroA_ok)
  have HO1 := zh (onL_ok t.v6 1)
  have HO22 := zh (onL_ok t.v6 22)
  have HO2 := zh (onL_ok t.v6 2)
  generalize good8 t = g8 at H8 hR
  generalize good9 t = g9 at H9 hR
  generalize zerA t.g = z at HZ hA
  generalize onL t.v6 1 = N1 at HN1 hA k1 HO1
  generalize onL t.v6 22 = N22 at HN22 hA k22 HO22
  generalize onL t.v6 2 = N2 at HN2 hA k2 HO2
  generalize lastN t.v6 = n at HLV hA
  have HR := zh hR
  have HA := zh hA
  clear hR hA ho hs hr hL
  generalize t.kind = kind at HV HA
  generalize t.ver = ver at HV HA
  generalize t.v6 = v6 at HV HN1 HN2 HN22 HLV
  generalize t.g = g at HV HA HZ kg HOG
  generalize tkC t us ur = L at H0 HV H8 H9 ⊢
  rw [zeroA_cells] at H0
  go_enter Tryz.func18, Tryz.ntmps18
  go_upto_region 1 with (fail)
  generalize (w.alloc (.cells L.toArray 28)).alloc _ = W at H0 ⊢
  rw [← zeroA_cells] at H0
  obtain ⟨c0, c1, c2, c3, c4⟩ := HV.out _ H0.out
  have hc : (g8 = false ∧ g9 = false) ∨ (g8 = true) ∨ (g8 = false ∧ g9 = true) := by cases g8 <;> cases g9 <;> simp
  rcases hc with ⟨rfl, rfl⟩ | rfl | ⟨rfl, rfl⟩
  · obtain rfl : R = false := HR.out
    obtain rfl : A = zeroA := by rw [HA.out]; rfl
    go_upto_region 2 with (first
      | (go_at_call 56; (with_reducible refine (H8.out _ H0.out.blw).mono ?_); rintro x wn ⟨rfl, hb⟩; replace H0 := zh (H0.out.below hb); clear hb c0 c1 c2 c3 c4; obtain ⟨c0, c1, c2, c3, c4⟩ := HV.out _ H0.out)
      | (go_at_call 57; (with_reducible refine (H9.out _ H0.out.blw).mono ?_); rintro x wn ⟨rfl, hb⟩; replace H0 := zh (H0.out.below hb); clear hb c0 c1 c2 c3 c4; obtain ⟨c0, c1, c2, c3, c4⟩ := HV.out _ H0.out))
    have hfr := H0.out.free 17 (Nat.le_of_eq rfl)
    go_wp2
    obtain ⟨q1, q2⟩ := H0.out.done (adC zeroA) rfl
    exact bodyPost_ret (results_cell2 Tryz.results18 rfl (ld_some q1 (ldr_addr _ _ _))) rfl ⟨rfl, q2⟩
  all_goals (
    obtain rfl : R = true := by rw [HR.out]; rfl
    go_upto_region 3 with (first
      | (go_at_call 56; (with_reducible refine (H8.out _ H0.out.blw).mono ?_); rintro x wn ⟨rfl, hb⟩; replace H0 := zh (H0.out.below hb); clear hb c0 c1 c2 c3 c4; obtain ⟨c0, c1, c2, c3, c4⟩ := HV.out _ H0.out)
      | (go_at_call 57; (with_reducible refine (H9.out _ H0.out.blw).mono ?_); rintro x wn ⟨rfl, hb⟩; replace H0 := zh (H0.out.below hb); clear hb c0 c1 c2 c3 c4; obtain ⟨c0, c1, c2, c3, c4⟩ := HV.out _ H0.out))
    by_cases e1 : kind = 1
    · subst e1
      cases z with
      | true =>
        obtain rfl : A = N1 := by rw [HA.out]; simp
        go_wp2_with (first
              | (go_at_call 58; (with_reducible refine (HZ.out _).mono ?_); rintro x wn ⟨rfl, hb⟩; replace H0 := zh (H0.out.below hb); clear hb c0 c1 c2 c3 c4; obtain ⟨c0, c1, c2, c3, c4⟩ := HV.out _ H0.out; have hfr := fun d => (H0.out.drewN d).free 17 (Nat.le_of_eq rfl))
              | (go_at_call 59; (with_reducible refine (HN1.out _).mono ?_); rintro x wn ⟨rfl, hb⟩; replace H0 := zh (H0.out.below hb); clear hb c0 c1 c2 c3 c4; obtain ⟨c0, c1, c2, c3, c4⟩ := HV.out _ H0.out; have hfr := H0.out.free 17 (Nat.le_of_eq rfl)))
        exact bodyPost_ret (results_cell2 Tryz.results18 rfl (ld_some (H0.out.done (adC A) (adC_length HO1.out)).1 (ldr_addr _ _ _))) rfl ⟨rfl, (H0.out.done (adC A) (adC_length HO1.out)).2⟩
      | false =>
        obtain rfl : A = g := by rw [HA.out]; simp
        have hfr := fun d => (H0.out.drewN d).free 17 (Nat.le_of_eq rfl)
        go_upto_region 5 with (first
              | (go_at_call 58; (with_reducible refine (HZ.out _).mono ?_); rintro x wn ⟨rfl, hb⟩; replace H0 := zh (H0.out.below hb); clear hb c0 c1 c2 c3 c4; obtain ⟨c0, c1, c2, c3, c4⟩ := HV.out _ H0.out; have hfr := fun d => (H0.out.drewN d).free 17 (Nat.le_of_eq rfl))
              | (fail))
        go_quiet ((go_at_call 60; exact Calls.quiet_of_same (HLV.out _)))
        go_wp2
        exact bodyPost_ret (results_cell2 Tryz.results18 rfl (ld_some ((H0.out.drewN _).done (adC A) (adC_length HOG.out)).1 (ldr_addr _ _ _))) rfl ⟨rfl, ((H0.out.drewN _).done (adC A) (adC_length HOG.out)).2⟩
    · have t1 : (kind == 1) = false := by simpa using e1
      by_cases e2 : kind = 2
      · subst e2
        by_cases ev : ver = n
        · have tv : (ver == n) = true := by simpa using ev
          obtain rfl : A = N22 := by rw [HA.out]; simp [ev]
          have hfr := fun d => (H0.out.drewN d).free 17 (Nat.le_of_eq rfl)
          go_upto_region 5 with (first
              | (go_at_call 58; (with_reducible refine (HZ.out _).mono ?_); rintro x wn ⟨rfl, hb⟩; replace H0 := zh (H0.out.below hb); clear hb c0 c1 c2 c3 c4; obtain ⟨c0, c1, c2, c3, c4⟩ := HV.out _ H0.out; have hfr := fun d => (H0.out.drewN d).free 17 (Nat.le_of_eq rfl))
              | (fail))
          go_quiet ((go_at_call 60; exact Calls.quiet_of_same (HLV.out _)))
          go_wp2_with (first
              | (go_at_call 59; (with_reducible refine (HN22.out _).mono ?_); rintro x wn ⟨rfl, hb⟩; replace H0 := zh ((H0.out.drewN _).below hb); clear hb c0 c1 c2 c3 c4; obtain ⟨c0, c1, c2, c3, c4⟩ := HV.out _ H0.out; have hfr := H0.out.free 17 (Nat.le_of_eq rfl)))
          exact bodyPost_ret (results_cell2 Tryz.results18 rfl (ld_some (H0.out.done (adC A) (adC_length HO22.out)).1 (ldr_addr _ _ _))) rfl ⟨rfl, (H0.out.done (adC A) (adC_length HO22.out)).2⟩
        · have tv : (ver == n) = false := by simpa using ev
          obtain rfl : A = g := by rw [HA.out]; simp [ev]
          have hfr := fun d => (H0.out.drewN d).free 17 (Nat.le_of_eq rfl)
          go_upto_region 5 with (first
              | (go_at_call 58; (with_reducible refine (HZ.out _).mono ?_); rintro x wn ⟨rfl, hb⟩; replace H0 := zh (H0.out.below hb); clear hb c0 c1 c2 c3 c4; obtain ⟨c0, c1, c2, c3, c4⟩ := HV.out _ H0.out; have hfr := fun d => (H0.out.drewN d).free 17 (Nat.le_of_eq rfl))
              | (fail))
          go_quiet ((go_at_call 60; exact Calls.quiet_of_same (HLV.out _)))
          go_wp2
          exact bodyPost_ret (results_cell2 Tryz.results18 rfl (ld_some ((H0.out.drewN _).done (adC A) (adC_length HOG.out)).1 (ldr_addr _ _ _))) rfl ⟨rfl, ((H0.out.drewN _).done (adC A) (adC_length HOG.out)).2⟩
      · have t2 : (kind == 2) = false := by simpa using e2
        by_cases e3 : kind = 3
        · subst e3
          obtain rfl : A = N2 := by rw [HA.out]; simp
          have hfr := fun d => (H0.out.drewN d).free 17 (Nat.le_of_eq rfl)
          go_upto_region 5 with (first
              | (go_at_call 58; (with_reducible refine (HZ.out _).mono ?_); rintro x wn ⟨rfl, hb⟩; replace H0 := zh (H0.out.below hb); clear hb c0 c1 c2 c3 c4; obtain ⟨c0, c1, c2, c3, c4⟩ := HV.out _ H0.out; have hfr := fun d => (H0.out.drewN d).free 17 (Nat.le_of_eq rfl))
              | (fail))
          go_quiet ((go_at_call 60; exact Calls.quiet_of_same (HLV.out _)))
          go_wp2_with (first
              | (go_at_call 59; (with_reducible refine (HN2.out _).mono ?_); rintro x wn ⟨rfl, hb⟩; replace H0 := zh ((H0.out.drewN _).below hb); clear hb c0 c1 c2 c3 c4; obtain ⟨c0, c1, c2, c3, c4⟩ := HV.out _ H0.out; have hfr := H0.out.free 17 (Nat.le_of_eq rfl)))
          exact bodyPost_ret (results_cell2 Tryz.results18 rfl (ld_some (H0.out.done (adC A) (adC_length HO2.out)).1 (ldr_addr _ _ _))) rfl ⟨rfl, (H0.out.done (adC A) (adC_length HO2.out)).2⟩
        · have t3 : (kind == 3) = false := by simpa using e3
          obtain rfl : A = g := by rw [HA.out]; simp [e1, e2, e3]
          have hfr := fun d => (H0.out.drewN d).free 17 (Nat.le_of_eq rfl)
          go_upto_region 5 with (first
              | (go_at_call 58; (with_reducible refine (HZ.out _).mono ?_); rintro x wn ⟨rfl, hb⟩; replace H0 := zh (H0.out.below hb); clear hb c0 c1 c2 c3 c4; obtain ⟨c0, c1, c2, c3, c4⟩ := HV.out _ H0.out; have hfr := fun d => (H0.out.drewN d).free 17 (Nat.le_of_eq rfl))
              | (fail))
          go_quiet ((go_at_call 60; exact Calls.quiet_of_same (HLV.out _)))
          go_wp2
          exact bodyPost_ret (results_cell2 Tryz.results18 rfl (ld_some ((H0.out.drewN _).done (adC A) (adC_length HOG.out)).1 (ldr_addr _ _ _))) rfl ⟨rfl, ((H0.out.drewN _).done (adC A) (adC_length HOG.out)).2⟩
  )
end Go.Proofs.YtlbdehegknehiaaGreat

/- A part of the proof. -/
namespace Go.Proofs.YtlbdehegknehiaaGreat
set_option maxRecDepth 100000
set_option maxHeartbeats 4000000
open Go.RowKit
set_option linter.unusedVariables false
set_option linter.unusedSimpArgs false
attribute [local go_sem ↓] ld_addr st_addr bld_addr ld_tk st_tk bld_tk ld_sd st_sd bld_sd
attribute [local go_sem] ldr_addr str_addr str_addr_at ldr_tk str_tk ldr_sd str_sd row?_drewN_eq row?_drew_eq
theorem str_eq_list (a b : List UInt8) : ((Str a).toList == (Str b).toList) = decide (a = b) := by
  rw [Bool.eq_iff_iff]; simp [Str]
theorem sameF_any (ca cb : List Value) (a b : SD) (w : World) (ha : Sds w ca a) (hb : Sds w cb b) : Calls Tryz.prog 10 #[.agg ca.toArray, .agg cb.toArray] w fun x w' => x = .returned (.bool (decide (a = b))) ∧ Below w.heap.size w w' := by
  obtain ⟨⟨oa1, oa2, oa3⟩, la, ua, va, rfl, sa, ra⟩ := ha
  obtain ⟨⟨ob1, ob2, ob3⟩, lb, ub, vb, rfl, sb, rb⟩ := hb
  have H0 := zh (Bx.made w (sdC a ua va).toArray 30 (sdC b ub vb).toArray 30)
  have HT := zh (fun W (h : Below w.heap.size w W) => same8_any (tkC a.tk ua va) (tkC b.tk ub vb) a.tk b.tk W ⟨oa3.1, _, _, rfl, sa.below h, ra.below h⟩ ⟨ob3.1, _, _, rfl, sb.below h, rb.below h⟩)
  have HV := zh (fun W (h : Bx w W (sdC a ua va).toArray 30 (sdC b ub vb).toArray 30) => And.intro (SV.of h.one oa1 oa2 oa3.1) (SV.of h.two ob1 ob2 ob3.1))
  have q1 := fun w0 => eq_ad a.fr b.fr oa1 ob1 w0
  have q2 := fun w0 => eq_ad a.tw b.tw oa2 ob2 w0
  have q7 := str_eq_list a.da b.da
  obtain ⟨R, hR⟩ : ∃ R, R = decide (a = b) := ⟨_, rfl⟩
  rw [← hR]
  have HDD := zh hR
  clear hR oa1 oa2 oa3 ob1 ob2 ob3 la lb sa sb ra rb
  go_enter Tryz.func10, Tryz.ntmps10
  go_upto_region 1 with (fail)
  generalize (w.alloc (.cells (sdC a ua va).toArray 30)).alloc (.cells (sdC b ub vb).toArray 30) = W at H0 ⊢
  obtain ⟨⟨⟨-, a1, a2, a3⟩, ⟨a4, a5, -⟩, -, a6, a7, a8⟩, ⟨-, b1, b2, b3⟩, ⟨b4, b5, -⟩, -, b6, b7, b8⟩ := HV.out _ H0.out
  by_cases e0 : a.kind = b.kind
  rotate_left
  · have HF := zh (show R = false by rw [HDD.out]; exact decide_eq_false (fun h => e0 (by rw [h])))
    have t0 : (a.kind == b.kind) = false := by simpa using e0
    go_wp2
    go_ret
    exact ⟨ret_boolF (by rw [HF.out]), H0.out.blw⟩
  have t0 : (a.kind == b.kind) = true := by simpa using e0
  have E0 := zh e0; clear e0
  by_cases e1 : a.vl = b.vl
  rotate_left
  · have HF := zh (show R = false by rw [HDD.out]; exact decide_eq_false (fun h => e1 (by rw [h])))
    have t1 : (a.vl == b.vl) = false := by simpa using e1
    go_wp2
    go_ret
    exact ⟨ret_boolF (by rw [HF.out]), H0.out.blw⟩
  have t1 : (a.vl == b.vl) = true := by simpa using e1
  have E1 := zh e1; clear e1
  by_cases e2 : a.fr = b.fr
  rotate_left
  · have HF := zh (show R = false by rw [HDD.out]; exact decide_eq_false (fun h => e2 (by rw [h])))
    rw [decide_eq_false e2] at q1
    go_wp2
    go_ret
    exact ⟨ret_boolF (by rw [HF.out]), H0.out.blw⟩
  rw [decide_eq_true e2] at q1
  have E2 := zh e2; clear e2
  by_cases e3 : a.tw = b.tw
  rotate_left
  · have HF := zh (show R = false by rw [HDD.out]; exact decide_eq_false (fun h => e3 (by rw [h])))
    rw [decide_eq_false e3] at q2
    go_wp2
    go_ret
    exact ⟨ret_boolF (by rw [HF.out]), H0.out.blw⟩
  rw [decide_eq_true e3] at q2
  have E3 := zh e3; clear e3
  by_cases e4 : a.tk = b.tk
  rotate_left
  · have HF := zh (show R = false by rw [HDD.out]; exact decide_eq_false (fun h => e4 (by rw [h])))
    rw [decide_eq_false e4] at HT
    go_wp2_with (go_at_call 35; (with_reducible refine (HT.out _ H0.out.blw).mono ?_); rintro x wn ⟨rfl, hb⟩; replace H0 := zh (H0.out.below hb); clear hb a1 a2 a3 a4 a5 a6 a7 a8 b1 b2 b3 b4 b5 b6 b7 b8)
    go_ret
    exact ⟨ret_boolF (by rw [HF.out]), H0.out.blw⟩
  rw [decide_eq_true e4] at HT
  have E4 := zh e4; clear e4
  by_cases e5 : a.pro = b.pro
  rotate_left
  · have HF := zh (show R = false by rw [HDD.out]; exact decide_eq_false (fun h => e5 (by rw [h])))
    have t5 : (a.pro == b.pro) = false := by simpa using e5
    go_wp2_with (go_at_call 35; (with_reducible refine (HT.out _ H0.out.blw).mono ?_); rintro x wn ⟨rfl, hb⟩; replace H0 := zh (H0.out.below hb); clear hb a1 a2 a3 a4 a5 a6 a7 a8 b1 b2 b3 b4 b5 b6 b7 b8; obtain ⟨⟨⟨-, a1, a2, a3⟩, ⟨a4, a5, -⟩, -, a6, a7, a8⟩, ⟨-, b1, b2, b3⟩, ⟨b4, b5, -⟩, -, b6, b7, b8⟩ := HV.out _ H0.out)
    go_ret
    exact ⟨ret_boolF (by rw [HF.out]), H0.out.blw⟩
  have t5 : (a.pro == b.pro) = true := by simpa using e5
  have E5 := zh e5; clear e5
  by_cases e6 : a.hop = b.hop
  rotate_left
  · have HF := zh (show R = false by rw [HDD.out]; exact decide_eq_false (fun h => e6 (by rw [h])))
    have t6 : (a.hop == b.hop) = false := by simpa using e6
    go_wp2_with (go_at_call 35; (with_reducible refine (HT.out _ H0.out.blw).mono ?_); rintro x wn ⟨rfl, hb⟩; replace H0 := zh (H0.out.below hb); clear hb a1 a2 a3 a4 a5 a6 a7 a8 b1 b2 b3 b4 b5 b6 b7 b8; obtain ⟨⟨⟨-, a1, a2, a3⟩, ⟨a4, a5, -⟩, -, a6, a7, a8⟩, ⟨-, b1, b2, b3⟩, ⟨b4, b5, -⟩, -, b6, b7, b8⟩ := HV.out _ H0.out)
    go_ret
    exact ⟨ret_boolF (by rw [HF.out]), H0.out.blw⟩
  have t6 : (a.hop == b.hop) = true := by simpa using e6
  have E6 := zh e6; clear e6
  by_cases e7 : a.da = b.da
  rotate_left
  · have HF := zh (show R = false by rw [HDD.out]; exact decide_eq_false (fun h => e7 (by rw [h])))
    rw [decide_eq_false e7] at q7
    go_wp2_with (go_at_call 35; (with_reducible refine (HT.out _ H0.out.blw).mono ?_); rintro x wn ⟨rfl, hb⟩; replace H0 := zh (H0.out.below hb); clear hb a1 a2 a3 a4 a5 a6 a7 a8 b1 b2 b3 b4 b5 b6 b7 b8; obtain ⟨⟨⟨-, a1, a2, a3⟩, ⟨a4, a5, -⟩, -, a6, a7, a8⟩, ⟨-, b1, b2, b3⟩, ⟨b4, b5, -⟩, -, b6, b7, b8⟩ := HV.out _ H0.out)
    go_ret
    exact ⟨ret_boolF (by rw [HF.out]), H0.out.blw⟩
  rw [decide_eq_true e7] at q7
  have E7 := zh e7; clear e7
  have HF := zh (show R = true by rw [HDD.out]; exact decide_eq_true (by have x0 := E0.out; have x1 := E1.out; have x2 := E2.out; have x3 := E3.out; have x4 := E4.out; have x5 := E5.out; have x6 := E6.out; have x7 := E7.out; cases a; cases b; simp only at x0 x1 x2 x3 x4 x5 x6 x7; subst x0 x1 x2 x3 x4 x5 x6 x7; rfl))
  go_wp2_with (go_at_call 35; (with_reducible refine (HT.out _ H0.out.blw).mono ?_); rintro x wn ⟨rfl, hb⟩; replace H0 := zh (H0.out.below hb); clear hb a1 a2 a3 a4 a5 a6 a7 a8 b1 b2 b3 b4 b5 b6 b7 b8; obtain ⟨⟨⟨-, a1, a2, a3⟩, ⟨a4, a5, -⟩, -, a6, a7, a8⟩, ⟨-, b1, b2, b3⟩, ⟨b4, b5, -⟩, -, b6, b7, b8⟩ := HV.out _ H0.out)
  go_ret
  exact ⟨ret_boolF (by rw [HF.out]), H0.out.blw⟩
end Go.Proofs.YtlbdehegknehiaaGreat

/- A part of the proof. -/
namespace Go.Proofs.YtlbdehegknehiaaGreat
set_option maxRecDepth 100000
set_option maxHeartbeats 4000000
open Go.RowKit
set_option linter.unusedVariables false
set_option linter.unusedSimpArgs false
attribute [local go_sem ↓] ld_addr st_addr bld_addr ld_tk st_tk bld_tk ld_sd st_sd bld_sd ld_pk st_pk bld_pk
attribute [local go_sem] ldr_addr str_addr ldr_tk str_tk str_tk_at ldr_sd str_sd ldr_pk str_pk row?_drewN_eq row?_drew_eq
structure Bo2 (w W : World) (m : Nat) (c : Array Value) (T : TypeId) (L : List Value) (U : TypeId) : Prop where
  one : ObjAt W w.heap.size c T
  two : ObjAt W m L.toArray U
  blw : Below w.heap.size w W
  lt : w.heap.size < m
theorem Bo2.below {w W W' : World} {m : Nat} {c : Array Value} {T U : TypeId} {L : List Value} (h : Bo2 w W m c T L U) (hb : Below W.heap.size W W') : Bo2 w W' m c T L U := ⟨obj_keep h.one hb, obj_keep h.two hb, bstep h.blw hb, h.lt⟩
theorem Bo2.made {w W : World} {c Z : Array Value} {T U : TypeId} {L : List Value} (h : ObjAt W w.heap.size c T) (hb : Below w.heap.size w W) (hl : L.length = Z.size) (h1 : ∀ v ∈ L, v.oneCell' = true) : Bo2 w (aggW (W.alloc (.cells Z U)) W.heap.size L) W.heap.size c T L U := by
  have hlt := h.lt
  refine ⟨aggW_other (h.alloc _) _ (by omega), ?_, aggW_below (hb.alloc (by omega) _) (by omega) _, hlt⟩
  exact aggW_obj (L := Z.toList) (by simpa using ObjAt.made W Z U) (by simpa using hl) h1
theorem obj_free_at {w : World} {b : Nat} {cs : Array Value} {t : TypeId} (h : ObjAt w b cs t) (o n : Nat) (hn : o + n ≤ cs.size) : free? w b o n = true :=
  free_of fun j hj => ⟨by rw [h.cell (o + j), Array.getElem?_eq_getElem (by omega)]; rfl, h.free (o + j)⟩
theorem Bo2.free {w W : World} {m : Nat} {c : Array Value} {T U : TypeId} {L : List Value} (h : Bo2 w W m c T L U) (o n : Nat) (hn : o + n ≤ L.length) : free? W m o n = true := obj_free_at h.two o n (by simpa using hn)
theorem Bo2.over {w W : World} {m : Nat} {c : Array Value} {T U : TypeId} {L : List Value} (h : Bo2 w W m c T L U) (o : Nat) (cs : List Value) (hf : o + cs.length ≤ L.length) (h1 : ∀ v ∈ cs, v.oneCell' = true) : Bo2 w (aggO W m o cs) m c T (over L o cs) U := by
  have hlt := h.lt
  exact ⟨aggO_other h.one _ (by omega), aggO_obj h.two hf h1, aggO_below h.blw (by omega) _ _, h.lt⟩
theorem Bo2.set {w W : World} {m : Nat} {c : Array Value} {T U : TypeId} {L : List Value} (h : Bo2 w W m c T L U) (j : Nat) (v : Value) : Bo2 w (W.setCell ⟨m, j, none⟩ v) m c T (L.set j v) U := by
  have hlt := h.lt
  refine ⟨h.one.other _ _ (by simp; omega), ?_, h.blw.setCell (p := ⟨m, j, none⟩) (by simp; omega) v, h.lt⟩
  have := h.two.set j v
  rwa [zsA] at this
theorem Bo2.drew {w W : World} {m : Nat} {c : Array Value} {T U : TypeId} {L : List Value} (h : Bo2 w W m c T L U) : Bo2 w W.drew m c T L U := ⟨h.one, h.two, (bdrewN h.blw 1 :), h.lt⟩
theorem fmade (W : World) (Z : Array Value) (U : TypeId) (n : Nat) (h : n = Z.size) : free? (W.alloc (.cells Z U)) W.heap.size 0 n = true := free_made W Z U n (Nat.le_of_eq h)
theorem Bo2.drewN {w W : World} {m : Nat} {c : Array Value} {T U : TypeId} {L : List Value} (h : Bo2 w W m c T L U) (n : Nat) : Bo2 w (W.drewN n) m c T L U := ⟨h.one, h.two, bdrewN h.blw n, h.lt⟩
theorem goodTk_any (s : SD) (us ur : Value) (w : World) (ho : s.ok) (hs : Ads w us s.tk.src) (hr : Rcs w ur s.tk.rcs) (hL : s.tk.rcs.length ≤ 1000) : Calls Tryz.prog 26 #[.agg (sdC s us ur).toArray] w fun x w' => x = .returned (.bool (goodTk s)) ∧ Below w.heap.size w w' := by
  have H0 := zh (ObjAt.made w (sdC s us ur).toArray 30)
  have HB := zh (bbox w (.cells (sdC s us ur).toArray 30))
  have HD := zh (fun W (h : Below w.heap.size w W) => dest_any s.tk us ur W ho.2.2 (hs.below h) (hr.below h) hL)
  have HM := zh (fun W => may_any s.fr ho.1 s.tk.kind W)
  have HV := zh (fun W (h : ObjAt W w.heap.size (sdC s us ur).toArray 30) => SV.of h ho.1 ho.2.1 ho.2.2.1)
  have hA := destV_ok ho.2.2.1
  have hq := fun w0 => eq_ad s.tw (destV s.tk) ho.2.1 hA w0
  have hfm := fun W => fmade W zz17 24 17 rfl
  have hok := fok_addr (destV s.tk).1 (destV s.tk).2 hA
  rw [show addrC (destV s.tk).1 (destV s.tk).2 = adC (destV s.tk) from rfl] at hok
  have HMD := zh (fun W (h0 : ObjAt W w.heap.size (sdC s us ur).toArray 30) (hb : Below w.heap.size w W) => Bo2.made (Z := zz17) (U := 24) (L := adC (destV s.tk)) h0 hb (adC_length hA) (addrC_one _ _))
  have HR2 := zh (fun W m (h : ObjAt W m (adC (destV s.tk)).toArray 24) => (obj_re h (A := []) (M := adC (destV s.tk)) (C := []) (by simp) rfl (adC_length hA) : row? W m 0 17 = some (adC (destV s.tk))))
  obtain ⟨R, hR⟩ : ∃ R, R = goodTk s := ⟨_, rfl⟩
  rw [← hR]
  unfold goodTk at hR
  generalize gdT s.tk = g at HD hR
  generalize destV s.tk = A at HD hR hq hok HMD HR2
  generalize mayB s.fr s.tk.kind = mb at HM hR
  have HR := zh hR
  clear hR ho hs hr hL hA
  go_enter Tryz.func26, Tryz.ntmps26
  go_upto_region 1 with (fail)
  generalize w.alloc (.cells (sdC s us ur).toArray 30) = W at H0 HB ⊢
  obtain ⟨⟨-, r1, r2, r3⟩, ⟨-, -, a2, a3⟩, ⟨a4, a5, a6⟩, -⟩ := HV.out _ H0.out
  go_upto_region 2 with (go_at_call 18; (with_reducible refine (HD.out _ HB.out).mono ?_); rintro x wn ⟨rfl, hb⟩; replace H0 := zh (obj_keep H0.out hb); replace HB := zh (bstep HB.out hb); have H2 := zh (HMD.out _ H0.out HB.out); clear hb r1 r2 r3 a2 a3 a4 a5 a6)
  generalize aggW (wn.alloc _) wn.heap.size _ = W2 at H2 ⊢
  generalize wn.heap.size = m at H2 ⊢
  clear hfm hok
  obtain ⟨⟨-, r1, r2, r3⟩, ⟨-, -, a2, a3⟩, ⟨a4, a5, a6⟩, -⟩ := HV.out _ H2.out.one
  have r4 := HR2.out _ _ H2.out.two
  cases g with
  | false =>
    go_wp2
    go_ret
    exact ⟨ret_boolF (by rw [HR.out]; rfl), H2.out.blw⟩
  | true =>
    by_cases e1 : s.tw = A
    · rw [decide_eq_true e1] at hq
      have E1 := zh e1; clear e1
      by_cases e2 : s.fr.1 = s.tk.v6
      · have E2 := zh e2
        have t2 : (s.fr.1 == s.tk.v6) = true := by simpa using e2
        clear e2
        go_wp2_with (go_at_call 74; (with_reducible refine (HM.out _).mono ?_); rintro x w3 ⟨rfl, hb⟩; have HB3 := zh (bstep H2.out.blw hb); clear hb)
        go_ret
        exact ⟨ret_boolF (by rw [HR.out, decide_eq_true E1.out, decide_eq_true E2.out]; simp), HB3.out⟩
      · have t2 : (s.fr.1 == s.tk.v6) = false := by simpa using e2
        go_wp2
        go_ret
        exact ⟨ret_boolF (by rw [HR.out, decide_eq_false e2]; simp), H2.out.blw⟩
    · rw [decide_eq_false e1] at hq
      go_wp2
      go_ret
      exact ⟨ret_boolF (by rw [HR.out, decide_eq_false e1]; simp), H2.out.blw⟩
theorem goodDa_any (s : SD) (us ur : Value) (w : World) (ho : s.ok) (hd : s.da.length ≤ 100000) : Calls Tryz.prog 27 #[.agg (sdC s us ur).toArray] w fun x w' => x = .returned (.bool (goodDa s)) ∧ Below w.heap.size w w' := by
  have H0 := zh (ObjAt.made w (sdC s us ur).toArray 30)
  have HB := zh (bbox w (.cells (sdC s us ur).toArray 30))
  have HP := zh (fun W => dataP_any s us ur ho W)
  have hP : (dataP s).ok := ⟨ho.1, ho.2.1⟩
  have HG : Hid (∀ W, Calls Tryz.prog 29 #[.agg (adC (dataP s).tw).toArray] W fun x w' => x = .returned (.bool (grpA (dataP s).tw)) ∧ Below W.heap.size W w') := zh (fun W => group_any s.tw.1 s.tw.2 ho.2.1 W)
  have HI := zh (fun W => isTk_any (dataP s) hP hd W)
  have HK := zh (fun W => goodPk_any (dataP s) hP hd W)
  have hfm := fun W => fmade W zz38 58 38 rfl
  have hok := fok_pk hP
  have HMD := zh (fun W (h0 : ObjAt W w.heap.size (sdC s us ur).toArray 30) (hb : Below w.heap.size w W) => Bo2.made (Z := zz38) (U := 58) (L := pkC (dataP s)) h0 hb (pkC_length hP) (pkC_one _))
  have HV := zh (fun W m (h : ObjAt W m (pkC (dataP s)).toArray 58) => PV.of h hP)
  have HW := zh (fun W (h : ObjAt W w.heap.size (sdC s us ur).toArray 30) => (SV.of h ho.1 ho.2.1 ho.2.2.1).1.1)
  obtain ⟨R, hR⟩ : ∃ R, R = goodDa s := ⟨_, rfl⟩
  rw [← hR]
  rw [show goodDa s = (grpA (dataP s).tw && (!isTk (dataP s) && goodPk (dataP s))) from rfl] at hR
  generalize dataP s = P at HP hP HG HI HK hok HMD HV hR
  generalize grpA P.tw = g at HG hR
  generalize isTk P = i at HI hR
  generalize goodPk P = k at HK hR
  have HR := zh hR
  clear hR ho hP hd
  go_enter Tryz.func27, Tryz.ntmps27
  go_upto_region 1 with (fail)
  generalize w.alloc (.cells (sdC s us ur).toArray 30) = W at H0 HB ⊢
  have r1 := HW.out _ H0.out
  go_upto_region 2 with (go_at_call 24; (with_reducible refine (HP.out _).mono ?_); rintro x wn ⟨rfl, hb⟩; have H2 := zh (HMD.out _ (obj_keep H0.out hb) (bstep HB.out hb)); clear hb r1)
  generalize aggW (wn.alloc _) wn.heap.size _ = W2 at H2 ⊢
  generalize wn.heap.size = m at H2 ⊢
  clear hfm hok
  obtain ⟨c0, c1, c2, c3, c4, c5, c6, c7⟩ := HV.out _ _ H2.out.two
  cases g with
  | false =>
    go_wp2_with (go_at_call 29; (with_reducible refine (HG.out _).mono ?_); rintro x wn ⟨rfl, hb⟩; replace H2 := zh (H2.out.below hb); clear hb c0 c1 c2 c3 c4 c5 c6 c7; obtain ⟨c0, c1, c2, c3, c4, c5, c6, c7⟩ := HV.out _ _ H2.out.two)
    go_ret
    exact ⟨ret_boolF (by rw [HR.out]; rfl), H2.out.blw⟩
  | true =>
    cases i with
    | true =>
      go_wp2_with (first
        | (go_at_call 29; (with_reducible refine (HG.out _).mono ?_); rintro x wn ⟨rfl, hb⟩; replace H2 := zh (H2.out.below hb); clear hb c0 c1 c2 c3 c4 c5 c6 c7; obtain ⟨c0, c1, c2, c3, c4, c5, c6, c7⟩ := HV.out _ _ H2.out.two)
        | (go_at_call 40; (with_reducible refine (HI.out _).mono ?_); rintro x wn ⟨rfl, hb⟩; replace H2 := zh (H2.out.below hb); clear hb c0 c1 c2 c3 c4 c5 c6 c7; obtain ⟨c0, c1, c2, c3, c4, c5, c6, c7⟩ := HV.out _ _ H2.out.two))
      go_ret
      exact ⟨ret_boolF (by rw [HR.out]; rfl), H2.out.blw⟩
    | false =>
      go_wp2_with (first
        | (go_at_call 29; (with_reducible refine (HG.out _).mono ?_); rintro x wn ⟨rfl, hb⟩; replace H2 := zh (H2.out.below hb); clear hb c0 c1 c2 c3 c4 c5 c6 c7; obtain ⟨c0, c1, c2, c3, c4, c5, c6, c7⟩ := HV.out _ _ H2.out.two)
        | (go_at_call 40; (with_reducible refine (HI.out _).mono ?_); rintro x wn ⟨rfl, hb⟩; replace H2 := zh (H2.out.below hb); clear hb c0 c1 c2 c3 c4 c5 c6 c7; obtain ⟨c0, c1, c2, c3, c4, c5, c6, c7⟩ := HV.out _ _ H2.out.two)
        | (go_at_call 75; (with_reducible refine (HK.out _).mono ?_); rintro x wn ⟨rfl, hb⟩; replace H2 := zh (H2.out.below hb); clear hb c0 c1 c2 c3 c4 c5 c6 c7; obtain ⟨c0, c1, c2, c3, c4, c5, c6, c7⟩ := HV.out _ _ H2.out.two))
      go_ret
      exact ⟨ret_boolF (by rw [HR.out]; rfl), H2.out.blw⟩
def hasZ (s : SD) : SD := ⟨s.kind, s.vl, s.fr, s.tw, zeroT, 0, 0, []⟩
theorem bld_has (s : SD) (ho : s.ok) (w : World) : (aggBuild 30 #[(0, .int .i64 s.kind), (1, .int .i64 s.vl), (2, .agg (adC s.fr).toArray), (3, .agg (adC s.tw).toArray)]).run Tryz.prog w = .ok (.agg (sdC (hasZ s) (.slice none 0 0) (.slice none 0 0)).toArray) w := by
  refine bld_run _ _ _ ?_ w
  obtain ⟨kind, vl, ⟨v, l⟩, ⟨u, m⟩, tk, pro, hop, da⟩ := s
  obtain ⟨h1, h2, _⟩ := ho
  simp only [adOk] at h1 h2
  obtain ⟨a0, a1, a2, a3, a4, a5, a6, a7, a8, a9, aa, ab, ac, ad, ae, af, rfl⟩ := list16 h1
  obtain ⟨b0, b1, b2, b3, b4, b5, b6, b7, b8, b9, ba, bb, bc, bd', be, bf, rfl⟩ := list16 h2
  kernel_rfl
theorem sdC_tk (s : SD) (us ur : Value) (h1 : adOk s.fr) (h2 : adOk s.tw) (h3 : adOk s.tk.g) : over (sdC (hasZ s) (.slice none 0 0) (.slice none 0 0)) 36 (tkC s.tk us ur) = sdC ⟨s.kind, s.vl, s.fr, s.tw, s.tk, 0, 0, []⟩ us ur := by
  have l1 := adC_length h1
  have l2 := adC_length h2
  have l3 := tkC_length h3 us ur
  have l0 : (tkC zeroT (.slice none 0 0) (.slice none 0 0)).length = 26 := rfl
  have e : sdC (hasZ s) (.slice none 0 0) (.slice none 0 0) = ([.int .i64 s.kind, .int .i64 s.vl] ++ (adC s.fr ++ adC s.tw)) ++ (tkC zeroT (.slice none 0 0) (.slice none 0 0) ++ [.int .i64 0, .int .i64 0, .string (Str [])]) := by unfold sdC hasZ; simp only [List.append_assoc]
  have la : ([Value.int .i64 s.kind, .int .i64 s.vl] ++ (adC s.fr ++ adC s.tw)).length = 36 := by simp [l1, l2]
  unfold over
  rw [e, l3, List.take_append_of_le_length (by omega), List.take_of_length_le (by omega), List.drop_append, List.drop_of_length_le (by omega), la, List.drop_append, List.drop_of_length_le (by omega), l0]
  unfold sdC
  simp
theorem sdC_da (s : SD) (us ur : Value) (t : TK) (p h : Int) (d : List UInt8) (h1 : adOk s.fr) (h2 : adOk s.tw) (h3 : adOk t.g) (j : Nat) (v : Value) (s' : SD) (e : [Value.int .i64 p, .int .i64 h, .string (Str d)].set j v = [.int .i64 s'.pro, .int .i64 s'.hop, .string (Str s'.da)]) (e2 : s'.kind = s.kind ∧ s'.vl = s.vl ∧ s'.fr = s.fr ∧ s'.tw = s.tw ∧ s'.tk = t) :
    (sdC ⟨s.kind, s.vl, s.fr, s.tw, t, p, h, d⟩ us ur).set (62 + j) v = sdC s' us ur := by
  have l1 := adC_length h1
  have l2 := adC_length h2
  have l3 := tkC_length h3 us ur
  unfold sdC
  rw [List.set_append_right _ _ (by simp; omega), List.set_append_right _ _ (by simp [l1]; omega), List.set_append_right _ _ (by simp [l1, l2]; omega), List.set_append_right _ _ (by simp [l1, l2, l3]; omega)]
  simp only [List.length_cons, List.length_nil, l1, l2, l3]
  rw [show 62 + j - (0 + 1 + 1) - 17 - 17 - 26 = j by omega, e, e2.1, e2.2.1, e2.2.2.1, e2.2.2.2.1, e2.2.2.2.2]
theorem goodS_any (s : SD) (us ur : Value) (w : World) (ho : s.ok) (hs : Ads w us s.tk.src) (hr : Rcs w ur s.tk.rcs) (hL : s.tk.rcs.length ≤ 1000) (hd : s.da.length ≤ 100000) : Calls Tryz.prog 8 #[.agg (sdC s us ur).toArray] w fun x w' => x = .returned (.bool (goodS s)) ∧ Below w.heap.size w w' := by
  have H0 := zh (ObjAt.made w (sdC s us ur).toArray 30)
  have HB := zh (bbox w (.cells (sdC s us ur).toArray 30))
  have HT := zh (fun W (h : Below w.heap.size w W) => goodTk_any s us ur W ho (hs.below h) (hr.below h) hL)
  have HD := zh (fun W => goodDa_any s us ur W ho hd)
  have HGD : Hid (∀ W, Calls Tryz.prog 28 #[.agg (adC s.fr).toArray] W fun x w' => x = .returned (.bool (goodA s.fr)) ∧ Below W.heap.size W w') := zh fun W => good_any s.fr.1 s.fr.2 ho.1 W
  have HGR : Hid (∀ W, Calls Tryz.prog 29 #[.agg (adC s.fr).toArray] W fun x w' => x = .returned (.bool (grpA s.fr)) ∧ Below W.heap.size W w') := zh fun W => group_any s.fr.1 s.fr.2 ho.1 W
  have HV := zh (fun W (h : ObjAt W w.heap.size (sdC s us ur).toArray 30) => SV.of h ho.1 ho.2.1 ho.2.2.1)
  have HR5 : Hid (∀ W m, ∀ LH : List Value, LH.length = 65 → ObjAt W m LH.toArray 30 → row? W m 0 65 = some LH) := zh fun W m LH hl h => obj_re h (A := []) (M := LH) (C := []) (by simp) rfl hl
  have hfm := fun W => fmade W Tryz.zeroCells30 30 65 rfl
  have hz := sdC_length (s := hasZ s) ho.1 ho.2.1 zeroA_ok (.slice none 0 0) (.slice none 0 0)
  have hok : fok (sdC (hasZ s) (.slice none 0 0) (.slice none 0 0)).toArray 65 = true := fok_sd ho.1 ho.2.1 zeroA_ok rfl rfl
  have hokt : fok (tkC s.tk us ur).toArray 26 = true := fok_tk ho.2.2.1 hs.one hr.one
  have hb4 := fun w0 => bld_has s ho w0
  have HMD := zh (fun W (h0 : ObjAt W w.heap.size (sdC s us ur).toArray 30) (hb : Below w.heap.size w W) => Bo2.made (Z := Tryz.zeroCells30) (U := 30) (L := sdC (hasZ s) (.slice none 0 0) (.slice none 0 0)) h0 hb hz (sdC_one rfl rfl))
  have HO := zh ho
  have HA := zh (fun W (h : Below w.heap.size w W) => And.intro (hs.below h) (hr.below h))
  have hdm : s.da.length ≤ maxLen := by unfold maxLen; omega
  have HDM := zh hdm
  obtain ⟨R, hR⟩ : ∃ R, R = goodS s := ⟨_, rfl⟩
  rw [← hR]
  unfold goodS at hR
  generalize hga : goodA s.fr = g at HGD hR
  generalize hgr : grpA s.fr = q at HGR hR
  obtain ⟨e, he⟩ : ∃ e, e = decide (s = hasT s) := ⟨_, rfl⟩
  rw [← he] at hR
  have HR := zh hR
  have HE := zh he
  have HZL := zh hz
  clear hR he ho hs hr hd hdm hL hz hga hgr
  go_enter Tryz.func8, Tryz.ntmps8
  go_upto_region 2 with (fail)
  generalize w.alloc (.cells (sdC s us ur).toArray 30) = W at H0 HB ⊢
  obtain ⟨⟨-, r1, r2, -⟩, ⟨a0, a1, -, -⟩, -⟩ := HV.out _ H0.out
  have H2 := zh (HMD.out _ H0.out HB.out)
  go_upto_region 3 with (fail)
  generalize aggW (W.alloc _) W.heap.size _ = W2 at H2 ⊢
  generalize W.heap.size = m at H2 ⊢
  clear hfm hok hb4 r1 r2 a0 a1 H0 HB
  have hk : s.kind = 1 ∨ s.kind = 2 ∨ (s.kind ≠ 1 ∧ s.kind ≠ 2) := by omega
  rcases hk with hk | hk | ⟨hk1, hk2⟩
  case' inl =>
    have hL := show hasT s = ⟨s.kind, s.vl, s.fr, s.tw, s.tk, 0, 0, []⟩ by unfold hasT; rw [if_pos hk]
    have HS := zh (fun W (h : Below w.heap.size w W) => sameF_any (sdC s us ur) (sdC (hasT s) us ur) s (hasT s) W ⟨HO.out, HDM.out, _, _, rfl, (HA.out W h).1, (HA.out W h).2⟩ ⟨by rw [hL]; exact HO.out, by rw [hL]; exact Nat.zero_le _, us, ur, rfl, by rw [hL]; exact (HA.out W h).1, by rw [hL]; exact (HA.out W h).2⟩)
    rw [← HE.out, hL] at HS
    replace HR := zh (by rw [HR.out]; unfold goodK; rw [if_pos hk] : R = (goodTk s && (decide (0 ≤ s.vl) && (decide (s.vl ≤ 4094) && (g && (!q && e))))))
    obtain ⟨⟨-, -, -, r3⟩, ⟨a0, -⟩, -⟩ := HV.out _ H2.out.one
    rw [hk] at a0
    have hf := H2.out.free 36 26 (by rw [HZL.out]; omega)
    replace H2 := zh (H2.out.over 36 (tkC s.tk us ur) (by rw [HZL.out, tkC_length HO.out.2.2.1]; omega) (tkC_one (HA.out W2 H2.out.blw).1.one (HA.out W2 H2.out.blw).2.one))
    rw [sdC_tk s us ur HO.out.1 HO.out.2.1 HO.out.2.2.1] at H2
    have HLH := zh (sdC_length (s := ⟨s.kind, s.vl, s.fr, s.tw, s.tk, 0, 0, []⟩) HO.out.1 HO.out.2.1 HO.out.2.2.1 us ur)
    go_upto_region 6 with (fail)
    generalize aggO W2 m 36 _ = W3 at H2 ⊢
    clear r3 a0 hf hokt hL
    generalize goodTk s = k at HT HR
    generalize sdC ⟨s.kind, s.vl, s.fr, s.tw, s.tk, 0, 0, []⟩ us ur = LH at H2 HS HLH
    have r0 := (HV.out _ H2.out.one).1.1
    go_upto_region 10 with (go_at_call 26; (with_reducible refine (HT.out _ H2.out.blw).mono ?_); rintro x wn ⟨rfl, hb⟩; replace H2 := zh (H2.out.below hb); clear hb r0)
    clear hk HT HD
  case' inr.inl =>
    have hL := show hasT s = ⟨s.kind, s.vl, s.fr, s.tw, zeroT, s.pro, s.hop, s.da⟩ by unfold hasT; rw [if_neg (by omega), if_pos hk]
    have HS := zh (fun W (h : Below w.heap.size w W) => sameF_any (sdC s us ur) (sdC (hasT s) (.slice none 0 0) (.slice none 0 0)) s (hasT s) W ⟨HO.out, HDM.out, _, _, rfl, (HA.out W h).1, (HA.out W h).2⟩ ⟨by rw [hL]; exact ⟨HO.out.1, HO.out.2.1, zeroT_ok⟩, by rw [hL]; exact HDM.out, _, _, rfl, by rw [hL]; exact Ads.nil W, by rw [hL]; exact Rcs.nil W⟩)
    rw [← HE.out, hL] at HS
    replace HR := zh (by rw [HR.out]; unfold goodK; rw [if_neg (by omega), if_pos hk] : R = (goodDa s && (decide (0 ≤ s.vl) && (decide (s.vl ≤ 4094) && (g && (!q && e))))))
    obtain ⟨-, ⟨a0, -⟩, -, a7, a8, a9⟩ := HV.out _ H2.out.one
    rw [hk] at a0
    obtain ⟨-, -, -, b7, b8, b9⟩ := SV.of H2.out.two HO.out.1 HO.out.2.1 zeroA_ok
    have f7 := ObjAt.free H2.out.two 62
    have f8 := ObjAt.free H2.out.two 63
    have f9 := ObjAt.free H2.out.two 64
    have HN := zh ((((H2.out.set 62 (.int .i64 s.pro)).set 63 (.int .i64 s.hop)).set 64 (.string (Str s.da))).drew)
    rw [show (sdC (hasZ s) (.slice none 0 0) (.slice none 0 0)).set 62 (.int .i64 s.pro) = sdC ⟨s.kind, s.vl, s.fr, s.tw, zeroT, s.pro, 0, []⟩ (.slice none 0 0) (.slice none 0 0) from sdC_da s _ _ zeroT 0 0 [] HO.out.1 HO.out.2.1 zeroA_ok 0 _ _ rfl ⟨rfl, rfl, rfl, rfl, rfl⟩, show (sdC ⟨s.kind, s.vl, s.fr, s.tw, zeroT, s.pro, 0, []⟩ (.slice none 0 0) (.slice none 0 0)).set 63 (.int .i64 s.hop) = sdC ⟨s.kind, s.vl, s.fr, s.tw, zeroT, s.pro, s.hop, []⟩ (.slice none 0 0) (.slice none 0 0) from sdC_da s _ _ zeroT s.pro 0 [] HO.out.1 HO.out.2.1 zeroA_ok 1 _ _ rfl ⟨rfl, rfl, rfl, rfl, rfl⟩, show (sdC ⟨s.kind, s.vl, s.fr, s.tw, zeroT, s.pro, s.hop, []⟩ (.slice none 0 0) (.slice none 0 0)).set 64 (.string (Str s.da)) = sdC ⟨s.kind, s.vl, s.fr, s.tw, zeroT, s.pro, s.hop, s.da⟩ (.slice none 0 0) (.slice none 0 0) from sdC_da s _ _ zeroT s.pro s.hop [] HO.out.1 HO.out.2.1 zeroA_ok 2 _ _ rfl ⟨rfl, rfl, rfl, rfl, rfl⟩] at HN
    have HLH := zh (sdC_length (s := ⟨s.kind, s.vl, s.fr, s.tw, zeroT, s.pro, s.hop, s.da⟩) HO.out.1 HO.out.2.1 zeroA_ok (.slice none 0 0) (.slice none 0 0))
    go_upto_region 8 with (fail)
    go_region
    generalize World.drew _ = W3 at HN ⊢
    replace H2 := HN
    clear a0 a7 a8 a9 b7 b8 b9 f7 f8 f9 hokt hL HN
    generalize goodDa s = k at HD HR
    generalize sdC ⟨s.kind, s.vl, s.fr, s.tw, zeroT, s.pro, s.hop, s.da⟩ _ _ = LH at H2 HS HLH
    have r0 := (HV.out _ H2.out.one).1.1
    go_upto_region 10 with (go_at_call 27; (with_reducible refine (HD.out _).mono ?_); rintro x wn ⟨rfl, hb⟩; replace H2 := zh (H2.out.below hb); clear hb r0)
    clear hk HT HD
  case' inr.inr =>
    obtain ⟨-, ⟨a0, -⟩, -⟩ := HV.out _ H2.out.one
    have t1 : (s.kind == 1) = false := by simpa using hk1
    have t2 : (s.kind == 2) = false := by simpa using hk2
    replace HR := zh (by rw [HR.out]; unfold goodK; rw [if_neg hk1, if_neg hk2]; rfl : R = false)
    go_wp2
    go_ret
    exact ⟨ret_boolF HR.out.symm, H2.out.blw⟩
  all_goals (
    clear HO HA HDM HMD HE HZL
    obtain ⟨⟨r0, r1, r2, r3⟩, ⟨a0, a1, a2, a3⟩, ⟨a4, a5, a6⟩, a7, a8, a9⟩ := HV.out _ H2.out.one
    have r5 := HR5.out _ _ _ HLH.out H2.out.two
    cases k with
    | false =>
      go_wp2
      go_ret
      exact ⟨ret_boolF (by rw [HR.out]; simp), H2.out.blw⟩
    | true =>
      by_cases h1 : 0 ≤ s.vl
      · have d1 : decide (0 ≤ s.vl) = true := decide_eq_true h1
        by_cases h2 : s.vl ≤ 4094
        · have d2 : decide (s.vl ≤ 4094) = true := decide_eq_true h2
          cases g with
          | false =>
            go_wp2_with (first
                | (go_at_call 28; (with_reducible refine (HGD.out _).mono ?_); rintro x wn ⟨rfl, hb⟩; replace H2 := zh (H2.out.below hb); clear hb r0 r1 r2 r3 a0 a1 a2 a3 a4 a5 a6 a7 a8 a9 r5; obtain ⟨⟨r0, r1, r2, r3⟩, ⟨a0, a1, a2, a3⟩, ⟨a4, a5, a6⟩, a7, a8, a9⟩ := HV.out _ H2.out.one; have r5 := HR5.out _ _ _ HLH.out H2.out.two))
            go_ret
            exact ⟨ret_boolF (by rw [HR.out]; simp [h1, h2]), H2.out.blw⟩
          | true =>
            cases q with
            | true =>
              go_wp2_with (first
                  | (go_at_call 28; (with_reducible refine (HGD.out _).mono ?_); rintro x wn ⟨rfl, hb⟩; replace H2 := zh (H2.out.below hb); clear hb r0 r1 r2 r3 a0 a1 a2 a3 a4 a5 a6 a7 a8 a9 r5; obtain ⟨⟨r0, r1, r2, r3⟩, ⟨a0, a1, a2, a3⟩, ⟨a4, a5, a6⟩, a7, a8, a9⟩ := HV.out _ H2.out.one; have r5 := HR5.out _ _ _ HLH.out H2.out.two)
                  | (go_at_call 29; (with_reducible refine (HGR.out _).mono ?_); rintro x wn ⟨rfl, hb⟩; replace H2 := zh (H2.out.below hb); clear hb r0 r1 r2 r3 a0 a1 a2 a3 a4 a5 a6 a7 a8 a9 r5; obtain ⟨⟨r0, r1, r2, r3⟩, ⟨a0, a1, a2, a3⟩, ⟨a4, a5, a6⟩, a7, a8, a9⟩ := HV.out _ H2.out.one; have r5 := HR5.out _ _ _ HLH.out H2.out.two))
              go_ret
              exact ⟨ret_boolF (by rw [HR.out]; simp [h1, h2]), H2.out.blw⟩
            | false =>
              go_wp2_with (first
                  | (go_at_call 28; (with_reducible refine (HGD.out _).mono ?_); rintro x wn ⟨rfl, hb⟩; replace H2 := zh (H2.out.below hb); clear hb r0 r1 r2 r3 a0 a1 a2 a3 a4 a5 a6 a7 a8 a9 r5; obtain ⟨⟨r0, r1, r2, r3⟩, ⟨a0, a1, a2, a3⟩, ⟨a4, a5, a6⟩, a7, a8, a9⟩ := HV.out _ H2.out.one; have r5 := HR5.out _ _ _ HLH.out H2.out.two)
                  | (go_at_call 29; (with_reducible refine (HGR.out _).mono ?_); rintro x wn ⟨rfl, hb⟩; replace H2 := zh (H2.out.below hb); clear hb r0 r1 r2 r3 a0 a1 a2 a3 a4 a5 a6 a7 a8 a9 r5; obtain ⟨⟨r0, r1, r2, r3⟩, ⟨a0, a1, a2, a3⟩, ⟨a4, a5, a6⟩, a7, a8, a9⟩ := HV.out _ H2.out.one; have r5 := HR5.out _ _ _ HLH.out H2.out.two)
                  | (go_at_call 10; (with_reducible refine (HS.out _ H2.out.blw).mono ?_); rintro x wn ⟨rfl, hb⟩; replace H2 := zh (H2.out.below hb); clear hb r0 r1 r2 r3 a0 a1 a2 a3 a4 a5 a6 a7 a8 a9 r5; obtain ⟨⟨r0, r1, r2, r3⟩, ⟨a0, a1, a2, a3⟩, ⟨a4, a5, a6⟩, a7, a8, a9⟩ := HV.out _ H2.out.one; have r5 := HR5.out _ _ _ HLH.out H2.out.two))
              go_ret
              exact ⟨ret_boolF (by rw [HR.out]; simp [h1, h2]), H2.out.blw⟩
        · have d2 : decide (s.vl ≤ 4094) = false := decide_eq_false h2
          go_wp2
          go_ret
          exact ⟨ret_boolF (by rw [HR.out, d2]; simp), H2.out.blw⟩
      · have d1 : decide (0 ≤ s.vl) = false := decide_eq_false h1
        go_wp2
        go_ret
        exact ⟨ret_boolF (by rw [HR.out, d1]; simp), H2.out.blw⟩
  )
end Go.Proofs.YtlbdehegknehiaaGreat

