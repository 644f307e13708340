/-
  Texts joined: FrC, FrS.
-/
import Derived.Test.YtlbdehegknehiaaGreatMg00
import Derived.Test.YtlbdehegknehiaaGreatMg19
import Derived.Test.YtlbdehegknehiaaGreatIgD
import Derived.Test.YtlbdehegknehiaaGreatMgD
import Derived.Test.YtlbdehegknehiaaGreatMg24
/- A part of the proof. -/
namespace Go.Proofs.YtlbdehegknehiaaGreat
set_option maxRecDepth 100000
set_option maxHeartbeats 4000000
open Go.RowKit
set_option linter.unusedVariables false
set_option linter.unusedSimpArgs false
attribute [local go_sem ↓] ld_addr st_addr bld_addr ld_tk st_tk bld_tk ld_sd st_sd bld_sd ld_pk st_pk bld_pk
attribute [local go_sem] ldr_addr str_addr str_addr_at ldr_tk str_tk str_tk_at ldr_sd str_sd ldr_pk str_pk row?_drewN_eq row?_drew_eq
theorem bld_a0 (w : World) : (aggBuild 24 #[]).run Tryz.prog w = .ok (.agg (adC zeroA).toArray) w := bld_run _ _ _ (by kernel_rfl) _
theorem TkAt.view {W : World} {b : Nat} {t : TK} {us ur : Value} (h : TkAt W b t us ur) : row? W b 0 26 = some (tkC t us ur) ∧ W.cell? ⟨b, 0, none⟩ = some (.bool t.v6) ∧ W.cell? ⟨b, 1, none⟩ = some (.int .i64 t.ver) ∧ W.cell? ⟨b, 2, none⟩ = some (.int .i64 t.kind) ∧ row? W b 4 17 = some (adC t.g) := ⟨h.row, h.v6, h.ver, h.kind, h.rg⟩
theorem Bx.drewN {w W : World} {c d : Array Value} {T U : TypeId} (h : Bx w W c T d U) (n : Nat) : Bx w (W.drewN n) c T d U := ⟨h.one, h.two, bdrewN h.blw n⟩
theorem dest_any (t : TK) (us ur : Value) (w : World) (ho : t.ok) (hs : Ads w us t.src) (hr : Rcs w ur t.rcs) (hL : t.rcs.length ≤ 1000) : Calls Tryz.prog 18 #[.agg (tkC t us ur).toArray] w fun x w' => x = .returned (.tuple #[.agg (adC (destV t)).toArray, .bool (gdT t)]) ∧ Below w.heap.size w w' := by
  have H0 := zh (Bx.made w (tkC t us ur).toArray 28 (adC zeroA).toArray 24)
  have H8 := zh (fun W (h : Below w.heap.size w W) => good8_any t us ur W ho (hs.below h) (hr.below h) hL)
  have H9 := zh (fun W (h : Below w.heap.size w W) => good9_any t us ur W ho (hs.below h) (hr.below h) hL)
  have HZ : Hid (∀ W, Calls Tryz.prog 58 #[.agg (adC t.g).toArray] W fun e w' => e = .returned (.bool (zerA t.g)) ∧ Below W.heap.size W w') := zh (fun W => zero_any t.g.1 t.g.2 ho.1 W)
  have HN1 : Hid (∀ W, Calls Tryz.prog 59 #[.bool t.v6, .int .u8 1] W fun x w' => x = .returned (.agg (adC (onL t.v6 1)).toArray) ∧ Below W.heap.size W w') := zh fun W => onL_any t.v6 1 W
  have HN22 : Hid (∀ W, Calls Tryz.prog 59 #[.bool t.v6, .int .u8 22] W fun x w' => x = .returned (.agg (adC (onL t.v6 22)).toArray) ∧ Below W.heap.size W w') := zh fun W => onL_any t.v6 22 W
  have HN2 : Hid (∀ W, Calls Tryz.prog 59 #[.bool t.v6, .int .u8 2] W fun x w' => x = .returned (.agg (adC (onL t.v6 2)).toArray) ∧ Below W.heap.size W w') := zh fun W => onL_any t.v6 2 W
  have HLV : Hid (∀ W, Calls Tryz.prog 60 #[.bool t.v6] W fun x w' => x = .returned (.int .i64 (lastN t.v6)) ∧ w' = W) := zh fun W => (lastV_any t.v6 W).mono (fun x w' h => ⟨h.1, h.2.symm⟩)
  have HV := zh (fun W (h : Bx w W (tkC t us ur).toArray 28 (adC zeroA).toArray 24) => TkAt.view (⟨h.one, ho.1⟩ : TkAt W w.heap.size t us ur))
  have HOG := zh ho.1
  have hb0 := bld_a0
  have k0 := fok_addr zeroA.1 zeroA.2 rfl
  have k1 := fok_addr (onL t.v6 1).1 (onL t.v6 1).2 (onL_ok _ _)
  have k22 := fok_addr (onL t.v6 22).1 (onL t.v6 22).2 (onL_ok _ _)
  have k2 := fok_addr (onL t.v6 2).1 (onL t.v6 2).2 (onL_ok _ _)
  have kg := fok_addr t.g.1 t.g.2 ho.1
  rw [show addrC zeroA.1 zeroA.2 = adC zeroA from rfl] at k0
  rw [show addrC (onL t.v6 1).1 (onL t.v6 1).2 = adC (onL t.v6 1) from rfl] at k1
  rw [show addrC (onL t.v6 22).1 (onL t.v6 22).2 = adC (onL t.v6 22) from rfl] at k22
  rw [show addrC (onL t.v6 2).1 (onL t.v6 2).2 = adC (onL t.v6 2) from rfl] at k2
  rw [show addrC t.g.1 t.g.2 = adC t.g from rfl] at kg
  obtain ⟨R, hR⟩ : ∃ R, R = gdT t := ⟨_, rfl⟩
  obtain ⟨A, hA⟩ : ∃ A, A = destV t := ⟨_, rfl⟩
  rw [← hR, ← hA]
  unfold destV destT at hA
  rw [← hR] at hA
  unfold gdT at hR
  have HF := zh (zeroA_ok)
  have HO1 := zh (onL_ok t.v6 1)
  have HO22 := zh (onL_ok t.v6 22)
  have HO2 := zh (onL_ok t.v6 2)
  generalize good8 t = g8 at H8 hR
  generalize good9 t = g9 at H9 hR
  generalize zerA t.g = z at HZ hA
  generalize onL t.v6 1 = N1 at HN1 hA k1 HO1
  generalize onL t.v6 22 = N22 at HN22 hA k22 HO22
  generalize onL t.v6 2 = N2 at HN2 hA k2 HO2
  generalize lastN t.v6 = n at HLV hA
  have HR := zh hR
  have HA := zh hA
  clear hR hA ho hs hr hL
  generalize t.kind = kind at HV HA
  generalize t.ver = ver at HV HA
  generalize t.v6 = v6 at HV HN1 HN2 HN22 HLV
  generalize t.g = g at HV HA HZ kg HOG
  generalize tkC t us ur = L at H0 HV H8 H9 ⊢
  rw [zeroA_cells] at H0
  go_enter Tryz.func18, Tryz.ntmps18
  go_upto_region 1 with (fail)
  generalize (w.alloc (.cells L.toArray 28)).alloc _ = W at H0 ⊢
  rw [← zeroA_cells] at H0
  obtain ⟨c0, c1, c2, c3, c4⟩ := HV.out _ H0.out
  have hc : (g8 = false ∧ g9 = false) ∨ (g8 = true) ∨ (g8 = false ∧ g9 = true) := by cases g8 <;> cases g9 <;> simp
  rcases hc with ⟨rfl, rfl⟩ | rfl | ⟨rfl, rfl⟩
  · obtain rfl : R = false := HR.out
    obtain rfl : A = zeroA := by rw [HA.out]; rfl
    go_upto_region 2 with (first
      | (go_at_call 56; (with_reducible refine (H8.out _ H0.out.blw).mono ?_); rintro x wn ⟨rfl, hb⟩; replace H0 := zh (H0.out.below hb); clear hb c0 c1 c2 c3 c4; obtain ⟨c0, c1, c2, c3, c4⟩ := HV.out _ H0.out)
      | (go_at_call 57; (with_reducible refine (H9.out _ H0.out.blw).mono ?_); rintro x wn ⟨rfl, hb⟩; replace H0 := zh (H0.out.below hb); clear hb c0 c1 c2 c3 c4; obtain ⟨c0, c1, c2, c3, c4⟩ := HV.out _ H0.out))
    have hfr := H0.out.free 17 (Nat.le_of_eq rfl)
    go_wp2
    obtain ⟨q1, q2⟩ := H0.out.done (adC zeroA) rfl
    exact bodyPost_ret (results_cell2 Tryz.results18 rfl (ld_some q1 (ldr_addr _ _ _))) rfl ⟨rfl, q2⟩
  all_goals (
    obtain rfl : R = true := by rw [HR.out]; rfl
    go_upto_region 3 with (first
      | (go_at_call 56; (with_reducible refine (H8.out _ H0.out.blw).mono ?_); rintro x wn ⟨rfl, hb⟩; replace H0 := zh (H0.out.below hb); clear hb c0 c1 c2 c3 c4; obtain ⟨c0, c1, c2, c3, c4⟩ := HV.out _ H0.out)
      | (go_at_call 57; (with_reducible refine (H9.out _ H0.out.blw).mono ?_); rintro x wn ⟨rfl, hb⟩; replace H0 := zh (H0.out.below hb); clear hb c0 c1 c2 c3 c4; obtain ⟨c0, c1, c2, c3, c4⟩ := HV.out _ H0.out))
    by_cases e1 : kind = 1
    · subst e1
      cases z with
      | true =>
        obtain rfl : A = N1 := by rw [HA.out]; simp
        go_wp2_with (first
              | (go_at_call 58; (with_reducible refine (HZ.out _).mono ?_); rintro x wn ⟨rfl, hb⟩; replace H0 := zh (H0.out.below hb); clear hb c0 c1 c2 c3 c4; obtain ⟨c0, c1, c2, c3, c4⟩ := HV.out _ H0.out; have hfr := fun d => (H0.out.drewN d).free 17 (Nat.le_of_eq rfl))
              | (go_at_call 59; (with_reducible refine (HN1.out _).mono ?_); rintro x wn ⟨rfl, hb⟩; replace H0 := zh (H0.out.below hb); clear hb c0 c1 c2 c3 c4; obtain ⟨c0, c1, c2, c3, c4⟩ := HV.out _ H0.out; have hfr := H0.out.free 17 (Nat.le_of_eq rfl)))
        exact bodyPost_ret (results_cell2 Tryz.results18 rfl (ld_some (H0.out.done (adC A) (adC_length HO1.out)).1 (ldr_addr _ _ _))) rfl ⟨rfl, (H0.out.done (adC A) (adC_length HO1.out)).2⟩
      | false =>
        obtain rfl : A = g := by rw [HA.out]; simp
        have hfr := fun d => (H0.out.drewN d).free 17 (Nat.le_of_eq rfl)
        go_upto_region 5 with (first
              | (go_at_call 58; (with_reducible refine (HZ.out _).mono ?_); rintro x wn ⟨rfl, hb⟩; replace H0 := zh (H0.out.below hb); clear hb c0 c1 c2 c3 c4; obtain ⟨c0, c1, c2, c3, c4⟩ := HV.out _ H0.out; have hfr := fun d => (H0.out.drewN d).free 17 (Nat.le_of_eq rfl))
              | (fail))
        go_quiet ((go_at_call 60; exact Calls.quiet_of_same (HLV.out _)))
        go_wp2
        exact bodyPost_ret (results_cell2 Tryz.results18 rfl (ld_some ((H0.out.drewN _).done (adC A) (adC_length HOG.out)).1 (ldr_addr _ _ _))) rfl ⟨rfl, ((H0.out.drewN _).done (adC A) (adC_length HOG.out)).2⟩
    · have t1 : (kind == 1) = false := by simpa using e1
      by_cases e2 : kind = 2
      · subst e2
        by_cases ev : ver = n
        · have tv : (ver == n) = true := by simpa using ev
          obtain rfl : A = N22 := by rw [HA.out]; simp [ev]
          have hfr := fun d => (H0.out.drewN d).free 17 (Nat.le_of_eq rfl)
          go_upto_region 5 with (first
              | (go_at_call 58; (with_reducible refine (HZ.out _).mono ?_); rintro x wn ⟨rfl, hb⟩; replace H0 := zh (H0.out.below hb); clear hb c0 c1 c2 c3 c4; obtain ⟨c0, c1, c2, c3, c4⟩ := HV.out _ H0.out; have hfr := fun d => (H0.out.drewN d).free 17 (Nat.le_of_eq rfl))
              | (fail))
          go_quiet ((go_at_call 60; exact Calls.quiet_of_same (HLV.out _)))
          go_wp2_with (first
              | (go_at_call 59; (with_reducible refine (HN22.out _).mono ?_); rintro x wn ⟨rfl, hb⟩; replace H0 := zh ((H0.out.drewN _).below hb); clear hb c0 c1 c2 c3 c4; obtain ⟨c0, c1, c2, c3, c4⟩ := HV.out _ H0.out; have hfr := H0.out.free 17 (Nat.le_of_eq rfl)))
          exact bodyPost_ret (results_cell2 Tryz.results18 rfl (ld_some (H0.out.done (adC A) (adC_length HO22.out)).1 (ldr_addr _ _ _))) rfl ⟨rfl, (H0.out.done (adC A) (adC_length HO22.out)).2⟩
        · have tv : (ver == n) = false := by simpa using ev
          obtain rfl : A = g := by rw [HA.out]; simp [ev]
          have hfr := fun d => (H0.out.drewN d).free 17 (Nat.le_of_eq rfl)
          go_upto_region 5 with (first
              | (go_at_call 58; (with_reducible refine (HZ.out _).mono ?_); rintro x wn ⟨rfl, hb⟩; replace H0 := zh (H0.out.below hb); clear hb c0 c1 c2 c3 c4; obtain ⟨c0, c1, c2, c3, c4⟩ := HV.out _ H0.out; have hfr := fun d => (H0.out.drewN d).free 17 (Nat.le_of_eq rfl))
              | (fail))
          go_quiet ((go_at_call 60; exact Calls.quiet_of_same (HLV.out _)))
          go_wp2
          exact bodyPost_ret (results_cell2 Tryz.results18 rfl (ld_some ((H0.out.drewN _).done (adC A) (adC_length HOG.out)).1 (ldr_addr _ _ _))) rfl ⟨rfl, ((H0.out.drewN _).done (adC A) (adC_length HOG.out)).2⟩
      · have t2 : (kind == 2) = false := by simpa using e2
        by_cases e3 : kind = 3
        · subst e3
          obtain rfl : A = N2 := by rw [HA.out]; simp
          have hfr := fun d => (H0.out.drewN d).free 17 (Nat.le_of_eq rfl)
          go_upto_region 5 with (first
              | (go_at_call 58; (with_reducible refine (HZ.out _).mono ?_); rintro x wn ⟨rfl, hb⟩; replace H0 := zh (H0.out.below hb); clear hb c0 c1 c2 c3 c4; obtain ⟨c0, c1, c2, c3, c4⟩ := HV.out _ H0.out; have hfr := fun d => (H0.out.drewN d).free 17 (Nat.le_of_eq rfl))
              | (fail))
          go_quiet ((go_at_call 60; exact Calls.quiet_of_same (HLV.out _)))
          go_wp2_with (first
              | (go_at_call 59; (with_reducible refine (HN2.out _).mono ?_); rintro x wn ⟨rfl, hb⟩; replace H0 := zh ((H0.out.drewN _).below hb); clear hb c0 c1 c2 c3 c4; obtain ⟨c0, c1, c2, c3, c4⟩ := HV.out _ H0.out; have hfr := H0.out.free 17 (Nat.le_of_eq rfl)))
          exact bodyPost_ret (results_cell2 Tryz.results18 rfl (ld_some (H0.out.done (adC A) (adC_length HO2.out)).1 (ldr_addr _ _ _))) rfl ⟨rfl, (H0.out.done (adC A) (adC_length HO2.out)).2⟩
        · have t3 : (kind == 3) = false := by simpa using e3
          obtain rfl : A = g := by rw [HA.out]; simp [e1, e2, e3]
          have hfr := fun d => (H0.out.drewN d).free 17 (Nat.le_of_eq rfl)
          go_upto_region 5 with (first
              | (go_at_call 58; (with_reducible refine (HZ.out _).mono ?_); rintro x wn ⟨rfl, hb⟩; replace H0 := zh (H0.out.below hb); clear hb c0 c1 c2 c3 c4; obtain ⟨c0, c1, c2, c3, c4⟩ := HV.out _ H0.out; have hfr := fun d => (H0.out.drewN d).free 17 (Nat.le_of_eq rfl))
              | (fail))
          go_quiet ((go_at_call 60; exact Calls.quiet_of_same (HLV.out _)))
          go_wp2
          exact bodyPost_ret (results_cell2 Tryz.results18 rfl (ld_some ((H0.out.drewN _).done (adC A) (adC_length HOG.out)).1 (ldr_addr _ _ _))) rfl ⟨rfl, ((H0.out.drewN _).done (adC A) (adC_length HOG.out)).2⟩
  )
end Go.Proofs.YtlbdehegknehiaaGreat

/- A part of the proof. -/
namespace Go.Proofs.YtlbdehegknehiaaGreat
set_option maxRecDepth 100000
set_option maxHeartbeats 4000000
open Go.RowKit
set_option linter.unusedVariables false
set_option linter.unusedSimpArgs false
attribute [local go_sem ↓] ld_addr st_addr bld_addr ld_tk st_tk bld_tk ld_sd st_sd bld_sd
attribute [local go_sem] ldr_addr str_addr str_addr_at ldr_tk str_tk ldr_sd str_sd row?_drewN_eq row?_drew_eq
theorem str_eq_list (a b : List UInt8) : ((Str a).toList == (Str b).toList) = decide (a = b) := by
  rw [Bool.eq_iff_iff]; simp [Str]
theorem sameF_any (ca cb : List Value) (a b : SD) (w : World) (ha : Sds w ca a) (hb : Sds w cb b) : Calls Tryz.prog 10 #[.agg ca.toArray, .agg cb.toArray] w fun x w' => x = .returned (.bool (decide (a = b))) ∧ Below w.heap.size w w' := by
  obtain ⟨⟨oa1, oa2, oa3⟩, la, ua, va, rfl, sa, ra⟩ := ha
  obtain ⟨⟨ob1, ob2, ob3⟩, lb, ub, vb, rfl, sb, rb⟩ := hb
  have H0 := zh (Bx.made w (sdC a ua va).toArray 30 (sdC b ub vb).toArray 30)
  have HT := zh (fun W (h : Below w.heap.size w W) => same8_any (tkC a.tk ua va) (tkC b.tk ub vb) a.tk b.tk W ⟨oa3.1, _, _, rfl, sa.below h, ra.below h⟩ ⟨ob3.1, _, _, rfl, sb.below h, rb.below h⟩)
  have HV := zh (fun W (h : Bx w W (sdC a ua va).toArray 30 (sdC b ub vb).toArray 30) => And.intro (SV.of h.one oa1 oa2 oa3.1) (SV.of h.two ob1 ob2 ob3.1))
  have q1 := fun w0 => eq_ad a.fr b.fr oa1 ob1 w0
  have q2 := fun w0 => eq_ad a.tw b.tw oa2 ob2 w0
  have q7 := str_eq_list a.da b.da
  obtain ⟨R, hR⟩ : ∃ R, R = decide (a = b) := ⟨_, rfl⟩
  rw [← hR]
  have HDD := zh hR
  clear hR oa1 oa2 oa3 ob1 ob2 ob3 la lb sa sb ra rb
  go_enter Tryz.func10, Tryz.ntmps10
  go_upto_region 1 with (fail)
  generalize (w.alloc (.cells (sdC a ua va).toArray 30)).alloc (.cells (sdC b ub vb).toArray 30) = W at H0 ⊢
  obtain ⟨⟨⟨-, a1, a2, a3⟩, ⟨a4, a5, -⟩, -, a6, a7, a8⟩, ⟨-, b1, b2, b3⟩, ⟨b4, b5, -⟩, -, b6, b7, b8⟩ := HV.out _ H0.out
  by_cases e0 : a.kind = b.kind
  rotate_left
  · have HF := zh (show R = false by rw [HDD.out]; exact decide_eq_false (fun h => e0 (by rw [h])))
    have t0 : (a.kind == b.kind) = false := by simpa using e0
    go_wp2
    go_ret
    exact ⟨ret_boolF (by rw [HF.out]), H0.out.blw⟩
  have t0 : (a.kind == b.kind) = true := by simpa using e0
  have E0 := zh e0; clear e0
  by_cases e1 : a.vl = b.vl
  rotate_left
  · have HF := zh (show R = false by rw [HDD.out]; exact decide_eq_false (fun h => e1 (by rw [h])))
    have t1 : (a.vl == b.vl) = false := by simpa using e1
    go_wp2
    go_ret
    exact ⟨ret_boolF (by rw [HF.out]), H0.out.blw⟩
  have t1 : (a.vl == b.vl) = true := by simpa using e1
  have E1 := zh e1; clear e1
  by_cases e2 : a.fr = b.fr
  rotate_left
  · have HF := zh (show R = false by rw [HDD.out]; exact decide_eq_false (fun h => e2 (by rw [h])))
    rw [decide_eq_false e2] at q1
    go_wp2
    go_ret
    exact ⟨ret_boolF (by rw [HF.out]), H0.out.blw⟩
  rw [decide_eq_true e2] at q1
  have E2 := zh e2; clear e2
  by_cases e3 : a.tw = b.tw
  rotate_left
  · have HF := zh (show R = false by rw [HDD.out]; exact decide_eq_false (fun h => e3 (by rw [h])))
    rw [decide_eq_false e3] at q2
    go_wp2
    go_ret
    exact ⟨ret_boolF (by rw [HF.out]), H0.out.blw⟩
  rw [decide_eq_true e3] at q2
  have E3 := zh e3; clear e3
  by_cases e4 : a.tk = b.tk
  rotate_left
  · have HF := zh (show R = false by rw [HDD.out]; exact decide_eq_false (fun h => e4 (by rw [h])))
    rw [decide_eq_false e4] at HT
    go_wp2_with (go_at_call 35; (with_reducible refine (HT.out _ H0.out.blw).mono ?_); rintro x wn ⟨rfl, hb⟩; replace H0 := zh (H0.out.below hb); clear hb a1 a2 a3 a4 a5 a6 a7 a8 b1 b2 b3 b4 b5 b6 b7 b8)
    go_ret
    exact ⟨ret_boolF (by rw [HF.out]), H0.out.blw⟩
  rw [decide_eq_true e4] at HT
  have E4 := zh e4; clear e4
  by_cases e5 : a.pro = b.pro
  rotate_left
  · have HF := zh (show R = false by rw [HDD.out]; exact decide_eq_false (fun h => e5 (by rw [h])))
    have t5 : (a.pro == b.pro) = false := by simpa using e5
    go_wp2_with (go_at_call 35; (with_reducible refine (HT.out _ H0.out.blw).mono ?_); rintro x wn ⟨rfl, hb⟩; replace H0 := zh (H0.out.below hb); clear hb a1 a2 a3 a4 a5 a6 a7 a8 b1 b2 b3 b4 b5 b6 b7 b8; obtain ⟨⟨⟨-, a1, a2, a3⟩, ⟨a4, a5, -⟩, -, a6, a7, a8⟩, ⟨-, b1, b2, b3⟩, ⟨b4, b5, -⟩, -, b6, b7, b8⟩ := HV.out _ H0.out)
    go_ret
    exact ⟨ret_boolF (by rw [HF.out]), H0.out.blw⟩
  have t5 : (a.pro == b.pro) = true := by simpa using e5
  have E5 := zh e5; clear e5
  by_cases e6 : a.hop = b.hop
  rotate_left
  · have HF := zh (show R = false by rw [HDD.out]; exact decide_eq_false (fun h => e6 (by rw [h])))
    have t6 : (a.hop == b.hop) = false := by simpa using e6
    go_wp2_with (go_at_call 35; (with_reducible refine (HT.out _ H0.out.blw).mono ?_); rintro x wn ⟨rfl, hb⟩; replace H0 := zh (H0.out.below hb); clear hb a1 a2 a3 a4 a5 a6 a7 a8 b1 b2 b3 b4 b5 b6 b7 b8; obtain ⟨⟨⟨-, a1, a2, a3⟩, ⟨a4, a5, -⟩, -, a6, a7, a8⟩, ⟨-, b1, b2, b3⟩, ⟨b4, b5, -⟩, -, b6, b7, b8⟩ := HV.out _ H0.out)
    go_ret
    exact ⟨ret_boolF (by rw [HF.out]), H0.out.blw⟩
  have t6 : (a.hop == b.hop) = true := by simpa using e6
  have E6 := zh e6; clear e6
  by_cases e7 : a.da = b.da
  rotate_left
  · have HF := zh (show R = false by rw [HDD.out]; exact decide_eq_false (fun h => e7 (by rw [h])))
    rw [decide_eq_false e7] at q7
    go_wp2_with (go_at_call 35; (with_reducible refine (HT.out _ H0.out.blw).mono ?_); rintro x wn ⟨rfl, hb⟩; replace H0 := zh (H0.out.below hb); clear hb a1 a2 a3 a4 a5 a6 a7 a8 b1 b2 b3 b4 b5 b6 b7 b8; obtain ⟨⟨⟨-, a1, a2, a3⟩, ⟨a4, a5, -⟩, -, a6, a7, a8⟩, ⟨-, b1, b2, b3⟩, ⟨b4, b5, -⟩, -, b6, b7, b8⟩ := HV.out _ H0.out)
    go_ret
    exact ⟨ret_boolF (by rw [HF.out]), H0.out.blw⟩
  rw [decide_eq_true e7] at q7
  have E7 := zh e7; clear e7
  have HF := zh (show R = true by rw [HDD.out]; exact decide_eq_true (by have x0 := E0.out; have x1 := E1.out; have x2 := E2.out; have x3 := E3.out; have x4 := E4.out; have x5 := E5.out; have x6 := E6.out; have x7 := E7.out; cases a; cases b; simp only at x0 x1 x2 x3 x4 x5 x6 x7; subst x0 x1 x2 x3 x4 x5 x6 x7; rfl))
  go_wp2_with (go_at_call 35; (with_reducible refine (HT.out _ H0.out.blw).mono ?_); rintro x wn ⟨rfl, hb⟩; replace H0 := zh (H0.out.below hb); clear hb a1 a2 a3 a4 a5 a6 a7 a8 b1 b2 b3 b4 b5 b6 b7 b8; obtain ⟨⟨⟨-, a1, a2, a3⟩, ⟨a4, a5, -⟩, -, a6, a7, a8⟩, ⟨-, b1, b2, b3⟩, ⟨b4, b5, -⟩, -, b6, b7, b8⟩ := HV.out _ H0.out)
  go_ret
  exact ⟨ret_boolF (by rw [HF.out]), H0.out.blw⟩
end Go.Proofs.YtlbdehegknehiaaGreat

