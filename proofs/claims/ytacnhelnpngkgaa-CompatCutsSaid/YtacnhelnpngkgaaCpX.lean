/-
  The walk of CompatRecords.
-/
import Derived.Test.YtacnhelnpngkgaaCpL
import Derived.Test.YtacnhelnpngkgaaMg42
import Derived.Test.YtacnhelnpngkgaaTlH
namespace Go.Proofs.Ytacnhelnpngkgaa
open Go.RowKit
set_option linter.unusedVariables false
set_option linter.unusedSimpArgs false
attribute [local go_sem ↓] ld_addr st_addr bld_addr ld_tk st_tk bld_tk ld_rec st_rec bld_rec rcsLit_eq
attribute [local go_sem] ldr_addr str_addr ldr_tk str_tk ldr_rec str_rec row?_drewN_eq row?_drew_eq

/-- A talk boxed, whose slices lie in blocks of their types. -/
structure TbT (w : World) (t : TK) (u r : Value) (W : World) : Prop where
  blw : Below w.heap.size w W
  tk : TkAt W w.heap.size t u r
  us : AdsT W u t.src
  rs : RcT W r t.rcs
theorem TbT.keep {w : World} {t : TK} {u r : Value} (W W' : World) (h : TbT w t u r W) (hb : Below W.heap.size W W') : TbT w t u r W' := ⟨bstep h.blw hb, h.tk.below hb, h.us.below hb, h.rs.below hb⟩
theorem fewT_srcs (t : TK) : (fewT t).rcs.length ≤ 6 ∧ ∀ r ∈ (fewT t).rcs, r.src.length ≤ 6 := by
  refine ⟨fewT_len t, fun r hr => ?_⟩
  obtain ⟨x, _, rfl⟩ := List.mem_map.1 (show r ∈ (t.rcs.take 6).map cutR from hr)
  show (x.src.take 6).length ≤ 6
  rw [List.length_take]; omega
set_option maxRecDepth 100000 in
set_option maxHeartbeats 8000000 in
theorem ccrecs_any (q : TK) (us ur : Value) (ok : q.ok) (w : World) (hs : Ads w us q.src) (hr : Rcs w ur q.rcs) : Calls Try.prog 3 #[.agg (tkC q us ur).toArray] w fun x w' => x = .returned (.bool true) ∧ Below w.heap.size w w' := by
  have H0 := Lib.hid (TbC.boxed w q us ur ok.1)
  have HF1 : Hid (∀ W, Below w.heap.size w W → Calls Try.prog 6 #[.agg (tkC q us ur).toArray] W fun x w' => ∃ u r, x = .returned (.agg (tkC (fewT q) u r).toArray) ∧ Below W.heap.size W w' ∧ AdsT w' u (fewT q).src ∧ RcT w' r (fewT q).rcs) := Lib.hid fun W hb => lfew_any q us ur W ok.1 (hs.below hb) (hr.below hb)
  have hok := fewT_ok ok
  have hfw := fewT_few q
  obtain ⟨l1, l2⟩ := fewT_srcs q
  have HR0 := Lib.hid (fun W (h : TbC w q us ur W) => h.tk.row)
  have hq0 := tkC_length ok.1 us ur
  generalize fewT q = T at *
  have HF2 : Hid (∀ W u r, AdsT W u T.src → RcT W r T.rcs → Calls Try.prog 6 #[.agg (tkC T u r).toArray] W fun x w' => ∃ u r, x = .returned (.agg (tkC T u r).toArray) ∧ Below W.heap.size W w' ∧ AdsT w' u T.src ∧ RcT w' r T.rcs) := Lib.hid fun W u r h1 h2 => by
    have := lfew_any T u r W hok.1 h1.1 h2.rcs
    rwa [hfw] at this
  have HTK := Lib.hid (fun W u r (h1 : AdsT W u T.src) (h2 : RcT W r T.rcs) => rtalk_all T u r W hok h1.1 h2.rcs)
  have HLV := Lib.hid (fun W => lives16_any W)
  have HPR := Lib.hid (fun (hg : gdT T = true) W u r (h2 : RcT W r T.rcs) => crecs_any T u r hok.1 hg W h2 (by omega) (fun r hr => by have := l2 r hr; omega))
  have HRR := Lib.hid (fun W u r (h2 : RcT W r T.rcs) => rrecs16_any T u r hok.1 W h2.rcs)
  have HPO := Lib.hid (fun (hg : gdT T = true) W u r => colder_any T u r hok.1 hg W)
  have HRO := Lib.hid (fun W u r => rolder16_any T u r hok.1 W)
  obtain ⟨RS, HRS⟩ : ∃ RS, Hid (RS = recsC T) := ⟨_, Lib.hid rfl⟩
  rw [← HRS.out] at HPR HRR
  have HSM : Hid (∀ W v v', Rcs W v RS → Rcs W v' RS → Calls Try.prog 9 #[v, v'] W fun x w' => x = .returned (.bool true) ∧ Below W.heap.size W w') := Lib.hid fun W v v' h1 h2 => (sameRecords_any v v' RS RS W h1 h2).mono fun x w' ⟨hx, d, hd⟩ => ⟨by rw [decide_eq_true rfl] at hx; exact hx, by rw [hd]; exact bdrewN (Below.refl _ _) d⟩
  generalize oldC T = n at *
  have hfk : Hid (∀ u r W, AdsT W u T.src → RcT W r T.rcs → fok (tkC T u r).toArray 26 = true) := Lib.hid fun u r W h1 h2 => fok_tk hok.1 h1.1.one h2.rcs.one
  have HKO := Lib.hid hok
  clear l1 l2 hok hfw ok hs hr HRS
  go_enter Try.func3, Try.ntmps3
  go_upto_region 1 with (fail)
  generalize w.alloc _ = W at H0 ⊢
  have r0 := HR0.out _ H0.out
  go_upto_region 2 with (go_at_call 6; (with_reducible refine (HF1.out _ H0.out.blw).mono ?_); rintro x w1 ⟨u, r, rfl, hb, hu, hv⟩; have H1 := Lib.hid (TbC.keep _ _ H0.out hb); have HU := Lib.hid hu; have HV := Lib.hid hv; have hf := obj_free_at H1.out.tk.1 0 26 (by rw [List.size_toArray, hq0]; omega); have hk := hfk.out u r w1 hu hv; clear hb hu hv r0)
  have HT : Hid (TbT w T u r (aggW w1 w.heap.size (tkC T u r))) := Lib.hid ⟨aggW_below H1.out.blw (Nat.le_refl _) _, ⟨aggW_obj (L := tkC q us ur) H1.out.tk.1 (by rw [tkC_length HKO.out.1, hq0]) (tkC_one HU.out.1.one HV.out.rcs.one), HKO.out.1⟩, HU.out.grown H1.out.tk.1 (aggW_grown _ _ _), HV.out.grown H1.out.tk.1 (aggW_grown _ _ _)⟩
  generalize aggW _ w.heap.size _ = W1 at HT ⊢
  clear H0 H1 HU HV hf hk HF1 HR0 hq0 HKO
  have r0 := HT.out.tk.row
  have HG := Lib.hid (HTK.out W1 u r HT.out.us HT.out.rs)
  cases hg : gdT T with
  | false =>
    rw [hg] at HG
    go_wp2_with (first
      | (go_at_call 7; (with_reducible refine (HG.out).mono ?_); rintro x w2 ⟨rfl, hb⟩; replace HT := Lib.hid (TbT.keep _ _ HT.out hb); clear hb r0)
      | (go_at_call 8; (with_reducible refine (HLV.out _).mono ?_); rintro x w2 ⟨rfl, hb⟩; replace HT := Lib.hid (TbT.keep _ _ HT.out hb); clear hb))
    go_ret
    exact ⟨rfl, HT.out.blw⟩
  | true =>
    rw [hg] at HG
    have HPR2 := Lib.hid (HPR.out hg)
    have HPO2 := Lib.hid (HPO.out hg)
    have z1 : (n == n) = true := by simp
    clear HPR HPO hg
    go_upto_region 4 with (go_at_call 7; (with_reducible refine (HG.out).mono ?_); rintro x w2 ⟨rfl, hb⟩; replace HT := Lib.hid (TbT.keep _ _ HT.out hb); clear hb r0)
    refine wp_region_held_drew (S := fun W => row? W w.heap.size 0 26 = some (tkC T u r)) (by kernel_rfl) ((TbT.keep _ w2.drew HT.out (bdrewN (Below.refl _ _) 1)).tk.row) (fun hHeld => ?_)
    replace HT := Lib.hid (TbT.keep _ w2.drew HT.out (bdrewN (Below.refl _ _) 1))
    generalize World.drew w2 = W8 at HT hHeld ⊢
    refine wpAnyH_take (i := 0) (oi := { dst := some 9, op := _, type := _, pos := _, after := _, guard := _ }) (v := ?v1) rfl (by kernel_rfl) (by kernel_rfl) (by kernel_rfl) (fun _ _ _ h => h) (Or.inl ⟨by rfl, ?y1⟩) (by assumption) ?r1
    case y1 => (intro w hSw; go_simp; try with_reducible rfl)
    try simp only [Act.put, List.setIfInBounds_toArray, List.set_cons_zero, List.set_cons_succ]
    refine wpAnyH_take (i := 3) (oi := { dst := some 12, op := _, type := _, pos := _, after := _, guard := _ }) (v := ?v2) rfl (by kernel_rfl) (by kernel_rfl) (by kernel_rfl) (fun _ _ _ h => h) (Or.inl ⟨by rfl, ?y2⟩) (by assumption) ?r2
    case y2 => (intro w hSw; go_simp; try with_reducible rfl)
    try simp only [Act.put, List.setIfInBounds_toArray, List.set_cons_zero, List.set_cons_succ]
    refine wpAnyH_ready (rs := [1]) (by kernel_rfl) (by simp) (AllReadyH.cons (o := _) rfl (fun K hK => ?_) AllReadyH.nil)
    go_simp
    (go_at_call 6; (with_reducible refine (HF2.out _ _ _ HT.out.us HT.out.rs).mono ?_); rintro x wn ⟨u2, r2, rfl, hb, hu, hv⟩; replace HT := Lib.hid (TbT.keep _ _ HT.out hb); have HV := Lib.hid hv; clear hb hu hv)
    try go_wp2_with fail
    refine hK.out _ _ (HT.out.tk.row) (fun hHeld => ?_)
    clear hK K
    try simp only [Act.put, List.setIfInBounds_toArray, List.set_cons_zero, List.set_cons_succ]
    refine wpAnyH_ready (rs := [2]) (by kernel_rfl) (by simp) (AllReadyH.cons (o := _) rfl (fun K hK => ?_) AllReadyH.nil)
    go_simp
    (go_at_call 10; (with_reducible refine (HPR2.out _ _ _ HV.out).mono ?_); rintro x wn ⟨v1, rfl, hb, hv⟩; replace HT := Lib.hid (TbT.keep _ _ HT.out hb); have H1 := Lib.hid hv; clear hb hv HV)
    try go_wp2_with fail
    refine hK.out _ _ (HT.out.tk.row) (fun hHeld => ?_)
    clear hK K
    try simp only [Act.put, List.setIfInBounds_toArray, List.set_cons_zero, List.set_cons_succ]
    refine wpAnyH_ready (rs := [4]) (by kernel_rfl) (by simp) (AllReadyH.cons (o := _) rfl (fun K hK => ?_) AllReadyH.nil)
    go_simp
    (go_at_call 11; (with_reducible refine (HRR.out _ _ _ HT.out.rs).mono ?_); rintro x wn ⟨v2, rfl, hb, hv⟩; replace HT := Lib.hid (TbT.keep _ _ HT.out hb); have H2 := Lib.hid hv; replace H1 := Lib.hid (H1.out.below hb); clear hb hv)
    try go_wp2_with fail
    refine hK.out _ _ (HT.out.tk.row) (fun hHeld => ?_)
    clear hK K
    try simp only [Act.put, List.setIfInBounds_toArray, List.set_cons_zero, List.set_cons_succ]
    refine wpAnyH_ready (rs := [5]) (by kernel_rfl) (by simp) (AllReadyH.cons (o := _) rfl (fun K hK => ?_) AllReadyH.nil)
    go_simp
    (go_at_call 9; (with_reducible refine (HSM.out _ _ _ H1.out H2.out).mono ?_); rintro x wn ⟨rfl, hb⟩; replace HT := Lib.hid (TbT.keep _ _ HT.out hb); clear hb H1 H2)
    try go_wp2_with fail
    refine hK.out _ _ (HT.out.tk.row) (fun hHeld => ?_)
    clear hK K
    try simp only [Act.put, List.setIfInBounds_toArray, List.set_cons_zero, List.set_cons_succ]
    refine wpAnyH_take (i := 6) (oi := { dst := some 15, op := _, type := _, pos := _, after := _, guard := _ }) (v := ?v3) rfl (by kernel_rfl) (by kernel_rfl) (by kernel_rfl) (fun _ _ _ h => h) (Or.inl ⟨by rfl, ?y3⟩) (by assumption) ?r3
    case y3 => (intro w hSw; go_simp; try with_reducible rfl)
    try simp only [Act.put, List.setIfInBounds_toArray, List.set_cons_zero, List.set_cons_succ]
    refine wpAnyH_take (i := 7) (oi := { dst := some 16, op := _, type := _, pos := _, after := _, guard := _ }) (v := ?v4) rfl (by kernel_rfl) (by kernel_rfl) (by kernel_rfl) (fun _ _ _ h => h) (Or.inl ⟨by rfl, ?y4⟩) (by assumption) ?r4
    case y4 => (intro w hSw; go_simp; try with_reducible rfl)
    try simp only [Act.put, List.setIfInBounds_toArray, List.set_cons_zero, List.set_cons_succ]
    refine wpAnyH_take (i := 10) (oi := { dst := some 19, op := _, type := _, pos := _, after := _, guard := _ }) (v := ?v5) rfl (by kernel_rfl) (by kernel_rfl) (by kernel_rfl) (fun _ _ _ h => h) (Or.inl ⟨by rfl, ?y5⟩) (by assumption) ?r5
    case y5 => (intro w hSw; go_simp; try with_reducible rfl)
    try simp only [Act.put, List.setIfInBounds_toArray, List.set_cons_zero, List.set_cons_succ]
    refine wpAnyH_ready (rs := [8]) (by kernel_rfl) (by simp) (AllReadyH.cons (o := _) rfl (fun K hK => ?_) AllReadyH.nil)
    go_simp
    (go_at_call 6; (with_reducible refine (HF2.out _ _ _ HT.out.us HT.out.rs).mono ?_); rintro x wn ⟨u3, r3, rfl, hb, hu, hv⟩; replace HT := Lib.hid (TbT.keep _ _ HT.out hb); clear hb hu hv)
    try go_wp2_with fail
    refine hK.out _ _ (HT.out.tk.row) (fun hHeld => ?_)
    clear hK K
    try simp only [Act.put, List.setIfInBounds_toArray, List.set_cons_zero, List.set_cons_succ]
    refine wpAnyH_ready (rs := [9]) (by kernel_rfl) (by simp) (AllReadyH.cons (o := _) rfl (fun K hK => ?_) AllReadyH.nil)
    go_simp
    (go_at_call 12; (with_reducible refine (HPO2.out _ _ _).mono ?_); rintro x wn ⟨rfl, hb⟩; replace HT := Lib.hid (TbT.keep _ _ HT.out hb); clear hb)
    try go_wp2_with fail
    refine hK.out _ _ (HT.out.tk.row) (fun hHeld => ?_)
    clear hK K
    try simp only [Act.put, List.setIfInBounds_toArray, List.set_cons_zero, List.set_cons_succ]
    refine wpAnyH_ready (rs := [11]) (by kernel_rfl) (by simp) (AllReadyH.cons (o := _) rfl (fun K hK => ?_) AllReadyH.nil)
    go_simp
    (go_at_call 13; (with_reducible refine (HRO.out _ _ _).mono ?_); rintro x wn ⟨rfl, hb⟩; replace HT := Lib.hid (TbT.keep _ _ HT.out hb); clear hb)
    try go_wp2_with fail
    refine hK.out _ _ (HT.out.tk.row) (fun hHeld => ?_)
    clear hK K
    try simp only [Act.put, List.setIfInBounds_toArray, List.set_cons_zero, List.set_cons_succ]
    refine wpAnyH_take (i := 12) (oi := { dst := some 21, op := _, type := _, pos := _, after := _, guard := _ }) (v := ?v6) rfl (by kernel_rfl) (by kernel_rfl) (by kernel_rfl) (fun _ _ _ h => h) (Or.inl ⟨by rfl, ?y6⟩) (by assumption) ?r6
    case y6 => (intro w hSw; go_simp; try with_reducible rfl)
    try simp only [Act.put, List.setIfInBounds_toArray, List.set_cons_zero, List.set_cons_succ]
    refine wpAnyH_take (i := 13) (oi := { dst := some 22, op := _, type := _, pos := _, after := _, guard := _ }) (v := ?v7) rfl (by kernel_rfl) (by kernel_rfl) (by kernel_rfl) (fun _ _ _ h => h) (Or.inl ⟨by rfl, ?y7⟩) (by assumption) ?r7
    case y7 => (intro w hSw; go_simp; try with_reducible rfl)
    try simp only [Act.put, List.setIfInBounds_toArray, List.set_cons_zero, List.set_cons_succ]
    refine wpAnyH_take (i := 14) (oi := { dst := some 23, op := _, type := _, pos := _, after := _, guard := _ }) (v := ?v8) rfl (by kernel_rfl) (by kernel_rfl) (by kernel_rfl) (fun _ _ _ h => h) (Or.inl ⟨by rfl, ?y8⟩) (by assumption) ?r8
    case y8 => (intro w hSw; go_simp; try with_reducible rfl)
    try simp only [Act.put, List.setIfInBounds_toArray, List.set_cons_zero, List.set_cons_succ]
    refine wpAnyH_ready (rs := [15]) (by kernel_rfl) (by simp) (AllReadyH.cons (o := _) rfl (fun K hK => ?_) AllReadyH.nil)
    go_simp
    (go_at_call 8; (with_reducible refine (HLV.out _).mono ?_); rintro x wn ⟨rfl, hb⟩; replace HT := Lib.hid (TbT.keep _ _ HT.out hb); clear hb)
    try go_wp2_with fail
    refine hK.out _ _ (HT.out.tk.row) (fun hHeld => ?_)
    clear hK K
    try simp only [Act.put, List.setIfInBounds_toArray, List.set_cons_zero, List.set_cons_succ]
    refine wpAnyH_take (i := 16) (oi := { dst := some 25, op := _, type := _, pos := _, after := _, guard := _ }) (v := ?v9) rfl (by kernel_rfl) (by kernel_rfl) (by kernel_rfl) (fun _ _ _ h => h) (Or.inl ⟨by rfl, ?y9⟩) (by assumption) ?r9
    case y9 => (intro w hSw; go_simp; try with_reducible rfl)
    try simp only [Act.put, List.setIfInBounds_toArray, List.set_cons_zero, List.set_cons_succ]
    refine wpAnyH_take (i := 17) (oi := { dst := some 2, op := _, type := _, pos := _, after := _, guard := _ }) (v := ?v10) rfl (by kernel_rfl) (by kernel_rfl) (by kernel_rfl) (fun _ _ _ h => h) (Or.inl ⟨by rfl, ?y10⟩) (by assumption) ?r10
    case y10 => (intro w hSw; go_simp; try with_reducible rfl)
    try simp only [Act.put, List.setIfInBounds_toArray, List.set_cons_zero, List.set_cons_succ]
    refine wpAnyH_done (by kernel_rfl) ?_ _
    clear hHeld
    go_wp2
    go_ret
    exact ⟨rfl, HT.out.blw⟩
end Go.Proofs.Ytacnhelnpngkgaa
