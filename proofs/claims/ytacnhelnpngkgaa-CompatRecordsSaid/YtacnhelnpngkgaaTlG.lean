/-
  The law's own copies of records, somewhat cut.
-/
import Derived.Test.YtacnhelnpngkgaaMg30
namespace Go.Proofs.Ytacnhelnpngkgaa
open Go.RowKit
set_option linter.unusedVariables false
attribute [local go_sem ↓] ld_addr st_addr bld_addr ld_rec st_rec bld_rec rcsLit_eq
attribute [local go_sem] ldr_addr str_addr ldr_rec str_rec

/-- A record, somewhat cut. -/
def cutR (r : RC) : RC := ⟨r.kind, r.g, r.src.take 6⟩
theorem cut_succ {l : List RC} {k : Nat} (h : k < l.length) : (l.take (k + 1)).map cutR = (l.take k).map cutR ++ [cutR l[k]] := by
  rw [List.take_succ_eq_append_getElem h, List.map_append]; simp
set_option maxRecDepth 100000 in
set_option maxHeartbeats 4000000 in
theorem lrecs_any (v : Value) (l : List RC) (n : Nat) (hn : n ≤ 1000) (w : World) (ha : Rcs w v l) : Calls Try.prog 21 #[v, .int .i64 n] w fun x w' => ∃ v', x = .returned v' ∧ Below w.heap.size w w' ∧ RcT w' v' ((l.take n).map cutR) := by
  obtain ⟨p, cap, rfl, hl1, hl2⟩ := ha.len
  obtain ⟨i0, hi0, hz0, hz1, hz2⟩ := info_parts info_rec
  have HRA : Hid (l ≠ [] → ∃ b o, p = some ⟨b, o, none⟩ ∧ ∀ i (h : i < l.length), RcAt w b (o + i * 19) l[i]) := Lib.hid fun hne => by
    obtain ⟨b, o, cap', e, _, _, h4⟩ := ha.parts hne
    simp only [Value.slice.injEq] at e
    exact ⟨b, o, e.1, h4⟩
  obtain ⟨q, hq⟩ : ∃ q, q = l.length := ⟨_, rfl⟩
  have HQ := Lib.hid hq
  have hmx : q ≤ maxLen := by omega
  unfold maxLen at hmx
  rw [← hq]
  clear ha hl1 hl2 hq
  go_enter Try.func21, Try.ntmps21
  go_wp2_with fail
  go_loopw [5, 6] (fun u i wr => ∃ (k : Nat) (acc : List (RC × Value)), k ≤ q ∧ k ≤ n ∧ i = .int .i64 k ∧ acc.length = k ∧ Hid (RQ w.heap.size wr u acc) ∧ Hid (acc.map Prod.fst = (l.take k).map cutR) ∧ Hid (Below w.heap.size w wr)) (fun _ i _ => n - (intOf i).toNat)
  case atStart => exact ⟨0, [], by omega, by omega, rfl, rfl, Lib.hid ⟨World.ownsRow_lit w #[] 0 (Nat.le_refl _) (by unfold maxLen; omega) (by simp), fun x hx => by cases hx⟩, Lib.hid rfl, Lib.hid ((Below.refl _ _).alloc (Nat.le_refl _) _)⟩
  case round =>
    obtain ⟨k, acc, hkq, hkn, rfl, hlen, HRQ, HAC, HB⟩ := hrel
    have HLN := Lib.hid hlen
    have hak : acc.length ≤ 1000 := by omega
    clear hlen
    by_cases h1 : k < q
    · by_cases h2 : k < n
      · have hk1 : (k : Int) < (q : Int) := by omega
        have hk2 : (k : Int) < (n : Int) := by omega
        have g1 : k < l.length := by rw [← HQ.out]; exact h1
        obtain ⟨b, o, rfl, RA⟩ := HRA.out (fun e => by rw [e] at g1; exact absurd g1 (by simp))
        obtain ⟨u, hu⟩ := (RA k g1).u
        have hw1 : IntKind.i64.wrap ((k : Int) + 1) = (k : Int) + 1 := by simp only [IntKind.wrap_i64]; omega
        have HTK := Lib.hid (cut_succ g1)
        have HO := Lib.hid hu.1
        have HAD : Hid (∀ W, Below w.heap.size w W → Calls Try.prog 18 #[u, .int .i64 6] W fun x w' => ∃ v', x = .returned v' ∧ Below W.heap.size W w' ∧ AdsT w' v' (l[k].src.take 6)) := Lib.hid fun W hb => laddrs_any u l[k].src 6 (by omega) W (hu.2.2.2.below hb)
        have HKS : Hid (∀ W, Below w.heap.size w W → W.cell? ⟨b, o + k * 19, none⟩ = some (.int .i64 l[k].kind) ∧ row? W b (o + k * 19 + 1) 17 = some (adC l[k].g) ∧ W.cell? ⟨b, o + k * 19 + 18, none⟩ = some u) := Lib.hid fun W hb => (hu.below hb).cells
        clear hu RA
        generalize l[k] = x at *
        obtain ⟨xk, xg, xs⟩ := x
        simp only at HO HAD HKS HTK
        obtain ⟨ys, hys⟩ : ∃ ys, ys = xs.take 6 := ⟨_, rfl⟩
        rw [← hys] at HAD
        have HYS := Lib.hid hys
        clear hys
        have hmul : ((k : Int) * 19).toNat = k * 19 := by omega
        go_upto_region 5 with (fail)
        refine wp_region_held_drew (S := fun W => W.cell? ⟨b, o + k * 19, none⟩ = some (.int .i64 xk) ∧ row? W b (o + k * 19 + 1) 17 = some (adC xg) ∧ W.cell? ⟨b, o + k * 19 + 18, none⟩ = some u) (by kernel_rfl) (HKS.out _ (bdrewN HB.out 1)) (fun hHeld => ?_)
        have HBd := Lib.hid (show Below w.heap.size w wr.drew from bdrewN HB.out 1)
        have HRd := Lib.hid (show RQ w.heap.size wr.drew u5 acc from HRQ.out.below (bdrewN (Below.refl _ _) 1))
        generalize wr.drew = wd at HBd HRd hHeld ⊢
        refine wpAnyH_take (i := 0) (oi := { dst := some 19, op := _, type := _, pos := _, after := _, guard := _ }) (v := ?v1) rfl (by kernel_rfl) (by kernel_rfl) (by kernel_rfl) (fun _ _ _ h => h) (Or.inl ⟨by rfl, ?y1⟩) (by assumption) ?r1
        case y1 => (intro w hSw; go_simp; try with_reducible rfl)
        try simp only [Act.put, List.setIfInBounds_toArray, List.set_cons_zero, List.set_cons_succ]
        refine wpAnyH_take (i := 1) (oi := { dst := some 20, op := _, type := _, pos := _, after := _, guard := _ }) (v := ?v2) rfl (by kernel_rfl) (by kernel_rfl) (by kernel_rfl) (fun _ _ _ h => h) (Or.inl ⟨by rfl, ?y2⟩) (by assumption) ?r2
        case y2 => (intro w hSw; go_simp; try with_reducible rfl)
        try simp only [Act.put, List.setIfInBounds_toArray, List.set_cons_zero, List.set_cons_succ]
        refine wpAnyH_take (i := 2) (oi := { dst := some 21, op := _, type := _, pos := _, after := _, guard := _ }) (v := ?v3) rfl (by kernel_rfl) (by kernel_rfl) (by kernel_rfl) (fun _ _ _ h => h) (Or.inl ⟨by rfl, ?y3⟩) (by assumption) ?r3
        case y3 => (intro w hSw; go_simp; try with_reducible rfl)
        try simp only [Act.put, List.setIfInBounds_toArray, List.set_cons_zero, List.set_cons_succ]
        refine wpAnyH_take (i := 3) (oi := { dst := some 22, op := _, type := _, pos := _, after := _, guard := _ }) (v := ?v4) rfl (by kernel_rfl) (by kernel_rfl) (by kernel_rfl) (fun _ _ _ h => h) (Or.inl ⟨by rfl, ?y4⟩) (by assumption) ?r4
        case y4 => (intro w hSw; go_simp; try with_reducible rfl)
        try simp only [Act.put, List.setIfInBounds_toArray, List.set_cons_zero, List.set_cons_succ]
        refine wpAnyH_take (i := 4) (oi := { dst := some 23, op := _, type := _, pos := _, after := _, guard := _ }) (v := ?v5) rfl (by kernel_rfl) (by kernel_rfl) (by kernel_rfl) (fun _ _ _ h => h) (Or.inl ⟨by rfl, ?y5⟩) (by assumption) ?r5
        case y5 => (intro w hSw; go_simp; try with_reducible rfl)
        try simp only [Act.put, List.setIfInBounds_toArray, List.set_cons_zero, List.set_cons_succ]
        refine wpAnyH_take (i := 5) (oi := { dst := some 24, op := _, type := _, pos := _, after := _, guard := _ }) (v := ?v6) rfl (by kernel_rfl) (by kernel_rfl) (by kernel_rfl) (fun _ _ _ h => h) (Or.inl ⟨by rfl, ?y6⟩) (by assumption) ?r6
        case y6 => (intro w hSw; go_simp; try with_reducible rfl)
        try simp only [Act.put, List.setIfInBounds_toArray, List.set_cons_zero, List.set_cons_succ]
        refine wpAnyH_take (i := 6) (oi := { dst := some 25, op := _, type := _, pos := _, after := _, guard := _ }) (v := ?v7) rfl (by kernel_rfl) (by kernel_rfl) (by kernel_rfl) (fun _ _ _ h => h) (Or.inl ⟨by rfl, ?y7⟩) (by assumption) ?r7
        case y7 => (intro w hSw; go_simp; try with_reducible rfl)
        try simp only [Act.put, List.setIfInBounds_toArray, List.set_cons_zero, List.set_cons_succ]
        refine wpAnyH_take (i := 7) (oi := { dst := some 26, op := _, type := _, pos := _, after := _, guard := _ }) (v := ?v8) rfl (by kernel_rfl) (by kernel_rfl) (by kernel_rfl) (fun _ _ _ h => h) (Or.inl ⟨by rfl, ?y8⟩) (by assumption) ?r8
        case y8 => (intro w hSw; go_simp; try with_reducible rfl)
        try simp only [Act.put, List.setIfInBounds_toArray, List.set_cons_zero, List.set_cons_succ]
        refine wpAnyH_take (i := 8) (oi := { dst := some 27, op := _, type := _, pos := _, after := _, guard := _ }) (v := ?v9) rfl (by kernel_rfl) (by kernel_rfl) (by kernel_rfl) (fun _ _ _ h => h) (Or.inl ⟨by rfl, ?y9⟩) (by assumption) ?r9
        case y9 => (intro w hSw; go_simp; try with_reducible rfl)
        try simp only [Act.put, List.setIfInBounds_toArray, List.set_cons_zero, List.set_cons_succ]
        refine wpAnyH_take (i := 9) (oi := { dst := some 28, op := _, type := _, pos := _, after := _, guard := _ }) (v := ?v10) rfl (by kernel_rfl) (by kernel_rfl) (by kernel_rfl) (fun _ _ _ h => h) (Or.inl ⟨by rfl, ?y10⟩) (by assumption) ?r10
        case y10 => (intro w hSw; go_simp; try with_reducible rfl)
        try simp only [Act.put, List.setIfInBounds_toArray, List.set_cons_zero, List.set_cons_succ]
        refine wpAnyH_take (i := 10) (oi := { dst := some 29, op := _, type := _, pos := _, after := _, guard := _ }) (v := ?v11) rfl (by kernel_rfl) (by kernel_rfl) (by kernel_rfl) (fun _ _ _ h => h) (Or.inl ⟨by rfl, ?y11⟩) (by assumption) ?r11
        case y11 => (intro w hSw; go_simp; try with_reducible rfl)
        try simp only [Act.put, List.setIfInBounds_toArray, List.set_cons_zero, List.set_cons_succ]
        refine wpAnyH_take (i := 11) (oi := { dst := some 30, op := _, type := _, pos := _, after := _, guard := _ }) (v := ?v12) rfl (by kernel_rfl) (by kernel_rfl) (by kernel_rfl) (fun _ _ _ h => h) (Or.inl ⟨by rfl, ?y12⟩) (by assumption) ?r12
        case y12 => (intro w hSw; go_simp; try with_reducible rfl)
        try simp only [Act.put, List.setIfInBounds_toArray, List.set_cons_zero, List.set_cons_succ]
        refine wpAnyH_take (i := 12) (oi := { dst := some 31, op := _, type := _, pos := _, after := _, guard := _ }) (v := ?v13) rfl (by kernel_rfl) (by kernel_rfl) (by kernel_rfl) (fun _ _ _ h => h) (Or.inl ⟨by rfl, ?y13⟩) (by assumption) ?r13
        case y13 => (intro w hSw; go_simp; try with_reducible rfl)
        try simp only [Act.put, List.setIfInBounds_toArray, List.set_cons_zero, List.set_cons_succ]
        refine wpAnyH_take (i := 13) (oi := { dst := some 32, op := _, type := _, pos := _, after := _, guard := _ }) (v := ?v14) rfl (by kernel_rfl) (by kernel_rfl) (by kernel_rfl) (fun _ _ _ h => h) (Or.inl ⟨by rfl, ?y14⟩) (by assumption) ?r14
        case y14 => (intro w hSw; go_simp; try with_reducible rfl)
        try simp only [Act.put, List.setIfInBounds_toArray, List.set_cons_zero, List.set_cons_succ]
        refine wpAnyH_take (i := 14) (oi := { dst := some 33, op := _, type := _, pos := _, after := _, guard := _ }) (v := ?v15) rfl (by kernel_rfl) (by kernel_rfl) (by kernel_rfl) (fun _ _ _ h => h) (Or.inl ⟨by rfl, ?y15⟩) (by assumption) ?r15
        case y15 => (intro w hSw; go_simp; try with_reducible rfl)
        try simp only [Act.put, List.setIfInBounds_toArray, List.set_cons_zero, List.set_cons_succ]
        refine wpAnyH_take (i := 15) (oi := { dst := some 34, op := _, type := _, pos := _, after := _, guard := _ }) (v := ?v16) rfl (by kernel_rfl) (by kernel_rfl) (by kernel_rfl) (fun _ _ _ h => h) (Or.inl ⟨by rfl, ?y16⟩) (by assumption) ?r16
        case y16 => (intro w hSw; go_simp; try with_reducible rfl)
        try simp only [Act.put, List.setIfInBounds_toArray, List.set_cons_zero, List.set_cons_succ]
        refine wpAnyH_ready (rs := [16]) (by kernel_rfl) (by simp) (AllReadyH.cons (o := _) rfl (fun K hK => ?_) AllReadyH.nil)
        go_simp
        (go_at_call 18; (with_reducible refine (HAD.out _ HBd.out).mono ?_); rintro x w6 ⟨v6, rfl, hb6, ha6⟩; obtain ⟨pp6, cc6, ev6, hl6, hc6⟩ := ha6.1.len; subst ev6; have H6 := Lib.hid hb6; have HB6 := Lib.hid (bstep HBd.out hb6); have HA6 := Lib.hid ha6; have HQ6 := Lib.hid (HRd.out.below hb6); clear hb6 ha6)
        try go_wp2_with fail
        refine hK.out _ _ (HKS.out _ HB6.out) (fun hHeld => ?_)
        clear hK K
        try simp only [Act.put, List.setIfInBounds_toArray, List.set_cons_zero, List.set_cons_succ]
        have hbr := bldr_rec xk xg HO.out ys pp6 ys.length cc6
        have hlit := rcsLit_run ⟨xk, xg, ys⟩ HO.out pp6 ys.length cc6
        have HL19 := Lib.hid (rcC_length (r := ⟨xk, xg, ys⟩) HO.out (.slice pp6 ys.length cc6))
        have HC1 : Hid (∀ u ∈ rcC ⟨xk, xg, ys⟩ (.slice pp6 ys.length cc6), u.oneCell' = true) := Lib.hid (rcC_one rfl)
        generalize hCS : rcC ⟨xk, xg, ys⟩ (.slice pp6 ys.length cc6) = CS at hbr hlit HL19 HC1
        have HCS := Lib.hid hCS
        clear hCS
        refine wpAnyH_take (i := 17) (oi := { dst := some 36, op := _, type := _, pos := _, after := _, guard := _ }) (v := ?v17) rfl (by kernel_rfl) (by kernel_rfl) (by kernel_rfl) (fun _ _ _ h => h) (Or.inl ⟨by rfl, ?y17⟩) (by assumption) ?r17
        case y17 => (intro w hSw; go_simp; try with_reducible rfl)
        try simp only [Act.put, List.setIfInBounds_toArray, List.set_cons_zero, List.set_cons_succ]
        refine wpAnyH_ready (rs := [18]) (by kernel_rfl) (by simp) (AllReadyH.cons (o := _) rfl (fun K hK => ?_) AllReadyH.nil)
        go_simp
        refine hK.out _ _ (HKS.out _ (HB6.out.alloc HB6.out.size _)) (fun hHeld => ?_)
        clear hK K
        try simp only [Act.put, List.setIfInBounds_toArray, List.set_cons_zero, List.set_cons_succ]
        have hba : Below w6.heap.size w6 (w6.alloc (.cells CS.toArray 40)) := (Below.refl _ _).alloc (Nat.le_refl _) _
        have HBA := Lib.hid hba
        clear hba
        refine wpAnyH_ready (rs := [19]) (by kernel_rfl) (by simp) (AllReadyH.cons (o := _) rfl (fun K hK => ?_) AllReadyH.nil)
        rw [if_pos (by rfl)]
        have hown := HQ6.out.1
        have hz := HB6.out.size
        refine wp_append_own _ _ _ 26 rfl w.heap.size 40 i0 (.agg #[.int .i64 0, .bool false, .int .u8 0, .int .u8 0, .int .u8 0, .int .u8 0, .int .u8 0, .int .u8 0, .int .u8 0, .int .u8 0, .int .u8 0, .int .u8 0, .int .u8 0, .int .u8 0, .int .u8 0, .int .u8 0, .int .u8 0, .int .u8 0, .slice none 0 0]) 19 56 Try.underlying26 hi0 hz0 hz1 hz2 rfl (by decide) _ acc.length (rqC acc) rfl (hown.alloc _) ⟨w6.heap.size, 0, none⟩ 1 1 CS rfl HL19.out (World.news_of_block (heap_alloc_new w6 _)) HC1.out (by unfold maxLen; omega) (by omega) (by simp; omega) ?_
        intro v8 w8 hown8 hgrow hnil
        have Hown := Lib.hid hown8
        have Hgrow := Lib.hid hgrow
        clear hown8 hgrow hnil hown hz
        have hv := HRd.out.1.2
        have HB8 : Hid (Below w.heap.size w w8) := Lib.hid ((bstep HB6.out HBA.out).grown Hgrow.out (by have := Nat.le_trans HB6.out.size HBA.out.size; exact this) (fun q hq => by
          rcases hv with ⟨e1, _⟩ | ⟨g, cap, cur, e1, e2, _⟩
          · subst e1; cases hq
          · subst e1; cases hq; exact e2))
        clear hv
        refine hK.out _ _ (HKS.out _ HB8.out) (fun hHeld => ?_)
        clear hK K
        try simp only [Act.put, List.setIfInBounds_toArray, List.set_cons_zero, List.set_cons_succ]
        have HQ8 := Lib.hid (RQ.snoc (HQ6.out.below HBA.out) ⟨HO.out, HA6.out.1.below HBA.out, HA6.out.2.below HBA.out⟩ (by rw [HCS.out]; exact Hown.out) Hgrow.out)
        refine wpAnyH_take (i := 20) (oi := { dst := some 5, op := _, type := _, pos := _, after := _, guard := _ }) (v := ?v18) rfl (by kernel_rfl) (by kernel_rfl) (by kernel_rfl) (fun _ _ _ h => h) (Or.inl ⟨by rfl, ?y18⟩) (by assumption) ?r18
        case y18 => (intro w hSw; go_simp; try with_reducible rfl)
        try simp only [Act.put, List.setIfInBounds_toArray, List.set_cons_zero, List.set_cons_succ]
        refine wpAnyH_done (by kernel_rfl) ?_ _
        go_wp2_with fail
        go_roundw
        case rel => exact ⟨k + 1, acc ++ [(⟨xk, xg, ys⟩, .slice pp6 ys.length cc6)], by omega, by omega, by go_num, by rw [List.length_append]; simp; exact HLN.out, HQ8, Lib.hid (by rw [List.map_append, HAC.out, HTK.out, HYS.out]; rfl), HB8⟩
        case measure => simp [intOf]; omega
      · have t2 : ¬ (k : Int) < (n : Int) := by omega
        have hk1 : (k : Int) < (q : Int) := by omega
        have HK := Lib.hid (show n = k by omega)
        clear h2
        go_wp2
        go_ret
        exact ⟨u5, rfl, HB.out, by first | (rw [HK.out]; exact ⟨_, acc, HRQ.out, HAC.out⟩) | (rw [← List.map_take, HK.out]; exact ⟨_, acc, HRQ.out, HAC.out⟩)⟩
    · have t1 : ¬ (k : Int) < (q : Int) := by omega
      have HE := Lib.hid (show l.take n = l.take k by
        have hq := HQ.out
        rw [List.take_of_length_le (by omega), List.take_of_length_le (by omega)])
      clear h1
      go_wp2
      go_ret
      exact ⟨u5, rfl, HB.out, by first | (rw [HE.out]; exact ⟨_, acc, HRQ.out, HAC.out⟩) | (rw [← List.map_take, HE.out]; exact ⟨_, acc, HRQ.out, HAC.out⟩)⟩
end Go.Proofs.Ytacnhelnpngkgaa
