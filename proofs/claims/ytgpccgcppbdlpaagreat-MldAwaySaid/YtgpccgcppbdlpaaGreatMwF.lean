/-
  The law's own copies of a talk: they lie in blocks of their own.
-/
import Derived.Test.YtgpccgcppbdlpaaGreatMg44
namespace Go.Proofs.YtgpccgcppbdlpaaGreat
open Go.RowKit
set_option linter.unusedVariables false
set_option linter.unusedSimpArgs false
attribute [local go_sem ↓] ld_addr st_addr bld_addr adsLit_eq ld_rec st_rec bld_rec rcsLit_eq ld_tk st_tk bld_tk
attribute [local go_sem] ldr_addr str_addr ldr_rec str_rec ldr_tk str_tk
/-- A slice's block is none below some place. -/
def AdN (N : Nat) (v : Value) : Prop := ∀ b o n c, v = .slice (some ⟨b, o, none⟩) n c → N ≤ b
theorem AdN.le {N M : Nat} {v : Value} (h : AdN N v) (hle : M ≤ N) : AdN M v := fun b o n c e => Nat.le_trans hle (h b o n c e)
theorem own_AdN {w : World} {base n size : Nat} {v : Value} {xs : List Value} {T : TypeId} (h : w.ownsRow base T size v n xs) : AdN base v := fun b o n' c e => by
  obtain ⟨_, h2 | ⟨g, cap, cur, e1, e2, _⟩⟩ := h
  · rw [h2.1] at e; cases e
  · rw [e1] at e
    simp only [Value.slice.injEq, Option.some.injEq, Addr.mk.injEq] at e
    omega
def AdsN (N : Nat) (w : World) (v : Value) (l : List AD) : Prop := Ads w v l ∧ AdT w v ∧ AdN N v
theorem AdsN.t {N : Nat} {w : World} {v : Value} {l : List AD} (h : AdsN N w v l) : AdsT w v l := ⟨h.1, h.2.1⟩
theorem AdsN.le {N M : Nat} {w : World} {v : Value} {l : List AD} (h : AdsN N w v l) (hle : M ≤ N) : AdsN M w v l := ⟨h.1, h.2.1, h.2.2.le hle⟩
theorem AdsN.below {N : Nat} {w w' : World} {v : Value} {l : List AD} (h : AdsN N w v l) (hb : Below w.heap.size w w') : AdsN N w' v l := ⟨h.1.below hb, h.2.1.below hb, h.2.2⟩
theorem AdsN.grown {N : Nat} {w w' : World} {v : Value} {l : List AD} {m : Nat} {L : Array Value} (h : AdsN N w v l) (hm : ObjAt w m L 28) (hg : w.grownBy w' (some m)) : AdsN N w' v l := ⟨(AdsT.grown h.t hm hg).1, (AdsT.grown h.t hm hg).2, h.2.2⟩
def RcN (N : Nat) (w : World) (v : Value) (l : List RC) : Prop := ∃ base q, RQ base w v q ∧ q.map Prod.fst = l ∧ ∀ x ∈ q, AdN N x.2
theorem RcN.t {N : Nat} {w : World} {v : Value} {l : List RC} (h : RcN N w v l) : RcT w v l := by
  obtain ⟨base, q, h1, h2, _⟩ := h; exact ⟨base, q, h1, h2⟩
theorem RcN.le {N M : Nat} {w : World} {v : Value} {l : List RC} (h : RcN N w v l) (hle : M ≤ N) : RcN M w v l := by
  obtain ⟨base, q, h1, h2, h3⟩ := h; exact ⟨base, q, h1, h2, fun x hx => (h3 x hx).le hle⟩
theorem RcN.rcs {N : Nat} {w : World} {v : Value} {l : List RC} (h : RcN N w v l) : Rcs w v l := h.t.rcs
theorem RcN.below {N : Nat} {w w' : World} {v : Value} {l : List RC} (h : RcN N w v l) (hb : Below w.heap.size w w') : RcN N w' v l := by
  obtain ⟨base, q, h1, h2, h3⟩ := h; exact ⟨base, q, h1.below hb, h2, h3⟩
theorem RcN.grown {N : Nat} {w w' : World} {v : Value} {l : List RC} {m : Nat} {L : Array Value} (h : RcN N w v l) (hm : ObjAt w m L 28) (hg : w.grownBy w' (some m)) : RcN N w' v l := by
  obtain ⟨base, q, h1, h2, h3⟩ := h
  exact ⟨base, q, ⟨own_grown h1.1 hm hg, fun x hx => ⟨(h1.2 x hx).1, AdsT.grown (l := x.1.src) ⟨(h1.2 x hx).2.1, (h1.2 x hx).2.2⟩ hm hg⟩⟩, h2, h3⟩
theorem FT.doneN {N : Nat} {w W : World} {t : TK} {us ur : Value} (h : FT w W t us ur) (hs : AdsN N W us t.src) (hr : RcN N W ur t.rcs) :
    row? (aggW W (w.heap.size + 1) (tkC t us ur)) (w.heap.size + 1) 0 26 = some (tkC t us ur) ∧ Below w.heap.size w (aggW W (w.heap.size + 1) (tkC t us ur)) ∧ AdsN N (aggW W (w.heap.size + 1) (tkC t us ur)) us t.src ∧ RcN N (aggW W (w.heap.size + 1) (tkC t us ur)) ur t.rcs :=
  ⟨(h.done hs.t hr.t).1, (h.done hs.t hr.t).2.1, hs.grown h.2.1 (aggW_grown _ _ _), hr.grown h.2.1 (aggW_grown _ _ _)⟩
set_option maxRecDepth 100000 in
set_option maxHeartbeats 2000000 in
theorem laddrsN_any (v : Value) (l : List AD) (n : Nat) (hn : n ≤ 1000) (w : World) (ha : Ads w v l) : Calls Tryz.prog 17 #[v, .int .i64 n] w fun x w' => ∃ v', x = .returned v' ∧ Below w.heap.size w w' ∧ AdsN w.heap.size w' v' (l.take n) := by
  obtain ⟨p, cap, rfl, hl1, hl2⟩ := ha.len
  obtain ⟨i0, hi0, hz0, hz1, hz2⟩ := info_parts info_ad
  have HRA : Hid (l ≠ [] → ∃ b o, p = some ⟨b, o, none⟩ ∧ b < w.heap.size ∧ AdsAt w b o l) := Lib.hid fun hne => by
    obtain ⟨b, o, cap', e, _, _, h3, h4⟩ := ha.parts hne
    simp only [Value.slice.injEq] at e
    exact ⟨b, o, e.1, h3, h4⟩
  have OA := Lib.hid ha.ok
  obtain ⟨q, hq⟩ : ∃ q, q = l.length := ⟨_, rfl⟩
  have HQ := Lib.hid hq
  have hmx : q ≤ maxLen := by omega
  unfold maxLen at hmx
  rw [← hq]
  clear ha hl1 hl2 hq
  go_enter Tryz.func17, Tryz.ntmps17
  go_wp2_with fail
  go_loopw [5, 6] (fun u i wr => ∃ k : Nat, k ≤ q ∧ k ≤ n ∧ i = .int .i64 k ∧ wr.ownsRow w.heap.size 24 17 u k (adsC (l.take k)) ∧ Hid (Below w.heap.size w wr)) (fun _ i _ => n - (intOf i).toNat)
  case atStart => exact ⟨0, by omega, by omega, rfl, World.ownsRow_lit w #[] 0 (Nat.le_refl _) (by unfold maxLen; omega) (by simp), Lib.hid ((Below.refl _ _).alloc (Nat.le_refl _) _)⟩
  case round =>
    obtain ⟨k, hkq, hkn, rfl, hown, HB⟩ := hrel
    have HO := Lib.hid hown
    clear hown
    by_cases h1 : k < q
    · have t1 : decide ((k : Int) < (q : Int)) = true := decide_eq_true (by omega)
      by_cases h2 : k < n
      · have t2 : decide ((k : Int) < (n : Int)) = true := decide_eq_true (by omega)
        have hk1 : (k : Int) < (q : Int) := by omega
        have g1 : k < l.length := by rw [← HQ.out]; exact h1
        obtain ⟨b, o, rfl, hbl, RA⟩ := HRA.out (fun e => by rw [e] at g1; exact absurd g1 (by simp))
        have r1 := row?_below (RA k g1) hbl HB.out
        have hw1 : IntKind.i64.wrap ((k : Int) + 1) = (k : Int) + 1 := by simp only [IntKind.wrap_i64]; omega
        have hok := OA.out _ (List.getElem_mem g1)
        have HS := Lib.hid (adsC_take g1)
        have HL := Lib.hid (adC_length hok)
        have hlit := adsLit_run _ hok
        have H1 : Hid (∀ u ∈ adC l[k], u.oneCell' = true) := Lib.hid (addrC_one _ _)
        generalize adC l[k] = A at *
        have hown := HO.out
        have hz := HB.out.size
        have hl17 := HL.out
        have h1c := H1.out
        clear RA hok
        go_wp2_with (at_builtin; refine wpList_append_own _ rfl _ _ 25 rfl w.heap.size 24 i0 (.agg #[.bool false, .int .u8 0, .int .u8 0, .int .u8 0, .int .u8 0, .int .u8 0, .int .u8 0, .int .u8 0, .int .u8 0, .int .u8 0, .int .u8 0, .int .u8 0, .int .u8 0, .int .u8 0, .int .u8 0, .int .u8 0, .int .u8 0]) 17 17 Tryz.underlying25 hi0 hz0 hz1 hz2 rfl (by decide) _ _ _ rfl (hown.alloc _) ⟨wr.heap.size, 0, none⟩ 1 1 A rfl hl17 (World.news_of_block (heap_alloc_new wr _)) h1c (by unfold maxLen; omega) (by omega) (by simp; omega) ?_; intro v' w2 hown' hgrow hnil; have Hown := Lib.hid hown'; have Hgrow := Lib.hid hgrow; clear hown' hgrow hnil hown hz hl17 h1c)
        have hv := HO.out.2
        have H2 : Hid (Below w.heap.size w w2) := Lib.hid (HB.out.alloc HB.out.size _ |>.grown Hgrow.out (by have := HB.out.size; simp; omega) (fun q hq => by
          rcases hv with ⟨e1, _⟩ | ⟨g, cap, cur, e1, e2, _⟩
          · subst e1; cases hq
          · subst e1; cases hq; exact e2))
        clear hv
        go_roundw
        case rel => exact ⟨k + 1, by omega, by omega, by go_num, by rw [HS.out]; exact Hown.out, H2⟩
        case measure => simp [intOf]; omega
      · have t2 : ¬ (k : Int) < (n : Int) := by omega
        have hk1 : (k : Int) < (q : Int) := by omega
        have hkn' : n = k := by omega
        have HE := Lib.hid (show (l.take k).length = k by rw [List.length_take, ← HQ.out]; omega)
        have HK := Lib.hid hkn'
        clear h2 hkn'
        go_wp2
        go_ret
        exact ⟨_, rfl, HB.out, by rw [HK.out]; exact ⟨Ads.own (fun a h => OA.out a (List.mem_of_mem_take h)) (own_len HO.out HE.out.symm), AdT.own HO.out, own_AdN HO.out⟩⟩
    · have t1 : ¬ (k : Int) < (q : Int) := by omega
      have HE := Lib.hid (show l.take n = l.take k ∧ (l.take k).length = k by
        have hq := HQ.out
        refine ⟨?_, by rw [List.length_take]; omega⟩
        rw [List.take_of_length_le (by omega), List.take_of_length_le (by omega)])
      clear h1
      go_wp2
      go_ret
      exact ⟨_, rfl, HB.out, by rw [HE.out.1]; exact ⟨Ads.own (fun a h => OA.out a (List.mem_of_mem_take h)) (own_len HO.out HE.out.2.symm), AdT.own HO.out, own_AdN HO.out⟩⟩
set_option maxRecDepth 100000 in
set_option maxHeartbeats 4000000 in
theorem lrecsN_any (v : Value) (l : List RC) (n : Nat) (hn : n ≤ 1000) (w : World) (ha : Rcs w v l) : Calls Tryz.prog 18 #[v, .int .i64 n] w fun x w' => ∃ v', x = .returned v' ∧ Below w.heap.size w w' ∧ RcN w.heap.size w' v' ((l.take n).map cutR) := by
  obtain ⟨p, cap, rfl, hl1, hl2⟩ := ha.len
  obtain ⟨i0, hi0, hz0, hz1, hz2⟩ := info_parts info_rec
  have HRA : Hid (l ≠ [] → ∃ b o, p = some ⟨b, o, none⟩ ∧ ∀ i (h : i < l.length), RcAt w b (o + i * 19) l[i]) := Lib.hid fun hne => by
    obtain ⟨b, o, cap', e, _, _, h4⟩ := ha.parts hne
    simp only [Value.slice.injEq] at e
    exact ⟨b, o, e.1, h4⟩
  obtain ⟨q, hq⟩ : ∃ q, q = l.length := ⟨_, rfl⟩
  have HQ := Lib.hid hq
  have hmx : q ≤ maxLen := by omega
  unfold maxLen at hmx
  rw [← hq]
  clear ha hl1 hl2 hq
  go_enter Tryz.func18, Tryz.ntmps18
  go_wp2_with fail
  go_loopw [5, 6] (fun u i wr => ∃ (k : Nat) (acc : List (RC × Value)), k ≤ q ∧ k ≤ n ∧ i = .int .i64 k ∧ acc.length = k ∧ Hid (RQ w.heap.size wr u acc) ∧ Hid (acc.map Prod.fst = (l.take k).map cutR) ∧ Hid (Below w.heap.size w wr) ∧ Hid (∀ x ∈ acc, AdN w.heap.size x.2)) (fun _ i _ => n - (intOf i).toNat)
  case atStart => exact ⟨0, [], by omega, by omega, rfl, rfl, Lib.hid ⟨World.ownsRow_lit w #[] 0 (Nat.le_refl _) (by unfold maxLen; omega) (by simp), fun x hx => by cases hx⟩, Lib.hid rfl, Lib.hid ((Below.refl _ _).alloc (Nat.le_refl _) _), Lib.hid (fun x hx => by cases hx)⟩
  case round =>
    obtain ⟨k, acc, hkq, hkn, rfl, hlen, HRQ, HAC, HB, HNA⟩ := hrel
    have HLN := Lib.hid hlen
    have hak : acc.length ≤ 1000 := by omega
    clear hlen
    by_cases h1 : k < q
    · by_cases h2 : k < n
      · have hk1 : (k : Int) < (q : Int) := by omega
        have hk2 : (k : Int) < (n : Int) := by omega
        have g1 : k < l.length := by rw [← HQ.out]; exact h1
        obtain ⟨b, o, rfl, RA⟩ := HRA.out (fun e => by rw [e] at g1; exact absurd g1 (by simp))
        obtain ⟨u, hu⟩ := (RA k g1).u
        have hw1 : IntKind.i64.wrap ((k : Int) + 1) = (k : Int) + 1 := by simp only [IntKind.wrap_i64]; omega
        have HTK := Lib.hid (cut_succ g1)
        have HO := Lib.hid hu.1
        have HAD : Hid (∀ W, Below w.heap.size w W → Calls Tryz.prog 17 #[u, .int .i64 6] W fun x w' => ∃ v', x = .returned v' ∧ Below W.heap.size W w' ∧ AdsN w.heap.size w' v' (l[k].src.take 6)) := Lib.hid fun W hb => (laddrsN_any u l[k].src 6 (by omega) W (hu.2.2.2.below hb)).mono fun x w' ⟨v', h1, h2, h3⟩ => ⟨v', h1, h2, h3.le hb.size⟩
        have HKS : Hid (∀ W, Below w.heap.size w W → W.cell? ⟨b, o + k * 19, none⟩ = some (.int .i64 l[k].kind) ∧ row? W b (o + k * 19 + 1) 17 = some (adC l[k].g) ∧ W.cell? ⟨b, o + k * 19 + 18, none⟩ = some u) := Lib.hid fun W hb => (hu.below hb).cells
        clear hu RA
        generalize l[k] = x at *
        obtain ⟨xk, xg, xs⟩ := x
        simp only at HO HAD HKS HTK
        obtain ⟨ys, hys⟩ : ∃ ys, ys = xs.take 6 := ⟨_, rfl⟩
        rw [← hys] at HAD
        have HYS := Lib.hid hys
        clear hys
        have hmul : ((k : Int) * 19).toNat = k * 19 := by omega
        go_upto_region 5 with (fail)
        refine wp_region_held_drew (S := fun W => W.cell? ⟨b, o + k * 19, none⟩ = some (.int .i64 xk) ∧ row? W b (o + k * 19 + 1) 17 = some (adC xg) ∧ W.cell? ⟨b, o + k * 19 + 18, none⟩ = some u) (by kernel_rfl) (HKS.out _ (bdrewN HB.out 1)) (fun hHeld => ?_)
        have HBd := Lib.hid (show Below w.heap.size w wr.drew from bdrewN HB.out 1)
        have HRd := Lib.hid (show RQ w.heap.size wr.drew u5 acc from HRQ.out.below (bdrewN (Below.refl _ _) 1))
        generalize wr.drew = wd at HBd HRd hHeld ⊢
        refine wpAnyH_take (i := 0) (oi := { dst := some 19, op := _, type := _, pos := _, after := _, guard := _ }) (v := ?v1) rfl (by kernel_rfl) (by kernel_rfl) (by kernel_rfl) (fun _ _ _ h => h) (Or.inl ⟨by rfl, ?y1⟩) (by assumption) ?r1
        case y1 => (intro w hSw; go_simp; try with_reducible rfl)
        try simp only [Act.put, List.setIfInBounds_toArray, List.set_cons_zero, List.set_cons_succ]
        refine wpAnyH_take (i := 1) (oi := { dst := some 20, op := _, type := _, pos := _, after := _, guard := _ }) (v := ?v2) rfl (by kernel_rfl) (by kernel_rfl) (by kernel_rfl) (fun _ _ _ h => h) (Or.inl ⟨by rfl, ?y2⟩) (by assumption) ?r2
        case y2 => (intro w hSw; go_simp; try with_reducible rfl)
        try simp only [Act.put, List.setIfInBounds_toArray, List.set_cons_zero, List.set_cons_succ]
        refine wpAnyH_take (i := 2) (oi := { dst := some 21, op := _, type := _, pos := _, after := _, guard := _ }) (v := ?v3) rfl (by kernel_rfl) (by kernel_rfl) (by kernel_rfl) (fun _ _ _ h => h) (Or.inl ⟨by rfl, ?y3⟩) (by assumption) ?r3
        case y3 => (intro w hSw; go_simp; try with_reducible rfl)
        try simp only [Act.put, List.setIfInBounds_toArray, List.set_cons_zero, List.set_cons_succ]
        refine wpAnyH_take (i := 3) (oi := { dst := some 22, op := _, type := _, pos := _, after := _, guard := _ }) (v := ?v4) rfl (by kernel_rfl) (by kernel_rfl) (by kernel_rfl) (fun _ _ _ h => h) (Or.inl ⟨by rfl, ?y4⟩) (by assumption) ?r4
        case y4 => (intro w hSw; go_simp; try with_reducible rfl)
        try simp only [Act.put, List.setIfInBounds_toArray, List.set_cons_zero, List.set_cons_succ]
        refine wpAnyH_take (i := 4) (oi := { dst := some 23, op := _, type := _, pos := _, after := _, guard := _ }) (v := ?v5) rfl (by kernel_rfl) (by kernel_rfl) (by kernel_rfl) (fun _ _ _ h => h) (Or.inl ⟨by rfl, ?y5⟩) (by assumption) ?r5
        case y5 => (intro w hSw; go_simp; try with_reducible rfl)
        try simp only [Act.put, List.setIfInBounds_toArray, List.set_cons_zero, List.set_cons_succ]
        refine wpAnyH_take (i := 5) (oi := { dst := some 24, op := _, type := _, pos := _, after := _, guard := _ }) (v := ?v6) rfl (by kernel_rfl) (by kernel_rfl) (by kernel_rfl) (fun _ _ _ h => h) (Or.inl ⟨by rfl, ?y6⟩) (by assumption) ?r6
        case y6 => (intro w hSw; go_simp; try with_reducible rfl)
        try simp only [Act.put, List.setIfInBounds_toArray, List.set_cons_zero, List.set_cons_succ]
        refine wpAnyH_take (i := 6) (oi := { dst := some 25, op := _, type := _, pos := _, after := _, guard := _ }) (v := ?v7) rfl (by kernel_rfl) (by kernel_rfl) (by kernel_rfl) (fun _ _ _ h => h) (Or.inl ⟨by rfl, ?y7⟩) (by assumption) ?r7
        case y7 => (intro w hSw; go_simp; try with_reducible rfl)
        try simp only [Act.put, List.setIfInBounds_toArray, List.set_cons_zero, List.set_cons_succ]
        refine wpAnyH_take (i := 7) (oi := { dst := some 26, op := _, type := _, pos := _, after := _, guard := _ }) (v := ?v8) rfl (by kernel_rfl) (by kernel_rfl) (by kernel_rfl) (fun _ _ _ h => h) (Or.inl ⟨by rfl, ?y8⟩) (by assumption) ?r8
        case y8 => (intro w hSw; go_simp; try with_reducible rfl)
        try simp only [Act.put, List.setIfInBounds_toArray, List.set_cons_zero, List.set_cons_succ]
        refine wpAnyH_take (i := 8) (oi := { dst := some 27, op := _, type := _, pos := _, after := _, guard := _ }) (v := ?v9) rfl (by kernel_rfl) (by kernel_rfl) (by kernel_rfl) (fun _ _ _ h => h) (Or.inl ⟨by rfl, ?y9⟩) (by assumption) ?r9
        case y9 => (intro w hSw; go_simp; try with_reducible rfl)
        try simp only [Act.put, List.setIfInBounds_toArray, List.set_cons_zero, List.set_cons_succ]
        refine wpAnyH_take (i := 9) (oi := { dst := some 28, op := _, type := _, pos := _, after := _, guard := _ }) (v := ?v10) rfl (by kernel_rfl) (by kernel_rfl) (by kernel_rfl) (fun _ _ _ h => h) (Or.inl ⟨by rfl, ?y10⟩) (by assumption) ?r10
        case y10 => (intro w hSw; go_simp; try with_reducible rfl)
        try simp only [Act.put, List.setIfInBounds_toArray, List.set_cons_zero, List.set_cons_succ]
        refine wpAnyH_take (i := 10) (oi := { dst := some 29, op := _, type := _, pos := _, after := _, guard := _ }) (v := ?v11) rfl (by kernel_rfl) (by kernel_rfl) (by kernel_rfl) (fun _ _ _ h => h) (Or.inl ⟨by rfl, ?y11⟩) (by assumption) ?r11
        case y11 => (intro w hSw; go_simp; try with_reducible rfl)
        try simp only [Act.put, List.setIfInBounds_toArray, List.set_cons_zero, List.set_cons_succ]
        refine wpAnyH_take (i := 11) (oi := { dst := some 30, op := _, type := _, pos := _, after := _, guard := _ }) (v := ?v12) rfl (by kernel_rfl) (by kernel_rfl) (by kernel_rfl) (fun _ _ _ h => h) (Or.inl ⟨by rfl, ?y12⟩) (by assumption) ?r12
        case y12 => (intro w hSw; go_simp; try with_reducible rfl)
        try simp only [Act.put, List.setIfInBounds_toArray, List.set_cons_zero, List.set_cons_succ]
        refine wpAnyH_take (i := 12) (oi := { dst := some 31, op := _, type := _, pos := _, after := _, guard := _ }) (v := ?v13) rfl (by kernel_rfl) (by kernel_rfl) (by kernel_rfl) (fun _ _ _ h => h) (Or.inl ⟨by rfl, ?y13⟩) (by assumption) ?r13
        case y13 => (intro w hSw; go_simp; try with_reducible rfl)
        try simp only [Act.put, List.setIfInBounds_toArray, List.set_cons_zero, List.set_cons_succ]
        refine wpAnyH_take (i := 13) (oi := { dst := some 32, op := _, type := _, pos := _, after := _, guard := _ }) (v := ?v14) rfl (by kernel_rfl) (by kernel_rfl) (by kernel_rfl) (fun _ _ _ h => h) (Or.inl ⟨by rfl, ?y14⟩) (by assumption) ?r14
        case y14 => (intro w hSw; go_simp; try with_reducible rfl)
        try simp only [Act.put, List.setIfInBounds_toArray, List.set_cons_zero, List.set_cons_succ]
        refine wpAnyH_take (i := 14) (oi := { dst := some 33, op := _, type := _, pos := _, after := _, guard := _ }) (v := ?v15) rfl (by kernel_rfl) (by kernel_rfl) (by kernel_rfl) (fun _ _ _ h => h) (Or.inl ⟨by rfl, ?y15⟩) (by assumption) ?r15
        case y15 => (intro w hSw; go_simp; try with_reducible rfl)
        try simp only [Act.put, List.setIfInBounds_toArray, List.set_cons_zero, List.set_cons_succ]
        refine wpAnyH_take (i := 15) (oi := { dst := some 34, op := _, type := _, pos := _, after := _, guard := _ }) (v := ?v16) rfl (by kernel_rfl) (by kernel_rfl) (by kernel_rfl) (fun _ _ _ h => h) (Or.inl ⟨by rfl, ?y16⟩) (by assumption) ?r16
        case y16 => (intro w hSw; go_simp; try with_reducible rfl)
        try simp only [Act.put, List.setIfInBounds_toArray, List.set_cons_zero, List.set_cons_succ]
        refine wpAnyH_ready (rs := [16]) (by kernel_rfl) (by simp) (AllReadyH.cons (o := _) rfl (fun K hK => ?_) AllReadyH.nil)
        go_simp
        (go_at_call 17; (with_reducible refine (HAD.out _ HBd.out).mono ?_); rintro x w6 ⟨v6, rfl, hb6, ha6⟩; obtain ⟨pp6, cc6, ev6, hl6, hc6⟩ := ha6.1.len; subst ev6; have H6 := Lib.hid hb6; have HB6 := Lib.hid (bstep HBd.out hb6); have HA6 := Lib.hid ha6; have HQ6 := Lib.hid (HRd.out.below hb6); clear hb6 ha6)
        try go_wp2_with fail
        refine hK.out _ _ (HKS.out _ HB6.out) (fun hHeld => ?_)
        clear hK K
        try simp only [Act.put, List.setIfInBounds_toArray, List.set_cons_zero, List.set_cons_succ]
        have hbr := bldr_rec xk xg HO.out ys pp6 ys.length cc6
        have hlit := rcsLit_run ⟨xk, xg, ys⟩ HO.out pp6 ys.length cc6
        have HL19 := Lib.hid (rcC_length (r := ⟨xk, xg, ys⟩) HO.out (.slice pp6 ys.length cc6))
        have HC1 : Hid (∀ u ∈ rcC ⟨xk, xg, ys⟩ (.slice pp6 ys.length cc6), u.oneCell' = true) := Lib.hid (rcC_one rfl)
        generalize hCS : rcC ⟨xk, xg, ys⟩ (.slice pp6 ys.length cc6) = CS at hbr hlit HL19 HC1
        have HCS := Lib.hid hCS
        clear hCS
        refine wpAnyH_take (i := 17) (oi := { dst := some 36, op := _, type := _, pos := _, after := _, guard := _ }) (v := ?v17) rfl (by kernel_rfl) (by kernel_rfl) (by kernel_rfl) (fun _ _ _ h => h) (Or.inl ⟨by rfl, ?y17⟩) (by assumption) ?r17
        case y17 => (intro w hSw; go_simp; try with_reducible rfl)
        try simp only [Act.put, List.setIfInBounds_toArray, List.set_cons_zero, List.set_cons_succ]
        refine wpAnyH_ready (rs := [18]) (by kernel_rfl) (by simp) (AllReadyH.cons (o := _) rfl (fun K hK => ?_) AllReadyH.nil)
        go_simp
        refine hK.out _ _ (HKS.out _ (HB6.out.alloc HB6.out.size _)) (fun hHeld => ?_)
        clear hK K
        try simp only [Act.put, List.setIfInBounds_toArray, List.set_cons_zero, List.set_cons_succ]
        have hba : Below w6.heap.size w6 (w6.alloc (.cells CS.toArray 62)) := (Below.refl _ _).alloc (Nat.le_refl _) _
        have HBA := Lib.hid hba
        clear hba
        refine wpAnyH_ready (rs := [19]) (by kernel_rfl) (by simp) (AllReadyH.cons (o := _) rfl (fun K hK => ?_) AllReadyH.nil)
        rw [if_pos (by rfl)]
        have hown := HQ6.out.1
        have hz := HB6.out.size
        refine wp_append_own _ _ _ 26 rfl w.heap.size 62 i0 (.agg #[.int .i64 0, .bool false, .int .u8 0, .int .u8 0, .int .u8 0, .int .u8 0, .int .u8 0, .int .u8 0, .int .u8 0, .int .u8 0, .int .u8 0, .int .u8 0, .int .u8 0, .int .u8 0, .int .u8 0, .int .u8 0, .int .u8 0, .int .u8 0, .slice none 0 0]) 19 56 Tryz.underlying26 hi0 hz0 hz1 hz2 rfl (by decide) _ acc.length (rqC acc) rfl (hown.alloc _) ⟨w6.heap.size, 0, none⟩ 1 1 CS rfl HL19.out (World.news_of_block (heap_alloc_new w6 _)) HC1.out (by unfold maxLen; omega) (by omega) (by simp; omega) ?_
        intro v8 w8 hown8 hgrow hnil
        have Hown := Lib.hid hown8
        have Hgrow := Lib.hid hgrow
        clear hown8 hgrow hnil hown hz
        have hv := HRd.out.1.2
        have HB8 : Hid (Below w.heap.size w w8) := Lib.hid ((bstep HB6.out HBA.out).grown Hgrow.out (by have := Nat.le_trans HB6.out.size HBA.out.size; exact this) (fun q hq => by
          rcases hv with ⟨e1, _⟩ | ⟨g, cap, cur, e1, e2, _⟩
          · subst e1; cases hq
          · subst e1; cases hq; exact e2))
        clear hv
        refine hK.out _ _ (HKS.out _ HB8.out) (fun hHeld => ?_)
        clear hK K
        try simp only [Act.put, List.setIfInBounds_toArray, List.set_cons_zero, List.set_cons_succ]
        have HQ8 := Lib.hid (RQ.snoc (HQ6.out.below HBA.out) ⟨HO.out, HA6.out.1.below HBA.out, HA6.out.2.1.below HBA.out⟩ (by rw [HCS.out]; exact Hown.out) Hgrow.out)
        refine wpAnyH_take (i := 20) (oi := { dst := some 5, op := _, type := _, pos := _, after := _, guard := _ }) (v := ?v18) rfl (by kernel_rfl) (by kernel_rfl) (by kernel_rfl) (fun _ _ _ h => h) (Or.inl ⟨by rfl, ?y18⟩) (by assumption) ?r18
        case y18 => (intro w hSw; go_simp; try with_reducible rfl)
        try simp only [Act.put, List.setIfInBounds_toArray, List.set_cons_zero, List.set_cons_succ]
        refine wpAnyH_done (by kernel_rfl) ?_ _
        go_wp2_with fail
        go_roundw
        case rel => exact ⟨k + 1, acc ++ [(⟨xk, xg, ys⟩, .slice pp6 ys.length cc6)], by omega, by omega, by go_num, by rw [List.length_append]; simp; exact HLN.out, HQ8, Lib.hid (by rw [List.map_append, HAC.out, HTK.out, HYS.out]; rfl), HB8, Lib.hid (fun x hx => by
            rcases List.mem_append.1 hx with hx | hx
            · exact HNA.out x hx
            · rw [List.mem_singleton] at hx; subst hx; exact HA6.out.2.2)⟩
        case measure => simp [intOf]; omega
      · have t2 : ¬ (k : Int) < (n : Int) := by omega
        have hk1 : (k : Int) < (q : Int) := by omega
        have HK := Lib.hid (show n = k by omega)
        clear h2
        go_wp2
        go_ret
        exact ⟨u5, rfl, HB.out, by first | (rw [HK.out]; exact ⟨_, acc, HRQ.out, HAC.out, HNA.out⟩) | (rw [← List.map_take, HK.out]; exact ⟨_, acc, HRQ.out, HAC.out, HNA.out⟩)⟩
    · have t1 : ¬ (k : Int) < (q : Int) := by omega
      have HE := Lib.hid (show l.take n = l.take k by
        have hq := HQ.out
        rw [List.take_of_length_le (by omega), List.take_of_length_le (by omega)])
      clear h1
      go_wp2
      go_ret
      exact ⟨u5, rfl, HB.out, by first | (rw [HE.out]; exact ⟨_, acc, HRQ.out, HAC.out, HNA.out⟩) | (rw [← List.map_take, HE.out]; exact ⟨_, acc, HRQ.out, HAC.out, HNA.out⟩)⟩
set_option maxRecDepth 100000 in
set_option maxHeartbeats 4000000 in
theorem lfewN_any (t : TK) (us0 ur0 : Value) (w : World) (ho : adOk t.g) (ha : Ads w us0 t.src) (hr : Rcs w ur0 t.rcs) : Calls Tryz.prog 6 #[.agg (tkC t us0 ur0).toArray] w fun x w' => ∃ us ur, x = .returned (.agg (tkC (fewT t) us ur).toArray) ∧ Below w.heap.size w w' ∧ AdsN w.heap.size w' us (fewT t).src ∧ RcN w.heap.size w' ur (fewT t).rcs := by
  have H0 := Lib.hid (FT.made w t us0 ur0 ho)
  have HO := Lib.hid ho
  have HAD : Hid (∀ W, Below w.heap.size w W → Calls Tryz.prog 17 #[us0, .int .i64 6] W fun x w' => ∃ v', x = .returned v' ∧ Below W.heap.size W w' ∧ AdsN w.heap.size w' v' (t.src.take 6)) := Lib.hid fun W h => (laddrsN_any us0 t.src 6 (by omega) W (ha.below h)).mono fun x w' ⟨v', h1, h2, h3⟩ => ⟨v', h1, h2, h3.le h.size⟩
  have HRD : Hid (∀ W, Below w.heap.size w W → Calls Tryz.prog 18 #[ur0, .int .i64 6] W fun x w' => ∃ v', x = .returned v' ∧ Below W.heap.size W w' ∧ RcN w.heap.size w' v' ((t.rcs.take 6).map cutR)) := Lib.hid fun W h => (lrecsN_any ur0 t.rcs 6 (by omega) W (hr.below h)).mono fun x w' ⟨v', h1, h2, h3⟩ => ⟨v', h1, h2, h3.le h.size⟩
  obtain ⟨L1, hL1⟩ : ∃ l, l = t.src.take 6 := ⟨_, rfl⟩
  obtain ⟨L2, hL2⟩ : ∃ l, l = (t.rcs.take 6).map cutR := ⟨_, rfl⟩
  rw [← hL1] at HAD
  rw [← hL2] at HRD
  have HF : Hid (fewT t = ⟨t.v6, t.ver, t.kind, t.resp, t.g, t.quiet, t.rob, t.every, L1, L2⟩) := Lib.hid (by rw [hL1, hL2]; rfl)
  generalize fewT t = F at HF ⊢
  clear hL1 hL2 ha hr ho
  go_enter Tryz.func6, Tryz.ntmps6
  go_upto_region 1 with (fail)
  generalize (w.alloc (.cells (tkC t us0 ur0).toArray 28)).alloc (.cells #[.bool false, .int .i64 0, .int .i64 0, .int .i64 0, .bool false, .int .u8 0, .int .u8 0, .int .u8 0, .int .u8 0, .int .u8 0, .int .u8 0, .int .u8 0, .int .u8 0, .int .u8 0, .int .u8 0, .int .u8 0, .int .u8 0, .int .u8 0, .int .u8 0, .int .u8 0, .int .u8 0, .bool false, .int .i64 0, .int .i64 0, .slice none 0 0, .slice none 0 0] 28) = W at H0 ⊢
  go_cut [] from 3 (fun wr => ∃ us ur, FT w wr ⟨t.v6, t.ver, t.kind, t.resp, t.g, t.quiet, t.rob, t.every, L1, L2⟩ us ur ∧ AdsN w.heap.size wr us L1 ∧ RcN w.heap.size wr ur L2)
  case first =>
    refine wp_region_held_drew (S := fun _ => True) (by kernel_rfl) (trivial) (fun hHeld => ?_)
    have Ha := Lib.hid (show FT w W.drew t us0 ur0 from H0.out.below ⟨rfl, rfl, rfl, Nat.le_refl _, fun _ _ => rfl⟩)
    generalize W.drew = wa at Ha ⊢
    have HBa := Lib.hid Ha.out.2.2
    obtain ⟨k1, k2, k3⟩ := Ha.out.c
    refine wpAnyH_take (i := 0) (oi := { dst := some 3, op := _, type := _, pos := _, after := _, guard := _ }) (v := ?v1) rfl (by kernel_rfl) (by kernel_rfl) (by kernel_rfl) (fun _ _ _ h => h) (Or.inl ⟨by rfl, ?y1⟩) (by assumption) ?r1
    case y1 => (intro w hSw; go_simp; try with_reducible rfl)
    try simp only [Act.put, List.setIfInBounds_toArray, List.set_cons_zero, List.set_cons_succ]
    refine wpAnyH_take (i := 3) (oi := { dst := some 6, op := _, type := _, pos := _, after := _, guard := _ }) (v := ?v2) rfl (by kernel_rfl) (by kernel_rfl) (by kernel_rfl) (fun _ _ _ h => h) (Or.inl ⟨by rfl, ?y2⟩) (by assumption) ?r2
    case y2 => (intro w hSw; go_simp; try with_reducible rfl)
    try simp only [Act.put, List.setIfInBounds_toArray, List.set_cons_zero, List.set_cons_succ]
    refine wpAnyH_ready (rs := [1, 4]) (by kernel_rfl) (by simp) (AllReadyH.cons (o := _) rfl (fun K hK => ?_) (AllReadyH.cons (o := _) rfl (fun K hK => ?_) AllReadyH.nil))
    · go_simp
      refine hK.out _ _ (trivial) (fun hHeld => ?_)
      clear hK K
      try simp only [Act.put, List.setIfInBounds_toArray, List.set_cons_zero, List.set_cons_succ]
      refine wpAnyH_ready (rs := [2, 4]) (by kernel_rfl) (by simp) (AllReadyH.cons (o := _) rfl (fun K hK => ?_) (AllReadyH.cons (o := _) rfl (fun K hK => ?_) AllReadyH.nil))
      · go_simp
        (go_at_call 17; (with_reducible refine (HAD.out _ HBa.out).mono ?_); rintro x wb ⟨v2, rfl, hb2, ha2⟩; obtain ⟨pp2, cc2, ev2, hl2, hc2⟩ := ha2.1.len; subst ev2; have Hb := Lib.hid (Ha.out.below hb2); have HBb := Lib.hid Hb.out.2.2; have HA := Lib.hid ha2; clear hb2 ha2 k1 k2 k3; obtain ⟨k1, k2, k3⟩ := Hb.out.c)
        try go_wp2_with fail
        refine hK.out _ _ (trivial) (fun hHeld => ?_)
        clear hK K
        try simp only [Act.put, List.setIfInBounds_toArray, List.set_cons_zero, List.set_cons_succ]
        refine wpAnyH_ready (rs := [4]) (by kernel_rfl) (by simp) (AllReadyH.cons (o := _) rfl (fun K hK => ?_) AllReadyH.nil)
        go_simp
        refine hK.out _ _ (trivial) (fun hHeld => ?_)
        clear hK K
        try simp only [Act.put, List.setIfInBounds_toArray, List.set_cons_zero, List.set_cons_succ]
        refine wpAnyH_take (i := 6) (oi := { dst := some 9, op := _, type := _, pos := _, after := _, guard := _ }) (v := ?v3) rfl (by kernel_rfl) (by kernel_rfl) (by kernel_rfl) (fun _ _ _ h => h) (Or.inl ⟨by rfl, ?y3⟩) (by assumption) ?r3
        case y3 => (intro w hSw; go_simp; try with_reducible rfl)
        try simp only [Act.put, List.setIfInBounds_toArray, List.set_cons_zero, List.set_cons_succ]
        refine wpAnyH_ready (rs := [5]) (by kernel_rfl) (by simp) (AllReadyH.cons (o := _) rfl (fun K hK => ?_) AllReadyH.nil)
        go_simp
        (go_at_call 18; (with_reducible refine (HRD.out _ HBb.out).mono ?_); rintro x wc ⟨v5, rfl, hb5, ha5⟩; obtain ⟨pp5, cc5, ev5, hl5, hc5⟩ := ha5.rcs.len; subst ev5; have Hc := Lib.hid (Hb.out.below hb5); have HBc := Lib.hid Hc.out.2.2; have HA5 := Lib.hid (HA.out.below hb5); have HR5 := Lib.hid ha5; clear hb5 ha5 k1 k2 k3; obtain ⟨k1, k2, k3⟩ := Hc.out.c)
        try go_wp2_with fail
        refine hK.out _ _ (trivial) (fun hHeld => ?_)
        clear hK K
        try simp only [Act.put, List.setIfInBounds_toArray, List.set_cons_zero, List.set_cons_succ]
        refine wpAnyH_ready (rs := [7]) (by kernel_rfl) (by simp) (AllReadyH.cons (o := _) rfl (fun K hK => ?_) AllReadyH.nil)
        go_simp
        refine hK.out _ _ (trivial) (fun hHeld => ?_)
        clear hK K
        try simp only [Act.put, List.setIfInBounds_toArray, List.set_cons_zero, List.set_cons_succ]
        have Hd := Lib.hid (Hc.out.set 24 (.slice pp2 L1.length cc2) (tkC_src t us0 ur0 HO.out (.slice pp2 L1.length cc2) L1) HO.out)
        have HAd := Lib.hid (HA5.out.grown Hc.out.1.1 (gset _ _ 24 (.slice pp2 L1.length cc2)))
        have HRd := Lib.hid (HR5.out.grown Hc.out.1.1 (gset _ _ 24 (.slice pp2 L1.length cc2)))
        generalize World.setCell wc ⟨w.heap.size, 24, none⟩ _ = wd at Hd HAd HRd ⊢
        clear k1 k2 k3
        obtain ⟨k1, k2, k3⟩ := Hd.out.c
        refine wpAnyH_take (i := 8) (oi := { dst := some 10, op := _, type := _, pos := _, after := _, guard := _ }) (v := ?v4) rfl (by kernel_rfl) (by kernel_rfl) (by kernel_rfl) (fun _ _ _ h => h) (Or.inl ⟨by rfl, ?y4⟩) (by assumption) ?r4
        case y4 => (intro w hSw; go_simp; try with_reducible rfl)
        try simp only [Act.put, List.setIfInBounds_toArray, List.set_cons_zero, List.set_cons_succ]
        refine wpAnyH_ready (rs := [9]) (by kernel_rfl) (by simp) (AllReadyH.cons (o := _) rfl (fun K hK => ?_) AllReadyH.nil)
        go_simp
        refine hK.out _ _ (trivial) (fun hHeld => ?_)
        clear hK K
        try simp only [Act.put, List.setIfInBounds_toArray, List.set_cons_zero, List.set_cons_succ]
        have He := Lib.hid (Hd.out.set 25 (.slice pp5 L2.length cc5) (tkC_rcs _ _ _ HO.out (.slice pp5 L2.length cc5) L2) HO.out)
        have HAe := Lib.hid (HAd.out.grown Hd.out.1.1 (gset _ _ 25 (.slice pp5 L2.length cc5)))
        have HRe := Lib.hid (HRd.out.grown Hd.out.1.1 (gset _ _ 25 (.slice pp5 L2.length cc5)))
        generalize World.setCell wd ⟨w.heap.size, 25, none⟩ _ = we at He HAe HRe ⊢
        clear k1 k2 k3
        refine wpAnyH_done (by kernel_rfl) ?_ _
        go_wp2_with fail
        go_meet
        case rel => exact ⟨_, _, He.out, HAe.out, HRe.out⟩
      · go_simp
        refine hK.out _ _ (trivial) (fun hHeld => ?_)
        clear hK K
        try simp only [Act.put, List.setIfInBounds_toArray, List.set_cons_zero, List.set_cons_succ]
        refine wpAnyH_ready (rs := [2]) (by kernel_rfl) (by simp) (AllReadyH.cons (o := _) rfl (fun K hK => ?_) AllReadyH.nil)
        go_simp
        (go_at_call 17; (with_reducible refine (HAD.out _ HBa.out).mono ?_); rintro x wb ⟨v2, rfl, hb2, ha2⟩; obtain ⟨pp2, cc2, ev2, hl2, hc2⟩ := ha2.1.len; subst ev2; have Hb := Lib.hid (Ha.out.below hb2); have HBb := Lib.hid Hb.out.2.2; have HA := Lib.hid ha2; clear hb2 ha2 k1 k2 k3; obtain ⟨k1, k2, k3⟩ := Hb.out.c)
        try go_wp2_with fail
        refine hK.out _ _ (trivial) (fun hHeld => ?_)
        clear hK K
        try simp only [Act.put, List.setIfInBounds_toArray, List.set_cons_zero, List.set_cons_succ]
        refine wpAnyH_take (i := 6) (oi := { dst := some 9, op := _, type := _, pos := _, after := _, guard := _ }) (v := ?v5) rfl (by kernel_rfl) (by kernel_rfl) (by kernel_rfl) (fun _ _ _ h => h) (Or.inl ⟨by rfl, ?y5⟩) (by assumption) ?r5
        case y5 => (intro w hSw; go_simp; try with_reducible rfl)
        try simp only [Act.put, List.setIfInBounds_toArray, List.set_cons_zero, List.set_cons_succ]
        refine wpAnyH_ready (rs := [5]) (by kernel_rfl) (by simp) (AllReadyH.cons (o := _) rfl (fun K hK => ?_) AllReadyH.nil)
        go_simp
        (go_at_call 18; (with_reducible refine (HRD.out _ HBb.out).mono ?_); rintro x wc ⟨v5, rfl, hb5, ha5⟩; obtain ⟨pp5, cc5, ev5, hl5, hc5⟩ := ha5.rcs.len; subst ev5; have Hc := Lib.hid (Hb.out.below hb5); have HBc := Lib.hid Hc.out.2.2; have HA5 := Lib.hid (HA.out.below hb5); have HR5 := Lib.hid ha5; clear hb5 ha5 k1 k2 k3; obtain ⟨k1, k2, k3⟩ := Hc.out.c)
        try go_wp2_with fail
        refine hK.out _ _ (trivial) (fun hHeld => ?_)
        clear hK K
        try simp only [Act.put, List.setIfInBounds_toArray, List.set_cons_zero, List.set_cons_succ]
        refine wpAnyH_ready (rs := [7]) (by kernel_rfl) (by simp) (AllReadyH.cons (o := _) rfl (fun K hK => ?_) AllReadyH.nil)
        go_simp
        refine hK.out _ _ (trivial) (fun hHeld => ?_)
        clear hK K
        try simp only [Act.put, List.setIfInBounds_toArray, List.set_cons_zero, List.set_cons_succ]
        have Hd := Lib.hid (Hc.out.set 24 (.slice pp2 L1.length cc2) (tkC_src t us0 ur0 HO.out (.slice pp2 L1.length cc2) L1) HO.out)
        have HAd := Lib.hid (HA5.out.grown Hc.out.1.1 (gset _ _ 24 (.slice pp2 L1.length cc2)))
        have HRd := Lib.hid (HR5.out.grown Hc.out.1.1 (gset _ _ 24 (.slice pp2 L1.length cc2)))
        generalize World.setCell wc ⟨w.heap.size, 24, none⟩ _ = wd at Hd HAd HRd ⊢
        clear k1 k2 k3
        obtain ⟨k1, k2, k3⟩ := Hd.out.c
        refine wpAnyH_take (i := 8) (oi := { dst := some 10, op := _, type := _, pos := _, after := _, guard := _ }) (v := ?v6) rfl (by kernel_rfl) (by kernel_rfl) (by kernel_rfl) (fun _ _ _ h => h) (Or.inl ⟨by rfl, ?y6⟩) (by assumption) ?r6
        case y6 => (intro w hSw; go_simp; try with_reducible rfl)
        try simp only [Act.put, List.setIfInBounds_toArray, List.set_cons_zero, List.set_cons_succ]
        refine wpAnyH_ready (rs := [9]) (by kernel_rfl) (by simp) (AllReadyH.cons (o := _) rfl (fun K hK => ?_) AllReadyH.nil)
        go_simp
        refine hK.out _ _ (trivial) (fun hHeld => ?_)
        clear hK K
        try simp only [Act.put, List.setIfInBounds_toArray, List.set_cons_zero, List.set_cons_succ]
        have He := Lib.hid (Hd.out.set 25 (.slice pp5 L2.length cc5) (tkC_rcs _ _ _ HO.out (.slice pp5 L2.length cc5) L2) HO.out)
        have HAe := Lib.hid (HAd.out.grown Hd.out.1.1 (gset _ _ 25 (.slice pp5 L2.length cc5)))
        have HRe := Lib.hid (HRd.out.grown Hd.out.1.1 (gset _ _ 25 (.slice pp5 L2.length cc5)))
        generalize World.setCell wd ⟨w.heap.size, 25, none⟩ _ = we at He HAe HRe ⊢
        clear k1 k2 k3
        refine wpAnyH_done (by kernel_rfl) ?_ _
        go_wp2_with fail
        go_meet
        case rel => exact ⟨_, _, He.out, HAe.out, HRe.out⟩
    · go_simp
      refine hK.out _ _ (trivial) (fun hHeld => ?_)
      clear hK K
      try simp only [Act.put, List.setIfInBounds_toArray, List.set_cons_zero, List.set_cons_succ]
      refine wpAnyH_ready (rs := [1]) (by kernel_rfl) (by simp) (AllReadyH.cons (o := _) rfl (fun K hK => ?_) AllReadyH.nil)
      go_simp
      refine hK.out _ _ (trivial) (fun hHeld => ?_)
      clear hK K
      try simp only [Act.put, List.setIfInBounds_toArray, List.set_cons_zero, List.set_cons_succ]
      refine wpAnyH_ready (rs := [2]) (by kernel_rfl) (by simp) (AllReadyH.cons (o := _) rfl (fun K hK => ?_) AllReadyH.nil)
      go_simp
      (go_at_call 17; (with_reducible refine (HAD.out _ HBa.out).mono ?_); rintro x wb ⟨v2, rfl, hb2, ha2⟩; obtain ⟨pp2, cc2, ev2, hl2, hc2⟩ := ha2.1.len; subst ev2; have Hb := Lib.hid (Ha.out.below hb2); have HBb := Lib.hid Hb.out.2.2; have HA := Lib.hid ha2; clear hb2 ha2 k1 k2 k3; obtain ⟨k1, k2, k3⟩ := Hb.out.c)
      try go_wp2_with fail
      refine hK.out _ _ (trivial) (fun hHeld => ?_)
      clear hK K
      try simp only [Act.put, List.setIfInBounds_toArray, List.set_cons_zero, List.set_cons_succ]
      refine wpAnyH_take (i := 6) (oi := { dst := some 9, op := _, type := _, pos := _, after := _, guard := _ }) (v := ?v7) rfl (by kernel_rfl) (by kernel_rfl) (by kernel_rfl) (fun _ _ _ h => h) (Or.inl ⟨by rfl, ?y7⟩) (by assumption) ?r7
      case y7 => (intro w hSw; go_simp; try with_reducible rfl)
      try simp only [Act.put, List.setIfInBounds_toArray, List.set_cons_zero, List.set_cons_succ]
      refine wpAnyH_ready (rs := [5]) (by kernel_rfl) (by simp) (AllReadyH.cons (o := _) rfl (fun K hK => ?_) AllReadyH.nil)
      go_simp
      (go_at_call 18; (with_reducible refine (HRD.out _ HBb.out).mono ?_); rintro x wc ⟨v5, rfl, hb5, ha5⟩; obtain ⟨pp5, cc5, ev5, hl5, hc5⟩ := ha5.rcs.len; subst ev5; have Hc := Lib.hid (Hb.out.below hb5); have HBc := Lib.hid Hc.out.2.2; have HA5 := Lib.hid (HA.out.below hb5); have HR5 := Lib.hid ha5; clear hb5 ha5 k1 k2 k3; obtain ⟨k1, k2, k3⟩ := Hc.out.c)
      try go_wp2_with fail
      refine hK.out _ _ (trivial) (fun hHeld => ?_)
      clear hK K
      try simp only [Act.put, List.setIfInBounds_toArray, List.set_cons_zero, List.set_cons_succ]
      refine wpAnyH_ready (rs := [7]) (by kernel_rfl) (by simp) (AllReadyH.cons (o := _) rfl (fun K hK => ?_) AllReadyH.nil)
      go_simp
      refine hK.out _ _ (trivial) (fun hHeld => ?_)
      clear hK K
      try simp only [Act.put, List.setIfInBounds_toArray, List.set_cons_zero, List.set_cons_succ]
      have Hd := Lib.hid (Hc.out.set 24 (.slice pp2 L1.length cc2) (tkC_src t us0 ur0 HO.out (.slice pp2 L1.length cc2) L1) HO.out)
      have HAd := Lib.hid (HA5.out.grown Hc.out.1.1 (gset _ _ 24 (.slice pp2 L1.length cc2)))
      have HRd := Lib.hid (HR5.out.grown Hc.out.1.1 (gset _ _ 24 (.slice pp2 L1.length cc2)))
      generalize World.setCell wc ⟨w.heap.size, 24, none⟩ _ = wd at Hd HAd HRd ⊢
      clear k1 k2 k3
      obtain ⟨k1, k2, k3⟩ := Hd.out.c
      refine wpAnyH_take (i := 8) (oi := { dst := some 10, op := _, type := _, pos := _, after := _, guard := _ }) (v := ?v8) rfl (by kernel_rfl) (by kernel_rfl) (by kernel_rfl) (fun _ _ _ h => h) (Or.inl ⟨by rfl, ?y8⟩) (by assumption) ?r8
      case y8 => (intro w hSw; go_simp; try with_reducible rfl)
      try simp only [Act.put, List.setIfInBounds_toArray, List.set_cons_zero, List.set_cons_succ]
      refine wpAnyH_ready (rs := [9]) (by kernel_rfl) (by simp) (AllReadyH.cons (o := _) rfl (fun K hK => ?_) AllReadyH.nil)
      go_simp
      refine hK.out _ _ (trivial) (fun hHeld => ?_)
      clear hK K
      try simp only [Act.put, List.setIfInBounds_toArray, List.set_cons_zero, List.set_cons_succ]
      have He := Lib.hid (Hd.out.set 25 (.slice pp5 L2.length cc5) (tkC_rcs _ _ _ HO.out (.slice pp5 L2.length cc5) L2) HO.out)
      have HAe := Lib.hid (HAd.out.grown Hd.out.1.1 (gset _ _ 25 (.slice pp5 L2.length cc5)))
      have HRe := Lib.hid (HRd.out.grown Hd.out.1.1 (gset _ _ 25 (.slice pp5 L2.length cc5)))
      generalize World.setCell wd ⟨w.heap.size, 25, none⟩ _ = we at He HAe HRe ⊢
      clear k1 k2 k3
      refine wpAnyH_done (by kernel_rfl) ?_ _
      go_wp2_with fail
      go_meet
      case rel => exact ⟨_, _, He.out, HAe.out, HRe.out⟩
  case rest =>
    obtain ⟨us, ur, hg, hs, hr⟩ := hcut
    have H1 := Lib.hid hg
    have hrow := hg.1.row
    have hfr : free? wc (w.heap.size + 1) 0 26 = true := obj_free hg.2.1 (by simp)
    have hfk : fok (tkC _ us ur).toArray 26 = true := fok_tk hg.1.2 hs.1.one hr.rcs.one
    have HD := Lib.hid (hg.doneN hs hr)
    clear hg hs hr
    repeat (first | go_values | go_skip | go_guarded | go_step | go_upon | go_in)
    obtain ⟨q1, q2, q3, q4⟩ := HD.out
    exact bodyPost_ret (results_cell Tryz.results6 rfl (ld_some q1 (ldr_tk _ _ _))) rfl ⟨us, ur, by rw [HF.out], q2, by rw [HF.out]; exact q3, by rw [HF.out]; exact q4⟩
end Go.Proofs.YtgpccgcppbdlpaaGreat
