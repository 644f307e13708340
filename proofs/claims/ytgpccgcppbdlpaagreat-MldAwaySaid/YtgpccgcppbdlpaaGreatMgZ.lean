/-
  The contracts of mld's rest, pseudo and Write.
-/
import Derived.Test.YtgpccgcppbdlpaaGreatMgY
import Derived.Test.YtgpccgcppbdlpaaGreatMgW
import Derived.Test.YtgpccgcppbdlpaaGreatMdY
import Derived.Test.YtgpccgcppbdlpaaGreatMg30
namespace Go.Proofs.YtgpccgcppbdlpaaGreat
open Go.RowKit
set_option linter.unusedVariables false
set_option linter.unusedSimpArgs false
/-- A slice literal of two addresses, as one step. -/
noncomputable def adsLit2 (p : Array (Nat × Value)) : Sem Value := Instr.buildSlice 25 2 p
theorem adsLit2_eq (p : Array (Nat × Value)) : Instr.buildSlice 25 2 p = adsLit2 p := rfl
theorem adsLit2_run (a b : AD) (ho : adOk a) (hb : adOk b) (w : World) : (adsLit2 #[(0, .agg (adC a).toArray), (1, .agg (adC b).toArray)]).run Tryz.prog w = .ok (.slice (some ⟨w.heap.size, 0, none⟩) 2 2) (w.alloc (.cells (adC a ++ adC b).toArray 24)) := by
  obtain ⟨i0, hi0, hz0, hz1, hz2⟩ := info_parts info_ad
  obtain ⟨v, l⟩ := a
  obtain ⟨v2, l2⟩ := b
  obtain ⟨b0, b1, b2, b3, b4, b5, b6, b7, b8, b9, ba, bb, bc, bd, be, bf, e⟩ := list16 (show l.length = 16 from ho)
  obtain ⟨c0, c1, c2, c3, c4, c5, c6, c7, c8, c9, ca, cb, cc, cd, ce, cf, e2⟩ := list16 (show l2.length = 16 from hb)
  subst e e2
  refine run_buildSlice w 25 24 2 _ _ i0 _ Tryz.underlying25 hi0 hz0 (by rw [hz1]; decide) (by rw [hz1]; decide) ?_
  rw [hz1]
  kernel_rfl
theorem Ads.lit2 (W : World) (a b : AD) (ho : adOk a) (hb : adOk b) : Ads (W.alloc (.cells (adC a ++ adC b).toArray 24)) (.slice (some ⟨W.heap.size, 0, none⟩) 2 2) [a, b] := by
  have hm := ObjAt.made W (adC a ++ adC b).toArray 24
  refine ⟨some ⟨W.heap.size, 0, none⟩, 2, rfl, Nat.le_refl _, by decide, fun x hx => by simp at hx; rcases hx with rfl | rfl <;> assumption, fun _ => ⟨W.heap.size, 0, rfl, hm.lt, fun i hi => ?_⟩⟩
  have h0 : i = 0 ∨ i = 1 := by simp at hi; omega
  rcases h0 with rfl | rfl
  · exact obj_rowk (A := []) (M := adC a) (C := adC b) (by simpa using hm) rfl (adC_length ho)
  · exact obj_rowk (A := adC a) (M := adC b) (C := []) (by simpa using hm) (by rw [adC_length ho]) (adC_length hb)
attribute [local go_sem ↓] ld_addr st_addr bld_addr ld_rec st_rec ld_tk st_tk bld_tk bld_shp adsLit_eq adsLit2_eq
attribute [local go_sem] ldr_addr str_addr str_addr_at ldr_tk str_tk bldr_shp ldr_rec str_rec row?_drew_eq

set_option maxRecDepth 100000 in
set_option maxHeartbeats 16000000 in
theorem rest22_core (v6 : Bool) (resp : Int) (g : AD) (quiet : Bool) (rob every : Int) (src : List AD) (rcs : List RC) (us : Value) (p : Option Addr) (n cap : Nat) (w : World) (ho : adOk g) (x1 x2 y1 : List UInt8)
    (hn1 : ∀ W v, Ints W v [0, n] → Calls Tryz.prog 20 #[.int .i64 2, v] W fun x w' => x = .returned (.string (Str x1)) ∧ Below W.heap.size W w')
    (hr : ∀ W, Below w.heap.size w W → Calls Tryz.prog 66 #[.slice p n cap] W fun x w' => x = .returned (.string (Str x2)) ∧ Below W.heap.size W w')
    (c1 : ∀ w, (Op.stringOp .add (Str x1) (Str x2)).run Tryz.prog w = .ok (.string (Str y1)) w) :
    Calls Tryz.prog 22 #[.agg (tkC ⟨v6, 2, 2, resp, g, quiet, rob, every, src, rcs⟩ us (.slice p n cap)).toArray] w fun x w' => x = .returned (.string (Str y1)) ∧ Below w.heap.size w w' := by
  have T := Lib.hid (TB.made w ⟨v6, 2, 2, resp, g, quiet, rob, every, src, rcs⟩ us (.slice p n cap) ho)
  have HS : Hid (∀ W, TB w W ⟨v6, 2, 2, resp, g, quiet, rob, every, src, rcs⟩ us (.slice p n cap) → W.cell? ⟨w.heap.size, 25, none⟩ = some (.slice p n cap)) := Lib.hid fun W h => h.1.ur
  have HC : Hid (∀ W, TB w W ⟨v6, 2, 2, resp, g, quiet, rob, every, src, rcs⟩ us (.slice p n cap) → W.cell? ⟨w.heap.size, 1, none⟩ = some (.int .i64 2) ∧ W.cell? ⟨w.heap.size, 2, none⟩ = some (.int .i64 2)) := Lib.hid fun W h => ⟨h.1.ver, h.1.kind⟩
  have HN1 := Lib.hid hn1
  have HR : Hid (∀ W, TB w W ⟨v6, 2, 2, resp, g, quiet, rob, every, src, rcs⟩ us (.slice p n cap) → Calls Tryz.prog 66 #[.slice p n cap] W fun x w' => x = .returned (.string (Str x2)) ∧ Below W.heap.size W w') := Lib.hid fun W h => hr W h.2
  have q21 : ∀ w0, (Op.equalIn 10000 55 (.agg #[.int .i64 2, .int .i64 2]) (.agg #[.int .i64 2, .int .i64 1])).run Tryz.prog w0 = .ok false w0 := fun w0 => by rw [eq_shp]; rfl
  have q22 : ∀ w0, (Op.equalIn 10000 55 (.agg #[.int .i64 2, .int .i64 2]) (.agg #[.int .i64 2, .int .i64 2])).run Tryz.prog w0 = .ok true w0 := fun w0 => by rw [eq_shp]; rfl
  clear hn1 hr ho
  generalize ht : (⟨v6, 2, 2, resp, g, quiet, rob, every, src, rcs⟩ : TK) = t at *
  clear ht
  go_enter Tryz.func22, Tryz.ntmps22
  go_upto_region 1 with (fail)
  generalize w.alloc (.cells (tkC t _ _).toArray 28) = W0 at T ⊢
  obtain ⟨d1, d2⟩ := HC.out _ T.out
  go_upto_region 5 with (fail)
  clear d1 d2 q21 q22 HC
  refine wp_region_held_drew (S := fun W => W.cell? ⟨w.heap.size, 25, none⟩ = some (.slice p n cap)) (by kernel_rfl) (HS.out _ (T.out.drewN 1)) (fun hHeld => ?_)
  replace T := Lib.hid (T.out.drewN 1)
  change Hid (TB w (World.drew _) _ _ _) at T
  generalize World.drew _ = Wq at T hHeld ⊢
  refine wpAnyH_take (i := 0) (oi := { dst := some 42, op := _, type := _, pos := _, after := _, guard := _ }) (v := ?v1) rfl (by kernel_rfl) (by kernel_rfl) (by kernel_rfl) (fun _ _ _ h => h) (Or.inl ⟨by rfl, ?y1⟩) (by assumption) ?r1
  case y1 => (intro w hSw; go_simp; try with_reducible rfl)
  try simp only [Act.put, List.setIfInBounds_toArray, List.set_cons_zero, List.set_cons_succ]
  refine wpAnyH_take (i := 1) (oi := { dst := some 43, op := _, type := _, pos := _, after := _, guard := _ }) (v := ?v2) rfl (by kernel_rfl) (by kernel_rfl) (by kernel_rfl) (fun _ _ _ h => h) (Or.inl ⟨by rfl, ?y2⟩) (by assumption) ?r2
  case y2 => (intro w hSw; go_simp; try with_reducible rfl)
  try simp only [Act.put, List.setIfInBounds_toArray, List.set_cons_zero, List.set_cons_succ]
  refine wpAnyH_take (i := 2) (oi := { dst := some 44, op := _, type := _, pos := _, after := _, guard := _ }) (v := ?v3) rfl (by kernel_rfl) (by kernel_rfl) (by kernel_rfl) (fun _ _ _ h => h) (Or.inl ⟨by rfl, ?y3⟩) (by assumption) ?r3
  case y3 => (intro w hSw; go_simp; try with_reducible rfl)
  try simp only [Act.put, List.setIfInBounds_toArray, List.set_cons_zero, List.set_cons_succ]
  refine wpAnyH_take (i := 5) (oi := { dst := some 47, op := _, type := _, pos := _, after := _, guard := _ }) (v := ?v4) rfl (by kernel_rfl) (by kernel_rfl) (by kernel_rfl) (fun _ _ _ h => h) (Or.inl ⟨by rfl, ?y4⟩) (by assumption) ?r4
  case y4 => (intro w hSw; go_simp; try with_reducible rfl)
  try simp only [Act.put, List.setIfInBounds_toArray, List.set_cons_zero, List.set_cons_succ]
  refine wpAnyH_take (i := 6) (oi := { dst := some 48, op := _, type := _, pos := _, after := _, guard := _ }) (v := ?v5) rfl (by kernel_rfl) (by kernel_rfl) (by kernel_rfl) (fun _ _ _ h => h) (Or.inl ⟨by rfl, ?y5⟩) (by assumption) ?r5
  case y5 => (intro w hSw; go_simp; try with_reducible rfl)
  try simp only [Act.put, List.setIfInBounds_toArray, List.set_cons_zero, List.set_cons_succ]
  refine wpAnyH_ready (rs := [3]) (by kernel_rfl) (by simp) (AllReadyH.cons (o := { dst := some 45, op := _, type := _, pos := _, after := _, guard := _ }) rfl (fun K hK => ?_) AllReadyH.nil)
  go_simp
  refine hK.out _ _ (HS.out _ (Lib.hid (T.out.keep (balloc Wq (.cells #[.int .i64 0, .int .i64 n] 3)))).out) (fun hHeld => ?_)
  clear hK K
  try simp only [Act.put, List.setIfInBounds_toArray, List.set_cons_zero, List.set_cons_succ]
  replace T := Lib.hid (T.out.keep (balloc Wq (.cells #[.int .i64 0, .int .i64 n] 3)))
  have I45 := Lib.hid (Ints.lit02 Wq n)
  generalize World.alloc _ _ = Wn at T I45 hHeld ⊢
  refine wpAnyH_ready (rs := [4]) (by kernel_rfl) (by simp) (AllReadyH.cons (o := { dst := some 46, op := _, type := _, pos := _, after := _, guard := _ }) rfl (fun K hK => ?_) AllReadyH.nil)
  go_simp
  go_at_call 20; (with_reducible refine (HN1.out _ _ I45.out).mono ?_); rintro x wn ⟨rfl, hb⟩; replace T := Lib.hid (T.out.keep hb); clear hb
  try go_wp2_with fail
  refine hK.out _ _ (HS.out _ T.out) (fun hHeld => ?_)
  clear hK K
  try simp only [Act.put, List.setIfInBounds_toArray, List.set_cons_zero, List.set_cons_succ]
  refine wpAnyH_ready (rs := [7]) (by kernel_rfl) (by simp) (AllReadyH.cons (o := { dst := some 49, op := _, type := _, pos := _, after := _, guard := _ }) rfl (fun K hK => ?_) AllReadyH.nil)
  go_simp
  go_at_call 66; (with_reducible refine (HR.out _ T.out).mono ?_); rintro x wn ⟨rfl, hb⟩; replace T := Lib.hid (T.out.keep hb); clear hb
  try go_wp2_with fail
  refine hK.out _ _ (HS.out _ T.out) (fun hHeld => ?_)
  clear hK K
  try simp only [Act.put, List.setIfInBounds_toArray, List.set_cons_zero, List.set_cons_succ]
  refine wpAnyH_take (i := 8) (oi := { dst := some 50, op := _, type := _, pos := _, after := _, guard := _ }) (v := ?v6) rfl (by kernel_rfl) (by kernel_rfl) (by kernel_rfl) (fun _ _ _ h => h) (Or.inl ⟨by rfl, ?y6⟩) (by assumption) ?r6
  case y6 => (intro w hSw; go_simp; try with_reducible rfl)
  try simp only [Act.put, List.setIfInBounds_toArray, List.set_cons_zero, List.set_cons_succ]
  refine wpAnyH_take (i := 9) (oi := { dst := some 2, op := _, type := _, pos := _, after := _, guard := _ }) (v := ?v7) rfl (by kernel_rfl) (by kernel_rfl) (by kernel_rfl) (fun _ _ _ h => h) (Or.inl ⟨by rfl, ?y7⟩) (by assumption) ?r7
  case y7 => (intro w hSw; go_simp; try with_reducible rfl)
  try simp only [Act.put, List.setIfInBounds_toArray, List.set_cons_zero, List.set_cons_succ]
  refine wpAnyH_done (by kernel_rfl) ?_ _
  go_wp2
  go_ret
  exact ⟨rfl, T.out.2⟩
theorem put2_four (n : Nat) (h : n < 65536) : putL n 4 = putL 0 2 ++ putL n 2 := by
  have e1 : n / 256 ^ 3 = 0 := by rw [Nat.div_eq_zero_iff]; omega
  have e2 : n / 256 ^ 2 = 0 := by rw [Nat.div_eq_zero_iff]; omega
  simp [putL, e1, e2]
theorem put0_two : putL 0 2 = [0, 0] := rfl
set_option maxRecDepth 100000 in
set_option maxHeartbeats 4000000 in
/-- What stands behind the checksum of a good talk. -/
theorem rest9_any (t : TK) (us ur : Value) (w : World) (ho : t.ok) (hs : Ads w us t.src) (hr : Rcs w ur t.rcs) (hg : good9 t = true) : Calls Tryz.prog 22 #[.agg (tkC t us ur).toArray] w fun x w' => (x = .returned (.string (Str (restM t))) ∧ Below w.heap.size w w') ∧ (restM t).length ≤ 100000 := by
  obtain ⟨hv6, h⟩ := good9_cases t hg
  have hog := ho.1
  have hsok := ho.2.1
  obtain ⟨v6, ver, kind, resp, g, q, rob, every, src, rcs⟩ := t
  simp only at *
  have lg := adB_le hog
  have lss := listL_le (l := src) hsok
  rcases h with ⟨rfl, rfl, rfl, rfl, hrc, hrl, hsz, rfl, rfl, rfl, rfl⟩ | ⟨rfl, hk, rfl, hgg, rfl, rfl, rfl, rfl, rfl⟩ | ⟨rfl, rfl, h0, h1, hgg, rfl, rfl, rfl, rfl, rfl⟩ | ⟨rfl, rfl, he1, he2, hr0, hr1, hsr, hgg, hgz, rfl⟩
  · have hR : restM ⟨v6, 2, 2, 0, zeroA, false, 0, 0, [], rcs⟩ = numsL 2 [0, rcs.length] ++ recs9B rcs := by
      unfold restM; rw [if_pos ⟨rfl, rfl⟩, numsL2, put2_four rcs.length (by omega)]; rfl
    have hrl2 := recs9B_le rcs (rcs9_ok hr) (fun r hr => by
      have h1 := List.all_eq_true.1 hrc r hr
      unfold recOk9 at h1
      rw [Bool.and_eq_true] at h1
      have := srcs9_len h1.2
      omega)
    have hl : (numsL 2 [0, rcs.length] ++ recs9B rcs).length ≤ 100000 := by rw [List.length_append, numsL_length]; simp; omega
    rw [hR]
    obtain ⟨p, cap, rfl, _, _⟩ := hr.len
    refine (rest22_core v6 0 zeroA false 0 0 [] rcs us p rcs.length cap w hog _ _ _ (fun W v h => nums_any 2 (by omega) (by omega) v _ W h (by simp) (by simp) (by simp; omega)) (fun W h => records9w_any _ rcs W (hr.below h) (by omega) hrc) (fun w => run_cat (P := Tryz.prog) _ _ (by rw [List.length_append] at hl; omega) w)).mono ?_
    exact fun x w' hx => ⟨hx, hl⟩
  · have hR : restM ⟨v6, 1, kind, 0, g, false, 0, 0, [], []⟩ = numsL 2 [0, 0] ++ listL [g] := by
      unfold restM respM; simp [numsL2, put0_two, listL]
    have hl : (numsL 2 [0, 0] ++ listL [g]).length ≤ 100000 := by rw [List.length_append, numsL_length]; simp [listL]; omega
    rw [hR]
    have F1 : ∀ W v, Ints W v [0, 0] → Calls Tryz.prog 20 #[.int .i64 2, v] W fun x w' => x = .returned (.string (Str (numsL 2 [0, 0]))) ∧ Below W.heap.size W w' := fun W v h => nums_any 2 (by omega) (by omega) v _ W h (by simp) (by simp) (by simp)
    have F2 : ∀ W v, Ads W v [g] → Calls Tryz.prog 63 #[v] W fun x w' => x = .returned (.string (Str (listL [g]))) ∧ Below W.heap.size W w' := fun W v h => addrs_any v _ W h (by simp)
    have F3 := run_cat (P := Tryz.prog) (numsL 2 [0, 0]) (listL [g]) (by rw [List.length_append] at hl; omega)
    rcases hk with rfl | rfl
    · exact (rest12_core v6 g false 0 0 [] [] us ur w hog 0 _ _ _ F1 F2 F3).mono fun x w' hx => ⟨hx, hl⟩
    · exact (rest13_core v6 g false 0 0 [] [] us ur w hog 0 _ _ _ F1 F2 F3).mono fun x w' hx => ⟨hx, hl⟩
  · obtain ⟨rn, rfl⟩ := Int.eq_ofNat_of_zero_le h0
    have hR : restM ⟨v6, 1, 1, rn, g, false, 0, 0, [], []⟩ = numsL 2 [rn, 0] ++ listL [g] := by
      unfold restM respM; simp [numsL2, put0_two, listL]
    have hl : (numsL 2 [rn, 0] ++ listL [g]).length ≤ 100000 := by rw [List.length_append, numsL_length]; simp [listL]; omega
    rw [hR]
    exact (rest11_core v6 g false 0 0 [] [] us ur w hog rn _ _ _ (fun W v h => nums_any 2 (by omega) (by omega) v _ W h (by simp) (by simp) (by simp; omega)) (fun W v h => addrs_any v _ W h (by simp)) (run_cat (P := Tryz.prog) (numsL 2 [rn, 0]) (listL [g]) (by rw [List.length_append] at hl; omega))).mono fun x w' hx => ⟨hx, hl⟩
  · have hs64 := srcs9_len hsr
    have hc1 := codeN_le resp 4096 65535
    have hc2 := codeN_le every 16 255
    have hf16 : flagT ⟨v6, 2, 1, resp, g, q, rob, every, src, []⟩ < 16 := by unfold flagT; split <;> simp only <;> omega
    have hR : restM ⟨v6, 2, 1, resp, g, q, rob, every, src, []⟩ = numsL 2 [codeN resp 4096 65535, 0] ++ listL [g] ++ numsL 1 [flagT ⟨v6, 2, 1, resp, g, q, rob, every, src, []⟩, codeN every 16 255] ++ numsL 2 [src.length] ++ listL src := by
      unfold restM respM; simp [numsL2, numsL1, put0_two, listL]
    have hl : (numsL 2 [codeN resp 4096 65535, 0] ++ listL [g] ++ numsL 1 [flagT ⟨v6, 2, 1, resp, g, q, rob, every, src, []⟩, codeN every 16 255] ++ numsL 2 [src.length] ++ listL src).length ≤ 100000 := by
      simp only [List.length_append, numsL_length]
      have : (listL [g]).length ≤ 16 := by simp [listL]; omega
      simp only [List.length_cons, List.length_nil]
      omega
    rw [hR]
    obtain ⟨p, cap, rfl, _, _⟩ := hs.len
    simp only [List.length_append] at hl
    have hl2 := hl
    refine (rest21_core v6 resp g q rob every src [] p src.length cap ur w hog _ _ _ _ _ _ _ _ _ _ _ _ (fun W => code16_any resp W) (fun W v h => nums_any 2 (by omega) (by omega) v _ W h (by simp) (by simp) (by simp; omega)) (fun W v h => addrs_any v _ W h (by simp)) (fun W => flags9_any _ _ _ W hog hr0 (by simp only; omega)) (fun W => code8_any every W) (fun W v h => nums_any 1 (by omega) (by omega) v _ W h (by simp) (by simp) (by simp; omega)) (fun W v h => nums_any 2 (by omega) (by omega) v _ W h (by simp) (by simp) (by simp; omega)) (fun W h => addrs_any _ src W (hs.below h) (by omega)) (fun w => run_cat (P := Tryz.prog) _ _ (by omega) w) (fun w => run_cat (P := Tryz.prog) _ _ (by simp only [List.length_append]; omega) w) (fun w => run_cat (P := Tryz.prog) _ _ (by simp only [List.length_append]; omega) w) (fun w => run_cat (P := Tryz.prog) _ _ (by simp only [List.length_append]; omega) w)).mono ?_
    exact fun x w' hx => ⟨hx, by simp only [List.length_append]; exact hl⟩
set_option maxRecDepth 100000 in
set_option maxHeartbeats 1000000 in
theorem pseudo9_any (f g : AD) (hf : adOk f) (hg : adOk g) (hv : f.1 = true) (n : Nat) (hn : n ≤ 1000000) (w : World) :
    Calls Tryz.prog 24 #[.agg (adC f).toArray, .agg (adC g).toArray, .int .i64 n] w fun x w' => x = .returned (.string (Str (psM f g n))) ∧ Below w.heap.size w w' := by
  have HP : Hid (∀ W, Calls Tryz.prog 68 #[.agg (adC f).toArray, .agg (adC g).toArray, .int .i64 58, .int .i64 n] W fun x w' => x = .returned (.string (Str (psM f g n))) ∧ Below W.heap.size W w') := Lib.hid fun W => by
    have h := pseudo_any f.1 g.1 f.2 g.2 hf hg 58 n W
    rw [hv, Bool.true_or, show ((58 : Int) % 256).toNat = 58 from rfl, show (((n : Nat) : Int) % 18446744073709551616).toNat = n by omega] at h
    rw [show adC f = addrC true f.2 by unfold adC; rw [hv]]
    exact h
  have k1 := (Below.refl w.heap.size w).alloc (Nat.le_refl _) (.cells (adC f).toArray 24)
  have k2 := (Below.refl _ (w.alloc (.cells (adC f).toArray 24))).alloc (Nat.le_refl _) (.cells (adC g).toArray 24)
  have s1 : (w.alloc (.cells (adC f).toArray 24)).heap.size = w.heap.size + 1 := by simp
  have o1 := ObjAt.made w (adC f).toArray 24
  have o2 := ObjAt.made (w.alloc (.cells (adC f).toArray 24)) (adC g).toArray 24
  rw [s1] at o2
  have H0 := Lib.hid (And.intro (o1.below k2 o1.lt) (And.intro o2 (bstep k1 k2)))
  have hr1 : row? ((w.alloc (.cells (adC f).toArray 24)).alloc (.cells (adC g).toArray 24)) w.heap.size 0 17 = some (adC f) := obj_rowk (A := []) (M := adC f) (C := []) (by simpa using H0.out.1) rfl (adC_length hf)
  have hr2 : row? ((w.alloc (.cells (adC f).toArray 24)).alloc (.cells (adC g).toArray 24)) (w.heap.size + 1) 0 17 = some (adC g) := obj_rowk (A := []) (M := adC g) (C := []) (by simpa using H0.out.2.1) rfl (adC_length hg)
  have H9 := Lib.hid H0.out.2.2
  clear H0 k1 k2 s1 o1 o2 hf hg hv hn
  generalize psM f g n = P at *
  go_enter Tryz.func24, Tryz.ntmps24
  go_upto_region 1 with (fail)
  generalize (w.alloc (.cells (adC f).toArray 24)).alloc (.cells (adC g).toArray 24) = W at *
  generalize adC f = A at *
  generalize adC g = B at *
  go_wp2_with (go_at_call 68; (with_reducible refine (HP.out _).mono ?_); rintro x w1 ⟨rfl, hb⟩; have H1 := Lib.hid (bstep H9.out hb); clear hb)
  go_ret
  exact ⟨rfl, H1.out⟩
set_option maxRecDepth 100000 in
set_option maxHeartbeats 4000000 in
theorem mwrite_v4 (f g : AD) (hf : adOk f) (hg : adOk g) (t : TK) (us ur : Value) (w : World) (ho : t.ok) (hs : Ads w us t.src) (hr : Rcs w ur t.rcs) (hL : t.rcs.length ≤ 1000) (hv : (f.1 && g.1) = false) :
    Calls Tryz.prog 7 #[.agg (tkC t us ur).toArray, .agg (adC f).toArray, .agg (adC g).toArray] w fun x w' => x = .returned (.tuple #[.string (Str ([])), .int .i64 1]) ∧ Below w.heap.size w w' := by
  have H0 := Lib.hid (TB9.made w f g t us ur ho.1)
  have HROW := Lib.hid (fun W (h : TB9 w W f g t us ur) => h.rows hf hg)
  have HTR : Hid (∀ W, TB9 w W f g t us ur → row? W w.heap.size 0 26 = some (tkC t us ur)) := Lib.hid fun W h => h.1.row
  have hlit := adsLit2_run f g hf hg
  have HL2 := Lib.hid (fun W => Ads.lit2 W f g hf hg)
  have HBL := Lib.hid (fun W : World => balloc W (.cells (adC f ++ adC g).toArray 24))
  have HSX : Hid (∀ W, Calls Tryz.prog 19 #[.slice (some ⟨W.heap.size, 0, none⟩) 2 2] (W.alloc (.cells (adC f ++ adC g).toArray 24)) fun x w' => x = .returned (.bool false) ∧ Below W.heap.size W w') := Lib.hid fun W => by
    refine (six9_any _ [f, g] _ (HL2.out W)).mono ?_
    rintro x w' ⟨rfl, hb⟩
    exact ⟨ret_bool8 (by simp [isV6]; cases hf1 : f.1 <;> simp_all), bstep (HBL.out W) hb⟩
  clear hs hr hL hv ho
  go_enter Tryz.func7, Tryz.ntmps7
  go_upto_region 1 with (fail)
  generalize ((w.alloc (.cells (tkC t _ _).toArray 28)).alloc (.cells (adC f).toArray 24)).alloc (.cells (adC g).toArray 24) = W0 at H0 ⊢
  obtain ⟨r1, r2⟩ := HROW.out _ H0.out
  go_wp2_with (go_at_call 19; (with_reducible refine (HSX.out _).mono ?_); rintro x w1 ⟨rfl, hb⟩; have H1 := Lib.hid (H0.out.keep hb); clear hb)
  go_ret2
  exact ⟨rfl, H1.out.2.2.2⟩
set_option maxRecDepth 100000 in
set_option maxHeartbeats 4000000 in
theorem mwrite_bad (f g : AD) (hf : adOk f) (hg : adOk g) (t : TK) (us ur : Value) (w : World) (ho : t.ok) (hs : Ads w us t.src) (hr : Rcs w ur t.rcs) (hL : t.rcs.length ≤ 1000) (hv1 : f.1 = true) (hv2 : g.1 = true) (hgd : good9 t = false) :
    Calls Tryz.prog 7 #[.agg (tkC t us ur).toArray, .agg (adC f).toArray, .agg (adC g).toArray] w fun x w' => x = .returned (.tuple #[.string (Str ([])), .int .i64 2]) ∧ Below w.heap.size w w' := by
  have H0 := Lib.hid (TB9.made w f g t us ur ho.1)
  have HROW := Lib.hid (fun W (h : TB9 w W f g t us ur) => h.rows hf hg)
  have HTR : Hid (∀ W, TB9 w W f g t us ur → row? W w.heap.size 0 26 = some (tkC t us ur)) := Lib.hid fun W h => h.1.row
  have hlit := adsLit2_run f g hf hg
  have HL2 := Lib.hid (fun W => Ads.lit2 W f g hf hg)
  have HBL := Lib.hid (fun W : World => balloc W (.cells (adC f ++ adC g).toArray 24))
  have HSX : Hid (∀ W, Calls Tryz.prog 19 #[.slice (some ⟨W.heap.size, 0, none⟩) 2 2] (W.alloc (.cells (adC f ++ adC g).toArray 24)) fun x w' => x = .returned (.bool true) ∧ Below W.heap.size W w') := Lib.hid fun W => by
    refine (six9_any _ [f, g] _ (HL2.out W)).mono ?_
    rintro x w' ⟨rfl, hb⟩
    exact ⟨ret_bool8 (by simp [isV6]; exact ⟨hv1, hv2⟩), bstep (HBL.out W) hb⟩
  have HGD : Hid (∀ W, TB9 w W f g t us ur → Calls Tryz.prog 8 #[.agg (tkC t us ur).toArray] W fun x w' => x = .returned (.bool false) ∧ Below W.heap.size W w') := Lib.hid fun W h => by
    have := good9_any t us ur W ho (hs.below h.2.2.2) (hr.below h.2.2.2) hL
    rw [hgd] at this
    exact this
  clear hs hr hL hv1 hv2 ho hgd
  go_enter Tryz.func7, Tryz.ntmps7
  go_upto_region 1 with (fail)
  generalize ((w.alloc (.cells (tkC t _ _).toArray 28)).alloc (.cells (adC f).toArray 24)).alloc (.cells (adC g).toArray 24) = W0 at H0 ⊢
  obtain ⟨r1, r2⟩ := HROW.out _ H0.out
  go_upto_region 3 with (go_at_call 19; (with_reducible refine (HSX.out _).mono ?_); rintro x w1 ⟨rfl, hb⟩; have H1 := Lib.hid (H0.out.keep hb); clear hb)
  have tr := HTR.out _ H1.out
  go_wp2_with (go_at_call 8; (with_reducible refine (HGD.out _ H1.out).mono ?_); rintro x w2 ⟨rfl, hb⟩; have H2 := Lib.hid (H1.out.keep hb); clear hb)
  go_ret2
  exact ⟨rfl, H2.out.2.2.2⟩
theorem rest9_le (t : TK) (ho : t.ok) (hg : good9 t = true) : (restM t).length ≤ 100000 := by
  obtain ⟨hv6, h⟩ := good9_cases t hg
  have hog := ho.1
  have lg := adB_le ho.1
  have lss := listL_le (l := t.src) ho.2.1
  unfold restM
  split
  · rename_i h2
    rcases h with h | h | h | h
    · have hrl2 := recs9B_le t.rcs ho.2.2 (fun r hr => by
        have h1 := List.all_eq_true.1 h.2.2.2.2.1 r hr
        unfold recOk9 at h1
        rw [Bool.and_eq_true] at h1
        have := srcs9_len h1.2
        omega)
      unfold recs9B at hrl2
      rw [List.length_append, putL_length]
      have := h.2.2.2.2.2.1
      omega
    · omega
    · omega
    · omega
  · have hsl : t.src.length < 65 := by
      rcases h with h | h | h | h
      · rw [h.2.2.2.2.2.2.2.2.2.2]; simp
      · rw [h.2.2.2.2.2.2.2.2]; simp
      · rw [h.2.2.2.2.2.2.2.2.2]; simp
      · exact srcs9_len h.2.2.2.2.2.2.1
    simp only [List.length_append, putL_length, List.length_cons, List.length_nil]
    split
    · simp only [List.length_append, putL_length]; omega
    · simp; omega
set_option maxRecDepth 100000 in
set_option maxHeartbeats 4000000 in
theorem mwrite_good (f g : AD) (hf : adOk f) (hg : adOk g) (t : TK) (us ur : Value) (w : World) (ho : t.ok) (hs : Ads w us t.src) (hr : Rcs w ur t.rcs) (hL : t.rcs.length ≤ 1000) (hv1 : f.1 = true) (hv2 : g.1 = true) (hgd : good9 t = true) :
    Calls Tryz.prog 7 #[.agg (tkC t us ur).toArray, .agg (adC f).toArray, .agg (adC g).toArray] w fun x w' => x = .returned (.tuple #[.string (Str (wrtM (psM f g (4 + (restM t).length)) t)), .int .i64 0]) ∧ Below w.heap.size w w' := by
  have H0 := Lib.hid (TB9.made w f g t us ur ho.1)
  have HROW := Lib.hid (fun W (h : TB9 w W f g t us ur) => h.rows hf hg)
  have HTR : Hid (∀ W, TB9 w W f g t us ur → row? W w.heap.size 0 26 = some (tkC t us ur)) := Lib.hid fun W h => h.1.row
  have hlit := adsLit2_run f g hf hg
  have HL2 := Lib.hid (fun W => Ads.lit2 W f g hf hg)
  have HBL := Lib.hid (fun W : World => balloc W (.cells (adC f ++ adC g).toArray 24))
  have HSX : Hid (∀ W, Calls Tryz.prog 19 #[.slice (some ⟨W.heap.size, 0, none⟩) 2 2] (W.alloc (.cells (adC f ++ adC g).toArray 24)) fun x w' => x = .returned (.bool true) ∧ Below W.heap.size W w') := Lib.hid fun W => by
    refine (six9_any _ [f, g] _ (HL2.out W)).mono ?_
    rintro x w' ⟨rfl, hb⟩
    exact ⟨ret_bool8 (by simp [isV6]; exact ⟨hv1, hv2⟩), bstep (HBL.out W) hb⟩
  have HGD : Hid (∀ W, TB9 w W f g t us ur → Calls Tryz.prog 8 #[.agg (tkC t us ur).toArray] W fun x w' => x = .returned (.bool true) ∧ Below W.heap.size W w') := Lib.hid fun W h => by
    have := good9_any t us ur W ho (hs.below h.2.2.2) (hr.below h.2.2.2) hL
    rw [hgd] at this
    exact this
  have hk := good9_kinds hgd
  have HTY := Lib.hid (fun W => typ9_any t us ur W ho.1 hk)
  have hkt : kindM t ≤ 143 := by
    unfold kindM
    unfold kinds9 at hk
    split
    · omega
    · split <;> omega
  have HRS0 : Hid (∀ W, TB9 w W f g t us ur → Calls Tryz.prog 22 #[.agg (tkC t us ur).toArray] W fun x w' => (x = .returned (.string (Str (restM t))) ∧ Below W.heap.size W w') ∧ (restM t).length ≤ 100000) := Lib.hid fun W h => rest9_any t us ur W ho (hs.below h.2.2.2) (hr.below h.2.2.2) hgd
  have hRL : (restM t).length ≤ 100000 := rest9_le t ho hgd
  have HRS : Hid (∀ W, TB9 w W f g t us ur → Calls Tryz.prog 22 #[.agg (tkC t us ur).toArray] W fun x w' => x = .returned (.string (Str (restM t))) ∧ Below W.heap.size W w') := Lib.hid fun W h => (HRS0.out W h).mono fun x w' hx => hx.1
  have HN1 : Hid (∀ W v, Ints W v [kindM t, 0] → Calls Tryz.prog 20 #[.int .i64 1, v] W fun x w' => x = .returned (.string (Str (headM t))) ∧ Below W.heap.size W w') := Lib.hid fun W v h => by
    have := nums_any 1 (by omega) (by omega) v _ W h (by simp) (by simp) (by simp; omega)
    rw [numsL2] at this
    exact this
  obtain ⟨P, hP⟩ : ∃ P, P = psM f g (4 + (restM t).length) := ⟨_, rfl⟩
  have hPl := psM_length hf hg (4 + (restM t).length)
  have HPS : Hid (∀ W, Calls Tryz.prog 24 #[.agg (adC f).toArray, .agg (adC g).toArray, .int .i64 (4 + ((restM t).length : Int))] W fun x w' => x = .returned (.string (Str P)) ∧ Below W.heap.size W w') := Lib.hid fun W => by
    have := pseudo9_any f g hf hg hv1 (4 + (restM t).length) (by omega) W
    rw [← hP, show ((4 + (restM t).length : Nat) : Int) = 4 + ((restM t).length : Int) by omega] at this; exact this
  rw [← hP] at hPl ⊢
  have hHl := headM_length t
  have hck : chkM P t ≤ 65535 := by unfold chkM; omega
  have HCH : Hid (∀ W : World, Calls Tryz.prog 23 #[.slice (some ⟨W.heap.size, 0, none⟩) 3 3] (W.alloc (.cells #[.string (Str P), .string (Str (headM t)), .string (Str (restM t))] 9)) fun e w' => e = .returned (.int .i64 (chkM P t : Int)) ∧ Below W.heap.size W w') := Lib.hid fun W => by
    refine (check_own [P, headM t, restM t] (by simp; omega) (by simp) 0 _ _ (own_lit0 W #[.string (Str P), .string (Str (headM t)), .string (Str (restM t))] _ 3 _ rfl (by omega) rfl)).mono ?_
    rintro e w1 ⟨rfl, d, rfl⟩
    exact ⟨by unfold chkM; simp, bdrewN ((Below.refl _ _).alloc (Nat.le_refl _) _) _⟩
  have HN2 : Hid (∀ W v, Ints W v [chkM P t] → Calls Tryz.prog 20 #[.int .i64 2, v] W fun x w' => x = .returned (.string (Str (putL (chkM P t) 2))) ∧ Below W.heap.size W w') := Lib.hid fun W v h => by
    have := nums_any 2 (by omega) (by omega) v _ W h (by simp) (by simp) (by simp; omega)
    rw [numsL1] at this
    exact this
  have HN2 : Hid (∀ W : World, Calls Tryz.prog 20 #[.int .i64 2, .slice (some ⟨W.heap.size, 0, none⟩) 1 1] (W.alloc (.cells #[.int .i64 (chkM P t : Nat)] 3)) fun x w' => x = .returned (.string (Str (putL (chkM P t) 2))) ∧ Below W.heap.size W w') := Lib.hid fun W => (HN2.out _ _ (Ints.lit1 W (chkM P t))).mono fun x w' hx => ⟨hx.1, bstep (balloc W _) hx.2⟩
  have HW : Hid (wrtM P t = headM t ++ (putL (chkM P t) 2 ++ restM t)) := Lib.hid rfl
  have z2 := putL_length (chkM P t) 2
  have hsH : (Str (headM t)).size = 2 := by rw [Str_size]; exact hHl
  have hsB := Str_size (restM t)
  have hwl : IntKind.i64.wrap (4 + ((restM t).length : Int)) = 4 + ((restM t).length : Int) := by simp only [IntKind.wrap_i64]; omega
  have cc1 := run_cat (P := Tryz.prog) (headM t) (putL (chkM P t) 2) (by omega)
  have cc2 := run_cat (P := Tryz.prog) (headM t ++ putL (chkM P t) 2) (restM t) (by rw [List.length_append]; omega)
  rw [List.append_assoc, ← HW.out] at cc2
  clear HRS0 hk hkt hgd hv1 hv2 hs hr hL ho hP hck hHl hPl z2 HW
  generalize headM t ++ putL (chkM P t) 2 = HX at cc1 cc2
  generalize wrtM P t = WR at cc2 ⊢
  generalize restM t = B at *
  generalize headM t = H at *
  generalize chkM P t = ck at *
  generalize putL ck 2 = x2 at *
  generalize kindM t = kt at *
  clear hRL
  go_enter Tryz.func7, Tryz.ntmps7
  go_upto_region 1 with (fail)
  generalize ((w.alloc (.cells (tkC t _ _).toArray 28)).alloc (.cells (adC f).toArray 24)).alloc (.cells (adC g).toArray 24) = W0 at H0 ⊢
  obtain ⟨r1, r2⟩ := HROW.out _ H0.out
  go_upto_region 3 with (go_at_call 19; (with_reducible refine (HSX.out _).mono ?_); rintro x w1 ⟨rfl, hb⟩; have H1 := Lib.hid (H0.out.keep hb); clear hb)
  have tr := HTR.out _ H1.out
  go_upto_region 5 with (go_at_call 8; (with_reducible refine (HGD.out _ H1.out).mono ?_); rintro x w2 ⟨rfl, hb⟩; have H2 := Lib.hid (H1.out.keep hb); clear hb)
  clear tr r1 r2
  have T := H2
  clear H2 H1 H0
  refine wp_region_held_drew (S := fun W => row? W w.heap.size 0 26 = some (tkC t us ur)) (by kernel_rfl) (HTR.out _ (T.out.drewN 1)) (fun hHeld => ?_)
  replace T := Lib.hid (T.out.drewN 1)
  change Hid (TB9 w (World.drew _) _ _ _ _ _) at T
  generalize World.drew _ = Wq at T hHeld ⊢
  refine wpAnyH_take (i := 0) (oi := { dst := some 21, op := _, type := _, pos := _, after := _, guard := _ }) (v := ?v1) rfl (by kernel_rfl) (by kernel_rfl) (by kernel_rfl) (fun _ _ _ h => h) (Or.inl ⟨by rfl, ?y1⟩) (by assumption) ?r1
  case y1 => (intro w hSw; go_simp; try with_reducible rfl)
  try simp only [Act.put, List.setIfInBounds_toArray, List.set_cons_zero, List.set_cons_succ]
  refine wpAnyH_take (i := 4) (oi := { dst := some 25, op := _, type := _, pos := _, after := _, guard := _ }) (v := ?v2) rfl (by kernel_rfl) (by kernel_rfl) (by kernel_rfl) (fun _ _ _ h => h) (Or.inl ⟨by rfl, ?y2⟩) (by assumption) ?r2
  case y2 => (intro w hSw; go_simp; try with_reducible rfl)
  try simp only [Act.put, List.setIfInBounds_toArray, List.set_cons_zero, List.set_cons_succ]
  refine wpAnyH_ready (rs := [1]) (by kernel_rfl) (by simp) (AllReadyH.cons (o := { dst := some 22, op := _, type := _, pos := _, after := _, guard := _ }) rfl (fun K hK => ?_) AllReadyH.nil)
  go_simp
  go_at_call 21; (with_reducible refine (HTY.out _).mono ?_); rintro x wn ⟨rfl, hb⟩; replace T := Lib.hid (T.out.keep hb); clear hb
  try go_wp2_with fail
  refine hK.out _ _ (HTR.out _ T.out) (fun hHeld => ?_)
  clear hK K
  try simp only [Act.put, List.setIfInBounds_toArray, List.set_cons_zero, List.set_cons_succ]
  refine wpAnyH_ready (rs := [2]) (by kernel_rfl) (by simp) (AllReadyH.cons (o := { dst := some 23, op := _, type := _, pos := _, after := _, guard := _ }) rfl (fun K hK => ?_) AllReadyH.nil)
  go_simp
  refine hK.out _ _ (HTR.out _ (Lib.hid (T.out.keep (balloc wn (.cells #[.int .i64 kt, .int .i64 0] 3)))).out) (fun hHeld => ?_)
  clear hK K
  try simp only [Act.put, List.setIfInBounds_toArray, List.set_cons_zero, List.set_cons_succ]
  replace T := Lib.hid (T.out.keep (balloc wn (.cells #[.int .i64 kt, .int .i64 0] 3)))
  have I23 := Lib.hid (Ints.lit20 wn kt)
  generalize World.alloc _ _ = Wn at T I23 hHeld ⊢
  refine wpAnyH_ready (rs := [3]) (by kernel_rfl) (by simp) (AllReadyH.cons (o := { dst := some 24, op := _, type := _, pos := _, after := _, guard := _ }) rfl (fun K hK => ?_) AllReadyH.nil)
  go_simp
  go_at_call 20; (with_reducible refine (HN1.out _ _ I23.out).mono ?_); rintro x wn ⟨rfl, hb⟩; replace T := Lib.hid (T.out.keep hb); clear hb
  try go_wp2_with fail
  refine hK.out _ _ (HTR.out _ T.out) (fun hHeld => ?_)
  clear hK K
  try simp only [Act.put, List.setIfInBounds_toArray, List.set_cons_zero, List.set_cons_succ]
  refine wpAnyH_ready (rs := [5]) (by kernel_rfl) (by simp) (AllReadyH.cons (o := { dst := some 26, op := _, type := _, pos := _, after := _, guard := _ }) rfl (fun K hK => ?_) AllReadyH.nil)
  go_simp
  go_at_call 22; (with_reducible refine (HRS.out _ T.out).mono ?_); rintro x wn ⟨rfl, hb⟩; replace T := Lib.hid (T.out.keep hb); clear hb
  try go_wp2_with fail
  refine hK.out _ _ (HTR.out _ T.out) (fun hHeld => ?_)
  clear hK K
  try simp only [Act.put, List.setIfInBounds_toArray, List.set_cons_zero, List.set_cons_succ]
  refine wpAnyH_take (i := 6) (oi := { dst := some 8, op := _, type := _, pos := _, after := _, guard := _ }) (v := ?v3) rfl (by kernel_rfl) (by kernel_rfl) (by kernel_rfl) (fun _ _ _ h => h) (Or.inl ⟨by rfl, ?y3⟩) (by assumption) ?r3
  case y3 => (intro w hSw; go_simp; try with_reducible rfl)
  try simp only [Act.put, List.setIfInBounds_toArray, List.set_cons_zero, List.set_cons_succ]
  refine wpAnyH_take (i := 7) (oi := { dst := some 9, op := _, type := _, pos := _, after := _, guard := _ }) (v := ?v4) rfl (by kernel_rfl) (by kernel_rfl) (by kernel_rfl) (fun _ _ _ h => h) (Or.inl ⟨by rfl, ?y4⟩) (by assumption) ?r4
  case y4 => (intro w hSw; go_simp; try with_reducible rfl)
  try simp only [Act.put, List.setIfInBounds_toArray, List.set_cons_zero, List.set_cons_succ]
  refine wpAnyH_done (by kernel_rfl) ?_ _
  obtain ⟨r1, r2⟩ := HROW.out _ T.out
  go_upto_region 7 with (first
    | (go_at_call 24; (with_reducible refine (HPS.out _).mono ?_); rintro x w3 ⟨rfl, hb⟩; have H3 := Lib.hid (T.out.keep hb); clear hb)
    | (go_at_call 23; (with_reducible refine (HCH.out _).mono ?_); rintro x w4 ⟨rfl, hb⟩; have H4 := Lib.hid (H3.out.keep hb); clear hb))
  go_wp2_with (go_at_call 20; (with_reducible refine (HN2.out _).mono ?_); rintro x w5 ⟨rfl, hb⟩; have H5 := Lib.hid (H4.out.keep hb); clear hb)
  go_ret2
  exact ⟨rfl, H5.out.2.2.2⟩
/-- Write of any talk. -/
theorem write9_core (f g : AD) (hf : adOk f) (hg : adOk g) (t : TK) (us ur : Value) (w : World) (ho : t.ok) (hs : Ads w us t.src) (hr : Rcs w ur t.rcs) (hL : t.rcs.length ≤ 1000) (R : List UInt8) (E : Int) (hR : R = if f.1 && g.1 then (if good9 t then wrtM (psM f g (4 + (restM t).length)) t else []) else []) (hE : E = if f.1 && g.1 then (if good9 t then 0 else 2) else 1) :
    Calls Tryz.prog 7 #[.agg (tkC t us ur).toArray, .agg (adC f).toArray, .agg (adC g).toArray] w fun x w' => x = .returned (.tuple #[.string (Str R), .int .i64 E]) ∧ Below w.heap.size w w' := by
  subst hR hE
  by_cases hv : (f.1 && g.1) = true
  · rw [if_pos hv, if_pos hv]
    obtain ⟨h1, h2⟩ := Bool.and_eq_true_iff.1 hv
    by_cases hgd : good9 t = true
    · rw [if_pos hgd, if_pos hgd]
      exact mwrite_good f g hf hg t us ur w ho hs hr hL h1 h2 hgd
    · rw [if_neg hgd, if_neg hgd]
      exact mwrite_bad f g hf hg t us ur w ho hs hr hL h1 h2 (by simpa using hgd)
  · rw [if_neg hv, if_neg hv]
    exact mwrite_v4 f g hf hg t us ur w ho hs hr hL (by simpa using hv)
end Go.Proofs.YtgpccgcppbdlpaaGreat
