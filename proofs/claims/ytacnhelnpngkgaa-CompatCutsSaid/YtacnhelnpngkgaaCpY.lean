/-
  The walk of CompatCuts.
-/
import Derived.Test.YtacnhelnpngkgaaCpX
namespace Go.Proofs.Ytacnhelnpngkgaa
open Go.RowKit
set_option linter.unusedVariables false
set_option linter.unusedSimpArgs false
attribute [local go_sem ↓] ld_addr st_addr bld_addr ld_tk st_tk bld_tk ld_rec st_rec bld_rec rcsLit_eq
attribute [local go_sem] ldr_addr str_addr ldr_tk str_tk ldr_rec str_rec row?_drewN_eq row?_drew_eq

/-- A record boxed, whose sources lie in a block of their type. -/
structure CuB (w : World) (r : RC) (u : Value) (W : World) : Prop where
  blw : Below w.heap.size w W
  one : RcO W w.heap.size r u
  us : AdsT W u r.src
theorem CuB.keep {w : World} {r : RC} {u : Value} (W W' : World) (h : CuB w r u W) (hb : Below W.heap.size W W') : CuB w r u W' := ⟨bstep h.blw hb, h.one.below hb, h.us.below hb⟩
/-- And another one of the same, in block m. -/
structure CuM (w : World) (r : RC) (u : Value) (m : Nat) (v : Value) (W : World) : Prop where
  b : CuB w r u W
  two : RcO W m r v
  vs : AdsT W v r.src
theorem CuM.keep {w : World} {r : RC} {u : Value} {m : Nat} {v : Value} (W W' : World) (h : CuM w r u m v W) (hb : Below W.heap.size W W') : CuM w r u m v W' := ⟨CuB.keep _ _ h.b hb, h.two.below hb, h.vs.below hb⟩
/-- The record, and what is cut of it in block m. -/
structure CuN (w : World) (r : RC) (u : Value) (m : Nat) (c : RC) (v : Value) (W : World) : Prop where
  b : CuB w r u W
  two : RcO W m c v
  vs : AdsT W v c.src
theorem CuN.keep {w : World} {r : RC} {u : Value} {m : Nat} {c : RC} {v : Value} (W W' : World) (h : CuN w r u m c v W) (hb : Below W.heap.size W W') : CuN w r u m c v W' := ⟨CuB.keep _ _ h.b hb, h.two.below hb, h.vs.below hb⟩
theorem CuB.new {w W : World} {r c : RC} {u v : Value} (h : CuB w r u W) (ho : adOk c.g) (hv : AdsT W v c.src) : CuN w r u W.heap.size c v (aggW (W.alloc (.cells #[.int .i64 0, .bool false, .int .u8 0, .int .u8 0, .int .u8 0, .int .u8 0, .int .u8 0, .int .u8 0, .int .u8 0, .int .u8 0, .int .u8 0, .int .u8 0, .int .u8 0, .int .u8 0, .int .u8 0, .int .u8 0, .int .u8 0, .int .u8 0, .slice none 0 0] 40)) W.heap.size (rcC c v)) :=
  ⟨CuB.keep _ _ h (newBlw W _ _), ⟨newObj W _ _ (by rw [rcC_length ho]; rfl) (rcC_one hv.1.one), ho⟩, hv.below (newBlw W _ _)⟩
theorem CuB.stored {w W : World} {r : RC} {u v : Value} {m : Nat} (h : CuB w r u W) (hz : ObjAt W m #[.int .i64 0, .bool false, .int .u8 0, .int .u8 0, .int .u8 0, .int .u8 0, .int .u8 0, .int .u8 0, .int .u8 0, .int .u8 0, .int .u8 0, .int .u8 0, .int .u8 0, .int .u8 0, .int .u8 0, .int .u8 0, .int .u8 0, .int .u8 0, .slice none 0 0] 40) (lt : w.heap.size < m) (hv : AdsT W v r.src) : CuM w r u m v (aggW W m (rcC r v)) := by
  have hz' : ObjAt W m (rcC ⟨0, zeroA, []⟩ (.slice none 0 0)).toArray 40 := hz
  exact ⟨⟨aggW_below h.blw (by omega) _, ⟨aggW_other h.one.obj _ (by omega), h.one.ok⟩, AdsT.offC h.us hz (by decide) (aggW_grown _ _ _)⟩, ⟨aggW_obj hz' (by rw [rcC_length h.one.ok, rcC_length zeroA_ok]) (rcC_one hv.1.one), h.one.ok⟩, AdsT.offC hv hz (by decide) (aggW_grown _ _ _)⟩
/-- Two that are cut. -/
structure CuQ (w : World) (r : RC) (u : Value) (m : Nat) (c : RC) (v : Value) (n : Nat) (x : Value) (W : World) : Prop where
  b : CuN w r u m c v W
  three : RcO W n c x
  xs : AdsT W x c.src
theorem CuQ.keep {w : World} {r : RC} {u : Value} {m : Nat} {c : RC} {v : Value} {n : Nat} {x : Value} (W W' : World) (h : CuQ w r u m c v n x W) (hb : Below W.heap.size W W') : CuQ w r u m c v n x W' := ⟨CuN.keep _ _ h.b hb, h.three.below hb, h.xs.below hb⟩
theorem CuN.new {w W : World} {r c : RC} {u v x : Value} {m : Nat} (h : CuN w r u m c v W) (hx : AdsT W x c.src) : CuQ w r u m c v W.heap.size x (aggW (W.alloc (.cells #[.int .i64 0, .bool false, .int .u8 0, .int .u8 0, .int .u8 0, .int .u8 0, .int .u8 0, .int .u8 0, .int .u8 0, .int .u8 0, .int .u8 0, .int .u8 0, .int .u8 0, .int .u8 0, .int .u8 0, .int .u8 0, .int .u8 0, .int .u8 0, .slice none 0 0] 40)) W.heap.size (rcC c x)) :=
  ⟨CuN.keep _ _ h (newBlw W _ _), ⟨newObj W _ _ (by rw [rcC_length h.two.ok]; rfl) (rcC_one hx.1.one), h.two.ok⟩, hx.below (newBlw W _ _)⟩
theorem bld_rep (v6 : Bool) (r : RC) (p : Option Addr) (n c : Nat) (w : World) : (aggBuild 28 #[(0, .bool v6), (1, .int .i64 (lastN v6)), (2, .int .i64 2), (9, .slice p n c)]).run Try.prog w = .ok (.agg (tkC (repC v6 r) (.slice none 0 0) (.slice p n c)).toArray) w := bld_run _ _ _ (by kernel_rfl) _
theorem repC_ok {v6 : Bool} {r : RC} (h : adOk r.g) (hs : ∀ a ∈ r.src, adOk a) : (repC v6 r).ok := by
  refine ⟨zeroA_ok, fun a ha => (by cases ha), fun x hx => ?_⟩
  obtain rfl : x = r := by simpa [repC] using hx
  exact ⟨h, hs⟩
theorem AdsT.okC {w : World} {v : Value} {l : List AD} (h : AdsT w v l) : ∀ a ∈ l, adOk a := h.1.ok
/-- What the first cut leaves. -/
def CZ (w : World) (r : RC) (u : Value) (p7 : Value) (W : World) : Prop := ∃ m q n k, p7 = .pointer (some ⟨m, 0, none⟩) ∧ CuM w r u m (.slice q n k) W
set_option maxRecDepth 100000 in
set_option maxHeartbeats 16000000 in
theorem ccuts_any (v6 : Bool) (md : Int) (r : RC) (u : Value) (ho : adOk r.g) (w : World) (hu : Ads w u r.src) : Calls Try.prog 5 #[.bool v6, .int .i64 md, .agg (rcC r u).toArray] w fun x w' => x = .returned (.bool true) ∧ Below w.heap.size w w' := by
  have H0 := Lib.hid (RcO.made w r u ho)
  have HB0 := Lib.hid (bbox w (.cells (rcC r u).toArray 40))
  have HA1 : Hid (∀ W, Below w.heap.size w W → Calls Try.prog 18 #[u, .int .i64 6] W fun x w' => ∃ p n k, x = .returned (.slice p n k) ∧ Below W.heap.size W w' ∧ AdsT w' (.slice p n k) (r.src.take 6)) := Lib.hid fun W hb => (laddrs_any u r.src 6 (by omega) W (hu.below hb)).mono fun x w' ⟨v, hx, hb2, hv⟩ => by
    obtain ⟨p, k, rfl, _, _⟩ := hv.1.len
    exact ⟨p, _, k, hx, hb2, hv⟩
  obtain ⟨R, hR⟩ : ∃ R : RC, R = ⟨r.kind, r.g, r.src.take 6⟩ := ⟨_, rfl⟩
  have hRs : r.src.take 6 = R.src := by rw [hR]
  have hRl : R.src.length ≤ 6 := by rw [hR]; show (r.src.take 6).length ≤ 6; rw [List.length_take]; omega
  have hRo : adOk R.g := by rw [hR]; exact ho
  have hR6 : R.src.take 6 = R.src := List.take_of_length_le hRl
  have HST : Hid (∀ W v, RcO W w.heap.size r u → RcO (W.setCell ⟨w.heap.size, 18, none⟩ v) w.heap.size R v) := Lib.hid fun W v h => by rw [hR]; exact h.set v _
  rw [hRs] at HA1
  have HA2 : Hid (∀ W v, AdsT W v R.src → Calls Try.prog 18 #[v, .int .i64 6] W fun x w' => ∃ p n k, x = .returned (.slice p n k) ∧ Below W.heap.size W w' ∧ AdsT w' (.slice p n k) R.src) := Lib.hid fun W v h => (laddrs_any v R.src 6 (by omega) W h.1).mono fun x w' ⟨v, hx, hb2, hv⟩ => by
    rw [hR6] at hv
    obtain ⟨p, k, rfl, _, _⟩ := hv.1.len
    exact ⟨p, _, k, hx, hb2, hv⟩
  obtain ⟨c, hc⟩ : ∃ c, c = cutC v6 md R := ⟨_, rfl⟩
  obtain ⟨i, hi⟩ : ∃ i, i = cutIs v6 md R := ⟨_, rfl⟩
  have hco : adOk c.g := by rw [hc]; exact cutC_ok hRo
  have HCP : Hid (∀ W v, AdsT W v R.src → Calls Try.prog 19 #[.bool v6, .int .i64 md, .agg (rcC R v).toArray] W fun x w' => ∃ p n k, x = .returned (.tuple #[.agg (rcC c (.slice p n k)).toArray, .bool i]) ∧ Below W.heap.size W w' ∧ AdsT w' (.slice p n k) c.src) := Lib.hid fun W v h => (ccut_any v6 md R v hRo W h (by omega)).mono fun x w' ⟨u', hx, hb2, hv⟩ => by
    rw [← hc, ← hi] at hx
    rw [← hc] at hv
    obtain ⟨p, k, rfl, _, _⟩ := hv.1.len
    exact ⟨p, _, k, hx, hb2, hv⟩
  have HCR : Hid (∀ W v, AdsT W v R.src → Calls Try.prog 20 #[.bool v6, .int .i64 md, .agg (rcC R v).toArray] W fun x w' => ∃ p n k, x = .returned (.tuple #[.agg (rcC c (.slice p n k)).toArray, .bool i]) ∧ Below W.heap.size W w' ∧ AdsT w' (.slice p n k) c.src) := Lib.hid fun W v h => (rcut16_any v6 md R v hRo W h).mono fun x w' ⟨u', hx, hb2, hv⟩ => by
    rw [← hc, ← hi] at hx
    rw [← hc] at hv
    obtain ⟨p, k, rfl, _, _⟩ := hv.1.len
    exact ⟨p, _, k, hx, hb2, hv⟩
  have HSM : Hid (∀ W v v', Rcs W v [c] → Rcs W v' [c] → Calls Try.prog 9 #[v, v'] W fun x w' => x = .returned (.bool true) ∧ Below W.heap.size W w') := Lib.hid fun W v v' h1 h2 => (sameRecords_any v v' [c] [c] W h1 h2).mono fun x w' ⟨hx, d, hd⟩ => ⟨by rw [decide_eq_true rfl] at hx; exact hx, by rw [hd]; exact bdrewN (Below.refl _ _) d⟩
  have HL : Hid (∀ W, Calls Try.prog 17 #[.bool v6] W fun x w' => x = .returned (.int .i64 (lastN v6)) ∧ W = w') := Lib.hid fun W => rlast16_any v6 W
  obtain ⟨g, hg⟩ : ∃ g, g = gdT (repC v6 R) := ⟨_, rfl⟩
  have HT1 : Hid (∀ W v, Rcs W v [R] → (∀ a ∈ R.src, adOk a) → Calls Try.prog 7 #[.agg (tkC (repC v6 R) (.slice none 0 0) v).toArray] W fun x w' => x = .returned (.bool g) ∧ Below W.heap.size W w') := Lib.hid fun W v h hs => by rw [hg]; exact rtalk_all (repC v6 R) _ v W (repC_ok hRo hs) (Ads.nil W) h
  have HT2 : Hid (i = true → g = true → ∀ W v, Rcs W v [c] → (∀ a ∈ c.src, adOk a) → Calls Try.prog 7 #[.agg (tkC (repC v6 c) (.slice none 0 0) v).toArray] W fun x w' => x = .returned (.bool true) ∧ Below W.heap.size W w') := Lib.hid fun q1 q2 W v h hs => by
    have k := rtalk_all (repC v6 c) _ v W (repC_ok hco hs) (Ads.nil W) h
    rwa [show gdT (repC v6 c) = true by rw [hc]; exact repC_cut (by rw [← hi]; exact q1) (by rw [← hg]; exact q2)] at k
  have HLV := Lib.hid (fun W => lives16_any W)
  have HRO := Lib.hid hRo
  have HCO := Lib.hid hco
  have hfm := fun W => fmade W #[.int .i64 0, .bool false, .int .u8 0, .int .u8 0, .int .u8 0, .int .u8 0, .int .u8 0, .int .u8 0, .int .u8 0, .int .u8 0, .int .u8 0, .int .u8 0, .int .u8 0, .int .u8 0, .int .u8 0, .int .u8 0, .int .u8 0, .int .u8 0, .slice none 0 0] 40 19 rfl
  have hfkR : Hid (∀ v : Value, v.oneCell' = true → fok (rcC R v).toArray 19 = true) := Lib.hid fun v h => fok_rec hRo h
  have hfkc : Hid (∀ v : Value, v.oneCell' = true → fok (rcC c v).toArray 19 = true) := Lib.hid fun v h => fok_rec hco h
  have hlR := fun p n k w0 => rcsLit_run R hRo p n k w0
  have hlc := fun p n k w0 => rcsLit_run c hco p n k w0
  have hbR : ∀ p n k w0, (aggBuild 40 #[(0, .int .i64 R.kind), (1, .agg (adC R.g).toArray), (2, .slice p n k)]).run Try.prog w0 = .ok (.agg (rcC R (.slice p n k)).toArray) w0 := fun p n k w0 => bldr_rec R.kind R.g hRo R.src p n k w0
  have hbt1 := fun p n k w0 => bld_rep v6 R p n k w0
  have hbt2 := fun p n k w0 => bld_rep v6 c p n k w0
  clear hRs hRl hRo hR6 hco hR hc hi hg ho hu
  go_enter Try.func5, Try.ntmps5
  go_upto_region 1 with (fail)
  generalize w.alloc _ = W at H0 HB0 ⊢
  have c18 := H0.out.src
  have f18 := H0.out.freeS
  go_upto_region 2 with (go_at_call 18; (with_reducible refine (HA1.out _ HB0.out).mono ?_); rintro x w1 ⟨p1, n1, k1, rfl, hb, hv⟩; have H1 := Lib.hid (H0.out.below hb); have HB1 := Lib.hid (bstep HB0.out hb); have HV := Lib.hid hv; clear hb hv c18 f18; have c18 := H1.out.src; have f18 := H1.out.freeS)
  have HT : Hid (CuB w R (.slice p1 n1 k1) (w1.setCell ⟨w.heap.size, 18, none⟩ (.slice p1 n1 k1))) := Lib.hid ⟨HB1.out.setCell (p := ⟨w.heap.size, 18, none⟩) (by simp) _, HST.out _ _ H1.out, AdsT.offC HV.out H1.out.obj (by decide) (setcC_grown _ _ _ _)⟩
  generalize World.setCell _ _ _ = W1 at HT ⊢
  clear H0 HB0 H1 HB1 HV c18 f18 HA1 HST
  generalize hu1 : Value.slice p1 n1 k1 = u1 at HT
  have HF := Lib.hid (fun W (h : CuB w R u1 W) => (⟨h.one.kind, h.one.grp, h.one.src⟩ : W.cell? ⟨w.heap.size, 0, none⟩ = some (.int .i64 R.kind) ∧ row? W w.heap.size 1 17 = some (adC R.g) ∧ W.cell? ⟨w.heap.size, 18, none⟩ = some u1))
  go_cut [7] from 8 (fun p7 wr => CZ w R u1 p7 wr)
  case first =>
    refine wp_region_held_drew (S := fun W => W.cell? ⟨w.heap.size, 0, none⟩ = some (.int .i64 R.kind) ∧ row? W w.heap.size 1 17 = some (adC R.g) ∧ W.cell? ⟨w.heap.size, 18, none⟩ = some u1) (by kernel_rfl) (HF.out _ (CuB.keep _ W1.drew HT.out (bdrewN (Below.refl _ _) 1))) (fun hHeld => ?_)
    replace HT := Lib.hid (CuB.keep _ W1.drew HT.out (bdrewN (Below.refl _ _) 1))
    generalize World.drew W1 = Wd at HT hHeld ⊢
    refine wpAnyH_take (i := 0) (oi := { dst := some 16, op := _, type := _, pos := _, after := _, guard := _ }) (v := ?v1) rfl (by kernel_rfl) (by kernel_rfl) (by kernel_rfl) (fun _ _ _ h => h) (Or.inl ⟨by rfl, ?y1⟩) (by assumption) ?r1
    case y1 => (intro w hSw; go_simp; try with_reducible rfl)
    try simp only [Act.put, List.setIfInBounds_toArray, List.set_cons_zero, List.set_cons_succ]
    refine wpAnyH_take (i := 1) (oi := { dst := some 17, op := _, type := _, pos := _, after := _, guard := _ }) (v := ?v2) rfl (by kernel_rfl) (by kernel_rfl) (by kernel_rfl) (fun _ _ _ h => h) (Or.inl ⟨by rfl, ?y2⟩) (by assumption) ?r2
    case y2 => (intro w hSw; go_simp; try with_reducible rfl)
    try simp only [Act.put, List.setIfInBounds_toArray, List.set_cons_zero, List.set_cons_succ]
    refine wpAnyH_take (i := 2) (oi := { dst := some 18, op := _, type := _, pos := _, after := _, guard := _ }) (v := ?v3) rfl (by kernel_rfl) (by kernel_rfl) (by kernel_rfl) (fun _ _ _ h => h) (Or.inl ⟨by rfl, ?y3⟩) (by assumption) ?r3
    case y3 => (intro w hSw; go_simp; try with_reducible rfl)
    try simp only [Act.put, List.setIfInBounds_toArray, List.set_cons_zero, List.set_cons_succ]
    refine wpAnyH_take (i := 3) (oi := { dst := some 19, op := _, type := _, pos := _, after := _, guard := _ }) (v := ?v4) rfl (by kernel_rfl) (by kernel_rfl) (by kernel_rfl) (fun _ _ _ h => h) (Or.inl ⟨by rfl, ?y4⟩) (by assumption) ?r4
    case y4 => (intro w hSw; go_simp; try with_reducible rfl)
    try simp only [Act.put, List.setIfInBounds_toArray, List.set_cons_zero, List.set_cons_succ]
    refine wpAnyH_take (i := 4) (oi := { dst := some 20, op := _, type := _, pos := _, after := _, guard := _ }) (v := ?v5) rfl (by kernel_rfl) (by kernel_rfl) (by kernel_rfl) (fun _ _ _ h => h) (Or.inl ⟨by rfl, ?y5⟩) (by assumption) ?r5
    case y5 => (intro w hSw; go_simp; try with_reducible rfl)
    try simp only [Act.put, List.setIfInBounds_toArray, List.set_cons_zero, List.set_cons_succ]
    refine wpAnyH_take (i := 5) (oi := { dst := some 21, op := _, type := _, pos := _, after := _, guard := _ }) (v := ?v6) rfl (by kernel_rfl) (by kernel_rfl) (by kernel_rfl) (fun _ _ _ h => h) (Or.inl ⟨by rfl, ?y6⟩) (by assumption) ?r6
    case y6 => (intro w hSw; go_simp; try with_reducible rfl)
    try simp only [Act.put, List.setIfInBounds_toArray, List.set_cons_zero, List.set_cons_succ]
    refine wpAnyH_ready (rs := [6, 8]) (by kernel_rfl) (by simp) (AllReadyH.cons (o := { dst := some 22, op := _, type := _, pos := _, after := _, guard := _ }) rfl (fun K hK => ?_) (AllReadyH.cons (o := { dst := some 7, op := _, type := _, pos := _, after := _, guard := _ }) rfl (fun K hK => ?_) AllReadyH.nil))
    · go_simp
      (go_at_call 18; (with_reducible refine (HA2.out _ _ HT.out.us).mono ?_); rintro x w2 ⟨p2, n2, k2, rfl, hb, hv⟩; replace HT := Lib.hid (CuB.keep _ _ HT.out hb); have HV := Lib.hid hv; have hk := hfkR.out _ hv.1.one; clear hb hv)
      try go_wp2_with fail
      refine hK.out _ _ (HF.out _ HT.out) (fun hHeld => ?_)
      clear hK K
      try simp only [Act.put, List.setIfInBounds_toArray, List.set_cons_zero, List.set_cons_succ]
      refine wpAnyH_take (i := 7) (oi := { dst := some 23, op := _, type := _, pos := _, after := _, guard := _ }) (v := ?v7) rfl (by kernel_rfl) (by kernel_rfl) (by kernel_rfl) (fun _ _ _ h => h) (Or.inl ⟨by rfl, ?y7⟩) (by assumption) ?r7
      case y7 => (intro w hSw; go_simp; try with_reducible rfl)
      try simp only [Act.put, List.setIfInBounds_toArray, List.set_cons_zero, List.set_cons_succ]
      refine wpAnyH_ready (rs := [8]) (by kernel_rfl) (by simp) (AllReadyH.cons (o := _) rfl (fun K hK => ?_) AllReadyH.nil)
      go_simp
      refine hK.out _ _ (HF.out _ (CuB.keep _ _ HT.out (bbox w2 (.cells #[.int .i64 0, .bool false, .int .u8 0, .int .u8 0, .int .u8 0, .int .u8 0, .int .u8 0, .int .u8 0, .int .u8 0, .int .u8 0, .int .u8 0, .int .u8 0, .int .u8 0, .int .u8 0, .int .u8 0, .int .u8 0, .int .u8 0, .int .u8 0, .slice none 0 0] 40)))) (fun hHeld => ?_)
      clear hK K
      try simp only [Act.put, List.setIfInBounds_toArray, List.set_cons_zero, List.set_cons_succ]
      have HZ := Lib.hid (ObjAt.made w2 #[.int .i64 0, .bool false, .int .u8 0, .int .u8 0, .int .u8 0, .int .u8 0, .int .u8 0, .int .u8 0, .int .u8 0, .int .u8 0, .int .u8 0, .int .u8 0, .int .u8 0, .int .u8 0, .int .u8 0, .int .u8 0, .int .u8 0, .int .u8 0, .slice none 0 0] 40)
      have HLT : Hid (w.heap.size < w2.heap.size) := Lib.hid HT.out.one.obj.lt
      replace HT := Lib.hid (CuB.keep _ _ HT.out (bbox w2 (.cells #[.int .i64 0, .bool false, .int .u8 0, .int .u8 0, .int .u8 0, .int .u8 0, .int .u8 0, .int .u8 0, .int .u8 0, .int .u8 0, .int .u8 0, .int .u8 0, .int .u8 0, .int .u8 0, .int .u8 0, .int .u8 0, .int .u8 0, .int .u8 0, .slice none 0 0] 40)))
      replace HV := Lib.hid (HV.out.below (bbox w2 (.cells #[.int .i64 0, .bool false, .int .u8 0, .int .u8 0, .int .u8 0, .int .u8 0, .int .u8 0, .int .u8 0, .int .u8 0, .int .u8 0, .int .u8 0, .int .u8 0, .int .u8 0, .int .u8 0, .int .u8 0, .int .u8 0, .int .u8 0, .int .u8 0, .slice none 0 0] 40)))
      generalize World.alloc w2 _ = W8 at HT HZ HV hHeld ⊢
      generalize w2.heap.size = m7 at HZ HLT ⊢
      have hf7 : free? W8 m7 0 19 = true := obj_free_at HZ.out 0 19 (Nat.le_refl _)
      refine wpAnyH_ready (rs := [9]) (by kernel_rfl) (by simp) (AllReadyH.cons (o := _) rfl (fun K hK => ?_) AllReadyH.nil)
      go_simp
      refine hK.out _ _ (HF.out _ (CuB.stored HT.out HZ.out HLT.out HV.out).b) (fun hHeld => ?_)
      clear hK K
      try simp only [Act.put, List.setIfInBounds_toArray, List.set_cons_zero, List.set_cons_succ]
      have HW := Lib.hid (CuB.stored HT.out HZ.out HLT.out HV.out)
      generalize aggW _ m7 _ = W9 at HW hHeld ⊢
      refine wpAnyH_done (by kernel_rfl) ?_ _
      try go_wp2_with fail
      go_meet
      case rel => exact ⟨m7, p2, n2, k2, rfl, HW.out⟩
    · go_simp
      refine hK.out _ _ (HF.out _ (CuB.keep _ _ HT.out (bbox Wd (.cells #[.int .i64 0, .bool false, .int .u8 0, .int .u8 0, .int .u8 0, .int .u8 0, .int .u8 0, .int .u8 0, .int .u8 0, .int .u8 0, .int .u8 0, .int .u8 0, .int .u8 0, .int .u8 0, .int .u8 0, .int .u8 0, .int .u8 0, .int .u8 0, .slice none 0 0] 40)))) (fun hHeld => ?_)
      clear hK K
      try simp only [Act.put, List.setIfInBounds_toArray, List.set_cons_zero, List.set_cons_succ]
      have HZ := Lib.hid (ObjAt.made Wd #[.int .i64 0, .bool false, .int .u8 0, .int .u8 0, .int .u8 0, .int .u8 0, .int .u8 0, .int .u8 0, .int .u8 0, .int .u8 0, .int .u8 0, .int .u8 0, .int .u8 0, .int .u8 0, .int .u8 0, .int .u8 0, .int .u8 0, .int .u8 0, .slice none 0 0] 40)
      have HLT : Hid (w.heap.size < Wd.heap.size) := Lib.hid HT.out.one.obj.lt
      replace HT := Lib.hid (CuB.keep _ _ HT.out (bbox Wd (.cells #[.int .i64 0, .bool false, .int .u8 0, .int .u8 0, .int .u8 0, .int .u8 0, .int .u8 0, .int .u8 0, .int .u8 0, .int .u8 0, .int .u8 0, .int .u8 0, .int .u8 0, .int .u8 0, .int .u8 0, .int .u8 0, .int .u8 0, .int .u8 0, .slice none 0 0] 40)))
      generalize World.alloc Wd _ = W8 at HT HZ hHeld ⊢
      generalize Wd.heap.size = m7 at HZ HLT ⊢
      refine wpAnyH_ready (rs := [6]) (by kernel_rfl) (by simp) (AllReadyH.cons (o := _) rfl (fun K hK => ?_) AllReadyH.nil)
      go_simp
      (go_at_call 18; (with_reducible refine (HA2.out _ _ HT.out.us).mono ?_); rintro x w2 ⟨p2, n2, k2, rfl, hb, hv⟩; replace HT := Lib.hid (CuB.keep _ _ HT.out hb); replace HZ := Lib.hid (obj_keep HZ.out hb); replace HLT := Lib.hid HLT.out; have HV := Lib.hid hv; have hk := hfkR.out _ hv.1.one; have hf7 : free? w2 m7 0 19 = true := obj_free_at HZ.out 0 19 (Nat.le_refl _); clear hb hv)
      try go_wp2_with fail
      refine hK.out _ _ (HF.out _ HT.out) (fun hHeld => ?_)
      clear hK K
      try simp only [Act.put, List.setIfInBounds_toArray, List.set_cons_zero, List.set_cons_succ]
      refine wpAnyH_take (i := 7) (oi := { dst := some 23, op := _, type := _, pos := _, after := _, guard := _ }) (v := ?v8) rfl (by kernel_rfl) (by kernel_rfl) (by kernel_rfl) (fun _ _ _ h => h) (Or.inl ⟨by rfl, ?y8⟩) (by assumption) ?r8
      case y8 => (intro w hSw; go_simp; try with_reducible rfl)
      try simp only [Act.put, List.setIfInBounds_toArray, List.set_cons_zero, List.set_cons_succ]
      refine wpAnyH_ready (rs := [9]) (by kernel_rfl) (by simp) (AllReadyH.cons (o := _) rfl (fun K hK => ?_) AllReadyH.nil)
      go_simp
      refine hK.out _ _ (HF.out _ (CuB.stored HT.out HZ.out HLT.out HV.out).b) (fun hHeld => ?_)
      clear hK K
      try simp only [Act.put, List.setIfInBounds_toArray, List.set_cons_zero, List.set_cons_succ]
      have HW := Lib.hid (CuB.stored HT.out HZ.out HLT.out HV.out)
      generalize aggW _ m7 _ = W9 at HW hHeld ⊢
      refine wpAnyH_done (by kernel_rfl) ?_ _
      try go_wp2_with fail
      go_meet
      case rel => exact ⟨m7, p2, n2, k2, rfl, HW.out⟩
  case rest =>
    obtain ⟨m7, q7, n7, k7, rfl, hq⟩ := hcut
    have HM := Lib.hid hq
    clear hq HT HF HA2
    have r7 := HM.out.two.row
    go_upto_region 4 with (go_at_call 19; (with_reducible refine (HCP.out _ _ HM.out.vs).mono ?_); rintro x w3 ⟨p8, n8, k8, rfl, hb, hv⟩; have HM3 := Lib.hid (CuB.keep _ _ HM.out.b hb); have HV := Lib.hid hv; have hk := hfkc.out _ hv.1.one; clear hb hv r7)
    have HN := Lib.hid (HM3.out.new HCO.out HV.out)
    generalize aggW (w3.alloc _) w3.heap.size _ = W4 at HN ⊢
    generalize w3.heap.size = m8 at HN ⊢
    clear HM HM3 HV hk HCP
    have r0 := HN.out.b.one.row
    go_upto_region 5 with (go_at_call 20; (with_reducible refine (HCR.out _ _ HN.out.b.us).mono ?_); rintro x w5 ⟨p9, n9, k9, rfl, hb, hv⟩; have HN5 := Lib.hid (CuN.keep _ _ HN.out hb); have HV := Lib.hid hv; have hk := hfkc.out _ hv.1.one; clear hb hv r0)
    have HQ := Lib.hid (HN5.out.new HV.out)
    generalize aggW (w5.alloc _) w5.heap.size _ = W6 at HQ ⊢
    generalize w5.heap.size = m10 at HQ ⊢
    clear HN HN5 HV hk HCR hfm
    have r8 := HQ.out.b.two.row
    have r10 := (HQ.out.three.below (bbox W6 (.cells (rcC c (.slice p8 n8 k8)).toArray 40))).row
    have hx1 := rcs_lit W6 c (.slice p8 n8 k8) HCO.out HQ.out.b.vs.1
    have hx2 := rcs_lit (W6.alloc (.cells (rcC c (.slice p8 n8 k8)).toArray 40)) c (.slice p9 n9 k9) HCO.out (HQ.out.xs.1.below (bbox _ _))
    rw [show (W6.alloc (.cells (rcC c (.slice p8 n8 k8)).toArray 40)).heap.size = W6.heap.size + 1 by simp] at hx2
    have HX1 := Lib.hid (hx1.below (bbox _ (.cells (rcC c (.slice p9 n9 k9)).toArray 40)))
    have HX2 := Lib.hid hx2
    have HQ2 := Lib.hid (CuQ.keep _ _ (CuQ.keep _ _ HQ.out (bbox W6 (.cells (rcC c (.slice p8 n8 k8)).toArray 40))) (bbox _ (.cells (rcC c (.slice p9 n9 k9)).toArray 40)))
    clear hx1 hx2
    have hne : (i != i) = false := by cases i <;> rfl
    go_upto_region 7 with (go_at_call 9; (with_reducible refine (HSM.out _ _ _ HX1.out HX2.out).mono ?_); rintro x w7 ⟨rfl, hb⟩; have HQ3 := Lib.hid (CuQ.keep _ _ HQ2.out hb); clear hb)
    clear r8 r10 HX1 HX2 HQ2 HQ hne HSM
    cases i with
    | false =>
      clear HT2
      have hne : Nonempty (InS (CuQ w R u1 m8 c (.slice p8 n8 k8) m10 (.slice p9 n9 k9))) := ⟨⟨_, HQ3.out⟩⟩
      refine wp_region_inS (CuQ w R u1 m8 c (.slice p8 n8 k8) m10 (.slice p9 n9 k9)) (by kernel_rfl) (by kernel_rfl) (CuQ.keep _ _ HQ3.out (bdrewN (Below.refl _ _) 1)) ?_
      repeat (go_big_quiet_step (fail))
      refine wpQuiet_nil ?_
      rintro _ ⟨⟨W2, hS2⟩, rfl⟩
      have H2 := Lib.hid hS2
      clear hS2 hne 
      go_wp2_with (go_at_call 8; (with_reducible refine (HLV.out _).mono ?_); rintro x w8 ⟨rfl, hb⟩; replace H2 := Lib.hid (CuQ.keep _ _ H2.out hb); clear hb)
      go_ret
      exact ⟨rfl, H2.out.b.b.blw⟩
    | true =>
      have HT3 := Lib.hid (HT2.out rfl)
      clear HT2
      subst hu1
      refine wp_region_held_drew (S := fun W => row? W w.heap.size 0 19 = some (rcC R (.slice p1 n1 k1))) (by kernel_rfl) (((CuQ.keep _ (World.drew _) HQ3.out (bdrewN (Below.refl _ _) 1))).b.b.one.row) (fun hHeld => ?_)
      replace HQ3 := Lib.hid (CuQ.keep _ (World.drew _) HQ3.out (bdrewN (Below.refl _ _) 1))
      generalize World.drew _ = Wc at HQ3 hHeld ⊢
      refine wpAnyH_take (i := 0) (oi := { dst := some 49, op := _, type := _, pos := _, after := _, guard := _ }) (v := ?v101) rfl (by kernel_rfl) (by kernel_rfl) (by kernel_rfl) (fun _ _ _ h => h) (Or.inl ⟨by rfl, ?y101⟩) (by assumption) ?r101
      case y101 => (intro w hSw; go_simp; try with_reducible rfl)
      try simp only [Act.put, List.setIfInBounds_toArray, List.set_cons_zero, List.set_cons_succ]
      refine wpAnyH_take (i := 1) (oi := { dst := some 50, op := _, type := _, pos := _, after := _, guard := _ }) (v := ?v102) rfl (by kernel_rfl) (by kernel_rfl) (by kernel_rfl) (fun _ _ _ h => h) (Or.inl ⟨by rfl, ?y102⟩) (by assumption) ?r102
      case y102 => (intro w hSw; go_simp; try with_reducible rfl)
      try simp only [Act.put, List.setIfInBounds_toArray, List.set_cons_zero, List.set_cons_succ]
      refine wpAnyH_take (i := 2) (oi := { dst := some 51, op := _, type := _, pos := _, after := _, guard := _ }) (v := ?v103) rfl (by kernel_rfl) (by kernel_rfl) (by kernel_rfl) (fun _ _ _ h => h) (Or.inl ⟨by rfl, ?y103⟩) (by assumption) ?r103
      case y103 => (intro w hSw; go_simp; try with_reducible rfl)
      try simp only [Act.put, List.setIfInBounds_toArray, List.set_cons_zero, List.set_cons_succ]
      refine wpAnyH_take (i := 3) (oi := { dst := some 52, op := _, type := _, pos := _, after := _, guard := _ }) (v := ?v104) rfl (by kernel_rfl) (by kernel_rfl) (by kernel_rfl) (fun _ _ _ h => h) (Or.inl ⟨by rfl, ?y104⟩) (by assumption) ?r104
      case y104 => (intro w hSw; go_simp; try with_reducible rfl)
      try simp only [Act.put, List.setIfInBounds_toArray, List.set_cons_zero, List.set_cons_succ]
      refine wpAnyH_take (i := 4) (oi := { dst := some 53, op := _, type := _, pos := _, after := _, guard := _ }) (v := ?v105) rfl (by kernel_rfl) (by kernel_rfl) (by kernel_rfl) (fun _ _ _ h => h) (Or.inl ⟨by rfl, ?y105⟩) (by assumption) ?r105
      case y105 => (intro w hSw; go_simp; try with_reducible rfl)
      try simp only [Act.put, List.setIfInBounds_toArray, List.set_cons_zero, List.set_cons_succ]
      refine wpAnyH_take (i := 6) (oi := { dst := some 55, op := _, type := _, pos := _, after := _, guard := _ }) (v := ?v106) rfl (by kernel_rfl) (by kernel_rfl) (by kernel_rfl) (fun _ _ _ h => h) (Or.inl ⟨by rfl, ?y106⟩) (by assumption) ?r106
      case y106 => (intro w hSw; go_simp; try with_reducible rfl)
      try simp only [Act.put, List.setIfInBounds_toArray, List.set_cons_zero, List.set_cons_succ]
      refine wpAnyH_ready (rs := [5, 7]) (by kernel_rfl) (by simp) (AllReadyH.cons (o := { dst := some 54, op := _, type := _, pos := _, after := _, guard := _ }) rfl (fun K hK => ?_) (AllReadyH.cons (o := { dst := some 56, op := _, type := _, pos := _, after := _, guard := _ }) rfl (fun K hK => ?_) AllReadyH.nil))
      · go_simp
        (go_at_call 17; (with_reducible refine (HL.out _).mono ?_); rintro x wl ⟨rfl, rfl⟩)
        try go_wp2_with fail
        refine hK.out _ _ ((HQ3.out).b.b.one.row) (fun hHeld => ?_)
        clear hK K
        try simp only [Act.put, List.setIfInBounds_toArray, List.set_cons_zero, List.set_cons_succ]
        refine wpAnyH_ready (rs := [7]) (by kernel_rfl) (by simp) (AllReadyH.cons (o := { dst := some 56, op := _, type := _, pos := _, after := _, guard := _ }) rfl (fun K hK => ?_) AllReadyH.nil)
        go_simp
        refine hK.out _ _ (((CuQ.keep _ _ HQ3.out (bbox Wc (.cells (rcC R (.slice p1 n1 k1)).toArray 40)))).b.b.one.row) (fun hHeld => ?_)
        clear hK K
        try simp only [Act.put, List.setIfInBounds_toArray, List.set_cons_zero, List.set_cons_succ]
        have HX := Lib.hid (rcs_lit Wc R (.slice p1 n1 k1) HRO.out (HQ3.out.b.b.us.1))
        replace HQ3 := Lib.hid (CuQ.keep _ _ HQ3.out (bbox Wc (.cells (rcC R (.slice p1 n1 k1)).toArray 40)))
        generalize World.alloc Wc _ = We at HX HQ3 hHeld ⊢
        generalize Wc.heap.size = mx at HX ⊢
        refine wpAnyH_take (i := 8) (oi := { dst := some 57, op := _, type := _, pos := _, after := _, guard := _ }) (v := ?v107) rfl (by kernel_rfl) (by kernel_rfl) (by kernel_rfl) (fun _ _ _ h => h) (Or.inl ⟨by rfl, ?y107⟩) (by assumption) ?r107
        case y107 => (intro w hSw; go_simp; try with_reducible rfl)
        try simp only [Act.put, List.setIfInBounds_toArray, List.set_cons_zero, List.set_cons_succ]
        refine wpAnyH_ready (rs := [9]) (by kernel_rfl) (by simp) (AllReadyH.cons (o := _) rfl (fun K hK => ?_) AllReadyH.nil)
        go_simp
        (go_at_call 7; (with_reducible refine (HT1.out _ _ HX.out HQ3.out.b.b.us.okC).mono ?_); rintro x wt ⟨rfl, hb⟩; replace HQ3 := Lib.hid (CuQ.keep _ _ HQ3.out hb); clear hb HX)
        try go_wp2_with fail
        refine hK.out _ _ ((HQ3.out).b.b.one.row) (fun hHeld => ?_)
        clear hK K
        try simp only [Act.put, List.setIfInBounds_toArray, List.set_cons_zero, List.set_cons_succ]
        refine wpAnyH_take (i := 10) (oi := { dst := some 59, op := _, type := _, pos := _, after := _, guard := _ }) (v := ?v108) rfl (by kernel_rfl) (by kernel_rfl) (by kernel_rfl) (fun _ _ _ h => h) (Or.inl ⟨by rfl, ?y108⟩) (by assumption) ?r108
        case y108 => (intro w hSw; go_simp; try with_reducible rfl)
        try simp only [Act.put, List.setIfInBounds_toArray, List.set_cons_zero, List.set_cons_succ]
        refine wpAnyH_take (i := 11) (oi := { dst := some 60, op := _, type := _, pos := _, after := _, guard := _ }) (v := ?v109) rfl (by kernel_rfl) (by kernel_rfl) (by kernel_rfl) (fun _ _ _ h => h) (Or.inl ⟨by rfl, ?y109⟩) (by assumption) ?r109
        case y109 => (intro w hSw; go_simp; try with_reducible rfl)
        try simp only [Act.put, List.setIfInBounds_toArray, List.set_cons_zero, List.set_cons_succ]
        refine wpAnyH_done (by kernel_rfl) ?_ _
        clear hHeld
        cases g with
        | false =>
          go_wp2_with (go_at_call 8; (with_reducible refine (HLV.out _).mono ?_); rintro x w8 ⟨rfl, hb⟩; replace HQ3 := Lib.hid (CuQ.keep _ _ HQ3.out hb); clear hb)
          go_ret
          exact ⟨rfl, HQ3.out.b.b.blw⟩
        | true =>
          have HT4 := Lib.hid (HT3.out rfl)
          clear HT3 hbt1
          go_upto_region 9 with (fail)
          refine wp_region_held_drew (S := fun W => row? W m8 0 19 = some (rcC c (.slice p8 n8 k8))) (by kernel_rfl) (((CuQ.keep _ (World.drew _) HQ3.out (bdrewN (Below.refl _ _) 1))).b.two.row) (fun hHeld => ?_)
          replace HQ3 := Lib.hid (CuQ.keep _ (World.drew _) HQ3.out (bdrewN (Below.refl _ _) 1))
          generalize World.drew _ = Wc at HQ3 hHeld ⊢
          refine wpAnyH_take (i := 0) (oi := { dst := some 62, op := _, type := _, pos := _, after := _, guard := _ }) (v := ?v301) rfl (by kernel_rfl) (by kernel_rfl) (by kernel_rfl) (fun _ _ _ h => h) (Or.inl ⟨by rfl, ?y301⟩) (by assumption) ?r301
          case y301 => (intro w hSw; go_simp; try with_reducible rfl)
          try simp only [Act.put, List.setIfInBounds_toArray, List.set_cons_zero, List.set_cons_succ]
          refine wpAnyH_take (i := 1) (oi := { dst := some 63, op := _, type := _, pos := _, after := _, guard := _ }) (v := ?v302) rfl (by kernel_rfl) (by kernel_rfl) (by kernel_rfl) (fun _ _ _ h => h) (Or.inl ⟨by rfl, ?y302⟩) (by assumption) ?r302
          case y302 => (intro w hSw; go_simp; try with_reducible rfl)
          try simp only [Act.put, List.setIfInBounds_toArray, List.set_cons_zero, List.set_cons_succ]
          refine wpAnyH_take (i := 3) (oi := { dst := some 65, op := _, type := _, pos := _, after := _, guard := _ }) (v := ?v303) rfl (by kernel_rfl) (by kernel_rfl) (by kernel_rfl) (fun _ _ _ h => h) (Or.inl ⟨by rfl, ?y303⟩) (by assumption) ?r303
          case y303 => (intro w hSw; go_simp; try with_reducible rfl)
          try simp only [Act.put, List.setIfInBounds_toArray, List.set_cons_zero, List.set_cons_succ]
          refine wpAnyH_ready (rs := [2, 4]) (by kernel_rfl) (by simp) (AllReadyH.cons (o := { dst := some 64, op := _, type := _, pos := _, after := _, guard := _ }) rfl (fun K hK => ?_) (AllReadyH.cons (o := { dst := some 66, op := _, type := _, pos := _, after := _, guard := _ }) rfl (fun K hK => ?_) AllReadyH.nil))
          · go_simp
            (go_at_call 17; (with_reducible refine (HL.out _).mono ?_); rintro x wl ⟨rfl, rfl⟩)
            try go_wp2_with fail
            refine hK.out _ _ ((HQ3.out).b.two.row) (fun hHeld => ?_)
            clear hK K
            try simp only [Act.put, List.setIfInBounds_toArray, List.set_cons_zero, List.set_cons_succ]
            refine wpAnyH_ready (rs := [4]) (by kernel_rfl) (by simp) (AllReadyH.cons (o := { dst := some 66, op := _, type := _, pos := _, after := _, guard := _ }) rfl (fun K hK => ?_) AllReadyH.nil)
            go_simp
            refine hK.out _ _ (((CuQ.keep _ _ HQ3.out (bbox Wc (.cells (rcC c (.slice p8 n8 k8)).toArray 40)))).b.two.row) (fun hHeld => ?_)
            clear hK K
            try simp only [Act.put, List.setIfInBounds_toArray, List.set_cons_zero, List.set_cons_succ]
            have HX := Lib.hid (rcs_lit Wc c (.slice p8 n8 k8) HCO.out (HQ3.out.b.vs.1))
            replace HQ3 := Lib.hid (CuQ.keep _ _ HQ3.out (bbox Wc (.cells (rcC c (.slice p8 n8 k8)).toArray 40)))
            generalize World.alloc Wc _ = We at HX HQ3 hHeld ⊢
            generalize Wc.heap.size = mx at HX ⊢
            refine wpAnyH_take (i := 5) (oi := { dst := some 67, op := _, type := _, pos := _, after := _, guard := _ }) (v := ?v304) rfl (by kernel_rfl) (by kernel_rfl) (by kernel_rfl) (fun _ _ _ h => h) (Or.inl ⟨by rfl, ?y304⟩) (by assumption) ?r304
            case y304 => (intro w hSw; go_simp; try with_reducible rfl)
            try simp only [Act.put, List.setIfInBounds_toArray, List.set_cons_zero, List.set_cons_succ]
            refine wpAnyH_ready (rs := [6]) (by kernel_rfl) (by simp) (AllReadyH.cons (o := _) rfl (fun K hK => ?_) AllReadyH.nil)
            go_simp
            (go_at_call 7; (with_reducible refine (HT4.out _ _ HX.out HQ3.out.b.vs.okC).mono ?_); rintro x wt ⟨rfl, hb⟩; replace HQ3 := Lib.hid (CuQ.keep _ _ HQ3.out hb); clear hb HX)
            try go_wp2_with fail
            refine hK.out _ _ ((HQ3.out).b.two.row) (fun hHeld => ?_)
            clear hK K
            try simp only [Act.put, List.setIfInBounds_toArray, List.set_cons_zero, List.set_cons_succ]
            refine wpAnyH_take (i := 7) (oi := { dst := some 69, op := _, type := _, pos := _, after := _, guard := _ }) (v := ?v305) rfl (by kernel_rfl) (by kernel_rfl) (by kernel_rfl) (fun _ _ _ h => h) (Or.inl ⟨by rfl, ?y305⟩) (by assumption) ?r305
            case y305 => (intro w hSw; go_simp; try with_reducible rfl)
            try simp only [Act.put, List.setIfInBounds_toArray, List.set_cons_zero, List.set_cons_succ]
            refine wpAnyH_ready (rs := [8]) (by kernel_rfl) (by simp) (AllReadyH.cons (o := _) rfl (fun K hK => ?_) AllReadyH.nil)
            go_simp
            (go_at_call 8; (with_reducible refine (HLV.out _).mono ?_); rintro x wt ⟨rfl, hb⟩; replace HQ3 := Lib.hid (CuQ.keep _ _ HQ3.out hb); clear hb)
            try go_wp2_with fail
            refine hK.out _ _ ((HQ3.out).b.two.row) (fun hHeld => ?_)
            clear hK K
            try simp only [Act.put, List.setIfInBounds_toArray, List.set_cons_zero, List.set_cons_succ]
            refine wpAnyH_take (i := 9) (oi := { dst := some 71, op := _, type := _, pos := _, after := _, guard := _ }) (v := ?v306) rfl (by kernel_rfl) (by kernel_rfl) (by kernel_rfl) (fun _ _ _ h => h) (Or.inl ⟨by rfl, ?y306⟩) (by assumption) ?r306
            case y306 => (intro w hSw; go_simp; try with_reducible rfl)
            try simp only [Act.put, List.setIfInBounds_toArray, List.set_cons_zero, List.set_cons_succ]
            refine wpAnyH_take (i := 10) (oi := { dst := some 6, op := _, type := _, pos := _, after := _, guard := _ }) (v := ?v307) rfl (by kernel_rfl) (by kernel_rfl) (by kernel_rfl) (fun _ _ _ h => h) (Or.inl ⟨by rfl, ?y307⟩) (by assumption) ?r307
            case y307 => (intro w hSw; go_simp; try with_reducible rfl)
            try simp only [Act.put, List.setIfInBounds_toArray, List.set_cons_zero, List.set_cons_succ]
            refine wpAnyH_done (by kernel_rfl) ?_ _
            clear hHeld
            go_wp2
            go_ret
            exact ⟨rfl, HQ3.out.b.b.blw⟩
          · go_simp
            refine hK.out _ _ (((CuQ.keep _ _ HQ3.out (bbox Wc (.cells (rcC c (.slice p8 n8 k8)).toArray 40)))).b.two.row) (fun hHeld => ?_)
            clear hK K
            try simp only [Act.put, List.setIfInBounds_toArray, List.set_cons_zero, List.set_cons_succ]
            have HX := Lib.hid (rcs_lit Wc c (.slice p8 n8 k8) HCO.out (HQ3.out.b.vs.1))
            replace HQ3 := Lib.hid (CuQ.keep _ _ HQ3.out (bbox Wc (.cells (rcC c (.slice p8 n8 k8)).toArray 40)))
            generalize World.alloc Wc _ = We at HX HQ3 hHeld ⊢
            generalize Wc.heap.size = mx at HX ⊢
            refine wpAnyH_ready (rs := [2]) (by kernel_rfl) (by simp) (AllReadyH.cons (o := { dst := some 64, op := _, type := _, pos := _, after := _, guard := _ }) rfl (fun K hK => ?_) AllReadyH.nil)
            go_simp
            (go_at_call 17; (with_reducible refine (HL.out _).mono ?_); rintro x wl ⟨rfl, rfl⟩)
            try go_wp2_with fail
            refine hK.out _ _ ((HQ3.out).b.two.row) (fun hHeld => ?_)
            clear hK K
            try simp only [Act.put, List.setIfInBounds_toArray, List.set_cons_zero, List.set_cons_succ]
            refine wpAnyH_take (i := 5) (oi := { dst := some 67, op := _, type := _, pos := _, after := _, guard := _ }) (v := ?v308) rfl (by kernel_rfl) (by kernel_rfl) (by kernel_rfl) (fun _ _ _ h => h) (Or.inl ⟨by rfl, ?y308⟩) (by assumption) ?r308
            case y308 => (intro w hSw; go_simp; try with_reducible rfl)
            try simp only [Act.put, List.setIfInBounds_toArray, List.set_cons_zero, List.set_cons_succ]
            refine wpAnyH_ready (rs := [6]) (by kernel_rfl) (by simp) (AllReadyH.cons (o := _) rfl (fun K hK => ?_) AllReadyH.nil)
            go_simp
            (go_at_call 7; (with_reducible refine (HT4.out _ _ HX.out HQ3.out.b.vs.okC).mono ?_); rintro x wt ⟨rfl, hb⟩; replace HQ3 := Lib.hid (CuQ.keep _ _ HQ3.out hb); clear hb HX)
            try go_wp2_with fail
            refine hK.out _ _ ((HQ3.out).b.two.row) (fun hHeld => ?_)
            clear hK K
            try simp only [Act.put, List.setIfInBounds_toArray, List.set_cons_zero, List.set_cons_succ]
            refine wpAnyH_take (i := 7) (oi := { dst := some 69, op := _, type := _, pos := _, after := _, guard := _ }) (v := ?v309) rfl (by kernel_rfl) (by kernel_rfl) (by kernel_rfl) (fun _ _ _ h => h) (Or.inl ⟨by rfl, ?y309⟩) (by assumption) ?r309
            case y309 => (intro w hSw; go_simp; try with_reducible rfl)
            try simp only [Act.put, List.setIfInBounds_toArray, List.set_cons_zero, List.set_cons_succ]
            refine wpAnyH_ready (rs := [8]) (by kernel_rfl) (by simp) (AllReadyH.cons (o := _) rfl (fun K hK => ?_) AllReadyH.nil)
            go_simp
            (go_at_call 8; (with_reducible refine (HLV.out _).mono ?_); rintro x wt ⟨rfl, hb⟩; replace HQ3 := Lib.hid (CuQ.keep _ _ HQ3.out hb); clear hb)
            try go_wp2_with fail
            refine hK.out _ _ ((HQ3.out).b.two.row) (fun hHeld => ?_)
            clear hK K
            try simp only [Act.put, List.setIfInBounds_toArray, List.set_cons_zero, List.set_cons_succ]
            refine wpAnyH_take (i := 9) (oi := { dst := some 71, op := _, type := _, pos := _, after := _, guard := _ }) (v := ?v310) rfl (by kernel_rfl) (by kernel_rfl) (by kernel_rfl) (fun _ _ _ h => h) (Or.inl ⟨by rfl, ?y310⟩) (by assumption) ?r310
            case y310 => (intro w hSw; go_simp; try with_reducible rfl)
            try simp only [Act.put, List.setIfInBounds_toArray, List.set_cons_zero, List.set_cons_succ]
            refine wpAnyH_take (i := 10) (oi := { dst := some 6, op := _, type := _, pos := _, after := _, guard := _ }) (v := ?v311) rfl (by kernel_rfl) (by kernel_rfl) (by kernel_rfl) (fun _ _ _ h => h) (Or.inl ⟨by rfl, ?y311⟩) (by assumption) ?r311
            case y311 => (intro w hSw; go_simp; try with_reducible rfl)
            try simp only [Act.put, List.setIfInBounds_toArray, List.set_cons_zero, List.set_cons_succ]
            refine wpAnyH_done (by kernel_rfl) ?_ _
            clear hHeld
            go_wp2
            go_ret
            exact ⟨rfl, HQ3.out.b.b.blw⟩
      · go_simp
        refine hK.out _ _ (((CuQ.keep _ _ HQ3.out (bbox Wc (.cells (rcC R (.slice p1 n1 k1)).toArray 40)))).b.b.one.row) (fun hHeld => ?_)
        clear hK K
        try simp only [Act.put, List.setIfInBounds_toArray, List.set_cons_zero, List.set_cons_succ]
        have HX := Lib.hid (rcs_lit Wc R (.slice p1 n1 k1) HRO.out (HQ3.out.b.b.us.1))
        replace HQ3 := Lib.hid (CuQ.keep _ _ HQ3.out (bbox Wc (.cells (rcC R (.slice p1 n1 k1)).toArray 40)))
        generalize World.alloc Wc _ = We at HX HQ3 hHeld ⊢
        generalize Wc.heap.size = mx at HX ⊢
        refine wpAnyH_ready (rs := [5]) (by kernel_rfl) (by simp) (AllReadyH.cons (o := { dst := some 54, op := _, type := _, pos := _, after := _, guard := _ }) rfl (fun K hK => ?_) AllReadyH.nil)
        go_simp
        (go_at_call 17; (with_reducible refine (HL.out _).mono ?_); rintro x wl ⟨rfl, rfl⟩)
        try go_wp2_with fail
        refine hK.out _ _ ((HQ3.out).b.b.one.row) (fun hHeld => ?_)
        clear hK K
        try simp only [Act.put, List.setIfInBounds_toArray, List.set_cons_zero, List.set_cons_succ]
        refine wpAnyH_take (i := 8) (oi := { dst := some 57, op := _, type := _, pos := _, after := _, guard := _ }) (v := ?v110) rfl (by kernel_rfl) (by kernel_rfl) (by kernel_rfl) (fun _ _ _ h => h) (Or.inl ⟨by rfl, ?y110⟩) (by assumption) ?r110
        case y110 => (intro w hSw; go_simp; try with_reducible rfl)
        try simp only [Act.put, List.setIfInBounds_toArray, List.set_cons_zero, List.set_cons_succ]
        refine wpAnyH_ready (rs := [9]) (by kernel_rfl) (by simp) (AllReadyH.cons (o := _) rfl (fun K hK => ?_) AllReadyH.nil)
        go_simp
        (go_at_call 7; (with_reducible refine (HT1.out _ _ HX.out HQ3.out.b.b.us.okC).mono ?_); rintro x wt ⟨rfl, hb⟩; replace HQ3 := Lib.hid (CuQ.keep _ _ HQ3.out hb); clear hb HX)
        try go_wp2_with fail
        refine hK.out _ _ ((HQ3.out).b.b.one.row) (fun hHeld => ?_)
        clear hK K
        try simp only [Act.put, List.setIfInBounds_toArray, List.set_cons_zero, List.set_cons_succ]
        refine wpAnyH_take (i := 10) (oi := { dst := some 59, op := _, type := _, pos := _, after := _, guard := _ }) (v := ?v111) rfl (by kernel_rfl) (by kernel_rfl) (by kernel_rfl) (fun _ _ _ h => h) (Or.inl ⟨by rfl, ?y111⟩) (by assumption) ?r111
        case y111 => (intro w hSw; go_simp; try with_reducible rfl)
        try simp only [Act.put, List.setIfInBounds_toArray, List.set_cons_zero, List.set_cons_succ]
        refine wpAnyH_take (i := 11) (oi := { dst := some 60, op := _, type := _, pos := _, after := _, guard := _ }) (v := ?v112) rfl (by kernel_rfl) (by kernel_rfl) (by kernel_rfl) (fun _ _ _ h => h) (Or.inl ⟨by rfl, ?y112⟩) (by assumption) ?r112
        case y112 => (intro w hSw; go_simp; try with_reducible rfl)
        try simp only [Act.put, List.setIfInBounds_toArray, List.set_cons_zero, List.set_cons_succ]
        refine wpAnyH_done (by kernel_rfl) ?_ _
        clear hHeld
        cases g with
        | false =>
          go_wp2_with (go_at_call 8; (with_reducible refine (HLV.out _).mono ?_); rintro x w8 ⟨rfl, hb⟩; replace HQ3 := Lib.hid (CuQ.keep _ _ HQ3.out hb); clear hb)
          go_ret
          exact ⟨rfl, HQ3.out.b.b.blw⟩
        | true =>
          have HT4 := Lib.hid (HT3.out rfl)
          clear HT3 hbt1
          go_upto_region 9 with (fail)
          refine wp_region_held_drew (S := fun W => row? W m8 0 19 = some (rcC c (.slice p8 n8 k8))) (by kernel_rfl) (((CuQ.keep _ (World.drew _) HQ3.out (bdrewN (Below.refl _ _) 1))).b.two.row) (fun hHeld => ?_)
          replace HQ3 := Lib.hid (CuQ.keep _ (World.drew _) HQ3.out (bdrewN (Below.refl _ _) 1))
          generalize World.drew _ = Wc at HQ3 hHeld ⊢
          refine wpAnyH_take (i := 0) (oi := { dst := some 62, op := _, type := _, pos := _, after := _, guard := _ }) (v := ?v401) rfl (by kernel_rfl) (by kernel_rfl) (by kernel_rfl) (fun _ _ _ h => h) (Or.inl ⟨by rfl, ?y401⟩) (by assumption) ?r401
          case y401 => (intro w hSw; go_simp; try with_reducible rfl)
          try simp only [Act.put, List.setIfInBounds_toArray, List.set_cons_zero, List.set_cons_succ]
          refine wpAnyH_take (i := 1) (oi := { dst := some 63, op := _, type := _, pos := _, after := _, guard := _ }) (v := ?v402) rfl (by kernel_rfl) (by kernel_rfl) (by kernel_rfl) (fun _ _ _ h => h) (Or.inl ⟨by rfl, ?y402⟩) (by assumption) ?r402
          case y402 => (intro w hSw; go_simp; try with_reducible rfl)
          try simp only [Act.put, List.setIfInBounds_toArray, List.set_cons_zero, List.set_cons_succ]
          refine wpAnyH_take (i := 3) (oi := { dst := some 65, op := _, type := _, pos := _, after := _, guard := _ }) (v := ?v403) rfl (by kernel_rfl) (by kernel_rfl) (by kernel_rfl) (fun _ _ _ h => h) (Or.inl ⟨by rfl, ?y403⟩) (by assumption) ?r403
          case y403 => (intro w hSw; go_simp; try with_reducible rfl)
          try simp only [Act.put, List.setIfInBounds_toArray, List.set_cons_zero, List.set_cons_succ]
          refine wpAnyH_ready (rs := [2, 4]) (by kernel_rfl) (by simp) (AllReadyH.cons (o := { dst := some 64, op := _, type := _, pos := _, after := _, guard := _ }) rfl (fun K hK => ?_) (AllReadyH.cons (o := { dst := some 66, op := _, type := _, pos := _, after := _, guard := _ }) rfl (fun K hK => ?_) AllReadyH.nil))
          · go_simp
            (go_at_call 17; (with_reducible refine (HL.out _).mono ?_); rintro x wl ⟨rfl, rfl⟩)
            try go_wp2_with fail
            refine hK.out _ _ ((HQ3.out).b.two.row) (fun hHeld => ?_)
            clear hK K
            try simp only [Act.put, List.setIfInBounds_toArray, List.set_cons_zero, List.set_cons_succ]
            refine wpAnyH_ready (rs := [4]) (by kernel_rfl) (by simp) (AllReadyH.cons (o := { dst := some 66, op := _, type := _, pos := _, after := _, guard := _ }) rfl (fun K hK => ?_) AllReadyH.nil)
            go_simp
            refine hK.out _ _ (((CuQ.keep _ _ HQ3.out (bbox Wc (.cells (rcC c (.slice p8 n8 k8)).toArray 40)))).b.two.row) (fun hHeld => ?_)
            clear hK K
            try simp only [Act.put, List.setIfInBounds_toArray, List.set_cons_zero, List.set_cons_succ]
            have HX := Lib.hid (rcs_lit Wc c (.slice p8 n8 k8) HCO.out (HQ3.out.b.vs.1))
            replace HQ3 := Lib.hid (CuQ.keep _ _ HQ3.out (bbox Wc (.cells (rcC c (.slice p8 n8 k8)).toArray 40)))
            generalize World.alloc Wc _ = We at HX HQ3 hHeld ⊢
            generalize Wc.heap.size = mx at HX ⊢
            refine wpAnyH_take (i := 5) (oi := { dst := some 67, op := _, type := _, pos := _, after := _, guard := _ }) (v := ?v404) rfl (by kernel_rfl) (by kernel_rfl) (by kernel_rfl) (fun _ _ _ h => h) (Or.inl ⟨by rfl, ?y404⟩) (by assumption) ?r404
            case y404 => (intro w hSw; go_simp; try with_reducible rfl)
            try simp only [Act.put, List.setIfInBounds_toArray, List.set_cons_zero, List.set_cons_succ]
            refine wpAnyH_ready (rs := [6]) (by kernel_rfl) (by simp) (AllReadyH.cons (o := _) rfl (fun K hK => ?_) AllReadyH.nil)
            go_simp
            (go_at_call 7; (with_reducible refine (HT4.out _ _ HX.out HQ3.out.b.vs.okC).mono ?_); rintro x wt ⟨rfl, hb⟩; replace HQ3 := Lib.hid (CuQ.keep _ _ HQ3.out hb); clear hb HX)
            try go_wp2_with fail
            refine hK.out _ _ ((HQ3.out).b.two.row) (fun hHeld => ?_)
            clear hK K
            try simp only [Act.put, List.setIfInBounds_toArray, List.set_cons_zero, List.set_cons_succ]
            refine wpAnyH_take (i := 7) (oi := { dst := some 69, op := _, type := _, pos := _, after := _, guard := _ }) (v := ?v405) rfl (by kernel_rfl) (by kernel_rfl) (by kernel_rfl) (fun _ _ _ h => h) (Or.inl ⟨by rfl, ?y405⟩) (by assumption) ?r405
            case y405 => (intro w hSw; go_simp; try with_reducible rfl)
            try simp only [Act.put, List.setIfInBounds_toArray, List.set_cons_zero, List.set_cons_succ]
            refine wpAnyH_ready (rs := [8]) (by kernel_rfl) (by simp) (AllReadyH.cons (o := _) rfl (fun K hK => ?_) AllReadyH.nil)
            go_simp
            (go_at_call 8; (with_reducible refine (HLV.out _).mono ?_); rintro x wt ⟨rfl, hb⟩; replace HQ3 := Lib.hid (CuQ.keep _ _ HQ3.out hb); clear hb)
            try go_wp2_with fail
            refine hK.out _ _ ((HQ3.out).b.two.row) (fun hHeld => ?_)
            clear hK K
            try simp only [Act.put, List.setIfInBounds_toArray, List.set_cons_zero, List.set_cons_succ]
            refine wpAnyH_take (i := 9) (oi := { dst := some 71, op := _, type := _, pos := _, after := _, guard := _ }) (v := ?v406) rfl (by kernel_rfl) (by kernel_rfl) (by kernel_rfl) (fun _ _ _ h => h) (Or.inl ⟨by rfl, ?y406⟩) (by assumption) ?r406
            case y406 => (intro w hSw; go_simp; try with_reducible rfl)
            try simp only [Act.put, List.setIfInBounds_toArray, List.set_cons_zero, List.set_cons_succ]
            refine wpAnyH_take (i := 10) (oi := { dst := some 6, op := _, type := _, pos := _, after := _, guard := _ }) (v := ?v407) rfl (by kernel_rfl) (by kernel_rfl) (by kernel_rfl) (fun _ _ _ h => h) (Or.inl ⟨by rfl, ?y407⟩) (by assumption) ?r407
            case y407 => (intro w hSw; go_simp; try with_reducible rfl)
            try simp only [Act.put, List.setIfInBounds_toArray, List.set_cons_zero, List.set_cons_succ]
            refine wpAnyH_done (by kernel_rfl) ?_ _
            clear hHeld
            go_wp2
            go_ret
            exact ⟨rfl, HQ3.out.b.b.blw⟩
          · go_simp
            refine hK.out _ _ (((CuQ.keep _ _ HQ3.out (bbox Wc (.cells (rcC c (.slice p8 n8 k8)).toArray 40)))).b.two.row) (fun hHeld => ?_)
            clear hK K
            try simp only [Act.put, List.setIfInBounds_toArray, List.set_cons_zero, List.set_cons_succ]
            have HX := Lib.hid (rcs_lit Wc c (.slice p8 n8 k8) HCO.out (HQ3.out.b.vs.1))
            replace HQ3 := Lib.hid (CuQ.keep _ _ HQ3.out (bbox Wc (.cells (rcC c (.slice p8 n8 k8)).toArray 40)))
            generalize World.alloc Wc _ = We at HX HQ3 hHeld ⊢
            generalize Wc.heap.size = mx at HX ⊢
            refine wpAnyH_ready (rs := [2]) (by kernel_rfl) (by simp) (AllReadyH.cons (o := { dst := some 64, op := _, type := _, pos := _, after := _, guard := _ }) rfl (fun K hK => ?_) AllReadyH.nil)
            go_simp
            (go_at_call 17; (with_reducible refine (HL.out _).mono ?_); rintro x wl ⟨rfl, rfl⟩)
            try go_wp2_with fail
            refine hK.out _ _ ((HQ3.out).b.two.row) (fun hHeld => ?_)
            clear hK K
            try simp only [Act.put, List.setIfInBounds_toArray, List.set_cons_zero, List.set_cons_succ]
            refine wpAnyH_take (i := 5) (oi := { dst := some 67, op := _, type := _, pos := _, after := _, guard := _ }) (v := ?v408) rfl (by kernel_rfl) (by kernel_rfl) (by kernel_rfl) (fun _ _ _ h => h) (Or.inl ⟨by rfl, ?y408⟩) (by assumption) ?r408
            case y408 => (intro w hSw; go_simp; try with_reducible rfl)
            try simp only [Act.put, List.setIfInBounds_toArray, List.set_cons_zero, List.set_cons_succ]
            refine wpAnyH_ready (rs := [6]) (by kernel_rfl) (by simp) (AllReadyH.cons (o := _) rfl (fun K hK => ?_) AllReadyH.nil)
            go_simp
            (go_at_call 7; (with_reducible refine (HT4.out _ _ HX.out HQ3.out.b.vs.okC).mono ?_); rintro x wt ⟨rfl, hb⟩; replace HQ3 := Lib.hid (CuQ.keep _ _ HQ3.out hb); clear hb HX)
            try go_wp2_with fail
            refine hK.out _ _ ((HQ3.out).b.two.row) (fun hHeld => ?_)
            clear hK K
            try simp only [Act.put, List.setIfInBounds_toArray, List.set_cons_zero, List.set_cons_succ]
            refine wpAnyH_take (i := 7) (oi := { dst := some 69, op := _, type := _, pos := _, after := _, guard := _ }) (v := ?v409) rfl (by kernel_rfl) (by kernel_rfl) (by kernel_rfl) (fun _ _ _ h => h) (Or.inl ⟨by rfl, ?y409⟩) (by assumption) ?r409
            case y409 => (intro w hSw; go_simp; try with_reducible rfl)
            try simp only [Act.put, List.setIfInBounds_toArray, List.set_cons_zero, List.set_cons_succ]
            refine wpAnyH_ready (rs := [8]) (by kernel_rfl) (by simp) (AllReadyH.cons (o := _) rfl (fun K hK => ?_) AllReadyH.nil)
            go_simp
            (go_at_call 8; (with_reducible refine (HLV.out _).mono ?_); rintro x wt ⟨rfl, hb⟩; replace HQ3 := Lib.hid (CuQ.keep _ _ HQ3.out hb); clear hb)
            try go_wp2_with fail
            refine hK.out _ _ ((HQ3.out).b.two.row) (fun hHeld => ?_)
            clear hK K
            try simp only [Act.put, List.setIfInBounds_toArray, List.set_cons_zero, List.set_cons_succ]
            refine wpAnyH_take (i := 9) (oi := { dst := some 71, op := _, type := _, pos := _, after := _, guard := _ }) (v := ?v410) rfl (by kernel_rfl) (by kernel_rfl) (by kernel_rfl) (fun _ _ _ h => h) (Or.inl ⟨by rfl, ?y410⟩) (by assumption) ?r410
            case y410 => (intro w hSw; go_simp; try with_reducible rfl)
            try simp only [Act.put, List.setIfInBounds_toArray, List.set_cons_zero, List.set_cons_succ]
            refine wpAnyH_take (i := 10) (oi := { dst := some 6, op := _, type := _, pos := _, after := _, guard := _ }) (v := ?v411) rfl (by kernel_rfl) (by kernel_rfl) (by kernel_rfl) (fun _ _ _ h => h) (Or.inl ⟨by rfl, ?y411⟩) (by assumption) ?r411
            case y411 => (intro w hSw; go_simp; try with_reducible rfl)
            try simp only [Act.put, List.setIfInBounds_toArray, List.set_cons_zero, List.set_cons_succ]
            refine wpAnyH_done (by kernel_rfl) ?_ _
            clear hHeld
            go_wp2
            go_ret
            exact ⟨rfl, HQ3.out.b.b.blw⟩
end Go.Proofs.Ytacnhelnpngkgaa
