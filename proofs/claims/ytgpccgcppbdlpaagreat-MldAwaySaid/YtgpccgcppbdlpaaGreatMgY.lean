/-
  The contracts of mld's records.
-/
import Derived.Test.YtgpccgcppbdlpaaGreatMgX
namespace Go.Proofs.YtgpccgcppbdlpaaGreat
open Go.RowKit
set_option linter.unusedVariables false
set_option linter.unusedSimpArgs false
attribute [local go_sem ↓] ld_addr st_addr bld_addr ld_rec st_rec ld_tk st_tk bld_tk bld_shp adsLit_eq
attribute [local go_sem] ldr_addr str_addr str_addr_at ldr_tk str_tk bldr_shp ldr_rec str_rec row?_drew_eq

/-- A record boxed beside a builder. -/
structure RX (m : Nat) (w W : World) (q : Nat) (x : RC) (u : Value) (l : List UInt8) : Prop where
  sb : SB m W m l
  bl : Below m w W
  ob : ObjAt W q (rcC x u).toArray 62
  ne : q ≠ m
theorem RX.keep {m q : Nat} {w W W' : World} {x : RC} {u : Value} {l : List UInt8} (h : RX m w W q x u l) (hm : m ≤ W.heap.size) (hb : Below W.heap.size W W') : RX m w W' q x u l := ⟨h.sb.below hb, h.bl.trans (hb.mono hm), h.ob.below hb h.ob.lt, h.ne⟩
theorem RX.step {m q : Nat} {w W W' : World} {x : RC} {u : Value} {l l' : List UInt8} (h : RX m w W q x u l) (hm : m ≤ W.heap.size) (h1 : SB m W' m l') (k : SK m m W W') : RX m w W' q x u l' := ⟨h1, h.bl.trans (k.blw (Nat.le_refl _) (Nat.le_refl _) hm), ObjAt.sk h.ob k h.ne (by decide), h.ne⟩
theorem ObjAt.rcc9 {W : World} {m : Nat} {x : RC} {u : Value} (h : ObjAt W m (rcC x u).toArray 62) (ho : adOk x.g) : RcC W m 0 x u := by
  have hr : row? W m 0 19 = some (rcC x u) := obj_rowk (A := []) (M := rcC x u) (C := []) (by simpa using h) rfl (rcC_length ho u)
  obtain ⟨h5, h6⟩ := rangeAt_of_row? hr
  have hl := adC_length ho
  refine ⟨h5 0 _ rfl, ?_, ?_⟩
  · have hr : W.rangeAt m (0 + 1) (adC x.g) := fun j v hv => by
      have hj := (List.getElem?_eq_some_iff.1 hv).1
      have := h5 (1 + j) v (by
        unfold rcC
        rw [Nat.add_comm 1 j, List.getElem?_cons_succ, List.getElem?_append_left hj]
        exact hv)
      rw [← Nat.add_assoc] at this
      exact this
    have := row?_of hr
    rw [hl] at this
    exact this
  · exact h5 18 u (by
      unfold rcC
      rw [show (18 : Nat) = 17 + 1 from rfl, List.getElem?_cons_succ, List.getElem?_append_right (by omega), hl]
      rfl)
def recs9B (l : List RC) : List UInt8 := (l.map recB).flatten
theorem recs9B_succ {l : List RC} {k : Nat} (h : k < l.length) : recs9B (l.take (k + 1)) = recs9B (l.take k) ++ recB l[k] := by
  unfold recs9B
  rw [List.take_succ_eq_append_getElem h, List.map_append, List.flatten_append]
  simp only [List.map_cons, List.map_nil, List.flatten_cons, List.flatten_nil, List.append_nil]
theorem rec9B_le {r : RC} (ho : adOk r.g ∧ ∀ a ∈ r.src, adOk a) (hn : r.src.length ≤ 64) : (recB r).length ≤ 1100 := by
  have h1 := adB_le ho.1
  have h2 := listL_le (l := r.src) ho.2
  unfold recB
  simp only [List.length_append, List.length_cons, putL_length]
  omega
theorem recs9B_le (l : List RC) (ho : ∀ r ∈ l, adOk r.g ∧ ∀ a ∈ r.src, adOk a) (hn : ∀ r ∈ l, r.src.length ≤ 64) : (recs9B l).length ≤ 1100 * l.length := by
  induction l with
  | nil => simp [recs9B]
  | cons a r ih =>
    have h1 := rec9B_le (ho a (by simp)) (hn a (by simp))
    have h2 := ih (fun x hx => ho x (by simp [hx])) (fun x hx => hn x (by simp [hx]))
    unfold recs9B at h2 ⊢
    simp at h2 ⊢
    omega
theorem recB_nil (r : RC) : recB r ≠ [] := by
  intro e
  have := congrArg List.length e
  unfold recB at this
  simp [putL_length] at this
theorem recs9B_ne {l : List RC} (h : l ≠ []) : recs9B l ≠ [] := by
  cases l with
  | nil => exact absurd rfl h
  | cons a r =>
    unfold recs9B
    intro e
    simp at e
    exact recB_nil a e.1
theorem rcs9_ok {w : World} {v : Value} {l : List RC} (h : Rcs w v l) : ∀ r ∈ l, adOk r.g ∧ ∀ a ∈ r.src, adOk a := h.ok
set_option maxRecDepth 100000 in
set_option maxHeartbeats 16000000 in
theorem records9w_any (v : Value) (rcs : List RC) (w : World) (hr : Rcs w v rcs) (hn : rcs.length ≤ 64) (hok : rcs.all recOk9 = true) :
    Calls Tryz.prog 66 #[v] w fun x w' => x = .returned (.string (Str (recs9B rcs))) ∧ Below w.heap.size w w' := by
  have HAO := Lib.hid (rcs9_ok hr)
  have HOKA := Lib.hid (List.all_eq_true.1 hok)
  have HSL : Hid (∀ r ∈ rcs, r.src.length ≤ 64) := Lib.hid fun r hr => by
    have h1 := HOKA.out r hr
    unfold recOk9 at h1
    rw [Bool.and_eq_true] at h1
    have := srcs9_len h1.2
    omega
  obtain ⟨m, hm⟩ : ∃ m, m = w.heap.size := ⟨_, rfl⟩
  have HMM : Hid (∀ W, Below m w W → m ≤ W.heap.size) := Lib.hid fun W h => by rw [hm]; exact h.size
  have HM := Lib.hid (ObjAt.made w #[.pointer none, .slice none 0 0] 85)
  have HMB := Lib.hid ((Below.refl w.heap.size w).alloc (Nat.le_refl _) (.cells #[.pointer none, .slice none 0 0] 85))
  obtain ⟨p, cap, rfl, h1, h2⟩ := hr.len
  obtain ⟨n, hnn⟩ : ∃ n, n = rcs.length := ⟨_, rfl⟩
  rw [← hnn] at hn h1 ⊢
  have HN := Lib.hid hnn
  rw [← hm] at HM HMB
  rw [← hm]
  have HMEQ := Lib.hid hm
  by_cases h00 : n = 0
  · have e1 : rcs = [] := List.eq_nil_of_length_eq_zero (by omega)
    subst e1 h00
    clear hr h1 h2 hnn HN HAO HOKA HSL hok hm
    go_enter Tryz.func66, Tryz.ntmps66
    go_upto_region 2 with (fail)
    generalize w.alloc _ = W0 at HM HMB ⊢
    rw [← HMEQ.out]
    have HTX := Lib.hid (stext_nil m W0 HM.out)
    go_wp2_with fail
    go_loop [8] (fun i => i = .int .i64 0) (fun _ => 0)
    case atStart => rfl
    case round =>
      subst hrel
      go_wp2_with (go_at_call 61; (with_reducible refine HTX.out.mono ?_); rintro e w3 ⟨rfl, rfl⟩)
      go_ret
      exact ⟨rfl, bdrewN HMB.out 1⟩
  · have hne0 : rcs ≠ [] := fun h => h00 (by rw [hnn, h]; rfl)
    obtain ⟨rb, ro, cr', er, _, _, Ra⟩ := hr.parts hne0
    simp only [Value.slice.injEq] at er
    obtain ⟨rfl, -, hcc⟩ := er
    subst hcc
    have RA := Lib.hid Ra
    have HNE := Lib.hid hne0
    have HLE := Lib.hid (recs9B_le rcs HAO.out HSL.out)
    clear Ra hr h1 h2 hnn hne0 hok hm
    go_enter Tryz.func66, Tryz.ntmps66
    go_upto_region 2 with (fail)
    generalize w.alloc _ = W0 at HM HMB ⊢
    rw [← HMEQ.out]
    have H0 := Lib.hid (SB.new HM.out m)
    clear HM
    go_wp2_with fail
    go_loopw [8] (fun i wr => ∃ k : Nat, k ≤ n ∧ i = .int .i64 k ∧ Hid (SB m wr m (recs9B (rcs.take k))) ∧ Hid (Below m w wr)) (fun i _ => n - (intOf i).toNat)
    case atStart => exact ⟨0, by omega, rfl, Lib.hid (by simpa [recs9B] using H0.out), HMB⟩
    case round =>
      obtain ⟨k, hk, rfl, HSB, HB⟩ := hrel
      by_cases hlt : k < n
      · have g1 : k < rcs.length := by rw [← HN.out]; exact hlt
        have hmem := List.getElem_mem g1
        obtain ⟨u, hu⟩ := (RA.out k g1).u
        have HUW : Hid (∀ W, Below m w W → RcU W rb (ro + k * 19) rcs[k] u) := Lib.hid fun W hW => hu.below (by rw [← HMEQ.out]; exact hW)
        obtain ⟨pp, cc, eu, hlu, hlm⟩ := hu.2.2.2.len
        have ho := hu.1
        have r1 := (HUW.out _ HB.out).2.2.1
        clear hu
        subst eu
        have HAK : Hid (∀ W, Below m w W → Ads W (.slice pp rcs[k].src.length cc) rcs[k].src) := Lib.hid fun W hW => (HUW.out W hW).2.2.2
        have ha := HAK.out _ HB.out
        have hfok := fok_rec ho ha.one
        have hfm := free_made wr #[.int .i64 0, .bool false, .int .u8 0, .int .u8 0, .int .u8 0, .int .u8 0, .int .u8 0, .int .u8 0, .int .u8 0, .int .u8 0, .int .u8 0, .int .u8 0, .int .u8 0, .int .u8 0, .int .u8 0, .int .u8 0, .int .u8 0, .int .u8 0, .slice none 0 0] 62 19 (by simp)
        have HX : Hid (RX m w (aggW (wr.alloc (.cells #[.int .i64 0, .bool false, .int .u8 0, .int .u8 0, .int .u8 0, .int .u8 0, .int .u8 0, .int .u8 0, .int .u8 0, .int .u8 0, .int .u8 0, .int .u8 0, .int .u8 0, .int .u8 0, .int .u8 0, .int .u8 0, .int .u8 0, .int .u8 0, .slice none 0 0] 62)) wr.heap.size (rcC rcs[k] (.slice pp rcs[k].src.length cc))) wr.heap.size rcs[k] (.slice pp rcs[k].src.length cc) (recs9B (rcs.take k))) := Lib.hid (by
          have hbx := aggW_below ((Below.refl wr.heap.size wr).alloc (Nat.le_refl _) (.cells #[.int .i64 0, .bool false, .int .u8 0, .int .u8 0, .int .u8 0, .int .u8 0, .int .u8 0, .int .u8 0, .int .u8 0, .int .u8 0, .int .u8 0, .int .u8 0, .int .u8 0, .int .u8 0, .int .u8 0, .int .u8 0, .int .u8 0, .int .u8 0, .slice none 0 0] 62)) (Nat.le_refl _) (rcC rcs[k] (.slice pp rcs[k].src.length cc))
          have hob := aggW_obj (L := (#[.int .i64 0, .bool false, .int .u8 0, .int .u8 0, .int .u8 0, .int .u8 0, .int .u8 0, .int .u8 0, .int .u8 0, .int .u8 0, .int .u8 0, .int .u8 0, .int .u8 0, .int .u8 0, .int .u8 0, .int .u8 0, .int .u8 0, .int .u8 0, .slice none 0 0] : Array Value).toList) (cs := rcC rcs[k] (.slice pp rcs[k].src.length cc)) (by simpa using ObjAt.made wr #[.int .i64 0, .bool false, .int .u8 0, .int .u8 0, .int .u8 0, .int .u8 0, .int .u8 0, .int .u8 0, .int .u8 0, .int .u8 0, .int .u8 0, .int .u8 0, .int .u8 0, .int .u8 0, .int .u8 0, .int .u8 0, .int .u8 0, .int .u8 0, .slice none 0 0] 62) (by rw [rcC_length ho]; rfl) (rcC_one ha.one)
          exact ⟨HSB.out.below hbx, HB.out.trans (hbx.mono (HMM.out _ HB.out)), hob, by have := HSB.out.lt; omega⟩)
        have HT := Lib.hid (recs9B_succ g1)
        have hs64 := HSL.out _ hmem
        obtain ⟨kn, hkn, hk6⟩ : ∃ kn : Nat, rcs[k].kind = kn ∧ kn ≤ 6 := by
          have h1 := HOKA.out _ hmem
          unfold recOk9 rcOk9 at h1
          rw [Bool.and_eq_true, Bool.and_eq_true, decide_eq_true_iff] at h1
          exact ⟨rcs[k].kind.toNat, by omega, by omega⟩
        have hd : decide ((k : Int) < (n : Int)) = true := by simp; omega
        have hk1 : (k : Int) < (n : Int) := by omega
        have hw1 : IntKind.i64.wrap ((k : Int) + 1) = (k : Int) + 1 := by simp only [IntKind.wrap_i64]; omega
        have HRB := Lib.hid (show recB rcs[k] = numsL 1 [kn, 0] ++ numsL 2 [rcs[k].src.length] ++ listL [rcs[k].g] ++ listL rcs[k].src by
          unfold recB; rw [hkn]; simp [numsL2, numsL1, listL, putL])
        have HN1 : Hid (∀ W v, Ints W v [kn, 0] → Calls Tryz.prog 20 #[.int .i64 1, v] W fun x w' => x = .returned (.string (Str (numsL 1 [kn, 0]))) ∧ Below W.heap.size W w') := Lib.hid fun W v h => nums_any 1 (by omega) (by omega) v _ W h (by simp) (by simp) (by simp; omega)
        have HN2 : Hid (∀ W v, Ints W v [rcs[k].src.length] → Calls Tryz.prog 20 #[.int .i64 2, v] W fun x w' => x = .returned (.string (Str (numsL 2 [rcs[k].src.length]))) ∧ Below W.heap.size W w') := Lib.hid fun W v h => nums_any 2 (by omega) (by omega) v _ W h (by simp) (by simp) (by simp; omega)
        have HA1 : Hid (∀ W v, Ads W v [rcs[k].g] → Calls Tryz.prog 63 #[v] W fun x w' => x = .returned (.string (Str (listL [rcs[k].g]))) ∧ Below W.heap.size W w') := Lib.hid fun W v h => addrs_any v _ W h (by simp)
        have HA2 : Hid (∀ W, Below m w W → Calls Tryz.prog 63 #[.slice pp rcs[k].src.length cc] W fun x w' => x = .returned (.string (Str (listL rcs[k].src))) ∧ Below W.heap.size W w') := Lib.hid fun W hW => addrs_any _ _ W (HAK.out W hW) (by omega)
        have HS : Hid (∀ W l, RX m w W wr.heap.size rcs[k] (.slice pp rcs[k].src.length cc) l → W.cell? ⟨wr.heap.size, 0, none⟩ = some (.int .i64 kn) ∧ row? W wr.heap.size (0 + 1) 17 = some (adC rcs[k].g) ∧ W.cell? ⟨wr.heap.size, 0 + 18, none⟩ = some (.slice pp rcs[k].src.length cc)) := Lib.hid fun W l h => by
          have := h.ob.rcc9 ho
          unfold RcC at this
          rw [hkn] at this
          exact this
        have HOG := Lib.hid ho
        have hlit := adsLit_run rcs[k].g ho
        have hlR := rec9B_le ⟨ho, ha.ok⟩ hs64
        rw [HRB.out] at hlR
        have hlT : (recs9B (rcs.take k)).length ≤ 70400 := by
          have := recs9B_le (rcs.take k) (fun a ha => HAO.out a (List.mem_of_mem_take ha)) (fun a ha => HSL.out a (List.mem_of_mem_take ha))
          rw [List.length_take] at this
          omega
        have HKP : Hid (∀ W W' l, RX m w W wr.heap.size rcs[k] (.slice pp rcs[k].src.length cc) l → Below W.heap.size W W' → RX m w W' wr.heap.size rcs[k] (.slice pp rcs[k].src.length cc) l) := Lib.hid fun W W' l h hb => h.keep (HMM.out _ h.bl) hb
        clear ha hlu hlm hkn hs64 ho hmem HUW
        generalize rcs[k] = y at *
        obtain ⟨xk, xg, xs⟩ := y
        simp only at *
        generalize xs.length = sn at *
        generalize recs9B (rcs.take k) = l0 at *
        generalize numsL 1 [kn, 0] = x1 at *
        generalize numsL 2 [sn] = x2 at *
        generalize listL [xg] = x3 at *
        generalize listL xs = x4 at *
        simp only [List.length_append] at hlR
        have c1 := run_cat (P := Tryz.prog) x1 x2 (by omega)
        have c2 := run_cat (P := Tryz.prog) (x1 ++ x2) x3 (by simp only [List.length_append]; omega)
        have c3 := run_cat (P := Tryz.prog) (x1 ++ x2 ++ x3) x4 (by simp only [List.length_append]; omega)
        have HL : Hid (l0.length + (x1 ++ x2 ++ x3 ++ x4).length ≤ 1000000000) := Lib.hid (by simp only [List.length_append]; omega)
        generalize x1 ++ x2 ++ x3 ++ x4 = y3 at *
        generalize x1 ++ x2 ++ x3 = y2 at *
        generalize x1 ++ x2 = y1 at *
        clear hlR hlT
        go_upto_region 5 with (fail)
        generalize aggW (wr.alloc _) wr.heap.size _ = W1 at HX ⊢
        generalize wr.heap.size = q at *
        clear hfok hfm r1
        have T := HX
        clear HX
        refine wp_region_held_drew (S := fun W => W.cell? ⟨q, 0, none⟩ = some (.int .i64 kn) ∧ row? W q (0 + 1) 17 = some (adC xg) ∧ W.cell? ⟨q, 0 + 18, none⟩ = some (.slice pp sn cc)) (by kernel_rfl) (HS.out _ _ (HKP.out _ (World.drewN _ 1) _ T.out (bdrewN (Below.refl _ _) 1))) (fun hHeld => ?_)
        replace T := Lib.hid (HKP.out _ (World.drewN _ 1) _ T.out (bdrewN (Below.refl _ _) 1))
        change Hid (RX m w (World.drew _) _ _ _ _) at T
        generalize World.drew _ = Wq at T hHeld ⊢
        rename World => Wc
        refine wpAnyH_take (i := 0) (oi := { dst := some 12, op := _, type := _, pos := _, after := _, guard := _ }) (v := ?v0) rfl (by kernel_rfl) (by kernel_rfl) (by kernel_rfl) (fun _ _ _ h => h) (Or.inl ⟨by rfl, ?y0⟩) (by assumption) ?r0
        case y0 => (intro w hSw; obtain ⟨s1, s2, s3⟩ := hSw; go_simp; try with_reducible rfl)
        try simp only [Act.put, List.setIfInBounds_toArray, List.set_cons_zero, List.set_cons_succ]
        refine wpAnyH_take (i := 1) (oi := { dst := some 13, op := _, type := _, pos := _, after := _, guard := _ }) (v := ?v1) rfl (by kernel_rfl) (by kernel_rfl) (by kernel_rfl) (fun _ _ _ h => h) (Or.inl ⟨by rfl, ?y1⟩) (by assumption) ?r1
        case y1 => (intro w hSw; obtain ⟨s1, s2, s3⟩ := hSw; go_simp; try with_reducible rfl)
        try simp only [Act.put, List.setIfInBounds_toArray, List.set_cons_zero, List.set_cons_succ]
        refine wpAnyH_take (i := 4) (oi := { dst := some 16, op := _, type := _, pos := _, after := _, guard := _ }) (v := ?v2) rfl (by kernel_rfl) (by kernel_rfl) (by kernel_rfl) (fun _ _ _ h => h) (Or.inl ⟨by rfl, ?y2⟩) (by assumption) ?r2
        case y2 => (intro w hSw; obtain ⟨s1, s2, s3⟩ := hSw; go_simp; try with_reducible rfl)
        try simp only [Act.put, List.setIfInBounds_toArray, List.set_cons_zero, List.set_cons_succ]
        refine wpAnyH_take (i := 5) (oi := { dst := some 17, op := _, type := _, pos := _, after := _, guard := _ }) (v := ?v3) rfl (by kernel_rfl) (by kernel_rfl) (by kernel_rfl) (fun _ _ _ h => h) (Or.inl ⟨by rfl, ?y3⟩) (by assumption) ?r3
        case y3 => (intro w hSw; obtain ⟨s1, s2, s3⟩ := hSw; go_simp; try with_reducible rfl)
        try simp only [Act.put, List.setIfInBounds_toArray, List.set_cons_zero, List.set_cons_succ]
        refine wpAnyH_take (i := 6) (oi := { dst := some 18, op := _, type := _, pos := _, after := _, guard := _ }) (v := ?v4) rfl (by kernel_rfl) (by kernel_rfl) (by kernel_rfl) (fun _ _ _ h => h) (Or.inl ⟨by rfl, ?y4⟩) (by assumption) ?r4
        case y4 => (intro w hSw; obtain ⟨s1, s2, s3⟩ := hSw; go_simp; try with_reducible rfl)
        try simp only [Act.put, List.setIfInBounds_toArray, List.set_cons_zero, List.set_cons_succ]
        refine wpAnyH_take (i := 10) (oi := { dst := some 22, op := _, type := _, pos := _, after := _, guard := _ }) (v := ?v5) rfl (by kernel_rfl) (by kernel_rfl) (by kernel_rfl) (fun _ _ _ h => h) (Or.inl ⟨by rfl, ?y5⟩) (by assumption) ?r5
        case y5 => (intro w hSw; obtain ⟨s1, s2, s3⟩ := hSw; go_simp; try with_reducible rfl)
        try simp only [Act.put, List.setIfInBounds_toArray, List.set_cons_zero, List.set_cons_succ]
        refine wpAnyH_take (i := 11) (oi := { dst := some 23, op := _, type := _, pos := _, after := _, guard := _ }) (v := ?v6) rfl (by kernel_rfl) (by kernel_rfl) (by kernel_rfl) (fun _ _ _ h => h) (Or.inl ⟨by rfl, ?y6⟩) (by assumption) ?r6
        case y6 => (intro w hSw; obtain ⟨s1, s2, s3⟩ := hSw; go_simp; try with_reducible rfl)
        try simp only [Act.put, List.setIfInBounds_toArray, List.set_cons_zero, List.set_cons_succ]
        refine wpAnyH_take (i := 15) (oi := { dst := some 27, op := _, type := _, pos := _, after := _, guard := _ }) (v := ?v7) rfl (by kernel_rfl) (by kernel_rfl) (by kernel_rfl) (fun _ _ _ h => h) (Or.inl ⟨by rfl, ?y7⟩) (by assumption) ?r7
        case y7 => (intro w hSw; obtain ⟨s1, s2, s3⟩ := hSw; go_simp; try with_reducible rfl)
        try simp only [Act.put, List.setIfInBounds_toArray, List.set_cons_zero, List.set_cons_succ]
        refine wpAnyH_take (i := 16) (oi := { dst := some 28, op := _, type := _, pos := _, after := _, guard := _ }) (v := ?v8) rfl (by kernel_rfl) (by kernel_rfl) (by kernel_rfl) (fun _ _ _ h => h) (Or.inl ⟨by rfl, ?y8⟩) (by assumption) ?r8
        case y8 => (intro w hSw; obtain ⟨s1, s2, s3⟩ := hSw; go_simp; try with_reducible rfl)
        try simp only [Act.put, List.setIfInBounds_toArray, List.set_cons_zero, List.set_cons_succ]
        refine wpAnyH_ready (rs := [2, 7, 12]) (by kernel_rfl) (by simp) (AllReadyH.cons (o := { dst := some 14, op := _, type := _, pos := _, after := _, guard := _ }) rfl (fun K hK => (fun (mk2 : True) => ?_) trivial) (AllReadyH.cons (o := { dst := some 19, op := _, type := _, pos := _, after := _, guard := _ }) rfl (fun K hK => (fun (mk7 : True) => ?_) trivial) (AllReadyH.cons (o := { dst := some 24, op := _, type := _, pos := _, after := _, guard := _ }) rfl (fun K hK => (fun (mk12 : True) => ?_) trivial) AllReadyH.nil)))
        all_goals first
          | (clear mk2
             go_simp
             refine hK.out _ _ (HS.out _ _ (Lib.hid (HKP.out _ _ _ T.out (balloc Wc (.cells #[.int .i64 kn, .int .i64 0] 3)))).out) (fun hHeld => ?_)
             clear hK K
             try simp only [Act.put, List.setIfInBounds_toArray, List.set_cons_zero, List.set_cons_succ]
             replace T := Lib.hid (HKP.out _ _ _ T.out (balloc Wc (.cells #[.int .i64 kn, .int .i64 0] 3)))
             have I14 := Lib.hid (Ints.lit20 Wc kn)
             generalize World.alloc Wc _ = Wn at T I14 hHeld ⊢
             rename World => Wc
             have s1 : True := trivial)
          | (clear mk7
             go_simp
             refine hK.out _ _ (HS.out _ _ (Lib.hid (HKP.out _ _ _ T.out (balloc Wc (.cells #[.int .i64 sn] 3)))).out) (fun hHeld => ?_)
             clear hK K
             try simp only [Act.put, List.setIfInBounds_toArray, List.set_cons_zero, List.set_cons_succ]
             replace T := Lib.hid (HKP.out _ _ _ T.out (balloc Wc (.cells #[.int .i64 sn] 3)))
             have I19 := Lib.hid (Ints.lit1 Wc sn)
             generalize World.alloc Wc _ = Wn at T I19 hHeld ⊢
             rename World => Wc
             have s0_7 : True := trivial)
          | (clear mk12
             go_simp
             refine hK.out _ _ (HS.out _ _ (Lib.hid (HKP.out _ _ _ T.out (balloc Wc (.cells (adC xg).toArray 24)))).out) (fun hHeld => ?_)
             clear hK K
             try simp only [Act.put, List.setIfInBounds_toArray, List.set_cons_zero, List.set_cons_succ]
             replace T := Lib.hid (HKP.out _ _ _ T.out (balloc Wc (.cells (adC xg).toArray 24)))
             have A24 := Lib.hid (Ads.lit Wc xg HOG.out)
             generalize World.alloc Wc _ = Wn at T A24 hHeld ⊢
             rename World => Wc
             have s0_12 : True := trivial)
        all_goals first
          | (clear s0_7
             refine wpAnyH_ready (rs := [2, 12]) (by kernel_rfl) (by simp) (AllReadyH.cons (o := { dst := some 14, op := _, type := _, pos := _, after := _, guard := _ }) rfl (fun K hK => (fun (mk2 : True) => ?_) trivial) (AllReadyH.cons (o := { dst := some 24, op := _, type := _, pos := _, after := _, guard := _ }) rfl (fun K hK => (fun (mk12 : True) => ?_) trivial) AllReadyH.nil))
             all_goals first
               | (clear mk2
                  go_simp
                  refine hK.out _ _ (HS.out _ _ (Lib.hid (HKP.out _ _ _ T.out (balloc Wc (.cells #[.int .i64 kn, .int .i64 0] 3)))).out) (fun hHeld => ?_)
                  clear hK K
                  try simp only [Act.put, List.setIfInBounds_toArray, List.set_cons_zero, List.set_cons_succ]
                  replace T := Lib.hid (HKP.out _ _ _ T.out (balloc Wc (.cells #[.int .i64 kn, .int .i64 0] 3)))
                  replace I19 := Lib.hid (I19.out.below (balloc Wc (.cells #[.int .i64 kn, .int .i64 0] 3)))
                  have I14 := Lib.hid (Ints.lit20 Wc kn)
                  generalize World.alloc Wc _ = Wn at T I19 I14 hHeld ⊢
                  rename World => Wc
                  have s1_7 : True := trivial)
               | (clear mk12
                  go_simp
                  refine hK.out _ _ (HS.out _ _ (Lib.hid (HKP.out _ _ _ T.out (balloc Wc (.cells (adC xg).toArray 24)))).out) (fun hHeld => ?_)
                  clear hK K
                  try simp only [Act.put, List.setIfInBounds_toArray, List.set_cons_zero, List.set_cons_succ]
                  replace T := Lib.hid (HKP.out _ _ _ T.out (balloc Wc (.cells (adC xg).toArray 24)))
                  replace I19 := Lib.hid (I19.out.below (balloc Wc (.cells (adC xg).toArray 24)))
                  have A24 := Lib.hid (Ads.lit Wc xg HOG.out)
                  generalize World.alloc Wc _ = Wn at T I19 A24 hHeld ⊢
                  rename World => Wc
                  have s0_7_12 : True := trivial))
          | (clear s0_12
             refine wpAnyH_ready (rs := [2, 7]) (by kernel_rfl) (by simp) (AllReadyH.cons (o := { dst := some 14, op := _, type := _, pos := _, after := _, guard := _ }) rfl (fun K hK => (fun (mk2 : True) => ?_) trivial) (AllReadyH.cons (o := { dst := some 19, op := _, type := _, pos := _, after := _, guard := _ }) rfl (fun K hK => (fun (mk7 : True) => ?_) trivial) AllReadyH.nil))
             all_goals first
               | (clear mk2
                  go_simp
                  refine hK.out _ _ (HS.out _ _ (Lib.hid (HKP.out _ _ _ T.out (balloc Wc (.cells #[.int .i64 kn, .int .i64 0] 3)))).out) (fun hHeld => ?_)
                  clear hK K
                  try simp only [Act.put, List.setIfInBounds_toArray, List.set_cons_zero, List.set_cons_succ]
                  replace T := Lib.hid (HKP.out _ _ _ T.out (balloc Wc (.cells #[.int .i64 kn, .int .i64 0] 3)))
                  replace A24 := Lib.hid (A24.out.below (balloc Wc (.cells #[.int .i64 kn, .int .i64 0] 3)))
                  have I14 := Lib.hid (Ints.lit20 Wc kn)
                  generalize World.alloc Wc _ = Wn at T A24 I14 hHeld ⊢
                  rename World => Wc
                  have s1_12 : True := trivial)
               | (clear mk7
                  go_simp
                  refine hK.out _ _ (HS.out _ _ (Lib.hid (HKP.out _ _ _ T.out (balloc Wc (.cells #[.int .i64 sn] 3)))).out) (fun hHeld => ?_)
                  clear hK K
                  try simp only [Act.put, List.setIfInBounds_toArray, List.set_cons_zero, List.set_cons_succ]
                  replace T := Lib.hid (HKP.out _ _ _ T.out (balloc Wc (.cells #[.int .i64 sn] 3)))
                  replace A24 := Lib.hid (A24.out.below (balloc Wc (.cells #[.int .i64 sn] 3)))
                  have I19 := Lib.hid (Ints.lit1 Wc sn)
                  generalize World.alloc Wc _ = Wn at T A24 I19 hHeld ⊢
                  rename World => Wc
                  have s0_7_12 : True := trivial))
          | (clear s1
             refine wpAnyH_ready (rs := [3, 7, 12]) (by kernel_rfl) (by simp) (AllReadyH.cons (o := { dst := some 15, op := _, type := _, pos := _, after := _, guard := _ }) rfl (fun K hK => (fun (mk3 : True) => ?_) trivial) (AllReadyH.cons (o := { dst := some 19, op := _, type := _, pos := _, after := _, guard := _ }) rfl (fun K hK => (fun (mk7 : True) => ?_) trivial) (AllReadyH.cons (o := { dst := some 24, op := _, type := _, pos := _, after := _, guard := _ }) rfl (fun K hK => (fun (mk12 : True) => ?_) trivial) AllReadyH.nil)))
             all_goals first
               | (clear mk3
                  go_simp
                  (go_at_call 20; (with_reducible refine (HN1.out _ _ I14.out).mono ?_); rintro x wn ⟨rfl, hb⟩; replace T := Lib.hid (HKP.out _ _ _ T.out hb); clear hb)
                  try go_wp2_with fail
                  refine hK.out _ _ (HS.out _ _ T.out) (fun hHeld => ?_)
                  clear hK K
                  try simp only [Act.put, List.setIfInBounds_toArray, List.set_cons_zero, List.set_cons_succ]
                  rename World => Wc
                  have s2 : True := trivial)
               | (clear mk7
                  go_simp
                  refine hK.out _ _ (HS.out _ _ (Lib.hid (HKP.out _ _ _ T.out (balloc Wc (.cells #[.int .i64 sn] 3)))).out) (fun hHeld => ?_)
                  clear hK K
                  try simp only [Act.put, List.setIfInBounds_toArray, List.set_cons_zero, List.set_cons_succ]
                  replace T := Lib.hid (HKP.out _ _ _ T.out (balloc Wc (.cells #[.int .i64 sn] 3)))
                  replace I14 := Lib.hid (I14.out.below (balloc Wc (.cells #[.int .i64 sn] 3)))
                  have I19 := Lib.hid (Ints.lit1 Wc sn)
                  generalize World.alloc Wc _ = Wn at T I14 I19 hHeld ⊢
                  rename World => Wc
                  have s1_7 : True := trivial)
               | (clear mk12
                  go_simp
                  refine hK.out _ _ (HS.out _ _ (Lib.hid (HKP.out _ _ _ T.out (balloc Wc (.cells (adC xg).toArray 24)))).out) (fun hHeld => ?_)
                  clear hK K
                  try simp only [Act.put, List.setIfInBounds_toArray, List.set_cons_zero, List.set_cons_succ]
                  replace T := Lib.hid (HKP.out _ _ _ T.out (balloc Wc (.cells (adC xg).toArray 24)))
                  replace I14 := Lib.hid (I14.out.below (balloc Wc (.cells (adC xg).toArray 24)))
                  have A24 := Lib.hid (Ads.lit Wc xg HOG.out)
                  generalize World.alloc Wc _ = Wn at T I14 A24 hHeld ⊢
                  rename World => Wc
                  have s1_12 : True := trivial))
        all_goals first
          | (clear s0_7_12
             refine wpAnyH_ready (rs := [2]) (by kernel_rfl) (by simp) (AllReadyH.cons (o := { dst := some 14, op := _, type := _, pos := _, after := _, guard := _ }) rfl (fun K hK => ?_) AllReadyH.nil)
             go_simp
             refine hK.out _ _ (HS.out _ _ (Lib.hid (HKP.out _ _ _ T.out (balloc Wc (.cells #[.int .i64 kn, .int .i64 0] 3)))).out) (fun hHeld => ?_)
             clear hK K
             try simp only [Act.put, List.setIfInBounds_toArray, List.set_cons_zero, List.set_cons_succ]
             replace T := Lib.hid (HKP.out _ _ _ T.out (balloc Wc (.cells #[.int .i64 kn, .int .i64 0] 3)))
             replace A24 := Lib.hid (A24.out.below (balloc Wc (.cells #[.int .i64 kn, .int .i64 0] 3)))
             replace I19 := Lib.hid (I19.out.below (balloc Wc (.cells #[.int .i64 kn, .int .i64 0] 3)))
             have I14 := Lib.hid (Ints.lit20 Wc kn)
             generalize World.alloc Wc _ = Wn at T A24 I19 I14 hHeld ⊢
             rename World => Wc
             have s1_7_12 : True := trivial)
          | (clear s1_7
             refine wpAnyH_ready (rs := [3, 12]) (by kernel_rfl) (by simp) (AllReadyH.cons (o := { dst := some 15, op := _, type := _, pos := _, after := _, guard := _ }) rfl (fun K hK => (fun (mk3 : True) => ?_) trivial) (AllReadyH.cons (o := { dst := some 24, op := _, type := _, pos := _, after := _, guard := _ }) rfl (fun K hK => (fun (mk12 : True) => ?_) trivial) AllReadyH.nil))
             all_goals first
               | (clear mk3
                  go_simp
                  (go_at_call 20; (with_reducible refine (HN1.out _ _ I14.out).mono ?_); rintro x wn ⟨rfl, hb⟩; replace T := Lib.hid (HKP.out _ _ _ T.out hb); replace I19 := Lib.hid (I19.out.below hb); clear hb)
                  try go_wp2_with fail
                  refine hK.out _ _ (HS.out _ _ T.out) (fun hHeld => ?_)
                  clear hK K
                  try simp only [Act.put, List.setIfInBounds_toArray, List.set_cons_zero, List.set_cons_succ]
                  rename World => Wc
                  have s2_7 : True := trivial)
               | (clear mk12
                  go_simp
                  refine hK.out _ _ (HS.out _ _ (Lib.hid (HKP.out _ _ _ T.out (balloc Wc (.cells (adC xg).toArray 24)))).out) (fun hHeld => ?_)
                  clear hK K
                  try simp only [Act.put, List.setIfInBounds_toArray, List.set_cons_zero, List.set_cons_succ]
                  replace T := Lib.hid (HKP.out _ _ _ T.out (balloc Wc (.cells (adC xg).toArray 24)))
                  replace I19 := Lib.hid (I19.out.below (balloc Wc (.cells (adC xg).toArray 24)))
                  replace I14 := Lib.hid (I14.out.below (balloc Wc (.cells (adC xg).toArray 24)))
                  have A24 := Lib.hid (Ads.lit Wc xg HOG.out)
                  generalize World.alloc Wc _ = Wn at T I19 I14 A24 hHeld ⊢
                  rename World => Wc
                  have s1_7_12 : True := trivial))
          | (clear s1_12
             refine wpAnyH_ready (rs := [3, 7]) (by kernel_rfl) (by simp) (AllReadyH.cons (o := { dst := some 15, op := _, type := _, pos := _, after := _, guard := _ }) rfl (fun K hK => (fun (mk3 : True) => ?_) trivial) (AllReadyH.cons (o := { dst := some 19, op := _, type := _, pos := _, after := _, guard := _ }) rfl (fun K hK => (fun (mk7 : True) => ?_) trivial) AllReadyH.nil))
             all_goals first
               | (clear mk3
                  go_simp
                  (go_at_call 20; (with_reducible refine (HN1.out _ _ I14.out).mono ?_); rintro x wn ⟨rfl, hb⟩; replace T := Lib.hid (HKP.out _ _ _ T.out hb); replace A24 := Lib.hid (A24.out.below hb); clear hb)
                  try go_wp2_with fail
                  refine hK.out _ _ (HS.out _ _ T.out) (fun hHeld => ?_)
                  clear hK K
                  try simp only [Act.put, List.setIfInBounds_toArray, List.set_cons_zero, List.set_cons_succ]
                  rename World => Wc
                  have s2_12 : True := trivial)
               | (clear mk7
                  go_simp
                  refine hK.out _ _ (HS.out _ _ (Lib.hid (HKP.out _ _ _ T.out (balloc Wc (.cells #[.int .i64 sn] 3)))).out) (fun hHeld => ?_)
                  clear hK K
                  try simp only [Act.put, List.setIfInBounds_toArray, List.set_cons_zero, List.set_cons_succ]
                  replace T := Lib.hid (HKP.out _ _ _ T.out (balloc Wc (.cells #[.int .i64 sn] 3)))
                  replace A24 := Lib.hid (A24.out.below (balloc Wc (.cells #[.int .i64 sn] 3)))
                  replace I14 := Lib.hid (I14.out.below (balloc Wc (.cells #[.int .i64 sn] 3)))
                  have I19 := Lib.hid (Ints.lit1 Wc sn)
                  generalize World.alloc Wc _ = Wn at T A24 I14 I19 hHeld ⊢
                  rename World => Wc
                  have s1_7_12 : True := trivial))
          | (clear s2
             refine wpAnyH_ready (rs := [7, 12]) (by kernel_rfl) (by simp) (AllReadyH.cons (o := { dst := some 19, op := _, type := _, pos := _, after := _, guard := _ }) rfl (fun K hK => (fun (mk7 : True) => ?_) trivial) (AllReadyH.cons (o := { dst := some 24, op := _, type := _, pos := _, after := _, guard := _ }) rfl (fun K hK => (fun (mk12 : True) => ?_) trivial) AllReadyH.nil))
             all_goals first
               | (clear mk7
                  go_simp
                  refine hK.out _ _ (HS.out _ _ (Lib.hid (HKP.out _ _ _ T.out (balloc Wc (.cells #[.int .i64 sn] 3)))).out) (fun hHeld => ?_)
                  clear hK K
                  try simp only [Act.put, List.setIfInBounds_toArray, List.set_cons_zero, List.set_cons_succ]
                  replace T := Lib.hid (HKP.out _ _ _ T.out (balloc Wc (.cells #[.int .i64 sn] 3)))
                  have I19 := Lib.hid (Ints.lit1 Wc sn)
                  generalize World.alloc Wc _ = Wn at T I19 hHeld ⊢
                  rename World => Wc
                  have s2_7 : True := trivial)
               | (clear mk12
                  go_simp
                  refine hK.out _ _ (HS.out _ _ (Lib.hid (HKP.out _ _ _ T.out (balloc Wc (.cells (adC xg).toArray 24)))).out) (fun hHeld => ?_)
                  clear hK K
                  try simp only [Act.put, List.setIfInBounds_toArray, List.set_cons_zero, List.set_cons_succ]
                  replace T := Lib.hid (HKP.out _ _ _ T.out (balloc Wc (.cells (adC xg).toArray 24)))
                  have A24 := Lib.hid (Ads.lit Wc xg HOG.out)
                  generalize World.alloc Wc _ = Wn at T A24 hHeld ⊢
                  rename World => Wc
                  have s2_12 : True := trivial))
        all_goals first
          | (clear s1_7_12
             refine wpAnyH_ready (rs := [3]) (by kernel_rfl) (by simp) (AllReadyH.cons (o := { dst := some 15, op := _, type := _, pos := _, after := _, guard := _ }) rfl (fun K hK => ?_) AllReadyH.nil)
             go_simp
             (go_at_call 20; (with_reducible refine (HN1.out _ _ I14.out).mono ?_); rintro x wn ⟨rfl, hb⟩; replace T := Lib.hid (HKP.out _ _ _ T.out hb); replace A24 := Lib.hid (A24.out.below hb); replace I19 := Lib.hid (I19.out.below hb); clear hb)
             try go_wp2_with fail
             refine hK.out _ _ (HS.out _ _ T.out) (fun hHeld => ?_)
             clear hK K
             try simp only [Act.put, List.setIfInBounds_toArray, List.set_cons_zero, List.set_cons_succ]
             rename World => Wc
             have s2_7_12 : True := trivial)
          | (clear s2_7
             refine wpAnyH_ready (rs := [8, 12]) (by kernel_rfl) (by simp) (AllReadyH.cons (o := { dst := some 20, op := _, type := _, pos := _, after := _, guard := _ }) rfl (fun K hK => (fun (mk8 : True) => ?_) trivial) (AllReadyH.cons (o := { dst := some 24, op := _, type := _, pos := _, after := _, guard := _ }) rfl (fun K hK => (fun (mk12 : True) => ?_) trivial) AllReadyH.nil))
             all_goals first
               | (clear mk8
                  go_simp
                  (go_at_call 20; (with_reducible refine (HN2.out _ _ I19.out).mono ?_); rintro x wn ⟨rfl, hb⟩; replace T := Lib.hid (HKP.out _ _ _ T.out hb); clear hb)
                  try go_wp2_with fail
                  refine hK.out _ _ (HS.out _ _ T.out) (fun hHeld => ?_)
                  clear hK K
                  try simp only [Act.put, List.setIfInBounds_toArray, List.set_cons_zero, List.set_cons_succ]
                  rename World => Wc
                  refine wpAnyH_take (i := 9) (oi := { dst := some 21, op := _, type := _, pos := _, after := _, guard := _ }) (v := .string (Str y1)) rfl (by kernel_rfl) (by kernel_rfl) (by kernel_rfl) (fun _ _ _ h => h) (Or.inl ⟨by rfl, ?_⟩) (by assumption) ?_
                  · (intro w hSw; go_simp; try with_reducible rfl)
                  try simp only [Act.put, List.setIfInBounds_toArray, List.set_cons_zero, List.set_cons_succ]
                  have s3_7 : True := trivial)
               | (clear mk12
                  go_simp
                  refine hK.out _ _ (HS.out _ _ (Lib.hid (HKP.out _ _ _ T.out (balloc Wc (.cells (adC xg).toArray 24)))).out) (fun hHeld => ?_)
                  clear hK K
                  try simp only [Act.put, List.setIfInBounds_toArray, List.set_cons_zero, List.set_cons_succ]
                  replace T := Lib.hid (HKP.out _ _ _ T.out (balloc Wc (.cells (adC xg).toArray 24)))
                  replace I19 := Lib.hid (I19.out.below (balloc Wc (.cells (adC xg).toArray 24)))
                  have A24 := Lib.hid (Ads.lit Wc xg HOG.out)
                  generalize World.alloc Wc _ = Wn at T I19 A24 hHeld ⊢
                  rename World => Wc
                  have s2_7_12 : True := trivial))
          | (clear s2_12
             refine wpAnyH_ready (rs := [7]) (by kernel_rfl) (by simp) (AllReadyH.cons (o := { dst := some 19, op := _, type := _, pos := _, after := _, guard := _ }) rfl (fun K hK => ?_) AllReadyH.nil)
             go_simp
             refine hK.out _ _ (HS.out _ _ (Lib.hid (HKP.out _ _ _ T.out (balloc Wc (.cells #[.int .i64 sn] 3)))).out) (fun hHeld => ?_)
             clear hK K
             try simp only [Act.put, List.setIfInBounds_toArray, List.set_cons_zero, List.set_cons_succ]
             replace T := Lib.hid (HKP.out _ _ _ T.out (balloc Wc (.cells #[.int .i64 sn] 3)))
             replace A24 := Lib.hid (A24.out.below (balloc Wc (.cells #[.int .i64 sn] 3)))
             have I19 := Lib.hid (Ints.lit1 Wc sn)
             generalize World.alloc Wc _ = Wn at T A24 I19 hHeld ⊢
             rename World => Wc
             have s2_7_12 : True := trivial)
        all_goals first
          | (clear s2_7_12
             refine wpAnyH_ready (rs := [8]) (by kernel_rfl) (by simp) (AllReadyH.cons (o := { dst := some 20, op := _, type := _, pos := _, after := _, guard := _ }) rfl (fun K hK => ?_) AllReadyH.nil)
             go_simp
             (go_at_call 20; (with_reducible refine (HN2.out _ _ I19.out).mono ?_); rintro x wn ⟨rfl, hb⟩; replace T := Lib.hid (HKP.out _ _ _ T.out hb); replace A24 := Lib.hid (A24.out.below hb); clear hb)
             try go_wp2_with fail
             refine hK.out _ _ (HS.out _ _ T.out) (fun hHeld => ?_)
             clear hK K
             try simp only [Act.put, List.setIfInBounds_toArray, List.set_cons_zero, List.set_cons_succ]
             rename World => Wc
             refine wpAnyH_take (i := 9) (oi := { dst := some 21, op := _, type := _, pos := _, after := _, guard := _ }) (v := .string (Str y1)) rfl (by kernel_rfl) (by kernel_rfl) (by kernel_rfl) (fun _ _ _ h => h) (Or.inl ⟨by rfl, ?_⟩) (by assumption) ?_
             · (intro w hSw; go_simp; try with_reducible rfl)
             try simp only [Act.put, List.setIfInBounds_toArray, List.set_cons_zero, List.set_cons_succ]
             have s3_7_12 : True := trivial)
          | (clear s3_7
             refine wpAnyH_ready (rs := [12]) (by kernel_rfl) (by simp) (AllReadyH.cons (o := { dst := some 24, op := _, type := _, pos := _, after := _, guard := _ }) rfl (fun K hK => ?_) AllReadyH.nil)
             go_simp
             refine hK.out _ _ (HS.out _ _ (Lib.hid (HKP.out _ _ _ T.out (balloc Wc (.cells (adC xg).toArray 24)))).out) (fun hHeld => ?_)
             clear hK K
             try simp only [Act.put, List.setIfInBounds_toArray, List.set_cons_zero, List.set_cons_succ]
             replace T := Lib.hid (HKP.out _ _ _ T.out (balloc Wc (.cells (adC xg).toArray 24)))
             have A24 := Lib.hid (Ads.lit Wc xg HOG.out)
             generalize World.alloc Wc _ = Wn at T A24 hHeld ⊢
             rename World => Wc
             have s3_7_12 : True := trivial)
        all_goals (
          clear s3_7_12
          refine wpAnyH_ready (rs := [13]) (by kernel_rfl) (by simp) (AllReadyH.cons (o := { dst := some 25, op := _, type := _, pos := _, after := _, guard := _ }) rfl (fun K hK => ?_) AllReadyH.nil)
          go_simp
          (go_at_call 63; (with_reducible refine (HA1.out _ _ A24.out).mono ?_); rintro x wn ⟨rfl, hb⟩; replace T := Lib.hid (HKP.out _ _ _ T.out hb); clear hb)
          try go_wp2_with fail
          refine hK.out _ _ (HS.out _ _ T.out) (fun hHeld => ?_)
          clear hK K
          try simp only [Act.put, List.setIfInBounds_toArray, List.set_cons_zero, List.set_cons_succ]
          rename World => Wc
          refine wpAnyH_take (i := 14) (oi := { dst := some 26, op := _, type := _, pos := _, after := _, guard := _ }) (v := .string (Str y2)) rfl (by kernel_rfl) (by kernel_rfl) (by kernel_rfl) (fun _ _ _ h => h) (Or.inl ⟨by rfl, ?_⟩) (by assumption) ?_
          · (intro w hSw; go_simp; try with_reducible rfl)
          try simp only [Act.put, List.setIfInBounds_toArray, List.set_cons_zero, List.set_cons_succ]
          have s4_7_12 : True := trivial)
        all_goals (
          clear s4_7_12
          refine wpAnyH_ready (rs := [17]) (by kernel_rfl) (by simp) (AllReadyH.cons (o := { dst := some 29, op := _, type := _, pos := _, after := _, guard := _ }) rfl (fun K hK => ?_) AllReadyH.nil)
          go_simp
          (go_at_call 63; (with_reducible refine (HA2.out _ T.out.bl).mono ?_); rintro x wn ⟨rfl, hb⟩; replace T := Lib.hid (HKP.out _ _ _ T.out hb); clear hb)
          try go_wp2_with fail
          refine hK.out _ _ (HS.out _ _ T.out) (fun hHeld => ?_)
          clear hK K
          try simp only [Act.put, List.setIfInBounds_toArray, List.set_cons_zero, List.set_cons_succ]
          rename World => Wc
          refine wpAnyH_take (i := 18) (oi := { dst := some 30, op := _, type := _, pos := _, after := _, guard := _ }) (v := .string (Str y3)) rfl (by kernel_rfl) (by kernel_rfl) (by kernel_rfl) (fun _ _ _ h => h) (Or.inl ⟨by rfl, ?_⟩) (by assumption) ?_
          · (intro w hSw; go_simp; try with_reducible rfl)
          try simp only [Act.put, List.setIfInBounds_toArray, List.set_cons_zero, List.set_cons_succ]
          have s5_7_12 : True := trivial)
        all_goals (
          clear s5_7_12
          refine wpAnyH_ready (rs := [19]) (by kernel_rfl) (by simp) (AllReadyH.cons (o := { dst := some 31, op := _, type := _, pos := _, after := _, guard := _ }) rfl (fun K hK => ?_) AllReadyH.nil)
          go_simp
          (go_at_call 59; (with_reducible refine (sstr_any m m _ _ _ T.out.sb HL.out (HMM.out _ T.out.bl)).mono ?_); rintro x wn ⟨rfl, h2, k2⟩; replace T := Lib.hid (T.out.step (HMM.out _ T.out.bl) h2 k2); clear h2 k2)
          try go_wp2_with fail
          refine hK.out _ _ (HS.out _ _ T.out) (fun hHeld => ?_)
          clear hK K
          try simp only [Act.put, List.setIfInBounds_toArray, List.set_cons_zero, List.set_cons_succ]
          rename World => Wc
          have s6_7_12 : True := trivial)
        all_goals (
          clear s6_7_12
          refine wpAnyH_done (by kernel_rfl) ?_ _
          go_wp2
          go_roundw
          case rel => exact ⟨k + 1, by omega, by go_num, Lib.hid (by rw [HT.out, HRB.out]; exact T.out.sb), Lib.hid T.out.bl⟩
          case measure => simp [intOf]; omega)
      · have hd : ¬ (k : Int) < (n : Int) := by omega
        have HV := Lib.hid (show rcs.take k = rcs from List.take_of_length_le (by rw [← HN.out]; omega))
        have HSV : Hid (SB m wr m (recs9B rcs)) := Lib.hid (by have := HSB.out; rw [HV.out] at this; exact this)
        have HTX := Lib.hid (stext_any wr HSV.out (recs9B_ne HNE.out) (by have := HLE.out; rw [← HN.out] at this; omega))
        go_wp2_with (go_at_call 61; (with_reducible refine HTX.out.mono ?_); rintro e w3 ⟨rfl, hb3⟩; have K3 := Lib.hid (HB.out.trans hb3); clear hb3)
        go_ret
        exact ⟨rfl, K3.out⟩
end Go.Proofs.YtgpccgcppbdlpaaGreat
