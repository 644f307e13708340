/-
  Texts joined: SeG, SeI, Env, SeC.
-/
import Derived.Test.YtalnfjnfcloonaaGreatDoorMg23
import Derived.Test.YtalnfjnfcloonaaGreatDoorSeF
import Derived.Test.YtalnfjnfcloonaaGreatDoorMg22
import Derived.Deep.LoopGhost
import Derived.Test.YtalnfjnfcloonaaGreatDoorMg09
import Derived.Lib.AppendIntMem
import Derived.Shelf.Spec.TrailingZeros
import Derived.Test.YtalnfjnfcloonaaGreatDoorMg21
import Derived.Test.YtalnfjnfcloonaaGreatDoorCmp
/-
  The contracts of srcs' tidy and Of.
-/
namespace Go.Proofs.YtalnfjnfcloonaaGreatDoor
open Go.RowKit
set_option linter.unusedVariables false
set_option linter.unusedSimpArgs false

theorem OwnL.len {w : World} {base : Nat} {v : Value} {l : List AD} (h : OwnL w base v l) : ∃ p cap, v = .slice p l.length cap := by
  obtain ⟨h1, ⟨h2, h3⟩ | ⟨g', cap', cur, e1, e2, e3, e4, e5, e6, e7⟩⟩ := h
  · rw [h3]; exact ⟨_, _, h2⟩
  · exact ⟨_, _, e1⟩
set_option maxRecDepth 100000 in
theorem tidy_any (base : Nat) (v : Value) (l : List AD) (w : World) (hb : base ≤ w.heap.size) (hok : ∀ a ∈ l, adOk a) (hown : OwnL w base v l) (hll : l.length ≤ 1000000) : Calls Tryz.prog 35 #[v] w fun x w' => ∃ v' s, x = .returned v' ∧ s.Perm l ∧ s.Pairwise (fun x y => ltA y x = false) ∧ OwnL w' base v' (ded s) ∧ Below base w w' := by
  have HS := Lib.hid (sort_any base v l w hok hown hll)
  have HB := Lib.hid hb
  have HGE := Lib.hid (own_geS hown)
  have HOK := Lib.hid hok
  have HLL := Lib.hid hll
  obtain ⟨p, cap, rfl⟩ := hown.len
  clear hok hown hll hb
  go_enter Tryz.func35, Tryz.ntmps35
  go_wp2_with (first
    | (go_at_call 56; (with_reducible refine (HS.out).mono ?_); rintro x w1 ⟨rfl, s, hp, hs, ho, hg⟩; have HP := Lib.hid hp; have HSO := Lib.hid hs; have H1 := Lib.hid ((Below.refl base w).grown hg HB.out (fun k hk => (HGE.out k hk).1)); have HC := Lib.hid (compact_any base _ s w1 (fun a ha => HOK.out a (hp.mem_iff.1 ha)) ho (by rw [hp.length_eq]; exact HLL.out)); clear hp hs ho hg)
    | (go_at_call 57; (with_reducible refine (HC.out).mono ?_); rintro x w2 ⟨v', rfl, ho, hb⟩; have HO := Lib.hid ho; have H2 := Lib.hid (H1.out.trans hb); clear ho hb))
  go_ret
  exact ⟨_, _, rfl, HP.out, HSO.out, HO.out, H2.out⟩
set_option maxRecDepth 100000 in
theorem sof_any (v : Value) (l : List AD) (w : World) (ha : Ads w v l) (hll : l.length ≤ 100000) : Calls Tryz.prog 20 #[v] w fun x w' => ∃ v', x = .returned v' ∧ Below w.heap.size w w' ∧ OwnL w' w.heap.size v' (ofA l) := by
  have HP := Lib.hid (spick_good v l goodB w ha (fun W a _ hm => good_any a.1 a.2 (ha.ok a hm) W) hll)
  have HOK := Lib.hid ha.ok
  have HLL := Lib.hid hll
  obtain ⟨p, cap, rfl, _, _⟩ := ha.len
  clear ha hll
  go_enter Tryz.func20, Tryz.ntmps20
  go_wp2_with (first
    | (go_at_call 36; (with_reducible refine (HP.out).mono ?_); rintro x w1 ⟨v1, rfl, hb, ho⟩; have H1 := Lib.hid hb; have HT := Lib.hid (tidy_any w.heap.size v1 (l.filter goodB) w1 hb.size (fun a ha => HOK.out a (List.mem_filter.1 ha).1) ho (Nat.le_trans (List.length_filter_le _ _) (Nat.le_trans HLL.out (by omega)))); clear hb ho)
    | (go_at_call 35; (with_reducible refine (HT.out).mono ?_); rintro x w2 ⟨v2, s, rfl, hp, hs, ho, hb⟩; have HO := Lib.hid ho; have HPM := Lib.hid hp; have HSO := Lib.hid hs; have H2 := Lib.hid (H1.out.trans hb); clear ho hb hp hs))
  go_ret
  refine ⟨_, rfl, H2.out, ?_⟩
  have e : ded s = ofA l := ded_ofS (fun g => ltA_ord g) HPM.out HSO.out (fun x => by rw [List.mem_filter])
  rw [← e]
  exact HO.out
end Go.Proofs.YtalnfjnfcloonaaGreatDoor

/-
  The contracts of srcs' pick and of slices.IndexFunc and slices.ContainsFunc over addresses, whatever function value they are given.
-/
namespace Go.Proofs.YtalnfjnfcloonaaGreatDoor
open Go.RowKit
set_option linter.unusedVariables false
set_option linter.unusedSimpArgs false
attribute [local go_sem ↓] ld_addr st_addr adsLit_eq
attribute [local go_sem] ldr_addr str_addr row?_drewN_eq row?_drew_eq

end Go.Proofs.YtalnfjnfcloonaaGreatDoor

/-
  What the library's tables and variables hold, carried along.
-/
namespace Go.Proofs.YtalnfjnfcloonaaGreatDoor
open Go.RowKit
set_option linter.unusedVariables false

structure Env (w : World) : Prop where
  ml : ∃ m : Int, w.cell? ⟨2, 0, none⟩ = some (.int .i64 m)
  tab : Lib.TabIs Tryz.prog w "internal/strconv.uint64pow10" .u64 Lib.pow10Tab
  db : ∀ j, j < Lib.deBruijn64tab.length → w.cell? ⟨7, j, none⟩ = some (.int .u8 (Lib.deBruijn64tab.getD j 0))
  syn : ∃ te pe, w.cell? ⟨4, 0, none⟩ = some (.iface te pe)
  rng : ∃ te pe, w.cell? ⟨5, 0, none⟩ = some (.iface te pe)
theorem cell_in {w : World} {b o : Nat} {v : Value} (h : w.cell? ⟨b, o, none⟩ = some v) : b < w.heap.size := by
  by_cases hlt : b < w.heap.size
  · exact hlt
  · rw [World.cell?, Array.getElem?_eq_none (by simpa using hlt)] at h
    simp at h
/-- It stays (variable 4 too). -/
theorem Env.below {w w' : World} (h : Env w) (hb : Below w.heap.size w w') : Env w' := by
  obtain ⟨⟨m, h1⟩, h2, h3, ⟨t4, p4, h4⟩, ⟨t5, p5, h5⟩⟩ := h
  refine ⟨⟨m, ?_⟩, Lib.tabBelow_of_tabIs h2 w' hb, fun j hj => ?_, ⟨t4, p4, ?_⟩, ⟨t5, p5, ?_⟩⟩
  · rw [hb.cell (p := ⟨_, _, none⟩) (cell_in h1)]; exact h1
  · rw [hb.cell (p := ⟨_, _, none⟩) (cell_in (h3 j hj))]; exact h3 j hj
  · rw [hb.cell (p := ⟨_, _, none⟩) (cell_in h4)]; exact h4
  · rw [hb.cell (p := ⟨_, _, none⟩) (cell_in h5)]; exact h5
/-- For a world that grew out of an elder one. -/
theorem Env.to {w W w' : World} (h : Env w) (hb : Below w.heap.size w W) : Env W := h.below hb
end Go.Proofs.YtalnfjnfcloonaaGreatDoor

/-
  The contracts of srcs' Has (with slices.BinarySearchFunc over addr.Cmp), Good, And, Minus, Within, Same.
-/
namespace Go.Proofs.YtalnfjnfcloonaaGreatDoor
open Go.RowKit
set_option linter.unusedVariables false
set_option linter.unusedSimpArgs false
attribute [local go_sem ↓] ld_addr st_addr
attribute [local go_sem] ldr_addr str_addr row?_drewN_eq row?_drew_eq

/-- Where a search stands. -/
def BI (l : List AD) (a : AD) (lo hi : Nat) : Prop := (∀ t (h : t < l.length), t < lo → ltA l[t] a = true) ∧ ∀ t (h : t < l.length), hi ≤ t → ltA l[t] a = false
theorem BI.start (l : List AD) (a : AD) : BI l a 0 l.length := ⟨fun t h h2 => by omega, fun t h h2 => by omega⟩
theorem sorted_lt {l : List AD} (hs : Sorted ltA l) {i j : Nat} (hj : j < l.length) (hij : i < j) : ltA l[i] l[j] = true := List.pairwise_iff_getElem.1 hs i j (by omega) hj hij
theorem BI.up {l : List AD} {a : AD} {lo hi h : Nat} (hs : Sorted ltA l) (hl : h < l.length) (hb : BI l a lo hi) (hc : ltA l[h] a = true) : BI l a (h + 1) hi :=
  ⟨fun t ht h2 => by
    by_cases e : t = h
    · subst e; exact hc
    · exact (ltA_ord fun _ => true).trans _ _ _ (sorted_lt hs hl (by omega)) hc, hb.2⟩
theorem BI.down {l : List AD} {a : AD} {lo hi h : Nat} (hs : Sorted ltA l) (hl : h < l.length) (hb : BI l a lo hi) (hc : ltA l[h] a = false) : BI l a lo h :=
  ⟨hb.1, fun t ht h2 => by
    by_cases e : t = h
    · subst e; exact hc
    · cases hh : ltA l[t] a with
      | false => rfl
      | true => rw [(ltA_ord fun _ => true).trans _ _ _ (sorted_lt hs ht (show h < t by omega)) hh] at hc; cases hc⟩
theorem BI.mem {l : List AD} {a : AD} {i : Nat} (hs : Sorted ltA l) (hb : BI l a i i) : a ∈ l ↔ ∃ h : i < l.length, l[i] = a := by
  constructor
  · intro h
    obtain ⟨t, ht, e⟩ := List.getElem_of_mem h
    have irr := (ltA_ord fun _ => true).irr a
    by_cases h1 : t < i
    · have := hb.1 t ht h1
      rw [e, irr] at this; cases this
    · by_cases h2 : t = i
      · subst h2; exact ⟨ht, e⟩
      · exfalso
        have h3 := sorted_lt hs ht (show i < t by omega)
        rw [e, hb.2 i (by omega) (Nat.le_refl _)] at h3; cases h3
  · rintro ⟨h, e⟩
    rw [← e]; exact List.getElem_mem h
theorem cmp_zero (a b : AD) : decide (cmpV a.1 b.1 a.2 b.2 = 0) = decide (a = b) := by
  obtain ⟨v, x⟩ := a
  obtain ⟨u, y⟩ := b
  unfold cmpV
  rw [Bool.eq_iff_iff, decide_eq_true_iff, decide_eq_true_iff, Prod.mk.injEq]
  rcases cb_three x y with ⟨h, e⟩ | ⟨h, e⟩ | ⟨h, e⟩
  · cases v <;> cases u <;> simp [h, e]
  · subst e; cases v <;> cases u <;> simp [h]
  · cases v <;> cases u <;> simp [h, e]
theorem scmp_any (a b : AD) (ha : adOk a) (hb : adOk b) (w : World) : Calls Tryz.prog 30 #[.agg (adC a).toArray, .agg (adC b).toArray] w fun e w' => e = .returned (.int .i64 (cmpV a.1 b.1 a.2 b.2)) ∧ Below w.heap.size w w' := cmp_any a.1 b.1 a.2 b.2 ha hb w

set_option maxRecDepth 100000 in
set_option maxHeartbeats 4000000 in
theorem bsearch_any (v : Value) (l : List AD) (a : AD) (w : World) (ha : Ads w v l) (hso : Sorted ltA l) (hll : l.length ≤ 1000000) (ho : adOk a) : Calls Tryz.prog 37 #[v, .agg (adC a).toArray, .func (.func 30) #[] #[]] w fun x w' => ∃ i : Int, x = .returned (.tuple #[.int .i64 i, .bool (decide (a ∈ l))]) ∧ Below w.heap.size w w' := by
  obtain ⟨q, cap, rfl, h1, h2⟩ := ha.len
  have HRA : Hid (l ≠ [] → ∃ b o, q = some ⟨b, o, none⟩ ∧ b < w.heap.size ∧ AdsAt w b o l) := Lib.hid fun hne => by
    obtain ⟨b, o, cap', e, _, _, h3, h4⟩ := ha.parts hne
    simp only [Value.slice.injEq] at e
    exact ⟨b, o, e.1, h3, h4⟩
  have OA := Lib.hid ha.ok
  have HSO := Lib.hid hso
  have HO := Lib.hid ho
  have H0 := Lib.hid (BW.made w a)
  obtain ⟨n, hn⟩ : ∃ n, n = l.length := ⟨_, rfl⟩
  have hmx : n ≤ 1000000 := by omega
  rw [← hn]
  have HN := Lib.hid hn
  have HI0 := Lib.hid (BI.start l a)
  rw [← hn] at HI0
  obtain ⟨R, hR⟩ : ∃ R, R = decide (a ∈ l) := ⟨_, rfl⟩
  rw [← hR]
  have HR := Lib.hid hR
  clear ha hn hso ho h1 h2 hR hll
  go_enter Tryz.func37, Tryz.ntmps37
  go_upto_region 1 with (fail)
  generalize w.alloc (.cells (adC a).toArray 36) = W at H0 ⊢
  go_wp2_with fail
  go_loopw [9, 10] (fun i j wr => ∃ lo hi : Nat, i = .int .i64 lo ∧ j = .int .i64 hi ∧ lo ≤ hi ∧ hi ≤ n ∧ Hid (BW w wr a) ∧ Hid (BI l a lo hi)) (fun i j _ => (intOf j).toNat - (intOf i).toNat)
  case atStart => exact ⟨0, n, rfl, rfl, by omega, by omega, H0, HI0⟩
  case round =>
    obtain ⟨lo, hi, rfl, rfl, g1, g2, HB, HI⟩ := hrel
    by_cases hlt : lo < hi
    · obtain ⟨h, hh⟩ : ∃ h, h = (lo + hi) / 2 := ⟨_, rfl⟩
      have g3 : h < n := by omega
      have g4 : h < l.length := by rw [← HN.out]; exact g3
      obtain ⟨b, o, rfl, hbl, RA⟩ := HRA.out (fun e => by rw [e] at g4; exact absurd g4 (by simp))
      have HK : Hid (∀ W, BW w W a → row? W b (o + h * 17) 17 = some (adC l[h]) ∧ row? W w.heap.size 0 17 = some (adC a) ∧ BW w W a) := Lib.hid fun W hW => ⟨row?_below (RA h g4) hbl hW.1, hW.row HO.out, hW⟩
      have HC := Lib.hid (fun W => scmp_any l[h] a (OA.out _ (List.getElem_mem g4)) HO.out W)
      have HLT := Lib.hid (cmp_lt l[h] a)
      have HUP := Lib.hid (fun hc => BI.up HSO.out g4 HI.out hc)
      have HDN := Lib.hid (fun hc => BI.down HSO.out g4 HI.out hc)
      have hd : decide ((lo : Int) < (hi : Int)) = true := decide_eq_true (by omega)
      have hk1 : (lo : Int) < (hi : Int) := by omega
      generalize cmpV l[h].1 a.1 l[h].2 a.2 = z at HC HLT
      generalize ltA l[h] a = y at HLT HUP HDN
      generalize adC l[h] = X at HC HK
      generalize adC a = A at HC HK
      have hix : (0 : Int) ≤ ((lo : Int) + (hi : Int)) / 2 ∧ ((lo : Int) + (hi : Int)) / 2 < (n : Int) := by omega
      have htn : (((lo : Int) + (hi : Int)) / 2).toNat = (lo + hi) / 2 := by omega
      have HHH := Lib.hid hh
      rw [hh] at HK
      clear hh
      clear RA hbl g4
      cases y with
      | true =>
        have hz : decide (z < 0) = true := HLT.out
        go_upto_region 5 with (fail)
        go_region_held3 (fun W => row? W b (o + (lo + hi) / 2 * 17) 17 = some X ∧ row? W w.heap.size 0 17 = some A ∧ BW w W a) (first | assumption | exact HK.out _ HB.out | exact HK.out _ (HB.out.drewN 1)) ((go_at_call 30; (with_reducible refine (HC.out _).mono ?_); rintro x w1 ⟨rfl, hb1⟩; have hk := HK.out _ (BW.below (And.right (And.right (by assumption))) hb1); clear hb1))
        have H1 := Lib.hid hk.2.2
        clear hk
        go_wp2
        go_roundw
        case rel => have hh := HHH.out; exact ⟨h + 1, hi, by rw [show ((lo : Int) + (hi : Int)) / 2 + 1 = ((h + 1 : Nat) : Int) by omega], rfl, by omega, g2, H1, Lib.hid (HUP.out trivial)⟩
        case measure => simp [intOf]; omega
      | false =>
        have hz : decide (z < 0) = false := HLT.out
        go_upto_region 5 with (fail)
        go_region_held3 (fun W => row? W b (o + (lo + hi) / 2 * 17) 17 = some X ∧ row? W w.heap.size 0 17 = some A ∧ BW w W a) (first | assumption | exact HK.out _ HB.out | exact HK.out _ (HB.out.drewN 1)) ((go_at_call 30; (with_reducible refine (HC.out _).mono ?_); rintro x w1 ⟨rfl, hb1⟩; have hk := HK.out _ (BW.below (And.right (And.right (by assumption))) hb1); clear hb1))
        have H1 := Lib.hid hk.2.2
        clear hk
        go_wp2
        go_roundw
        case rel => have hh := HHH.out; exact ⟨lo, h, rfl, by rw [show ((lo : Int) + (hi : Int)) / 2 = ((h : Nat) : Int) by omega], by omega, by omega, H1, Lib.hid (HDN.out trivial)⟩
        case measure => simp [intOf]; omega
    · have hlh : lo = hi := by omega
      subst hlh
      have HM := Lib.hid (BI.mem HSO.out HI.out)
      have hd : decide ((lo : Int) < (lo : Int)) = false := by simp
      by_cases hn : lo < n
      · have g4 : lo < l.length := by rw [← HN.out]; exact hn
        obtain ⟨b, o, rfl, hbl, RA⟩ := HRA.out (fun e => by rw [e] at g4; exact absurd g4 (by simp))
        have HK : Hid (∀ W, BW w W a → row? W b (o + lo * 17) 17 = some (adC l[lo]) ∧ row? W w.heap.size 0 17 = some (adC a) ∧ BW w W a) := Lib.hid fun W hW => ⟨row?_below (RA lo g4) hbl hW.1, hW.row HO.out, hW⟩
        have HC := Lib.hid (fun W => scmp_any l[lo] a (OA.out _ (List.getElem_mem g4)) HO.out W)
        have HZ := Lib.hid (cmp_zero l[lo] a)
        have HMM : Hid (R = decide (l[lo] = a)) := Lib.hid (by
          rw [HR.out, Bool.eq_iff_iff, decide_eq_true_iff, decide_eq_true_iff, HM.out]
          exact ⟨fun ⟨_, e⟩ => e, fun e => ⟨g4, e⟩⟩)
        have hd2 : decide ((lo : Int) < (n : Int)) = true := decide_eq_true (by omega)
        have hk1 : (lo : Int) < (n : Int) := by omega
        generalize cmpV l[lo].1 a.1 l[lo].2 a.2 = z at HC HZ
        generalize decide (l[lo] = a) = y at HZ HMM
        generalize adC l[lo] = X at HC HK
        generalize adC a = A at HC HK
        clear RA hbl g4
        have hz : (z == 0) = y := HZ.out
        go_upto_region 8 with (fail)
        go_region_held3 (fun W => row? W b (o + lo * 17) 17 = some X ∧ row? W w.heap.size 0 17 = some A ∧ BW w W a) (first | assumption | exact HK.out _ HB.out | exact HK.out _ (HB.out.drewN 1)) ((go_at_call 30; (with_reducible refine (HC.out _).mono ?_); rintro x w1 ⟨rfl, hb1⟩; have hk := HK.out _ (BW.below (And.right (And.right (by assumption))) hb1); clear hb1))
        have H1 := Lib.hid hk.2.2
        clear hk
        go_wp2
        go_ret2
        exact ⟨lo, by rw [HMM.out]; rfl, H1.out.1⟩
      · have hd2 : decide ((lo : Int) < (n : Int)) = false := decide_eq_false (by omega)
        have HV : Hid (R = false) := Lib.hid (by
          rw [HR.out]
          exact decide_eq_false (fun h => by obtain ⟨h1, _⟩ := HM.out.1 h; rw [← HN.out] at h1; exact hn h1))
        clear HM HRA HSO
        go_upto_region 8 with (fail)
        go_quiet (fail)
        go_wp2
        go_ret2
        exact ⟨lo, by rw [HV.out]; rfl, bdrewN HB.out.1 _⟩

set_option maxRecDepth 100000 in
theorem shas_any (v : Value) (l : List AD) (a : AD) (w : World) (ha : Ads w v l) (hso : Sorted ltA l) (hll : l.length ≤ 1000000) (ho : adOk a) : Calls Tryz.prog 22 #[v, .agg (adC a).toArray] w fun x w' => x = .returned (.bool (decide (a ∈ l))) ∧ Below w.heap.size w w' := by
  have HC := Lib.hid (fun W (h : BW w W a) => bsearch_any v l a W (ha.below h.1) hso hll ho)
  have H0 := Lib.hid (BW.made w a)
  have HK : Hid (∀ W, BW w W a → row? W w.heap.size 0 17 = some (adC a)) := Lib.hid fun W h => h.row ho
  obtain ⟨q, cap, rfl, h1, h2⟩ := ha.len
  clear ha hso ho h1 h2
  generalize decide (a ∈ l) = R at HC ⊢
  go_enter Tryz.func22, Tryz.ntmps22
  go_upto_region 1 with (fail)
  generalize w.alloc (.cells (adC a).toArray 36) = W at H0 ⊢
  have r0 := HK.out _ H0.out
  go_wp2_with (go_at_call 37; (with_reducible refine (HC.out _ H0.out).mono ?_); rintro x w1 ⟨i, rfl, hb1⟩; have H1 := Lib.hid (bstep H0.out.1 hb1); clear hb1)
  go_ret
  exact ⟨rfl, H1.out⟩

/-- A slice boxed by the call, and what lay before. -/
def SBx (w W : World) (v : Value) : Prop := Below w.heap.size w W ∧ W.cell? ⟨w.heap.size, 0, none⟩ = some v
theorem SBx.below {w W W' : World} {v : Value} (h : SBx w W v) (hb : Below W.heap.size W W') : SBx w W' v := ⟨bstep h.1 hb, (hb.cell (p := ⟨w.heap.size, 0, none⟩) (cell_in h.2)).trans h.2⟩
theorem SBx.made (w : World) (v : Value) : SBx w (w.alloc (.cells #[v] 22)) v := ⟨bbS w _, (ObjAt.made w #[v] _).cell 0⟩
end Go.Proofs.YtalnfjnfcloonaaGreatDoor

