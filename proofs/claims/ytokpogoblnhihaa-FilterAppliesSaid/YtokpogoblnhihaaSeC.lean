/-
  The contracts of srcs' Has (with slices.BinarySearchFunc over addr.Cmp), Good, And, Minus, Within, Same.
-/
import Derived.Test.YtokpogoblnhihaaSeB
import Derived.Test.YtokpogoblnhihaaMg26
import Derived.Test.YtokpogoblnhihaaMg21
import Derived.Test.YtokpogoblnhihaaCmp
namespace Go.Proofs.Ytokpogoblnhihaa
open Go.RowKit
set_option linter.unusedVariables false
set_option linter.unusedSimpArgs false
attribute [local go_sem ↓] ld_addr st_addr
attribute [local go_sem] ldr_addr str_addr row?_drewN_eq row?_drew_eq

/-- Where a search stands. -/
def BI (l : List AD) (a : AD) (lo hi : Nat) : Prop := (∀ t (h : t < l.length), t < lo → ltA l[t] a = true) ∧ ∀ t (h : t < l.length), hi ≤ t → ltA l[t] a = false
theorem BI.start (l : List AD) (a : AD) : BI l a 0 l.length := ⟨fun t h h2 => by omega, fun t h h2 => by omega⟩
theorem sorted_lt {l : List AD} (hs : Sorted ltA l) {i j : Nat} (hj : j < l.length) (hij : i < j) : ltA l[i] l[j] = true := List.pairwise_iff_getElem.1 hs i j (by omega) hj hij
theorem BI.up {l : List AD} {a : AD} {lo hi h : Nat} (hs : Sorted ltA l) (hl : h < l.length) (hb : BI l a lo hi) (hc : ltA l[h] a = true) : BI l a (h + 1) hi :=
  ⟨fun t ht h2 => by
    by_cases e : t = h
    · subst e; exact hc
    · exact (ltA_ord fun _ => true).trans _ _ _ (sorted_lt hs hl (by omega)) hc, hb.2⟩
theorem BI.down {l : List AD} {a : AD} {lo hi h : Nat} (hs : Sorted ltA l) (hl : h < l.length) (hb : BI l a lo hi) (hc : ltA l[h] a = false) : BI l a lo h :=
  ⟨hb.1, fun t ht h2 => by
    by_cases e : t = h
    · subst e; exact hc
    · cases hh : ltA l[t] a with
      | false => rfl
      | true => rw [(ltA_ord fun _ => true).trans _ _ _ (sorted_lt hs ht (show h < t by omega)) hh] at hc; cases hc⟩
theorem BI.mem {l : List AD} {a : AD} {i : Nat} (hs : Sorted ltA l) (hb : BI l a i i) : a ∈ l ↔ ∃ h : i < l.length, l[i] = a := by
  constructor
  · intro h
    obtain ⟨t, ht, e⟩ := List.getElem_of_mem h
    have irr := (ltA_ord fun _ => true).irr a
    by_cases h1 : t < i
    · have := hb.1 t ht h1
      rw [e, irr] at this; cases this
    · by_cases h2 : t = i
      · subst h2; exact ⟨ht, e⟩
      · exfalso
        have h3 := sorted_lt hs ht (show i < t by omega)
        rw [e, hb.2 i (by omega) (Nat.le_refl _)] at h3; cases h3
  · rintro ⟨h, e⟩
    rw [← e]; exact List.getElem_mem h
theorem cmp_zero (a b : AD) : decide (cmpV a.1 b.1 a.2 b.2 = 0) = decide (a = b) := by
  obtain ⟨v, x⟩ := a
  obtain ⟨u, y⟩ := b
  unfold cmpV
  rw [Bool.eq_iff_iff, decide_eq_true_iff, decide_eq_true_iff, Prod.mk.injEq]
  rcases cb_three x y with ⟨h, e⟩ | ⟨h, e⟩ | ⟨h, e⟩
  · cases v <;> cases u <;> simp [h, e]
  · subst e; cases v <;> cases u <;> simp [h]
  · cases v <;> cases u <;> simp [h, e]
theorem scmp_any (a b : AD) (ha : adOk a) (hb : adOk b) (w : World) : Calls Try.prog 52 #[.agg (adC a).toArray, .agg (adC b).toArray] w fun e w' => e = .returned (.int .i64 (cmpV a.1 b.1 a.2 b.2)) ∧ Below w.heap.size w w' := cmp_any a.1 b.1 a.2 b.2 ha hb w

set_option maxRecDepth 100000 in
set_option maxHeartbeats 4000000 in
theorem bsearch_any (v : Value) (l : List AD) (a : AD) (w : World) (ha : Ads w v l) (hso : Sorted ltA l) (hll : l.length ≤ 1000000) (ho : adOk a) : Calls Try.prog 56 #[v, .agg (adC a).toArray, .func (.func 52) #[] #[]] w fun x w' => ∃ i : Int, x = .returned (.tuple #[.int .i64 i, .bool (decide (a ∈ l))]) ∧ Below w.heap.size w w' := by
  obtain ⟨q, cap, rfl, h1, h2⟩ := ha.len
  have HRA : Hid (l ≠ [] → ∃ b o, q = some ⟨b, o, none⟩ ∧ b < w.heap.size ∧ AdsAt w b o l) := Lib.hid fun hne => by
    obtain ⟨b, o, cap', e, _, _, h3, h4⟩ := ha.parts hne
    simp only [Value.slice.injEq] at e
    exact ⟨b, o, e.1, h3, h4⟩
  have OA := Lib.hid ha.ok
  have HSO := Lib.hid hso
  have HO := Lib.hid ho
  have H0 := Lib.hid (BW.made w a)
  obtain ⟨n, hn⟩ : ∃ n, n = l.length := ⟨_, rfl⟩
  have hmx : n ≤ 1000000 := by omega
  rw [← hn]
  have HN := Lib.hid hn
  have HI0 := Lib.hid (BI.start l a)
  rw [← hn] at HI0
  obtain ⟨R, hR⟩ : ∃ R, R = decide (a ∈ l) := ⟨_, rfl⟩
  rw [← hR]
  have HR := Lib.hid hR
  clear ha hn hso ho h1 h2 hR hll
  go_enter Try.func56, Try.ntmps56
  go_upto_region 1 with (fail)
  generalize w.alloc (.cells (adC a).toArray 37) = W at H0 ⊢
  go_wp2_with fail
  go_loopw [9, 10] (fun i j wr => ∃ lo hi : Nat, i = .int .i64 lo ∧ j = .int .i64 hi ∧ lo ≤ hi ∧ hi ≤ n ∧ Hid (BW w wr a) ∧ Hid (BI l a lo hi)) (fun i j _ => (intOf j).toNat - (intOf i).toNat)
  case atStart => exact ⟨0, n, rfl, rfl, by omega, by omega, H0, HI0⟩
  case round =>
    obtain ⟨lo, hi, rfl, rfl, g1, g2, HB, HI⟩ := hrel
    by_cases hlt : lo < hi
    · obtain ⟨h, hh⟩ : ∃ h, h = (lo + hi) / 2 := ⟨_, rfl⟩
      have g3 : h < n := by omega
      have g4 : h < l.length := by rw [← HN.out]; exact g3
      obtain ⟨b, o, rfl, hbl, RA⟩ := HRA.out (fun e => by rw [e] at g4; exact absurd g4 (by simp))
      have HK : Hid (∀ W, BW w W a → row? W b (o + h * 17) 17 = some (adC l[h]) ∧ row? W w.heap.size 0 17 = some (adC a) ∧ BW w W a) := Lib.hid fun W hW => ⟨row?_below (RA h g4) hbl hW.1, hW.row HO.out, hW⟩
      have HC := Lib.hid (fun W => scmp_any l[h] a (OA.out _ (List.getElem_mem g4)) HO.out W)
      have HLT := Lib.hid (cmp_lt l[h] a)
      have HUP := Lib.hid (fun hc => BI.up HSO.out g4 HI.out hc)
      have HDN := Lib.hid (fun hc => BI.down HSO.out g4 HI.out hc)
      have hd : decide ((lo : Int) < (hi : Int)) = true := decide_eq_true (by omega)
      have hk1 : (lo : Int) < (hi : Int) := by omega
      generalize cmpV l[h].1 a.1 l[h].2 a.2 = z at HC HLT
      generalize ltA l[h] a = y at HLT HUP HDN
      generalize adC l[h] = X at HC HK
      generalize adC a = A at HC HK
      have hix : (0 : Int) ≤ ((lo : Int) + (hi : Int)) / 2 ∧ ((lo : Int) + (hi : Int)) / 2 < (n : Int) := by omega
      have htn : (((lo : Int) + (hi : Int)) / 2).toNat = (lo + hi) / 2 := by omega
      have HHH := Lib.hid hh
      rw [hh] at HK
      clear hh
      clear RA hbl g4
      cases y with
      | true =>
        have hz : decide (z < 0) = true := HLT.out
        go_upto_region 5 with (fail)
        go_region_held3 (fun W => row? W b (o + (lo + hi) / 2 * 17) 17 = some X ∧ row? W w.heap.size 0 17 = some A ∧ BW w W a) (first | assumption | exact HK.out _ HB.out | exact HK.out _ (HB.out.drewN 1)) ((go_at_call 52; (with_reducible refine (HC.out _).mono ?_); rintro x w1 ⟨rfl, hb1⟩; have hk := HK.out _ (BW.below (And.right (And.right (by assumption))) hb1); clear hb1))
        have H1 := Lib.hid hk.2.2
        clear hk
        go_wp2
        go_roundw
        case rel => have hh := HHH.out; exact ⟨h + 1, hi, by rw [show ((lo : Int) + (hi : Int)) / 2 + 1 = ((h + 1 : Nat) : Int) by omega], rfl, by omega, g2, H1, Lib.hid (HUP.out trivial)⟩
        case measure => simp [intOf]; omega
      | false =>
        have hz : decide (z < 0) = false := HLT.out
        go_upto_region 5 with (fail)
        go_region_held3 (fun W => row? W b (o + (lo + hi) / 2 * 17) 17 = some X ∧ row? W w.heap.size 0 17 = some A ∧ BW w W a) (first | assumption | exact HK.out _ HB.out | exact HK.out _ (HB.out.drewN 1)) ((go_at_call 52; (with_reducible refine (HC.out _).mono ?_); rintro x w1 ⟨rfl, hb1⟩; have hk := HK.out _ (BW.below (And.right (And.right (by assumption))) hb1); clear hb1))
        have H1 := Lib.hid hk.2.2
        clear hk
        go_wp2
        go_roundw
        case rel => have hh := HHH.out; exact ⟨lo, h, rfl, by rw [show ((lo : Int) + (hi : Int)) / 2 = ((h : Nat) : Int) by omega], by omega, by omega, H1, Lib.hid (HDN.out trivial)⟩
        case measure => simp [intOf]; omega
    · have hlh : lo = hi := by omega
      subst hlh
      have HM := Lib.hid (BI.mem HSO.out HI.out)
      have hd : decide ((lo : Int) < (lo : Int)) = false := by simp
      by_cases hn : lo < n
      · have g4 : lo < l.length := by rw [← HN.out]; exact hn
        obtain ⟨b, o, rfl, hbl, RA⟩ := HRA.out (fun e => by rw [e] at g4; exact absurd g4 (by simp))
        have HK : Hid (∀ W, BW w W a → row? W b (o + lo * 17) 17 = some (adC l[lo]) ∧ row? W w.heap.size 0 17 = some (adC a) ∧ BW w W a) := Lib.hid fun W hW => ⟨row?_below (RA lo g4) hbl hW.1, hW.row HO.out, hW⟩
        have HC := Lib.hid (fun W => scmp_any l[lo] a (OA.out _ (List.getElem_mem g4)) HO.out W)
        have HZ := Lib.hid (cmp_zero l[lo] a)
        have HMM : Hid (R = decide (l[lo] = a)) := Lib.hid (by
          rw [HR.out, Bool.eq_iff_iff, decide_eq_true_iff, decide_eq_true_iff, HM.out]
          exact ⟨fun ⟨_, e⟩ => e, fun e => ⟨g4, e⟩⟩)
        have hd2 : decide ((lo : Int) < (n : Int)) = true := decide_eq_true (by omega)
        have hk1 : (lo : Int) < (n : Int) := by omega
        generalize cmpV l[lo].1 a.1 l[lo].2 a.2 = z at HC HZ
        generalize decide (l[lo] = a) = y at HZ HMM
        generalize adC l[lo] = X at HC HK
        generalize adC a = A at HC HK
        clear RA hbl g4
        have hz : (z == 0) = y := HZ.out
        go_upto_region 8 with (fail)
        go_region_held3 (fun W => row? W b (o + lo * 17) 17 = some X ∧ row? W w.heap.size 0 17 = some A ∧ BW w W a) (first | assumption | exact HK.out _ HB.out | exact HK.out _ (HB.out.drewN 1)) ((go_at_call 52; (with_reducible refine (HC.out _).mono ?_); rintro x w1 ⟨rfl, hb1⟩; have hk := HK.out _ (BW.below (And.right (And.right (by assumption))) hb1); clear hb1))
        have H1 := Lib.hid hk.2.2
        clear hk
        go_wp2
        go_ret2
        exact ⟨lo, by rw [HMM.out]; rfl, H1.out.1⟩
      · have hd2 : decide ((lo : Int) < (n : Int)) = false := decide_eq_false (by omega)
        have HV : Hid (R = false) := Lib.hid (by
          rw [HR.out]
          exact decide_eq_false (fun h => by obtain ⟨h1, _⟩ := HM.out.1 h; rw [← HN.out] at h1; exact hn h1))
        clear HM HRA HSO
        go_upto_region 8 with (fail)
        go_quiet (fail)
        go_wp2
        go_ret2
        exact ⟨lo, by rw [HV.out]; rfl, bdrewN HB.out.1 _⟩

set_option maxRecDepth 100000 in
theorem shas_any (v : Value) (l : List AD) (a : AD) (w : World) (ha : Ads w v l) (hso : Sorted ltA l) (hll : l.length ≤ 1000000) (ho : adOk a) : Calls Try.prog 44 #[v, .agg (adC a).toArray] w fun x w' => x = .returned (.bool (decide (a ∈ l))) ∧ Below w.heap.size w w' := by
  have HC := Lib.hid (fun W (h : BW w W a) => bsearch_any v l a W (ha.below h.1) hso hll ho)
  have H0 := Lib.hid (BW.made w a)
  have HK : Hid (∀ W, BW w W a → row? W w.heap.size 0 17 = some (adC a)) := Lib.hid fun W h => h.row ho
  obtain ⟨q, cap, rfl, h1, h2⟩ := ha.len
  clear ha hso ho h1 h2
  generalize decide (a ∈ l) = R at HC ⊢
  go_enter Try.func44, Try.ntmps44
  go_upto_region 1 with (fail)
  generalize w.alloc (.cells (adC a).toArray 37) = W at H0 ⊢
  have r0 := HK.out _ H0.out
  go_wp2_with (go_at_call 56; (with_reducible refine (HC.out _ H0.out).mono ?_); rintro x w1 ⟨i, rfl, hb1⟩; have H1 := Lib.hid (bstep H0.out.1 hb1); clear hb1)
  go_ret
  exact ⟨rfl, H1.out⟩

/-- A slice boxed by the call, and what lay before. -/
def SBx (w W : World) (v : Value) : Prop := Below w.heap.size w W ∧ W.cell? ⟨w.heap.size, 0, none⟩ = some v
theorem SBx.below {w W W' : World} {v : Value} (h : SBx w W v) (hb : Below W.heap.size W W') : SBx w W' v := ⟨bstep h.1 hb, (hb.cell (p := ⟨w.heap.size, 0, none⟩) (cell_in h.2)).trans h.2⟩
theorem SBx.made (w : World) (v : Value) : SBx w (w.alloc (.cells #[v] 22)) v := ⟨bbS w _, (ObjAt.made w #[v] _).cell 0⟩
set_option maxRecDepth 100000 in
theorem sand1_any (v : Value) (l : List AD) (a : AD) (B : Nat) (w : World) (ha : Ads w v l) (hc : w.cell? ⟨B, 0, none⟩ = some v) (hso : Sorted ltA l) (hll : l.length ≤ 1000000) (ho : adOk a) : Calls Try.prog 53 #[.agg (adC a).toArray, .pointer (some ⟨B, 0, none⟩)] w fun x w' => x = .returned (.bool (decide (a ∈ l))) ∧ Below w.heap.size w w' := by
  have HC := Lib.hid (fun W (h : BW w W a) => shas_any v l a W (ha.below h.1) hso hll ho)
  have H0 := Lib.hid (BW.made w a)
  have HK : Hid (∀ W, BW w W a → row? W w.heap.size 0 17 = some (adC a) ∧ W.cell? ⟨B, 0, none⟩ = some v) := Lib.hid fun W h => ⟨h.row ho, (h.1.cell (p := ⟨B, 0, none⟩) (cell_in hc)).trans hc⟩
  obtain ⟨q, cap, rfl, h1, h2⟩ := ha.len
  clear ha hso ho h1 h2 hc
  generalize decide (a ∈ l) = R at HC ⊢
  go_enter Try.func53, Try.ntmps53
  go_upto_region 1 with (fail)
  generalize w.alloc (.cells (adC a).toArray 37) = W at H0 ⊢
  obtain ⟨r0, c0⟩ := HK.out _ H0.out
  go_wp2_with (go_at_call 44; (with_reducible refine (HC.out _ H0.out).mono ?_); rintro x w1 ⟨rfl, hb1⟩; have H1 := Lib.hid (bstep H0.out.1 hb1); clear hb1)
  go_ret
  exact ⟨rfl, H1.out⟩
set_option maxRecDepth 100000 in
theorem sminus1_any (v : Value) (l : List AD) (a : AD) (B : Nat) (w : World) (ha : Ads w v l) (hc : w.cell? ⟨B, 0, none⟩ = some v) (hso : Sorted ltA l) (hll : l.length ≤ 1000000) (ho : adOk a) : Calls Try.prog 54 #[.agg (adC a).toArray, .pointer (some ⟨B, 0, none⟩)] w fun x w' => x = .returned (.bool (!decide (a ∈ l))) ∧ Below w.heap.size w w' := by
  have HC := Lib.hid (fun W (h : BW w W a) => shas_any v l a W (ha.below h.1) hso hll ho)
  have H0 := Lib.hid (BW.made w a)
  have HK : Hid (∀ W, BW w W a → row? W w.heap.size 0 17 = some (adC a) ∧ W.cell? ⟨B, 0, none⟩ = some v) := Lib.hid fun W h => ⟨h.row ho, (h.1.cell (p := ⟨B, 0, none⟩) (cell_in hc)).trans hc⟩
  obtain ⟨q, cap, rfl, h1, h2⟩ := ha.len
  clear ha hso ho h1 h2 hc
  generalize decide (a ∈ l) = R at HC ⊢
  go_enter Try.func54, Try.ntmps54
  go_upto_region 1 with (fail)
  generalize w.alloc (.cells (adC a).toArray 37) = W at H0 ⊢
  obtain ⟨r0, c0⟩ := HK.out _ H0.out
  go_wp2_with (go_at_call 44; (with_reducible refine (HC.out _ H0.out).mono ?_); rintro x w1 ⟨rfl, hb1⟩; have H1 := Lib.hid (bstep H0.out.1 hb1); clear hb1)
  go_ret
  exact ⟨rfl, H1.out⟩
theorem sand_any (v u : Value) (l m : List AD) (w : World) (ha : Ads w v l) (hb : Ads w u m) (hso : Sorted ltA m) (h1 : l.length ≤ 100000) (h2 : m.length ≤ 100000) : Calls Try.prog 36 #[v, u] w fun x w' => ∃ v', x = .returned v' ∧ Below w.heap.size w w' ∧ OwnL w' w.heap.size v' (pickA l m true) := by
  have H0 := Lib.hid (SBx.made w u)
  have HB : Hid (∀ W, SBx w W u → Ads W v l ∧ Ads W u m) := Lib.hid fun W h => ⟨ha.below h.1, hb.below h.1⟩
  have HP : Hid (∀ W, SBx w W u → Calls Try.prog 47 #[v, .func (.func 53) #[] #[.pointer (some ⟨w.heap.size, 0, none⟩)]] W fun x w' => ∃ v', x = .returned v' ∧ Below W.heap.size W w' ∧ OwnL w' W.heap.size v' (pickA l m true)) := Lib.hid fun W h => by
    have hp : pickA l m true = l.filter (fun a => decide (a ∈ m)) := List.filter_congr (fun x _ => by cases decide (x ∈ m) <;> rfl)
    rw [hp]
    exact spick_and w.heap.size v l _ W (HB.out W h).1 (fun W' a hW' hm => sand1_any u m a w.heap.size W' ((HB.out W h).2.below hW') ((hW'.cell (p := ⟨w.heap.size, 0, none⟩) (cell_in h.2)).trans h.2) hso (by omega) (ha.ok a hm)) h1
  obtain ⟨q, cap, rfl, _, _⟩ := ha.len
  obtain ⟨q', cap', rfl, _, _⟩ := hb.len
  clear ha hb hso HB
  generalize pickA l m true = X at HP ⊢
  go_enter Try.func36, Try.ntmps36
  go_upto_region 1 with (fail)
  generalize w.alloc _ = W at H0 ⊢
  go_wp2_with (go_at_call 47; (with_reducible refine (HP.out _ H0.out).mono ?_); rintro x w1 ⟨v', rfl, hb1, ho1⟩; have H1 := Lib.hid (bstep H0.out.1 hb1); have HO1 := Lib.hid (own_mono ho1 H0.out.1.size); clear hb1 ho1)
  go_ret
  exact ⟨_, rfl, H1.out, HO1.out⟩
theorem sminus_any (v u : Value) (l m : List AD) (w : World) (ha : Ads w v l) (hb : Ads w u m) (hso : Sorted ltA m) (h1 : l.length ≤ 100000) (h2 : m.length ≤ 100000) : Calls Try.prog 38 #[v, u] w fun x w' => ∃ v', x = .returned v' ∧ Below w.heap.size w w' ∧ OwnL w' w.heap.size v' (pickA l m false) := by
  have H0 := Lib.hid (SBx.made w u)
  have HB : Hid (∀ W, SBx w W u → Ads W v l ∧ Ads W u m) := Lib.hid fun W h => ⟨ha.below h.1, hb.below h.1⟩
  have HP : Hid (∀ W, SBx w W u → Calls Try.prog 47 #[v, .func (.func 54) #[] #[.pointer (some ⟨w.heap.size, 0, none⟩)]] W fun x w' => ∃ v', x = .returned v' ∧ Below W.heap.size W w' ∧ OwnL w' W.heap.size v' (pickA l m false)) := Lib.hid fun W h => by
    have hp : pickA l m false = l.filter (fun a => !decide (a ∈ m)) := List.filter_congr (fun x _ => by cases decide (x ∈ m) <;> rfl)
    rw [hp]
    exact spick_minus w.heap.size v l _ W (HB.out W h).1 (fun W' a hW' hm => sminus1_any u m a w.heap.size W' ((HB.out W h).2.below hW') ((hW'.cell (p := ⟨w.heap.size, 0, none⟩) (cell_in h.2)).trans h.2) hso (by omega) (ha.ok a hm)) h1
  obtain ⟨q, cap, rfl, _, _⟩ := ha.len
  obtain ⟨q', cap', rfl, _, _⟩ := hb.len
  clear ha hb hso HB
  generalize pickA l m false = X at HP ⊢
  go_enter Try.func38, Try.ntmps38
  go_upto_region 1 with (fail)
  generalize w.alloc _ = W at H0 ⊢
  go_wp2_with (go_at_call 47; (with_reducible refine (HP.out _ H0.out).mono ?_); rintro x w1 ⟨v', rfl, hb1, ho1⟩; have H1 := Lib.hid (bstep H0.out.1 hb1); have HO1 := Lib.hid (own_mono ho1 H0.out.1.size); clear hb1 ho1)
  go_ret
  exact ⟨_, rfl, H1.out, HO1.out⟩
end Go.Proofs.Ytokpogoblnhihaa
