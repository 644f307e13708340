/-
  Texts joined: SeG, SeI, Env.
-/
import Derived.Test.YtalnfjnfcloonaaDoorMg24
import Derived.Test.YtalnfjnfcloonaaDoorSeF
import Derived.Test.YtalnfjnfcloonaaDoorMg22
import Derived.Deep.LoopGhost
import Derived.Test.YtalnfjnfcloonaaDoorMg05
import Derived.Lib.AppendIntMem
import Derived.Shelf.Spec.TrailingZeros
/-
  The contracts of srcs' tidy and Of.
-/
namespace Go.Proofs.YtalnfjnfcloonaaDoor
open Go.RowKit
set_option linter.unusedVariables false
set_option linter.unusedSimpArgs false

theorem OwnL.len {w : World} {base : Nat} {v : Value} {l : List AD} (h : OwnL w base v l) : ∃ p cap, v = .slice p l.length cap := by
  obtain ⟨h1, ⟨h2, h3⟩ | ⟨g', cap', cur, e1, e2, e3, e4, e5, e6, e7⟩⟩ := h
  · rw [h3]; exact ⟨_, _, h2⟩
  · exact ⟨_, _, e1⟩
set_option maxRecDepth 100000 in
theorem tidy_any (base : Nat) (v : Value) (l : List AD) (w : World) (hb : base ≤ w.heap.size) (hok : ∀ a ∈ l, adOk a) (hown : OwnL w base v l) (hll : l.length ≤ 1000000) : Calls Tryd.prog 21 #[v] w fun x w' => ∃ v' s, x = .returned v' ∧ s.Perm l ∧ s.Pairwise (fun x y => ltA y x = false) ∧ OwnL w' base v' (ded s) ∧ Below base w w' := by
  have HS := Lib.hid (sort_any base v l w hok hown hll)
  have HB := Lib.hid hb
  have HGE := Lib.hid (own_geS hown)
  have HOK := Lib.hid hok
  have HLL := Lib.hid hll
  obtain ⟨p, cap, rfl⟩ := hown.len
  clear hok hown hll hb
  go_enter Tryd.func21, Tryd.ntmps21
  go_wp2_with (first
    | (go_at_call 36; (with_reducible refine (HS.out).mono ?_); rintro x w1 ⟨rfl, s, hp, hs, ho, hg⟩; have HP := Lib.hid hp; have HSO := Lib.hid hs; have H1 := Lib.hid ((Below.refl base w).grown hg HB.out (fun k hk => (HGE.out k hk).1)); have HC := Lib.hid (compact_any base _ s w1 (fun a ha => HOK.out a (hp.mem_iff.1 ha)) ho (by rw [hp.length_eq]; exact HLL.out)); clear hp hs ho hg)
    | (go_at_call 37; (with_reducible refine (HC.out).mono ?_); rintro x w2 ⟨v', rfl, ho, hb⟩; have HO := Lib.hid ho; have H2 := Lib.hid (H1.out.trans hb); clear ho hb))
  go_ret
  exact ⟨_, _, rfl, HP.out, HSO.out, HO.out, H2.out⟩
set_option maxRecDepth 100000 in
theorem sof_any (v : Value) (l : List AD) (w : World) (ha : Ads w v l) (hll : l.length ≤ 100000) : Calls Tryd.prog 7 #[v] w fun x w' => ∃ v', x = .returned v' ∧ Below w.heap.size w w' ∧ OwnL w' w.heap.size v' (ofA l) := by
  have HP := Lib.hid (spick_good v l goodB w ha (fun W a _ hm => good_any a.1 a.2 (ha.ok a hm) W) hll)
  have HOK := Lib.hid ha.ok
  have HLL := Lib.hid hll
  obtain ⟨p, cap, rfl, _, _⟩ := ha.len
  clear ha hll
  go_enter Tryd.func7, Tryd.ntmps7
  go_wp2_with (first
    | (go_at_call 22; (with_reducible refine (HP.out).mono ?_); rintro x w1 ⟨v1, rfl, hb, ho⟩; have H1 := Lib.hid hb; have HT := Lib.hid (tidy_any w.heap.size v1 (l.filter goodB) w1 hb.size (fun a ha => HOK.out a (List.mem_filter.1 ha).1) ho (Nat.le_trans (List.length_filter_le _ _) (Nat.le_trans HLL.out (by omega)))); clear hb ho)
    | (go_at_call 21; (with_reducible refine (HT.out).mono ?_); rintro x w2 ⟨v2, s, rfl, hp, hs, ho, hb⟩; have HO := Lib.hid ho; have HPM := Lib.hid hp; have HSO := Lib.hid hs; have H2 := Lib.hid (H1.out.trans hb); clear ho hb hp hs))
  go_ret
  refine ⟨_, rfl, H2.out, ?_⟩
  have e : ded s = ofA l := ded_ofS (fun g => ltA_ord g) HPM.out HSO.out (fun x => by rw [List.mem_filter])
  rw [← e]
  exact HO.out
end Go.Proofs.YtalnfjnfcloonaaDoor

/-
  The contracts of srcs' pick and of slices.IndexFunc and slices.ContainsFunc over addresses, whatever function value they are given.
-/
namespace Go.Proofs.YtalnfjnfcloonaaDoor
open Go.RowKit
set_option linter.unusedVariables false
set_option linter.unusedSimpArgs false
attribute [local go_sem ↓] ld_addr st_addr adsLit_eq
attribute [local go_sem] ldr_addr str_addr row?_drewN_eq row?_drew_eq

theorem any_take_succ {l : List AD} {k : Nat} (p : AD → Bool) (h : k < l.length) : (l.take (k + 1)).any p = ((l.take k).any p || p l[k]) := by
  rw [List.take_succ_eq_append_getElem h, List.any_append]; simp
set_option maxRecDepth 100000 in
set_option maxHeartbeats 2000000 in
/-- Where the first one stands of which it says yes, or -1. -/
theorem sindex_within (B : Nat) (v : Value) (l : List AD) (p : AD → Bool) (w : World) (ha : Ads w v l) (hs : ∀ (W : World) (a : AD), Below w.heap.size w W → a ∈ l → Calls Tryd.prog 33 #[.agg (adC a).toArray, .pointer (some ⟨B, 0, none⟩)] W fun x w' => x = .returned (.bool (p a)) ∧ Below W.heap.size W w') : Calls Tryd.prog 44 #[v, .func (.func 33) #[] #[.pointer (some ⟨B, 0, none⟩)]] w fun x w' => ∃ i : Int, x = .returned (.int .i64 i) ∧ decide (0 ≤ i) = l.any p ∧ Below w.heap.size w w' := by
  obtain ⟨q, cap, rfl, h1, h2⟩ := ha.len
  have HRA : Hid (l ≠ [] → ∃ b o, q = some ⟨b, o, none⟩ ∧ b < w.heap.size ∧ AdsAt w b o l) := Lib.hid fun hne => by
    obtain ⟨b, o, cap', e, _, _, h3, h4⟩ := ha.parts hne
    simp only [Value.slice.injEq] at e
    exact ⟨b, o, e.1, h3, h4⟩
  have HSY := Lib.hid hs
  obtain ⟨n, hn⟩ : ∃ n, n = l.length := ⟨_, rfl⟩
  have hmx : n ≤ maxLen := by omega
  unfold maxLen at hmx
  rw [← hn]
  have HN := Lib.hid hn
  clear ha hn h1 h2 hs
  go_enter Tryd.func44, Tryd.ntmps44
  go_wp2_with fail
  go_loopw [8] (fun i wr => ∃ k : Nat, k ≤ n ∧ i = .int .i64 k ∧ Hid ((l.take k).any p = false) ∧ Hid (Below w.heap.size w wr)) (fun i _ => n - (intOf i).toNat)
  case atStart => exact ⟨0, by omega, rfl, Lib.hid (by simp), Lib.hid (Below.refl _ _)⟩
  case round =>
    obtain ⟨k, hk, rfl, HT, HB⟩ := hrel
    by_cases hlt : k < n
    · have g1 : k < l.length := by rw [← HN.out]; exact hlt
      obtain ⟨b, o, rfl, hbl, RA⟩ := HRA.out (fun e => by rw [e] at g1; exact absurd g1 (by simp))
      have r1 := row?_below (RA k g1) hbl HB.out
      have HG := Lib.hid (HSY.out wr _ HB.out (List.getElem_mem g1))
      have HS := Lib.hid (any_take_succ p g1)
      have HF : Hid (p l[k] = true → l.any p = true) := Lib.hid fun h => List.any_eq_true.2 ⟨_, List.getElem_mem g1, h⟩
      have hd : decide ((k : Int) < (n : Int)) = true := by simp; omega
      have hk1 : (k : Int) < (n : Int) := by omega
      have hw1 : IntKind.i64.wrap ((k : Int) + 1) = (k : Int) + 1 := by simp only [IntKind.wrap_i64]; omega
      generalize p l[k] = y at HG HS HF
      generalize adC l[k] = A at r1 HG
      clear g1 RA hbl
      cases y with
      | true =>
        have HV := Lib.hid (HF.out rfl)
        go_wp2_with (go_at_call 33; (with_reducible refine HG.out.mono ?_); rintro x w1 ⟨rfl, hb1⟩; have H1 := Lib.hid (bstep HB.out hb1); clear hb1)
        go_ret
        exact ⟨k, rfl, by rw [HV.out]; simp, H1.out⟩
      | false =>
        have HV := Lib.hid (show (l.take (k + 1)).any p = false by rw [HS.out, HT.out]; rfl)
        go_wp2_with (go_at_call 33; (with_reducible refine HG.out.mono ?_); rintro x w1 ⟨rfl, hb1⟩; have H1 := Lib.hid (bstep HB.out hb1); clear hb1)
        go_roundw
        case rel => exact ⟨k + 1, by omega, by go_num, HV, H1⟩
        case measure => simp [intOf]; omega
    · have hd : ¬ (k : Int) < (n : Int) := by omega
      have HV := Lib.hid (show l.any p = false by
        have e := HT.out
        rw [List.take_of_length_le (by rw [← HN.out]; omega)] at e
        exact e)
      go_wp2
      go_ret
      exact ⟨-1, rfl, by rw [HV.out]; rfl, HB.out⟩
theorem scontains_within (B : Nat) (v : Value) (l : List AD) (p : AD → Bool) (w : World) (ha : Ads w v l) (hs : ∀ (W : World) (a : AD), Below w.heap.size w W → a ∈ l → Calls Tryd.prog 33 #[.agg (adC a).toArray, .pointer (some ⟨B, 0, none⟩)] W fun x w' => x = .returned (.bool (p a)) ∧ Below W.heap.size W w') : Calls Tryd.prog 32 #[v, .func (.func 33) #[] #[.pointer (some ⟨B, 0, none⟩)]] w fun x w' => x = .returned (.bool (l.any p)) ∧ Below w.heap.size w w' := by
  have HC := Lib.hid (sindex_within B v l p w ha hs)
  obtain ⟨q, cap, rfl, h1, h2⟩ := ha.len
  clear ha hs
  generalize l.any p = R at *
  go_enter Tryd.func32, Tryd.ntmps32
  go_wp2_with (go_at_call 44; refine HC.out.mono ?_; rintro x w1 ⟨i, rfl, hi, hb1⟩; have HB := Lib.hid hb1; clear hb1)
  go_ret
  exact ⟨ret_bool8 (by rw [← hi]), HB.out⟩
end Go.Proofs.YtalnfjnfcloonaaDoor

/-
  What the library's tables and variables hold, carried along.
-/
namespace Go.Proofs.YtalnfjnfcloonaaDoor
open Go.RowKit
set_option linter.unusedVariables false

/-- What is held, without the errors of strconv. -/
structure Env (w : World) : Prop where
  ml : ∃ m : Int, w.cell? ⟨0, 0, none⟩ = some (.int .i64 m)
  tab : Lib.TabIs Tryd.prog w "internal/strconv.uint64pow10" .u64 Lib.pow10Tab
  db : ∀ j, j < Lib.deBruijn64tab.length → w.cell? ⟨3, j, none⟩ = some (.int .u8 (Lib.deBruijn64tab.getD j 0))
theorem cell_in {w : World} {b o : Nat} {v : Value} (h : w.cell? ⟨b, o, none⟩ = some v) : b < w.heap.size := by
  by_cases hlt : b < w.heap.size
  · exact hlt
  · rw [World.cell?, Array.getElem?_eq_none (by simpa using hlt)] at h
    simp at h
/-- It stays. -/
theorem Env.below {w w' : World} (h : Env w) (hb : Below w.heap.size w w') : Env w' := by
  obtain ⟨⟨m, h1⟩, h2, h3⟩ := h
  refine ⟨⟨m, ?_⟩, Lib.tabBelow_of_tabIs h2 w' hb, fun j hj => ?_⟩
  · rw [hb.cell (p := ⟨_, _, none⟩) (cell_in h1)]; exact h1
  · rw [hb.cell (p := ⟨_, _, none⟩) (cell_in (h3 j hj))]; exact h3 j hj
/-- For a world that grew out of an elder one. -/
theorem Env.to {w W w' : World} (h : Env w) (hb : Below w.heap.size w W) : Env W := h.below hb
end Go.Proofs.YtalnfjnfcloonaaDoor

