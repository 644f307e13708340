/-
  The contracts of srcs' pick and of slices.IndexFunc and slices.ContainsFunc over addresses, whatever function value they are given.
-/
import Derived.Test.YtokpogoblnhihaaMg22
import Derived.Deep.LoopGhost
namespace Go.Proofs.Ytokpogoblnhihaa
open Go.RowKit
set_option linter.unusedVariables false
set_option linter.unusedSimpArgs false
attribute [local go_sem ↓] ld_addr st_addr adsLit_eq
attribute [local go_sem] ldr_addr str_addr row?_drewN_eq row?_drew_eq

set_option maxRecDepth 100000 in
set_option maxHeartbeats 4000000 in
theorem spick_good (v : Value) (l : List AD) (p : AD → Bool) (w : World) (ha : Ads w v l) (hs : ∀ (W : World) (a : AD), Below w.heap.size w W → a ∈ l → Calls Try.prog 48 #[.agg (adC a).toArray] W fun x w' => x = .returned (.bool (p a)) ∧ Below W.heap.size W w') (hll : l.length ≤ 100000) : Calls Try.prog 47 #[v, .func (.func 48) #[] #[]] w fun x w' => ∃ v', x = .returned v' ∧ Below w.heap.size w w' ∧ OwnL w' w.heap.size v' (l.filter p) := by
  obtain ⟨q, cap, rfl, h1, h2⟩ := ha.len
  have HRA : Hid (l ≠ [] → ∃ b o, q = some ⟨b, o, none⟩ ∧ b < w.heap.size ∧ AdsAt w b o l) := Lib.hid fun hne => by
    obtain ⟨b, o, cap', e, _, _, h3, h4⟩ := ha.parts hne
    simp only [Value.slice.injEq] at e
    exact ⟨b, o, e.1, h3, h4⟩
  have OA := Lib.hid ha.ok
  have HSY := Lib.hid hs
  obtain ⟨n, hn⟩ : ∃ n, n = l.length := ⟨_, rfl⟩
  have hmx : n ≤ 100000 := by omega
  rw [← hn]
  have HN := Lib.hid hn
  have HNL := Lib.hid hmx
  clear ha hn h1 h2 hll hs
  go_enter Try.func47, Try.ntmps47
  go_wp2_with fail
  go_loopw [5, 10] (fun u i wr => ∃ k : Nat, k ≤ n ∧ i = .int .i64 k ∧ Hid (OwnL wr w.heap.size u ((l.take k).filter p)) ∧ Hid (Below w.heap.size w wr)) (fun _ i _ => n - (intOf i).toNat)
  case atStart => exact ⟨0, by omega, rfl, Lib.hid (World.ownsRow_nil _ _ _ _), Lib.hid (Below.refl _ _)⟩
  case round =>
    obtain ⟨k, hk, rfl, HO, HB⟩ := hrel
    by_cases hlt : k < n
    · have g1 : k < l.length := by rw [← HN.out]; exact hlt
      obtain ⟨b, o, rfl, hbl, RA⟩ := HRA.out (fun e => by rw [e] at g1; exact absurd g1 (by simp))
      have r1 := row?_below (RA k g1) hbl HB.out
      have hd : decide ((k : Int) < (n : Int)) = true := by simp; omega
      have hw1 : IntKind.i64.wrap ((k : Int) + 1) = (k : Int) + 1 := by simp only [IntKind.wrap_i64]; omega
      have hk1 : (k : Int) < (n : Int) := by omega
      have HS := Lib.hid (filter_succ p g1)
      have HMEM := Lib.hid (List.getElem_mem g1)
      have hoc := OA.out _ (List.getElem_mem g1)
      have HFL : Hid (((l.take k).filter p).length ≤ 100000) := Lib.hid (Nat.le_trans (List.length_filter_le _ _) (by rw [List.length_take]; have := HNL.out; omega))
      have HFO : Hid (∀ a ∈ (l.take k).filter p, adOk a) := Lib.hid (fun x hx => OA.out x (List.mem_of_mem_take (List.mem_filter.1 hx).1))
      generalize l[k] = c at r1 HS hoc HMEM
      have hocc := Lib.hid hoc
      have hfm := free_made wr #[.bool false, .int .u8 0, .int .u8 0, .int .u8 0, .int .u8 0, .int .u8 0, .int .u8 0, .int .u8 0, .int .u8 0, .int .u8 0, .int .u8 0, .int .u8 0, .int .u8 0, .int .u8 0, .int .u8 0, .int .u8 0, .int .u8 0] 37 17 (by decide)
      have hfok : fok (adC c).toArray 17 = true := fok_addr c.1 c.2 hoc
      have HBX := Lib.hid (box_put wr c hoc)
      have hlit := adsLit_run c hoc
      have HCA := Lib.hid (fun W (h : Below w.heap.size w W) => HSY.out W c h HMEM.out)
      clear g1 RA hbl hoc
      go_upto_region 5 with (fail)
      generalize aggW (wr.alloc _) wr.heap.size _ = W1 at HBX ⊢
      have HB1 := Lib.hid (bstep HB.out HBX.out.2)
      have HO1 := Lib.hid (OwnL.below HO.out HBX.out.2)
      have HX1 := Lib.hid HBX.out.1
      have r2 := box_row HX1.out hocc.out
      clear hfm hfok r1 HBX
      cases hpc : p c with
      | true =>
        rw [hpc] at HS HCA
        go_wp2_with (first
          | (go_at_call 48; (with_reducible refine (HCA.out _ HB1.out).mono ?_); rintro x w2 ⟨rfl, hb⟩; have H2 := Lib.hid (bstep HB1.out hb); have HO2 := Lib.hid (OwnL.below HO1.out hb); have HX2 := Lib.hid (HX1.out.below hb HX1.out.lt); clear hb r2; have r3 := box_row HX2.out hocc.out)
          | (at_builtin; refine wpList_app rfl _ _ rfl w.heap.size _ ((l.take k).filter p) [c] _ rfl HFO.out (OwnL.below HO2.out (bbS _ _)) rfl (src_one (ObjAt.made _ _ _) hocc.out) (by have := HFL.out; simp only [List.length_cons, List.length_nil]; omega) (Nat.le_trans H2.out.size (by simp)) ?_; intro v' w3 hown' hgrow'; have HO3 := Lib.hid hown'; have H3 := Lib.hid (bgrown (bstep H2.out (bbS _ _)) hgrow' (fun q hq => (own_geS HO2.out q hq).1)); clear hown' hgrow'))
        go_roundw
        case rel => exact ⟨k + 1, by omega, by go_num, Lib.hid (by rw [HS.out, if_pos trivial]; exact HO3.out), H3⟩
        case measure => simp [intOf]; omega
      | false =>
        rw [hpc] at HS HCA
        go_wp2_with (go_at_call 48; (with_reducible refine (HCA.out _ HB1.out).mono ?_); rintro x w2 ⟨rfl, hb⟩; have H2 := Lib.hid (bstep HB1.out hb); have HO2 := Lib.hid (OwnL.below HO1.out hb); clear hb r2)
        go_roundw
        case rel => exact ⟨k + 1, by omega, by go_num, Lib.hid (by rw [HS.out]; simpa using HO2.out), H2⟩
        case measure => simp [intOf]; omega
    · have hd : ¬ (k : Int) < (n : Int) := by omega
      have HD := Lib.hid (show l.take k = l from List.take_of_length_le (by rw [← HN.out]; omega))
      clear hlt
      go_wp2
      go_ret
      exact ⟨_, rfl, HB.out, by have := HO.out; rw [HD.out] at this; exact this⟩

set_option maxRecDepth 100000 in
set_option maxHeartbeats 4000000 in
theorem spick_and (B : Nat) (v : Value) (l : List AD) (p : AD → Bool) (w : World) (ha : Ads w v l) (hs : ∀ (W : World) (a : AD), Below w.heap.size w W → a ∈ l → Calls Try.prog 53 #[.agg (adC a).toArray, .pointer (some ⟨B, 0, none⟩)] W fun x w' => x = .returned (.bool (p a)) ∧ Below W.heap.size W w') (hll : l.length ≤ 100000) : Calls Try.prog 47 #[v, .func (.func 53) #[] #[.pointer (some ⟨B, 0, none⟩)]] w fun x w' => ∃ v', x = .returned v' ∧ Below w.heap.size w w' ∧ OwnL w' w.heap.size v' (l.filter p) := by
  obtain ⟨q, cap, rfl, h1, h2⟩ := ha.len
  have HRA : Hid (l ≠ [] → ∃ b o, q = some ⟨b, o, none⟩ ∧ b < w.heap.size ∧ AdsAt w b o l) := Lib.hid fun hne => by
    obtain ⟨b, o, cap', e, _, _, h3, h4⟩ := ha.parts hne
    simp only [Value.slice.injEq] at e
    exact ⟨b, o, e.1, h3, h4⟩
  have OA := Lib.hid ha.ok
  have HSY := Lib.hid hs
  obtain ⟨n, hn⟩ : ∃ n, n = l.length := ⟨_, rfl⟩
  have hmx : n ≤ 100000 := by omega
  rw [← hn]
  have HN := Lib.hid hn
  have HNL := Lib.hid hmx
  clear ha hn h1 h2 hll hs
  go_enter Try.func47, Try.ntmps47
  go_wp2_with fail
  go_loopw [5, 10] (fun u i wr => ∃ k : Nat, k ≤ n ∧ i = .int .i64 k ∧ Hid (OwnL wr w.heap.size u ((l.take k).filter p)) ∧ Hid (Below w.heap.size w wr)) (fun _ i _ => n - (intOf i).toNat)
  case atStart => exact ⟨0, by omega, rfl, Lib.hid (World.ownsRow_nil _ _ _ _), Lib.hid (Below.refl _ _)⟩
  case round =>
    obtain ⟨k, hk, rfl, HO, HB⟩ := hrel
    by_cases hlt : k < n
    · have g1 : k < l.length := by rw [← HN.out]; exact hlt
      obtain ⟨b, o, rfl, hbl, RA⟩ := HRA.out (fun e => by rw [e] at g1; exact absurd g1 (by simp))
      have r1 := row?_below (RA k g1) hbl HB.out
      have hd : decide ((k : Int) < (n : Int)) = true := by simp; omega
      have hw1 : IntKind.i64.wrap ((k : Int) + 1) = (k : Int) + 1 := by simp only [IntKind.wrap_i64]; omega
      have hk1 : (k : Int) < (n : Int) := by omega
      have HS := Lib.hid (filter_succ p g1)
      have HMEM := Lib.hid (List.getElem_mem g1)
      have hoc := OA.out _ (List.getElem_mem g1)
      have HFL : Hid (((l.take k).filter p).length ≤ 100000) := Lib.hid (Nat.le_trans (List.length_filter_le _ _) (by rw [List.length_take]; have := HNL.out; omega))
      have HFO : Hid (∀ a ∈ (l.take k).filter p, adOk a) := Lib.hid (fun x hx => OA.out x (List.mem_of_mem_take (List.mem_filter.1 hx).1))
      generalize l[k] = c at r1 HS hoc HMEM
      have hocc := Lib.hid hoc
      have hfm := free_made wr #[.bool false, .int .u8 0, .int .u8 0, .int .u8 0, .int .u8 0, .int .u8 0, .int .u8 0, .int .u8 0, .int .u8 0, .int .u8 0, .int .u8 0, .int .u8 0, .int .u8 0, .int .u8 0, .int .u8 0, .int .u8 0, .int .u8 0] 37 17 (by decide)
      have hfok : fok (adC c).toArray 17 = true := fok_addr c.1 c.2 hoc
      have HBX := Lib.hid (box_put wr c hoc)
      have hlit := adsLit_run c hoc
      have HCA := Lib.hid (fun W (h : Below w.heap.size w W) => HSY.out W c h HMEM.out)
      clear g1 RA hbl hoc
      go_upto_region 5 with (fail)
      generalize aggW (wr.alloc _) wr.heap.size _ = W1 at HBX ⊢
      have HB1 := Lib.hid (bstep HB.out HBX.out.2)
      have HO1 := Lib.hid (OwnL.below HO.out HBX.out.2)
      have HX1 := Lib.hid HBX.out.1
      have r2 := box_row HX1.out hocc.out
      clear hfm hfok r1 HBX
      cases hpc : p c with
      | true =>
        rw [hpc] at HS HCA
        go_wp2_with (first
          | (go_at_call 53; (with_reducible refine (HCA.out _ HB1.out).mono ?_); rintro x w2 ⟨rfl, hb⟩; have H2 := Lib.hid (bstep HB1.out hb); have HO2 := Lib.hid (OwnL.below HO1.out hb); have HX2 := Lib.hid (HX1.out.below hb HX1.out.lt); clear hb r2; have r3 := box_row HX2.out hocc.out)
          | (at_builtin; refine wpList_app rfl _ _ rfl w.heap.size _ ((l.take k).filter p) [c] _ rfl HFO.out (OwnL.below HO2.out (bbS _ _)) rfl (src_one (ObjAt.made _ _ _) hocc.out) (by have := HFL.out; simp only [List.length_cons, List.length_nil]; omega) (Nat.le_trans H2.out.size (by simp)) ?_; intro v' w3 hown' hgrow'; have HO3 := Lib.hid hown'; have H3 := Lib.hid (bgrown (bstep H2.out (bbS _ _)) hgrow' (fun q hq => (own_geS HO2.out q hq).1)); clear hown' hgrow'))
        go_roundw
        case rel => exact ⟨k + 1, by omega, by go_num, Lib.hid (by rw [HS.out, if_pos trivial]; exact HO3.out), H3⟩
        case measure => simp [intOf]; omega
      | false =>
        rw [hpc] at HS HCA
        go_wp2_with (go_at_call 53; (with_reducible refine (HCA.out _ HB1.out).mono ?_); rintro x w2 ⟨rfl, hb⟩; have H2 := Lib.hid (bstep HB1.out hb); have HO2 := Lib.hid (OwnL.below HO1.out hb); clear hb r2)
        go_roundw
        case rel => exact ⟨k + 1, by omega, by go_num, Lib.hid (by rw [HS.out]; simpa using HO2.out), H2⟩
        case measure => simp [intOf]; omega
    · have hd : ¬ (k : Int) < (n : Int) := by omega
      have HD := Lib.hid (show l.take k = l from List.take_of_length_le (by rw [← HN.out]; omega))
      clear hlt
      go_wp2
      go_ret
      exact ⟨_, rfl, HB.out, by have := HO.out; rw [HD.out] at this; exact this⟩

set_option maxRecDepth 100000 in
set_option maxHeartbeats 4000000 in
theorem spick_minus (B : Nat) (v : Value) (l : List AD) (p : AD → Bool) (w : World) (ha : Ads w v l) (hs : ∀ (W : World) (a : AD), Below w.heap.size w W → a ∈ l → Calls Try.prog 54 #[.agg (adC a).toArray, .pointer (some ⟨B, 0, none⟩)] W fun x w' => x = .returned (.bool (p a)) ∧ Below W.heap.size W w') (hll : l.length ≤ 100000) : Calls Try.prog 47 #[v, .func (.func 54) #[] #[.pointer (some ⟨B, 0, none⟩)]] w fun x w' => ∃ v', x = .returned v' ∧ Below w.heap.size w w' ∧ OwnL w' w.heap.size v' (l.filter p) := by
  obtain ⟨q, cap, rfl, h1, h2⟩ := ha.len
  have HRA : Hid (l ≠ [] → ∃ b o, q = some ⟨b, o, none⟩ ∧ b < w.heap.size ∧ AdsAt w b o l) := Lib.hid fun hne => by
    obtain ⟨b, o, cap', e, _, _, h3, h4⟩ := ha.parts hne
    simp only [Value.slice.injEq] at e
    exact ⟨b, o, e.1, h3, h4⟩
  have OA := Lib.hid ha.ok
  have HSY := Lib.hid hs
  obtain ⟨n, hn⟩ : ∃ n, n = l.length := ⟨_, rfl⟩
  have hmx : n ≤ 100000 := by omega
  rw [← hn]
  have HN := Lib.hid hn
  have HNL := Lib.hid hmx
  clear ha hn h1 h2 hll hs
  go_enter Try.func47, Try.ntmps47
  go_wp2_with fail
  go_loopw [5, 10] (fun u i wr => ∃ k : Nat, k ≤ n ∧ i = .int .i64 k ∧ Hid (OwnL wr w.heap.size u ((l.take k).filter p)) ∧ Hid (Below w.heap.size w wr)) (fun _ i _ => n - (intOf i).toNat)
  case atStart => exact ⟨0, by omega, rfl, Lib.hid (World.ownsRow_nil _ _ _ _), Lib.hid (Below.refl _ _)⟩
  case round =>
    obtain ⟨k, hk, rfl, HO, HB⟩ := hrel
    by_cases hlt : k < n
    · have g1 : k < l.length := by rw [← HN.out]; exact hlt
      obtain ⟨b, o, rfl, hbl, RA⟩ := HRA.out (fun e => by rw [e] at g1; exact absurd g1 (by simp))
      have r1 := row?_below (RA k g1) hbl HB.out
      have hd : decide ((k : Int) < (n : Int)) = true := by simp; omega
      have hw1 : IntKind.i64.wrap ((k : Int) + 1) = (k : Int) + 1 := by simp only [IntKind.wrap_i64]; omega
      have hk1 : (k : Int) < (n : Int) := by omega
      have HS := Lib.hid (filter_succ p g1)
      have HMEM := Lib.hid (List.getElem_mem g1)
      have hoc := OA.out _ (List.getElem_mem g1)
      have HFL : Hid (((l.take k).filter p).length ≤ 100000) := Lib.hid (Nat.le_trans (List.length_filter_le _ _) (by rw [List.length_take]; have := HNL.out; omega))
      have HFO : Hid (∀ a ∈ (l.take k).filter p, adOk a) := Lib.hid (fun x hx => OA.out x (List.mem_of_mem_take (List.mem_filter.1 hx).1))
      generalize l[k] = c at r1 HS hoc HMEM
      have hocc := Lib.hid hoc
      have hfm := free_made wr #[.bool false, .int .u8 0, .int .u8 0, .int .u8 0, .int .u8 0, .int .u8 0, .int .u8 0, .int .u8 0, .int .u8 0, .int .u8 0, .int .u8 0, .int .u8 0, .int .u8 0, .int .u8 0, .int .u8 0, .int .u8 0, .int .u8 0] 37 17 (by decide)
      have hfok : fok (adC c).toArray 17 = true := fok_addr c.1 c.2 hoc
      have HBX := Lib.hid (box_put wr c hoc)
      have hlit := adsLit_run c hoc
      have HCA := Lib.hid (fun W (h : Below w.heap.size w W) => HSY.out W c h HMEM.out)
      clear g1 RA hbl hoc
      go_upto_region 5 with (fail)
      generalize aggW (wr.alloc _) wr.heap.size _ = W1 at HBX ⊢
      have HB1 := Lib.hid (bstep HB.out HBX.out.2)
      have HO1 := Lib.hid (OwnL.below HO.out HBX.out.2)
      have HX1 := Lib.hid HBX.out.1
      have r2 := box_row HX1.out hocc.out
      clear hfm hfok r1 HBX
      cases hpc : p c with
      | true =>
        rw [hpc] at HS HCA
        go_wp2_with (first
          | (go_at_call 54; (with_reducible refine (HCA.out _ HB1.out).mono ?_); rintro x w2 ⟨rfl, hb⟩; have H2 := Lib.hid (bstep HB1.out hb); have HO2 := Lib.hid (OwnL.below HO1.out hb); have HX2 := Lib.hid (HX1.out.below hb HX1.out.lt); clear hb r2; have r3 := box_row HX2.out hocc.out)
          | (at_builtin; refine wpList_app rfl _ _ rfl w.heap.size _ ((l.take k).filter p) [c] _ rfl HFO.out (OwnL.below HO2.out (bbS _ _)) rfl (src_one (ObjAt.made _ _ _) hocc.out) (by have := HFL.out; simp only [List.length_cons, List.length_nil]; omega) (Nat.le_trans H2.out.size (by simp)) ?_; intro v' w3 hown' hgrow'; have HO3 := Lib.hid hown'; have H3 := Lib.hid (bgrown (bstep H2.out (bbS _ _)) hgrow' (fun q hq => (own_geS HO2.out q hq).1)); clear hown' hgrow'))
        go_roundw
        case rel => exact ⟨k + 1, by omega, by go_num, Lib.hid (by rw [HS.out, if_pos trivial]; exact HO3.out), H3⟩
        case measure => simp [intOf]; omega
      | false =>
        rw [hpc] at HS HCA
        go_wp2_with (go_at_call 54; (with_reducible refine (HCA.out _ HB1.out).mono ?_); rintro x w2 ⟨rfl, hb⟩; have H2 := Lib.hid (bstep HB1.out hb); have HO2 := Lib.hid (OwnL.below HO1.out hb); clear hb r2)
        go_roundw
        case rel => exact ⟨k + 1, by omega, by go_num, Lib.hid (by rw [HS.out]; simpa using HO2.out), H2⟩
        case measure => simp [intOf]; omega
    · have hd : ¬ (k : Int) < (n : Int) := by omega
      have HD := Lib.hid (show l.take k = l from List.take_of_length_le (by rw [← HN.out]; omega))
      clear hlt
      go_wp2
      go_ret
      exact ⟨_, rfl, HB.out, by have := HO.out; rw [HD.out] at this; exact this⟩

end Go.Proofs.Ytokpogoblnhihaa
