/-
  The contracts of srcs' Good and Same.
-/
import Derived.Test.YtalnfjnfcloonaaGreatDoorMg25
import Derived.Test.YtalnfjnfcloonaaGreatDoorMg11
import Derived.Test.YtalnfjnfcloonaaGreatDoorMg40
namespace Go.Proofs.YtalnfjnfcloonaaGreatDoor
open Go.RowKit
set_option linter.unusedVariables false
set_option linter.unusedSimpArgs false
attribute [local go_sem ↓] ld_addr st_addr
attribute [local go_sem] ldr_addr str_addr row?_drewN_eq row?_drew_eq

/-- What Good has seen. -/
def GS (l : List AD) (k : Nat) : Prop := Sorted ltA (l.take k) ∧ ∀ x ∈ l.take k, goodB x = true
theorem sorted_snoc {l : List AD} {a b : AD} (h : Sorted ltA (l ++ [a])) (hl : ltA a b = true) : Sorted ltA (l ++ [a] ++ [b]) := by
  refine List.pairwise_append.2 ⟨h, by simp, fun x hx y hy => ?_⟩
  rw [List.mem_singleton] at hy
  subst hy
  rcases List.mem_append.1 hx with hx | hx
  · exact (ltA_ord fun _ => true).trans _ _ _ ((List.pairwise_append.1 h).2.2 x hx a (by simp)) hl
  · rw [List.mem_singleton] at hx; subst hx; exact hl
theorem GS.first {l : List AD} (h : 0 < l.length) (hg : goodB l[0] = true) : GS l 1 := by
  have e : l.take 1 = [l[0]] := by rw [List.take_succ_eq_append_getElem h]; rfl
  unfold GS
  rw [e]
  exact ⟨by unfold Sorted; simp, fun x hx => by rw [List.mem_singleton] at hx; rw [hx]; exact hg⟩
theorem GS.next {l : List AD} {k : Nat} (hs : GS l (k + 1)) (h : k + 1 < l.length) (hg : goodB l[k + 1] = true) (hl : ltA l[k] l[k + 1] = true) : GS l (k + 2) := by
  unfold GS
  rw [List.take_succ_eq_append_getElem h]
  refine ⟨?_, fun x hx => ?_⟩
  · have h1 := hs.1
    rw [List.take_succ_eq_append_getElem (show k < l.length by omega)] at h1 ⊢
    exact sorted_snoc h1 hl
  · rcases List.mem_append.1 hx with hx | hx
    · exact hs.2 x hx
    · rw [List.mem_singleton] at hx; rw [hx]; exact hg

set_option maxRecDepth 100000 in
set_option maxHeartbeats 4000000 in
theorem sgood_any (v : Value) (l : List AD) (R : Bool) (hR : R = true ↔ (Sorted ltA l ∧ ∀ x ∈ l, goodB x = true)) (w : World) (ha : Ads w v l) : Calls Tryz.prog 15 #[v] w fun x w' => x = .returned (.bool R) ∧ Below w.heap.size w w' := by
  obtain ⟨q, cap, rfl, h1, h2⟩ := ha.len
  have HRA : Hid (l ≠ [] → ∃ b o, q = some ⟨b, o, none⟩ ∧ b < w.heap.size ∧ AdsAt w b o l) := Lib.hid fun hne => by
    obtain ⟨b, o, cap', e, _, _, h3, h4⟩ := ha.parts hne
    simp only [Value.slice.injEq] at e
    exact ⟨b, o, e.1, h3, h4⟩
  have OA := Lib.hid ha.ok
  have HR := Lib.hid hR
  obtain ⟨n, hn⟩ : ∃ n, n = l.length := ⟨_, rfl⟩
  have hmx : n ≤ maxLen := by omega
  unfold maxLen at hmx
  rw [← hn]
  have HN := Lib.hid hn
  clear ha hn h1 h2 hR
  go_enter Tryz.func15, Tryz.ntmps15
  go_wp2_with fail
  go_loopw [7] (fun i wr => ∃ k : Nat, k ≤ n ∧ i = .int .i64 k ∧ Hid (GS l k) ∧ Hid (Below w.heap.size w wr)) (fun i _ => n - (intOf i).toNat)
  case atStart => exact ⟨0, by omega, rfl, Lib.hid (by unfold GS Sorted; simp), Lib.hid (Below.refl _ _)⟩
  case round =>
    obtain ⟨k, hk, rfl, HG, HB⟩ := hrel
    by_cases hlt : k < n
    · have g1 : k < l.length := by rw [← HN.out]; exact hlt
      obtain ⟨b, o, rfl, hbl, RA⟩ := HRA.out (fun e => by rw [e] at g1; exact absurd g1 (by simp))
      have r1 := row?_below (RA k g1) hbl HB.out
      have hd : decide ((k : Int) < (n : Int)) = true := by simp; omega
      have hw1 : IntKind.i64.wrap ((k : Int) + 1) = (k : Int) + 1 := by simp only [IntKind.wrap_i64]; omega
      have hk1 : (k : Int) < (n : Int) := by omega
      have hoc := OA.out _ (List.getElem_mem g1)
      have hfm := free_made wr #[.bool false, .int .u8 0, .int .u8 0, .int .u8 0, .int .u8 0, .int .u8 0, .int .u8 0, .int .u8 0, .int .u8 0, .int .u8 0, .int .u8 0, .int .u8 0, .int .u8 0, .int .u8 0, .int .u8 0, .int .u8 0, .int .u8 0] 36 17 (by decide)
      have hfok : fok (adC l[k]).toArray 17 = true := fok_addr l[k].1 l[k].2 hoc
      have HBX := Lib.hid (box_put wr l[k] hoc)
      have HGC : Hid (∀ W, Calls Tryz.prog 29 #[.agg (adC l[k]).toArray] W fun x w' => x = .returned (.bool (goodB l[k])) ∧ Below W.heap.size W w') := Lib.hid fun W => good_any l[k].1 l[k].2 hoc W
      cases hgc : goodB l[k] with
      | false =>
        have HRF : Hid (R = false) := Lib.hid (by
          cases hr : R with
          | false => rfl
          | true => have := (HR.out.1 hr).2 _ (List.getElem_mem g1); rw [hgc] at this; cases this)
        rw [hgc] at HGC
        obtain ⟨S, hS⟩ : ∃ S : World → Prop, S = fun W => Below w.heap.size w W ∧ ObjAt W wr.heap.size (adC l[k]).toArray 36 := ⟨_, rfl⟩
        have HKP : Hid (∀ W W', S W → Below W.heap.size W W' → S W') := Lib.hid (by subst hS; exact fun W W' h hb => ⟨bstep h.1 hb, h.2.below hb h.2.lt⟩)
        have HSR : Hid (∀ p : InS S, row? p.W wr.heap.size 0 17 = some (adC l[k])) := Lib.hid (by subst hS; exact fun p => box_row p.h.2 hoc)
        have HSB : Hid (∀ W, S W → Below w.heap.size w W) := Lib.hid (by subst hS; exact fun W h => h.1)
        have HS1 : Hid (S (aggW (wr.alloc (.cells #[.bool false, .int .u8 0, .int .u8 0, .int .u8 0, .int .u8 0, .int .u8 0, .int .u8 0, .int .u8 0, .int .u8 0, .int .u8 0, .int .u8 0, .int .u8 0, .int .u8 0, .int .u8 0, .int .u8 0, .int .u8 0, .int .u8 0] 36)) wr.heap.size (adC l[k]))) := Lib.hid (by subst hS; exact ⟨bstep HB.out HBX.out.2, HBX.out.1⟩)
        generalize adC l[k] = A at r1 hfok HGC HSR HS1
        clear RA hbl g1 hoc hgc hS HBX
        go_upto_region 4 with (fail)
        generalize aggW (wr.alloc _) wr.heap.size _ = W1 at HS1 ⊢
        clear hfm hfok r1
        have fr := HSR.out
        have hne : Nonempty (InS S) := ⟨⟨_, HS1.out⟩⟩
        refine wp_region_inS S (by kernel_rfl) (by kernel_rfl) (HKP.out _ _ HS1.out (bdrewN (Below.refl _ _) 1)) ?_
        repeat (go_big_quiet_step ((go_at_call 29; exact Calls.inS HKP.out _ (fun W _ => HGC.out W))))
        refine wpQuiet_nil ?_
        rintro _ ⟨⟨W2, hS2⟩, rfl⟩
        have H2 := Lib.hid (HSB.out _ hS2)
        clear hS2 fr hne
        go_wp2
        go_ret
        exact ⟨ret_bool8 (by rw [HRF.out]), H2.out⟩
      | true =>
        rw [hgc] at HGC
        cases k with
        | zero =>
          have HNX := Lib.hid (GS.first g1 hgc)
          rw [Nat.zero_mul, Nat.add_zero] at r1
          obtain ⟨S, hS⟩ : ∃ S : World → Prop, S = fun W => Below w.heap.size w W ∧ ObjAt W wr.heap.size (adC l[0]).toArray 36 := ⟨_, rfl⟩
          have HKP : Hid (∀ W W', S W → Below W.heap.size W W' → S W') := Lib.hid (by subst hS; exact fun W W' h hb => ⟨bstep h.1 hb, h.2.below hb h.2.lt⟩)
          have HSR : Hid (∀ p : InS S, row? p.W wr.heap.size 0 17 = some (adC l[0])) := Lib.hid (by subst hS; exact fun p => box_row p.h.2 hoc)
          have HSB : Hid (∀ W, S W → Below w.heap.size w W) := Lib.hid (by subst hS; exact fun W h => h.1)
          have HS1 : Hid (S (aggW (wr.alloc (.cells #[.bool false, .int .u8 0, .int .u8 0, .int .u8 0, .int .u8 0, .int .u8 0, .int .u8 0, .int .u8 0, .int .u8 0, .int .u8 0, .int .u8 0, .int .u8 0, .int .u8 0, .int .u8 0, .int .u8 0, .int .u8 0, .int .u8 0] 36)) wr.heap.size (adC l[0]))) := Lib.hid (by subst hS; exact ⟨bstep HB.out HBX.out.2, HBX.out.1⟩)
          generalize adC l[0] = A at r1 hfok HGC HSR HS1
          clear RA hbl g1 hoc hgc hS HBX
          go_upto_region 4 with (fail)
          generalize aggW (wr.alloc _) wr.heap.size _ = W1 at HS1 ⊢
          clear hfm hfok r1
          have fr := HSR.out
          have hne : Nonempty (InS S) := ⟨⟨_, HS1.out⟩⟩
          refine wp_region_inS S (by kernel_rfl) (by kernel_rfl) (HKP.out _ _ HS1.out (bdrewN (Below.refl _ _) 1)) ?_
          repeat (go_big_quiet_step ((go_at_call 29; exact Calls.inS HKP.out _ (fun W _ => HGC.out W))))
          refine wpQuiet_nil ?_
          rintro _ ⟨⟨W2, hS2⟩, rfl⟩
          have H2 := Lib.hid (HSB.out _ hS2)
          clear hS2 fr hne
          go_wp2
          go_roundw
          case rel => exact ⟨1, by omega, by go_num, HNX, H2⟩
          case measure => simp [intOf]; omega
        | succ j =>
          have g0 : j < l.length := by omega
          have HCM := Lib.hid (fun W => scmp_any l[j] l[j + 1] (OA.out _ (List.getElem_mem g0)) hoc W)
          have HLT := Lib.hid (cmp_lt l[j] l[j + 1])
          have HNX := Lib.hid (fun hl => GS.next HG.out g1 hgc hl)
          have HBAD : Hid (ltA l[j] l[j + 1] = false → R = false) := Lib.hid (fun hl => by
            cases hr : R with
            | false => rfl
            | true => have := sorted_lt (HR.out.1 hr).1 g1 (show j < j + 1 by omega); rw [hl] at this; cases this)
          have hk0 : (0 : Int) < (j : Int) + 1 := by omega
          have hk3 : IntKind.i64.wrap ((j : Int) + 1 - 1) = (j : Int) := by simp only [IntKind.wrap_i64]; omega
          have hk4 : (0 : Int) ≤ (j : Int) ∧ (j : Int) < (n : Int) := by omega
          obtain ⟨S, hS⟩ : ∃ S : World → Prop, S = fun W => Below w.heap.size w W ∧ ObjAt W wr.heap.size (adC l[j + 1]).toArray 36 := ⟨_, rfl⟩
          have HKP : Hid (∀ W W', S W → Below W.heap.size W W' → S W') := Lib.hid (by subst hS; exact fun W W' h hb => ⟨bstep h.1 hb, h.2.below hb h.2.lt⟩)
          have HSR : Hid ((∀ p : InS S, row? p.W wr.heap.size 0 17 = some (adC l[j + 1])) ∧ ∀ p : InS S, row? p.W b (o + j * 17) 17 = some (adC l[j])) := Lib.hid (by subst hS; exact ⟨fun p => box_row p.h.2 hoc, fun p => row?_below (RA j g0) hbl p.h.1⟩)
          have HSB : Hid (∀ W, S W → Below w.heap.size w W) := Lib.hid (by subst hS; exact fun W h => h.1)
          have HS1 : Hid (S (aggW (wr.alloc (.cells #[.bool false, .int .u8 0, .int .u8 0, .int .u8 0, .int .u8 0, .int .u8 0, .int .u8 0, .int .u8 0, .int .u8 0, .int .u8 0, .int .u8 0, .int .u8 0, .int .u8 0, .int .u8 0, .int .u8 0, .int .u8 0, .int .u8 0] 36)) wr.heap.size (adC l[j + 1]))) := Lib.hid (by subst hS; exact ⟨bstep HB.out HBX.out.2, HBX.out.1⟩)
          generalize cmpV l[j].1 l[j + 1].1 l[j].2 l[j + 1].2 = z at HCM HLT
          generalize ltA l[j] l[j + 1] = y at HLT HNX HBAD
          generalize adC l[j + 1] = A at r1 hfok HGC HSR HS1 HCM
          generalize adC l[j] = B at HSR HCM
          clear RA hbl g1 hoc hgc hS HBX g0
          cases y with
          | true =>
            have hz : decide (0 ≤ z) = false := decide_eq_false (by have := of_decide_eq_true HLT.out; omega)
            have hz2 : ¬ (0 ≤ z) := of_decide_eq_false hz
            go_upto_region 4 with (fail)
            generalize aggW (wr.alloc _) wr.heap.size _ = W1 at HS1 ⊢
            clear hfm hfok r1
            obtain ⟨fr, fr2⟩ := HSR.out
            have hne : Nonempty (InS S) := ⟨⟨_, HS1.out⟩⟩
            refine wp_region_inS S (by kernel_rfl) (by kernel_rfl) (HKP.out _ _ HS1.out (bdrewN (Below.refl _ _) 1)) ?_
            repeat (go_big_quiet_step (first
              | (go_at_call 29; exact Calls.inS HKP.out _ (fun W _ => HGC.out W))
              | (go_at_call 30; exact Calls.inS HKP.out _ (fun W _ => HCM.out W))))
            refine wpQuiet_nil ?_
            rintro _ ⟨⟨W2, hS2⟩, rfl⟩
            have H2 := Lib.hid (HSB.out _ hS2)
            clear hS2 fr fr2 hne
            go_wp2
            go_roundw
            case rel => exact ⟨j + 2, by omega, by go_num, Lib.hid (HNX.out rfl), H2⟩
            case measure => simp [intOf]; omega
          | false =>
            have hz : decide (0 ≤ z) = true := decide_eq_true (by have := of_decide_eq_false HLT.out; omega)
            have hz2 : 0 ≤ z := of_decide_eq_true hz
            have HRF := Lib.hid (HBAD.out rfl)
            go_upto_region 4 with (fail)
            generalize aggW (wr.alloc _) wr.heap.size _ = W1 at HS1 ⊢
            clear hfm hfok r1
            obtain ⟨fr, fr2⟩ := HSR.out
            have hne : Nonempty (InS S) := ⟨⟨_, HS1.out⟩⟩
            refine wp_region_inS S (by kernel_rfl) (by kernel_rfl) (HKP.out _ _ HS1.out (bdrewN (Below.refl _ _) 1)) ?_
            repeat (go_big_quiet_step (first
              | (go_at_call 29; exact Calls.inS HKP.out _ (fun W _ => HGC.out W))
              | (go_at_call 30; exact Calls.inS HKP.out _ (fun W _ => HCM.out W))))
            refine wpQuiet_nil ?_
            rintro _ ⟨⟨W2, hS2⟩, rfl⟩
            have H2 := Lib.hid (HSB.out _ hS2)
            clear hS2 fr fr2 hne
            go_wp2
            go_ret
            exact ⟨ret_bool8 (by rw [HRF.out]), H2.out⟩
    · have hd : ¬ (k : Int) < (n : Int) := by omega
      have HRT : Hid (R = true) := Lib.hid (by
        have e := HG.out
        unfold GS at e
        rw [List.take_of_length_le (by rw [← HN.out]; omega)] at e
        exact HR.out.2 e)
      go_wp2
      go_ret
      exact ⟨ret_bool8 (by rw [HRT.out]), HB.out⟩
end Go.Proofs.YtalnfjnfcloonaaGreatDoor
