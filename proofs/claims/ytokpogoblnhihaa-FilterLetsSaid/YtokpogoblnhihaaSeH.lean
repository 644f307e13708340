/-
  The contracts of srcs' Good and Same.
-/
import Derived.Test.YtokpogoblnhihaaSeC
import Derived.Test.YtokpogoblnhihaaMg04
import Derived.Test.YtokpogoblnhihaaMg15
namespace Go.Proofs.Ytokpogoblnhihaa
open Go.RowKit
set_option linter.unusedVariables false
set_option linter.unusedSimpArgs false
attribute [local go_sem ↓] ld_addr st_addr
attribute [local go_sem] ldr_addr str_addr row?_drewN_eq row?_drew_eq

set_option maxRecDepth 100000 in
set_option maxHeartbeats 2000000 in
theorem sequal_any (va vb : Value) (la lb : List AD) (w : World) (ha : Ads w va la) (hb : Ads w vb lb) :
    Calls Try.prog 57 #[va, vb] w fun x w' => x = .returned (.bool (decide (la = lb))) ∧ ∃ d, w' = w.drewN d := by
  obtain ⟨pa, ca, rfl, ha1, ha2⟩ := ha.len
  obtain ⟨pb, cb, rfl, hb1, hb2⟩ := hb.len
  by_cases hl : la.length = lb.length
  · by_cases h0 : la.length = 0
    · have e1 : la = [] := List.eq_nil_of_length_eq_zero h0
      have e2 : lb = [] := List.eq_nil_of_length_eq_zero (by omega)
      subst e1 e2
      have hz : ((0 : Int) != 0) = false := rfl
      go_enter Try.func57, Try.ntmps57
      go_wp2_with fail
      go_loop [13] (fun i => i = .int .i64 0) (fun _ => 0)
      case atStart => rfl
      case round =>
        subst hrel
        go_wp2
        go_ret
        exact ⟨rfl, 0, rfl⟩
    · have na : la ≠ [] := fun h => h0 (by rw [h]; rfl)
      have nb : lb ≠ [] := fun h => h0 (by rw [hl, h]; rfl)
      obtain ⟨ba, oa, ca', ea, _, _, _, Ra⟩ := ha.parts na
      obtain ⟨bb, ob, cb', eb, _, _, _, Rb⟩ := hb.parts nb
      simp only [Value.slice.injEq] at ea eb
      obtain ⟨rfl, _, _⟩ := ea
      obtain ⟨rfl, _, _⟩ := eb
      have OA := Lib.hid ha.ok
      have OB := Lib.hid hb.ok
      have RA := Lib.hid Ra
      have RB := Lib.hid Rb
      have HL := Lib.hid hl
      obtain ⟨n, hn⟩ : ∃ n, n = la.length := ⟨_, rfl⟩
      rw [← hn] at hl ha1 h0
      rw [← hl]
      rw [← hn]
      have HN := Lib.hid hn
      have hmx : n ≤ maxLen := Nat.le_trans ha1 ha2
      unfold maxLen at hmx
      clear Ra Rb ha hb na nb hn
      have hz : ((n : Int) != (n : Int)) = false := by simp
      go_enter Try.func57, Try.ntmps57
      go_wp2_with fail
      go_loopw [13] (fun i wr => ∃ k : Nat, k ≤ n ∧ i = .int .i64 k ∧ Hid (la.take k = lb.take k) ∧ ∃ d, wr = w.drewN d) (fun i _ => n - (intOf i).toNat)
      case atStart => exact ⟨0, by omega, rfl, Lib.hid (by simp), 0, rfl⟩
      case round =>
        obtain ⟨k, hk, rfl, HT, d, rfl⟩ := hrel
        by_cases hlt : k < n
        · have g1 : k < la.length := by rw [← HN.out]; exact hlt
          have g2 : k < lb.length := by omega
          have r1 := RA.out k g1
          have r2 := RB.out k g2
          have q := fun w0 => eq_ad la[k] lb[k] (OA.out _ (List.getElem_mem g1)) (OB.out _ (List.getElem_mem g2)) w0
          have hd : decide ((k : Int) < (n : Int)) = true := by simp; omega
          have hw1 : IntKind.i64.wrap ((k : Int) + 1) = (k : Int) + 1 := by simp only [IntKind.wrap_i64]; omega
          have hk1 : (k : Int) < (n : Int) := by omega
          by_cases he : la[k] = lb[k]
          · have HS : Hid (la.take (k + 1) = lb.take (k + 1)) := Lib.hid (by rw [List.take_succ_eq_append_getElem g1, List.take_succ_eq_append_getElem g2, HT.out, he])
            rw [decide_eq_true he] at q
            generalize adC la[k] = A at *
            generalize adC lb[k] = B at *
            clear he g1 g2
            go_upto_region 6 with (fail)
            go_quiet (fail)
            go_wp2
            go_roundw
            case rel => exact ⟨k + 1, by omega, by go_num, HS, _, rfl⟩
            case measure => simp [intOf]; omega
          · have HD := Lib.hid (show decide (la = lb) = false by
              rw [decide_eq_false_iff_not]
              intro e
              apply he
              simp only [e])
            rw [decide_eq_false he] at q
            generalize adC la[k] = A at *
            generalize adC lb[k] = B at *
            clear he g1 g2
            go_upto_region 6 with (fail)
            go_quiet (fail)
            go_wp2
            go_ret
            exact ⟨ret_bool8 (by rw [HD.out]), _, World.drewN_drewN _ _ _⟩
        · have hd : ¬ (k : Int) < (n : Int) := by omega
          have HD := Lib.hid (show decide (la = lb) = true by
            rw [decide_eq_true_iff]
            have e := HT.out
            rw [List.take_of_length_le (by rw [← HN.out]; omega), List.take_of_length_le (by omega)] at e
            exact e)
          go_wp2
          go_ret
          exact ⟨ret_bool8 (by rw [HD.out]), _, rfl⟩
  · have HD := Lib.hid (show decide (la = lb) = false by
      rw [decide_eq_false_iff_not]; intro e; exact hl (by rw [e]))
    have hz : ((la.length : Int) != (lb.length : Int)) = true := by simp; omega
    clear ha hb hl
    go_enter Try.func57, Try.ntmps57
    go_wp2
    go_ret
    exact ⟨ret_bool8 (by rw [HD.out]), 0, rfl⟩


set_option maxRecDepth 100000 in
theorem ssame_any (va vb : Value) (la lb : List AD) (w : World) (ha : Ads w va la) (hb : Ads w vb lb) : Calls Try.prog 45 #[va, vb] w fun x w' => x = .returned (.bool (decide (la = lb))) ∧ Below w.heap.size w w' := by
  have HC := Lib.hid (sequal_any va vb la lb w ha hb)
  obtain ⟨p, cap, rfl, _, _⟩ := ha.len
  obtain ⟨p', cap', rfl, _, _⟩ := hb.len
  clear ha hb
  generalize decide (la = lb) = R at HC ⊢
  go_enter Try.func45, Try.ntmps45
  go_wp2_with (go_at_call 57; (with_reducible refine HC.out.mono ?_); rintro x w1 ⟨rfl, d, rfl⟩)
  go_ret
  exact ⟨rfl, bdrewN (Below.refl _ _) _⟩

/-- What Good has seen. -/
def GS (l : List AD) (k : Nat) : Prop := Sorted ltA (l.take k) ∧ ∀ x ∈ l.take k, goodB x = true
theorem sorted_snoc {l : List AD} {a b : AD} (h : Sorted ltA (l ++ [a])) (hl : ltA a b = true) : Sorted ltA (l ++ [a] ++ [b]) := by
  refine List.pairwise_append.2 ⟨h, by simp, fun x hx y hy => ?_⟩
  rw [List.mem_singleton] at hy
  subst hy
  rcases List.mem_append.1 hx with hx | hx
  · exact (ltA_ord fun _ => true).trans _ _ _ ((List.pairwise_append.1 h).2.2 x hx a (by simp)) hl
  · rw [List.mem_singleton] at hx; subst hx; exact hl
theorem GS.first {l : List AD} (h : 0 < l.length) (hg : goodB l[0] = true) : GS l 1 := by
  have e : l.take 1 = [l[0]] := by rw [List.take_succ_eq_append_getElem h]; rfl
  unfold GS
  rw [e]
  exact ⟨by unfold Sorted; simp, fun x hx => by rw [List.mem_singleton] at hx; rw [hx]; exact hg⟩
theorem GS.next {l : List AD} {k : Nat} (hs : GS l (k + 1)) (h : k + 1 < l.length) (hg : goodB l[k + 1] = true) (hl : ltA l[k] l[k + 1] = true) : GS l (k + 2) := by
  unfold GS
  rw [List.take_succ_eq_append_getElem h]
  refine ⟨?_, fun x hx => ?_⟩
  · have h1 := hs.1
    rw [List.take_succ_eq_append_getElem (show k < l.length by omega)] at h1 ⊢
    exact sorted_snoc h1 hl
  · rcases List.mem_append.1 hx with hx | hx
    · exact hs.2 x hx
    · rw [List.mem_singleton] at hx; rw [hx]; exact hg

set_option maxRecDepth 100000 in
set_option maxHeartbeats 4000000 in
theorem sgood_any (v : Value) (l : List AD) (R : Bool) (hR : R = true ↔ (Sorted ltA l ∧ ∀ x ∈ l, goodB x = true)) (w : World) (ha : Ads w v l) : Calls Try.prog 35 #[v] w fun x w' => x = .returned (.bool R) ∧ Below w.heap.size w w' := by
  obtain ⟨q, cap, rfl, h1, h2⟩ := ha.len
  have HRA : Hid (l ≠ [] → ∃ b o, q = some ⟨b, o, none⟩ ∧ b < w.heap.size ∧ AdsAt w b o l) := Lib.hid fun hne => by
    obtain ⟨b, o, cap', e, _, _, h3, h4⟩ := ha.parts hne
    simp only [Value.slice.injEq] at e
    exact ⟨b, o, e.1, h3, h4⟩
  have OA := Lib.hid ha.ok
  have HR := Lib.hid hR
  obtain ⟨n, hn⟩ : ∃ n, n = l.length := ⟨_, rfl⟩
  have hmx : n ≤ maxLen := by omega
  unfold maxLen at hmx
  rw [← hn]
  have HN := Lib.hid hn
  clear ha hn h1 h2 hR
  go_enter Try.func35, Try.ntmps35
  go_wp2_with fail
  go_loopw [7] (fun i wr => ∃ k : Nat, k ≤ n ∧ i = .int .i64 k ∧ Hid (GS l k) ∧ Hid (Below w.heap.size w wr)) (fun i _ => n - (intOf i).toNat)
  case atStart => exact ⟨0, by omega, rfl, Lib.hid (by unfold GS Sorted; simp), Lib.hid (Below.refl _ _)⟩
  case round =>
    obtain ⟨k, hk, rfl, HG, HB⟩ := hrel
    by_cases hlt : k < n
    · have g1 : k < l.length := by rw [← HN.out]; exact hlt
      obtain ⟨b, o, rfl, hbl, RA⟩ := HRA.out (fun e => by rw [e] at g1; exact absurd g1 (by simp))
      have r1 := row?_below (RA k g1) hbl HB.out
      have hd : decide ((k : Int) < (n : Int)) = true := by simp; omega
      have hw1 : IntKind.i64.wrap ((k : Int) + 1) = (k : Int) + 1 := by simp only [IntKind.wrap_i64]; omega
      have hk1 : (k : Int) < (n : Int) := by omega
      have hoc := OA.out _ (List.getElem_mem g1)
      have hfm := free_made wr #[.bool false, .int .u8 0, .int .u8 0, .int .u8 0, .int .u8 0, .int .u8 0, .int .u8 0, .int .u8 0, .int .u8 0, .int .u8 0, .int .u8 0, .int .u8 0, .int .u8 0, .int .u8 0, .int .u8 0, .int .u8 0, .int .u8 0] 37 17 (by decide)
      have hfok : fok (adC l[k]).toArray 17 = true := fok_addr l[k].1 l[k].2 hoc
      have HBX := Lib.hid (box_put wr l[k] hoc)
      have HGC : Hid (∀ W, Calls Try.prog 48 #[.agg (adC l[k]).toArray] W fun x w' => x = .returned (.bool (goodB l[k])) ∧ Below W.heap.size W w') := Lib.hid fun W => good_any l[k].1 l[k].2 hoc W
      cases hgc : goodB l[k] with
      | false =>
        have HRF : Hid (R = false) := Lib.hid (by
          cases hr : R with
          | false => rfl
          | true => have := (HR.out.1 hr).2 _ (List.getElem_mem g1); rw [hgc] at this; cases this)
        rw [hgc] at HGC
        obtain ⟨S, hS⟩ : ∃ S : World → Prop, S = fun W => Below w.heap.size w W ∧ ObjAt W wr.heap.size (adC l[k]).toArray 37 := ⟨_, rfl⟩
        have HKP : Hid (∀ W W', S W → Below W.heap.size W W' → S W') := Lib.hid (by subst hS; exact fun W W' h hb => ⟨bstep h.1 hb, h.2.below hb h.2.lt⟩)
        have HSR : Hid (∀ p : InS S, row? p.W wr.heap.size 0 17 = some (adC l[k])) := Lib.hid (by subst hS; exact fun p => box_row p.h.2 hoc)
        have HSB : Hid (∀ W, S W → Below w.heap.size w W) := Lib.hid (by subst hS; exact fun W h => h.1)
        have HS1 : Hid (S (aggW (wr.alloc (.cells #[.bool false, .int .u8 0, .int .u8 0, .int .u8 0, .int .u8 0, .int .u8 0, .int .u8 0, .int .u8 0, .int .u8 0, .int .u8 0, .int .u8 0, .int .u8 0, .int .u8 0, .int .u8 0, .int .u8 0, .int .u8 0, .int .u8 0] 37)) wr.heap.size (adC l[k]))) := Lib.hid (by subst hS; exact ⟨bstep HB.out HBX.out.2, HBX.out.1⟩)
        generalize adC l[k] = A at r1 hfok HGC HSR HS1
        clear RA hbl g1 hoc hgc hS HBX
        go_upto_region 4 with (fail)
        generalize aggW (wr.alloc _) wr.heap.size _ = W1 at HS1 ⊢
        clear hfm hfok r1
        have fr := HSR.out
        have hne : Nonempty (InS S) := ⟨⟨_, HS1.out⟩⟩
        refine wp_region_inS S (by kernel_rfl) (by kernel_rfl) (HKP.out _ _ HS1.out (bdrewN (Below.refl _ _) 1)) ?_
        repeat (go_big_quiet_step ((go_at_call 48; exact Calls.inS HKP.out _ (fun W _ => HGC.out W))))
        refine wpQuiet_nil ?_
        rintro _ ⟨⟨W2, hS2⟩, rfl⟩
        have H2 := Lib.hid (HSB.out _ hS2)
        clear hS2 fr hne
        go_wp2
        go_ret
        exact ⟨ret_bool8 (by rw [HRF.out]), H2.out⟩
      | true =>
        rw [hgc] at HGC
        cases k with
        | zero =>
          have HNX := Lib.hid (GS.first g1 hgc)
          rw [Nat.zero_mul, Nat.add_zero] at r1
          obtain ⟨S, hS⟩ : ∃ S : World → Prop, S = fun W => Below w.heap.size w W ∧ ObjAt W wr.heap.size (adC l[0]).toArray 37 := ⟨_, rfl⟩
          have HKP : Hid (∀ W W', S W → Below W.heap.size W W' → S W') := Lib.hid (by subst hS; exact fun W W' h hb => ⟨bstep h.1 hb, h.2.below hb h.2.lt⟩)
          have HSR : Hid (∀ p : InS S, row? p.W wr.heap.size 0 17 = some (adC l[0])) := Lib.hid (by subst hS; exact fun p => box_row p.h.2 hoc)
          have HSB : Hid (∀ W, S W → Below w.heap.size w W) := Lib.hid (by subst hS; exact fun W h => h.1)
          have HS1 : Hid (S (aggW (wr.alloc (.cells #[.bool false, .int .u8 0, .int .u8 0, .int .u8 0, .int .u8 0, .int .u8 0, .int .u8 0, .int .u8 0, .int .u8 0, .int .u8 0, .int .u8 0, .int .u8 0, .int .u8 0, .int .u8 0, .int .u8 0, .int .u8 0, .int .u8 0] 37)) wr.heap.size (adC l[0]))) := Lib.hid (by subst hS; exact ⟨bstep HB.out HBX.out.2, HBX.out.1⟩)
          generalize adC l[0] = A at r1 hfok HGC HSR HS1
          clear RA hbl g1 hoc hgc hS HBX
          go_upto_region 4 with (fail)
          generalize aggW (wr.alloc _) wr.heap.size _ = W1 at HS1 ⊢
          clear hfm hfok r1
          have fr := HSR.out
          have hne : Nonempty (InS S) := ⟨⟨_, HS1.out⟩⟩
          refine wp_region_inS S (by kernel_rfl) (by kernel_rfl) (HKP.out _ _ HS1.out (bdrewN (Below.refl _ _) 1)) ?_
          repeat (go_big_quiet_step ((go_at_call 48; exact Calls.inS HKP.out _ (fun W _ => HGC.out W))))
          refine wpQuiet_nil ?_
          rintro _ ⟨⟨W2, hS2⟩, rfl⟩
          have H2 := Lib.hid (HSB.out _ hS2)
          clear hS2 fr hne
          go_wp2
          go_roundw
          case rel => exact ⟨1, by omega, by go_num, HNX, H2⟩
          case measure => simp [intOf]; omega
        | succ j =>
          have g0 : j < l.length := by omega
          have HCM := Lib.hid (fun W => scmp_any l[j] l[j + 1] (OA.out _ (List.getElem_mem g0)) hoc W)
          have HLT := Lib.hid (cmp_lt l[j] l[j + 1])
          have HNX := Lib.hid (fun hl => GS.next HG.out g1 hgc hl)
          have HBAD : Hid (ltA l[j] l[j + 1] = false → R = false) := Lib.hid (fun hl => by
            cases hr : R with
            | false => rfl
            | true => have := sorted_lt (HR.out.1 hr).1 g1 (show j < j + 1 by omega); rw [hl] at this; cases this)
          have hk0 : (0 : Int) < (j : Int) + 1 := by omega
          have hk3 : IntKind.i64.wrap ((j : Int) + 1 - 1) = (j : Int) := by simp only [IntKind.wrap_i64]; omega
          have hk4 : (0 : Int) ≤ (j : Int) ∧ (j : Int) < (n : Int) := by omega
          obtain ⟨S, hS⟩ : ∃ S : World → Prop, S = fun W => Below w.heap.size w W ∧ ObjAt W wr.heap.size (adC l[j + 1]).toArray 37 := ⟨_, rfl⟩
          have HKP : Hid (∀ W W', S W → Below W.heap.size W W' → S W') := Lib.hid (by subst hS; exact fun W W' h hb => ⟨bstep h.1 hb, h.2.below hb h.2.lt⟩)
          have HSR : Hid ((∀ p : InS S, row? p.W wr.heap.size 0 17 = some (adC l[j + 1])) ∧ ∀ p : InS S, row? p.W b (o + j * 17) 17 = some (adC l[j])) := Lib.hid (by subst hS; exact ⟨fun p => box_row p.h.2 hoc, fun p => row?_below (RA j g0) hbl p.h.1⟩)
          have HSB : Hid (∀ W, S W → Below w.heap.size w W) := Lib.hid (by subst hS; exact fun W h => h.1)
          have HS1 : Hid (S (aggW (wr.alloc (.cells #[.bool false, .int .u8 0, .int .u8 0, .int .u8 0, .int .u8 0, .int .u8 0, .int .u8 0, .int .u8 0, .int .u8 0, .int .u8 0, .int .u8 0, .int .u8 0, .int .u8 0, .int .u8 0, .int .u8 0, .int .u8 0, .int .u8 0] 37)) wr.heap.size (adC l[j + 1]))) := Lib.hid (by subst hS; exact ⟨bstep HB.out HBX.out.2, HBX.out.1⟩)
          generalize cmpV l[j].1 l[j + 1].1 l[j].2 l[j + 1].2 = z at HCM HLT
          generalize ltA l[j] l[j + 1] = y at HLT HNX HBAD
          generalize adC l[j + 1] = A at r1 hfok HGC HSR HS1 HCM
          generalize adC l[j] = B at HSR HCM
          clear RA hbl g1 hoc hgc hS HBX g0
          cases y with
          | true =>
            have hz : decide (0 ≤ z) = false := decide_eq_false (by have := of_decide_eq_true HLT.out; omega)
            have hz2 : ¬ (0 ≤ z) := of_decide_eq_false hz
            go_upto_region 4 with (fail)
            generalize aggW (wr.alloc _) wr.heap.size _ = W1 at HS1 ⊢
            clear hfm hfok r1
            obtain ⟨fr, fr2⟩ := HSR.out
            have hne : Nonempty (InS S) := ⟨⟨_, HS1.out⟩⟩
            refine wp_region_inS S (by kernel_rfl) (by kernel_rfl) (HKP.out _ _ HS1.out (bdrewN (Below.refl _ _) 1)) ?_
            repeat (go_big_quiet_step (first
              | (go_at_call 48; exact Calls.inS HKP.out _ (fun W _ => HGC.out W))
              | (go_at_call 52; exact Calls.inS HKP.out _ (fun W _ => HCM.out W))))
            refine wpQuiet_nil ?_
            rintro _ ⟨⟨W2, hS2⟩, rfl⟩
            have H2 := Lib.hid (HSB.out _ hS2)
            clear hS2 fr fr2 hne
            go_wp2
            go_roundw
            case rel => exact ⟨j + 2, by omega, by go_num, Lib.hid (HNX.out rfl), H2⟩
            case measure => simp [intOf]; omega
          | false =>
            have hz : decide (0 ≤ z) = true := decide_eq_true (by have := of_decide_eq_false HLT.out; omega)
            have hz2 : 0 ≤ z := of_decide_eq_true hz
            have HRF := Lib.hid (HBAD.out rfl)
            go_upto_region 4 with (fail)
            generalize aggW (wr.alloc _) wr.heap.size _ = W1 at HS1 ⊢
            clear hfm hfok r1
            obtain ⟨fr, fr2⟩ := HSR.out
            have hne : Nonempty (InS S) := ⟨⟨_, HS1.out⟩⟩
            refine wp_region_inS S (by kernel_rfl) (by kernel_rfl) (HKP.out _ _ HS1.out (bdrewN (Below.refl _ _) 1)) ?_
            repeat (go_big_quiet_step (first
              | (go_at_call 48; exact Calls.inS HKP.out _ (fun W _ => HGC.out W))
              | (go_at_call 52; exact Calls.inS HKP.out _ (fun W _ => HCM.out W))))
            refine wpQuiet_nil ?_
            rintro _ ⟨⟨W2, hS2⟩, rfl⟩
            have H2 := Lib.hid (HSB.out _ hS2)
            clear hS2 fr fr2 hne
            go_wp2
            go_ret
            exact ⟨ret_bool8 (by rw [HRF.out]), H2.out⟩
    · have hd : ¬ (k : Int) < (n : Int) := by omega
      have HRT : Hid (R = true) := Lib.hid (by
        have e := HG.out
        unfold GS at e
        rw [List.take_of_length_le (by rw [← HN.out]; omega)] at e
        exact HR.out.2 e)
      go_wp2
      go_ret
      exact ⟨ret_bool8 (by rw [HRT.out]), HB.out⟩
end Go.Proofs.Ytokpogoblnhihaa
