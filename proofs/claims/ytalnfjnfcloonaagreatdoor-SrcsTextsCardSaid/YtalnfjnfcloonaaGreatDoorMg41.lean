/-
  Texts joined: SeL, SeJ.
-/
import Derived.Test.YtalnfjnfcloonaaGreatDoorMg25
import Derived.Test.YtalnfjnfcloonaaGreatDoorMg40
import Derived.Test.YtalnfjnfcloonaaGreatDoorAd2
import Derived.Lib.AppendZeros
/-
  What the law of layer 11 begins with: its four addresses, and whether a set is made.
-/
namespace Go.Proofs.YtalnfjnfcloonaaGreatDoor
open Go.RowKit
set_option linter.unusedVariables false
set_option linter.unusedSimpArgs false
attribute [local go_sem ↓] bld_addr bld_b16 ld_addr st_addr ld_b16
attribute [local go_sem] ldr_addr str_addr ldr_b16 row?_drewN_eq row?_drew_eq

set_option maxRecDepth 100000 in
set_option maxHeartbeats 1000000 in
theorem four11_any (d : Int) (w : World) : Calls Tryz.prog 21 #[.int .u8 d] w fun e w' => e = .returned (.agg #[.bool false, .int .u8 10, .int .u8 0, .int .u8 0, .int .u8 d, .int .u8 0, .int .u8 0, .int .u8 0, .int .u8 0, .int .u8 0, .int .u8 0, .int .u8 0, .int .u8 0, .int .u8 0, .int .u8 0, .int .u8 0, .int .u8 0]) ∧ Below w.heap.size w w' := by
  have hok : fok #[.bool false, .int .u8 10, .int .u8 0, .int .u8 0, .int .u8 d, .int .u8 0, .int .u8 0, .int .u8 0, .int .u8 0, .int .u8 0, .int .u8 0, .int .u8 0, .int .u8 0, .int .u8 0, .int .u8 0, .int .u8 0, .int .u8 0] 17 = true := by simp [fok, Value.oneCell']
  have hb1 : ∀ w0, (aggBuild 34 #[(0, .int .u8 10), (1, .int .u8 0), (2, .int .u8 0), (3, .int .u8 d)]).run Tryz.prog w0 = .ok (.agg #[.int .u8 10, .int .u8 0, .int .u8 0, .int .u8 d, .int .u8 0, .int .u8 0, .int .u8 0, .int .u8 0, .int .u8 0, .int .u8 0, .int .u8 0, .int .u8 0, .int .u8 0, .int .u8 0, .int .u8 0, .int .u8 0]) w0 := bld_run _ _ _ (by kernel_rfl)
  have hb2 : ∀ w0, (aggBuild 36 #[(1, .agg #[.int .u8 10, .int .u8 0, .int .u8 0, .int .u8 d, .int .u8 0, .int .u8 0, .int .u8 0, .int .u8 0, .int .u8 0, .int .u8 0, .int .u8 0, .int .u8 0, .int .u8 0, .int .u8 0, .int .u8 0, .int .u8 0])]).run Tryz.prog w0 = .ok (.agg #[.bool false, .int .u8 10, .int .u8 0, .int .u8 0, .int .u8 d, .int .u8 0, .int .u8 0, .int .u8 0, .int .u8 0, .int .u8 0, .int .u8 0, .int .u8 0, .int .u8 0, .int .u8 0, .int .u8 0, .int .u8 0, .int .u8 0]) w0 := bld_run _ _ _ (by kernel_rfl)
  go_enter Tryz.func21, Tryz.ntmps21
  go_upto_region 1 with (fail)
  have hf := free_made w #[.bool false, .int .u8 0, .int .u8 0, .int .u8 0, .int .u8 0, .int .u8 0, .int .u8 0, .int .u8 0, .int .u8 0, .int .u8 0, .int .u8 0, .int .u8 0, .int .u8 0, .int .u8 0, .int .u8 0, .int .u8 0, .int .u8 0] 36 17 (by simp)
  have hb : Below w.heap.size w (w.alloc (.cells #[.bool false, .int .u8 0, .int .u8 0, .int .u8 0, .int .u8 0, .int .u8 0, .int .u8 0, .int .u8 0, .int .u8 0, .int .u8 0, .int .u8 0, .int .u8 0, .int .u8 0, .int .u8 0, .int .u8 0, .int .u8 0, .int .u8 0] 36)) := (Below.refl _ _).alloc (Nat.le_refl _) _
  generalize w.alloc (.cells #[.bool false, .int .u8 0, .int .u8 0, .int .u8 0, .int .u8 0, .int .u8 0, .int .u8 0, .int .u8 0, .int .u8 0, .int .u8 0, .int .u8 0, .int .u8 0, .int .u8 0, .int .u8 0, .int .u8 0, .int .u8 0, .int .u8 0] 36) = W at hf hb ⊢
  have Hb := Lib.hid hb; clear hb
  go_wp2
  have hr := aggW_row (cs := [.bool false, .int .u8 10, .int .u8 0, .int .u8 0, .int .u8 d, .int .u8 0, .int .u8 0, .int .u8 0, .int .u8 0, .int .u8 0, .int .u8 0, .int .u8 0, .int .u8 0, .int .u8 0, .int .u8 0, .int .u8 0, .int .u8 0]) hf rfl
  exact bodyPost_ret (results_cell Tryz.results21 rfl (ld_some hr (ldr_addr _ _ _))) rfl ⟨rfl, aggW_below Hb.out (Nat.le_refl _) _⟩


noncomputable def adsLit3 (p : Array (Nat × Value)) : Sem Value := Instr.buildSlice 22 3 p
theorem adsLit3_eq (p : Array (Nat × Value)) : Instr.buildSlice 22 3 p = adsLit3 p := rfl
def lvA (d : UInt8) : AD := (false, [10, 0, 0, d, 0, 0, 0, 0, 0, 0, 0, 0, 0, 0, 0, 0])
theorem lvA_ok (d : UInt8) : adOk (lvA d) := rfl
theorem lv_four (n : Int) (d : UInt8) (h : (d.toNat : Int) = n) (w : World) : Calls Tryz.prog 21 #[.int .u8 n] w fun x w' => x = .returned (.agg (adC (lvA d)).toArray) ∧ Below w.heap.size w w' := by
  subst h
  exact four11_any _ w
theorem lv_of : ofA [lvA 2, lvA 1, lvA 2] = [lvA 1, lvA 2] := by decide +kernel
theorem lv_print : prtL [lvA 1, lvA 2] = [49, 48, 46, 48, 46, 48, 46, 49, 44, 49, 48, 46, 48, 46, 48, 46, 50] := by decide +kernel
theorem lv_sorted : Sorted ltA [lvA 1, lvA 2] := by unfold Sorted; decide +kernel
theorem lv_ne (a : AD) (h : a ∈ [lvA 1, lvA 2]) : prtB a ≠ [] := by
  simp only [List.mem_cons, List.not_mem_nil, or_false] at h
  rcases h with rfl | rfl <;> decide +kernel
theorem adsLit3_run (a b c : UInt8) (w : World) : (adsLit3 #[(0, .agg (adC (lvA a)).toArray), (1, .agg (adC (lvA b)).toArray), (2, .agg (adC (lvA c)).toArray)]).run Tryz.prog w = .ok (.slice (some ⟨w.heap.size, 0, none⟩) 3 3) (w.alloc (.cells (adC (lvA a) ++ (adC (lvA b) ++ adC (lvA c))).toArray 36)) := by
  obtain ⟨i0, hi0, hz0, hz1, hz2⟩ := info_parts info_ad
  refine run_buildSlice w 22 36 3 _ _ i0 _ Tryz.underlying22 hi0 hz0 (by rw [hz1]; decide) (by rw [hz1]; decide) ?_
  rw [hz1]
  kernel_rfl
theorem ads_lit3 (W : World) (a b c : UInt8) : Ads (W.alloc (.cells (adC (lvA a) ++ (adC (lvA b) ++ adC (lvA c))).toArray 36)) (.slice (some ⟨W.heap.size, 0, none⟩) 3 3) [lvA a, lvA b, lvA c] := by
  have hm := ObjAt.made W (adC (lvA a) ++ (adC (lvA b) ++ adC (lvA c))).toArray 36
  have l1 : ∀ x, (adC (lvA x)).length = 17 := fun x => adC_length (lvA_ok x)
  refine ⟨some ⟨W.heap.size, 0, none⟩, 3, rfl, Nat.le_refl _, by decide, fun x hx => by simp at hx; rcases hx with rfl | rfl | rfl <;> rfl, fun _ => ⟨W.heap.size, 0, rfl, hm.lt, fun i hi => ?_⟩⟩
  have h0 : i = 0 ∨ i = 1 ∨ i = 2 := by simp at hi; omega
  rcases h0 with rfl | rfl | rfl
  · exact obj_row (A := []) (M := adC (lvA a)) (C := adC (lvA b) ++ adC (lvA c)) (by simpa using hm) rfl (l1 a)
  · exact obj_row (A := adC (lvA a)) (M := adC (lvA b)) (C := adC (lvA c)) (by simpa using hm) (l1 a) (l1 b)
  · exact obj_row (A := adC (lvA a) ++ adC (lvA b)) (M := adC (lvA c)) (C := []) (by simpa using hm) (by rw [List.length_append, l1, l1]) (l1 c)

attribute [local go_sem ↓] adsLit3_eq
/-- The set that lives makes, and what is asked of it. -/
def LV (w : World) (g : Nat) (cap : Nat) (W : World) : Prop := Below w.heap.size w W ∧ Ads W (.slice (some ⟨g, 0, none⟩) 2 cap) [lvA 1, lvA 2] ∧ row? W g 0 17 = some (adC (lvA 1)) ∧ Env W ∧ g < W.heap.size
theorem LV.keep {w : World} {g cap : Nat} (W W' : World) (h : LV w g cap W) (hb : Below W.heap.size W W') : LV w g cap W' := ⟨bstep h.1 hb, h.2.1.below hb, row?_below h.2.2.1 h.2.2.2.2 hb, h.2.2.2.1.below hb, Nat.lt_of_lt_of_le h.2.2.2.2 hb.size⟩
theorem LV.of {w W : World} {v : Value} (hb : Below w.heap.size w W) (ho : OwnL W w.heap.size v [lvA 1, lvA 2]) (hE : Env W) : ∃ g cap, v = .slice (some ⟨g, 0, none⟩) 2 cap ∧ LV w g cap W := by
  have hA : Ads W v [lvA 1, lvA 2] := Ads.own (fun a ha => by simp at ha; rcases ha with rfl | rfl <;> rfl) ho
  obtain ⟨b, o, cap, e, _, _, hlt, hat⟩ := hA.parts (by simp)
  have h0 := hat 0 (by simp)
  obtain ⟨h1, ⟨h2, _⟩ | ⟨g', cap', cur, e1, e2, e3, e4⟩⟩ := ho
  · rw [h2] at e; cases e
  · rw [e1] at e
    simp only [Value.slice.injEq, Option.some.injEq, Addr.mk.injEq] at e
    obtain ⟨⟨rfl, rfl, _⟩, _, rfl⟩ := e
    exact ⟨g', cap', e1, hb, by have := hA; rw [e1] at this; exact this, by simpa using h0, hE, hlt⟩
set_option maxRecDepth 100000 in
set_option maxHeartbeats 4000000 in
theorem lives11_any (w : World) (hE : Env w) : Calls Tryz.prog 11 #[] w fun x w' => x = .returned (.bool true) ∧ Below w.heap.size w w' := by
  have HE := Lib.hid hE
  have HF2 := Lib.hid (fun W => lv_four 2 2 rfl W)
  have HF1 := Lib.hid (fun W => lv_four 1 1 rfl W)
  have HF3 := Lib.hid (fun W => lv_four 3 3 rfl W)
  have hl3 := adsLit3_run 2 1 2
  have HOF : Hid (∀ W, Calls Tryz.prog 20 #[.slice (some ⟨W.heap.size, 0, none⟩) 3 3] (W.alloc (.cells (adC (lvA 2) ++ (adC (lvA 1) ++ adC (lvA 2))).toArray 36)) fun x w' => ∃ v', x = .returned v' ∧ Below W.heap.size W w' ∧ OwnL w' W.heap.size v' [lvA 1, lvA 2]) := Lib.hid fun W => by
    refine (sof_any _ _ _ (ads_lit3 W 2 1 2) (by simp)).mono ?_
    rintro x w' ⟨v', hx, hb, ho⟩
    rw [lv_of] at ho
    exact ⟨v', hx, bstep (bbS W _) hb, own_mono ho (by simp)⟩
  have HH2 : Hid (∀ g cap W, LV w g cap W → Calls Tryz.prog 22 #[.slice (some ⟨g, 0, none⟩) 2 cap, .agg (adC (lvA 2)).toArray] W fun x w' => x = .returned (.bool true) ∧ Below W.heap.size W w') := Lib.hid fun g cap W h => by
    have := shas_any _ _ (lvA 2) W h.2.1 lv_sorted (by simp) (lvA_ok 2)
    rwa [show decide (lvA 2 ∈ [lvA 1, lvA 2]) = true by decide +kernel] at this
  have HH3 : Hid (∀ g cap W, LV w g cap W → Calls Tryz.prog 22 #[.slice (some ⟨g, 0, none⟩) 2 cap, .agg (adC (lvA 3)).toArray] W fun x w' => x = .returned (.bool false) ∧ Below W.heap.size W w') := Lib.hid fun g cap W h => by
    have := shas_any _ _ (lvA 3) W h.2.1 lv_sorted (by simp) (lvA_ok 3)
    rwa [show decide (lvA 3 ∈ [lvA 1, lvA 2]) = false by decide +kernel] at this
  have HPR : Hid (∀ g cap W, LV w g cap W → Calls Tryz.prog 9 #[.slice (some ⟨g, 0, none⟩) 2 cap] W fun x w' => x = .returned (.string ⟨#[49, 48, 46, 48, 46, 48, 46, 49, 44, 49, 48, 46, 48, 46, 48, 46, 50]⟩) ∧ Below W.heap.size W w') := Lib.hid fun g cap W h => by
    have := sprint_any _ _ W h.2.1 (by simp) lv_ne h.2.2.2.1
    rwa [lv_print] at this
  have q := fun w0 => eq_ad (lvA 1) (lvA 1) (lvA_ok 1) (lvA_ok 1) w0
  rw [decide_eq_true rfl] at q
  have HLR : Hid (∀ g cap W, LV w g cap W → row? W g 0 17 = some (adC (lvA 1))) := Lib.hid fun g cap W h => h.2.2.1
  generalize adC (lvA 1) = C1 at *
  generalize adC (lvA 2) = C2 at *
  generalize adC (lvA 3) = C3 at *
  clear hE
  go_enter Tryz.func11, Tryz.ntmps11
  go_upto_region 2 with (first
    | (go_at_call 21; (with_reducible refine (HF2.out _).mono ?_); rintro x w1 ⟨rfl, hb⟩; have H1 := Lib.hid hb; clear hb)
    | (go_at_call 21; (with_reducible refine (HF1.out _).mono ?_); rintro x w2 ⟨rfl, hb⟩; have H2 := Lib.hid (bstep H1.out hb); clear hb)
    | (go_at_call 20; (with_reducible refine (HOF.out _).mono ?_); rintro x w4 ⟨v, rfl, hb, ho⟩; have H4 := Lib.hid hb; have HO := Lib.hid ho; clear hb ho))
  have hb4 := bstep (bstep H2.out H1.out) H4.out
  obtain ⟨g, cap, rfl, hlv⟩ := LV.of hb4 (own_mono HO.out (bstep H2.out H1.out).size) (HE.out.below hb4)
  have HLV := Lib.hid hlv
  clear hb4 hlv HO H4 H1 H2 hl3 HOF
  have fr : ∀ p : InS (LV w g cap), row? p.W g 0 17 = some C1 := fun p => HLR.out _ _ _ p.h
  have hne : Nonempty (InS (LV w g cap)) := ⟨⟨_, HLV.out⟩⟩
  refine wp_region_inS (LV w g cap) (by kernel_rfl) (by kernel_rfl) (LV.keep _ _ HLV.out (bdrewN (Below.refl _ _) 1)) ?_
  repeat (go_big_quiet_step (first
    | (go_at_call 21; with_reducible exact Calls.inS LV.keep _ (fun W _ => HF1.out W))
    | (go_at_call 21; with_reducible exact Calls.inS LV.keep _ (fun W _ => HF2.out W))
    | (go_at_call 21; with_reducible exact Calls.inS LV.keep _ (fun W _ => HF3.out W))
    | (go_at_call 22; with_reducible exact Calls.inS LV.keep _ (HH2.out g cap))
    | (go_at_call 22; with_reducible exact Calls.inS LV.keep _ (HH3.out g cap))
    | (go_at_call 9; with_reducible exact Calls.inS LV.keep _ (HPR.out g cap))))
  refine wpQuiet_nil ?_
  rintro _ ⟨⟨W2, hS2⟩, rfl⟩
  have H2 := Lib.hid hS2.1
  clear hS2 fr hne
  go_wp2
  go_ret
  exact ⟨rfl, H2.out⟩
end Go.Proofs.YtalnfjnfcloonaaGreatDoor

/-
  The contracts of slices.Grow of nothing, slices.Concat of two slices of addresses, and srcs' Or.
-/
namespace Go.Proofs.YtalnfjnfcloonaaGreatDoor
open Go.RowKit
set_option linter.unusedVariables false
set_option linter.unusedSimpArgs false

/-- What holds of a slice of two slices. -/
def C2 (w W : World) (p : Nat) (va vb : Value) (la lb : List AD) : Prop := Below w.heap.size w W ∧ W.cell? ⟨p, 0, none⟩ = some va ∧ W.cell? ⟨p, 1, none⟩ = some vb ∧ Ads W va la ∧ Ads W vb lb
theorem C2.below {w W W' : World} {p : Nat} {va vb : Value} {la lb : List AD} (h : C2 w W p va vb la lb) (hp : p < w.heap.size) (hb : Below w.heap.size W W') (hA : Ads w va la) (hB : Ads w vb lb) : C2 w W' p va vb la lb :=
  have h1 := h.1.trans hb
  ⟨h1, (hb.cell (p := ⟨p, 0, none⟩) hp).trans h.2.1, (hb.cell (p := ⟨p, 1, none⟩) hp).trans h.2.2.1, hA.below h1, hB.below h1⟩

end Go.Proofs.YtalnfjnfcloonaaGreatDoor

