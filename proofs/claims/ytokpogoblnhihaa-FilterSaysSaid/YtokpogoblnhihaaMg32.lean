/-
  Texts joined: FtH, FtL.
-/
import Derived.Test.YtokpogoblnhihaaFtHc
import Derived.Test.YtokpogoblnhihaaMg03
/-
  Layer 15: the program's answers, together.
-/

/-
  Layer 15: what the laws begin with: their addresses, and whether a filter is turned.
-/
namespace Go.Proofs.Ytokpogoblnhihaa
open Go.RowKit
set_option linter.unusedVariables false
set_option linter.unusedSimpArgs false

attribute [local go_sem ↓] bld_addr bld_b16 ld_addr st_addr ld_b16
attribute [local go_sem] ldr_addr str_addr ldr_b16 row?_drewN_eq row?_drew_eq

set_option maxRecDepth 100000 in
set_option maxHeartbeats 1000000 in
theorem four15_any (d : Int) (w : World) : Calls Try.prog 37 #[.int .u8 d] w fun e w' => e = .returned (.agg #[.bool false, .int .u8 10, .int .u8 0, .int .u8 0, .int .u8 d, .int .u8 0, .int .u8 0, .int .u8 0, .int .u8 0, .int .u8 0, .int .u8 0, .int .u8 0, .int .u8 0, .int .u8 0, .int .u8 0, .int .u8 0, .int .u8 0]) ∧ Below w.heap.size w w' := by
  have hok : fok #[.bool false, .int .u8 10, .int .u8 0, .int .u8 0, .int .u8 d, .int .u8 0, .int .u8 0, .int .u8 0, .int .u8 0, .int .u8 0, .int .u8 0, .int .u8 0, .int .u8 0, .int .u8 0, .int .u8 0, .int .u8 0, .int .u8 0] 17 = true := by simp [fok, Value.oneCell']
  have hb1 : ∀ w0, (aggBuild 35 #[(0, .int .u8 10), (1, .int .u8 0), (2, .int .u8 0), (3, .int .u8 d)]).run Try.prog w0 = .ok (.agg #[.int .u8 10, .int .u8 0, .int .u8 0, .int .u8 d, .int .u8 0, .int .u8 0, .int .u8 0, .int .u8 0, .int .u8 0, .int .u8 0, .int .u8 0, .int .u8 0, .int .u8 0, .int .u8 0, .int .u8 0, .int .u8 0]) w0 := bld_run _ _ _ (by kernel_rfl)
  have hb2 : ∀ w0, (aggBuild 37 #[(1, .agg #[.int .u8 10, .int .u8 0, .int .u8 0, .int .u8 d, .int .u8 0, .int .u8 0, .int .u8 0, .int .u8 0, .int .u8 0, .int .u8 0, .int .u8 0, .int .u8 0, .int .u8 0, .int .u8 0, .int .u8 0, .int .u8 0])]).run Try.prog w0 = .ok (.agg #[.bool false, .int .u8 10, .int .u8 0, .int .u8 0, .int .u8 d, .int .u8 0, .int .u8 0, .int .u8 0, .int .u8 0, .int .u8 0, .int .u8 0, .int .u8 0, .int .u8 0, .int .u8 0, .int .u8 0, .int .u8 0, .int .u8 0]) w0 := bld_run _ _ _ (by kernel_rfl)
  go_enter Try.func37, Try.ntmps37
  go_upto_region 1 with (fail)
  have hf := free_made w #[.bool false, .int .u8 0, .int .u8 0, .int .u8 0, .int .u8 0, .int .u8 0, .int .u8 0, .int .u8 0, .int .u8 0, .int .u8 0, .int .u8 0, .int .u8 0, .int .u8 0, .int .u8 0, .int .u8 0, .int .u8 0, .int .u8 0] 37 17 (by simp)
  have hb : Below w.heap.size w (w.alloc (.cells #[.bool false, .int .u8 0, .int .u8 0, .int .u8 0, .int .u8 0, .int .u8 0, .int .u8 0, .int .u8 0, .int .u8 0, .int .u8 0, .int .u8 0, .int .u8 0, .int .u8 0, .int .u8 0, .int .u8 0, .int .u8 0, .int .u8 0] 37)) := (Below.refl _ _).alloc (Nat.le_refl _) _
  generalize w.alloc (.cells #[.bool false, .int .u8 0, .int .u8 0, .int .u8 0, .int .u8 0, .int .u8 0, .int .u8 0, .int .u8 0, .int .u8 0, .int .u8 0, .int .u8 0, .int .u8 0, .int .u8 0, .int .u8 0, .int .u8 0, .int .u8 0, .int .u8 0] 37) = W at hf hb ⊢
  have Hb := Lib.hid hb; clear hb
  go_wp2
  have hr := aggW_row (cs := [.bool false, .int .u8 10, .int .u8 0, .int .u8 0, .int .u8 d, .int .u8 0, .int .u8 0, .int .u8 0, .int .u8 0, .int .u8 0, .int .u8 0, .int .u8 0, .int .u8 0, .int .u8 0, .int .u8 0, .int .u8 0, .int .u8 0]) hf rfl
  exact bodyPost_ret (results_cell Try.results37 rfl (ld_some hr (ldr_addr _ _ _))) rfl ⟨rfl, aggW_below Hb.out (Nat.le_refl _) _⟩



noncomputable def adsLit2 (p : Array (Nat × Value)) : Sem Value := Instr.buildSlice 22 2 p
theorem adsLit2_eq (p : Array (Nat × Value)) : Instr.buildSlice 22 2 p = adsLit2 p := rfl
def ftA (d : UInt8) : AD := (false, [10, 0, 0, d, 0, 0, 0, 0, 0, 0, 0, 0, 0, 0, 0, 0])
theorem ftA_ok (d : UInt8) : adOk (ftA d) := rfl
theorem ft_four (n : Int) (d : UInt8) (h : (d.toNat : Int) = n) (w : World) : Calls Try.prog 37 #[.int .u8 n] w fun x w' => x = .returned (.agg (adC (ftA d)).toArray) ∧ Below w.heap.size w w' := by
  subst h
  exact four15_any _ w
theorem adsLit2_run (a b : UInt8) (w : World) : (adsLit2 #[(0, .agg (adC (ftA a)).toArray), (1, .agg (adC (ftA b)).toArray)]).run Try.prog w = .ok (.slice (some ⟨w.heap.size, 0, none⟩) 2 2) (w.alloc (.cells (adC (ftA a) ++ adC (ftA b)).toArray 37)) := by
  obtain ⟨i0, hi0, hz0, hz1, hz2⟩ := info_parts info_ad
  refine run_buildSlice w 22 37 2 _ _ i0 _ Try.underlying22 hi0 hz0 (by rw [hz1]; decide) (by rw [hz1]; decide) ?_
  rw [hz1]
  kernel_rfl
theorem ads_lit2 (W : World) (a b : UInt8) : AdsT (W.alloc (.cells (adC (ftA a) ++ adC (ftA b)).toArray 37)) (.slice (some ⟨W.heap.size, 0, none⟩) 2 2) [ftA a, ftA b] := by
  have hm := ObjAt.made W (adC (ftA a) ++ adC (ftA b)).toArray 37
  have l1 : ∀ x, (adC (ftA x)).length = 17 := fun x => adC_length (ftA_ok x)
  refine ⟨⟨some ⟨W.heap.size, 0, none⟩, 2, rfl, Nat.le_refl _, by decide, fun x hx => by simp at hx; rcases hx with rfl | rfl <;> rfl, fun _ => ⟨W.heap.size, 0, rfl, hm.lt, fun i hi => ?_⟩⟩, fun b o n c e => ?_⟩
  · have h0 : i = 0 ∨ i = 1 := by simp at hi; omega
    rcases h0 with rfl | rfl
    · exact obj_row (A := []) (M := adC (ftA a)) (C := adC (ftA b)) (by simpa using hm) rfl (l1 a)
    · exact obj_row (A := adC (ftA a)) (M := adC (ftA b)) (C := []) (by simpa using hm) (l1 a) (l1 b)
  · simp only [Value.slice.injEq, Option.some.injEq, Addr.mk.injEq] at e
    obtain ⟨⟨rfl, _, _⟩, _, _⟩ := e
    exact ⟨hm.lt, _, _, hm⟩
def ftS : ST := ⟨false, [ftA 1, ftA 2], []⟩
def ftP : SP := ⟨⟨true, [ftA 2], [ftA 3]⟩, [], [], true, [], false⟩
theorem ft_good : ftS.Good := gdS_iff.1 (by decide +kernel)
theorem ft_step : stepR ftS 2 (ofA [ftA 2, ftA 3]) = ftP := by decide +kernel
theorem ft_good2 : ftP.st.Good := gdS_iff.1 (by decide +kernel)
end Go.Proofs.Ytokpogoblnhihaa

