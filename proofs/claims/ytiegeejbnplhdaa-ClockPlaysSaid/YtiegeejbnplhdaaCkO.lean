/-
  The clock's order: by deadlines, and by the keys at one time.
-/
import Derived.Test.YtiegeejbnplhdaaCkS
import Derived.Sort.Grow
import Derived.StillTailTactics
namespace Go.Proofs.Ytiegeejbnplhdaa
open Go.RowKit
set_option linter.unusedVariables false
set_option linter.unusedSimpArgs false

def cmpI (x y : Int) : Int := if x < y then -1 else if y < x then 1 else 0
def cmpK (a b : List UInt8) : Int := if ltK a b then -1 else if ltK b a then 1 else 0
def orI (x y : Int) : Int := if x = 0 then y else x
def cfE (l : List EN) (a b : List UInt8) : Int := orI (cmpI (tOf l a) (tOf l b)) (cmpK a b)

set_option maxRecDepth 100000 in
theorem nani_any (x : Int) (w : World) : Calls Try.prog 50 #[.int .i64 x] w fun e w' => e = .returned (.bool false) ∧ w = w' := by
  have h : (x != x) = false := by simp
  go_enter Try.func50, Try.ntmps50
  go_wp2
  go_ret
  exact ⟨rfl, rfl⟩
set_option maxRecDepth 100000 in
theorem nans_any (x : List UInt8) (w : World) : Calls Try.prog 51 #[.string (Str x)] w fun e w' => e = .returned (.bool false) ∧ w = w' := by
  have h : ((Str x).toList == (Str x).toList) = true := by simp
  have h2 : ((Str x).toList != (Str x).toList) = false := by simp
  go_enter Try.func51, Try.ntmps51
  go_wp2
  go_ret
  exact ⟨rfl, rfl⟩
set_option maxRecDepth 100000 in
theorem cmpi_any (x y : Int) (w : World) : Calls Try.prog 36 #[.int .i64 x, .int .i64 y] w fun e w' => e = .returned (.int .i64 (cmpI x y)) ∧ w = w' := by
  have HN := Lib.hid (fun x => nani_any x w)
  obtain ⟨c, hc⟩ : ∃ c, c = cmpI x y := ⟨_, rfl⟩
  rw [← hc]
  have HC := Lib.hid hc
  clear hc
  by_cases h1 : x < y
  · have e : Hid (c = -1) := Lib.hid (by rw [HC.out]; unfold cmpI; rw [if_pos h1])
    have d1 : decide (x < y) = true := decide_eq_true h1
    go_enter Try.func36, Try.ntmps36
    go_wp2_with (go_at_call 50; refine (HN.out _).mono ?_; rintro _ w1 ⟨rfl, rfl⟩)
    go_ret
    exact ⟨by rw [e.out]; rfl, rfl⟩
  · by_cases h2 : y < x
    · have e : Hid (c = 1) := Lib.hid (by rw [HC.out]; unfold cmpI; rw [if_neg h1, if_pos h2])
      have d1 : decide (x < y) = false := decide_eq_false h1
      have d2 : decide (y < x) = true := decide_eq_true h2
      have d3 : decide (x > y) = true := decide_eq_true h2
      go_enter Try.func36, Try.ntmps36
      go_wp2_with (go_at_call 50; refine (HN.out _).mono ?_; rintro _ w1 ⟨rfl, rfl⟩)
      go_ret
      exact ⟨by rw [e.out]; rfl, rfl⟩
    · have e : Hid (c = 0) := Lib.hid (by rw [HC.out]; unfold cmpI; rw [if_neg h1, if_neg h2])
      have d1 : decide (x < y) = false := decide_eq_false h1
      have d2 : decide (y < x) = false := decide_eq_false h2
      have d3 : decide (x > y) = false := decide_eq_false h2
      go_enter Try.func36, Try.ntmps36
      go_wp2_with (go_at_call 50; refine (HN.out _).mono ?_; rintro _ w1 ⟨rfl, rfl⟩)
      go_ret
      exact ⟨by rw [e.out]; rfl, rfl⟩
theorem gtr_str (x y : List UInt8) (w : World) : (binOp .gtr 9 (.string (Str x)) (.string (Str y))).run Try.prog w = .ok (.bool (ltK y x)) w := by
  have h1 := str_lessK x y
  have h2 := str_beqK x y
  have h3 : ltK y x = !(ltK x y || decide (x = y)) := by
    cases h : ltK x y with
    | true =>
      rw [(ltK_ord).anti h]; rfl
    | false =>
      by_cases e : x = y
      · subst e; rw [ltK_irr]; simp
      · rcases ltK_tot x y e with k | k
        · rw [h] at k; cases k
        · rw [k, decide_eq_false e]; rfl
  rw [h3, ← h1, ← h2]
  simp [binOp, run_underlying Try.underlying9, Op.stringOp]
set_option maxRecDepth 100000 in
theorem cmps_any (x y : List UInt8) (w : World) : Calls Try.prog 37 #[.string (Str x), .string (Str y)] w fun e w' => e = .returned (.int .i64 (cmpK x y)) ∧ w = w' := by
  have HN := Lib.hid (fun x => nans_any x w)
  obtain ⟨c, hc⟩ : ∃ c, c = cmpK x y := ⟨_, rfl⟩
  rw [← hc]
  have HC := Lib.hid hc
  clear hc
  have q1 := str_lessK x y
  have q2 := gtr_str x y
  cases h1 : ltK x y with
  | true =>
    have e : Hid (c = -1) := Lib.hid (by rw [HC.out]; unfold cmpK; rw [if_pos h1])
    rw [h1] at q1
    clear q2
    go_enter Try.func37, Try.ntmps37
    go_wp2_with (go_at_call 51; refine (HN.out _).mono ?_; rintro _ w1 ⟨rfl, rfl⟩)
    go_ret
    exact ⟨by rw [e.out]; rfl, rfl⟩
  | false =>
    rw [h1] at q1
    cases h2 : ltK y x with
    | true =>
      have e : Hid (c = 1) := Lib.hid (by rw [HC.out]; unfold cmpK; rw [h1, h2]; rfl)
      rw [h2] at q2
      go_enter Try.func37, Try.ntmps37
      go_wp2_with (go_at_call 51; refine (HN.out _).mono ?_; rintro _ w1 ⟨rfl, rfl⟩)
      go_ret
      exact ⟨by rw [e.out]; rfl, rfl⟩
    | false =>
      have e : Hid (c = 0) := Lib.hid (by rw [HC.out]; unfold cmpK; rw [h1, h2]; rfl)
      rw [h2] at q2
      go_enter Try.func37, Try.ntmps37
      go_wp2_with (go_at_call 51; refine (HN.out _).mono ?_; rintro _ w1 ⟨rfl, rfl⟩)
      go_ret
      exact ⟨by rw [e.out]; rfl, rfl⟩
set_option maxRecDepth 100000 in
theorem or2_any (b : Nat) (x y : Int) (w : World) (c0 : w.cell? ⟨b, 0, none⟩ = some (.int .i64 x)) (c1 : w.cell? ⟨b, 1, none⟩ = some (.int .i64 y)) : Calls Try.prog 35 #[.slice (some ⟨b, 0, none⟩) 2 2] w fun e w' => e = .returned (.int .i64 (orI x y)) ∧ w = w' := by
  obtain ⟨c, hc⟩ : ∃ c, c = orI x y := ⟨_, rfl⟩
  rw [← hc]
  have HC := Lib.hid hc
  clear hc
  by_cases h1 : x = 0
  · have e : Hid (c = y) := Lib.hid (by rw [HC.out]; unfold orI; rw [if_pos h1])
    subst h1
    by_cases h2 : y = 0
    · subst h2
      go_enter Try.func35, Try.ntmps35
      go_wp2_with fail
      refine wp_loop_rounds 3 ?_
      rw [rounds_succ]
      go_wp2
      rw [rounds_succ]
      go_wp2
      rw [rounds_succ]
      go_wp2
      go_ret
      exact ⟨by rw [e.out]; rfl, rfl⟩
    · have n2 : (y != 0) = true := by simpa using h2
      go_enter Try.func35, Try.ntmps35
      go_wp2_with fail
      refine wp_loop_rounds 3 ?_
      rw [rounds_succ]
      go_wp2
      rw [rounds_succ]
      go_wp2
      go_ret
      exact ⟨by rw [e.out]; rfl, rfl⟩
  · have e : Hid (c = x) := Lib.hid (by rw [HC.out]; unfold orI; rw [if_neg h1])
    have n1 : (x != 0) = true := by simpa using h1
    go_enter Try.func35, Try.ntmps35
    go_wp2_with fail
    refine wp_loop_rounds 3 ?_
    rw [rounds_succ]
    go_wp2
    go_ret
    exact ⟨by rw [e.out]; rfl, rfl⟩
/-- A look-up at a key in a map of deadlines. -/
theorem lookE {w : World} {bm : Nat} {l : List EN} (hM : OwnM w bm l) (ho : CkOk l) (k : List UInt8) (hk : k.length ≤ maxLen) (n : Nat) : (Instr.lookup 49 (.map (some bm)) (.string (Str k)) false).run Try.prog (w.drewN n) = .ok (.int .i64 (tOf l k)) (w.drewN n) := by
  obtain ⟨D, hD, hR⟩ := hM
  have hD' : (w.drewN n).ownsMap Try.prog 9 (plainElem Try.prog 3) bm l.length D := hD
  obtain ⟨c, hrun, hat, _⟩ := hD'.lookup_int mapKeyed Try.underlying49 Try.underlying3 (mapZero _) (keyOf_Str k hk)
  have h1 := hat.symm.trans (hR.atk ho k)
  have : c = tOf l k := by simpa using h1
  rw [hrun, this]
set_option maxRecDepth 100000 in
theorem order_any (b bm : Nat) (l : List EN) (ka kb : List UInt8) (w : World) (ho : ObjAt w b #[.map (some bm)] 51) (hM : OwnM w bm l) (hok : CkOk l) (hka : ka.length ≤ maxLen) (hkb : kb.length ≤ maxLen) :
    Calls Try.prog 29 #[.pointer (some ⟨b, 0, none⟩), .string (Str ka), .string (Str kb)] w fun x w' => x = .returned (.int .i64 (cfE l ka kb)) ∧ ∃ q os, w' = Sort.grow (w.drewN q) os := by
  have c0 : w.drew.cell? ⟨b, 0, none⟩ = some (.map (some bm)) := ho.cell 0
  have HC : Hid (cfE l ka kb = orI (cmpI (tOf l ka) (tOf l kb)) (cmpK ka kb)) := Lib.hid rfl
  have hl1 := lookE hM hok ka hka 1
  have hl2 := lookE hM hok kb hkb 1
  change Sem.run Try.prog _ w.drew = .ok _ w.drew at hl1
  change Sem.run Try.prog _ w.drew = .ok _ w.drew at hl2
  generalize tOf l ka = x at *
  generalize tOf l kb = y at *
  have HI := Lib.hid (fun W => cmpi_any x y W)
  have HS := Lib.hid (fun W => cmps_any ka kb W)
  generalize cmpI x y = c at *
  generalize cmpK ka kb = d at *
  have HO := Lib.hid (fun b x y w h1 h2 => or2_any b x y w h1 h2)
  clear ho hM hok
  go_enter Try.func29, Try.ntmps29
  go_wp2_with fail
  refine wp_region_still_tail 16 (by kernel_rfl) (by kernel_rfl) ?_
  simp only [List.take_succ_cons, List.take_zero, List.drop_succ_cons, List.drop_zero]
  change wpStill _ _ w.drew (fun a' => wpList _ _ _ _ a' w.drew) _ _
  have HW : Hid (∃ q os, w.drew = Sort.grow (w.drewN q) os) := Lib.hid ⟨1, #[], by rw [Sort.grow_empty]; rfl⟩
  generalize w.drew = W at *
  repeat still_step
  still_call ((HI.out W).mono fun _ _ h => ⟨h.1, h.2.symm⟩)
  repeat still_step
  still_call ((HS.out W).mono fun _ _ h => ⟨h.1, h.2.symm⟩)
  repeat still_step
  refine wpStill_nil ?_
  have HP := Lib.hid (ObjAt.made W #[.int .i64 c, .int .i64 d] 3)
  go_wp2_with (go_at_call 35; refine (HO.out _ _ _ _ (HP.out.cell 0) (HP.out.cell 1)).mono ?_; rintro _ w1 ⟨rfl, rfl⟩)
  go_ret
  obtain ⟨q, os, e⟩ := HW.out
  exact ⟨by rw [HC.out]; rfl, q, os ++ #[_], by rw [e, Sort.alloc_eq_grow, Sort.grow_grow]⟩
end Go.Proofs.Ytiegeejbnplhdaa
