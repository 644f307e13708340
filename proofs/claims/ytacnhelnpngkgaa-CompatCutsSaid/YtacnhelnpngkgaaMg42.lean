/-
  Texts joined: TkK, FrE.
-/
import Derived.Test.YtacnhelnpngkgaaTkH
import Derived.Test.YtacnhelnpngkgaaTkI
import Derived.Test.YtacnhelnpngkgaaTkJ
import Derived.Test.YtacnhelnpngkgaaMg39
import Derived.Test.YtacnhelnpngkgaaMdJ
import Derived.Test.YtacnhelnpngkgaaTell
/-
  The document's own Good of layer 8, of any talk.
-/
namespace Go.Proofs.Ytacnhelnpngkgaa
open Go.RowKit
theorem rgood8_all (t : TK) (us ur : Value) (w : World) (ho : t.ok) (hs : Ads w us t.src) (hr : Rcs w ur t.rcs) :
    Calls Try.prog 23 #[.agg (tkC t us ur).toArray] w fun x w' => x = .returned (.bool (good8 t)) ∧ Below w.heap.size w w' := by
  by_cases hb : t.v6 = true ∨ t.ver < 1 ∨ 3 < t.ver ∨ t.kind < 1 ∨ 3 < t.kind
  · exact rgood8_bad t us ur w ho hs hr hb _ rfl
  have hv6 : t.v6 = false := by
    cases h : t.v6
    · rfl
    · exact absurd (Or.inl h) hb
  have h1 : t.ver = 1 ∨ t.ver = 2 ∨ t.ver = 3 := by omega
  have h2 : t.kind = 1 ∨ t.kind = 2 ∨ t.kind = 3 := by omega
  rcases h1 with v | v | v <;> rcases h2 with k | k | k
  · exact rgood8_11 t us ur w ho hs hr hv6 v k _ rfl
  · exact rgood8_12 t us ur w ho hs hr hv6 v k _ rfl
  · exact rgood8_13 t us ur w ho hs hr hv6 v k _ rfl
  · exact rgood8_21 t us ur w ho hs hr hv6 v k _ rfl
  · exact rgood8_22 t us ur w ho hs hr hv6 v k _ rfl
  · exact rgood8_23 t us ur w ho hs hr hv6 v k _ rfl
  · exact rgood8_31 t us ur w ho hs hr hv6 v k _ rfl
  · exact rgood8_32 t us ur w ho hs hr hv6 v k _ rfl
  · exact rgood8_33 t us ur w ho hs hr hv6 v k _ rfl
end Go.Proofs.Ytacnhelnpngkgaa

/-
  The contracts of the document's Talk, on and Dest.
-/
namespace Go.Proofs.Ytacnhelnpngkgaa
open Go.RowKit
set_option linter.unusedVariables false
set_option linter.unusedSimpArgs false
attribute [local go_sem ↓] ld_addr st_addr bld_addr ld_tk st_tk bld_tk
attribute [local go_sem] ldr_addr str_addr ldr_tk str_tk row?_drewN_eq row?_drew_eq


set_option maxRecDepth 100000 in
set_option maxHeartbeats 4000000 in
theorem rtalk_all (t : TK) (us ur : Value) (w : World) (ho : t.ok) (hs : Ads w us t.src) (hr : Rcs w ur t.rcs) : Calls Try.prog 7 #[.agg (tkC t us ur).toArray] w fun x w' => x = .returned (.bool (gdT t)) ∧ Below w.heap.size w w' := by
  have H0 := Lib.hid (TkAt.made w t us ur ho.1)
  have HB := Lib.hid (bbox w (.cells (tkC t us ur).toArray 28))
  have H8 := Lib.hid (fun W (h : Below w.heap.size w W) => rgood8_all t us ur W ho (hs.below h) (hr.below h))
  have H9 := Lib.hid (fun W (h : Below w.heap.size w W) => rgood9_all t us ur W ho (hs.below h) (hr.below h))
  obtain ⟨R, hR⟩ : ∃ R, R = gdT t := ⟨_, rfl⟩
  rw [← hR]
  rw [← talkR_eq, talkR] at hR
  have HR := Lib.hid hR; clear hR ho hs hr
  go_enter Try.func7, Try.ntmps7
  go_upto_region 1 with (fail)
  generalize w.alloc (.cells (tkC t us ur).toArray 28) = W at H0 HB ⊢
  have c0 := H0.out.v6
  have r0 := H0.out.row
  cases hv : t.v6 with
  | true =>
    rw [hv] at c0 HR
    have HVV := Lib.hid hv
    cases h9 : good9 t
    all_goals (
      rw [h9] at H9 HR
      clear hv h9
      go_wp2_with (go_at_call 22; (with_reducible refine (H9.out _ HB.out).mono ?_); rintro x wn ⟨rfl, hb⟩; replace H0 := Lib.hid (H0.out.below hb); replace HB := Lib.hid (bstep HB.out hb); clear hb c0 r0; have c0 := H0.out.v6; rw [HVV.out] at c0)
      go_ret
      exact ⟨ret_boolF (by rw [HR.out]; simp), HB.out⟩)
  | false =>
    rw [hv] at c0 HR
    clear hv
    go_wp2_with (go_at_call 23; (with_reducible refine (H8.out _ HB.out).mono ?_); rintro x wn ⟨rfl, hb⟩; replace HB := Lib.hid (bstep HB.out hb); clear hb)
    go_ret
    exact ⟨ret_boolF (by rw [HR.out]; simp), HB.out⟩
end Go.Proofs.Ytacnhelnpngkgaa

