/-
  Contracts of ether's small functions on one frame, and of the document's own Good.
-/
import Derived.Test.YtbanjmdfjodhaaaEth
import Derived.Test.YtbanjmdfjodhaaaOctBits
import Derived.Test.YtbanjmdfjodhaaaAd1
import Derived.Test.YtbanjmdfjodhaaaPseudo
import Derived.WalkLawsBesides
import Derived.Deep.RegionHeld3
import Derived.Deep.Cut
namespace Go.Proofs.Ytbanjmdfjodhaaa
open Go.RowKit
set_option linter.unusedVariables false
attribute [local go_sem ↓] bld_eth ld_eth st_eth ld_mac st_mac
attribute [local go_sem] ldr_eth str_eth ldr_mac str_mac

theorem goodType_any (k : Int) (w : World) : Calls Try.prog 19 #[.int .i64 k] w fun x w' => x = .returned (.bool (goodTyV k)) ∧ w = w' := by
  go_enter Try.func19, Try.ntmps19
  go_wp2
  all_goals
    go_ret
    exact ⟨ret_bool (by unfold goodTyV; rw [Bool.eq_iff_iff]; simp; try (intros; first | omega | (simp_all; omega))), rfl⟩

set_option maxRecDepth 100000 in
set_option maxHeartbeats 1000000 in
theorem goodTag_any (e : Eth) (ho : e.ok) (w : World) : Calls Try.prog 20 #[.agg (ethC e).toArray] w fun x w' => x = .returned (.bool (goodTgV e.tg e.vl e.pr)) ∧ Below w.heap.size w w' := by
  have HB := Lib.hid (EB.made w e)
  go_enter Try.func20, Try.ntmps20
  go_upto_region 1 with (fail)
  generalize w.alloc (.cells (ethC e).toArray 25) = W at HB ⊢
  have c1 := HB.out.1.tg ho
  have c2 := HB.out.1.vl ho
  have c3 := HB.out.1.pr ho
  have Hb := Lib.hid HB.out.2
  clear HB
  obtain ⟨to, fr, tg, v, p, k, b⟩ := e
  simp only at c1 c2 c3
  cases tg <;>
  · go_wp2
    all_goals
      go_ret
      exact ⟨ret_bool (by unfold goodTgV; rw [Bool.eq_iff_iff]; simp; try (intros; first | omega | (simp_all; omega))), Hb.out⟩

set_option maxRecDepth 100000 in
set_option maxHeartbeats 1000000 in
theorem rgoodE_any (e : Eth) (ho : e.ok) (hl : e.bd.length ≤ 1000000) (w : World) : Calls Try.prog 10 #[.agg (ethC e).toArray] w fun x w' => x = .returned (.bool e.good) ∧ Below w.heap.size w w' := by
  obtain ⟨R, hR⟩ : ∃ R, R = e.good := ⟨_, rfl⟩
  rw [← hR]
  have HB := Lib.hid (EB.made w e)
  go_enter Try.func10, Try.ntmps10
  go_upto_region 1 with (fail)
  generalize w.alloc (.cells (ethC e).toArray 25) = W at HB ⊢
  have c1 := HB.out.1.tg ho
  have c2 := HB.out.1.vl ho
  have c3 := HB.out.1.pr ho
  have c4 := HB.out.1.ty ho
  have c5 := HB.out.1.bd ho
  have Hb := Lib.hid HB.out.2
  have hsz := Str_size e.bd
  clear HB
  obtain ⟨to, fr, tg, v, p, k, b⟩ := e
  unfold Eth.good at hR
  simp only at c1 c2 c3 c4 c5 hsz hl hR
  have HR := Lib.hid hR; clear hR
  generalize Str b = B at c5 hsz
  generalize b.length = n at hsz hl HR
  cases tg <;>
  · go_wp2
    all_goals
      go_ret
      exact ⟨ret_bool (by rw [HR.out]; unfold goodEV goodTyV goodTgV; rw [Bool.eq_iff_iff]; simp; try (intros; first | omega | (simp_all; omega))), Hb.out⟩
end Go.Proofs.Ytbanjmdfjodhaaa
