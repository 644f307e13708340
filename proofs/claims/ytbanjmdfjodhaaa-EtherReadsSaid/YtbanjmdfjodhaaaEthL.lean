/-
  The contract of the statements' small living call of layer 4, the shape of a frame that came in, and what is read of a frame's own bytes.
-/
import Derived.Test.YtbanjmdfjodhaaaEthG
import Derived.Test.YtbanjmdfjodhaaaEthH
import Derived.Test.YtbanjmdfjodhaaaEthW
import Derived.Test.YtbanjmdfjodhaaaEqE
namespace Go.Proofs.Ytbanjmdfjodhaaa
open Go.RowKit
set_option linter.unusedVariables false
attribute [local go_sem ↓] bld_eth ld_eth st_eth ld_mac st_mac
attribute [local go_sem] ldr_eth str_eth ldr_mac str_mac

def liveE : Eth := ⟨[0, 0, 0, 0, 0, 0], [0, 0, 0, 0, 0, 0], true, 10, 5, 2048, [120]⟩
theorem live_bld (w0 : World) : (aggBuild 25 #[(2, .bool true), (3, .int .i64 10), (4, .int .i64 5), (5, .int .i64 2048), (6, .string ⟨#[120]⟩)]).run Try.prog w0 = .ok (.agg (ethC liveE).toArray) w0 := bld_run _ _ _ (by kernel_rfl) _
theorem live_write (w : World) : Calls Try.prog 8 #[.agg (ethC liveE).toArray] w fun x w' => x = .returned (.tuple #[.string ⟨#[0, 0, 0, 0, 0, 0, 0, 0, 0, 0, 0, 0, 129, 0, 160, 10, 8, 0, 120]⟩, .int .i64 0]) ∧ Below w.heap.size w w' := by
  have h := write_good liveE ⟨rfl, rfl⟩ (by decide) w
  have e : liveE.wrt = [0, 0, 0, 0, 0, 0, 0, 0, 0, 0, 0, 0, 129, 0, 160, 10, 8, 0, 120] := by decide
  rw [e] at h
  exact h
set_option maxRecDepth 100000 in
set_option maxHeartbeats 1000000 in
theorem lives4_any (w : World) : Calls Try.prog 11 #[] w fun x w' => x = .returned (.bool true) ∧ Below w.heap.size w w' := by
  have hb := live_bld
  go_enter Try.func11, Try.ntmps11
  go_wp2_with (go_at_call 8; (with_reducible refine (live_write _).mono ?_); rintro x w1 ⟨rfl, hb1⟩; have HB1 := Lib.hid hb1; clear hb1)
  go_ret
  exact ⟨rfl, HB1.out⟩

/-- The shape of a frame that came in. -/
def ethS : Shape (List UInt8 × (List UInt8 × (Bool × (Int × (Int × (Int × (List UInt8 × Unit))))))) := pairS 6 (bytesS 6) (pairS 6 (bytesS 6) (pairS 1 boolS (pairS 1 (intS .i64) (pairS 1 (intS .i64) (pairS 1 (intS .i64) (pairS 1 strS unitS))))))
theorem opens_macS : Opens Try.prog 23 (bytesS 6) := opens_bytes Try.underlying23 Try.underlying5 (by kernel_rfl) (by kernel_rfl)
theorem opens_ethS : Opens Try.prog 25 ethS :=
  opens_struct Try.underlying25 (opens_cons rfl (by kernel_rfl) (of_decide_eq_true (by kernel_rfl)) opens_macS (opens_cons rfl (by kernel_rfl) (of_decide_eq_true (by kernel_rfl)) opens_macS
    (opens_cons rfl (by kernel_rfl) (of_decide_eq_true (by kernel_rfl)) (opens_bool Try.underlying4) (opens_cons rfl (by kernel_rfl) (of_decide_eq_true (by kernel_rfl)) (opens_int Try.underlying3)
    (opens_cons rfl (by kernel_rfl) (of_decide_eq_true (by kernel_rfl)) (opens_int Try.underlying3) (opens_cons rfl (by kernel_rfl) (of_decide_eq_true (by kernel_rfl)) (opens_int Try.underlying3)
    (opens_cons rfl (by kernel_rfl) (of_decide_eq_true (by kernel_rfl)) (opens_str Try.underlying9) (opens_nil (by kernel_rfl)))))))))
theorem ethS_cells {w : World} {cs : List Value} {x : _} (h : ethS w cs x) : ∃ e : Eth, cs = ethC e ∧ e.ok ∧ e.bd.length ≤ maxLen := by
  obtain ⟨c0, d0, rfl, _, h0, c1, d1, rfl, _, h1, c2, d2, rfl, _, h2, c3, d3, rfl, _, h3, c4, d4, rfl, _, h4, c5, d5, rfl, _, h5, c6, d6, rfl, _, h6, h7⟩ := h
  obtain ⟨e0, l0⟩ := h0
  obtain ⟨e1, l1⟩ := h1
  have e2 : c2 = [.bool _] := h2
  obtain ⟨e3, _⟩ := h3
  obtain ⟨e4, _⟩ := h4
  obtain ⟨e5, _⟩ := h5
  obtain ⟨e6, l6⟩ := h6
  have e7 : d6 = [] := h7
  subst e0 e1 e2 e3 e4 e5 e6 e7
  exact ⟨⟨_, _, _, _, _, _, _⟩, rfl, ⟨l0, l1⟩, l6⟩

/-- What is read of a frame's own bytes. -/
theorem read_wrt (e : Eth) (ho : e.ok) (h1 : goodTyV e.ty = true) (h2 : goodTgV e.tg e.vl e.pr = true) : readV4 e.wrt = if e.bd.length ≤ 1500 then (e, 0) else (zeroE, 6) := by
  obtain ⟨q1, q2, q3, q4, q5, q6, q7, q8⟩ := parts_wrt e.to e.fr e.tg e.vl e.pr e.ty e.bd ho.1 ho.2 h1 h2
  unfold readV4 Eth.wrt
  rw [q1, q2, q3, q4, q5, q6, q7, q8]
  split <;> rfl
theorem good_parts {e : Eth} (h : e.good = true) : goodTyV e.ty = true ∧ goodTgV e.tg e.vl e.pr = true ∧ e.bd.length ≤ 1500 := by
  unfold Eth.good goodEV at h
  simpa [Bool.and_eq_true] using h
end Go.Proofs.Ytbanjmdfjodhaaa
