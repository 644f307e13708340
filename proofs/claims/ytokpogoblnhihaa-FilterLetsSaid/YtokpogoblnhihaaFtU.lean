/-
  Layer 15: the document's Apply, of any record.
-/
import Derived.Test.YtokpogoblnhihaaMg21
import Derived.Test.YtokpogoblnhihaaFtA0
import Derived.Test.YtokpogoblnhihaaFtA1
import Derived.Test.YtokpogoblnhihaaFtA2
import Derived.Test.YtokpogoblnhihaaFtA3
import Derived.Test.YtokpogoblnhihaaFtA4
import Derived.Test.YtokpogoblnhihaaFtA5
import Derived.Test.YtokpogoblnhihaaFtA6
namespace Go.Proofs.Ytokpogoblnhihaa
open Go.RowKit
set_option linter.unusedVariables false
set_option linter.unusedSimpArgs false

theorem apL_all (s : ST) (K : Int) (b : List AD) (j : Nat) (h : j ≠ 0) : apL s K b (allS s b).length j = (allS s b).filter (bySrc (fJ j) s K b) := by
  unfold apL
  rw [if_neg h, List.take_length]
/-- What Apply gives: a step whose slices hold stepR's lists, in blocks of their own. -/
def ApR (w : World) (s : ST) (K : Int) (b : List AD) (x : Ending) (w' : World) : Prop := ∃ us, x = .returned (.agg (spC (stepR s K b).st.ex us (stepR s K b).grp (stepR s K b).all).toArray) ∧ Below w.heap.size w w' ∧ RowsF w' w.heap.size J6 us (apL s K b (allS s b).length)
theorem ApR.of {w : World} {s : ST} {K : Int} {b : List AD} {x : Ending} {w' : World} {e g al : Bool} (h : ∃ us, x = .returned (.agg (spC e us g al).toArray) ∧ Below w.heap.size w w' ∧ RowsF w' w.heap.size J6 us (apL s K b (allS s b).length)) (h1 : (exK K || s.ex) = e) (h2 : exK K = g) (h3 : (s.ex && decide (K = 3)) = al) : ApR w s K b x w' := by
  obtain ⟨us, rfl, hb, hr⟩ := h
  subst h1 h2 h3
  exact ⟨us, rfl, hb, hr⟩
theorem ApR.spA {w : World} {s : ST} {K : Int} {b : List AD} {w' : World} {us : Nat → Value} (h : RowsF w' w.heap.size J6 us (apL s K b (allS s b).length)) : SpA w' us (stepR s K b) :=
  h.spA (apL_all s K b 1 (by omega)) (apL_all s K b 2 (by omega)) (apL_all s K b 3 (by omega)) (apL_all s K b 4 (by omega)) (apL_all s K b 6 (by omega))
set_option maxRecDepth 100000 in
theorem rapply15_any (s : ST) (K : Int) (a y vb : Value) (b : List AD) (w : World) (h : StA w a y s) (hb : Ads w vb b) (la : s.on.length ≤ 1000) (ly : s.off.length ≤ 1000) (lb : b.length ≤ 1000) : Calls Try.prog 11 #[.agg (stC s.ex a y).toArray, .int .i64 K, vb] w (ApR w s K b) := by
  have h7 : K = 1 ∨ K = 2 ∨ K = 3 ∨ K = 4 ∨ K = 5 ∨ K = 6 ∨ (K ≠ 1 ∧ K ≠ 2 ∧ K ≠ 3 ∧ K ≠ 4 ∧ K ≠ 5 ∧ K ≠ 6) := by omega
  rcases h7 with rfl | rfl | rfl | rfl | rfl | rfl | ⟨n1, n2, n3, n4, n5, n6⟩
  all_goals have hd : s.ex = false ∨ s.ex = true := by cases s.ex <;> simp
  all_goals rcases hd with he | he
  · exact (rapply_1f s he a y vb b w h.on h.off hb h.ca h.cy la ly lb).mono fun x w' h => ApR.of h (by rw [he]; rfl) rfl (by rw [he]; rfl)
  · exact (rapply_1t s he a y vb b w h.on h.off hb h.ca h.cy la ly lb).mono fun x w' h => ApR.of h (by rw [he]; rfl) rfl (by rw [he]; rfl)
  · exact (rapply_2f s he a y vb b w h.on h.off hb h.ca h.cy la ly lb).mono fun x w' h => ApR.of h (by rw [he]; rfl) rfl (by rw [he]; rfl)
  · exact (rapply_2t s he a y vb b w h.on h.off hb h.ca h.cy la ly lb).mono fun x w' h => ApR.of h (by rw [he]; rfl) rfl (by rw [he]; rfl)
  · exact (rapply_3f s he a y vb b w h.on h.off hb h.ca h.cy la ly lb).mono fun x w' h => ApR.of h (by rw [he]; rfl) rfl (by rw [he]; rfl)
  · exact (rapply_3t s he a y vb b w h.on h.off hb h.ca h.cy la ly lb).mono fun x w' h => ApR.of h (by rw [he]; rfl) rfl (by rw [he]; rfl)
  · exact (rapply_4f s he a y vb b w h.on h.off hb h.ca h.cy la ly lb).mono fun x w' h => ApR.of h (by rw [he]; rfl) rfl (by rw [he]; rfl)
  · exact (rapply_4t s he a y vb b w h.on h.off hb h.ca h.cy la ly lb).mono fun x w' h => ApR.of h (by rw [he]; rfl) rfl (by rw [he]; rfl)
  · exact (rapply_5f s he a y vb b w h.on h.off hb h.ca h.cy la ly lb).mono fun x w' h => ApR.of h (by rw [he]; rfl) rfl (by rw [he]; rfl)
  · exact (rapply_5t s he a y vb b w h.on h.off hb h.ca h.cy la ly lb).mono fun x w' h => ApR.of h (by rw [he]; rfl) rfl (by rw [he]; rfl)
  · exact (rapply_6f s he a y vb b w h.on h.off hb h.ca h.cy la ly lb).mono fun x w' h => ApR.of h (by rw [he]; rfl) rfl (by rw [he]; rfl)
  · exact (rapply_6t s he a y vb b w h.on h.off hb h.ca h.cy la ly lb).mono fun x w' h => ApR.of h (by rw [he]; rfl) rfl (by rw [he]; rfl)
  all_goals
    have hx : exK K = false := by unfold exK; rw [decide_eq_false_iff_not]; omega
    have h3 : decide (K = 3) = false := decide_eq_false n3
  · exact (rapply_0f s K n1 n2 n3 n4 n5 n6 he a y vb b w h.on h.off hb h.ca h.cy la ly lb).mono fun x w' h => ApR.of h (by rw [he, hx]; rfl) hx (by rw [he]; rfl)
  · exact (rapply_0t s K n1 n2 n3 n4 n5 n6 he a y vb b w h.on h.off hb h.ca h.cy la ly lb).mono fun x w' h => ApR.of h (by rw [he, hx]; rfl) hx (by rw [he, h3]; rfl)
end Go.Proofs.Ytokpogoblnhihaa
