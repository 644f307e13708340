/-
  The shapes that layer 16's laws take: two numbers by value, a record.
-/
import Derived.Test.YtacnhelnpngkgaaCpA
import Derived.WideShapes
namespace Go.Proofs.Ytacnhelnpngkgaa
open Go.RowKit
set_option linter.unusedVariables false
set_option linter.unusedSimpArgs false

theorem okWide_arr {P : Program} {w : World} {r : Reach} {base : Nat} {t : TypeId} {v : Value} {n : Nat} {e : TypeId} (ht : P.underlying t = some (.array n e)) (h : Value.okWide P w r base t v) : ∃ cs, v = .agg cs ∧ cs.size = P.cellsOf t := by
  unfold Value.okWide at h
  simp only [ht] at h
  cases v <;> simp_all
/-- Two numbers by value. -/
def ints2S : Shape (Int × Int) := fun _ cs x => cs = [.int .i64 x.1, .int .i64 x.2]
theorem opens_ints2S : Opens Try.prog 35 ints2S := fun {H enc w base sp held fuel cs y} hy => by
  obtain ⟨xs, m, _, _, hl, hlen, hx⟩ := DataW.trod_array Try.underlying35 hy
  have hc : Try.prog.cellsOf 3 = 1 := by kernel_rfl
  have hn : Try.prog.cellsOf 35 = 2 := by kernel_rfl
  rw [hc] at hx
  have each : ∀ i, i < 2 → ∃ q : Int, cs[i]? = some (.int .i64 q) := fun i hi => by
    have h := hx i hi
    rw [List.getElem?_eq_getElem (by omega)] at h
    obtain ⟨q, e1, _, wf⟩ := DataW.trod_int Try.underlying3 h
    refine ⟨q, ?_⟩
    have e2 : cs[i]? = ((cs.drop (i * 1)).take 1)[0]? := by simp
    rw [e2, e1]
    rfl
  obtain ⟨a, ha⟩ := each 0 (by omega)
  obtain ⟨b, hb⟩ := each 1 (by omega)
  refine ⟨(a, b), ?_⟩
  show cs = [.int .i64 a, .int .i64 b]
  apply List.ext_getElem?
  intro i
  match i with
  | 0 => rw [ha]; rfl
  | 1 => rw [hb]; rfl
  | i + 2 => rw [List.getElem?_eq_none (by omega), List.getElem?_eq_none (by simp)]
theorem recS_parts {w : World} {cs : List Value} {x : _} (h : recS w cs x) : ∃ (r : RC) (u : Value), cs = rcC r u ∧ adOk r.g ∧ Ads w u r.src := by
  obtain ⟨c1, d1, rfl, l1, ⟨h1, _⟩, c2, d2, e2, l2, h2, c3, d3, e3, l3, h3, h4⟩ := h
  obtain ⟨k2, o2⟩ := addrS_cells h2
  obtain ⟨u, ku⟩ : ∃ u, c3 = [u] := List.length_eq_one_iff.1 l3
  subst ku
  unfold unitS at h4
  refine ⟨⟨x.1, (x.2.1.1, x.2.1.2.1), x.2.2.1.map adOf⟩, u, ?_, o2, Ads.of h3⟩
  rw [e2, e3, h4, h1, k2]
  rfl
end Go.Proofs.Ytacnhelnpngkgaa
