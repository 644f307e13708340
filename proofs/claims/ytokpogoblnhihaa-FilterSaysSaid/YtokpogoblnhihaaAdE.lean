/-
  An element of a slice of addresses, where it lies.
-/
import Derived.Test.YtokpogoblnhihaaMg02
namespace Go.Proofs.Ytokpogoblnhihaa
open Go.RowKit
set_option linter.unusedVariables false
theorem ads_elem {W : World} {p : Option Addr} {n c : Nat} {l : List AD} (h : Ads W (.slice p n c) l) (k : Nat) (hk : k < l.length) : ∃ b o, p = some ⟨b, o, none⟩ ∧ row? W b (o + k * 17) 17 = some (adC l[k]) := by
  obtain ⟨b, o, cap, e, _, _, _, h4⟩ := h.parts (fun q => by subst q; simp at hk)
  simp only [Value.slice.injEq] at e
  exact ⟨b, o, e.1, h4 k hk⟩
theorem ads_place {W W' : World} {p : Option Addr} {n c : Nat} {l : List AD} {b o k : Nat} (h : Ads W (.slice p n c) l) (hp : p = some ⟨b, o, none⟩) (hk : k < l.length) : row? W b (o + k * 17) 17 = some (adC l[k]) := by
  obtain ⟨b', o', e, h4⟩ := ads_elem h k hk
  rw [hp] at e
  cases e
  exact h4
end Go.Proofs.Ytokpogoblnhihaa
