/-
  The two steps of the library's sort: two texts held against each other, and exchanged.
-/
import Derived.Test.YtiegeejbnplhdaaSoI
import Derived.Sort.AssemblyPlain
namespace Go.Proofs.Ytiegeejbnplhdaa
open Go.RowKit
set_option linter.unusedVariables false
set_option linter.unusedSimpArgs false

theorem idxK {x : Int} {i n : Nat} (hx : x = (i : Int)) (h : i < n) : ∃ k : Nat, Hid (k = i) ∧ Hid (k < n) ∧ x.toNat = k ∧ 0 ≤ x ∧ x < (n : Int) :=
  ⟨i, Lib.hid rfl, Lib.hid h, by omega, by omega, by omega⟩
/-- A number that the walk reckons, as a letter. -/
theorem wrapL (e : Int) (v : Int) (h : e = v) (h1 : -9223372036854775808 ≤ v) (h2 : v ≤ 9223372036854775807) : ∃ x : Int, Hid (x = v) ∧ IntKind.i64.wrap e = x :=
  ⟨v, Lib.hid rfl, by rw [h]; simp only [IntKind.wrap_i64]; omega⟩
variable {E : SE} {w : World} {d : Array (List UInt8)}
theorem St.test (h : St E w d) (ok : E.Ok) {k1 k2 : Nat} (h1 : k1 < E.n) (h2 : k2 < E.n) : ∃ (S : World → Prop) (X Y : List UInt8) (c : Int), Hid (S w.drew) ∧ Hid (∀ W, S W → St E W d) ∧ Hid (∀ W W', S W → Below W.heap.size W W' → S W') ∧
    (∀ p : InS S, p.W.cell? ⟨E.g, k1, none⟩ = some (.string (Str X))) ∧ (∀ p : InS S, p.W.cell? ⟨E.g, k2, none⟩ = some (.string (Str Y))) ∧
    Hid (∀ W, S W → Calls Try.prog 29 #[.pointer (some ⟨E.b, 0, none⟩), .string (Str X), .string (Str Y)] W fun e w' => e = .returned (.int .i64 c) ∧ Below W.heap.size W w') ∧ Hid (E.lt d[k1]! d[k2]! = decide (c < 0)) := by
  obtain ⟨S, HS0, HSE, HKP⟩ := h.cls
  exact ⟨S, d[k1]!, d[k2]!, cfE E.l d[k1]! d[k2]!, HS0, HSE, HKP, fun p => (HSE.out _ p.h).c h1, fun p => (HSE.out _ p.h).c h2,
    Lib.hid fun W hW => (HSE.out W hW).cmpB ok _ _ (h.kl _ h1) (h.kl _ h2), Lib.hid rfl⟩
/-- .. where nothing is held. -/
theorem St.noTest (h : St E w d) : ∃ (S : World → Prop), Hid (S w.drew) ∧ Hid (∀ W, S W → St E W d) := ⟨fun W => St E W d, Lib.hid (h.below (bdrewN (Below.refl _ _) 1)), Lib.hid fun _ h => h⟩
theorem St.xch (h : St E w d) {k1 k2 : Nat} (h1 : k1 < E.n) (h2 : k2 < E.n) : ∃ (X Y : List UInt8) (u : Value), w.cell? ⟨E.g, k1, none⟩ = some (.string (Str X)) ∧ w.cell? ⟨E.g, k2, none⟩ = some (.string (Str Y)) ∧
    w.frozen? ⟨E.g, k1, none⟩ = false ∧ w.frozen? ⟨E.g, k2, none⟩ = false ∧ (w.setCell ⟨E.g, k1, none⟩ (.string (Str Y))).cell? ⟨E.g, k2, none⟩ = some u ∧
    Hid (St E ((w.setCell ⟨E.g, k1, none⟩ (.string (Str Y))).setCell ⟨E.g, k2, none⟩ (.string (Str X))).drew (Sort.swp d k1 k2)) := by
  obtain ⟨u, hu⟩ := h.c2 h1 h2 (.string (Str d[k2]!))
  exact ⟨d[k1]!, d[k2]!, u, h.c h1, h.c h2, h.f _, h.f _, hu, Lib.hid (h.swap h1 h2)⟩
end Go.Proofs.Ytiegeejbnplhdaa
