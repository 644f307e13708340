/-
  Texts joined: TnO, SeQ.
-/
import Derived.Test.YtlkihfmojnghhaaTnS
import Derived.Test.YtlkihfmojnghhaaMg00
import Derived.BigQuiet
import Derived.Below
/-
  Layer 14: how soon a query is to be answered, by the document.
-/
namespace Go.Proofs.Ytlkihfmojnghhaa
open Go.RowKit
set_option linter.unusedVariables false
set_option linter.unusedSimpArgs false

set_option maxRecDepth 100000 in
set_option maxHeartbeats 2000000 in
theorem rresp_any (q : TK) (us ur : Value) (w : World) (ho : adOk q.g) (hb : q.v6 = true → 0 ≤ q.resp ∧ q.resp ≤ 8388608) : Calls Try.prog 26 #[.agg (tkC q us ur).toArray] w fun x w' => x = .returned (.int .i64 (respQ q)) ∧ Below w.heap.size w w' := by
  have H0 := Lib.hid (TkAt.made w q us ur ho)
  have HB := Lib.hid (bbox w (.cells (tkC q us ur).toArray 35))
  obtain ⟨R, hR⟩ : ∃ R, R = respQ q := ⟨_, rfl⟩
  rw [← hR]
  have HR := Lib.hid hR; clear hR ho
  go_enter Try.func26, Try.ntmps26
  go_upto_region 1 with (fail)
  generalize w.alloc (.cells (tkC q us ur).toArray 35) = W at H0 HB ⊢
  have c0 := H0.out.v6
  have c1 := H0.out.ver
  have c3 := H0.out.resp
  unfold respQ at HR
  generalize q.v6 = v at *
  generalize q.ver = n at *
  generalize q.resp = m at *
  clear H0
  cases v with
  | false =>
    replace HR : Hid (R = if n = 1 then 100 else m) := Lib.hid HR.out
    clear hb
    by_cases h : n = 1
    · have HE : Hid (R = 100) := Lib.hid (by rw [HR.out, if_pos h])
      subst h
      go_wp2
      go_ret
      exact ⟨ret_intF HE.out.symm, HB.out⟩
    · have HE : Hid (R = m) := Lib.hid (by rw [HR.out, if_neg h])
      have hd : (n == 1) = false := by simpa using h
      go_wp2
      go_ret
      exact ⟨ret_intF HE.out.symm, HB.out⟩
  | true =>
    replace HR : Hid (R = if m ≤ 0 then 0 else (m + 99) / 100) := Lib.hid HR.out
    have hb := hb rfl
    go_wp2_with fail
    go_loopw [3, 4] (fun a b wr => ∃ j : Int, 0 ≤ j ∧ a = .int .i64 j ∧ b = .int .i64 (m - 100 * j) ∧ (j = 0 ∨ 0 < m - 100 * j + 100) ∧ wr = W) (fun _ b _ => (intOf b).toNat)
    case atStart => exact ⟨0, by omega, rfl, by simp, Or.inl rfl, rfl⟩
    case round =>
      obtain ⟨j, hj0, rfl, rfl, hj, rfl⟩ := hrel
      by_cases hk : 0 < m - 100 * j
      · have hj2 : j < 1000000 := by omega
        have hw1 : IntKind.i64.wrap (j + 1) = j + 1 := by simp only [IntKind.wrap_i64]; omega
        have hw2 : IntKind.i64.wrap (m - 100 * j - 100) = m - 100 * j - 100 := by simp only [IntKind.wrap_i64]; omega
        go_wp2
        go_roundw
        case rel => exact ⟨j + 1, by omega, by simp, by congr 1; omega, Or.inr (by omega), trivial⟩
        case measure => simp [intOf]; omega
      · have HE : Hid (R = j) := Lib.hid (by rw [HR.out]; split <;> omega)
        go_wp2
        go_ret
        exact ⟨ret_intF HE.out.symm, HB.out⟩
end Go.Proofs.Ytlkihfmojnghhaa

/-
  A region that draws its order and whose calls leave a class of worlds: walked once, in the order of the text, guards too.
-/
namespace Go.Proofs.Ytlkihfmojnghhaa
open Go.RowKit
set_option linter.unusedVariables false

/-- A world of a class. -/
structure InS (S : World → Prop) where
  W : World
  h : S W
theorem wp_region_inS {P : Program} {id : Nat} {Q : Exit → Act → World → Prop} {a : Act} {w : World} {l : List Oper} (S : World → Prop) (hm : P.follows .mixedOrders = true) (hB : Region.lexB .any l.toArray = true) (h0 : S w.drew)
    (h : wpQuiet P l.toArray (fun w' => ∃ p : InS S, w' = p.W) (fun a' => ∀ w', (∃ p : InS S, w' = p.W) → Q .normal a' w') l a) : (Code.region id l.toArray true).wp P Q a w :=
  wp_region_quiet (C := fun w' => ∃ p : InS S, w' = p.W) hm hB ⟨⟨w.drew, h0⟩, rfl⟩ (by simpa using h)
/-- A callee's contract, met in a world of the class. -/
theorem Calls.inS {P : Program} {f : FuncId} {args : Array Value} {S : World → Prop} {v : Value} (hk : ∀ W W', S W → Below W.heap.size W W' → S W') (p : InS S)
    (h : ∀ W, S W → Calls P f args W fun e w' => e = .returned v ∧ Below W.heap.size W w') : Calls P f args p.W fun e w'' => e = .returned v ∧ ∃ q : InS S, w'' = q.W :=
  (h p.W p.h).mono fun _ _ ⟨he, hb⟩ => ⟨he, ⟨⟨_, hk _ _ p.h hb⟩, rfl⟩⟩
end Go.Proofs.Ytlkihfmojnghhaa

