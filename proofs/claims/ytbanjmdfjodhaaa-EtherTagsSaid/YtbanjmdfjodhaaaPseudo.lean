/-
  The contract of sum.Pseudo.
-/
import Derived.Test.YtbanjmdfjodhaaaOct
import Derived.Test.YtbanjmdfjodhaaaOctBits
import Derived.Test.YtbanjmdfjodhaaaPureHex
import Derived.Test.YtbanjmdfjodhaaaAddr
import Derived.Deep.RegionHeld3
namespace Go.Proofs.Ytbanjmdfjodhaaa
open Go.RowKit
set_option linter.unusedVariables false

/-- What is summed ahead of a packet's body. -/
def pseudoL (v6 : Bool) (f t : List UInt8) (p s : Nat) : List UInt8 :=
  if v6 then f ++ (t ++ (putL s 4 ++ putL p 4)) else f.take 4 ++ (t.take 4 ++ (putL p 2 ++ putL s 2))
theorem u64_nat (a : Int) : IntKind.u64.wrap a = ((a % 18446744073709551616).toNat : Int) := by
  simp only [IntKind.wrap_u64]; omega
theorem low8 (a : Int) : bitsN (a % 18446744073709551616).toNat 0 8 = (a % 256).toNat := by
  unfold bitsN
  rw [show clampN 0 64 = 0 from rfl, show clampN 8 64 = 8 from rfl]
  omega
theorem put_two (n : Nat) (hn : n ≤ 18446744073709551615) (w : World) : Calls Try.prog 18 #[.int .u64 n, .int .i64 2] w fun e w' => e = .returned (.string (Str (putL n 2))) ∧ Below w.heap.size w w' := put_any n (by omega) 2 w
theorem put_four (n : Nat) (hn : n ≤ 18446744073709551615) (w : World) : Calls Try.prog 18 #[.int .u64 n, .int .i64 4] w fun e w' => e = .returned (.string (Str (putL n 4))) ∧ Below w.heap.size w w' := put_any n (by omega) 4 w


theorem row_to {P : Program} {b o : Nat} {l : List UInt8} (src dst e : TypeId) (hs : P.underlying src = some (.slice e)) (he : P.underlying e = some (.int .u8)) (hd : P.underlying dst = some .string) (n cap : Nat) (hn : n ≤ l.length) :
    ∀ w : World, RowAt w b o l → (convert src dst (.slice (some ⟨b, o, none⟩) n cap)).run P w = .ok (.string (Str (l.take n))) w := fun w hr => run_string_row src dst e hs he hd hr n cap hn

/-- What the call made lies beside what was there. -/
def PsB (w w' : World) : Prop := w.heap.size + 1 < w'.heap.size ∧ Below w.heap.size w w'
theorem psk {w w' w'' : World} {la lb : List UInt8} (h : RowAt w' w.heap.size 1 la ∧ RowAt w' (w.heap.size + 1) 1 lb ∧ PsB w w') (hb : Below w'.heap.size w' w'') :
    RowAt w'' w.heap.size 1 la ∧ RowAt w'' (w.heap.size + 1) 1 lb ∧ PsB w w'' := by
  obtain ⟨h0, h1, h2, h3⟩ := h
  exact ⟨h0.below (by omega) hb, h1.below h2 hb, by have := hb.size; omega, bstep h3 hb⟩
theorem psk_drew {w w' : World} {la lb : List UInt8} (h : RowAt w' w.heap.size 1 la ∧ RowAt w' (w.heap.size + 1) 1 lb ∧ PsB w w') (n : Nat) : RowAt (w'.drewN n) w.heap.size 1 la ∧ RowAt (w'.drewN n) (w.heap.size + 1) 1 lb ∧ PsB w (w'.drewN n) :=
  psk h (bdrewN (Below.refl _ _) n)

end Go.Proofs.Ytbanjmdfjodhaaa
