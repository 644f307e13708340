/-
  The contracts of the document's own answers of layer 2, and of the statements' helpers there.
-/
import Derived.Test.YtkmnnkklbgnfpaaRefa
import Derived.Test.YtkmnnkklbgnfpaaSum
import Derived.Test.YtkmnnkklbgnfpaaOpen
namespace Go.Proofs.Ytkmnnkklbgnfpaa
open Go.RowKit
set_option linter.unusedVariables false

def strsS : Shape (List (List UInt8)) := sliceS 1 strS
theorem stable_strsS : Stable strsS := stable_slice stable_str

/-- What Few leaves of texts. -/
def fewL (L : List (List UInt8)) (m : Nat) : List (List UInt8) := (L.take m).map (fun l => l.take 40)
theorem cutB_str (l : List UInt8) (m : Nat) : cutB (Str l) m = Str (l.take m) := by
  unfold cutB
  rw [Str_size]
  split
  · rw [List.take_of_length_le (by omega)]
  · apply ByteArray.ext; simp [Str]
theorem fewL_snoc (L : List (List UInt8)) (k : Nat) (h : k < L.length) : fewL L (k + 1) = fewL L k ++ [L[k].take 40] := by
  unfold fewL; rw [List.take_succ_eq_append_getElem h, List.map_append]; rfl
theorem fewL_length (L : List (List UInt8)) (k : Nat) : (fewL L k).length = min k L.length := by simp [fewL]
theorem fewL_flat (L : List (List UInt8)) (k : Nat) : (fewL L k).flatten.length ≤ 40 * k := by
  induction k with
  | zero => simp [fewL]
  | succ k ih =>
    by_cases h : k < L.length
    · rw [fewL_snoc L k h, List.flatten_append, List.length_append, List.flatten_singleton, List.length_take]
      omega
    · have e : fewL L (k + 1) = fewL L k := by unfold fewL; rw [List.take_of_length_le (by omega), List.take_of_length_le (by omega)]
      rw [e]; omega

theorem Try.info_str : (Try.prog.info? 9).map (fun i => (i.zero, i.size, i.bytes)) = some (some (.string ByteArray.empty), 1, 16) := by kernel_rfl

theorem run_cat' {P : Program} (x y : List UInt8) (h : x.length + y.length ≤ 9223372036854775807) (w : World) : (Op.stringOp .add (Str x) (Str y)).run P w = .ok (.string (Str (x ++ y))) w := run_cat x y h w
theorem even_round (l : List UInt8) (k : Nat) (hev : l.length % 2 = 0) (hlt : 2 * k < l.length) : wsum (l.take (2 * (k + 1))) = wsum (l.take (2 * k)) + num ((l.drop (2 * k)).take 2) := by
  have h1 : 2 * k + 1 < l.length := by omega
  have e1 : l.take (2 * (k + 1)) = l.take (2 * k) ++ [l[2 * k], l[2 * k + 1]] := by
    rw [show 2 * (k + 1) = 2 * k + 1 + 1 by omega, List.take_succ_eq_append_getElem h1, List.take_succ_eq_append_getElem hlt, List.append_assoc]; rfl
  have e2 : (l.drop (2 * k)).take 2 = [l[2 * k], l[2 * k + 1]] := by
    rw [List.drop_eq_getElem_cons hlt, List.drop_eq_getElem_cons h1]; rfl
  have b1 := l[2 * k].toNat_lt
  have b2 := l[2 * k + 1].toNat_lt
  rw [e1, e2, wsum_two_snoc _ _ _ (by rw [List.length_take]; omega)]
  simp [num]
  omega
theorem wsum_take_le (l : List UInt8) (m : Nat) : wsum (l.take m) ≤ 65280 * l.length := by
  have := wsum_le (l.take m)
  rw [List.length_take] at this
  omega

theorem bool_int_u64 (x : Nat) : IntKind.u64.wrap (x : Int) = ((x % 18446744073709551616 : Nat) : Int) := by
  simp only [IntKind.wrap_u64]; omega
theorem Str_extract2 (l : List UInt8) (a b : Nat) : (Str l).extract a b = Str ((l.drop a).take (b - a)) := by
  apply ByteArray.ext; simp [Str]

/-- The loop of the document's Sum, from its head on. -/
def padL (l : List UInt8) : List UInt8 := if l.length % 2 = 1 then l ++ [0] else l
theorem padL_even (l : List UInt8) : (padL l).length % 2 = 0 := by
  unfold padL; split
  · simp; omega
  · omega
theorem padL_len (l : List UInt8) : (padL l).length ≤ l.length + 1 := by
  unfold padL; split
  · simp
  · omega
theorem wsum_padL (l : List UInt8) : wsum (padL l) = wsum l := by
  unfold padL; split
  · exact wsum_pad l
  · rfl

/-- A literal slice, however often order was drawn since. -/
theorem own_lit (w : World) (cs : Array Value) (e : TypeId) (n g d : Nat) (hg : g = w.heap.size) (hm : n ≤ 1000000) (hs : cs.size = n) : ((w.alloc (.cells cs e)).drewN d).ownsRow 0 e 1 (.slice (some ⟨g, 0, none⟩) n n) n cs.toList := by
  subst hg
  exact World.ownsRow_lit w cs n (Nat.zero_le _) (by unfold maxLen; omega) (by omega)
theorem own_lit0 (w : World) (cs : Array Value) (e : TypeId) (n g : Nat) (hg : g = w.heap.size) (hm : n ≤ 1000000) (hs : cs.size = n) : (w.alloc (.cells cs e)).ownsRow 0 e 1 (.slice (some ⟨g, 0, none⟩) n n) n cs.toList := own_lit w cs e n g 0 hg hm hs

/-- Two bytes of a number. -/
theorem rput_two (n : Nat) (hn : n ≤ 18446744073709551615) (w : World) : Calls Try.prog 37 #[.int .u64 n, .int .i64 2] w fun e w' => e = .returned (.string (Str (putL n 2))) ∧ Below w.heap.size w w' := rput_any n hn 2 w
theorem rput_four (n : Nat) (hn : n ≤ 18446744073709551615) (w : World) : Calls Try.prog 37 #[.int .u64 n, .int .i64 4] w fun e w' => e = .returned (.string (Str (putL n 4))) ∧ Below w.heap.size w w' := rput_any n hn 4 w
theorem rput_one (n : Nat) (hn : n ≤ 18446744073709551615) (w : World) : Calls Try.prog 37 #[.int .u64 n, .int .i64 1] w fun e w' => e = .returned (.string (Str (putL n 1))) ∧ Below w.heap.size w w' := rput_any n hn 1 w
end Go.Proofs.Ytkmnnkklbgnfpaa
