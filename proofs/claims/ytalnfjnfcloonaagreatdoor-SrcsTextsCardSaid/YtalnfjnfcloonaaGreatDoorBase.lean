/-
  Plain words and laws that all texts of this seat share: bytes as cells, numbers as bytes, the turn of an owned row of bytes into a string. Nothing of the program is named here.
-/
import Derived.WalkKit
import Derived.ProofKit
import Derived.Handy
import Derived.Lib.Hide
import Derived.Laws.BytesArg
import Derived.Laws.OwnMore
import Derived.Deep.QuietTactic
namespace Go.Proofs.YtalnfjnfcloonaaGreatDoor
open Go.RowKit
set_option linter.unusedVariables false

/-- Bytes as the cells of a slice of bytes. -/
def B8 (l : List UInt8) : List Value := l.map (fun b => Value.int .u8 (b.toNat : Int))
theorem B8_length (l : List UInt8) : (B8 l).length = l.length := by simp [B8]
theorem B8_get (l : List UInt8) (j : Nat) : (B8 l)[j]? = (l[j]?).map (fun b => Value.int .u8 (b.toNat : Int)) := by simp [B8]
theorem B8_append (l m : List UInt8) : B8 (l ++ m) = B8 l ++ B8 m := by simp [B8]
theorem B8_set (l : List UInt8) (j : Nat) (b : UInt8) : (B8 l).set j (Value.int .u8 (b.toNat : Int)) = B8 (l.set j b) := by
  simp [B8, List.map_set]
theorem B8_one (l : List UInt8) : ∀ u ∈ B8 l, u.oneCell' = true := by
  intro u hu
  simp only [B8, List.mem_map] at hu
  obtain ⟨b, _, rfl⟩ := hu
  rfl
theorem B8_replicate (n : Nat) : B8 (List.replicate n 0) = List.replicate n (Value.int .u8 0) := by simp [B8]

/-- The string of some bytes. -/
def Str (l : List UInt8) : ByteArray := ⟨l.toArray⟩
theorem Str_data (l : List UInt8) : (Str l).data.toList = l := rfl
theorem Str_size (l : List UInt8) : (Str l).size = l.length := by simp [Str, ByteArray.size]
theorem Str_of (s : ByteArray) : Str s.data.toList = s := by cases s; rfl
theorem strOfNums_B8 (l : List UInt8) : strOfNums (l.map fun b => (b.toNat : Int)) = Str l := by
  simp [strOfNums, Str, Function.comp_def]
theorem take_snoc (s : ByteArray) (k : Nat) (h : k < s.size) : s.data.toList.take (k + 1) = s.data.toList.take k ++ [s[k]] := by
  rw [List.take_succ_eq_append_getElem (by simpa using h)]; rfl

/-- 'string(b)' of a slice of bytes that the call owns: a rule for the walk. -/
theorem run_string_own {P : Program} {w : World} (src dst e : TypeId) (hs : P.underlying src = some (.slice e)) (he : P.underlying e = some (.int .u8)) (hd : P.underlying dst = some .string)
    {base : Nat} {v : Value} {n : Nat} {l : List UInt8} (hown : w.ownsRow base e 1 v n (B8 l)) : (convert src dst v).run P w = .ok (.string (Str l)) w := by
  have hl : l.length = n := by have := hown.1; rw [B8_length] at this; omega
  rcases hown.2 with ⟨rfl, rfl⟩ | ⟨g, cap, cur, rfl, _⟩
  · have : l = [] := List.eq_nil_of_length_eq_zero hl
    subst this
    exact run_convert_bytes_nil (P := P) w src e hs he 0 0 dst hd
  · rw [run_convert_bytes_arg (P := P) w src e hs he g 0 n cap (l.map fun b => (b.toNat : Int)) (by simpa using hl) ?_ dst hd, strOfNums_B8]
    intro i hi
    have hc := hown.cellAt i (by omega)
    rw [Nat.zero_add, hc, B8_get, List.getElem?_eq_getElem (by omega)]
    simp [List.getElem?_eq_getElem (show i < l.length by omega)]

/-- The number that bytes hold, in 64 bits. -/
def num (l : List UInt8) : Nat := l.foldl (fun n b => (n * 256 + b.toNat) % 18446744073709551616) 0
theorem num_snoc (l : List UInt8) (b : UInt8) : num (l ++ [b]) = (num l * 256 + b.toNat) % 18446744073709551616 := by
  unfold num; rw [List.foldl_append]; rfl

theorem bits_or_u64_nat (a b : Nat) (ha : a < 18446744073709551616) (hb : b < 18446744073709551616) :
    bits .or .u64 (a : Int) (b : Int) = ((a ||| b : Nat) : Int) := by
  have hx : a ||| b < 2 ^ 64 := Nat.or_lt_two_pow (by omega) (by omega)
  have h1 : (BitVec.ofInt 64 (a : Int)).toNat = a := by
    rw [BitVec.ofInt_natCast, BitVec.toNat_ofNat]; exact Nat.mod_eq_of_lt (by omega)
  have h2 : (BitVec.ofInt 64 (b : Int)).toNat = b := by
    rw [BitVec.ofInt_natCast, BitVec.toNat_ofNat]; exact Nat.mod_eq_of_lt (by omega)
  show IntKind.u64.wrap ((BitVec.ofInt 64 (a : Int) ||| BitVec.ofInt 64 (b : Int)).toNat : Int) = _
  rw [BitVec.toNat_or, h1, h2, IntKind.wrap_u64]
  omega
theorem or_low (a c : Nat) (hc : c < 256) : (a * 256 % 18446744073709551616) ||| c = (a * 256 + c) % 18446744073709551616 := by
  have e : a * 256 % 18446744073709551616 = (a % 72057594037927936) <<< 8 := by rw [Nat.shiftLeft_eq]; omega
  rw [e, ← Nat.shiftLeft_add_eq_or_of_lt (by omega), Nat.shiftLeft_eq]; omega
/-- 'n<<8 | uint64(c)'. -/
theorem shl8_or (a : Nat) (c : UInt8) : bits BinOp.or IntKind.u64 (IntKind.u64.wrap ((a : Int) * 256)) (IntKind.u64.wrap (c.toNat : Int)) = (((a * 256 + c.toNat) % 18446744073709551616 : Nat) : Int) := by
  have hc := c.toNat_lt
  rw [IntKind.wrap_u64, IntKind.wrap_u64]
  have e1 : ((a : Int) * 256) % 18446744073709551616 = ((a * 256 % 18446744073709551616 : Nat) : Int) := by omega
  have e2 : (c.toNat : Int) % 18446744073709551616 = ((c.toNat : Nat) : Int) := by omega
  rw [e1, e2, bits_or_u64_nat _ _ (Nat.mod_lt _ (by omega)) (by omega), or_low _ _ (by omega)]

/-- The lowest bytes of n, w of them, the highest first. -/
def putL (n : Nat) : Nat → List UInt8
  | 0 => []
  | i + 1 => UInt8.ofNat (n / 256 ^ i) :: putL n i
theorem putL_length (n : Nat) : ∀ w, (putL n w).length = w
  | 0 => rfl
  | i + 1 => by simp [putL, putL_length n i]

/-- A number held between 0 and another one. -/
def clampN (n : Int) (m : Nat) : Nat := if (m : Int) < n then m else n.toNat
theorem clampN_le (n : Int) (m : Nat) : clampN n m ≤ m := by unfold clampN; split <;> omega

theorem ret_int {k : IntKind} {a b : Int} (h : a = b) : Ending.returned (.int k a) = .returned (.int k b) := by rw [h]
/-- One call behind another: below what there was at the first, nothing has turned. -/
theorem bstep {w a b : World} (h : Below w.heap.size w a) (k : Below a.heap.size a b) : Below w.heap.size w b := h.trans (k.mono h.size)
theorem bdrewN {B : Nat} {a w : World} (h : Below B a w) (n : Nat) : Below B a (w.drewN n) := h.trans ⟨rfl, rfl, rfl, Nat.le_refl _, fun _ _ => rfl⟩
end Go.Proofs.YtalnfjnfcloonaaGreatDoor
