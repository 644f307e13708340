/-
  Texts joined: Base, EqB, Open, Addr, ShAddr, Obj.
-/
import Derived.WalkKit
import Derived.ProofKit
import Derived.Handy
import Derived.Lib.Hide
import Derived.Laws.BytesArg
import Derived.Laws.OwnMore
import Derived.Deep.QuietTactic
import Derived.ChangeKeysEq
import Derived.OpenShut
import Derived.Deep.Slices
import Derived.Below
import Derived.Test.YtgpccgcppbdlpaaChecked
import Derived.Deep.MidRow
import Derived.ChangeShapes
import Derived.Deep.AppendLies
/-
  Plain words and laws that all texts of this seat share: bytes as cells, numbers as bytes, the turn of an owned row of bytes into a string. Nothing of the program is named here.
-/
namespace Go.Proofs.Ytgpccgcppbdlpaa
open Go.RowKit
set_option linter.unusedVariables false

/-- Bytes as the cells of a slice of bytes. -/
def B8 (l : List UInt8) : List Value := l.map (fun b => Value.int .u8 (b.toNat : Int))
theorem B8_length (l : List UInt8) : (B8 l).length = l.length := by simp [B8]
theorem B8_get (l : List UInt8) (j : Nat) : (B8 l)[j]? = (l[j]?).map (fun b => Value.int .u8 (b.toNat : Int)) := by simp [B8]
theorem B8_append (l m : List UInt8) : B8 (l ++ m) = B8 l ++ B8 m := by simp [B8]
theorem B8_set (l : List UInt8) (j : Nat) (b : UInt8) : (B8 l).set j (Value.int .u8 (b.toNat : Int)) = B8 (l.set j b) := by
  simp [B8, List.map_set]
theorem B8_one (l : List UInt8) : ∀ u ∈ B8 l, u.oneCell' = true := by
  intro u hu
  simp only [B8, List.mem_map] at hu
  obtain ⟨b, _, rfl⟩ := hu
  rfl
theorem B8_replicate (n : Nat) : B8 (List.replicate n 0) = List.replicate n (Value.int .u8 0) := by simp [B8]

/-- The string of some bytes. -/
def Str (l : List UInt8) : ByteArray := ⟨l.toArray⟩
theorem Str_size (l : List UInt8) : (Str l).size = l.length := by simp [Str, ByteArray.size]
theorem strOfNums_B8 (l : List UInt8) : strOfNums (l.map fun b => (b.toNat : Int)) = Str l := by
  simp [strOfNums, Str, Function.comp_def]
theorem take_snoc (s : ByteArray) (k : Nat) (h : k < s.size) : s.data.toList.take (k + 1) = s.data.toList.take k ++ [s[k]] := by
  rw [List.take_succ_eq_append_getElem (by simpa using h)]; rfl

/-- 'string(b)' of a slice of bytes that the call owns: a rule for the walk. -/
theorem run_string_own {P : Program} {w : World} (src dst e : TypeId) (hs : P.underlying src = some (.slice e)) (he : P.underlying e = some (.int .u8)) (hd : P.underlying dst = some .string)
    {base : Nat} {v : Value} {n : Nat} {l : List UInt8} (hown : w.ownsRow base e 1 v n (B8 l)) : (convert src dst v).run P w = .ok (.string (Str l)) w := by
  have hl : l.length = n := by have := hown.1; rw [B8_length] at this; omega
  rcases hown.2 with ⟨rfl, rfl⟩ | ⟨g, cap, cur, rfl, _⟩
  · have : l = [] := List.eq_nil_of_length_eq_zero hl
    subst this
    exact run_convert_bytes_nil (P := P) w src e hs he 0 0 dst hd
  · rw [run_convert_bytes_arg (P := P) w src e hs he g 0 n cap (l.map fun b => (b.toNat : Int)) (by simpa using hl) ?_ dst hd, strOfNums_B8]
    intro i hi
    have hc := hown.cellAt i (by omega)
    rw [Nat.zero_add, hc, B8_get, List.getElem?_eq_getElem (by omega)]
    simp [List.getElem?_eq_getElem (show i < l.length by omega)]

/-- The number that bytes hold, in 64 bits. -/
def num (l : List UInt8) : Nat := l.foldl (fun n b => (n * 256 + b.toNat) % 18446744073709551616) 0
theorem num_lt (l : List UInt8) : num l < 18446744073709551616 := by
  unfold num
  suffices h : ∀ (l : List UInt8) n, n < 18446744073709551616 → l.foldl (fun n b => (n * 256 + b.toNat) % 18446744073709551616) n < 18446744073709551616 from h l 0 (by omega)
  intro l; induction l with
  | nil => intro n h; simpa using h
  | cons b l ih => intro n _; exact ih _ (Nat.mod_lt _ (by omega))
theorem num_snoc (l : List UInt8) (b : UInt8) : num (l ++ [b]) = (num l * 256 + b.toNat) % 18446744073709551616 := by
  unfold num; rw [List.foldl_append]; rfl

theorem bits_or_u64_nat (a b : Nat) (ha : a < 18446744073709551616) (hb : b < 18446744073709551616) :
    bits .or .u64 (a : Int) (b : Int) = ((a ||| b : Nat) : Int) := by
  have hx : a ||| b < 2 ^ 64 := Nat.or_lt_two_pow (by omega) (by omega)
  have h1 : (BitVec.ofInt 64 (a : Int)).toNat = a := by
    rw [BitVec.ofInt_natCast, BitVec.toNat_ofNat]; exact Nat.mod_eq_of_lt (by omega)
  have h2 : (BitVec.ofInt 64 (b : Int)).toNat = b := by
    rw [BitVec.ofInt_natCast, BitVec.toNat_ofNat]; exact Nat.mod_eq_of_lt (by omega)
  show IntKind.u64.wrap ((BitVec.ofInt 64 (a : Int) ||| BitVec.ofInt 64 (b : Int)).toNat : Int) = _
  rw [BitVec.toNat_or, h1, h2, IntKind.wrap_u64]
  omega
theorem or_low (a c : Nat) (hc : c < 256) : (a * 256 % 18446744073709551616) ||| c = (a * 256 + c) % 18446744073709551616 := by
  have e : a * 256 % 18446744073709551616 = (a % 72057594037927936) <<< 8 := by rw [Nat.shiftLeft_eq]; omega
  rw [e, ← Nat.shiftLeft_add_eq_or_of_lt (by omega), Nat.shiftLeft_eq]; omega
/-- 'n<<8 | uint64(c)'. -/
theorem shl8_or (a : Nat) (c : UInt8) : bits BinOp.or IntKind.u64 (IntKind.u64.wrap ((a : Int) * 256)) (IntKind.u64.wrap (c.toNat : Int)) = (((a * 256 + c.toNat) % 18446744073709551616 : Nat) : Int) := by
  have hc := c.toNat_lt
  rw [IntKind.wrap_u64, IntKind.wrap_u64]
  have e1 : ((a : Int) * 256) % 18446744073709551616 = ((a * 256 % 18446744073709551616 : Nat) : Int) := by omega
  have e2 : (c.toNat : Int) % 18446744073709551616 = ((c.toNat : Nat) : Int) := by omega
  rw [e1, e2, bits_or_u64_nat _ _ (Nat.mod_lt _ (by omega)) (by omega), or_low _ _ (by omega)]

/-- The lowest bytes of n, w of them, the highest first. -/
def putL (n : Nat) : Nat → List UInt8
  | 0 => []
  | i + 1 => UInt8.ofNat (n / 256 ^ i) :: putL n i
theorem putL_length (n : Nat) : ∀ w, (putL n w).length = w
  | 0 => rfl
  | i + 1 => by simp [putL, putL_length n i]

/-- A number held between 0 and another one. -/
def clampN (n : Int) (m : Nat) : Nat := if (m : Int) < n then m else n.toNat
theorem clampN_le (n : Int) (m : Nat) : clampN n m ≤ m := by unfold clampN; split <;> omega

theorem ret_int {k : IntKind} {a b : Int} (h : a = b) : Ending.returned (.int k a) = .returned (.int k b) := by rw [h]
/-- One call behind another: below what there was at the first, nothing has turned. -/
theorem bstep {w a b : World} (h : Below w.heap.size w a) (k : Below a.heap.size a b) : Below w.heap.size w b := h.trans (k.mono h.size)
theorem bdrewN {B : Nat} {a w : World} (h : Below B a w) (n : Nat) : Below B a (w.drewN n) := h.trans ⟨rfl, rfl, rfl, Nat.le_refl _, fun _ _ => rfl⟩
end Go.Proofs.Ytgpccgcppbdlpaa

/-
  Two arrays of bytes are held against each other: a rule for the walk.
-/
namespace Go.Proofs.Ytgpccgcppbdlpaa
open Go.RowKit
set_option linter.unusedVariables false

theorem eqItems_bytes {P : Program} {e : TypeId} (he : P.underlying e = some (.int .u8)) (hp : P.plainKey e = true) (d : Nat) (l m : List UInt8) (w : World) :
    ∀ is : List Nat, (∀ i ∈ is, i < l.length ∧ i < m.length) → (Op.eqItems (d + 1) e 1 (B8 l).toArray (B8 m).toArray is).run P w = .ok (is.all fun i => l.getD i 0 == m.getD i 0) w
  | [], _ => by simp [Op.eqItems]
  | i :: is, h => by
    obtain ⟨h1, h2⟩ := h i (by simp)
    have ih := eqItems_bytes he hp d l m w is (fun j hj => h j (by simp [hj]))
    have p1 : (part e (B8 l).toArray (i * 1)).run P w = .ok (.int .u8 ((l.getD i 0).toNat : Int)) w := run_part_plain w hp (by simp [B8_get, h1])
    have p2 : (part e (B8 m).toArray (i * 1)).run P w = .ok (.int .u8 ((m.getD i 0).toNat : Int)) w := run_part_plain w hp (by simp [B8_get, h2])
    have p3 : (Op.equalIn (d + 1) e (.int .u8 ((l.getD i 0).toNat : Int)) (.int .u8 ((m.getD i 0).toNat : Int))).run P w = .ok (l.getD i 0 == m.getD i 0) w := by
      have hq : (((l.getD i 0).toNat : Int) == ((m.getD i 0).toNat : Int)) = (l.getD i 0 == m.getD i 0) := by
        generalize l.getD i 0 = x; generalize m.getD i 0 = y
        rw [Bool.eq_iff_iff, beq_iff_eq, beq_iff_eq, ← UInt8.toNat_inj]; omega
      generalize l.getD i 0 = x at hq ⊢; generalize m.getD i 0 = y at hq ⊢
      simp [Op.equalIn, run_underlying he, hq]
    simp only [Op.eqItems, Sem.run_bind, p1, p2, p3, Result.andThen_ok, List.all_cons]
    cases l.getD i 0 == m.getD i 0
    · simp
    · simpa using ih
theorem all_range_eq (l m : List UInt8) (h : l.length = m.length) : ((List.range l.length).all fun i => l.getD i 0 == m.getD i 0) = decide (l = m) := by
  rw [Bool.eq_iff_iff]
  simp only [List.all_eq_true, List.mem_range, beq_iff_eq, decide_eq_true_eq]
  constructor
  · intro ha
    apply List.ext_getElem h
    intro i h1 h2
    have := ha i h1
    simpa [List.getD, h1, h2] using this
  · rintro rfl i _; rfl
theorem info_of {P : Program} {e : TypeId} {k : TypeDesc} (h : P.underlying e = some k) : ∃ i, P.info? e = some i := info_of_underlying h
end Go.Proofs.Ytgpccgcppbdlpaa

/-
  Shapes: how the cells of a value that came in read as plain data: numbers, bools, texts, rows of bytes, structs and slices of any of these, one in another. Nothing of the program.
-/
namespace Go.Proofs.Ytgpccgcppbdlpaa
open Go.RowKit
set_option linter.unusedVariables false

/-- What some cells are, in a world. -/
abbrev Shape (α : Type) := World → List Value → α → Prop
def intS (k : IntKind) : Shape Int := fun _ cs n => cs = [.int k n] ∧ (Lit.int k n).wf = true
def boolS : Shape Bool := fun _ cs b => cs = [.bool b]
/-- A row of n bytes by value. -/
def bytesS (n : Nat) : Shape (List UInt8) := fun _ cs l => cs = B8 l ∧ l.length = n
def unitS : Shape Unit := fun _ cs _ => cs = []
/-- One behind another, the first of k cells. -/
def pairS {α β : Type} (k : Nat) (R : Shape α) (Q : Shape β) : Shape (α × β) := fun w cs x => ∃ c d, cs = c ++ d ∧ c.length = k ∧ R w c x.1 ∧ Q w d x.2
/-- A slice: nil, or its cells, k for each element. -/
def sliceS {α : Type} (k : Nat) (R : Shape α) : Shape (List α) := fun w cs xs =>
  (cs = [.slice none 0 0] ∧ xs = []) ∨ ∃ (a : Addr) (cap : Nat), cs = [.slice (some a) xs.length cap] ∧ xs.length ≤ cap ∧ cap ≤ maxLen ∧
    (xs ≠ [] → a.spot = none ∧ a.block < w.heap.size) ∧
    ∀ i x, xs[i]? = some x → ∃ c, c.length = k ∧ (∀ j, j < k → w.cell? ⟨a.block, a.off + (i * k + j), none⟩ = c[j]?) ∧ R w c x

/-- Whatever was there at first is read later, too. -/
def Stable {α : Type} (R : Shape α) : Prop := ∀ (w w' : World) (cs : List Value) (x : α), (∀ b o, b < w.heap.size → w'.cell? ⟨b, o, none⟩ = w.cell? ⟨b, o, none⟩) → w.heap.size ≤ w'.heap.size → R w cs x → R w' cs x
theorem Stable.below {α : Type} {R : Shape α} (h : Stable R) {w w' : World} {cs : List Value} {x : α} (hb : Below w.heap.size w w') (hx : R w cs x) : R w' cs x :=
  h w w' cs x (fun b o hlt => hb.cell (p := ⟨b, o, none⟩) hlt) hb.size hx

end Go.Proofs.Ytgpccgcppbdlpaa

/-
  Addresses by value: their cells; rows of bytes within a block; the turn of such a row into a text.
-/
namespace Go.Proofs.Ytgpccgcppbdlpaa
open Go.RowKit
set_option linter.unusedVariables false

/-- An address's cells. -/
def addrC (v : Bool) (l : List UInt8) : List Value := .bool v :: B8 l
theorem addrC_length (v : Bool) (l : List UInt8) : (addrC v l).length = l.length + 1 := by simp [addrC, B8_length]
/-- Bytes in a block from an offset on. -/
def RowAt (w : World) (b o : Nat) (l : List UInt8) : Prop := ∀ i (h : i < l.length), w.cell? ⟨b, o + i, none⟩ = some (.int .u8 ((l[i]).toNat : Int))
theorem RowAt.below {w w' : World} {b o : Nat} {l : List UInt8} {B : Nat} (hr : RowAt w b o l) (hB : b < B) (h : Below B w w') : RowAt w' b o l := fun i hi => by
  rw [h.cell (p := ⟨b, o + i, none⟩) hB]; exact hr i hi
theorem RowAt.drew {w : World} {b o : Nat} {l : List UInt8} (hr : RowAt w b o l) : RowAt w.drew b o l := hr
theorem RowAt.drewN {w : World} {b o : Nat} {l : List UInt8} (hr : RowAt w b o l) (n : Nat) : RowAt (w.drewN n) b o l := hr
/-- 'string(b[:n])' of such a row: a rule for the walk. -/
theorem run_string_row {P : Program} {w : World} (src dst e : TypeId) (hs : P.underlying src = some (.slice e)) (he : P.underlying e = some (.int .u8)) (hd : P.underlying dst = some .string)
    {b o : Nat} {l : List UInt8} (hr : RowAt w b o l) (n cap : Nat) (hn : n ≤ l.length) : (convert src dst (.slice (some ⟨b, o, none⟩) n cap)).run P w = .ok (.string (Str (l.take n))) w := by
  rw [run_convert_bytes_arg (P := P) w src e hs he b o n cap ((l.take n).map fun b => (b.toNat : Int)) (by simp; omega) ?_ dst hd, strOfNums_B8]
  intro i hi
  rw [hr i (by omega)]
  have : i < l.length := by omega
  simp [hi, this]
theorem rowAt_box (w : World) (v : Bool) (l : List UInt8) (t : TypeId) (fr : Nat × Nat) (n : Nat) (hn : n = w.heap.size) : RowAt (w.alloc (.cells (addrC v l).toArray t fr)) n 1 l := fun i hi => by
  subst hn
  rw [World.cell?_alloc_mark]
  simp [addrC, Nat.add_comm 1 i, B8, List.getElem?_eq_getElem hi]
end Go.Proofs.Ytgpccgcppbdlpaa

/-
  The shape of an address that came in.
-/
namespace Go.Proofs.Ytgpccgcppbdlpaa
open Go.RowKit
set_option linter.unusedVariables false

def addrS : Shape (Bool × (List UInt8 × Unit)) := pairS 1 boolS (pairS 16 (bytesS 16) unitS)
theorem addrS_cells {w : World} {cs : List Value} {x : Bool × (List UInt8 × Unit)} (h : addrS w cs x) : cs = addrC x.1 x.2.1 ∧ x.2.1.length = 16 := by
  obtain ⟨c, d, rfl, _, h1, c', d', rfl, _, h2, h3⟩ := h
  obtain ⟨h4, h5⟩ := h2
  have h1' : c = [.bool x.1] := h1
  have h3' : d' = [] := h3
  subst h1' h3' h4
  exact ⟨by simp [addrC], h5⟩

/-- The cells that lie in a block from an offset on. -/
def row? (w : World) (b o n : Nat) : Option (List Value) := w.cells? 0 ⟨b, o, none⟩ n
theorem row?_of {w : World} {b o : Nat} {cs : List Value} (h : w.rangeAt b o cs) : row? w b o cs.length = some cs := by
  unfold row?
  exact Go.ChangeShapes.cells?_of (Nat.zero_le _) rfl (fun i hi => by rw [h i cs[i] (List.getElem?_eq_getElem hi), List.getElem?_eq_getElem hi])
theorem rangeAt_of_row? {w : World} {b o n : Nat} {cs : List Value} (h : row? w b o n = some cs) : w.rangeAt b o cs ∧ cs.length = n := by
  obtain ⟨_, h1, h2⟩ := World.cells?_some h
  refine ⟨fun j v hv => ?_, h1⟩
  have hlt := (List.getElem?_eq_some_iff.1 hv).1
  have := h2 j (by omega)
  rw [Addr.add_mid] at this
  rw [this, hv]
theorem row?_below {w w' : World} {b o n B : Nat} {cs : List Value} (h : row? w b o n = some cs) (hB : b < B) (hb : Below B w w') : row? w' b o n = some cs := by
  obtain ⟨h1, h2⟩ := rangeAt_of_row? h
  subst h2
  exact row?_of (fun j v hv => by rw [hb.cell (p := ⟨b, o + j, none⟩) hB]; exact h1 j v hv)
end Go.Proofs.Ytgpccgcppbdlpaa

/-
  Objects in memory: a block known whole. What a store, a draw, a new block, a call elsewhere leave of it.
-/
namespace Go.Proofs.Ytgpccgcppbdlpaa
open Go.RowKit
set_option linter.unusedVariables false

/-- Block b is these cells, none of them frozen. -/
def ObjAt (w : World) (b : Nat) (cs : Array Value) (t : TypeId) : Prop := w.heap[b]? = some (.cells cs t (0, 0))
theorem ObjAt.lt {w : World} {b : Nat} {cs : Array Value} {t : TypeId} (h : ObjAt w b cs t) : b < w.heap.size := (Array.getElem?_eq_some_iff.1 h).1
theorem ObjAt.cell {w : World} {b : Nat} {cs : Array Value} {t : TypeId} (h : ObjAt w b cs t) (j : Nat) : w.cell? ⟨b, j, none⟩ = cs[j]? := cell_of_row w b j cs t (0, 0) h
theorem ObjAt.free {w : World} {b : Nat} {cs : Array Value} {t : TypeId} (h : ObjAt w b cs t) (j : Nat) : w.frozen? ⟨b, j, none⟩ = false := frozen_of_row w b j cs t h
theorem ObjAt.set {w : World} {b : Nat} {cs : Array Value} {t : TypeId} (h : ObjAt w b cs t) (j : Nat) (v : Value) : ObjAt (w.setCell ⟨b, j, none⟩ v) b (cs.setIfInBounds j v) t := heap_setCell_same w b j cs t v h
theorem ObjAt.other {w : World} {b : Nat} {cs : Array Value} {t : TypeId} (h : ObjAt w b cs t) (a : Addr) (v : Value) (hne : b ≠ a.block) : ObjAt (w.setCell a v) b cs t := (heap_setCell_other w a b v hne).trans h
theorem ObjAt.drew {w : World} {b : Nat} {cs : Array Value} {t : TypeId} (h : ObjAt w b cs t) : ObjAt w.drew b cs t := h
theorem ObjAt.drewN {w : World} {b : Nat} {cs : Array Value} {t : TypeId} (h : ObjAt w b cs t) (n : Nat) : ObjAt (w.drewN n) b cs t := h
theorem ObjAt.alloc {w : World} {b : Nat} {cs : Array Value} {t : TypeId} (h : ObjAt w b cs t) (o : Obj) : ObjAt (w.alloc o) b cs t := (Below.heap_alloc w o b h.lt).trans h
theorem ObjAt.made (w : World) (cs : Array Value) (t : TypeId) : ObjAt (w.alloc (.cells cs t)) w.heap.size cs t := heap_alloc_new w _
theorem ObjAt.below {w w' : World} {b B : Nat} {cs : Array Value} {t : TypeId} (h : ObjAt w b cs t) (hb : Below B w w') (hl : b < B) : ObjAt w' b cs t := (hb.block b hl).trans h
theorem ObjAt.grown {w w' : World} {b : Nat} {row : Option Nat} {cs : Array Value} {t : TypeId} (h : ObjAt w b cs t) (hg : w.grownBy w' row) (hne : some b ≠ row) : ObjAt w' b cs t := (hg.block b h.lt hne).trans h
theorem gset (w : World) (b j : Nat) (v : Value) : w.grownBy (w.setCell ⟨b, j, none⟩ v) (some b) :=
  ⟨rfl, rfl, rfl, by simp, fun k _ hk => heap_setCell_other w ⟨b, j, none⟩ k v (fun e => hk (by simp [e]))⟩
theorem gtrans {w a b : World} {row : Option Nat} (h : w.grownBy a row) (k : a.grownBy b row) : w.grownBy b row :=
  ⟨k.os.trans h.os, k.tape.trans h.tape, k.output.trans h.output, Nat.le_trans h.size k.size, fun i hi hne => (k.block i (Nat.lt_of_lt_of_le hi h.size) hne).trans (h.block i hi hne)⟩
theorem gset' {w a : World} {b : Nat} (h : w.grownBy a (some b)) (j : Nat) (v : Value) : w.grownBy (a.setCell ⟨b, j, none⟩ v) (some b) := gtrans h (gset a b j v)
theorem bgrown {w a w' : World} {row : Option Nat} (h : Below w.heap.size w a) (hg : a.grownBy w' row) (hr : ∀ k, row = some k → w.heap.size ≤ k) : Below w.heap.size w w' := h.grown hg h.size hr
theorem Str_extract (l : List UInt8) (a b : Nat) : (Str l).extract a b = Str ((l.drop a).take (b - a)) := by
  apply ByteArray.ext; simp [Str]
end Go.Proofs.Ytgpccgcppbdlpaa

