/-
  Texts joined: Zz, Base, EqB, Open, Addr, ShAddr, Obj.
-/
import Derived.Test.YtlbdehegknehiaaGreatProg
import Derived.Lib.Hide
import Derived.Below
import Derived.WalkKit
import Derived.ProofKit
import Derived.Handy
import Derived.Laws.BytesArg
import Derived.Laws.OwnMore
import Derived.Deep.QuietTactic
import Derived.ChangeKeysEq
import Derived.OpenShut
import Derived.Deep.Slices
import Derived.Test.YtlbdehegknehiaaGreatChecked
import Derived.Deep.MidRow
import Derived.ChangeShapes
import Derived.Deep.AppendLies
/- Short names for long ones, and for zero values. -/
namespace Go.Proofs.YtlbdehegknehiaaGreat
open Go.RowKit
abbrev zz40 : Array Value := #[.int .i64 0, .int .i64 0, .int .i64 0, .int .i64 0, .bool false, .int .u8 0, .int .u8 0, .int .u8 0, .int .u8 0, .int .u8 0, .int .u8 0, .int .u8 0, .int .u8 0, .int .u8 0, .int .u8 0, .int .u8 0, .int .u8 0, .int .u8 0, .int .u8 0, .int .u8 0, .int .u8 0, .bool false, .int .u8 0, .int .u8 0, .int .u8 0, .int .u8 0, .int .u8 0, .int .u8 0, .int .u8 0, .int .u8 0, .int .u8 0, .int .u8 0, .int .u8 0, .int .u8 0, .int .u8 0, .int .u8 0, .int .u8 0, .int .u8 0, .bool false, .string ⟨#[]⟩]
abbrev zz38 : Array Value := #[.bool false, .int .u8 0, .int .u8 0, .int .u8 0, .int .u8 0, .int .u8 0, .int .u8 0, .int .u8 0, .int .u8 0, .int .u8 0, .int .u8 0, .int .u8 0, .int .u8 0, .int .u8 0, .int .u8 0, .int .u8 0, .int .u8 0, .bool false, .int .u8 0, .int .u8 0, .int .u8 0, .int .u8 0, .int .u8 0, .int .u8 0, .int .u8 0, .int .u8 0, .int .u8 0, .int .u8 0, .int .u8 0, .int .u8 0, .int .u8 0, .int .u8 0, .int .u8 0, .int .u8 0, .int .i64 0, .int .i64 0, .bool false, .string ⟨#[]⟩]
abbrev zz26 : Array Value := #[.bool false, .int .i64 0, .int .i64 0, .int .i64 0, .bool false, .int .u8 0, .int .u8 0, .int .u8 0, .int .u8 0, .int .u8 0, .int .u8 0, .int .u8 0, .int .u8 0, .int .u8 0, .int .u8 0, .int .u8 0, .int .u8 0, .int .u8 0, .int .u8 0, .int .u8 0, .int .u8 0, .bool false, .int .i64 0, .int .i64 0, .slice none 0 0, .slice none 0 0]
abbrev zz19 : Array Value := #[.int .i64 0, .bool false, .int .u8 0, .int .u8 0, .int .u8 0, .int .u8 0, .int .u8 0, .int .u8 0, .int .u8 0, .int .u8 0, .int .u8 0, .int .u8 0, .int .u8 0, .int .u8 0, .int .u8 0, .int .u8 0, .int .u8 0, .int .u8 0, .slice none 0 0]
abbrev zz17 : Array Value := #[.bool false, .int .u8 0, .int .u8 0, .int .u8 0, .int .u8 0, .int .u8 0, .int .u8 0, .int .u8 0, .int .u8 0, .int .u8 0, .int .u8 0, .int .u8 0, .int .u8 0, .int .u8 0, .int .u8 0, .int .u8 0, .int .u8 0]
abbrev zze : Array Value := #[.int .u8 0, .int .u8 0, .int .u8 0, .int .u8 0, .int .u8 0, .int .u8 0, .int .u8 0, .int .u8 0, .int .u8 0, .int .u8 0, .int .u8 0, .int .u8 0, .bool false, .int .i64 0, .int .i64 0, .int .i64 0, .string ⟨#[]⟩]
theorem zsA {α : Type} {l : List α} {i : Nat} {a : α} : l.toArray.setIfInBounds i a = (l.set i a).toArray := List.setIfInBounds_toArray ..
theorem zsS {α : Type} {l : List α} {i : Nat} {a b : α} : (a :: l).set (i + 1) b = a :: l.set i b := List.set_cons_succ ..
theorem zsZ {α : Type} {l : List α} {a b : α} : (a :: l).set 0 b = b :: l := List.set_cons_zero ..
theorem zh {p : Prop} (h : p) : Hid p := Lib.hid h
end Go.Proofs.YtlbdehegknehiaaGreat

/- A part of the proof. -/
namespace Go.Proofs.YtlbdehegknehiaaGreat
open Go.RowKit
set_option linter.unusedVariables false
def B8 (l : List UInt8) : List Value := l.map (fun b => Value.int .u8 (b.toNat : Int))
theorem B8_length (l : List UInt8) : (B8 l).length = l.length := by simp [B8]
theorem B8_get (l : List UInt8) (j : Nat) : (B8 l)[j]? = (l[j]?).map (fun b => Value.int .u8 (b.toNat : Int)) := by simp [B8]
theorem B8_append (l m : List UInt8) : B8 (l ++ m) = B8 l ++ B8 m := by simp [B8]
theorem B8_set (l : List UInt8) (j : Nat) (b : UInt8) : (B8 l).set j (Value.int .u8 (b.toNat : Int)) = B8 (l.set j b) := by
  simp [B8, List.map_set]
theorem B8_one (l : List UInt8) : ∀ u ∈ B8 l, u.oneCell' = true := by
  intro u hu
  simp only [B8, List.mem_map] at hu
  obtain ⟨b, _, rfl⟩ := hu
  rfl
theorem B8_replicate (n : Nat) : B8 (List.replicate n 0) = List.replicate n (Value.int .u8 0) := by simp [B8]
def Str (l : List UInt8) : ByteArray := ⟨l.toArray⟩
theorem Str_size (l : List UInt8) : (Str l).size = l.length := by simp [Str, ByteArray.size]
theorem strOfNums_B8 (l : List UInt8) : strOfNums (l.map fun b => (b.toNat : Int)) = Str l := by
  simp [strOfNums, Str, Function.comp_def]
theorem take_snoc (s : ByteArray) (k : Nat) (h : k < s.size) : s.data.toList.take (k + 1) = s.data.toList.take k ++ [s[k]] := by
  rw [List.take_succ_eq_append_getElem (by simpa using h)]; rfl
theorem run_string_own {P : Program} {w : World} (src dst e : TypeId) (hs : P.underlying src = some (.slice e)) (he : P.underlying e = some (.int .u8)) (hd : P.underlying dst = some .string)
    {base : Nat} {v : Value} {n : Nat} {l : List UInt8} (hown : w.ownsRow base e 1 v n (B8 l)) : (convert src dst v).run P w = .ok (.string (Str l)) w := by
  have hl : l.length = n := by have := hown.1; rw [B8_length] at this; omega
  rcases hown.2 with ⟨rfl, rfl⟩ | ⟨g, cap, cur, rfl, _⟩
  · have : l = [] := List.eq_nil_of_length_eq_zero hl
    subst this
    exact run_convert_bytes_nil (P := P) w src e hs he 0 0 dst hd
  · rw [run_convert_bytes_arg (P := P) w src e hs he g 0 n cap (l.map fun b => (b.toNat : Int)) (by simpa using hl) ?_ dst hd, strOfNums_B8]
    intro i hi
    have hc := hown.cellAt i (by omega)
    rw [Nat.zero_add, hc, B8_get, List.getElem?_eq_getElem (by omega)]
    simp [List.getElem?_eq_getElem (show i < l.length by omega)]
def num (l : List UInt8) : Nat := l.foldl (fun n b => (n * 256 + b.toNat) % 18446744073709551616) 0
theorem num_snoc (l : List UInt8) (b : UInt8) : num (l ++ [b]) = (num l * 256 + b.toNat) % 18446744073709551616 := by
  unfold num; rw [List.foldl_append]; rfl
theorem bits_or_u64_nat (a b : Nat) (ha : a < 18446744073709551616) (hb : b < 18446744073709551616) :
    bits .or .u64 (a : Int) (b : Int) = ((a ||| b : Nat) : Int) := by
  have hx : a ||| b < 2 ^ 64 := Nat.or_lt_two_pow (by omega) (by omega)
  have h1 : (BitVec.ofInt 64 (a : Int)).toNat = a := by
    rw [BitVec.ofInt_natCast, BitVec.toNat_ofNat]; exact Nat.mod_eq_of_lt (by omega)
  have h2 : (BitVec.ofInt 64 (b : Int)).toNat = b := by
    rw [BitVec.ofInt_natCast, BitVec.toNat_ofNat]; exact Nat.mod_eq_of_lt (by omega)
  show IntKind.u64.wrap ((BitVec.ofInt 64 (a : Int) ||| BitVec.ofInt 64 (b : Int)).toNat : Int) = _
  rw [BitVec.toNat_or, h1, h2, IntKind.wrap_u64]
  omega
theorem or_low (a c : Nat) (hc : c < 256) : (a * 256 % 18446744073709551616) ||| c = (a * 256 + c) % 18446744073709551616 := by
  have e : a * 256 % 18446744073709551616 = (a % 72057594037927936) <<< 8 := by rw [Nat.shiftLeft_eq]; omega
  rw [e, ← Nat.shiftLeft_add_eq_or_of_lt (by omega), Nat.shiftLeft_eq]; omega
theorem shl8_or (a : Nat) (c : UInt8) : bits BinOp.or IntKind.u64 (IntKind.u64.wrap ((a : Int) * 256)) (IntKind.u64.wrap (c.toNat : Int)) = (((a * 256 + c.toNat) % 18446744073709551616 : Nat) : Int) := by
  have hc := c.toNat_lt
  rw [IntKind.wrap_u64, IntKind.wrap_u64]
  have e1 : ((a : Int) * 256) % 18446744073709551616 = ((a * 256 % 18446744073709551616 : Nat) : Int) := by omega
  have e2 : (c.toNat : Int) % 18446744073709551616 = ((c.toNat : Nat) : Int) := by omega
  rw [e1, e2, bits_or_u64_nat _ _ (Nat.mod_lt _ (by omega)) (by omega), or_low _ _ (by omega)]
def putL (n : Nat) : Nat → List UInt8
  | 0 => []
  | i + 1 => UInt8.ofNat (n / 256 ^ i) :: putL n i
theorem putL_length (n : Nat) : ∀ w, (putL n w).length = w
  | 0 => rfl
  | i + 1 => by simp [putL, putL_length n i]
def clampN (n : Int) (m : Nat) : Nat := if (m : Int) < n then m else n.toNat
theorem clampN_le (n : Int) (m : Nat) : clampN n m ≤ m := by unfold clampN; split <;> omega
theorem ret_int {k : IntKind} {a b : Int} (h : a = b) : Ending.returned (.int k a) = .returned (.int k b) := by rw [h]
theorem bstep {w a b : World} (h : Below w.heap.size w a) (k : Below a.heap.size a b) : Below w.heap.size w b := h.trans (k.mono h.size)
theorem bdrewN {B : Nat} {a w : World} (h : Below B a w) (n : Nat) : Below B a (w.drewN n) := h.trans ⟨rfl, rfl, rfl, Nat.le_refl _, fun _ _ => rfl⟩
theorem bsame {B : Nat} {a w w' : World} (h : Below B a w) (e : ∃ d, w' = w.drewN d) : Below B a w' := by obtain ⟨d, rfl⟩ := e; exact bdrewN h d
end Go.Proofs.YtlbdehegknehiaaGreat

/- A part of the proof. -/
namespace Go.Proofs.YtlbdehegknehiaaGreat
open Go.RowKit
set_option linter.unusedVariables false
theorem eqItems_bytes {P : Program} {e : TypeId} (he : P.underlying e = some (.int .u8)) (hp : P.plainKey e = true) (d : Nat) (l m : List UInt8) (w : World) :
    ∀ is : List Nat, (∀ i ∈ is, i < l.length ∧ i < m.length) → (Op.eqItems (d + 1) e 1 (B8 l).toArray (B8 m).toArray is).run P w = .ok (is.all fun i => l.getD i 0 == m.getD i 0) w
  | [], _ => by simp [Op.eqItems]
  | i :: is, h => by
    obtain ⟨h1, h2⟩ := h i (by simp)
    have ih := eqItems_bytes he hp d l m w is (fun j hj => h j (by simp [hj]))
    have p1 : (part e (B8 l).toArray (i * 1)).run P w = .ok (.int .u8 ((l.getD i 0).toNat : Int)) w := run_part_plain w hp (by simp [B8_get, h1])
    have p2 : (part e (B8 m).toArray (i * 1)).run P w = .ok (.int .u8 ((m.getD i 0).toNat : Int)) w := run_part_plain w hp (by simp [B8_get, h2])
    have p3 : (Op.equalIn (d + 1) e (.int .u8 ((l.getD i 0).toNat : Int)) (.int .u8 ((m.getD i 0).toNat : Int))).run P w = .ok (l.getD i 0 == m.getD i 0) w := by
      have hq : (((l.getD i 0).toNat : Int) == ((m.getD i 0).toNat : Int)) = (l.getD i 0 == m.getD i 0) := by
        generalize l.getD i 0 = x; generalize m.getD i 0 = y
        rw [Bool.eq_iff_iff, beq_iff_eq, beq_iff_eq, ← UInt8.toNat_inj]; omega
      generalize l.getD i 0 = x at hq ⊢; generalize m.getD i 0 = y at hq ⊢
      simp [Op.equalIn, run_underlying he, hq]
    simp only [Op.eqItems, Sem.run_bind, p1, p2, p3, Result.andThen_ok, List.all_cons]
    cases l.getD i 0 == m.getD i 0
    · simp
    · simpa using ih
theorem all_range_eq (l m : List UInt8) (h : l.length = m.length) : ((List.range l.length).all fun i => l.getD i 0 == m.getD i 0) = decide (l = m) := by
  rw [Bool.eq_iff_iff]
  simp only [List.all_eq_true, List.mem_range, beq_iff_eq, decide_eq_true_eq]
  constructor
  · intro ha
    apply List.ext_getElem h
    intro i h1 h2
    have := ha i h1
    simpa [List.getD, h1, h2] using this
  · rintro rfl i _; rfl
theorem info_of {P : Program} {e : TypeId} {k : TypeDesc} (h : P.underlying e = some k) : ∃ i, P.info? e = some i := info_of_underlying h
end Go.Proofs.YtlbdehegknehiaaGreat

/- A part of the proof. -/
namespace Go.Proofs.YtlbdehegknehiaaGreat
open Go.RowKit
set_option linter.unusedVariables false
abbrev Shape (α : Type) := World → List Value → α → Prop
def intS (k : IntKind) : Shape Int := fun _ cs n => cs = [.int k n] ∧ (Lit.int k n).wf = true
def boolS : Shape Bool := fun _ cs b => cs = [.bool b]
def bytesS (n : Nat) : Shape (List UInt8) := fun _ cs l => cs = B8 l ∧ l.length = n
def unitS : Shape Unit := fun _ cs _ => cs = []
def pairS {α β : Type} (k : Nat) (R : Shape α) (Q : Shape β) : Shape (α × β) := fun w cs x => ∃ c d, cs = c ++ d ∧ c.length = k ∧ R w c x.1 ∧ Q w d x.2
def sliceS {α : Type} (k : Nat) (R : Shape α) : Shape (List α) := fun w cs xs =>
  (cs = [.slice none 0 0] ∧ xs = []) ∨ ∃ (a : Addr) (cap : Nat), cs = [.slice (some a) xs.length cap] ∧ xs.length ≤ cap ∧ cap ≤ maxLen ∧
    (xs ≠ [] → a.spot = none ∧ a.block < w.heap.size) ∧
    ∀ i x, xs[i]? = some x → ∃ c, c.length = k ∧ (∀ j, j < k → w.cell? ⟨a.block, a.off + (i * k + j), none⟩ = c[j]?) ∧ R w c x
def Stable {α : Type} (R : Shape α) : Prop := ∀ (w w' : World) (cs : List Value) (x : α), (∀ b o, b < w.heap.size → w'.cell? ⟨b, o, none⟩ = w.cell? ⟨b, o, none⟩) → w.heap.size ≤ w'.heap.size → R w cs x → R w' cs x
theorem Stable.below {α : Type} {R : Shape α} (h : Stable R) {w w' : World} {cs : List Value} {x : α} (hb : Below w.heap.size w w') (hx : R w cs x) : R w' cs x :=
  h w w' cs x (fun b o hlt => hb.cell (p := ⟨b, o, none⟩) hlt) hb.size hx
def Opens {α : Type} (P : Program) (t : TypeId) (R : Shape α) : Prop :=
  ∀ {H : Type} {enc : TypeId × Value → H} {w : World} {base : Nat} {sp : Nat → Bool} {held : Bool} {fuel : Nat} {cs : List Value} {y : DataW H × List MemPlace},
    DataW.trod enc P w base sp held fuel t cs = some y → ∃ x, R w cs x
theorem opens_int {P : Program} {t : TypeId} {k : IntKind} (ht : P.underlying t = some (.int k)) : Opens P t (intS k) := fun h => by
  obtain ⟨n, e, _, wf⟩ := DataW.trod_int ht h; exact ⟨n, e, wf⟩
theorem opens_bool {P : Program} {t : TypeId} (ht : P.underlying t = some .bool) : Opens P t boolS := fun h => by
  obtain ⟨b, e, _⟩ := DataW.trod_bool ht h; exact ⟨b, e⟩
def OpensFrom {α : Type} (P : Program) (t : TypeId) (fs : List Field) (off : Nat) (R : Shape α) : Prop :=
  ∀ {H : Type} {enc : TypeId × Value → H} {w : World} {base : Nat} {sp : Nat → Bool} {held : Bool} {n : Nat} {cs : List Value}, cs.length = P.cellsOf t →
    (∀ f ∈ fs, ∃ y, DataW.trod enc P w base sp held n f.type ((cs.drop f.offset).take (P.cellsOf f.type)) = some y) → ∃ x, R w (cs.drop off) x
theorem opens_nil {P : Program} {t : TypeId} {off : Nat} (h : P.cellsOf t = off) : OpensFrom P t [] off unitS := fun hl _ => ⟨(), by
  unfold unitS; exact List.drop_eq_nil_of_le (by omega)⟩
theorem opens_cons {α β : Type} {P : Program} {t : TypeId} {f : Field} {fs : List Field} {off k : Nat} {R : Shape α} {Q : Shape β} (ho : f.offset = off) (hk : P.cellsOf f.type = k) (hfit : off + k ≤ P.cellsOf t)
    (h0 : Opens P f.type R) (hs : OpensFrom P t fs (off + k) Q) : OpensFrom P t (f :: fs) off (pairS k R Q) := fun {H enc w base sp held n cs} hl hf => by
  obtain ⟨y, hy⟩ := hf f (by simp)
  obtain ⟨x, hx⟩ := h0 hy
  obtain ⟨z, hz⟩ := hs hl (fun g hg => hf g (by simp [hg]))
  rw [ho, hk] at hx
  refine ⟨(x, z), (cs.drop off).take k, (cs.drop off).drop k, (List.take_append_drop _ _).symm, ?_, hx, ?_⟩
  · rw [List.length_take, List.length_drop]; omega
  · rw [List.drop_drop]; exact hz
theorem opens_struct {α : Type} {P : Program} {t : TypeId} {fs : Array Field} {R : Shape α} (ht : P.underlying t = some (.struct fs)) (h : OpensFrom P t fs.toList 0 R) : Opens P t R := fun {H enc w base sp held fuel cs y} hy => by
  obtain ⟨xs, n, _, _, hl, hlen, hf⟩ := DataW.trod_struct ht hy
  have := h (cs := cs) (n := n) (enc := enc) (w := w) (base := base) (sp := sp) (held := held) hl (fun f hf' => by
    obtain ⟨i, hi⟩ := List.getElem?_of_mem hf'
    have hi' : fs[i]? = some f := by simpa using hi
    have hlt : i < xs.length := by rw [hlen]; exact (Array.getElem?_eq_some_iff.1 hi').1
    exact ⟨xs[i], by rw [hf i f hi', List.getElem?_eq_getElem hlt]⟩)
  simpa using this
theorem opens_bytes {P : Program} {t e : TypeId} {n : Nat} (ht : P.underlying t = some (.array n e)) (he : P.underlying e = some (.int .u8)) (hc : P.cellsOf e = 1) (hn : P.cellsOf t = n) : Opens P t (bytesS n) := fun {H enc w base sp held fuel cs y} hy => by
  obtain ⟨xs, m, _, _, hl, hlen, hx⟩ := DataW.trod_array ht hy
  rw [hc] at hx
  have each : ∀ i, i < n → ∃ b : UInt8, cs[i]? = some (.int .u8 (b.toNat : Int)) := fun i hi => by
    have h := hx i hi
    rw [List.getElem?_eq_getElem (by omega)] at h
    obtain ⟨q, e1, _, wf⟩ := DataW.trod_int he h
    obtain ⟨b0, b1⟩ := bounds_u8 wf
    refine ⟨UInt8.ofNat q.toNat, ?_⟩
    have e2 : cs[i]? = ((cs.drop (i * 1)).take 1)[0]? := by simp
    rw [e2, e1]
    simp [UInt8.toNat_ofNat']
    omega
  refine ⟨cs.map (fun v => match v with | .int _ q => UInt8.ofNat q.toNat | _ => 0), ?_, by simp; omega⟩
  apply List.ext_getElem?
  intro i
  by_cases hi : i < n
  · obtain ⟨b, hb⟩ := each i hi
    simp [B8, hb]
  · rw [List.getElem?_eq_none (by omega), List.getElem?_eq_none (by simp [B8_length]; omega)]
theorem opens_slice {α : Type} {P : Program} {t e : TypeId} {k : Nat} {R : Shape α} (ht : P.underlying t = some (.slice e)) (hk : P.cellsOf e = k) (hpos : 0 < k) (h0 : Opens P e R) : Opens P t (sliceS k R) := fun {H enc w base sp held fuel cs y} hy => by
  rcases Go.Deep.open_slice ht hy with ⟨hcs, _⟩ | ⟨a, len, cap, m, n, D, Pl, hcs, _, hl, hm, hmm, _, hx⟩
  · exact ⟨[], .inl ⟨hcs, rfl⟩⟩
  · have hlm : len ≤ m := by rw [hmm]; split <;> omega
    rw [hk] at hx
    have each : ∀ i, i < len → ∃ x : α, ∃ c, c.length = k ∧ (∀ j, j < k → w.cell? ((a.add (i * k)).add j) = c[j]?) ∧ R w c x := fun i hi => by
      obtain ⟨c, hc, hd⟩ := hx i (by omega)
      obtain ⟨x, hR⟩ := h0 hd
      obtain ⟨_, h2, h3⟩ := World.cells?_some hc
      exact ⟨x, c, h2, fun j hj => h3 j hj, hR⟩
    rcases Nat.eq_zero_or_pos len with rfl | hlen0
    · exact ⟨[], .inr ⟨a, cap, by simpa using hcs, by simp, hm, fun hne => absurd rfl hne, fun i x hi => by simp at hi⟩⟩
    haveI : Inhabited α := ⟨(each 0 hlen0).choose⟩
    obtain ⟨X, hX⟩ := Go.Deep.choose_lt each
    have spots : a.spot = none ∧ a.block < w.heap.size := by
      obtain ⟨c, h1, h2, _⟩ := hX 0 hlen0
      have h := h2 0 hpos
      rw [List.getElem?_eq_getElem (by omega)] at h
      exact ⟨by simpa [Addr.add] using World.cell?_spot h, by simpa [Addr.add] using World.block_lt_of_cell? w _ h⟩
    refine ⟨(List.range len).map X, .inr ⟨a, cap, by simpa using hcs, by simpa using hl, hm, fun hne => ?_, fun i x hi => ?_⟩⟩
    · exact spots
    · have hlt : i < len := by
        have := (List.getElem?_eq_some_iff.1 hi).1
        simpa using this
      obtain ⟨c, h1, h2, h3⟩ := hX i hlt
      have ex : x = X i := by simpa [List.getElem?_range, hlt] using hi.symm
      subst ex
      refine ⟨c, h1, fun j hj => ?_, h3⟩
      have hs := spots.1
      rw [← h2 j hj]
      obtain ⟨ab, ao, asp⟩ := a
      simp only at hs
      subst hs
      congr 1
      unfold Addr.add
      split <;> split <;> simp_all [Nat.add_assoc]
end Go.Proofs.YtlbdehegknehiaaGreat

/- A part of the proof. -/
namespace Go.Proofs.YtlbdehegknehiaaGreat
open Go.RowKit
set_option linter.unusedVariables false
def addrC (v : Bool) (l : List UInt8) : List Value := .bool v :: B8 l
theorem addrC_length (v : Bool) (l : List UInt8) : (addrC v l).length = l.length + 1 := by simp [addrC, B8_length]
def RowAt (w : World) (b o : Nat) (l : List UInt8) : Prop := ∀ i (h : i < l.length), w.cell? ⟨b, o + i, none⟩ = some (.int .u8 ((l[i]).toNat : Int))
theorem RowAt.below {w w' : World} {b o : Nat} {l : List UInt8} {B : Nat} (hr : RowAt w b o l) (hB : b < B) (h : Below B w w') : RowAt w' b o l := fun i hi => by
  rw [h.cell (p := ⟨b, o + i, none⟩) hB]; exact hr i hi
theorem RowAt.drew {w : World} {b o : Nat} {l : List UInt8} (hr : RowAt w b o l) : RowAt w.drew b o l := hr
theorem RowAt.drewN {w : World} {b o : Nat} {l : List UInt8} (hr : RowAt w b o l) (n : Nat) : RowAt (w.drewN n) b o l := hr
theorem run_string_row {P : Program} {w : World} (src dst e : TypeId) (hs : P.underlying src = some (.slice e)) (he : P.underlying e = some (.int .u8)) (hd : P.underlying dst = some .string)
    {b o : Nat} {l : List UInt8} (hr : RowAt w b o l) (n cap : Nat) (hn : n ≤ l.length) : (convert src dst (.slice (some ⟨b, o, none⟩) n cap)).run P w = .ok (.string (Str (l.take n))) w := by
  rw [run_convert_bytes_arg (P := P) w src e hs he b o n cap ((l.take n).map fun b => (b.toNat : Int)) (by simp; omega) ?_ dst hd, strOfNums_B8]
  intro i hi
  rw [hr i (by omega)]
  have : i < l.length := by omega
  simp [hi, this]
theorem rowAt_box (w : World) (v : Bool) (l : List UInt8) (t : TypeId) (fr : Nat × Nat) (n : Nat) (hn : n = w.heap.size) : RowAt (w.alloc (.cells (addrC v l).toArray t fr)) n 1 l := fun i hi => by
  subst hn
  rw [World.cell?_alloc_mark]
  simp [addrC, Nat.add_comm 1 i, B8, List.getElem?_eq_getElem hi]
end Go.Proofs.YtlbdehegknehiaaGreat

/- A part of the proof. -/
namespace Go.Proofs.YtlbdehegknehiaaGreat
open Go.RowKit
set_option linter.unusedVariables false
def addrS : Shape (Bool × (List UInt8 × Unit)) := pairS 1 boolS (pairS 16 (bytesS 16) unitS)
theorem opens_addrS : Opens Tryz.prog 24 addrS :=
  opens_struct Tryz.underlying24 (opens_cons rfl (by kernel_rfl) (of_decide_eq_true (by kernel_rfl)) (opens_bool Tryz.underlying4) (opens_cons rfl (by kernel_rfl) (of_decide_eq_true (by kernel_rfl)) (opens_bytes Tryz.underlying22 Tryz.underlying5 (by kernel_rfl) (by kernel_rfl)) (opens_nil (by kernel_rfl))))
theorem addrS_cells {w : World} {cs : List Value} {x : Bool × (List UInt8 × Unit)} (h : addrS w cs x) : cs = addrC x.1 x.2.1 ∧ x.2.1.length = 16 := by
  obtain ⟨c, d, rfl, _, h1, c', d', rfl, _, h2, h3⟩ := h
  obtain ⟨h4, h5⟩ := h2
  have h1' : c = [.bool x.1] := h1
  have h3' : d' = [] := h3
  subst h1' h3' h4
  exact ⟨by simp [addrC], h5⟩
def row? (w : World) (b o n : Nat) : Option (List Value) := w.cells? 0 ⟨b, o, none⟩ n
theorem row?_of {w : World} {b o : Nat} {cs : List Value} (h : w.rangeAt b o cs) : row? w b o cs.length = some cs := by
  unfold row?
  exact Go.ChangeShapes.cells?_of (Nat.zero_le _) rfl (fun i hi => by rw [h i cs[i] (List.getElem?_eq_getElem hi), List.getElem?_eq_getElem hi])
theorem rangeAt_of_row? {w : World} {b o n : Nat} {cs : List Value} (h : row? w b o n = some cs) : w.rangeAt b o cs ∧ cs.length = n := by
  obtain ⟨_, h1, h2⟩ := World.cells?_some h
  refine ⟨fun j v hv => ?_, h1⟩
  have hlt := (List.getElem?_eq_some_iff.1 hv).1
  have := h2 j (by omega)
  rw [Addr.add_mid] at this
  rw [this, hv]
theorem row?_below {w w' : World} {b o n B : Nat} {cs : List Value} (h : row? w b o n = some cs) (hB : b < B) (hb : Below B w w') : row? w' b o n = some cs := by
  obtain ⟨h1, h2⟩ := rangeAt_of_row? h
  subst h2
  exact row?_of (fun j v hv => by rw [hb.cell (p := ⟨b, o + j, none⟩) hB]; exact h1 j v hv)
end Go.Proofs.YtlbdehegknehiaaGreat

/- A part of the proof. -/
namespace Go.Proofs.YtlbdehegknehiaaGreat
open Go.RowKit
set_option linter.unusedVariables false
def ObjAt (w : World) (b : Nat) (cs : Array Value) (t : TypeId) : Prop := w.heap[b]? = some (.cells cs t (0, 0))
theorem ObjAt.lt {w : World} {b : Nat} {cs : Array Value} {t : TypeId} (h : ObjAt w b cs t) : b < w.heap.size := (Array.getElem?_eq_some_iff.1 h).1
theorem ObjAt.cell {w : World} {b : Nat} {cs : Array Value} {t : TypeId} (h : ObjAt w b cs t) (j : Nat) : w.cell? ⟨b, j, none⟩ = cs[j]? := cell_of_row w b j cs t (0, 0) h
theorem ObjAt.free {w : World} {b : Nat} {cs : Array Value} {t : TypeId} (h : ObjAt w b cs t) (j : Nat) : w.frozen? ⟨b, j, none⟩ = false := frozen_of_row w b j cs t h
theorem ObjAt.set {w : World} {b : Nat} {cs : Array Value} {t : TypeId} (h : ObjAt w b cs t) (j : Nat) (v : Value) : ObjAt (w.setCell ⟨b, j, none⟩ v) b (cs.setIfInBounds j v) t := heap_setCell_same w b j cs t v h
theorem ObjAt.other {w : World} {b : Nat} {cs : Array Value} {t : TypeId} (h : ObjAt w b cs t) (a : Addr) (v : Value) (hne : b ≠ a.block) : ObjAt (w.setCell a v) b cs t := (heap_setCell_other w a b v hne).trans h
theorem ObjAt.drew {w : World} {b : Nat} {cs : Array Value} {t : TypeId} (h : ObjAt w b cs t) : ObjAt w.drew b cs t := h
theorem ObjAt.drewN {w : World} {b : Nat} {cs : Array Value} {t : TypeId} (h : ObjAt w b cs t) (n : Nat) : ObjAt (w.drewN n) b cs t := h
theorem ObjAt.alloc {w : World} {b : Nat} {cs : Array Value} {t : TypeId} (h : ObjAt w b cs t) (o : Obj) : ObjAt (w.alloc o) b cs t := (Below.heap_alloc w o b h.lt).trans h
theorem ObjAt.made (w : World) (cs : Array Value) (t : TypeId) : ObjAt (w.alloc (.cells cs t)) w.heap.size cs t := heap_alloc_new w _
theorem ObjAt.below {w w' : World} {b B : Nat} {cs : Array Value} {t : TypeId} (h : ObjAt w b cs t) (hb : Below B w w') (hl : b < B) : ObjAt w' b cs t := (hb.block b hl).trans h
theorem ObjAt.grown {w w' : World} {b : Nat} {row : Option Nat} {cs : Array Value} {t : TypeId} (h : ObjAt w b cs t) (hg : w.grownBy w' row) (hne : some b ≠ row) : ObjAt w' b cs t := (hg.block b h.lt hne).trans h
theorem gset (w : World) (b j : Nat) (v : Value) : w.grownBy (w.setCell ⟨b, j, none⟩ v) (some b) :=
  ⟨rfl, rfl, rfl, by simp, fun k _ hk => heap_setCell_other w ⟨b, j, none⟩ k v (fun e => hk (by simp [e]))⟩
theorem gtrans {w a b : World} {row : Option Nat} (h : w.grownBy a row) (k : a.grownBy b row) : w.grownBy b row :=
  ⟨k.os.trans h.os, k.tape.trans h.tape, k.output.trans h.output, Nat.le_trans h.size k.size, fun i hi hne => (k.block i (Nat.lt_of_lt_of_le hi h.size) hne).trans (h.block i hi hne)⟩
theorem gdrewN {w a : World} {row : Option Nat} (h : w.grownBy a row) (n : Nat) : w.grownBy (a.drewN n) row := ⟨h.os, h.tape, h.output, h.size, h.block⟩
theorem gset' {w a : World} {b : Nat} (h : w.grownBy a (some b)) (j : Nat) (v : Value) : w.grownBy (a.setCell ⟨b, j, none⟩ v) (some b) := gtrans h (gset a b j v)
theorem bgrown {w a w' : World} {row : Option Nat} (h : Below w.heap.size w a) (hg : a.grownBy w' row) (hr : ∀ k, row = some k → w.heap.size ≤ k) : Below w.heap.size w w' := h.grown hg h.size hr
theorem Str_extract (l : List UInt8) (a b : Nat) : (Str l).extract a b = Str ((l.drop a).take (b - a)) := by
  apply ByteArray.ext; simp [Str]
end Go.Proofs.YtlbdehegknehiaaGreat

