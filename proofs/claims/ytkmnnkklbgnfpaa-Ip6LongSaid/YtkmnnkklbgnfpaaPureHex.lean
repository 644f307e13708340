/-
  Plain lemmas on hexadecimal digits; nothing of the program.
-/
import Derived.Test.YtkmnnkklbgnfpaaBase
namespace Go.Proofs.Ytkmnnkklbgnfpaa
open Go.RowKit
set_option linter.unusedVariables false

def digL (b : Nat) : UInt8 := if b < 10 then UInt8.ofNat (48 + b) else UInt8.ofNat (87 + b)
def hexL (l : List UInt8) : List UInt8 := l.flatMap fun b => [digL (b.toNat / 16), digL (b.toNat % 16)]
theorem hexL_length (l : List UInt8) : (hexL l).length = 2 * l.length := by
  induction l with
  | nil => rfl
  | cons b l ih => simp only [hexL, List.flatMap_cons, List.length_append] at *; simp [ih]; omega
theorem hexL_snoc (l : List UInt8) (b : UInt8) : hexL (l ++ [b]) = hexL l ++ [digL (b.toNat / 16), digL (b.toNat % 16)] := by simp [hexL]
theorem digL_toNat (n : Nat) (h : n < 16) : (digL n).toNat = if n < 10 then 48 + n else 87 + n := by
  unfold digL; split <;> rw [UInt8.toNat_ofNat'] <;> omega
theorem Str_append (l m : List UInt8) : Str l ++ Str m = Str (l ++ m) := by
  apply ByteArray.ext; simp [Str]

/-- What a sign counts. -/
def digV (c : Nat) : Option Nat :=
  if 48 ≤ c ∧ c ≤ 57 then some (c - 48) else if 97 ≤ c ∧ c ≤ 102 then some (c - 87) else if 65 ≤ c ∧ c ≤ 70 then some (c - 55) else none
theorem digV_lt {c v : Nat} (h : digV c = some v) : v < 16 := by
  unfold digV at h; repeat' split at h
  all_goals first | (cases h; omega) | cases h
theorem digV_match (c n : Nat) (hn : n < 16) : digV c = some n ↔ (c = (digL n).toNat ∨ (9 < n ∧ c = (digL n).toNat - 32)) := by
  rw [digL_toNat n hn]
  unfold digV
  split <;> (repeat' split) <;> simp <;> omega
theorem digV_digL (n : Nat) (h : n < 16) : digV (digL n).toNat = some n := (digV_match _ _ h).2 (.inl rfl)

/-- The byte that two signs are. -/
def pairV (l : List UInt8) (k : Nat) : Option UInt8 :=
  match digV (l.getD (2 * k) 0).toNat, digV (l.getD (2 * k + 1) 0).toNat with
  | some x, some y => some (UInt8.ofNat (16 * x + y))
  | _, _ => none
/-- The bytes that the first k pairs of signs are. -/
def pairsV (l : List UInt8) : Nat → Option (List UInt8)
  | 0 => some []
  | k + 1 => match pairsV l k, pairV l k with
    | some r, some b => some (r ++ [b])
    | _, _ => none
def unhexV (l : List UInt8) : Option (List UInt8) := if l.length % 2 = 1 then none else pairsV l (l.length / 2)
theorem pairsV_length {l : List UInt8} : ∀ {k : Nat} {r : List UInt8}, pairsV l k = some r → r.length = k
  | 0, r, h => by simp [pairsV] at h; subst h; rfl
  | k + 1, r, h => by
    simp only [pairsV] at h
    split at h
    · rename_i r' b h1 h2
      cases h
      have := pairsV_length h1
      simp [this]
    · cases h
theorem pairsV_none {l : List UInt8} {k : Nat} (h : pairV l k = none) : ∀ m, k < m → pairsV l m = none := by
  intro m
  induction m with
  | zero => omega
  | succ m ih =>
    intro hm
    by_cases e : m = k
    · subst e; simp [pairsV, h]
    · simp [pairsV, ih (by omega)]
theorem pairsV_step {l : List UInt8} {k x y : Nat} {r : List UInt8} (h : pairsV l k = some r) (hx : digV (l.getD (2 * k) 0).toNat = some x) (hy : digV (l.getD (2 * k + 1) 0).toNat = some y) :
    pairsV l (k + 1) = some (r ++ [UInt8.ofNat (16 * x + y)]) := by
  simp only [pairsV, h, pairV, hx, hy]
theorem pairV_none_left {l : List UInt8} {k : Nat} (hx : digV (l.getD (2 * k) 0).toNat = none) : pairV l k = none := by unfold pairV; rw [hx]
theorem pairV_none_right {l : List UInt8} {k : Nat} (hy : digV (l.getD (2 * k + 1) 0).toNat = none) : pairV l k = none := by
  unfold pairV; rw [hy]; split
  · rename_i h; cases h
  · rfl
theorem unhexV_none {l : List UInt8} {k : Nat} (h : pairV l k = none) (hk : 2 * k + 1 < l.length) : unhexV l = none := by
  unfold unhexV; split
  · rfl
  · exact pairsV_none h _ (by omega)

theorem hexL_get (l : List UInt8) : ∀ k, k < l.length → (hexL l).getD (2 * k) 0 = digL ((l.getD k 0).toNat / 16) ∧ (hexL l).getD (2 * k + 1) 0 = digL ((l.getD k 0).toNat % 16) := by
  induction l with
  | nil => intro k h; simp at h
  | cons b l ih =>
    intro k h
    have e : hexL (b :: l) = digL (b.toNat / 16) :: digL (b.toNat % 16) :: hexL l := by simp [hexL]
    cases k with
    | zero => rw [e]; simp
    | succ k =>
      have := ih k (by simpa using h)
      rw [e, show 2 * (k + 1) = 2 * k + 1 + 1 by omega]
      simpa using this
theorem pairsV_hexL (l : List UInt8) : ∀ k, k ≤ l.length → pairsV (hexL l) k = some (l.take k) := by
  intro k
  induction k with
  | zero => intro _; simp [pairsV]
  | succ k ih =>
    intro h
    obtain ⟨e1, e2⟩ := hexL_get l k (by omega)
    have hb := (l.getD k 0).toNat_lt
    rw [pairsV_step (ih (by omega)) (by rw [e1]; exact digV_digL _ (by omega)) (by rw [e2]; exact digV_digL _ (by omega))]
    rw [show 16 * ((l.getD k 0).toNat / 16) + (l.getD k 0).toNat % 16 = (l.getD k 0).toNat by omega, UInt8.ofNat_toNat, List.take_succ_eq_append_getElem (by omega)]
    simp [List.getD, List.getElem?_eq_getElem (show k < l.length by omega)]
theorem unhexV_hexL (l : List UInt8) : unhexV (hexL l) = some l := by
  unfold unhexV
  rw [hexL_length, if_neg (by omega), show 2 * l.length / 2 = l.length by omega, pairsV_hexL l _ (Nat.le_refl _), List.take_length]
theorem hexdig : ∀ x : Fin 16, (⟨#[48, 49, 50, 51, 52, 53, 54, 55, 56, 57, 97, 98, 99, 100, 101, 102]⟩ : ByteArray)[x.val]'(x.isLt) = digL x.val := by decide
theorem hexdig' (x : Int) (n : Nat) (hx : x = n) (hn : n < 16) (h : x.toNat < (⟨#[48, 49, 50, 51, 52, 53, 54, 55, 56, 57, 97, 98, 99, 100, 101, 102]⟩ : ByteArray).size) :
    ((⟨#[48, 49, 50, 51, 52, 53, 54, 55, 56, 57, 97, 98, 99, 100, 101, 102]⟩ : ByteArray)[x.toNat]'h) = digL n := by
  subst hx; exact hexdig ⟨n, hn⟩
theorem hexcut : ∀ x : Fin 16, (⟨#[48, 49, 50, 51, 52, 53, 54, 55, 56, 57, 97, 98, 99, 100, 101, 102]⟩ : ByteArray).extract x.val (x.val + 1) = Str [digL x.val] := by decide
/-- '+' of two texts: a rule for the walk. -/
theorem run_cat {P : Program} (x y : List UInt8) (h : x.length + y.length ≤ 9223372036854775807) (w : World) : (Op.stringOp .add (Str x) (Str y)).run P w = .ok (.string (Str (x ++ y))) w := by
  rw [run_string_add_sum w _ _ (by rw [Str_size, Str_size]; exact h), Str_append]
end Go.Proofs.Ytkmnnkklbgnfpaa
