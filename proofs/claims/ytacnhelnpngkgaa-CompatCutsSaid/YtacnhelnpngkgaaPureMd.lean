/-
  Talks of MLD as bytes, plain: what bytes say, a talk's bytes, and that it comes back from them.
-/
import Derived.Test.YtacnhelnpngkgaaMg13
namespace Go.Proofs.Ytacnhelnpngkgaa
open Go.RowKit
set_option linter.unusedVariables false

def z16 : List UInt8 := List.replicate 16 0
/-- Whether an address is a group's of IPv6; whether it is none's. -/
def grp9 (a : AD) : Bool := a.1 && grpV a.1 a.2
def zer9 (a : AD) : Bool := a.1 && decide (a.2 = z16)
def srcs9 (l : List AD) : Bool := l.all (·.1) && decide (l.length < 65)
def sixL (s : List UInt8) (i : Nat) : AD := (true, readV ((s.drop i).take 16))
def srcsL9 (s : List UInt8) (i n : Nat) : List AD := (List.range n).map fun k => sixL s (i + 16 * k)
def srcsE9 (s : List UInt8) (i n : Nat) : Int := if 64 < n then 6 else if s.length < i + 16 * n then 3 else 0
def rec9 (s : List UInt8) (i : Nat) : RC := ⟨by8 s i, sixL s (i + 4), srcsL9 s (i + 20) (wd s (i + 2))⟩
def recN9 (s : List UInt8) (i : Nat) : Nat := i + 20 + 16 * wd s (i + 2) + 4 * by8 s (i + 1)
def rcOk9 (r : RC) : Bool := decide (1 ≤ r.kind ∧ r.kind ≤ 6) && grp9 r.g
def recL9 (s : List UInt8) : Nat → Nat → List RC × Int
  | _, 0 => ([], 0)
  | i, n + 1 =>
    if s.length < i + 20 then ([], 3)
    else if srcsE9 s (i + 20) (wd s (i + 2)) ≠ 0 then ([], srcsE9 s (i + 20) (wd s (i + 2)))
    else if s.length < recN9 s i then ([], 3)
    else if (recL9 s (recN9 s i) n).2 ≠ 0 then ([], (recL9 s (recN9 s i) n).2)
    else (if rcOk9 (rec9 s i) then rec9 s i :: (recL9 s (recN9 s i) n).1 else (recL9 s (recN9 s i) n).1, 0)
/-- Whether a talk is good. -/
def sizeR9 (l : List RC) : Nat := (l.map fun r => 20 + 16 * r.src.length).sum + 8
def recOk9 (r : RC) : Bool := rcOk9 r && srcs9 r.src
def good9 (t : TK) : Bool :=
  if t.v6 = false ∨ t.ver < 1 ∨ 2 < t.ver ∨ t.kind < 1 ∨ 3 < t.kind ∨ (t.ver = 2 ∧ t.kind = 3) then false
  else if (¬ (t.ver = 2 ∧ t.kind = 1) ∧ (t.quiet = true ∨ t.rob ≠ 0 ∨ t.every ≠ 0 ∨ 0 < t.src.length)) ∨ (t.kind ≠ 1 ∧ t.resp ≠ 0) then false
  else if t.ver = 2 ∧ t.kind = 2 then t.rcs.all recOk9 && (decide (t.g.1 = false) && (decide (t.g.2 = z16) && (decide (t.rcs.length < 65) && decide (sizeR9 t.rcs < 1401))))
  else if 0 < t.rcs.length then false
  else if 1 < t.kind then grp9 t.g
  else if (zer9 t.g = false ∧ grp9 t.g = false) ∨ t.resp < 0 then false
  else if t.ver = 1 then decide (t.resp < 65536)
  else exactN t.resp 4096 65535 && (exactN t.every 16 255 && (decide (0 ≤ t.rob ∧ t.rob < 8) && (srcs9 t.src && (decide (zer9 t.g = false) || decide (t.src.length = 0)))))
/-- What a good talk is, by version and kind. -/
theorem good9_cases (t : TK) (hg : good9 t = true) : t.v6 = true ∧
    ((t.ver = 2 ∧ t.kind = 2 ∧ t.resp = 0 ∧ t.g = zeroA ∧ t.rcs.all recOk9 = true ∧ t.rcs.length < 65 ∧ sizeR9 t.rcs < 1401 ∧ t.quiet = false ∧ t.rob = 0 ∧ t.every = 0 ∧ t.src = []) ∨
     (t.ver = 1 ∧ (t.kind = 2 ∨ t.kind = 3) ∧ t.resp = 0 ∧ grp9 t.g = true ∧ t.rcs = [] ∧ t.quiet = false ∧ t.rob = 0 ∧ t.every = 0 ∧ t.src = []) ∨
     (t.ver = 1 ∧ t.kind = 1 ∧ 0 ≤ t.resp ∧ t.resp < 65536 ∧ (zer9 t.g = true ∨ grp9 t.g = true) ∧ t.rcs = [] ∧ t.quiet = false ∧ t.rob = 0 ∧ t.every = 0 ∧ t.src = []) ∨
     (t.ver = 2 ∧ t.kind = 1 ∧ exactN t.resp 4096 65535 = true ∧ exactN t.every 16 255 = true ∧ 0 ≤ t.rob ∧ t.rob < 8 ∧ srcs9 t.src = true ∧ (zer9 t.g = true ∨ grp9 t.g = true) ∧ (zer9 t.g = false ∨ t.src.length = 0) ∧ t.rcs = [])) := by
  unfold good9 at hg
  by_cases c1 : t.v6 = false ∨ t.ver < 1 ∨ 2 < t.ver ∨ t.kind < 1 ∨ 3 < t.kind ∨ (t.ver = 2 ∧ t.kind = 3)
  · rw [if_pos c1] at hg; exact absurd hg (by simp)
  rw [if_neg c1] at hg
  have hv : t.v6 = true := by
    cases h : t.v6
    · exact absurd (Or.inl h) c1
    · rfl
  refine ⟨hv, ?_⟩
  have d1 : 1 ≤ t.ver := by omega
  have d2 : t.ver ≤ 2 := by omega
  have d3 : 1 ≤ t.kind := by omega
  have d4 : t.kind ≤ 3 := by omega
  have d5 : ¬ (t.ver = 2 ∧ t.kind = 3) := fun h => c1 (by omega)
  by_cases c2 : (¬ (t.ver = 2 ∧ t.kind = 1) ∧ (t.quiet = true ∨ t.rob ≠ 0 ∨ t.every ≠ 0 ∨ 0 < t.src.length)) ∨ (t.kind ≠ 1 ∧ t.resp ≠ 0)
  · rw [if_pos c2] at hg; exact absurd hg (by simp)
  rw [if_neg c2] at hg
  have hrest : ¬ (t.ver = 2 ∧ t.kind = 1) → t.quiet = false ∧ t.rob = 0 ∧ t.every = 0 ∧ t.src = [] := fun h => by
    have hn : ¬ (t.quiet = true ∨ t.rob ≠ 0 ∨ t.every ≠ 0 ∨ 0 < t.src.length) := fun h' => c2 (Or.inl ⟨h, h'⟩)
    refine ⟨?_, by omega, by omega, List.eq_nil_of_length_eq_zero (by omega)⟩
    cases hq : t.quiet
    · rfl
    · exact absurd (Or.inl hq) hn
  have hresp : t.kind ≠ 1 → t.resp = 0 := fun h => by
    refine Decidable.byContradiction fun hn => c2 (Or.inr ⟨h, hn⟩)
  by_cases k2 : t.ver = 2 ∧ t.kind = 2
  · rw [if_pos k2, Bool.and_eq_true, Bool.and_eq_true, Bool.and_eq_true, Bool.and_eq_true, decide_eq_true_eq, decide_eq_true_eq, decide_eq_true_eq, decide_eq_true_eq] at hg
    obtain ⟨q1, q2, q3, q4⟩ := hrest (by omega)
    exact Or.inl ⟨k2.1, k2.2, hresp (by omega), Prod.ext hg.2.1 hg.2.2.1, hg.1, hg.2.2.2.1, hg.2.2.2.2, q1, q2, q3, q4⟩
  rw [if_neg k2] at hg
  by_cases k0 : 0 < t.rcs.length
  · rw [if_pos k0] at hg; exact absurd hg (by simp)
  rw [if_neg k0] at hg
  have hrc : t.rcs = [] := List.eq_nil_of_length_eq_zero (by omega)
  by_cases k1 : 1 < t.kind
  · rw [if_pos k1] at hg
    obtain ⟨q1, q2, q3, q4⟩ := hrest (by omega)
    exact Or.inr (Or.inl ⟨by omega, by omega, hresp (by omega), hg, hrc, q1, q2, q3, q4⟩)
  rw [if_neg k1] at hg
  by_cases cg : (zer9 t.g = false ∧ grp9 t.g = false) ∨ t.resp < 0
  · rw [if_pos cg] at hg; exact absurd hg (by simp)
  rw [if_neg cg] at hg
  have hgg : zer9 t.g = true ∨ grp9 t.g = true := by
    cases h : zer9 t.g
    · cases h' : grp9 t.g
      · exact absurd (Or.inl ⟨h, h'⟩) cg
      · exact Or.inr rfl
    · exact Or.inl rfl
  by_cases v1 : t.ver = 1
  · rw [if_pos v1, decide_eq_true_eq] at hg
    obtain ⟨q1, q2, q3, q4⟩ := hrest (by omega)
    exact Or.inr (Or.inr (Or.inl ⟨v1, by omega, by omega, hg, hgg, hrc, q1, q2, q3, q4⟩))
  · rw [if_neg v1, Bool.and_eq_true, Bool.and_eq_true, Bool.and_eq_true, Bool.and_eq_true, decide_eq_true_eq, Bool.or_eq_true, decide_eq_true_eq, decide_eq_true_eq] at hg
    obtain ⟨m1, m2, ⟨m3, m4⟩, m5, m6⟩ := hg
    exact Or.inr (Or.inr (Or.inr ⟨by omega, by omega, m1, m2, m3, m4, m5, hgg, m6, hrc⟩))
end Go.Proofs.Ytacnhelnpngkgaa
