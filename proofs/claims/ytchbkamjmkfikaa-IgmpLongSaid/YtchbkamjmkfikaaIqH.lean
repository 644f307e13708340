/-
  The contract of ip6.Options.
-/
import Derived.Test.YtchbkamjmkfikaaMg35
import Derived.Test.YtchbkamjmkfikaaMg21
namespace Go.Proofs.Ytchbkamjmkfikaa
open Go.RowKit
set_option linter.unusedVariables false

theorem str_toList (l : List UInt8) : (Str l).toList = l := by
  rw [ByteArray.toList_eq]; simp [Str]
theorem by8_num (l : List UInt8) (h : 0 < l.length) : num (l.take 1) = by8 l 0 := by
  match l, h with
  | a :: r, _ => show num [a] = _; rw [num1]; rfl
/-- Num 1 of a reader that has a byte, and of one that has none. -/
theorem one_good (b : Nat) (l : List UInt8) (k : Nat) (h0 : 0 < l.length) (hl : l.length ≤ 1000000) (hk : k ≤ 1000000) (w : World) (h : RdAt w b l k false) :
    Calls Try.prog 49 #[.pointer (some ⟨b, 0, none⟩), .int .i64 1] w fun e w' => e = .returned (.int .u64 (by8 l 0)) ∧ RdAt w' b (l.drop 1) (k + 1) false ∧ w.grownBy w' (some b) := by
  have := numq_any b l k false 1 (by omega) hl hk w h
  obtain ⟨e1, e2, e3, e4⟩ := rd_good (l := l) (n := 1) (k := k) (by omega)
  rw [e1, e2, e3, e4, by8_num l h0] at this
  exact this
theorem one_short (b : Nat) (l : List UInt8) (k : Nat) (h0 : l.length = 0) (hk : k ≤ 1000000) (w : World) (h : RdAt w b l k false) :
    Calls Try.prog 49 #[.pointer (some ⟨b, 0, none⟩), .int .i64 1] w fun e w' => e = .returned (.int .u64 0) ∧ RdAt w' b l k true ∧ w.grownBy w' (some b) := by
  have := numq_any b l k false 1 (by omega) (by omega) hk w h
  obtain ⟨e1, e2, e3, e4⟩ := rd_short (l := l) (n := 1) (k := k) (by omega)
  rw [e1, e2, e3, e4] at this
  exact this
theorem take_good (b : Nat) (l : List UInt8) (k n : Nat) (hn : n ≤ l.length) (hl : l.length ≤ 1000000) (hk : k ≤ 1000000) (w : World) (h : RdAt w b l k false) :
    Calls Try.prog 55 #[.pointer (some ⟨b, 0, none⟩), .int .i64 n] w fun e w' => e = .returned (.string (Str (l.take n))) ∧ RdAt w' b (l.drop n) (k + n) false ∧ w.grownBy w' (some b) := by
  have := take_any b l k false n hl hk w h
  obtain ⟨e1, e2, e3, e4⟩ := rd_good (l := l) (n := n) (k := k) hn
  rw [e1, e2, e3, e4] at this
  exact this
theorem take_short (b : Nat) (l : List UInt8) (k n : Nat) (hn : l.length < n) (hl : l.length ≤ 1000000) (hk : k ≤ 1000000) (w : World) (h : RdAt w b l k false) :
    Calls Try.prog 55 #[.pointer (some ⟨b, 0, none⟩), .int .i64 n] w fun e w' => e = .returned (.string (Str [])) ∧ RdAt w' b l k true ∧ w.grownBy w' (some b) := by
  have := take_any b l k false n hl hk w h
  obtain ⟨e1, e2, e3, e4⟩ := rd_short (l := l) (n := n) (k := k) hn
  rw [e1, e2, e3, e4] at this
  exact this
theorem take_dead (b : Nat) (l : List UInt8) (k : Nat) (n : Int) (hl : l.length ≤ 1000000) (hk : k ≤ 1000000) (w : World) (h : RdAt w b l k true) :
    Calls Try.prog 55 #[.pointer (some ⟨b, 0, none⟩), .int .i64 n] w fun e w' => e = .returned (.string (Str [])) ∧ RdAt w' b l k true ∧ w.grownBy w' (some b) := by
  have := take_any b l k true n hl hk w h
  obtain ⟨e1, e2, e3, e4⟩ := rd_dead (l := l) (n := n) (k := k)
  rw [e1, e2, e3, e4] at this
  exact this
/-- The alert's test. -/
theorem al6_told (l : List UInt8) (h : by8 l 1 + 2 ≤ l.length) : al6 l = (decide (by8 l 0 = 5) && ((l.drop 2).take (by8 l 1) == [0, 0])) := by
  match l, h with
  | [], h => exact absurd h (by simp)
  | [a], h => exact absurd h (by simp)
  | a :: b :: r, h =>
    have e0 : by8 (a :: b :: r) 0 = a.toNat := rfl
    have e1 : by8 (a :: b :: r) 1 = b.toNat := rfl
    unfold al6
    rw [e0, e1]
    rw [e1] at h
    simp only [List.drop_succ_cons, List.drop_zero, List.length_cons] at h ⊢
    rw [Bool.eq_iff_iff]
    simp only [decide_eq_true_eq, Bool.and_eq_true, beq_iff_eq]
    constructor
    · rintro ⟨h1, h2, h3, h4⟩
      refine ⟨h1, ?_⟩
      rw [h2]
      match r, h with
      | [], h => exact absurd h (by simp; omega)
      | [c], h => exact absurd h (by simp; omega)
      | c :: d :: q, h =>
        have h3' : c.toNat = 0 := h3
        have h4' : d.toNat = 0 := h4
        rw [UInt8.toNat_inj.1 (show c.toNat = (0 : UInt8).toNat from h3'), UInt8.toNat_inj.1 (show d.toNat = (0 : UInt8).toNat from h4')]
        rfl
    · rintro ⟨h1, h2⟩
      have hl := congrArg List.length h2
      simp at hl
      have hb : b.toNat = 2 := by omega
      rw [hb] at h2
      refine ⟨h1, hb, ?_⟩
      match r, h2 with
      | [], h2 => simp at h2
      | [c], h2 => simp at h2
      | c :: d :: q, h2 =>
        simp at h2
        obtain ⟨rfl, rfl⟩ := h2
        exact ⟨rfl, rfl⟩

/-- The reader of Options, and what was ahead. -/
def OQ (w W : World) (L l : List UInt8) (k : Nat) (bad : Bool) : Prop := RdAt W w.heap.size l k bad ∧ Below w.heap.size w W ∧ l.length ≤ L.length ∧ k ≤ L.length
theorem OQ.start (w : World) (L : List UInt8) : OQ w (w.alloc (.cells #[.string (Str L), .int .i64 0, .bool false] 85)) L L 0 false :=
  ⟨ObjAt.made w _ _, (Below.refl _ _).alloc (Nat.le_refl _) _, Nat.le_refl _, by omega⟩
theorem OQ.size {w W : World} {L l : List UInt8} {k : Nat} {bad : Bool} (h : OQ w W L l k bad) : (match W.cell? ⟨w.heap.size, 0, none⟩ with | some (.string t) => t.size | _ => 0) = l.length := by
  have := ObjAt.cell h.1 0
  simp at this
  rw [this]
  simp [Str_size]
theorem OQ.grown {w W W' : World} {L l l' : List UInt8} {k k' : Nat} {bad bad' : Bool} (h : OQ w W L l k bad) (hr : RdAt W' w.heap.size l' k' bad') (hg : W.grownBy W' (some w.heap.size)) (hl : l'.length ≤ L.length) (hk : k' ≤ L.length) : OQ w W' L l' k' bad' :=
  ⟨hr, bgrown h.2.1 hg (fun n hn => by simp at hn; omega), hl, hk⟩

end Go.Proofs.Ytchbkamjmkfikaa
