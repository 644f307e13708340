/-
  Texts joined: PureSplit, Rough.
-/
import Derived.Test.YtalnfjnfcloonaaGreatDoorBase
import Derived.Lib.Split
import Derived.Lib.SplitLaws
import Derived.Lib.CountLaws
import Derived.Lib.IndexMore
import Derived.Lib.IndexBytes
import Derived.Lib.Join
import Derived.Lib.Replace
import Derived.Test.YtalnfjnfcloonaaGreatDoorSplit
import Derived.Lib.Repeat
/-
  Texts that are parted at a byte: plain mathematics.
-/
namespace Go.Proofs.YtalnfjnfcloonaaGreatDoor
open Go.RowKit
set_option linter.unusedVariables false

def spL (c : UInt8) : List UInt8 → List (List UInt8)
  | [] => [[]]
  | x :: r => if x = c then [] :: spL c r else match spL c r with
    | [] => [[x]]
    | p :: ps => (x :: p) :: ps
theorem spL_short (c : UInt8) : ∀ (l p : List UInt8), p ∈ spL c l → p.length ≤ l.length
  | [], p, h => by simp [spL] at h; simp [h]
  | x :: r, p, h => by
    unfold spL at h
    split at h
    · rcases List.mem_cons.1 h with rfl | h
      · simp
      · have := spL_short c r p h; simp; omega
    · split at h
      · simp at h; simp [h]
      · rename_i q qs hq
        rcases List.mem_cons.1 h with rfl | h
        · have := spL_short c r q (by rw [hq]; simp); simp; omega
        · have := spL_short c r p (by rw [hq]; simp [h]); simp; omega
theorem index_cons_ne {x c : UInt8} (h : x ≠ c) (r : List UInt8) : Lib.index (x :: r) [c] = if Lib.index r [c] == -1 then -1 else Lib.index r [c] + 1 := by
  have hp : ([c] : List UInt8).isPrefixOf (x :: r) = false := by simp [List.isPrefixOf, Ne.symm h]
  rw [Lib.index, hp]; rfl
theorem index_cons_eq (c : UInt8) (r : List UInt8) : Lib.index (c :: r) [c] = 0 := by
  have hp : ([c] : List UInt8).isPrefixOf (c :: r) = true := by simp [List.isPrefixOf]
  rw [Lib.index, hp]; rfl
theorem splitK_spL (c : UInt8) : ∀ s : List UInt8, Lib.splitK [c] 0 (Lib.count s [c]) s = spL c s
  | [] => by
    rw [Lib.count_one]; rfl
  | x :: r => by
    have ih := splitK_spL c r
    by_cases h : x = c
    · subst h
      rw [Lib.count_cons_eq, Nat.add_comm, Lib.splitK, index_cons_eq, spL, if_pos rfl]
      simpa using ih
    · rw [Lib.count_cons_ne x c r h, spL, if_neg h]
      cases hk : Lib.count r [c] with
      | zero =>
        rw [hk] at ih
        rw [← ih]; rfl
      | succ k =>
        rw [hk] at ih
        obtain ⟨i, hi⟩ := Lib.index_of_count (s := r) (old := [c]) (by omega)
        have e1 : Lib.index (x :: r) [c] = ((i + 1 : Nat) : Int) := by
          rw [index_cons_ne h, hi, if_neg (by simp)]; omega
        have hn1 : ¬ (((i + 1 : Nat) : Int) == -1) = true := by simp <;> omega
        have hn2 : ¬ ((i : Int) == -1) = true := by simp
        rw [Lib.splitK, hi, if_neg hn2] at ih
        rw [← ih, Lib.splitK, e1, if_neg hn1]
        simp
theorem spL_plain (c : UInt8) : ∀ d : List UInt8, c ∉ d → spL c d = [d]
  | [], _ => rfl
  | x :: r, h => by
    simp only [List.mem_cons, not_or] at h
    rw [spL, if_neg (Ne.symm h.1), spL_plain c r h.2]
theorem spL_cut (c : UInt8) : ∀ (d r : List UInt8), c ∉ d → spL c (d ++ c :: r) = d :: spL c r
  | [], r, _ => by simp [spL]
  | x :: d, r, h => by
    simp only [List.mem_cons, not_or] at h
    rw [List.cons_append, spL, if_neg (Ne.symm h.1), spL_cut c d r h.2]
theorem spL_join (c : UInt8) : ∀ (ds : List (List UInt8)), ds ≠ [] → (∀ d ∈ ds, c ∉ d) → spL c (Lib.join ds [c]) = ds
  | [], h, _ => absurd rfl h
  | [d], _, h => by rw [Lib.join_one]; exact spL_plain c d (h d (by simp))
  | d :: e :: r, _, h => by
    have ih := spL_join c (e :: r) (by simp) (fun x hx => h x (by simp [hx]))
    have hj : Lib.join (d :: e :: r) [c] = d ++ c :: Lib.join (e :: r) [c] := by simp [Lib.join, List.intercalate]
    rw [hj, spL_cut c d _ (h d (by simp)), ih]
end Go.Proofs.YtalnfjnfcloonaaGreatDoor

/-
  The contract of addr.rough.
-/
namespace Go.Proofs.YtalnfjnfcloonaaGreatDoor
open Go.RowKit
set_option linter.unusedVariables false

theorem pcs_spL (c : UInt8) (l : List UInt8) : pcs c l = spL c l := by
  rw [pcs, Lib.splitB_data]
  exact splitK_spL c l
theorem splitH_any (c : UInt8) (l : List UInt8) (hl : l.length ≤ 1000) (w : World) (h : Env w) : Calls Tryz.prog 42 #[.string (Str l), .string (Str [c]), .int .i64 16, .int .i64 2] w fun e w' => e = .returned (.string (Str (splH c l))) ∧ Below w.heap.size w w' := by
  by_cases h0 : l = []
  · subst h0; exact splitH_empty c w
  · unfold splH; rw [if_neg h0]
    exact splitH_some c l h0 hl (fun p hp => by rw [pcs_spL] at hp; have := spL_short c l p hp; omega) w h
theorem splitD_any (c : UInt8) (l : List UInt8) (hl : l.length ≤ 1000) (w : World) (h : Env w) : Calls Tryz.prog 42 #[.string (Str l), .string (Str [c]), .int .i64 10, .int .i64 1] w fun e w' => e = .returned (.string (Str (splD c l))) ∧ Below w.heap.size w w' := by
  by_cases h0 : l = []
  · subst h0; exact splitD_empty c w
  · unfold splD; rw [if_neg h0]
    exact splitD_some c l h0 hl (fun p hp => by rw [pcs_spL] at hp; have := spL_short c l p hp; omega) w h
theorem splH_length (c : UInt8) (l : List UInt8) : (splH c l).length ≤ 2 * (l.length + 1) := by
  unfold splH
  split
  · simp
  · rw [flatH_length]; have := pcs_count c l; omega
theorem repeat_zero (n : Nat) : Lib.repeatL [0] n = List.replicate n 0 := by
  induction n with
  | zero => rfl
  | succ n ih => rw [Lib.repeatL, ih]; rfl
/-- The bytes that a text tells. -/
def roughV (s : List UInt8) : List UInt8 :=
  if 0 ≤ Lib.indexByte s 58 then
    splH 58 (Lib.cut s [58, 58]).1 ++ (List.replicate (16 - (splH 58 (Lib.cut s [58, 58]).1).length - (splH 58 (Lib.cut s [58, 58]).2.1).length) 0 ++ splH 58 (Lib.cut s [58, 58]).2.1)
  else splD 46 s
theorem cut_short (s sep : List UInt8) : (Lib.cut s sep).1.length ≤ s.length ∧ (Lib.cut s sep).2.1.length ≤ s.length := by
  unfold Lib.cut
  split
  · simp; omega
  · simp
theorem contains_58 (s : List UInt8) (w : World) : Calls Tryz.prog 41 #[.string (Str s), .string ⟨#[58]⟩] w fun e w' => e = .returned (.bool (decide (0 ≤ Lib.indexByte s 58))) ∧ w = w' := (Tryz.strings_Contains_one (Str s) 58 w).mono fun _ _ h => ⟨h.1, h.2.symm⟩
theorem repeat_0 (n : Nat) (hn : n ≤ 1000000) (w : World) : Calls Tryz.prog 44 #[.string ⟨#[0]⟩, .int .i64 (n : Int)] w fun e w' => e = .returned (.string (Str (List.replicate n 0))) ∧ Below w.heap.size w w' := by
  have h := Tryz.strings_Repeat ⟨#[0]⟩ n w (by omega) (by show 1 * n ≤ _; omega)
  rw [show (⟨#[0]⟩ : ByteArray).data.toList = [0] from rfl, repeat_zero] at h
  exact h
set_option maxHeartbeats 2000000 in
set_option maxRecDepth 100000 in
theorem rough_no (s : List UInt8) (hs : s.length ≤ 1000) (hx : Hid (decide (0 ≤ Lib.indexByte s 58) = false)) (w : World) (h : Env w) : Calls Tryz.prog 28 #[.string (Str s)] w fun e w' => e = .returned (.string (Str (splD 46 s))) ∧ Below w.heap.size w w' := by
  have HE := Lib.hid h; clear h
  go_enter Tryz.func28, Tryz.ntmps28
  go_wp2_with (first
    | (go_at_call 41; refine (contains_58 s _).mono ?_; rintro e w1 ⟨rfl, rfl⟩; rw [hx.out])
    | (go_at_call 42; refine (splitD_any 46 s hs _ HE.out).mono ?_; rintro e w1 ⟨rfl, hb1⟩; have Hb1 := Lib.hid hb1; clear hb1))
  go_ret
  exact ⟨rfl, Hb1.out⟩
set_option maxHeartbeats 2000000 in
set_option maxRecDepth 100000 in
theorem rough_yes (s : List UInt8) (hs : s.length ≤ 400) (hx : Hid (decide (0 ≤ Lib.indexByte s 58) = true)) (w : World) (h : Env w) : Calls Tryz.prog 28 #[.string (Str s)] w fun e w' => e = .returned (.string (Str (splH 58 (Lib.cut s [58, 58]).1 ++ (List.replicate (16 - (splH 58 (Lib.cut s [58, 58]).1).length - (splH 58 (Lib.cut s [58, 58]).2.1).length) 0 ++ splH 58 (Lib.cut s [58, 58]).2.1)))) ∧ Below w.heap.size w w' := by
  have HE := Lib.hid h; clear h
  obtain ⟨m, hm⟩ := HE.out.ml
  have Hcut := Lib.hid (Tryz.strings_Cut (Str s) ⟨#[58, 58]⟩ m w (by rw [Str_size]; omega) hm)
  clear hm
  rw [show (⟨#[58, 58]⟩ : ByteArray).data.toList = [58, 58] from rfl, Str_data] at Hcut
  obtain ⟨g1, g2⟩ := cut_short s [58, 58]
  generalize (Lib.cut s [58, 58]).1 = a at Hcut g1 ⊢
  generalize (Lib.cut s [58, 58]).2.1 = b at Hcut g2 ⊢
  generalize (Lib.cut s [58, 58]).2.2 = found at Hcut
  have la := splH_length 58 a
  have lb := splH_length 58 b
  have Ca := Lib.hid (splitH_any 58 a (by omega))
  have Cb := Lib.hid (splitH_any 58 b (by omega))
  generalize splH 58 a = A at la Ca ⊢
  generalize splH 58 b = B at lb Cb ⊢
  have hla : A.length ≤ 1000 := by omega
  have hlb : B.length ≤ 1000 := by omega
  have hsa := Str_size A
  have hsb := Str_size B
  have hmx : (max ((16 : Int) - (A.length : Int) - (B.length : Int)) 0) = ((16 - A.length - B.length : Nat) : Int) := by omega
  have HR := Lib.hid (repeat_0 (16 - A.length - B.length) (by omega))
  have hn16 : 16 - A.length - B.length ≤ 16 := by omega
  have HM := Lib.hid hmx
  have c1 := run_cat (P := Tryz.prog) A (List.replicate (16 - A.length - B.length) 0) (by simp; omega)
  have c2 := run_cat (P := Tryz.prog) (A ++ List.replicate (16 - A.length - B.length) 0) B (by simp; omega)
  simp only [List.append_assoc] at c2
  clear la lb hmx g1 g2
  go_enter Tryz.func28, Tryz.ntmps28
  go_wp2_with (first
    | (go_at_call 41; refine (contains_58 s _).mono ?_; rintro e w1 ⟨rfl, rfl⟩; rw [hx.out])
    | (go_at_call 43; go_loud (refine Hcut.out.mono ?_; rintro e w2 ⟨rfl, d, rfl⟩; have HB2 := Lib.hid (bdrewN (Below.refl w.heap.size w) d); generalize w.drewN d = w2 at HB2 ⊢))
    | (go_at_call 42; refine (Ca.out _ (HE.out.below HB2.out)).mono ?_; rintro e w3 ⟨rfl, hb3⟩; have HB3 := Lib.hid (bstep HB2.out hb3); clear hb3 Ca)
    | (go_at_call 42; refine (Cb.out _ (HE.out.below HB3.out)).mono ?_; rintro e w4 ⟨rfl, hb4⟩; have HB4 := Lib.hid (bstep HB3.out hb4); clear hb4 Cb)
    | (go_at_call 44; rw [HM.out]; refine (HR.out _).mono ?_; rintro e w5 ⟨rfl, hb5⟩; have HB5 := Lib.hid (bstep HB4.out hb5); clear hb5))
  go_ret
  exact ⟨rfl, HB5.out⟩
theorem rough_any (s : List UInt8) (hs : s.length ≤ 400) (w : World) (h : Env w) : Calls Tryz.prog 28 #[.string (Str s)] w fun e w' => e = .returned (.string (Str (roughV s))) ∧ Below w.heap.size w w' := by
  unfold roughV
  by_cases hx : 0 ≤ Lib.indexByte s 58
  · rw [if_pos hx]; exact rough_yes s hs (Lib.hid (by simpa using hx)) w h
  · rw [if_neg hx]; exact rough_no s (by omega) (Lib.hid (by simpa using hx)) w h
end Go.Proofs.YtalnfjnfcloonaaGreatDoor

