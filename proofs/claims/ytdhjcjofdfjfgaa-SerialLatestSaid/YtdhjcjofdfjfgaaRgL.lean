/-
  Numbers that go round: the document's latest one.
-/
import Derived.Test.YtdhjcjofdfjfgaaRgA
namespace Go.Proofs.Ytdhjcjofdfjfgaa
open Go.RowKit
set_option linter.unusedVariables false
set_option linter.unusedSimpArgs false

def KU : Kind Int := ⟨fun x => [.int .u32 x], 1, by omega, fun _ => rfl, fun a u hu => by simp at hu; subst hu; rfl⟩
def U32s (l : List Int) : Prop := ∀ x ∈ l, 0 ≤ x ∧ x < 4294967296
theorem KU_num {w : World} {b o : Nat} {l : List Int} (h : KU.At w b o l) {i : Nat} (hi : i < l.length) : w.cell? ⟨b, o + i, none⟩ = some (.int .u32 l[i]) := by
  have := (rangeAt_of_row? (h i hi)).1 0 _ rfl
  simpa [KU] using this
theorem lateI_step (a : Int) (r : List Int) (j : Nat) (hj : j < r.length) : lateI a (r.take (j + 1)) = if 0 < gapI (lateI a (r.take j)) r[j] then r[j] else lateI a (r.take j) := by
  unfold lateI
  rw [List.take_succ_eq_append_getElem hj, List.foldl_append]
  rfl
theorem lateI_in (a : Int) : ∀ (r : List Int), U32s (a :: r) → 0 ≤ lateI a r ∧ lateI a r < 4294967296 := by
  intro r
  unfold lateI
  induction r generalizing a with
  | nil => intro h; exact h a List.mem_cons_self
  | cons x r ih =>
    intro h
    rw [List.foldl_cons]
    refine ih _ fun y hy => ?_
    rcases List.mem_cons.1 hy with rfl | hy
    · split
      · exact h _ (List.mem_cons_of_mem _ List.mem_cons_self)
      · exact h _ List.mem_cons_self
    · exact h _ (List.mem_cons_of_mem _ (List.mem_cons_of_mem _ hy))
set_option maxRecDepth 100000 in
set_option maxHeartbeats 2000000 in
theorem latest13_any (v : Value) (a : Int) (r : List Int) (w : World) (ha : Vec KU w v (a :: r)) (hu : U32s (a :: r)) : Calls Try.prog 16 #[v] w fun x w' => x = .returned (.int .u32 (lateI a r)) ∧ w = w' := by
  obtain ⟨b, o, cap, rfl, h1, h2, hbl, RA⟩ := ha.parts (by simp)
  have HRA := Lib.hid RA
  have HU := Lib.hid hu
  have HG := Lib.hid (fun a b (h : (0 ≤ a ∧ a < 4294967296) ∧ 0 ≤ b ∧ b < 4294967296) W => gap13_any a b h.1.1 h.1.2 h.2.1 h.2.2 W)
  obtain ⟨n, hn⟩ : ∃ n, n = r.length := ⟨_, rfl⟩
  have hmx : n + 1 ≤ maxLen := by rw [hn]; exact Nat.le_trans h1 h2
  unfold maxLen at hmx
  have hl : (a :: r).length = n + 1 := by rw [List.length_cons, hn]
  rw [hl]
  have HN := Lib.hid hn
  have r0 : w.cell? ⟨b, o, none⟩ = some (.int .u32 a) := KU_num RA (i := 0) (by simp)
  have hn0 : (0 : Int) < (n : Int) + 1 := by omega
  clear hn hl h1 h2 RA hu ha
  go_enter Try.func16, Try.ntmps16
  go_wp2_with fail
  go_loopw [3, 4] (fun c i wr => ∃ (j : Nat) (x : Int), j ≤ n ∧ i = .int .i64 (j + 1) ∧ c = .int .u32 x ∧ Hid (lateI a (r.take j) = x) ∧ wr = w) (fun _ i _ => n + 1 - (intOf i).toNat)
  case atStart => exact ⟨0, a, by omega, rfl, rfl, Lib.hid rfl, rfl⟩
  case round =>
    obtain ⟨j, x, hj, rfl, rfl, HX, rfl⟩ := hrel
    by_cases hlt : j < n
    · have g1 : j < r.length := by rw [← HN.out]; exact hlt
      have e1 : (a :: r)[j + 1]'(by simp; omega) = r[j] := rfl
      have r1 := KU_num HRA.out (i := j + 1) (by simp; omega)
      rw [e1] at r1
      have hk1 : (j : Int) + 1 < (n : Int) + 1 := by omega
      have hk2 : (j : Int) < (n : Int) := by omega
      have hw1 : IntKind.i64.wrap ((j : Int) + 1 + 1) = (j : Int) + 1 + 1 := by simp only [IntKind.wrap_i64]; omega
      have hin : (0 ≤ x ∧ x < 4294967296) ∧ 0 ≤ r[j] ∧ r[j] < 4294967296 := by
        rw [← HX.out]
        exact ⟨lateI_in a _ fun y hy => HU.out y (by
          rcases List.mem_cons.1 hy with rfl | hy
          · exact List.mem_cons_self
          · exact List.mem_cons_of_mem _ (List.mem_of_mem_take hy)), HU.out _ (List.mem_cons_of_mem _ (List.getElem_mem g1))⟩
      have hst := lateI_step a r j g1
      rw [HX.out] at hst
      have HST := Lib.hid hst
      have HIN := Lib.hid hin
      have ht : ((j : Int) + 1).toNat = j + 1 := by omega
      have hp1 : (0 : Int) ≤ (j : Int) + 1 := by omega
      clear hst hin e1
      generalize r[j] = y at *
      obtain ⟨g, HGE⟩ : ∃ g, Hid (gapI x y = g) := ⟨_, Lib.hid rfl⟩
      have HG2 := HG.out x y HIN.out
      rw [HGE.out] at HG2
      have HG3 := Lib.hid HG2
      clear HG2 HRA
      by_cases hg : 0 < g
      · have hg2 : g > 0 := hg
        have HY : Hid (lateI a (r.take (j + 1)) = y) := Lib.hid (by rw [HST.out, HGE.out, if_pos hg])
        go_wp2_with (go_at_call 8; (with_reducible refine (HG3.out _).mono ?_); rintro z w1 ⟨rfl, rfl⟩)
        go_roundw
        case rel => exact ⟨j + 1, y, by omega, by simp, rfl, HY, trivial⟩
        case measure => simp [intOf]; omega
      · have hg2 : ¬ g > 0 := hg
        have HY : Hid (lateI a (r.take (j + 1)) = x) := Lib.hid (by rw [HST.out, HGE.out, if_neg hg])
        go_wp2_with (go_at_call 8; (with_reducible refine (HG3.out _).mono ?_); rintro z w1 ⟨rfl, rfl⟩)
        go_roundw
        case rel => exact ⟨j + 1, x, by omega, by simp, rfl, HY, trivial⟩
        case measure => simp [intOf]; omega
    · have hk1 : ¬ (j : Int) + 1 < (n : Int) + 1 := by omega
      have hk2 : ¬ (j : Int) < (n : Int) := by omega
      have HF : Hid (lateI a r = x) := Lib.hid (by have := HX.out; rwa [show j = r.length by rw [← HN.out]; omega, List.take_length] at this)
      go_wp2
      go_ret
      exact ⟨by rw [HF.out]; rfl, rfl⟩
end Go.Proofs.Ytdhjcjofdfjfgaa
