/-
  A text of numbers with a run of zeros left out is read back: plain mathematics.
-/
import Derived.Test.YtmpikhpnkfnnoaaGreatDoorPureDig
namespace Go.Proofs.YtmpikhpnkfnnoaaGreatDoor
open Go.RowKit
set_option linter.unusedVariables false

theorem flat2_len : ∀ ws : List Nat, (ws.flatMap (fun n => putL n 2)).length = 2 * ws.length
  | [] => rfl
  | a :: r => by rw [List.flatMap_cons, List.length_append, flat2_len r, putL_length]; simp; omega
theorem flat2_zero : ∀ n : Nat, (List.replicate n 0).flatMap (fun n => putL n 2) = List.replicate (2 * n) 0
  | 0 => rfl
  | n + 1 => by
    rw [List.replicate_succ, List.flatMap_cons, flat2_zero n, show 2 * (n + 1) = 2 * n + 1 + 1 by omega, List.replicate_succ, List.replicate_succ]
    rfl
theorem rough_gap (ws : List Nat) (h8 : ws.length = 8) (hle : ∀ n ∈ ws, n ≤ 65535) (a n : Nat) (han : a + n ≤ 8) (hz : (ws.drop a).take n = List.replicate n 0) :
    roughV (jnD D16 (ws.take a) ++ 58 :: 58 :: jnD D16 (ws.drop (a + n))) = ws.flatMap (fun n => putL n 2) := by
  unfold roughV
  rw [if_pos (has_colon _ _), cut_at _ _ (NoDC_jn _)]
  simp only
  rw [splH_jn (ws.take a) (fun n hn => hle n (List.mem_of_mem_take hn)), splH_jn (ws.drop (a + n)) (fun n hn => hle n (List.mem_of_mem_drop hn)), flat2_len, flat2_len, List.length_take, List.length_drop]
  have e : ws = ws.take a ++ (List.replicate n 0 ++ ws.drop (a + n)) := by
    rw [← hz, ← List.drop_drop, List.take_append_drop, List.take_append_drop]
  conv => rhs; rw [e, List.flatMap_append, List.flatMap_append, flat2_zero]
  rw [show 16 - 2 * min a ws.length - 2 * (ws.length - (a + n)) = 2 * n by omega]
theorem rough_all (ws : List Nat) (h8 : ws.length = 8) (hle : ∀ n ∈ ws, n ≤ 65535) : roughV (jnD D16 ws) = ws.flatMap (fun n => putL n 2) := by
  have hc : 0 ≤ Lib.indexByte (jnD D16 ws) 58 := by
    obtain ⟨b0, b1, b2, b3, b4, b5, b6, b7, rfl⟩ := list8 h8
    rw [jnD_cons2]
    exact has_colon _ _
  unfold roughV
  rw [if_pos hc, cut_none _ (NoDC_jn _)]
  simp only
  rw [splH_jn ws hle, flat2_len, h8]
  simp [splH]
theorem rough_dots (ns : List Nat) (h4 : ns.length = 4) (hle : ∀ n ∈ ns, n ≤ 255) : roughV (Lib.join (ns.map (numD 10)) [46]) = ns.flatMap (fun n => putL n 1) := by
  have hne : ns ≠ [] := by rintro rfl; simp at h4
  have hm : ∀ (ds : List (List UInt8)), (∀ d ∈ ds, ∀ x ∈ d, x ≠ 58) → ∀ x ∈ Lib.join ds [46], x ≠ 58 := by
    intro ds
    induction ds with
    | nil => intro _ x hx; simp [Lib.join_nil] at hx
    | cons d r ih =>
      intro h x hx
      cases r with
      | nil => rw [Lib.join_one] at hx; exact h d (by simp) x hx
      | cons e t =>
        have e1 : Lib.join (d :: e :: t) [46] = d ++ (46 :: Lib.join (e :: t) [46]) := by simp [Lib.join, List.intercalate]
        rw [e1] at hx
        rcases List.mem_append.1 hx with hx | hx
        · exact h d (by simp) x hx
        · rcases List.mem_cons.1 hx with rfl | hx
          · decide
          · exact ih (fun d' hd' => h d' (by simp at hd' ⊢; exact .inr hd')) x hx
  have hc := no_colon (Lib.join (ns.map (numD 10)) [46]) (hm _ (by
    intro d hd x hx
    obtain ⟨n, _, rfl⟩ := List.mem_map.1 hd
    exact (digs_mem 10 (by omega) (by omega) 5 n x hx).1))
  unfold roughV
  rw [hc, if_neg (by omega), splD_jn ns hne hle]

theorem zero_all (b0 b1 b2 b3 b4 b5 b6 b7 : Bool) : decide ((([b0, b1, b2, b3, b4, b5, b6, b7].drop (gapB [b0, b1, b2, b3, b4, b5, b6, b7] 8).1).take (gapB [b0, b1, b2, b3, b4, b5, b6, b7] 8).2.1) = List.replicate (gapB [b0, b1, b2, b3, b4, b5, b6, b7] 8).2.1 true) = true := by
  revert b0 b1 b2 b3 b4 b5 b6 b7
  decide +kernel
theorem gap_zero (ws : List Nat) (h : ws.length = 8) : (ws.drop (gapK ws 8).1).take (gapK ws 8).2.1 = List.replicate (gapK ws 8).2.1 0 := by
  rw [gapK_B]
  have hz : ((zsB ws).drop (gapB (zsB ws) 8).1).take (gapB (zsB ws) 8).2.1 = List.replicate (gapB (zsB ws) 8).2.1 true := by
    obtain ⟨b0, b1, b2, b3, b4, b5, b6, b7, e⟩ := list8 (l := zsB ws) (by unfold zsB; rw [List.length_map, h])
    rw [e]
    exact of_decide_eq_true (zero_all b0 b1 b2 b3 b4 b5 b6 b7)
  generalize (gapB (zsB ws) 8).1 = f at *
  generalize (gapB (zsB ws) 8).2.1 = m at *
  have hz2 : ((ws.drop f).take m).map (fun n => decide (n = 0)) = List.replicate m true := by
    unfold zsB at hz
    rw [List.map_take, List.map_drop]
    exact hz
  rw [List.eq_replicate_iff] at hz2 ⊢
  refine ⟨by simpa using hz2.1, fun b hb => ?_⟩
  have := hz2.2 _ (List.mem_map_of_mem (f := fun n => decide (n = 0)) hb)
  simpa using this
end Go.Proofs.YtmpikhpnkfnnoaaGreatDoor
