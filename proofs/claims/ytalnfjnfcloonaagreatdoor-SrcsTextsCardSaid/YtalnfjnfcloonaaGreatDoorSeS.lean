/-
  The contracts of strings.SplitSeq at one comma, and of the function value that it hands back.
-/
import Derived.Test.YtalnfjnfcloonaaGreatDoorSeR
import Derived.Test.YtalnfjnfcloonaaGreatDoorPureSpl
import Derived.Test.YtalnfjnfcloonaaGreatDoorShelf
import Derived.Test.YtalnfjnfcloonaaGreatDoorObj
namespace Go.Proofs.YtalnfjnfcloonaaGreatDoor
open Go.RowKit
set_option linter.unusedVariables false
set_option linter.unusedSimpArgs false
attribute [local go_sem] Oper.semAt_some

/-- How long the text in a box is. -/
def boxLen (b : Nat) (W : World) : Nat := match W.cell? ⟨b, 0, none⟩ with | some (.string z) => z.size | _ => 0
theorem boxLen_eq {b : Nat} {W : World} {r : List UInt8} (h : W.cell? ⟨b, 0, none⟩ = some (.string (Str r))) : boxLen b W = r.length := by unfold boxLen; rw [h]; exact Str_size r
/-- What the value holds: the text that is left, the comma, nothing saved. -/
structure SpB (b1 b2 b3 : Nat) (W : World) (r : List UInt8) : Prop where
  s : W.cell? ⟨b1, 0, none⟩ = some (.string (Str r))
  f : W.frozen? ⟨b1, 0, none⟩ = false
  p : W.cell? ⟨b2, 0, none⟩ = some (.string ⟨#[44]⟩)
  v : W.cell? ⟨b3, 0, none⟩ = some (.int .i64 0)
theorem SpB.keep {b1 b2 b3 : Nat} {W W' : World} {r : List UInt8} (h : SpB b1 b2 b3 W r) (hk : Keep3 b1 b2 b3 W W') : SpB b1 b2 b3 W' r :=
  ⟨(World.cell?_of_block (w := W) (w' := W') (a := ⟨b1, 0, none⟩) hk.1).trans h.s, (World.frozen?_of_block (w := W) (w' := W') (a := ⟨b1, 0, none⟩) hk.1).trans h.f, (World.cell?_of_block (w := W) (w' := W') (a := ⟨b2, 0, none⟩) hk.2.1).trans h.p, (World.cell?_of_block (w := W) (w' := W') (a := ⟨b3, 0, none⟩) hk.2.2).trans h.v⟩
theorem SpB.set {b1 b2 b3 : Nat} {W : World} {r : List UInt8} (h : SpB b1 b2 b3 W r) (h2 : b2 ≠ b1) (h3 : b3 ≠ b1) (t : List UInt8) : SpB b1 b2 b3 (W.setCell ⟨b1, 0, none⟩ (.string (Str t))) t := by
  have k : ∀ b, b ≠ b1 → (W.setCell ⟨b1, 0, none⟩ (.string (Str t))).cell? ⟨b, 0, none⟩ = W.cell? ⟨b, 0, none⟩ := fun b hb => World.cell?_of_block (Below.heap_setCell _ _ _ _ hb)
  exact ⟨World.cell?_setCell_same' _ _ _ (by rw [h.s]; rfl), by rw [World.frozen?_setCell]; exact h.f, (k _ h2).trans h.p, (k _ h3).trans h.v⟩
theorem grown_set (W : World) (b : Nat) (v : Value) : W.grownBy (W.setCell ⟨b, 0, none⟩ v) (some b) := ⟨rfl, rfl, rfl, by simp [World.setCell], fun k _ hk => Below.heap_setCell _ _ _ _ (fun e => hk (by rw [e]))⟩

set_option maxRecDepth 100000 in
set_option maxHeartbeats 4000000 in
theorem split_box (n : Nat) (hn : 1 ≤ n) (b1 b2 b3 : Nat) (h12 : b2 ≠ b1) (h13 : b3 ≠ b1) (s : List UInt8) (hs : s.length ≤ 1000000) (w : World) (hw : SpB b1 b2 b3 w s) :
    SeqBox Fence.wide n Tryz.prog 38 #[.pointer (some ⟨b2, 0, none⟩), .pointer (some ⟨b1, 0, none⟩), .pointer (some ⟨b3, 0, none⟩)] b1 b2 b3 (spl s) w := by
  intro l J Jx W hK hJ hJx hY h0
  have HI := Lib.hid (fun (r : List UInt8) W => (callsIn_wide (n := n - 1)).2 (Tryz.strings_Index_one (Str r) 44 W))
  have HS0 := Lib.hid (hw.keep hK)
  have hS := HS0.out
  clear hw hK
  refine callsIn_of_wp Tryz.func38 rfl trivial ?_ rfl
  simp only [Tryz.ntmps38, List.size_toArray, List.length_cons, List.length_nil, Nat.reduceAdd, Nat.reduceSub, Array.replicate_succ, Array.replicate_zero, List.push_toArray, List.append_toArray, List.nil_append, List.cons_append]
  obtain ⟨c1, c2, c3, c4⟩ := hS
  gi_wp2
  clear c1 c2 c3 c4
  gi_loopw [7] (fun _ wr => ∃ (pre : List (List UInt8)) (r : List UInt8), r.length ≤ 1000000 ∧ spl s = pre ++ spl r ∧ SpB b1 b2 b3 wr r ∧ J pre wr) (fun _ wr => boxLen b1 wr)
  case atStart => exact ⟨[], s, hs, by simp, HS0.out, h0⟩
  case round =>
    obtain ⟨pre, r, hrl, hsp, hB, hJs⟩ := hrel
    by_cases hc : (44 : UInt8) ∈ r
    · obtain ⟨a, t, ha, hr⟩ := at_comma hc
      have HX : Hid (∀ W, CallsIn Fence.wide (n - 1) Tryz.prog 40 #[.string (Str r), .string ⟨#[44]⟩] W fun e w' => e = .returned (.int .i64 a.length) ∧ w' = W) := Lib.hid fun W => by
        have := HI.out r W
        rwa [show Lib.indexByte (Str r).data.toList 44 = (a.length : Int) from by rw [hr]; exact idx_at ha] at this
      have hal : a.length < r.length := by rw [hr]; simp
      have hpx : pre ++ [a] <+: spl s := by rw [hsp, hr, spl_at ha]; exact ⟨spl t, by simp⟩
      obtain ⟨fn, tmps, assign, body, hy, hR⟩ := hY pre a wr hJs hpx
      obtain ⟨c1, c2, c3, c4⟩ := hB
      have hsz : (Str r).size = r.length := Str_size r
      have e1 : (Str r).extract 0 a.length = Str a := by rw [Str_extract, hr]; simp
      have e2 : (Str r).extract (a.length + 1) r.length = Str t := by
        rw [Str_extract, hr]
        have : (a ++ 44 :: t).drop (a.length + 1) = t := by rw [← List.drop_drop, List.drop_left]; rfl
        rw [this, List.take_of_length_le (by simp; omega)]
      have HB := Lib.hid (show SpB b1 b2 b3 wr r from ⟨c1, c2, c3, c4⟩)
      have HR := Lib.hid hr
      have HSP := Lib.hid hsp
      clear hr hsp hc
      have g1 : ¬ ((a.length : Int) < 0) := by omega
      have g2 : wrap64 ((a.length : Int) + 0) = (a.length : Int) := by unfold wrap64; omega
      have g3 : wrap64 ((a.length : Int) + 1) = (a.length : Int) + 1 := by unfold wrap64; omega
      have g4 : (0 : Int) ≤ (a.length : Int) ∧ (a.length : Int) ≤ (r.length : Int) := by omega
      have g5 : (0 : Int) ≤ (a.length : Int) + 1 ∧ (a.length : Int) + 1 ≤ (r.length : Int) := by omega
      gi_wp2_with (refine ⟨trivial, ?_⟩; gi_at_call 40; refine (HX.out _).mono ?_; rintro e w' ⟨rfl, rfl⟩)
      refine hR.mono ?_
      rintro e W3 (⟨rfl, hJ3, hk3⟩ | ⟨rfl, hJx3⟩)
      · have HB3 := Lib.hid (HB.out.keep hk3)
        have HJ3 := Lib.hid hJ3
        have HB0 := Lib.hid (boxLen_eq HB.out.s)
        obtain ⟨d1, d2, d3, d4⟩ := HB3.out
        clear hJ3 hk3 hR hy hJs c1 c2 c3 c4
        gi_wp2
        go_roundw
        case rel => exact ⟨pre ++ [a], t, by have := HR.out; rw [this] at hrl; simp at hrl; omega, by rw [HSP.out, HR.out, spl_at ha]; simp, HB3.out.set h12 h13 t, hJ _ _ _ HJ3.out (grown_set _ _ _)⟩
        case measure => rw [boxLen_eq (HB3.out.set h12 h13 t).s, HB0.out, HR.out]; simp; omega
      · gi_wp2
        refine bodyPost_ret (results_none rfl _ _ _) rfl ?_
        exact ⟨⟨_, rfl⟩, .inr ⟨pre ++ [a], hpx, hJx3⟩⟩
    · have HX : Hid (∀ W, CallsIn Fence.wide (n - 1) Tryz.prog 40 #[.string (Str r), .string ⟨#[44]⟩] W fun e w' => e = .returned (.int .i64 (-1)) ∧ w' = W) := Lib.hid fun W => by
        have := HI.out r W
        rwa [show Lib.indexByte (Str r).data.toList 44 = -1 from idx_none hc] at this
      have hpe : pre ++ [r] = spl s := by rw [hsp, spl_none hc]
      obtain ⟨fn, tmps, assign, body, hy, hR⟩ := hY pre r wr hJs (by rw [hpe]; exact List.prefix_refl _)
      obtain ⟨c1, c2, c3, c4⟩ := hB
      have HPE := Lib.hid hpe
      clear hsp hc hpe
      gi_wp2_with (refine ⟨trivial, ?_⟩; gi_at_call 40; refine (HX.out _).mono ?_; rintro e w' ⟨rfl, rfl⟩)
      refine hR.mono ?_
      rintro e W3 (⟨rfl, hJ3, hk3⟩ | ⟨rfl, hJx3⟩)
      · gi_wp2
        go_end0
        exact ⟨⟨_, rfl⟩, .inl (by rw [← HPE.out]; exact hJ3)⟩
      · gi_wp2
        go_end0
        exact ⟨⟨_, rfl⟩, .inr ⟨pre ++ [r], by rw [HPE.out]; exact List.prefix_refl _, hJx3⟩⟩
end Go.Proofs.YtalnfjnfcloonaaGreatDoor
