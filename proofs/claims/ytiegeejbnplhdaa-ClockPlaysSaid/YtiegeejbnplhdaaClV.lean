/-
  The living call of the laws of clocks.
-/
import Derived.Test.YtiegeejbnplhdaaClL
namespace Go.Proofs.Ytiegeejbnplhdaa
open Go.RowKit
set_option linter.unusedVariables false
set_option linter.unusedSimpArgs false

theorem vec_lit3 {W : World} {m : Nat} {a b c : List UInt8} {T : TypeId} (h : ObjAt W m #[.string (Str a), .string (Str b), .string (Str c)] T) : Vec KS W (.slice (some ⟨m, 0, none⟩) 3 3) [a, b, c] := by
  refine ⟨_, 3, rfl, Nat.le_refl _, by unfold maxLen; omega, (fun e => by cases e), fun _ => ⟨m, 0, rfl, h.lt, fun i hi => ?_⟩⟩
  have hr : W.rangeAt m (0 + i * KS.n) (KS.C [a, b, c][i]) := fun j u hu => by
    have hj : j = 0 := by
      have := (List.getElem?_eq_some_iff.1 hu).1
      have h1 : (KS.C [a, b, c][i]).length = 1 := rfl
      omega
    subst hj
    rw [h.cell]
    have e0 : 0 + i * KS.n + 0 = i := by show 0 + i * 1 + 0 = i; omega
    rw [e0]
    match i, hi with
    | 0, _ => exact hu
    | 1, _ => exact hu
    | 2, _ => exact hu
  exact row?_of hr
theorem live_l : setE (setE (setE [] [98] 5) [97] 5) [99] 4 = [([99], 4), ([97], 5), ([98], 5)] := by decide +kernel
theorem live_5 : keysE ([([99], 4), ([97], 5), ([98], 5)].take (dueE [([99], 4), ([97], 5), ([98], 5)] 5)) = [[99], [97], [98]] := by decide +kernel
theorem live_3 : keysE ([([99], 4), ([97], 5), ([98], 5)].take (dueE [([99], 4), ([97], 5), ([98], 5)] 3)) = [] := by decide +kernel
set_option maxRecDepth 100000 in
theorem lives12_any (w : World) : Calls Try.prog 19 #[] w fun x w' => x = .returned (.bool true) ∧ Below w.heap.size w w' := by
  have HN := Lib.hid (mnew_any w)
  have HSET : Hid (∀ W l (k : List UInt8) (t : Int), Mine w.heap.size w W w.heap.size l → k.length ≤ 1 → l.length ≤ 3 → (Lit.int .i64 t).wf = true → Calls Try.prog 10 #[.pointer (some ⟨w.heap.size, 0, none⟩), .string (Str k), .int .i64 t] W fun x w' => x = .returned (.bool (!hasE l k)) ∧ Mine w.heap.size w w' w.heap.size (setE l k t)) :=
    Lib.hid fun W l k t h hk hl ht => (mset_any h k t (by unfold maxLen; omega) (by omega) ht).mono fun _ _ h => ⟨h.1, h.2.1⟩
  have HLE : Hid (∀ W, Mine w.heap.size w W w.heap.size [([99], 4), ([97], 5), ([98], 5)] → Calls Try.prog 24 #[.pointer (some ⟨w.heap.size, 0, none⟩)] W fun x w' => x = .returned (.int .i64 3) ∧ W = w') := Lib.hid fun W h => len_any _ _ W h.v
  have HD5 : Hid (∀ W, Mine w.heap.size w W w.heap.size [([99], 4), ([97], 5), ([98], 5)] → Calls Try.prog 17 #[.pointer (some ⟨w.heap.size, 0, none⟩), .int .i64 5] W fun x w' => ∃ v', x = .returned v' ∧ Below W.heap.size W w' ∧ OwnV KS 9 w' W.heap.size v' [[99], [97], [98]]) := Lib.hid fun W h => by
    have := ckdue_any _ _ 5 W h.v h.ok (by unfold SB; decide) (by decide)
    rwa [live_5] at this
  have HD3 : Hid (∀ W, Mine w.heap.size w W w.heap.size [([99], 4), ([97], 5), ([98], 5)] → Calls Try.prog 17 #[.pointer (some ⟨w.heap.size, 0, none⟩), .int .i64 3] W fun x w' => ∃ q cap, x = .returned (.slice q 0 cap) ∧ Below W.heap.size W w') := Lib.hid fun W h => by
    have := ckdue_any _ _ 3 W h.v h.ok (by unfold SB; decide) (by decide)
    rw [live_3] at this
    refine this.mono fun x w' ⟨v', hx, hb, ho⟩ => ?_
    obtain ⟨q, cap, e, _⟩ := ho.vec.len
    exact ⟨q, cap, by rw [hx, e]; rfl, hb⟩
  have HSA : Hid (∀ a b W, Vec KS W a [[99], [97], [98]] → Vec KS W b [[99], [97], [98]] → Calls Try.prog 14 #[a, b] W fun x w' => x = .returned (.bool true) ∧ ∃ d, w' = W.drewN d) := Lib.hid (fun a b W h1 h2 => by have := same12_any a b _ _ W h1 h2; rwa [decide_eq_true rfl] at this)
  go_enter Try.func19, Try.ntmps19
  go_wp2_with (first
    | (go_at_call 6; refine HN.out.mono ?_; rintro x w1 ⟨rfl, h⟩; have H1 := Lib.hid h; clear h)
    | (go_at_call 10; refine (HSET.out _ _ [99] 4 H3.out (by decide) (by decide) (by decide)).mono ?_; rintro x w4 ⟨rfl, h⟩; have H4 := Lib.hid h; clear h; rw [live_l] at H4)
    | (go_at_call 10; refine (HSET.out _ _ [97] 5 H2.out (by decide) (by decide) (by decide)).mono ?_; rintro x w3 ⟨rfl, h⟩; have H3 := Lib.hid h; clear h)
    | (go_at_call 10; refine (HSET.out _ _ [98] 5 H1.out (by decide) (by decide) (by decide)).mono ?_; rintro x w2 ⟨rfl, h⟩; have H2 := Lib.hid h; clear h)
    | (go_at_call 24; refine (HLE.out _ H4.out).mono ?_; rintro x w5 ⟨rfl, rfl⟩)
    | (go_at_call 17; refine (HD3.out _ H6.out).mono ?_; rintro x w8 ⟨q, cap, rfl, hb⟩; have H8 := Lib.hid (H6.out.below hb); clear hb)
    | (go_at_call 17; refine (HD5.out _ H4.out).mono ?_; rintro x w5 ⟨v5, rfl, hb, ho⟩; have H5 := Lib.hid (H4.out.below hb); have HO5 := Lib.hid ho.vec; clear hb ho; have HLIT := Lib.hid (ObjAt.made w5 #[.string (Str [99]), .string (Str [97]), .string (Str [98])] 9))
    | (go_at_call 14; refine (HSA.out _ _ _ (HO5.out.below (bbV _ _)) (vec_lit3 HLIT.out)).mono ?_; rintro x w6 ⟨rfl, d, rfl⟩; have H6 := Lib.hid (H5.out.below (bdrewN (bbV _ (.cells #[.string (Str [99]), .string (Str [97]), .string (Str [98])] 9)) d))))
  go_ret
  exact ⟨rfl, H8.out.bel⟩
end Go.Proofs.Ytiegeejbnplhdaa
