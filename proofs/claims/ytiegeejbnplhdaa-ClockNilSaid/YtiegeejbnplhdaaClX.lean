/-
  The walk of ClockNil.
-/
import Derived.Test.YtiegeejbnplhdaaClV
namespace Go.Proofs.Ytiegeejbnplhdaa
open Go.RowKit
set_option linter.unusedVariables false
set_option linter.unusedSimpArgs false

theorem nilV (w : World) : ClkV w (.pointer none) [] := .inl ⟨rfl, rfl⟩
set_option maxRecDepth 1000000 in
set_option maxHeartbeats 1000000 in
theorem cknil_any (key : List UInt8) (at_ : Int) (w : World) (hk : key.length ≤ maxLen) : Calls Try.prog 5 #[.string (Str key), .int .i64 at_] w fun x w' => x = .returned (.bool true) ∧ Below w.heap.size w w' := by
  have HAT : Hid (∀ W, Calls Try.prog 21 #[.pointer none, .string (Str key)] W fun x w' => x = .returned (.tuple #[.int .i64 0, .bool false]) ∧ W = w') := Lib.hid fun W => ckat_any _ [] key W (nilV W) CkOk.nil hk
  have HNX : Hid (∀ W, Calls Try.prog 22 #[.pointer none] W fun x w' => x = .returned (.tuple #[.string ⟨#[]⟩, .int .i64 0, .bool false]) ∧ Below W.heap.size W w') := Lib.hid fun W => next_any _ [] W (nilV W) EnOk.nil
  have HSE : Hid (∀ W, _) := Lib.hid fun W => set_nil key at_ W
  have HCU : Hid (∀ W, Calls Try.prog 12 #[.pointer none, .string (Str key)] W fun x w' => x = .returned (.bool false) ∧ Below W.heap.size W w') := Lib.hid fun W => (ckcut_any _ [] key W (nilV W) CkOk.nil hk).mono fun x w' ⟨h1, _, h2, _⟩ => ⟨h1, h2.os, h2.tape, h2.output, h2.size, fun k hk => h2.block k hk (fun e => by rcases e with e | ⟨b, T, e, _⟩ <;> cases e)⟩
  have HDU : Hid (∀ W, Calls Try.prog 17 #[.pointer none, .int .i64 at_] W fun x w' => ∃ q cap, x = .returned (.slice q 0 cap) ∧ Below W.heap.size W w') := Lib.hid fun W => (ckdue_any _ [] at_ W (nilV W) EnOk.nil (by unfold SB; decide) (by decide)).mono fun x w' ⟨v', hx, hb, ho⟩ => by
    obtain ⟨q, cap, e, _⟩ := ho.vec.len
    exact ⟨q, cap, by rw [hx, e]; rfl, hb⟩
  have HPO : Hid (∀ W, Calls Try.prog 15 #[.pointer none, .int .i64 at_] W fun x w' => ∃ q cap, x = .returned (.slice q 0 cap) ∧ Below W.heap.size W w') := Lib.hid fun W => (ckpop_any _ [] at_ W (nilV W) EnOk.nil (by unfold SB; decide) (by decide)).mono fun x w' ⟨v', hx, _, ⟨h2, _⟩, ho⟩ => by
    obtain ⟨q, cap, e, _⟩ := ho.vec.len
    exact ⟨q, cap, by rw [hx, e]; rfl, h2.os, h2.tape, h2.output, h2.size, fun k hk => h2.block k hk (fun e => by rcases e with e | ⟨b, T, e, _⟩ <;> cases e)⟩
  have HKY : Hid (∀ W, Calls Try.prog 23 #[.pointer none] W fun x w' => ∃ q cap, x = .returned (.slice q 0 cap) ∧ Below W.heap.size W w') := Lib.hid fun W => (ckeys_any _ [] W (nilV W) EnOk.nil (by decide)).mono fun x w' ⟨v', hx, hb, ho⟩ => by
    obtain ⟨q, cap, e, _⟩ := ho.vec.len
    exact ⟨q, cap, by rw [hx, e]; rfl, hb⟩
  have HLE : Hid (∀ W p, ClkV W p [] → Calls Try.prog 24 #[p] W fun x w' => x = .returned (.int .i64 0) ∧ W = w') := Lib.hid fun W p h => len_any p [] W h
  have HCO : Hid (∀ W, Calls Try.prog 20 #[.pointer none] W fun x w' => ∃ b, x = .returned (.pointer (some ⟨b, 0, none⟩)) ∧ ClkV w' (.pointer (some ⟨b, 0, none⟩)) [] ∧ Below W.heap.size W w') := Lib.hid fun W => (copy_any _ [] W (nilV W)).mono fun x w' ⟨b, h1, _, h2, h3, _⟩ => ⟨b, h1, h2, h3⟩
  have HLI := Lib.hid (fun W => lives12_any W)
  go_enter Try.func5, Try.ntmps5
  go_wp2_with (first
    | (go_at_call 21; refine (HAT.out _).mono ?_; rintro x w1 ⟨rfl, rfl⟩)
    | (go_at_call 22; refine (HNX.out _).mono ?_; rintro x w1 ⟨rfl, h⟩; have H1 := Lib.hid h; clear h)
    | (go_at_call 10; refine (HSE.out _).mono ?_; rintro x w2 ⟨rfl, rfl⟩)
    | (go_at_call 12; refine (HCU.out _).mono ?_; rintro x w3 ⟨rfl, h⟩; have H3 := Lib.hid (bstep H1.out h); clear h)
    | (go_at_call 17; refine (HDU.out _).mono ?_; rintro x w4 ⟨q4, c4, rfl, h⟩; have H4 := Lib.hid (bstep H3.out h); clear h)
    | (go_at_call 15; refine (HPO.out _).mono ?_; rintro x w5 ⟨q5, c5, rfl, h⟩; have H5 := Lib.hid (bstep H4.out h); clear h)
    | (go_at_call 23; refine (HKY.out _).mono ?_; rintro x w6 ⟨q6, c6, rfl, h⟩; have H6 := Lib.hid (bstep H5.out h); clear h)
    | (go_at_call 20; refine (HCO.out _).mono ?_; rintro x w7 ⟨b7, rfl, hv, h⟩; have H7 := Lib.hid (bstep H6.out h); have HV7 := Lib.hid hv; clear h hv)
    | (go_at_call 24; refine (HLE.out _ _ HV7.out).mono ?_; rintro x w8 ⟨rfl, rfl⟩)
    | (go_at_call 24; refine (HLE.out _ _ (nilV _)).mono ?_; rintro x w8 ⟨rfl, rfl⟩)
    | (go_at_call 19; refine (HLI.out _).mono ?_; rintro x w9 ⟨rfl, h⟩; have H9 := Lib.hid (bstep H7.out h); clear h))
  go_ret
  exact ⟨rfl, H9.out⟩
end Go.Proofs.Ytiegeejbnplhdaa
