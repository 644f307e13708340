/-
  The walk of the law Ip6Options.
-/
import Derived.Test.YtkmnnkklbgnfpaaIqL
namespace Go.Proofs.Ytkmnnkklbgnfpaa
open Go.RowKit
set_option linter.unusedVariables false
attribute [local go_sem ↓] bld_iq ld_iq st_iq ld_addr st_addr
attribute [local go_sem] ldr_iq str_iq ldr_addr str_addr

set_option maxRecDepth 100000 in
set_option maxHeartbeats 2000000 in
theorem qopts (s : ByteArray) (hs : s.size ≤ maxLen) (w : World) : Calls Try.prog 5 #[.string s] w fun x w' => x = .returned (.bool true) ∧ Below w.heap.size w w' := by
  obtain ⟨l, hlE⟩ : ∃ l : List UInt8, Str l = cutB s 40 := ⟨(cutB s 40).data.toList, Str_of _⟩
  have hll : l.length ≤ 40 := by have := cutB_size s 40; rw [← hlE, Str_size] at this; exact this
  have HC : Hid (∀ W, Calls Try.prog 7 #[.string s, .int .i64 40] W fun x w' => x = .returned (.string (Str l)) ∧ W = w') := Lib.hid fun W => by
    rw [hlE]; exact cut_any s hs 40 (by omega) W
  have HR := Lib.hid (fun W => opt6_any l (by omega) W)
  have HX := Lib.hid (fun W => ropt6_any l (by omega) W)
  have hbs : ∀ b : Bool, (b == b) = true := fun b => by simp
  have hsi : ∀ t : Int, (t == t) = true := fun t => by simp
  generalize (optQ false l).1 = b at HR HX
  generalize (optQ false l).2 = c at HR HX
  generalize Str l = S at HC HR HX
  clear hll hlE hs
  go_enter Try.func5, Try.ntmps5
  go_wp2_with (first
    | (go_at_call 7; (with_reducible refine (HC.out _).mono ?_); rintro x w1 ⟨rfl, rfl⟩)
    | (go_at_call 16; (with_reducible refine (HR.out _).mono ?_); rintro x w2 ⟨rfl, hb2⟩; have H2 := Lib.hid hb2; clear hb2)
    | (go_at_call 17; (with_reducible refine (HX.out _).mono ?_); rintro x w3 ⟨rfl, rfl⟩)
    | (go_at_call 11; (with_reducible refine (lives6_any _).mono ?_); rintro x w7 ⟨rfl, hb7⟩; have H5 := Lib.hid (bstep H2.out hb7); clear hb7))
  go_ret
  exact ⟨rfl, H5.out⟩
end Go.Proofs.Ytkmnnkklbgnfpaa
