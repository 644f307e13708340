/-
  The library's sort by the clock's order, of at most SB texts.
-/
import Derived.Test.YtiegeejbnplhdaaSoP
import Derived.Test.YtiegeejbnplhdaaCodP
namespace Go.Proofs.Ytiegeejbnplhdaa
open Go.RowKit
set_option linter.unusedVariables false
set_option linter.unusedSimpArgs false

/-- How many are sorted. -/
def SB : Nat := 49
set_option maxRecDepth 100000 in
theorem bitslen_any (n : Nat) (hn : n < 16777216) (w : World) : Calls Try.prog 34 #[.int .u64 n] w fun x w' => x = .returned (.int .i64 (Lib.bitLen n : Nat)) ∧ w = w' := by
  have HL := Lib.hid (fun W => len64_small n hn W)
  go_enter Try.func34, Try.ntmps34
  go_wp2_with (go_at_call 49; (with_reducible refine (HL.out _).mono ?_); rintro x w1 ⟨rfl, rfl⟩)
  go_ret
  exact ⟨rfl, rfl⟩
theorem pdqs_any (E : SE) (ok : E.Ok) (d : Array (List UInt8)) (w : World) (S : St E w d) (h50 : E.n < 50) (lim : Nat) (hlim : lim < 4611686018427387904) :
    Calls Try.prog 33 #[.slice (some ⟨E.g, 0, none⟩) E.n E.cap, .int .i64 0, .int .i64 E.n, .int .i64 lim, .func (.func 29) #[.pointer (some ⟨E.b, 0, none⟩)] #[]] w fun x w' => x = .returned (.tuple #[]) ∧ ∃ d', St E w' d' ∧ Sort.PermIn 0 E.n d d' ∧ Sort.SortedIn E.lt 0 E.n d' := by
  obtain ⟨h1, h2⟩ := Sort.pdq_sorts E.lt (swoE E) d 0 E.n lim true true (Nat.zero_le _) (by rw [S.sz]; exact Nat.le_refl _) (.inl rfl)
  exact (pdq_any E ok h50 (E.n + 1) 0 E.n lim d w (by omega) S (Nat.zero_le _) (Nat.le_refl _) hlim).mono fun x w' ⟨hx, hs⟩ => ⟨hx, _, hs, h1, h2⟩
theorem bitLen_small (n : Nat) (hn : n < 16777216) : Lib.bitLen n < 4611686018427387904 := by
  have := Lib.bitLen_le n 24 (by omega) (by omega)
  omega
set_option maxRecDepth 100000 in
theorem pdq12_nil (k : Nat) (fv : Value) (w : World) : Calls Try.prog 40 #[.slice none 0 0, .int .i64 0, .int .i64 0, fv] w fun x w' => x = .returned (.tuple #[]) ∧ w = w' := by
  go_enter Try.func40, Try.ntmps40
  go_wp2_with fail
  refine wp_loop_rounds 1 ?_
  rw [rounds_succ]
  go_wp2
  go_end0
  exact ⟨rfl, rfl⟩
set_option maxRecDepth 100000 in
theorem pdqn_any (k : Nat) (fv : Value) (w : World) : Calls Try.prog 33 #[.slice none 0 0, .int .i64 0, .int .i64 0, .int .i64 k, fv] w fun x w' => x = .returned (.tuple #[]) ∧ w = w' := by
  have HI := Lib.hid (pdq12_nil k fv w)
  go_enter Try.func33, Try.ntmps33
  go_wp2_with fail
  refine wp_loop_rounds 1 ?_
  rw [rounds_succ]
  go_wp2_with (go_at_call 40; refine HI.out.mono ?_; rintro x w1 ⟨rfl, rfl⟩)
  refine bodyPost_ret (results_none rfl _ _ _) rfl ?_
  exact ⟨rfl, rfl⟩
set_option maxRecDepth 100000 in
theorem sfn_any (fv : Value) (w : World) : Calls Try.prog 28 #[.slice none 0 0, fv] w fun x w' => x = .returned (.tuple #[]) ∧ w = w' := by
  have HP := Lib.hid (fun k => pdqn_any k fv w)
  have HB : Hid (Calls Try.prog 34 #[.int .u64 0] w fun x w' => x = .returned (.int .i64 (Lib.bitLen 0 : Nat)) ∧ w = w') := Lib.hid (bitslen_any 0 (by omega) w)
  generalize Lib.bitLen 0 = k0 at HB
  go_enter Try.func28, Try.ntmps28
  go_wp2_with (first
    | (go_at_call 34; (with_reducible refine HB.out.mono ?_); rintro x w1 ⟨rfl, rfl⟩)
    | (go_at_call 33; (with_reducible refine (HP.out _).mono ?_); rintro x w2 ⟨rfl, rfl⟩))
  go_end0
  exact ⟨rfl, rfl⟩
set_option maxRecDepth 100000 in
theorem sf_any (E : SE) (ok : E.Ok) (d : Array (List UInt8)) (w : World) (S : St E w d) (hsb : E.n ≤ SB) :
    Calls Try.prog 28 #[.slice (some ⟨E.g, 0, none⟩) E.n E.cap, .func (.func 29) #[.pointer (some ⟨E.b, 0, none⟩)] #[]] w fun x w' => x = .returned (.tuple #[]) ∧ ∃ d', St E w' d' ∧ Sort.PermIn 0 E.n d d' ∧ Sort.SortedIn E.lt 0 E.n d' := by
  have h12 : E.n ≤ 49 := hsb
  have HP := Lib.hid (pdqs_any E ok d w S (by omega) (Lib.bitLen E.n) (bitLen_small _ (by omega)))
  have HB := Lib.hid (bitslen_any E.n (by omega) w)
  have hcv : IntKind.u64.wrap (E.n : Int) = (E.n : Int) := by rw [IntKind.wrap_u64]; omega
  clear ok S hsb
  go_enter Try.func28, Try.ntmps28
  go_wp2_with (first
    | (go_at_call 34; (with_reducible refine HB.out.mono ?_); rintro x w1 ⟨rfl, rfl⟩)
    | (go_at_call 33; (with_reducible refine HP.out.mono ?_); rintro x w2 ⟨rfl, h2⟩; have H2 := Lib.hid h2; clear h2))
  go_end0
  exact ⟨rfl, H2.out⟩
end Go.Proofs.Ytiegeejbnplhdaa
