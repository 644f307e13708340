/-
  The contracts of the document's own answers of layer 2, and of the statements' helpers there.
-/
import Derived.Test.YtbmacnbegbcgpaaRefa
import Derived.Test.YtbmacnbegbcgpaaSum
import Derived.Test.YtbmacnbegbcgpaaOpen
namespace Go.Proofs.Ytbmacnbegbcgpaa
open Go.RowKit
set_option linter.unusedVariables false

def strsS : Shape (List (List UInt8)) := sliceS 1 strS
theorem opens_strsS : Opens Try.prog 60 strsS := opens_slice Try.underlying60 (by kernel_rfl) (by omega) (opens_str Try.underlying9)
theorem stable_strsS : Stable strsS := stable_slice stable_str

theorem rfold_any (n : Nat) (hn : n ≤ 18446744073709551615) (w : World) : Calls Try.prog 42 #[.int .u64 n] w fun e w' => e = .returned (.int .i64 (foldN n)) ∧ w = w' := by
  rcases Nat.eq_zero_or_pos n with rfl | hp
  · go_enter Try.func42, Try.ntmps42
    go_wp2
    go_ret
    exact ⟨rfl, rfl⟩
  · have h0 : ((n : Int) == 0) = false := by simp; omega
    have HF := Lib.hid (foldN_pos hp)
    go_enter Try.func42, Try.ntmps42
    go_wp2
    go_ret
    exact ⟨ret_int (by rw [HF.out]; omega), rfl⟩

/-- What Few leaves of texts. -/
def fewL (L : List (List UInt8)) (m : Nat) : List (List UInt8) := (L.take m).map (fun l => l.take 40)
theorem cutB_str (l : List UInt8) (m : Nat) : cutB (Str l) m = Str (l.take m) := by
  unfold cutB
  rw [Str_size]
  split
  · rw [List.take_of_length_le (by omega)]
  · apply ByteArray.ext; simp [Str]
theorem fewL_snoc (L : List (List UInt8)) (k : Nat) (h : k < L.length) : fewL L (k + 1) = fewL L k ++ [L[k].take 40] := by
  unfold fewL; rw [List.take_succ_eq_append_getElem h, List.map_append]; rfl
theorem fewL_length (L : List (List UInt8)) (k : Nat) : (fewL L k).length = min k L.length := by simp [fewL]
theorem fewL_flat (L : List (List UInt8)) (k : Nat) : (fewL L k).flatten.length ≤ 40 * k := by
  induction k with
  | zero => simp [fewL]
  | succ k ih =>
    by_cases h : k < L.length
    · rw [fewL_snoc L k h, List.flatten_append, List.length_append, List.flatten_singleton, List.length_take]
      omega
    · have e : fewL L (k + 1) = fewL L k := by unfold fewL; rw [List.take_of_length_le (by omega), List.take_of_length_le (by omega)]
      rw [e]; omega

theorem Try.info_str : (Try.prog.info? 9).map (fun i => (i.zero, i.size, i.bytes)) = some (some (.string ByteArray.empty), 1, 16) := by kernel_rfl

theorem run_cat' {P : Program} (x y : List UInt8) (h : x.length + y.length ≤ 9223372036854775807) (w : World) : (Op.stringOp .add (Str x) (Str y)).run P w = .ok (.string (Str (x ++ y))) w := run_cat x y h w
theorem even_round (l : List UInt8) (k : Nat) (hev : l.length % 2 = 0) (hlt : 2 * k < l.length) : wsum (l.take (2 * (k + 1))) = wsum (l.take (2 * k)) + num ((l.drop (2 * k)).take 2) := by
  have h1 : 2 * k + 1 < l.length := by omega
  have e1 : l.take (2 * (k + 1)) = l.take (2 * k) ++ [l[2 * k], l[2 * k + 1]] := by
    rw [show 2 * (k + 1) = 2 * k + 1 + 1 by omega, List.take_succ_eq_append_getElem h1, List.take_succ_eq_append_getElem hlt, List.append_assoc]; rfl
  have e2 : (l.drop (2 * k)).take 2 = [l[2 * k], l[2 * k + 1]] := by
    rw [List.drop_eq_getElem_cons hlt, List.drop_eq_getElem_cons h1]; rfl
  have b1 := l[2 * k].toNat_lt
  have b2 := l[2 * k + 1].toNat_lt
  rw [e1, e2, wsum_two_snoc _ _ _ (by rw [List.length_take]; omega)]
  simp [num]
  omega
theorem wsum_take_le (l : List UInt8) (m : Nat) : wsum (l.take m) ≤ 65280 * l.length := by
  have := wsum_le (l.take m)
  rw [List.length_take] at this
  omega

theorem bool_int_u64 (x : Nat) : IntKind.u64.wrap (x : Int) = ((x % 18446744073709551616 : Nat) : Int) := by
  simp only [IntKind.wrap_u64]; omega
theorem Str_extract2 (l : List UInt8) (a b : Nat) : (Str l).extract a b = Str ((l.drop a).take (b - a)) := by
  apply ByteArray.ext; simp [Str]

/-- The loop of the document's Sum, from its head on. -/
def padL (l : List UInt8) : List UInt8 := if l.length % 2 = 1 then l ++ [0] else l
theorem padL_even (l : List UInt8) : (padL l).length % 2 = 0 := by
  unfold padL; split
  · simp; omega
  · omega
theorem padL_len (l : List UInt8) : (padL l).length ≤ l.length + 1 := by
  unfold padL; split
  · simp
  · omega
theorem wsum_padL (l : List UInt8) : wsum (padL l) = wsum l := by
  unfold padL; split
  · exact wsum_pad l
  · rfl

set_option maxHeartbeats 1000000 in
theorem rsum_any (l0 : List UInt8) (hl0 : l0.length ≤ 1048576) (w : World) :
    Calls Try.prog 31 #[.string (Str l0)] w fun e w' => e = .returned (.int .i64 (foldN (wsum l0))) ∧ w = w' := by
  have hsz0 : (Str l0).size = l0.length := Str_size l0
  have Hw := Lib.hid (wsum_padL l0)
  have hev := padL_even l0
  have hlen := padL_len l0
  have hpad : ∃ o : Bool, (((l0.length : Int) % 2) == 1) = o ∧ (o = true → padL l0 = l0 ++ [0]) ∧ (o = false → padL l0 = l0) := by
    unfold padL
    by_cases h : l0.length % 2 = 1
    · exact ⟨true, by simp; omega, (fun _ => by rw [if_pos h]), fun h => by cases h⟩
    · exact ⟨false, by simp; omega, (fun h => by cases h), fun _ => by rw [if_neg h]⟩
  obtain ⟨o, ho, h1, h2⟩ := hpad
  generalize hl : padL l0 = l at hev hlen h1 h2 Hw
  have Hl := Lib.hid hl; clear hl
  have hsz : (Str l).size = l.length := Str_size l
  have hrun := run_cat' (P := Try.prog) l0 [0] (by simp; omega)
  rw [show Str [0] = (⟨#[0]⟩ : ByteArray) from rfl] at hrun
  have Hev := Lib.hid hev; clear hev
  have H2 := Lib.hid h2; clear h2
  have H1 := Lib.hid h1; clear h1
  cases o with
  | true =>
    rw [← H1.out rfl] at hrun
    go_enter Try.func31, Try.ntmps31
    go_wp2_with fail
    go_loop [3, 4] (fun n i => ∃ k : Nat, 2 * k ≤ l.length ∧ i = .int .i64 (2 * (k : Int)) ∧ n = .int .u64 (wsum (l.take (2 * k)))) (fun _ i => l.length - (intOf i).toNat)
    case atStart => exact ⟨0, by omega, rfl, rfl⟩
    case round =>
      obtain ⟨k, hk, rfl, rfl⟩ := hrel
      have hle := wsum_take_le l (2 * k)
      have hle2 := wsum_take_le l (2 * (k + 1))
      by_cases hlt : 2 * k < l.length
      · have hlt' : (2 : Int) * (k : Int) + 2 ≤ (l.length : Int) := by have := Hev.out; omega
        have Hr := Lib.hid (even_round l k Hev.out hlt)
        have Hx := Lib.hid (show ((Str l).extract (2 * k) (2 * k + 2)).data.toList = (l.drop (2 * k)).take 2 by rw [Str_extract2, show 2 * k + 2 - 2 * k = 2 by omega]; rfl)
        generalize hx : wsum (l.take (2 * k)) = x at hle Hr ⊢
        generalize hy : wsum (l.take (2 * (k + 1))) = y at hle2 Hr
        have Hxx := Lib.hid hx; clear hx
        have Hy := Lib.hid hy; clear hy
        generalize hz : num ((l.drop (2 * k)).take 2) = z at Hr
        have hzle : z ≤ y := by have := Hr.out; omega
        have Hz := Lib.hid hz; clear hz
        go_wp2_with fail
        refine (rnum_any _ (by unfold maxLen; simp; omega) _).mono ?_
        rintro e w1 ⟨rfl, rfl⟩
        rw [Hx.out, Hz.out]
        have hsum : x + z ≤ 18446744073709551615 := by have := Hr.out; omega
        go_wp2_with fail
        go_round
        case rel => exact ⟨k + 1, by omega, by go_num, by rw [Hy.out, Hr.out]; go_num⟩
        case measure => simp [intOf]; omega
      · have hkl : 2 * k = l.length := by omega
        have Hk := Lib.hid (show foldN (wsum (l.take (2 * k))) = foldN (wsum l0) by rw [hkl, List.take_length, Hw.out])
        generalize hx : wsum (l.take (2 * k)) = x at hle Hk ⊢
        have Hx := Lib.hid hx; clear hx hkl
        go_wp2_with fail
        refine (rfold_any x (by omega) _).mono ?_
        rintro e w1 ⟨rfl, rfl⟩
        rw [Hk.out]
        go_wp2_with fail
        go_ret
        exact ⟨rfl, rfl⟩
  | false =>
    obtain rfl : l = l0 := H2.out rfl
    go_enter Try.func31, Try.ntmps31
    go_wp2_with fail
    go_loop [3, 4] (fun n i => ∃ k : Nat, 2 * k ≤ l.length ∧ i = .int .i64 (2 * (k : Int)) ∧ n = .int .u64 (wsum (l.take (2 * k)))) (fun _ i => l.length - (intOf i).toNat)
    case atStart => exact ⟨0, by omega, rfl, rfl⟩
    case round =>
      obtain ⟨k, hk, rfl, rfl⟩ := hrel
      have hle := wsum_take_le l (2 * k)
      have hle2 := wsum_take_le l (2 * (k + 1))
      by_cases hlt : 2 * k < l.length
      · have hlt' : (2 : Int) * (k : Int) + 2 ≤ (l.length : Int) := by have := Hev.out; omega
        have Hr := Lib.hid (even_round l k Hev.out hlt)
        have Hx := Lib.hid (show ((Str l).extract (2 * k) (2 * k + 2)).data.toList = (l.drop (2 * k)).take 2 by rw [Str_extract2, show 2 * k + 2 - 2 * k = 2 by omega]; rfl)
        generalize hx : wsum (l.take (2 * k)) = x at hle Hr ⊢
        generalize hy : wsum (l.take (2 * (k + 1))) = y at hle2 Hr
        have Hxx := Lib.hid hx; clear hx
        have Hy := Lib.hid hy; clear hy
        generalize hz : num ((l.drop (2 * k)).take 2) = z at Hr
        have hzle : z ≤ y := by have := Hr.out; omega
        have Hz := Lib.hid hz; clear hz
        go_wp2_with fail
        refine (rnum_any _ (by unfold maxLen; simp; omega) _).mono ?_
        rintro e w1 ⟨rfl, rfl⟩
        rw [Hx.out, Hz.out]
        have hsum : x + z ≤ 18446744073709551615 := by have := Hr.out; omega
        go_wp2_with fail
        go_round
        case rel => exact ⟨k + 1, by omega, by go_num, by rw [Hy.out, Hr.out]; go_num⟩
        case measure => simp [intOf]; omega
      · have hkl : 2 * k = l.length := by omega
        have Hk := Lib.hid (show foldN (wsum (l.take (2 * k))) = foldN (wsum l) by rw [hkl, List.take_length])
        generalize hx : wsum (l.take (2 * k)) = x at hle Hk ⊢
        have Hx := Lib.hid hx; clear hx hkl
        go_wp2_with fail
        refine (rfold_any x (by omega) _).mono ?_
        rintro e w1 ⟨rfl, rfl⟩
        rw [Hk.out]
        go_wp2_with fail
        go_ret
        exact ⟨rfl, rfl⟩

/-- A literal slice, however often order was drawn since. -/
theorem own_lit (w : World) (cs : Array Value) (e : TypeId) (n g d : Nat) (hg : g = w.heap.size) (hm : n ≤ 1000000) (hs : cs.size = n) : ((w.alloc (.cells cs e)).drewN d).ownsRow 0 e 1 (.slice (some ⟨g, 0, none⟩) n n) n cs.toList := by
  subst hg
  exact World.ownsRow_lit w cs n (Nat.zero_le _) (by unfold maxLen; omega) (by omega)
theorem own_lit0 (w : World) (cs : Array Value) (e : TypeId) (n g : Nat) (hg : g = w.heap.size) (hm : n ≤ 1000000) (hs : cs.size = n) : (w.alloc (.cells cs e)).ownsRow 0 e 1 (.slice (some ⟨g, 0, none⟩) n n) n cs.toList := own_lit w cs e n g 0 hg hm hs

/-- Two bytes of a number. -/
theorem rput_two (n : Nat) (hn : n ≤ 18446744073709551615) (w : World) : Calls Try.prog 41 #[.int .u64 n, .int .i64 2] w fun e w' => e = .returned (.string (Str (putL n 2))) ∧ Below w.heap.size w w' := rput_any n hn 2 w
theorem rput_four (n : Nat) (hn : n ≤ 18446744073709551615) (w : World) : Calls Try.prog 41 #[.int .u64 n, .int .i64 4] w fun e w' => e = .returned (.string (Str (putL n 4))) ∧ Below w.heap.size w w' := rput_any n hn 4 w
theorem rput_one (n : Nat) (hn : n ≤ 18446744073709551615) (w : World) : Calls Try.prog 41 #[.int .u64 n, .int .i64 1] w fun e w' => e = .returned (.string (Str (putL n 1))) ∧ Below w.heap.size w w' := rput_any n hn 1 w
end Go.Proofs.Ytbmacnbegbcgpaa
