/-
  The contracts of package sum: Fold, Sum, Check, Good, Update.
-/
import Derived.Test.YtbmacnbegbcgpaaOct
import Derived.Test.YtbmacnbegbcgpaaOctBits
import Derived.Test.YtbmacnbegbcgpaaPureSum
import Derived.Test.YtbmacnbegbcgpaaPureHex
import Derived.Lib.SmallJoins
namespace Go.Proofs.Ytbmacnbegbcgpaa
open Go.RowKit
set_option linter.unusedVariables false

theorem bitsN_word (n k : Nat) (hk : k ≤ 3) : bitsN n (16 * (k : Int)) 16 = n / 2 ^ (16 * k) % 65536 := by
  unfold bitsN
  have e1 : clampN (16 * (k : Int)) 64 = 16 * k := by unfold clampN; split <;> omega
  rw [e1, show clampN 16 64 = 16 from rfl]

set_option maxHeartbeats 400000 in
theorem fold_any (n : Nat) (hn : n ≤ 18446744073709551615) (w : World) : Calls Try.prog 43 #[.int .u64 n] w fun e w' => e = .returned (.int .i64 (foldN n)) ∧ ∃ k, w' = w.drewN k := by
  generalize hR : foldN n = R
  have HR := Lib.hid hR; clear hR
  go_enter Try.func43, Try.ntmps43
  go_wp2_with fail
  go_loopw [0] (fun v wr => ∃ m : Nat, m ≤ 18446744073709551615 ∧ foldN m = R ∧ v = .int .u64 m ∧ ∃ d, wr = w.drewN d) (fun v _ => (intOf v).toNat)
  case atStart => exact ⟨n, hn, HR.out, rfl, 0, rfl⟩
  case round =>
    obtain ⟨m, hm, hf, rfl, d, rfl⟩ := hrel
    have Hf := Lib.hid hf; clear hf
    by_cases hlt : 65535 < m
    · have hd : decide ((65535 : Int) < (m : Int)) = true := by simp; omega
      go_wp2_with fail
      go_loopw [3, 7] (fun t i wr => ∃ k : Nat, k ≤ 4 ∧ i = .int .i64 k ∧ t = .int .u64 (wpart m k) ∧ ∃ d, wr = w.drewN d) (fun _ i _ => 4 - (intOf i).toNat)
      case atStart => exact ⟨0, by omega, rfl, rfl, d, rfl⟩
      case round =>
        obtain ⟨k, hk, rfl, rfl, d2, rfl⟩ := hrel
        have hp := wpart_le m k
        by_cases h4 : k < 4
        · have Hs := Lib.hid (show wpart m (k + 1) = wpart m k + m / 2 ^ (16 * k) % 65536 from rfl)
          have Hb := Lib.hid (bitsN_word m k (by omega))
          have hq := Nat.mod_lt (m / 2 ^ (16 * k)) (show 65536 > 0 by omega)
          generalize hx : wpart m k = x at hp Hs ⊢
          generalize hy : m / 2 ^ (16 * k) % 65536 = y at hq Hs Hb
          have Hx := Lib.hid hx; clear hx
          have Hy := Lib.hid hy; clear hy
          go_wp2_with fail
          refine (bits_any m hm _ _ _).mono ?_
          rintro e w1 ⟨rfl, d3, rfl⟩
          rw [Hb.out]
          go_wp2_with fail
          go_roundw
          case rel => exact ⟨k + 1, by omega, by go_num, by rw [Hs.out]; go_num, _, rfl⟩
          case measure => simp [intOf]; omega
        · have hk4 : k = 4 := by omega
          subst hk4
          have Hw := Lib.hid (wpart_four m)
          have H1 := Lib.hid (words4_lt m (by omega) hlt)
          have H2 := Lib.hid (foldN_words4 m (by omega))
          go_wp2_with fail
          go_roundw
          case rel => exact ⟨words4 m, by have := H1.out; omega, by rw [H2.out]; exact Hf.out, by rw [Hw.out], _, rfl⟩
          case measure => have := H1.out; have := Hw.out; simp [intOf]; omega
    · have hle : m ≤ 65535 := by omega
      have Hfs := Lib.hid (foldN_small hle)
      go_wp2
      go_ret
      exact ⟨ret_int (by rw [← Hf.out, Hfs.out]), _, rfl⟩

/-- Texts as the cells of a slice of texts. -/
def BS (L : List (List UInt8)) : List Value := L.map (fun l => Value.string (Str l))
theorem BS_length (L : List (List UInt8)) : (BS L).length = L.length := by simp [BS]
theorem BS_get (L : List (List UInt8)) (j : Nat) (h : j < L.length) : (BS L)[j]? = some (.string (Str L[j])) := by
  simp [BS, List.getElem?_eq_getElem h]
theorem BS_append (L M : List (List UInt8)) : BS (L ++ M) = BS L ++ BS M := by simp [BS]
theorem flat_snoc (L : List (List UInt8)) (j : Nat) (h : j < L.length) : (L.take (j + 1)).flatten = (L.take j).flatten ++ L[j] := by
  rw [List.take_succ_eq_append_getElem h, List.flatten_append]; simp
theorem flat_len (L : List (List UInt8)) (j : Nat) : (L.take j).flatten.length ≤ L.flatten.length := by
  conv => rhs; rw [← List.take_append_drop j L, List.flatten_append, List.length_append]
  omega
theorem Str_get (l : List UInt8) (k : Nat) (h : k < (Str l).size) : (Str l)[k] = l[k]'(by rw [Str_size] at h; exact h) := rfl

theorem add_shl8 (t b : Nat) (ht : t ≤ 1152921504606846976) (hb : b < 256) : IntKind.u64.wrap ((t : Int) + IntKind.u64.wrap (IntKind.u64.wrap (b : Int) * 256)) = ((t + b * 2 ^ 8 : Nat) : Int) := by
  simp only [IntKind.wrap_u64]; omega
theorem add_shl0 (t b : Nat) (ht : t ≤ 1152921504606846976) (hb : b < 256) : IntKind.u64.wrap ((t : Int) + IntKind.u64.wrap (IntKind.u64.wrap (b : Int))) = ((t + b * 2 ^ 0 : Nat) : Int) := by
  simp only [IntKind.wrap_u64]; omega

set_option maxHeartbeats 400000 in
theorem sum_some (L : List (List UInt8)) (hL : L.flatten.length ≤ 1048576) (hLL : L.length ≤ 1048576) (g cap : Nat) (w : World) (hc : ∀ j (h : j < L.length), w.cell? ⟨g, j, none⟩ = some (.string (Str L[j]))) :
    Calls Try.prog 37 #[.slice (some ⟨g, 0, none⟩) L.length cap] w fun e w' => e = .returned (.int .i64 (foldN (wsum L.flatten))) ∧ ∃ k, w' = w.drewN k := by
  have Hc := Lib.hid hc; clear hc
  go_enter Try.func37, Try.ntmps37
  go_wp2_with fail
  go_loop [3, 4, 10] (fun t s i => ∃ j : Nat, j ≤ L.length ∧ i = .int .i64 j ∧ t = .int .u64 ((wst (L.take j).flatten).1 : Nat) ∧ s = .int .u64 ((wst (L.take j).flatten).2 : Nat)) (fun _ _ i => L.length - (intOf i).toNat)
  case atStart => exact ⟨0, by omega, rfl, rfl, rfl⟩
  case round =>
    obtain ⟨j, hj, rfl, rfl, rfl⟩ := hrel
    by_cases hlt : j < L.length
    · have hd : decide ((j : Int) < (L.length : Int)) = true := by simp; omega
      have hcell := Hc.out j hlt
      have Hs := Lib.hid (flat_snoc L j hlt)
      have hfl := flat_len L (j + 1)
      rw [Hs.out, List.length_append] at hfl
      generalize hl : L[j] = l at hcell Hs hfl
      have Hl := Lib.hid hl; clear hl
      have hsz : (Str l).size = l.length := Str_size l
      generalize hf : (L.take j).flatten = f at Hs hfl ⊢
      have Hf := Lib.hid hf; clear hf
      go_wp2_with fail
      go_loop [3, 4, 16] (fun t s i => ∃ k : Nat, k ≤ l.length ∧ i = .int .i64 k ∧ t = .int .u64 ((wst (f ++ l.take k)).1 : Nat) ∧ s = .int .u64 ((wst (f ++ l.take k)).2 : Nat)) (fun _ _ i => l.length - (intOf i).toNat)
      case atStart => exact ⟨0, by omega, rfl, by simp, by simp⟩
      case round =>
        obtain ⟨k, hk, rfl, rfl, rfl⟩ := hrel
        by_cases hlt2 : k < l.length
        · have hle := wst_le (f ++ l.take k)
          rw [List.length_append, List.length_take] at hle
          have Hn := Lib.hid (show wst (f ++ l.take (k + 1)) = wstep (wst (f ++ l.take k)) l[k] by
            rw [List.take_succ_eq_append_getElem hlt2, ← List.append_assoc, wst_snoc])
          generalize hp : wst (f ++ l.take k) = p at hle Hn ⊢
          have Hp := Lib.hid hp; clear hp
          obtain ⟨h1, h2⟩ := hle
          have hb := l[k].toNat_lt
          have Hget := Lib.hid (Str_get l k (by rw [hsz]; exact hlt2))
          obtain ⟨t, sh⟩ := p
          simp only at h1 h2 ⊢
          have hk' : (k : Nat) < (Str l).size := by rw [hsz]; exact hlt2
          rcases h2 with rfl | rfl
          · go_wp2_with fail
            go_round
            case rel => exact ⟨k + 1, by omega, by go_num, by rw [Hn.out]; simp only [wstep]; rw [Hget.out, add_shl8 _ _ (by omega) hb], by rw [Hn.out]; rfl⟩
            case measure => simp [intOf]; omega
          · go_wp2_with fail
            go_round
            case rel => exact ⟨k + 1, by omega, by go_num, by rw [Hn.out]; simp only [wstep]; rw [Hget.out, add_shl0 _ _ (by omega) hb], by rw [Hn.out]; rfl⟩
            case measure => simp [intOf]; omega
        · have hkl : k = l.length := by omega
          subst hkl
          have Ht := Lib.hid (List.take_length (l := l))
          go_wp2_with fail
          go_round
          case rel => exact ⟨j + 1, by omega, by go_num, by rw [Hs.out, Ht.out], by rw [Hs.out, Ht.out]⟩
          case measure => simp [intOf]; omega
    · have hjl : j = L.length := by omega
      subst hjl
      have Ht := Lib.hid (List.take_length (l := L))
      have hle := (wst_le L.flatten).1
      have hle2 : (wst (L.take L.length).flatten).1 ≤ 18446744073709551615 := by rw [Ht.out]; omega
      have Hr := Lib.hid (show foldN (wst (L.take L.length).flatten).1 = foldN (wsum L.flatten) by rw [Ht.out]; rfl)
      generalize (wst (L.take L.length).flatten).1 = x at hle2 Hr ⊢
      generalize (wst (L.take L.length).flatten).2 = y
      go_wp2_with fail
      refine (fold_any _ hle2 _).mono ?_
      rintro e w1 ⟨rfl, d3, rfl⟩
      rw [Hr.out]
      go_wp2
      go_ret
      exact ⟨rfl, _, rfl⟩

theorem sum_own (L : List (List UInt8)) (hL : L.flatten.length ≤ 1048576) (hLL : L.length ≤ 1048576) (base : Nat) (v : Value) (w : World) (hown : w.ownsRow base 9 1 v L.length (BS L)) :
    Calls Try.prog 37 #[v] w fun e w' => e = .returned (.int .i64 (foldN (wsum L.flatten))) ∧ ∃ k, w' = w.drewN k := by
  rcases Go.Joins.ownsRow_forms hown with ⟨rfl, h0⟩ | ⟨g, cap, rfl⟩
  · have hL0 : L = [] := List.eq_nil_of_length_eq_zero h0
    subst hL0
    clear hown hL hLL h0
    go_enter Try.func37, Try.ntmps37
    go_wp2_with fail
    refine wp_loop_rounds 1 ?_
    rw [rounds_succ]
    go_wp2_with fail
    refine (fold_any 0 (by omega) _).mono ?_
    rintro e w1 ⟨rfl, d3, rfl⟩
    go_wp2
    go_ret
    exact ⟨rfl, _, rfl⟩
  · exact sum_some L hL hLL g cap w (fun j h => by rw [hown.cellAt j (by omega), BS_get L j h])

theorem check_own (L : List (List UInt8)) (hL : L.flatten.length ≤ 1048576) (hLL : L.length ≤ 1048576) (base : Nat) (v : Value) (w : World) (hown : w.ownsRow base 9 1 v L.length (BS L)) :
    Calls Try.prog 21 #[v] w fun e w' => e = .returned (.int .i64 ((65535 - foldN (wsum L.flatten) : Nat) : Int)) ∧ ∃ k, w' = w.drewN k := by
  have hf := foldN_le (wsum L.flatten)
  generalize hx : foldN (wsum L.flatten) = x at hf ⊢
  have Hx := Lib.hid hx; clear hx
  have Hown := Lib.hid hown; clear hown
  go_enter Try.func21, Try.ntmps21
  go_wp2_with fail
  refine (sum_own L hL hLL base v _ Hown.out).mono ?_
  rintro e w1 ⟨rfl, d3, rfl⟩
  rw [Hx.out]
  go_wp2
  go_ret
  exact ⟨ret_int (by omega), _, rfl⟩

theorem good_own (L : List (List UInt8)) (hL : L.flatten.length ≤ 1048576) (hLL : L.length ≤ 1048576) (base : Nat) (v : Value) (w : World) (hown : w.ownsRow base 9 1 v L.length (BS L)) :
    Calls Try.prog 39 #[v] w fun e w' => e = .returned (.bool (decide (foldN (wsum L.flatten) = 65535))) ∧ ∃ k, w' = w.drewN k := by
  have hf := foldN_le (wsum L.flatten)
  generalize hx : foldN (wsum L.flatten) = x at hf ⊢
  have Hx := Lib.hid hx; clear hx
  have Hown := Lib.hid hown; clear hown
  go_enter Try.func39, Try.ntmps39
  go_wp2_with fail
  refine (sum_own L hL hLL base v _ Hown.out).mono ?_
  rintro e w1 ⟨rfl, d3, rfl⟩
  rw [Hx.out]
  go_wp2
  go_ret
  exact ⟨congrArg (fun b => Ending.returned (.bool b)) (show ((x : Int) == 65535) = decide (x = 65535) by rw [Bool.eq_iff_iff]; simp; omega), _, rfl⟩

theorem word_any (n : Int) (w : World) : Calls Try.prog 44 #[.int .i64 n] w fun e w' => e = .returned (.int .u64 ((n % 65536).toNat : Int)) ∧ w = w' := by
  go_enter Try.func44, Try.ntmps44
  go_wp2
  go_ret
  exact ⟨ret_int (by simp only [IntKind.wrap_u64, IntKind.wrap_u16]; omega), rfl⟩

/-- What Update tells. -/
def updN (c o n : Nat) : Nat := 65535 - foldN ((65535 - c) + (65535 - o) + n)
theorem update_any (a b c : Int) (w : World) : Calls Try.prog 35 #[.int .i64 a, .int .i64 b, .int .i64 c] w fun e w' => e = .returned (.int .i64 (updN (a % 65536).toNat (b % 65536).toNat (c % 65536).toNat : Nat)) ∧ ∃ k, w' = w.drewN k := by
  unfold updN
  have ha : (a % 65536).toNat ≤ 65535 := by omega
  have hb : (b % 65536).toNat ≤ 65535 := by omega
  have hc : (c % 65536).toNat ≤ 65535 := by omega
  generalize hA : (a % 65536).toNat = A at ha ⊢
  generalize hB : (b % 65536).toNat = B at hb ⊢
  generalize hC : (c % 65536).toNat = C at hc ⊢
  have HA := Lib.hid hA; clear hA
  have HB := Lib.hid hB; clear hB
  have HC := Lib.hid hC; clear hC
  have hf := foldN_le ((65535 - A) + (65535 - B) + C)
  generalize hx : foldN ((65535 - A) + (65535 - B) + C) = x at hf ⊢
  have Hx := Lib.hid hx; clear hx
  go_enter Try.func35, Try.ntmps35
  go_wp2_with fail
  refine (word_any a _).mono ?_
  rintro e w1 ⟨rfl, rfl⟩
  rw [HA.out]
  go_wp2_with fail
  refine (word_any b _).mono ?_
  rintro e w1 ⟨rfl, rfl⟩
  rw [HB.out]
  go_wp2_with fail
  refine (word_any c _).mono ?_
  rintro e w1 ⟨rfl, rfl⟩
  rw [HC.out]
  go_wp2_with fail
  have e1 : ((65535 : Int) - (A : Int) + (65535 - (B : Int)) + (C : Int)) = (((65535 - A) + (65535 - B) + C : Nat) : Int) := by omega
  rw [e1]
  clear e1
  refine (fold_any _ (by omega) _).mono ?_
  rintro e w1 ⟨rfl, d3, rfl⟩
  rw [Hx.out]
  go_wp2
  go_ret
  exact ⟨ret_int (by omega), _, rfl⟩
end Go.Proofs.Ytbmacnbegbcgpaa
