/-
  Texts joined: PureSum, Sum.
-/
import Derived.Test.YtgpccgcppbdlpaaGreatMg00
import Derived.Test.YtgpccgcppbdlpaaGreatMg07
import Derived.Test.YtgpccgcppbdlpaaGreatMg01
import Derived.Lib.SmallJoins
/-
  Plain lemmas on Internet checksums; nothing of the program.
-/
namespace Go.Proofs.YtgpccgcppbdlpaaGreat
open Go.RowKit
set_option linter.unusedVariables false

/-- A number's words added up, carries and all. -/
def foldN (n : Nat) : Nat := if n = 0 then 0 else (n - 1) % 65535 + 1
theorem foldN_pos {n : Nat} (h : 0 < n) : foldN n = (n - 1) % 65535 + 1 := by unfold foldN; rw [if_neg (by omega)]
theorem foldN_le (n : Nat) : foldN n ≤ 65535 := by unfold foldN; split <;> omega
theorem foldN_small {n : Nat} (h : n ≤ 65535) : foldN n = n := by unfold foldN; split <;> omega
theorem foldN_more (y k : Nat) (h : 0 < y) : foldN (y + 65535 * k) = foldN y := by
  rw [foldN_pos (by omega), foldN_pos h]; omega
/-- The four words of a number. -/
def words4 (n : Nat) : Nat := n % 65536 + n / 65536 % 65536 + n / 4294967296 % 65536 + n / 281474976710656 % 65536
theorem words4_spec (n : Nat) (h : n < 18446744073709551616) : ∃ k, n = words4 n + 65535 * k ∧ (0 < n → 0 < words4 n) ∧ (65535 < n → 0 < k) := by
  unfold words4
  have e1 : n / 4294967296 = n / 65536 / 65536 := by omega
  have e2 : n / 281474976710656 = n / 65536 / 65536 / 65536 := by omega
  rw [e1, e2]
  clear e1 e2
  generalize ha : n / 65536 = a
  generalize hb : a / 65536 = b
  generalize hc : b / 65536 = c
  have hc2 : c < 65536 := by omega
  rw [Nat.mod_eq_of_lt hc2]
  have ha2 := Nat.div_add_mod n 65536
  have hb2 := Nat.div_add_mod a 65536
  have hc3 := Nat.div_add_mod b 65536
  rw [ha] at ha2
  rw [hb] at hb2
  rw [hc] at hc3
  have hr := Nat.mod_lt n (show 65536 > 0 by omega)
  clear ha hb hc
  generalize n % 65536 = r0 at *
  generalize a % 65536 = r1 at *
  generalize b % 65536 = r2 at *
  refine ⟨a + b + c, by omega, fun hp => ?_, by omega⟩
  omega
theorem words4_lt (n : Nat) (h : n < 18446744073709551616) (h2 : 65535 < n) : words4 n < n := by
  obtain ⟨k, h1, _, h3⟩ := words4_spec n h
  have := h3 h2
  omega
theorem foldN_words4 (n : Nat) (h : n < 18446744073709551616) : foldN (words4 n) = foldN n := by
  obtain ⟨k, h1, h2, _⟩ := words4_spec n h
  rcases Nat.eq_zero_or_pos n with rfl | hp
  · rfl
  · conv => rhs; rw [h1]
    rw [foldN_more _ _ (h2 hp)]
/-- The first words of a number. -/
def wpart (n : Nat) : Nat → Nat
  | 0 => 0
  | k + 1 => wpart n k + n / 2 ^ (16 * k) % 65536
theorem wpart_four (n : Nat) : wpart n 4 = words4 n := by
  simp [wpart, words4]
theorem wpart_le (n k : Nat) : wpart n k ≤ 65535 * k := by
  induction k with
  | zero => simp [wpart]
  | succ k ih => simp only [wpart]; have := Nat.mod_lt (n / 2 ^ (16 * k)) (show 65536 > 0 by omega); omega

/-- What is summed so far, and how far the next byte is shifted. -/
def wstep (p : Nat × Nat) (b : UInt8) : Nat × Nat := (p.1 + b.toNat * 2 ^ p.2, 8 - p.2)
def wst (l : List UInt8) : Nat × Nat := l.foldl wstep (0, 8)
/-- The words of a text added up. -/
def wsum (l : List UInt8) : Nat := (wst l).1
theorem wst_snoc (l : List UInt8) (b : UInt8) : wst (l ++ [b]) = wstep (wst l) b := by simp [wst, List.foldl_append]
theorem wst_from (l : List UInt8) : ∀ a s, l.foldl wstep (a, s) = (a + (l.foldl wstep (0, s)).1, (l.foldl wstep (0, s)).2) := by
  induction l with
  | nil => intro a s; rfl
  | cons b l ih =>
    intro a s
    rw [List.foldl_cons, List.foldl_cons]
    simp only [wstep]
    rw [ih (a + _) _, ih (0 + _) _]
    simp only [Nat.zero_add, Nat.add_assoc]
theorem wst_two (l : List UInt8) : (wst l).2 = if l.length % 2 = 0 then 8 else 0 := by
  suffices h : ∀ (l : List UInt8) a s, (s = 8 ∨ s = 0) → (l.foldl wstep (a, s)).2 = if l.length % 2 = 0 then s else 8 - s from h l 0 8 (.inl rfl)
  intro l
  induction l with
  | nil => intro a s _; rfl
  | cons b l ih =>
    intro a s hs
    rw [List.foldl_cons]
    simp only [wstep]
    rw [ih _ _ (by omega), List.length_cons]
    rcases hs with rfl | rfl <;> split <;> split <;> omega
theorem wst_even (l : List UInt8) (h : l.length % 2 = 0) : wst l = (wsum l, 8) := by
  have := wst_two l
  rw [if_pos h] at this
  unfold wsum
  rw [← this]
theorem wst_append (l m : List UInt8) (h : l.length % 2 = 0) : wst (l ++ m) = (wsum l + wsum m, (wst m).2) := by
  unfold wsum
  rw [wst, List.foldl_append, show l.foldl wstep (0, 8) = ((wst l).1, 8) by have := wst_even l h; rw [wst] at this; rw [this]; rfl, wst_from]
  rfl
theorem wsum_append (l m : List UInt8) (h : l.length % 2 = 0) : wsum (l ++ m) = wsum l + wsum m := by
  conv => lhs; unfold wsum
  rw [wst_append l m h]
theorem wst_le (l : List UInt8) : (wst l).1 ≤ 65280 * l.length ∧ ((wst l).2 = 8 ∨ (wst l).2 = 0) := by
  suffices h : ∀ (l : List UInt8) a s, (s = 8 ∨ s = 0) → (l.foldl wstep (a, s)).1 ≤ a + 65280 * l.length ∧ ((l.foldl wstep (a, s)).2 = 8 ∨ (l.foldl wstep (a, s)).2 = 0) by
    have := h l 0 8 (.inl rfl); unfold wst; omega
  intro l
  induction l with
  | nil => intro a s hs; exact ⟨by simp, hs⟩
  | cons b l ih =>
    intro a s hs
    have hb := b.toNat_lt
    rw [List.foldl_cons]
    simp only [wstep]
    obtain ⟨i1, i2⟩ := ih (a + b.toNat * 2 ^ s) (8 - s) (by omega)
    refine ⟨Nat.le_trans i1 ?_, i2⟩
    rw [List.length_cons]
    rcases hs with rfl | rfl
    · rw [show (2 : Nat) ^ 8 = 256 from rfl]; omega
    · rw [show (2 : Nat) ^ 0 = 1 from rfl]; omega
theorem wsum_le (l : List UInt8) : wsum l ≤ 65280 * l.length := (wst_le l).1
theorem wsum_two (a b : UInt8) : wsum [a, b] = 256 * a.toNat + b.toNat := by
  simp [wsum, wst, wstep]; omega
theorem wsum_two_snoc (l : List UInt8) (a b : UInt8) (h : l.length % 2 = 0) : wsum (l ++ [a, b]) = wsum l + (256 * a.toNat + b.toNat) := by
  rw [wsum_append l _ h, wsum_two]
theorem wsum_pad (l : List UInt8) : wsum (l ++ [0]) = wsum l := by
  unfold wsum; rw [wst_snoc]; simp [wstep]
end Go.Proofs.YtgpccgcppbdlpaaGreat

/-
  The contracts of package sum: Fold, Sum, Check, Good, Update.
-/
namespace Go.Proofs.YtgpccgcppbdlpaaGreat
open Go.RowKit
set_option linter.unusedVariables false

theorem bitsN_word (n k : Nat) (hk : k ≤ 3) : bitsN n (16 * (k : Int)) 16 = n / 2 ^ (16 * k) % 65536 := by
  unfold bitsN
  have e1 : clampN (16 * (k : Int)) 64 = 16 * k := by unfold clampN; split <;> omega
  rw [e1, show clampN 16 64 = 16 from rfl]

set_option maxHeartbeats 400000 in
theorem fold_any (n : Nat) (hn : n ≤ 18446744073709551615) (w : World) : Calls Tryz.prog 98 #[.int .u64 n] w fun e w' => e = .returned (.int .i64 (foldN n)) ∧ ∃ k, w' = w.drewN k := by
  generalize hR : foldN n = R
  have HR := Lib.hid hR; clear hR
  go_enter Tryz.func98, Tryz.ntmps98
  go_wp2_with fail
  go_loopw [0] (fun v wr => ∃ m : Nat, m ≤ 18446744073709551615 ∧ foldN m = R ∧ v = .int .u64 m ∧ ∃ d, wr = w.drewN d) (fun v _ => (intOf v).toNat)
  case atStart => exact ⟨n, hn, HR.out, rfl, 0, rfl⟩
  case round =>
    obtain ⟨m, hm, hf, rfl, d, rfl⟩ := hrel
    have Hf := Lib.hid hf; clear hf
    by_cases hlt : 65535 < m
    · have hd : decide ((65535 : Int) < (m : Int)) = true := by simp; omega
      go_wp2_with fail
      go_loopw [3, 7] (fun t i wr => ∃ k : Nat, k ≤ 4 ∧ i = .int .i64 k ∧ t = .int .u64 (wpart m k) ∧ ∃ d, wr = w.drewN d) (fun _ i _ => 4 - (intOf i).toNat)
      case atStart => exact ⟨0, by omega, rfl, rfl, d, rfl⟩
      case round =>
        obtain ⟨k, hk, rfl, rfl, d2, rfl⟩ := hrel
        have hp := wpart_le m k
        by_cases h4 : k < 4
        · have Hs := Lib.hid (show wpart m (k + 1) = wpart m k + m / 2 ^ (16 * k) % 65536 from rfl)
          have Hb := Lib.hid (bitsN_word m k (by omega))
          have hq := Nat.mod_lt (m / 2 ^ (16 * k)) (show 65536 > 0 by omega)
          generalize hx : wpart m k = x at hp Hs ⊢
          generalize hy : m / 2 ^ (16 * k) % 65536 = y at hq Hs Hb
          have Hx := Lib.hid hx; clear hx
          have Hy := Lib.hid hy; clear hy
          go_wp2_with fail
          refine (bits_any m hm _ _ _).mono ?_
          rintro e w1 ⟨rfl, d3, rfl⟩
          rw [Hb.out]
          go_wp2_with fail
          go_roundw
          case rel => exact ⟨k + 1, by omega, by go_num, by rw [Hs.out]; go_num, _, rfl⟩
          case measure => simp [intOf]; omega
        · have hk4 : k = 4 := by omega
          subst hk4
          have Hw := Lib.hid (wpart_four m)
          have H1 := Lib.hid (words4_lt m (by omega) hlt)
          have H2 := Lib.hid (foldN_words4 m (by omega))
          go_wp2_with fail
          go_roundw
          case rel => exact ⟨words4 m, by have := H1.out; omega, by rw [H2.out]; exact Hf.out, by rw [Hw.out], _, rfl⟩
          case measure => have := H1.out; have := Hw.out; simp [intOf]; omega
    · have hle : m ≤ 65535 := by omega
      have Hfs := Lib.hid (foldN_small hle)
      go_wp2
      go_ret
      exact ⟨ret_int (by rw [← Hf.out, Hfs.out]), _, rfl⟩

/-- Texts as the cells of a slice of texts. -/
def BS (L : List (List UInt8)) : List Value := L.map (fun l => Value.string (Str l))
theorem BS_get (L : List (List UInt8)) (j : Nat) (h : j < L.length) : (BS L)[j]? = some (.string (Str L[j])) := by
  simp [BS, List.getElem?_eq_getElem h]
theorem flat_snoc (L : List (List UInt8)) (j : Nat) (h : j < L.length) : (L.take (j + 1)).flatten = (L.take j).flatten ++ L[j] := by
  rw [List.take_succ_eq_append_getElem h, List.flatten_append]; simp
theorem flat_len (L : List (List UInt8)) (j : Nat) : (L.take j).flatten.length ≤ L.flatten.length := by
  conv => rhs; rw [← List.take_append_drop j L, List.flatten_append, List.length_append]
  omega
theorem Str_get (l : List UInt8) (k : Nat) (h : k < (Str l).size) : (Str l)[k] = l[k]'(by rw [Str_size] at h; exact h) := rfl

theorem add_shl8 (t b : Nat) (ht : t ≤ 1152921504606846976) (hb : b < 256) : IntKind.u64.wrap ((t : Int) + IntKind.u64.wrap (IntKind.u64.wrap (b : Int) * 256)) = ((t + b * 2 ^ 8 : Nat) : Int) := by
  simp only [IntKind.wrap_u64]; omega
theorem add_shl0 (t b : Nat) (ht : t ≤ 1152921504606846976) (hb : b < 256) : IntKind.u64.wrap ((t : Int) + IntKind.u64.wrap (IntKind.u64.wrap (b : Int))) = ((t + b * 2 ^ 0 : Nat) : Int) := by
  simp only [IntKind.wrap_u64]; omega

set_option maxHeartbeats 400000 in
theorem sum_some (L : List (List UInt8)) (hL : L.flatten.length ≤ 1048576) (hLL : L.length ≤ 1048576) (g cap : Nat) (w : World) (hc : ∀ j (h : j < L.length), w.cell? ⟨g, j, none⟩ = some (.string (Str L[j]))) :
    Calls Tryz.prog 67 #[.slice (some ⟨g, 0, none⟩) L.length cap] w fun e w' => e = .returned (.int .i64 (foldN (wsum L.flatten))) ∧ ∃ k, w' = w.drewN k := by
  have Hc := Lib.hid hc; clear hc
  go_enter Tryz.func67, Tryz.ntmps67
  go_wp2_with fail
  go_loop [3, 4, 10] (fun t s i => ∃ j : Nat, j ≤ L.length ∧ i = .int .i64 j ∧ t = .int .u64 ((wst (L.take j).flatten).1 : Nat) ∧ s = .int .u64 ((wst (L.take j).flatten).2 : Nat)) (fun _ _ i => L.length - (intOf i).toNat)
  case atStart => exact ⟨0, by omega, rfl, rfl, rfl⟩
  case round =>
    obtain ⟨j, hj, rfl, rfl, rfl⟩ := hrel
    by_cases hlt : j < L.length
    · have hd : decide ((j : Int) < (L.length : Int)) = true := by simp; omega
      have hcell := Hc.out j hlt
      have Hs := Lib.hid (flat_snoc L j hlt)
      have hfl := flat_len L (j + 1)
      rw [Hs.out, List.length_append] at hfl
      generalize hl : L[j] = l at hcell Hs hfl
      have Hl := Lib.hid hl; clear hl
      have hsz : (Str l).size = l.length := Str_size l
      generalize hf : (L.take j).flatten = f at Hs hfl ⊢
      have Hf := Lib.hid hf; clear hf
      go_wp2_with fail
      go_loop [3, 4, 16] (fun t s i => ∃ k : Nat, k ≤ l.length ∧ i = .int .i64 k ∧ t = .int .u64 ((wst (f ++ l.take k)).1 : Nat) ∧ s = .int .u64 ((wst (f ++ l.take k)).2 : Nat)) (fun _ _ i => l.length - (intOf i).toNat)
      case atStart => exact ⟨0, by omega, rfl, by simp, by simp⟩
      case round =>
        obtain ⟨k, hk, rfl, rfl, rfl⟩ := hrel
        by_cases hlt2 : k < l.length
        · have hle := wst_le (f ++ l.take k)
          rw [List.length_append, List.length_take] at hle
          have Hn := Lib.hid (show wst (f ++ l.take (k + 1)) = wstep (wst (f ++ l.take k)) l[k] by
            rw [List.take_succ_eq_append_getElem hlt2, ← List.append_assoc, wst_snoc])
          generalize hp : wst (f ++ l.take k) = p at hle Hn ⊢
          have Hp := Lib.hid hp; clear hp
          obtain ⟨h1, h2⟩ := hle
          have hb := l[k].toNat_lt
          have Hget := Lib.hid (Str_get l k (by rw [hsz]; exact hlt2))
          obtain ⟨t, sh⟩ := p
          simp only at h1 h2 ⊢
          have hk' : (k : Nat) < (Str l).size := by rw [hsz]; exact hlt2
          rcases h2 with rfl | rfl
          · go_wp2_with fail
            go_round
            case rel => exact ⟨k + 1, by omega, by go_num, by rw [Hn.out]; simp only [wstep]; rw [Hget.out, add_shl8 _ _ (by omega) hb], by rw [Hn.out]; rfl⟩
            case measure => simp [intOf]; omega
          · go_wp2_with fail
            go_round
            case rel => exact ⟨k + 1, by omega, by go_num, by rw [Hn.out]; simp only [wstep]; rw [Hget.out, add_shl0 _ _ (by omega) hb], by rw [Hn.out]; rfl⟩
            case measure => simp [intOf]; omega
        · have hkl : k = l.length := by omega
          subst hkl
          have Ht := Lib.hid (List.take_length (l := l))
          go_wp2_with fail
          go_round
          case rel => exact ⟨j + 1, by omega, by go_num, by rw [Hs.out, Ht.out], by rw [Hs.out, Ht.out]⟩
          case measure => simp [intOf]; omega
    · have hjl : j = L.length := by omega
      subst hjl
      have Ht := Lib.hid (List.take_length (l := L))
      have hle := (wst_le L.flatten).1
      have hle2 : (wst (L.take L.length).flatten).1 ≤ 18446744073709551615 := by rw [Ht.out]; omega
      have Hr := Lib.hid (show foldN (wst (L.take L.length).flatten).1 = foldN (wsum L.flatten) by rw [Ht.out]; rfl)
      generalize (wst (L.take L.length).flatten).1 = x at hle2 Hr ⊢
      generalize (wst (L.take L.length).flatten).2 = y
      go_wp2_with fail
      refine (fold_any _ hle2 _).mono ?_
      rintro e w1 ⟨rfl, d3, rfl⟩
      rw [Hr.out]
      go_wp2
      go_ret
      exact ⟨rfl, _, rfl⟩

theorem sum_own (L : List (List UInt8)) (hL : L.flatten.length ≤ 1048576) (hLL : L.length ≤ 1048576) (base : Nat) (v : Value) (w : World) (hown : w.ownsRow base 9 1 v L.length (BS L)) :
    Calls Tryz.prog 67 #[v] w fun e w' => e = .returned (.int .i64 (foldN (wsum L.flatten))) ∧ ∃ k, w' = w.drewN k := by
  rcases Go.Joins.ownsRow_forms hown with ⟨rfl, h0⟩ | ⟨g, cap, rfl⟩
  · have hL0 : L = [] := List.eq_nil_of_length_eq_zero h0
    subst hL0
    clear hown hL hLL h0
    go_enter Tryz.func67, Tryz.ntmps67
    go_wp2_with fail
    refine wp_loop_rounds 1 ?_
    rw [rounds_succ]
    go_wp2_with fail
    refine (fold_any 0 (by omega) _).mono ?_
    rintro e w1 ⟨rfl, d3, rfl⟩
    go_wp2
    go_ret
    exact ⟨rfl, _, rfl⟩
  · exact sum_some L hL hLL g cap w (fun j h => by rw [hown.cellAt j (by omega), BS_get L j h])

theorem check_own (L : List (List UInt8)) (hL : L.flatten.length ≤ 1048576) (hLL : L.length ≤ 1048576) (base : Nat) (v : Value) (w : World) (hown : w.ownsRow base 9 1 v L.length (BS L)) :
    Calls Tryz.prog 23 #[v] w fun e w' => e = .returned (.int .i64 ((65535 - foldN (wsum L.flatten) : Nat) : Int)) ∧ ∃ k, w' = w.drewN k := by
  have hf := foldN_le (wsum L.flatten)
  generalize hx : foldN (wsum L.flatten) = x at hf ⊢
  have Hx := Lib.hid hx; clear hx
  have Hown := Lib.hid hown; clear hown
  go_enter Tryz.func23, Tryz.ntmps23
  go_wp2_with fail
  refine (sum_own L hL hLL base v _ Hown.out).mono ?_
  rintro e w1 ⟨rfl, d3, rfl⟩
  rw [Hx.out]
  go_wp2
  go_ret
  exact ⟨ret_int (by omega), _, rfl⟩

theorem good_own (L : List (List UInt8)) (hL : L.flatten.length ≤ 1048576) (hLL : L.length ≤ 1048576) (base : Nat) (v : Value) (w : World) (hown : w.ownsRow base 9 1 v L.length (BS L)) :
    Calls Tryz.prog 43 #[v] w fun e w' => e = .returned (.bool (decide (foldN (wsum L.flatten) = 65535))) ∧ ∃ k, w' = w.drewN k := by
  have hf := foldN_le (wsum L.flatten)
  generalize hx : foldN (wsum L.flatten) = x at hf ⊢
  have Hx := Lib.hid hx; clear hx
  have Hown := Lib.hid hown; clear hown
  go_enter Tryz.func43, Tryz.ntmps43
  go_wp2_with fail
  refine (sum_own L hL hLL base v _ Hown.out).mono ?_
  rintro e w1 ⟨rfl, d3, rfl⟩
  rw [Hx.out]
  go_wp2
  go_ret
  exact ⟨congrArg (fun b => Ending.returned (.bool b)) (show ((x : Int) == 65535) = decide (x = 65535) by rw [Bool.eq_iff_iff]; simp; omega), _, rfl⟩

end Go.Proofs.YtgpccgcppbdlpaaGreat

