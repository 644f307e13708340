/-
  Texts joined: Sum, Refb.
-/
import Derived.Test.YtchbkamjmkfikaaMg05
import Derived.Test.YtchbkamjmkfikaaMg10
import Derived.Lib.SmallJoins
import Derived.Test.YtchbkamjmkfikaaMg07
import Derived.Test.YtchbkamjmkfikaaMg01
/-
  The contracts of package sum: Fold, Sum, Check, Good, Update.
-/
namespace Go.Proofs.Ytchbkamjmkfikaa
open Go.RowKit
set_option linter.unusedVariables false

theorem bitsN_word (n k : Nat) (hk : k ≤ 3) : bitsN n (16 * (k : Int)) 16 = n / 2 ^ (16 * k) % 65536 := by
  unfold bitsN
  have e1 : clampN (16 * (k : Int)) 64 = 16 * k := by unfold clampN; split <;> omega
  rw [e1, show clampN 16 64 = 16 from rfl]

set_option maxHeartbeats 400000 in
theorem fold_any (n : Nat) (hn : n ≤ 18446744073709551615) (w : World) : Calls Try.prog 81 #[.int .u64 n] w fun e w' => e = .returned (.int .i64 (foldN n)) ∧ ∃ k, w' = w.drewN k := by
  generalize hR : foldN n = R
  have HR := Lib.hid hR; clear hR
  go_enter Try.func81, Try.ntmps81
  go_wp2_with fail
  go_loopw [0] (fun v wr => ∃ m : Nat, m ≤ 18446744073709551615 ∧ foldN m = R ∧ v = .int .u64 m ∧ ∃ d, wr = w.drewN d) (fun v _ => (intOf v).toNat)
  case atStart => exact ⟨n, hn, HR.out, rfl, 0, rfl⟩
  case round =>
    obtain ⟨m, hm, hf, rfl, d, rfl⟩ := hrel
    have Hf := Lib.hid hf; clear hf
    by_cases hlt : 65535 < m
    · have hd : decide ((65535 : Int) < (m : Int)) = true := by simp; omega
      go_wp2_with fail
      go_loopw [3, 7] (fun t i wr => ∃ k : Nat, k ≤ 4 ∧ i = .int .i64 k ∧ t = .int .u64 (wpart m k) ∧ ∃ d, wr = w.drewN d) (fun _ i _ => 4 - (intOf i).toNat)
      case atStart => exact ⟨0, by omega, rfl, rfl, d, rfl⟩
      case round =>
        obtain ⟨k, hk, rfl, rfl, d2, rfl⟩ := hrel
        have hp := wpart_le m k
        by_cases h4 : k < 4
        · have Hs := Lib.hid (show wpart m (k + 1) = wpart m k + m / 2 ^ (16 * k) % 65536 from rfl)
          have Hb := Lib.hid (bitsN_word m k (by omega))
          have hq := Nat.mod_lt (m / 2 ^ (16 * k)) (show 65536 > 0 by omega)
          generalize hx : wpart m k = x at hp Hs ⊢
          generalize hy : m / 2 ^ (16 * k) % 65536 = y at hq Hs Hb
          have Hx := Lib.hid hx; clear hx
          have Hy := Lib.hid hy; clear hy
          go_wp2_with fail
          refine (bits_any m hm _ _ _).mono ?_
          rintro e w1 ⟨rfl, d3, rfl⟩
          rw [Hb.out]
          go_wp2_with fail
          go_roundw
          case rel => exact ⟨k + 1, by omega, by go_num, by rw [Hs.out]; go_num, _, rfl⟩
          case measure => simp [intOf]; omega
        · have hk4 : k = 4 := by omega
          subst hk4
          have Hw := Lib.hid (wpart_four m)
          have H1 := Lib.hid (words4_lt m (by omega) hlt)
          have H2 := Lib.hid (foldN_words4 m (by omega))
          go_wp2_with fail
          go_roundw
          case rel => exact ⟨words4 m, by have := H1.out; omega, by rw [H2.out]; exact Hf.out, by rw [Hw.out], _, rfl⟩
          case measure => have := H1.out; have := Hw.out; simp [intOf]; omega
    · have hle : m ≤ 65535 := by omega
      have Hfs := Lib.hid (foldN_small hle)
      go_wp2
      go_ret
      exact ⟨ret_int (by rw [← Hf.out, Hfs.out]), _, rfl⟩

/-- Texts as the cells of a slice of texts. -/
def BS (L : List (List UInt8)) : List Value := L.map (fun l => Value.string (Str l))
theorem BS_length (L : List (List UInt8)) : (BS L).length = L.length := by simp [BS]
theorem BS_get (L : List (List UInt8)) (j : Nat) (h : j < L.length) : (BS L)[j]? = some (.string (Str L[j])) := by
  simp [BS, List.getElem?_eq_getElem h]
theorem BS_append (L M : List (List UInt8)) : BS (L ++ M) = BS L ++ BS M := by simp [BS]
theorem flat_snoc (L : List (List UInt8)) (j : Nat) (h : j < L.length) : (L.take (j + 1)).flatten = (L.take j).flatten ++ L[j] := by
  rw [List.take_succ_eq_append_getElem h, List.flatten_append]; simp
theorem flat_len (L : List (List UInt8)) (j : Nat) : (L.take j).flatten.length ≤ L.flatten.length := by
  conv => rhs; rw [← List.take_append_drop j L, List.flatten_append, List.length_append]
  omega
theorem Str_get (l : List UInt8) (k : Nat) (h : k < (Str l).size) : (Str l)[k] = l[k]'(by rw [Str_size] at h; exact h) := rfl

theorem add_shl8 (t b : Nat) (ht : t ≤ 1152921504606846976) (hb : b < 256) : IntKind.u64.wrap ((t : Int) + IntKind.u64.wrap (IntKind.u64.wrap (b : Int) * 256)) = ((t + b * 2 ^ 8 : Nat) : Int) := by
  simp only [IntKind.wrap_u64]; omega
theorem add_shl0 (t b : Nat) (ht : t ≤ 1152921504606846976) (hb : b < 256) : IntKind.u64.wrap ((t : Int) + IntKind.u64.wrap (IntKind.u64.wrap (b : Int))) = ((t + b * 2 ^ 0 : Nat) : Int) := by
  simp only [IntKind.wrap_u64]; omega

set_option maxHeartbeats 400000 in
theorem sum_some (L : List (List UInt8)) (hL : L.flatten.length ≤ 1048576) (hLL : L.length ≤ 1048576) (g cap : Nat) (w : World) (hc : ∀ j (h : j < L.length), w.cell? ⟨g, j, none⟩ = some (.string (Str L[j]))) :
    Calls Try.prog 48 #[.slice (some ⟨g, 0, none⟩) L.length cap] w fun e w' => e = .returned (.int .i64 (foldN (wsum L.flatten))) ∧ ∃ k, w' = w.drewN k := by
  have Hc := Lib.hid hc; clear hc
  go_enter Try.func48, Try.ntmps48
  go_wp2_with fail
  go_loop [3, 4, 10] (fun t s i => ∃ j : Nat, j ≤ L.length ∧ i = .int .i64 j ∧ t = .int .u64 ((wst (L.take j).flatten).1 : Nat) ∧ s = .int .u64 ((wst (L.take j).flatten).2 : Nat)) (fun _ _ i => L.length - (intOf i).toNat)
  case atStart => exact ⟨0, by omega, rfl, rfl, rfl⟩
  case round =>
    obtain ⟨j, hj, rfl, rfl, rfl⟩ := hrel
    by_cases hlt : j < L.length
    · have hd : decide ((j : Int) < (L.length : Int)) = true := by simp; omega
      have hcell := Hc.out j hlt
      have Hs := Lib.hid (flat_snoc L j hlt)
      have hfl := flat_len L (j + 1)
      rw [Hs.out, List.length_append] at hfl
      generalize hl : L[j] = l at hcell Hs hfl
      have Hl := Lib.hid hl; clear hl
      have hsz : (Str l).size = l.length := Str_size l
      generalize hf : (L.take j).flatten = f at Hs hfl ⊢
      have Hf := Lib.hid hf; clear hf
      go_wp2_with fail
      go_loop [3, 4, 16] (fun t s i => ∃ k : Nat, k ≤ l.length ∧ i = .int .i64 k ∧ t = .int .u64 ((wst (f ++ l.take k)).1 : Nat) ∧ s = .int .u64 ((wst (f ++ l.take k)).2 : Nat)) (fun _ _ i => l.length - (intOf i).toNat)
      case atStart => exact ⟨0, by omega, rfl, by simp, by simp⟩
      case round =>
        obtain ⟨k, hk, rfl, rfl, rfl⟩ := hrel
        by_cases hlt2 : k < l.length
        · have hle := wst_le (f ++ l.take k)
          rw [List.length_append, List.length_take] at hle
          have Hn := Lib.hid (show wst (f ++ l.take (k + 1)) = wstep (wst (f ++ l.take k)) l[k] by
            rw [List.take_succ_eq_append_getElem hlt2, ← List.append_assoc, wst_snoc])
          generalize hp : wst (f ++ l.take k) = p at hle Hn ⊢
          have Hp := Lib.hid hp; clear hp
          obtain ⟨h1, h2⟩ := hle
          have hb := l[k].toNat_lt
          have Hget := Lib.hid (Str_get l k (by rw [hsz]; exact hlt2))
          obtain ⟨t, sh⟩ := p
          simp only at h1 h2 ⊢
          have hk' : (k : Nat) < (Str l).size := by rw [hsz]; exact hlt2
          rcases h2 with rfl | rfl
          · go_wp2_with fail
            go_round
            case rel => exact ⟨k + 1, by omega, by go_num, by rw [Hn.out]; simp only [wstep]; rw [Hget.out, add_shl8 _ _ (by omega) hb], by rw [Hn.out]; rfl⟩
            case measure => simp [intOf]; omega
          · go_wp2_with fail
            go_round
            case rel => exact ⟨k + 1, by omega, by go_num, by rw [Hn.out]; simp only [wstep]; rw [Hget.out, add_shl0 _ _ (by omega) hb], by rw [Hn.out]; rfl⟩
            case measure => simp [intOf]; omega
        · have hkl : k = l.length := by omega
          subst hkl
          have Ht := Lib.hid (List.take_length (l := l))
          go_wp2_with fail
          go_round
          case rel => exact ⟨j + 1, by omega, by go_num, by rw [Hs.out, Ht.out], by rw [Hs.out, Ht.out]⟩
          case measure => simp [intOf]; omega
    · have hjl : j = L.length := by omega
      subst hjl
      have Ht := Lib.hid (List.take_length (l := L))
      have hle := (wst_le L.flatten).1
      have hle2 : (wst (L.take L.length).flatten).1 ≤ 18446744073709551615 := by rw [Ht.out]; omega
      have Hr := Lib.hid (show foldN (wst (L.take L.length).flatten).1 = foldN (wsum L.flatten) by rw [Ht.out]; rfl)
      generalize (wst (L.take L.length).flatten).1 = x at hle2 Hr ⊢
      generalize (wst (L.take L.length).flatten).2 = y
      go_wp2_with fail
      refine (fold_any _ hle2 _).mono ?_
      rintro e w1 ⟨rfl, d3, rfl⟩
      rw [Hr.out]
      go_wp2
      go_ret
      exact ⟨rfl, _, rfl⟩

theorem sum_own (L : List (List UInt8)) (hL : L.flatten.length ≤ 1048576) (hLL : L.length ≤ 1048576) (base : Nat) (v : Value) (w : World) (hown : w.ownsRow base 9 1 v L.length (BS L)) :
    Calls Try.prog 48 #[v] w fun e w' => e = .returned (.int .i64 (foldN (wsum L.flatten))) ∧ ∃ k, w' = w.drewN k := by
  rcases Go.Joins.ownsRow_forms hown with ⟨rfl, h0⟩ | ⟨g, cap, rfl⟩
  · have hL0 : L = [] := List.eq_nil_of_length_eq_zero h0
    subst hL0
    clear hown hL hLL h0
    go_enter Try.func48, Try.ntmps48
    go_wp2_with fail
    refine wp_loop_rounds 1 ?_
    rw [rounds_succ]
    go_wp2_with fail
    refine (fold_any 0 (by omega) _).mono ?_
    rintro e w1 ⟨rfl, d3, rfl⟩
    go_wp2
    go_ret
    exact ⟨rfl, _, rfl⟩
  · exact sum_some L hL hLL g cap w (fun j h => by rw [hown.cellAt j (by omega), BS_get L j h])

theorem check_own (L : List (List UInt8)) (hL : L.flatten.length ≤ 1048576) (hLL : L.length ≤ 1048576) (base : Nat) (v : Value) (w : World) (hown : w.ownsRow base 9 1 v L.length (BS L)) :
    Calls Try.prog 41 #[v] w fun e w' => e = .returned (.int .i64 ((65535 - foldN (wsum L.flatten) : Nat) : Int)) ∧ ∃ k, w' = w.drewN k := by
  have hf := foldN_le (wsum L.flatten)
  generalize hx : foldN (wsum L.flatten) = x at hf ⊢
  have Hx := Lib.hid hx; clear hx
  have Hown := Lib.hid hown; clear hown
  go_enter Try.func41, Try.ntmps41
  go_wp2_with fail
  refine (sum_own L hL hLL base v _ Hown.out).mono ?_
  rintro e w1 ⟨rfl, d3, rfl⟩
  rw [Hx.out]
  go_wp2
  go_ret
  exact ⟨ret_int (by omega), _, rfl⟩

theorem good_own (L : List (List UInt8)) (hL : L.flatten.length ≤ 1048576) (hLL : L.length ≤ 1048576) (base : Nat) (v : Value) (w : World) (hown : w.ownsRow base 9 1 v L.length (BS L)) :
    Calls Try.prog 14 #[v] w fun e w' => e = .returned (.bool (decide (foldN (wsum L.flatten) = 65535))) ∧ ∃ k, w' = w.drewN k := by
  have hf := foldN_le (wsum L.flatten)
  generalize hx : foldN (wsum L.flatten) = x at hf ⊢
  have Hx := Lib.hid hx; clear hx
  have Hown := Lib.hid hown; clear hown
  go_enter Try.func14, Try.ntmps14
  go_wp2_with fail
  refine (sum_own L hL hLL base v _ Hown.out).mono ?_
  rintro e w1 ⟨rfl, d3, rfl⟩
  rw [Hx.out]
  go_wp2
  go_ret
  exact ⟨congrArg (fun b => Ending.returned (.bool b)) (show ((x : Int) == 65535) = decide (x = 65535) by rw [Bool.eq_iff_iff]; simp; omega), _, rfl⟩

/-- What Update tells. -/
def updN (c o n : Nat) : Nat := 65535 - foldN ((65535 - c) + (65535 - o) + n)
end Go.Proofs.Ytchbkamjmkfikaa

/-
  The contracts of the document's own answers of layer 2, and of the statements' helpers there.
-/
namespace Go.Proofs.Ytchbkamjmkfikaa
open Go.RowKit
set_option linter.unusedVariables false

def strsS : Shape (List (List UInt8)) := sliceS 1 strS
theorem opens_strsS : Opens Try.prog 83 strsS := opens_slice Try.underlying83 (by kernel_rfl) (by omega) (opens_str Try.underlying9)
theorem stable_strsS : Stable strsS := stable_slice stable_str

theorem rfold_any (n : Nat) (hn : n ≤ 18446744073709551615) (w : World) : Calls Try.prog 61 #[.int .u64 n] w fun e w' => e = .returned (.int .i64 (foldN n)) ∧ w = w' := by
  rcases Nat.eq_zero_or_pos n with rfl | hp
  · go_enter Try.func61, Try.ntmps61
    go_wp2
    go_ret
    exact ⟨rfl, rfl⟩
  · have h0 : ((n : Int) == 0) = false := by simp; omega
    have HF := Lib.hid (foldN_pos hp)
    go_enter Try.func61, Try.ntmps61
    go_wp2
    go_ret
    exact ⟨ret_int (by rw [HF.out]; omega), rfl⟩

/-- What Few leaves of texts. -/
def fewL (L : List (List UInt8)) (m : Nat) : List (List UInt8) := (L.take m).map (fun l => l.take 40)
theorem cutB_str (l : List UInt8) (m : Nat) : cutB (Str l) m = Str (l.take m) := by
  unfold cutB
  rw [Str_size]
  split
  · rw [List.take_of_length_le (by omega)]
  · apply ByteArray.ext; simp [Str]
theorem fewL_snoc (L : List (List UInt8)) (k : Nat) (h : k < L.length) : fewL L (k + 1) = fewL L k ++ [L[k].take 40] := by
  unfold fewL; rw [List.take_succ_eq_append_getElem h, List.map_append]; rfl
theorem fewL_length (L : List (List UInt8)) (k : Nat) : (fewL L k).length = min k L.length := by simp [fewL]
theorem fewL_flat (L : List (List UInt8)) (k : Nat) : (fewL L k).flatten.length ≤ 40 * k := by
  induction k with
  | zero => simp [fewL]
  | succ k ih =>
    by_cases h : k < L.length
    · rw [fewL_snoc L k h, List.flatten_append, List.length_append, List.flatten_singleton, List.length_take]
      omega
    · have e : fewL L (k + 1) = fewL L k := by unfold fewL; rw [List.take_of_length_le (by omega), List.take_of_length_le (by omega)]
      rw [e]; omega

theorem Try.info_str : (Try.prog.info? 9).map (fun i => (i.zero, i.size, i.bytes)) = some (some (.string ByteArray.empty), 1, 16) := by kernel_rfl

theorem run_cat' {P : Program} (x y : List UInt8) (h : x.length + y.length ≤ 9223372036854775807) (w : World) : (Op.stringOp .add (Str x) (Str y)).run P w = .ok (.string (Str (x ++ y))) w := run_cat x y h w
theorem even_round (l : List UInt8) (k : Nat) (hev : l.length % 2 = 0) (hlt : 2 * k < l.length) : wsum (l.take (2 * (k + 1))) = wsum (l.take (2 * k)) + num ((l.drop (2 * k)).take 2) := by
  have h1 : 2 * k + 1 < l.length := by omega
  have e1 : l.take (2 * (k + 1)) = l.take (2 * k) ++ [l[2 * k], l[2 * k + 1]] := by
    rw [show 2 * (k + 1) = 2 * k + 1 + 1 by omega, List.take_succ_eq_append_getElem h1, List.take_succ_eq_append_getElem hlt, List.append_assoc]; rfl
  have e2 : (l.drop (2 * k)).take 2 = [l[2 * k], l[2 * k + 1]] := by
    rw [List.drop_eq_getElem_cons hlt, List.drop_eq_getElem_cons h1]; rfl
  have b1 := l[2 * k].toNat_lt
  have b2 := l[2 * k + 1].toNat_lt
  rw [e1, e2, wsum_two_snoc _ _ _ (by rw [List.length_take]; omega)]
  simp [num]
  omega
theorem wsum_take_le (l : List UInt8) (m : Nat) : wsum (l.take m) ≤ 65280 * l.length := by
  have := wsum_le (l.take m)
  rw [List.length_take] at this
  omega

theorem bool_int_u64 (x : Nat) : IntKind.u64.wrap (x : Int) = ((x % 18446744073709551616 : Nat) : Int) := by
  simp only [IntKind.wrap_u64]; omega
theorem Str_extract2 (l : List UInt8) (a b : Nat) : (Str l).extract a b = Str ((l.drop a).take (b - a)) := by
  apply ByteArray.ext; simp [Str]

/-- The loop of the document's Sum, from its head on. -/
def padL (l : List UInt8) : List UInt8 := if l.length % 2 = 1 then l ++ [0] else l
theorem padL_even (l : List UInt8) : (padL l).length % 2 = 0 := by
  unfold padL; split
  · simp; omega
  · omega
theorem padL_len (l : List UInt8) : (padL l).length ≤ l.length + 1 := by
  unfold padL; split
  · simp
  · omega
theorem wsum_padL (l : List UInt8) : wsum (padL l) = wsum l := by
  unfold padL; split
  · exact wsum_pad l
  · rfl

set_option maxHeartbeats 1000000 in
theorem rsum_any (l0 : List UInt8) (hl0 : l0.length ≤ 1048576) (w : World) :
    Calls Try.prog 20 #[.string (Str l0)] w fun e w' => e = .returned (.int .i64 (foldN (wsum l0))) ∧ w = w' := by
  have hsz0 : (Str l0).size = l0.length := Str_size l0
  have Hw := Lib.hid (wsum_padL l0)
  have hev := padL_even l0
  have hlen := padL_len l0
  have hpad : ∃ o : Bool, (((l0.length : Int) % 2) == 1) = o ∧ (o = true → padL l0 = l0 ++ [0]) ∧ (o = false → padL l0 = l0) := by
    unfold padL
    by_cases h : l0.length % 2 = 1
    · exact ⟨true, by simp; omega, (fun _ => by rw [if_pos h]), fun h => by cases h⟩
    · exact ⟨false, by simp; omega, (fun h => by cases h), fun _ => by rw [if_neg h]⟩
  obtain ⟨o, ho, h1, h2⟩ := hpad
  generalize hl : padL l0 = l at hev hlen h1 h2 Hw
  have Hl := Lib.hid hl; clear hl
  have hsz : (Str l).size = l.length := Str_size l
  have hrun := run_cat' (P := Try.prog) l0 [0] (by simp; omega)
  rw [show Str [0] = (⟨#[0]⟩ : ByteArray) from rfl] at hrun
  have Hev := Lib.hid hev; clear hev
  have H2 := Lib.hid h2; clear h2
  have H1 := Lib.hid h1; clear h1
  cases o with
  | true =>
    rw [← H1.out rfl] at hrun
    go_enter Try.func20, Try.ntmps20
    go_wp2_with fail
    go_loop [3, 4] (fun n i => ∃ k : Nat, 2 * k ≤ l.length ∧ i = .int .i64 (2 * (k : Int)) ∧ n = .int .u64 (wsum (l.take (2 * k)))) (fun _ i => l.length - (intOf i).toNat)
    case atStart => exact ⟨0, by omega, rfl, rfl⟩
    case round =>
      obtain ⟨k, hk, rfl, rfl⟩ := hrel
      have hle := wsum_take_le l (2 * k)
      have hle2 := wsum_take_le l (2 * (k + 1))
      by_cases hlt : 2 * k < l.length
      · have hlt' : (2 : Int) * (k : Int) + 2 ≤ (l.length : Int) := by have := Hev.out; omega
        have Hr := Lib.hid (even_round l k Hev.out hlt)
        have Hx := Lib.hid (show ((Str l).extract (2 * k) (2 * k + 2)).data.toList = (l.drop (2 * k)).take 2 by rw [Str_extract2, show 2 * k + 2 - 2 * k = 2 by omega]; rfl)
        generalize hx : wsum (l.take (2 * k)) = x at hle Hr ⊢
        generalize hy : wsum (l.take (2 * (k + 1))) = y at hle2 Hr
        have Hxx := Lib.hid hx; clear hx
        have Hy := Lib.hid hy; clear hy
        generalize hz : num ((l.drop (2 * k)).take 2) = z at Hr
        have hzle : z ≤ y := by have := Hr.out; omega
        have Hz := Lib.hid hz; clear hz
        go_wp2_with fail
        refine (rnum_any _ (by unfold maxLen; simp; omega) _).mono ?_
        rintro e w1 ⟨rfl, rfl⟩
        rw [Hx.out, Hz.out]
        have hsum : x + z ≤ 18446744073709551615 := by have := Hr.out; omega
        go_wp2_with fail
        go_round
        case rel => exact ⟨k + 1, by omega, by go_num, by rw [Hy.out, Hr.out]; go_num⟩
        case measure => simp [intOf]; omega
      · have hkl : 2 * k = l.length := by omega
        have Hk := Lib.hid (show foldN (wsum (l.take (2 * k))) = foldN (wsum l0) by rw [hkl, List.take_length, Hw.out])
        generalize hx : wsum (l.take (2 * k)) = x at hle Hk ⊢
        have Hx := Lib.hid hx; clear hx hkl
        go_wp2_with fail
        refine (rfold_any x (by omega) _).mono ?_
        rintro e w1 ⟨rfl, rfl⟩
        rw [Hk.out]
        go_wp2_with fail
        go_ret
        exact ⟨rfl, rfl⟩
  | false =>
    obtain rfl : l = l0 := H2.out rfl
    go_enter Try.func20, Try.ntmps20
    go_wp2_with fail
    go_loop [3, 4] (fun n i => ∃ k : Nat, 2 * k ≤ l.length ∧ i = .int .i64 (2 * (k : Int)) ∧ n = .int .u64 (wsum (l.take (2 * k)))) (fun _ i => l.length - (intOf i).toNat)
    case atStart => exact ⟨0, by omega, rfl, rfl⟩
    case round =>
      obtain ⟨k, hk, rfl, rfl⟩ := hrel
      have hle := wsum_take_le l (2 * k)
      have hle2 := wsum_take_le l (2 * (k + 1))
      by_cases hlt : 2 * k < l.length
      · have hlt' : (2 : Int) * (k : Int) + 2 ≤ (l.length : Int) := by have := Hev.out; omega
        have Hr := Lib.hid (even_round l k Hev.out hlt)
        have Hx := Lib.hid (show ((Str l).extract (2 * k) (2 * k + 2)).data.toList = (l.drop (2 * k)).take 2 by rw [Str_extract2, show 2 * k + 2 - 2 * k = 2 by omega]; rfl)
        generalize hx : wsum (l.take (2 * k)) = x at hle Hr ⊢
        generalize hy : wsum (l.take (2 * (k + 1))) = y at hle2 Hr
        have Hxx := Lib.hid hx; clear hx
        have Hy := Lib.hid hy; clear hy
        generalize hz : num ((l.drop (2 * k)).take 2) = z at Hr
        have hzle : z ≤ y := by have := Hr.out; omega
        have Hz := Lib.hid hz; clear hz
        go_wp2_with fail
        refine (rnum_any _ (by unfold maxLen; simp; omega) _).mono ?_
        rintro e w1 ⟨rfl, rfl⟩
        rw [Hx.out, Hz.out]
        have hsum : x + z ≤ 18446744073709551615 := by have := Hr.out; omega
        go_wp2_with fail
        go_round
        case rel => exact ⟨k + 1, by omega, by go_num, by rw [Hy.out, Hr.out]; go_num⟩
        case measure => simp [intOf]; omega
      · have hkl : 2 * k = l.length := by omega
        have Hk := Lib.hid (show foldN (wsum (l.take (2 * k))) = foldN (wsum l) by rw [hkl, List.take_length])
        generalize hx : wsum (l.take (2 * k)) = x at hle Hk ⊢
        have Hx := Lib.hid hx; clear hx hkl
        go_wp2_with fail
        refine (rfold_any x (by omega) _).mono ?_
        rintro e w1 ⟨rfl, rfl⟩
        rw [Hk.out]
        go_wp2_with fail
        go_ret
        exact ⟨rfl, rfl⟩

/-- A literal slice, however often order was drawn since. -/
theorem own_lit (w : World) (cs : Array Value) (e : TypeId) (n g d : Nat) (hg : g = w.heap.size) (hm : n ≤ 1000000) (hs : cs.size = n) : ((w.alloc (.cells cs e)).drewN d).ownsRow 0 e 1 (.slice (some ⟨g, 0, none⟩) n n) n cs.toList := by
  subst hg
  exact World.ownsRow_lit w cs n (Nat.zero_le _) (by unfold maxLen; omega) (by omega)
theorem own_lit0 (w : World) (cs : Array Value) (e : TypeId) (n g : Nat) (hg : g = w.heap.size) (hm : n ≤ 1000000) (hs : cs.size = n) : (w.alloc (.cells cs e)).ownsRow 0 e 1 (.slice (some ⟨g, 0, none⟩) n n) n cs.toList := own_lit w cs e n g 0 hg hm hs

/-- Two bytes of a number. -/
theorem rput_two (n : Nat) (hn : n ≤ 18446744073709551615) (w : World) : Calls Try.prog 79 #[.int .u64 n, .int .i64 2] w fun e w' => e = .returned (.string (Str (putL n 2))) ∧ Below w.heap.size w w' := rput_any n hn 2 w
theorem rput_four (n : Nat) (hn : n ≤ 18446744073709551615) (w : World) : Calls Try.prog 79 #[.int .u64 n, .int .i64 4] w fun e w' => e = .returned (.string (Str (putL n 4))) ∧ Below w.heap.size w w' := rput_any n hn 4 w
theorem rput_one (n : Nat) (hn : n ≤ 18446744073709551615) (w : World) : Calls Try.prog 79 #[.int .u64 n, .int .i64 1] w fun e w' => e = .returned (.string (Str (putL n 1))) ∧ Below w.heap.size w w' := rput_any n hn 1 w
end Go.Proofs.Ytchbkamjmkfikaa

