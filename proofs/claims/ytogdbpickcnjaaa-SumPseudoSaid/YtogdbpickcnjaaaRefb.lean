/-
  The contracts of the document's own answers of layer 2, and of the statements' helpers there.
-/
import Derived.Test.YtogdbpickcnjaaaRefa
import Derived.Test.YtogdbpickcnjaaaSum
import Derived.Test.YtogdbpickcnjaaaOpen
namespace Go.Proofs.Ytogdbpickcnjaaa
open Go.RowKit
set_option linter.unusedVariables false

def strsS : Shape (List (List UInt8)) := sliceS 1 strS
theorem opens_strsS : Opens Try.prog 22 strsS := opens_slice Try.underlying22 (by kernel_rfl) (by omega) (opens_str Try.underlying9)
theorem stable_strsS : Stable strsS := stable_slice stable_str

theorem rfold_any (n : Nat) (hn : n ≤ 18446744073709551615) (w : World) : Calls Try.prog 15 #[.int .u64 n] w fun e w' => e = .returned (.int .i64 (foldN n)) ∧ w = w' := by
  rcases Nat.eq_zero_or_pos n with rfl | hp
  · go_enter Try.func15, Try.ntmps15
    go_wp2
    go_ret
    exact ⟨rfl, rfl⟩
  · have h0 : ((n : Int) == 0) = false := by simp; omega
    have HF := Lib.hid (foldN_pos hp)
    go_enter Try.func15, Try.ntmps15
    go_wp2
    go_ret
    exact ⟨ret_int (by rw [HF.out]; omega), rfl⟩

/-- What Few leaves of texts. -/
def fewL (L : List (List UInt8)) (m : Nat) : List (List UInt8) := (L.take m).map (fun l => l.take 40)
theorem cutB_str (l : List UInt8) (m : Nat) : cutB (Str l) m = Str (l.take m) := by
  unfold cutB
  rw [Str_size]
  split
  · rw [List.take_of_length_le (by omega)]
  · apply ByteArray.ext; simp [Str]
theorem fewL_snoc (L : List (List UInt8)) (k : Nat) (h : k < L.length) : fewL L (k + 1) = fewL L k ++ [L[k].take 40] := by
  unfold fewL; rw [List.take_succ_eq_append_getElem h, List.map_append]; rfl
theorem fewL_length (L : List (List UInt8)) (k : Nat) : (fewL L k).length = min k L.length := by simp [fewL]
theorem fewL_flat (L : List (List UInt8)) (k : Nat) : (fewL L k).flatten.length ≤ 40 * k := by
  induction k with
  | zero => simp [fewL]
  | succ k ih =>
    by_cases h : k < L.length
    · rw [fewL_snoc L k h, List.flatten_append, List.length_append, List.flatten_singleton, List.length_take]
      omega
    · have e : fewL L (k + 1) = fewL L k := by unfold fewL; rw [List.take_of_length_le (by omega), List.take_of_length_le (by omega)]
      rw [e]; omega

theorem Try.info_str : (Try.prog.info? 9).map (fun i => (i.zero, i.size, i.bytes)) = some (some (.string ByteArray.empty), 1, 16) := by kernel_rfl

set_option maxHeartbeats 400000 in
theorem few_any (v : Value) (L : List (List UInt8)) (w : World) (hv : strsS w [v] L) :
    Calls Try.prog 10 #[v, .int .i64 5] w fun e w' => ∃ r, e = .returned r ∧ w'.ownsRow w.heap.size 9 1 r (fewL L 5).length (BS (fewL L 5)) ∧ Below w.heap.size w w' := by
  obtain ⟨a, cap, rfl, hL, hcell⟩ : ∃ (a : Option Addr) (cap : Nat), v = .slice a L.length cap ∧ L.length ≤ 9223372036854775807 ∧ ∀ k (h : k < L.length), ∃ b o, a = some ⟨b, o, none⟩ ∧ b < w.heap.size ∧ w.cell? ⟨b, o + k, none⟩ = some (.string (Str L[k])) ∧ (Str L[k]).size ≤ maxLen := by
    rcases hv with ⟨h1, rfl⟩ | ⟨a, cap, h1, hl1, hl2, hs, hx⟩
    · simp at h1; subst h1; exact ⟨none, 0, rfl, by simp, fun k h => by simp at h⟩
    · simp at h1; subst h1
      refine ⟨some a, cap, rfl, by unfold maxLen at hl2; omega, fun k h => ?_⟩
      obtain ⟨c, hc1, hc2, hc3, hc4⟩ := hx k L[k] (List.getElem?_eq_getElem h)
      obtain ⟨h5, h6⟩ := hs (by rintro rfl; simp at h)
      obtain ⟨ab, ao, asp⟩ := a
      simp only at h5; subst h5
      have := hc2 0 (by omega)
      rw [hc3] at this
      exact ⟨ab, ao, rfl, h6, by simpa using this, by rw [Str_size]; exact hc4⟩
  clear hv
  obtain ⟨i0, hi, hz0, hz1, hz2⟩ := info_parts Try.info_str
  have HC := Lib.hid hcell; clear hcell
  go_enter Try.func10, Try.ntmps10
  go_wp2_with fail
  go_loopw [5, 6] (fun v i wr => ∃ k : Nat, k ≤ L.length ∧ k ≤ 5 ∧ i = .int .i64 k ∧ wr.ownsRow w.heap.size 9 1 v k (BS (fewL L k)) ∧ Below w.heap.size w wr) (fun _ i _ => 5 - (intOf i).toNat)
  case atStart => exact ⟨0, by omega, by omega, rfl, World.ownsRow_lit w #[] 0 (Nat.le_refl _) (by unfold maxLen; omega) (by simp), (Below.refl _ _).alloc (Nat.le_refl _) _⟩
  case round v _ wr =>
    obtain ⟨k, hk, hk5, rfl, hown, hbel⟩ := hrel
    have Hbel := Lib.hid hbel; clear hbel
    by_cases hlt : k < L.length
    · by_cases h5 : k < 5
      · obtain ⟨b, o, ha, hb, hc, hsz⟩ := HC.out k hlt
        subst ha
        have hc' := (Hbel.out.cell (p := ⟨b, o + k, none⟩) hb).trans hc
        clear hc
        have Hs := Lib.hid (fewL_snoc L k hlt)
        generalize hl : L[k] = l at hc' hsz Hs
        have Hl := Lib.hid hl; clear hl
        have Hcut := Lib.hid (cutB_str l 40)
        have Hown := Lib.hid hown; clear hown
        go_wp2_with fail
        refine (cut_any (Str l) hsz 40 (by omega) _).mono ?_
        rintro e w1 ⟨rfl, rfl⟩
        rw [Hcut.out]
        have hown := Hown.out
        have hz := Hbel.out.size
        go_wp2_with (at_builtin; refine wpList_append_own _ rfl _ _ 22 rfl w.heap.size 9 i0 (.string ByteArray.empty) 1 16 Try.underlying22 hi hz0 hz1 hz2 rfl (by decide) _ _ _ rfl (hown.alloc _) ⟨wr.heap.size, 0, none⟩ 1 1 [.string (Str (l.take 40))] rfl rfl (World.news_of_block (heap_alloc_new wr _)) (by simp [Value.oneCell']) (by unfold maxLen; omega) (by omega) (by simp; omega) ?_)
        intro v' w1 hown' hgrow _
        have Hown' := Lib.hid hown'
        have Hgrow := Lib.hid hgrow
        clear hown' hgrow hown hz
        go_wp2
        go_roundw
        case rel =>
          refine ⟨k + 1, by omega, by omega, by go_num, ?_, ?_⟩
          · rw [Hs.out, BS_append]
            exact Hown'.out
          · have hz := Hbel.out.size
            exact (Hbel.out.alloc hz _).grown Hgrow.out (by simp; omega) (fun g hg => (Hown.out.lt g hg).1)
        case measure => simp [intOf]; omega
      · have hk55 : k = 5 := by omega
        subst hk55
        have Hown := Lib.hid hown; clear hown
        go_wp2
        go_ret
        exact ⟨_, rfl, by rw [fewL_length, show min 5 L.length = 5 by omega]; exact Hown.out, Hbel.out⟩
    · have hkl : k = L.length := by omega
      have Hown := Lib.hid hown; clear hown
      have e : fewL L 5 = fewL L k := by unfold fewL; rw [List.take_of_length_le (by omega), List.take_of_length_le (by omega)]
      have He := Lib.hid e; clear e
      go_wp2
      go_ret
      exact ⟨_, rfl, by rw [He.out, fewL_length, show min k L.length = k by omega]; exact Hown.out, Hbel.out⟩

theorem run_cat' {P : Program} (x y : List UInt8) (h : x.length + y.length ≤ 9223372036854775807) (w : World) : (Op.stringOp .add (Str x) (Str y)).run P w = .ok (.string (Str (x ++ y))) w := run_cat x y h w
set_option maxHeartbeats 400000 in
theorem all_own (L : List (List UInt8)) (hL : L.flatten.length ≤ 1048576) (hLL : L.length ≤ 1048576) (base : Nat) (v : Value) (w : World) (hown : w.ownsRow base 9 1 v L.length (BS L)) :
    Calls Try.prog 9 #[v] w fun e w' => e = .returned (.string (Str L.flatten)) ∧ w = w' := by
  obtain ⟨a, cap, rfl, hcell⟩ : ∃ (a : Option Addr) (cap : Nat), v = .slice a L.length cap ∧ ∀ k (h : k < L.length), ∃ g, a = some ⟨g, 0, none⟩ ∧ w.cell? ⟨g, k, none⟩ = some (.string (Str L[k])) := by
    rcases Go.Joins.ownsRow_forms hown with ⟨rfl, h0⟩ | ⟨g, cap, rfl⟩
    · exact ⟨none, 0, by rw [h0], fun k h => by omega⟩
    · exact ⟨_, cap, rfl, fun j h => ⟨g, rfl, by rw [hown.cellAt j (by omega), BS_get L j h]⟩⟩
  clear hown
  have HC := Lib.hid hcell; clear hcell
  go_enter Try.func9, Try.ntmps9
  go_wp2_with fail
  go_loop [3, 4] (fun s i => ∃ k : Nat, k ≤ L.length ∧ i = .int .i64 k ∧ s = .string (Str (L.take k).flatten)) (fun _ i => L.length - (intOf i).toNat)
  case atStart => exact ⟨0, by omega, rfl, rfl⟩
  case round =>
    obtain ⟨k, hk, rfl, rfl⟩ := hrel
    by_cases hlt : k < L.length
    · obtain ⟨g, ha, hc⟩ := HC.out k hlt
      subst ha
      have Hs := Lib.hid (flat_snoc L k hlt)
      have hfl := flat_len L (k + 1)
      rw [Hs.out, List.length_append] at hfl
      generalize hl : L[k] = l at hc Hs hfl
      have Hl := Lib.hid hl; clear hl
      generalize hf : (L.take k).flatten = f at Hs hfl ⊢
      have Hf := Lib.hid hf; clear hf
      have hrun := run_cat' (P := Try.prog) f l (by omega)
      go_wp2
      go_round
      case rel => exact ⟨k + 1, by omega, by go_num, by rw [Hs.out]⟩
      case measure => simp [intOf]; omega
    · have hkl : k = L.length := by omega
      subst hkl
      have Ht := Lib.hid (List.take_length (l := L))
      go_wp2
      go_ret
      exact ⟨by simp, rfl⟩

theorem even_round (l : List UInt8) (k : Nat) (hev : l.length % 2 = 0) (hlt : 2 * k < l.length) : wsum (l.take (2 * (k + 1))) = wsum (l.take (2 * k)) + num ((l.drop (2 * k)).take 2) := by
  have h1 : 2 * k + 1 < l.length := by omega
  have e1 : l.take (2 * (k + 1)) = l.take (2 * k) ++ [l[2 * k], l[2 * k + 1]] := by
    rw [show 2 * (k + 1) = 2 * k + 1 + 1 by omega, List.take_succ_eq_append_getElem h1, List.take_succ_eq_append_getElem hlt, List.append_assoc]; rfl
  have e2 : (l.drop (2 * k)).take 2 = [l[2 * k], l[2 * k + 1]] := by
    rw [List.drop_eq_getElem_cons hlt, List.drop_eq_getElem_cons h1]; rfl
  have b1 := l[2 * k].toNat_lt
  have b2 := l[2 * k + 1].toNat_lt
  rw [e1, e2, wsum_two_snoc _ _ _ (by rw [List.length_take]; omega)]
  simp [num]
  omega
theorem wsum_take_le (l : List UInt8) (m : Nat) : wsum (l.take m) ≤ 65280 * l.length := by
  have := wsum_le (l.take m)
  rw [List.length_take] at this
  omega

theorem bool_int_u64 (x : Nat) : IntKind.u64.wrap (x : Int) = ((x % 18446744073709551616 : Nat) : Int) := by
  simp only [IntKind.wrap_u64]; omega
theorem Str_extract2 (l : List UInt8) (a b : Nat) : (Str l).extract a b = Str ((l.drop a).take (b - a)) := by
  apply ByteArray.ext; simp [Str]

/-- The loop of the document's Sum, from its head on. -/
def padL (l : List UInt8) : List UInt8 := if l.length % 2 = 1 then l ++ [0] else l
theorem padL_even (l : List UInt8) : (padL l).length % 2 = 0 := by
  unfold padL; split
  · simp; omega
  · omega
theorem padL_len (l : List UInt8) : (padL l).length ≤ l.length + 1 := by
  unfold padL; split
  · simp
  · omega
theorem wsum_padL (l : List UInt8) : wsum (padL l) = wsum l := by
  unfold padL; split
  · exact wsum_pad l
  · rfl

set_option maxHeartbeats 1000000 in
theorem rsum_any (l0 : List UInt8) (hl0 : l0.length ≤ 1048576) (w : World) :
    Calls Try.prog 8 #[.string (Str l0)] w fun e w' => e = .returned (.int .i64 (foldN (wsum l0))) ∧ w = w' := by
  have hsz0 : (Str l0).size = l0.length := Str_size l0
  have Hw := Lib.hid (wsum_padL l0)
  have hev := padL_even l0
  have hlen := padL_len l0
  have hpad : ∃ o : Bool, (((l0.length : Int) % 2) == 1) = o ∧ (o = true → padL l0 = l0 ++ [0]) ∧ (o = false → padL l0 = l0) := by
    unfold padL
    by_cases h : l0.length % 2 = 1
    · exact ⟨true, by simp; omega, (fun _ => by rw [if_pos h]), fun h => by cases h⟩
    · exact ⟨false, by simp; omega, (fun h => by cases h), fun _ => by rw [if_neg h]⟩
  obtain ⟨o, ho, h1, h2⟩ := hpad
  generalize hl : padL l0 = l at hev hlen h1 h2 Hw
  have Hl := Lib.hid hl; clear hl
  have hsz : (Str l).size = l.length := Str_size l
  have hrun := run_cat' (P := Try.prog) l0 [0] (by simp; omega)
  rw [show Str [0] = (⟨#[0]⟩ : ByteArray) from rfl] at hrun
  have Hev := Lib.hid hev; clear hev
  have H2 := Lib.hid h2; clear h2
  have H1 := Lib.hid h1; clear h1
  cases o with
  | true =>
    rw [← H1.out rfl] at hrun
    go_enter Try.func8, Try.ntmps8
    go_wp2_with fail
    go_loop [3, 4] (fun n i => ∃ k : Nat, 2 * k ≤ l.length ∧ i = .int .i64 (2 * (k : Int)) ∧ n = .int .u64 (wsum (l.take (2 * k)))) (fun _ i => l.length - (intOf i).toNat)
    case atStart => exact ⟨0, by omega, rfl, rfl⟩
    case round =>
      obtain ⟨k, hk, rfl, rfl⟩ := hrel
      have hle := wsum_take_le l (2 * k)
      have hle2 := wsum_take_le l (2 * (k + 1))
      by_cases hlt : 2 * k < l.length
      · have hlt' : (2 : Int) * (k : Int) + 2 ≤ (l.length : Int) := by have := Hev.out; omega
        have Hr := Lib.hid (even_round l k Hev.out hlt)
        have Hx := Lib.hid (show ((Str l).extract (2 * k) (2 * k + 2)).data.toList = (l.drop (2 * k)).take 2 by rw [Str_extract2, show 2 * k + 2 - 2 * k = 2 by omega]; rfl)
        generalize hx : wsum (l.take (2 * k)) = x at hle Hr ⊢
        generalize hy : wsum (l.take (2 * (k + 1))) = y at hle2 Hr
        have Hxx := Lib.hid hx; clear hx
        have Hy := Lib.hid hy; clear hy
        generalize hz : num ((l.drop (2 * k)).take 2) = z at Hr
        have hzle : z ≤ y := by have := Hr.out; omega
        have Hz := Lib.hid hz; clear hz
        go_wp2_with fail
        refine (rnum_any _ (by unfold maxLen; simp; omega) _).mono ?_
        rintro e w1 ⟨rfl, rfl⟩
        rw [Hx.out, Hz.out]
        have hsum : x + z ≤ 18446744073709551615 := by have := Hr.out; omega
        go_wp2_with fail
        go_round
        case rel => exact ⟨k + 1, by omega, by go_num, by rw [Hy.out, Hr.out]; go_num⟩
        case measure => simp [intOf]; omega
      · have hkl : 2 * k = l.length := by omega
        have Hk := Lib.hid (show foldN (wsum (l.take (2 * k))) = foldN (wsum l0) by rw [hkl, List.take_length, Hw.out])
        generalize hx : wsum (l.take (2 * k)) = x at hle Hk ⊢
        have Hx := Lib.hid hx; clear hx hkl
        go_wp2_with fail
        refine (rfold_any x (by omega) _).mono ?_
        rintro e w1 ⟨rfl, rfl⟩
        rw [Hk.out]
        go_wp2_with fail
        go_ret
        exact ⟨rfl, rfl⟩
  | false =>
    obtain rfl : l = l0 := H2.out rfl
    go_enter Try.func8, Try.ntmps8
    go_wp2_with fail
    go_loop [3, 4] (fun n i => ∃ k : Nat, 2 * k ≤ l.length ∧ i = .int .i64 (2 * (k : Int)) ∧ n = .int .u64 (wsum (l.take (2 * k)))) (fun _ i => l.length - (intOf i).toNat)
    case atStart => exact ⟨0, by omega, rfl, rfl⟩
    case round =>
      obtain ⟨k, hk, rfl, rfl⟩ := hrel
      have hle := wsum_take_le l (2 * k)
      have hle2 := wsum_take_le l (2 * (k + 1))
      by_cases hlt : 2 * k < l.length
      · have hlt' : (2 : Int) * (k : Int) + 2 ≤ (l.length : Int) := by have := Hev.out; omega
        have Hr := Lib.hid (even_round l k Hev.out hlt)
        have Hx := Lib.hid (show ((Str l).extract (2 * k) (2 * k + 2)).data.toList = (l.drop (2 * k)).take 2 by rw [Str_extract2, show 2 * k + 2 - 2 * k = 2 by omega]; rfl)
        generalize hx : wsum (l.take (2 * k)) = x at hle Hr ⊢
        generalize hy : wsum (l.take (2 * (k + 1))) = y at hle2 Hr
        have Hxx := Lib.hid hx; clear hx
        have Hy := Lib.hid hy; clear hy
        generalize hz : num ((l.drop (2 * k)).take 2) = z at Hr
        have hzle : z ≤ y := by have := Hr.out; omega
        have Hz := Lib.hid hz; clear hz
        go_wp2_with fail
        refine (rnum_any _ (by unfold maxLen; simp; omega) _).mono ?_
        rintro e w1 ⟨rfl, rfl⟩
        rw [Hx.out, Hz.out]
        have hsum : x + z ≤ 18446744073709551615 := by have := Hr.out; omega
        go_wp2_with fail
        go_round
        case rel => exact ⟨k + 1, by omega, by go_num, by rw [Hy.out, Hr.out]; go_num⟩
        case measure => simp [intOf]; omega
      · have hkl : 2 * k = l.length := by omega
        have Hk := Lib.hid (show foldN (wsum (l.take (2 * k))) = foldN (wsum l) by rw [hkl, List.take_length])
        generalize hx : wsum (l.take (2 * k)) = x at hle Hk ⊢
        have Hx := Lib.hid hx; clear hx hkl
        go_wp2_with fail
        refine (rfold_any x (by omega) _).mono ?_
        rintro e w1 ⟨rfl, rfl⟩
        rw [Hk.out]
        go_wp2_with fail
        go_ret
        exact ⟨rfl, rfl⟩

/-- A literal slice, however often order was drawn since. -/
theorem own_lit (w : World) (cs : Array Value) (e : TypeId) (n g d : Nat) (hg : g = w.heap.size) (hm : n ≤ 1000000) (hs : cs.size = n) : ((w.alloc (.cells cs e)).drewN d).ownsRow 0 e 1 (.slice (some ⟨g, 0, none⟩) n n) n cs.toList := by
  subst hg
  exact World.ownsRow_lit w cs n (Nat.zero_le _) (by unfold maxLen; omega) (by omega)
theorem own_lit0 (w : World) (cs : Array Value) (e : TypeId) (n g : Nat) (hg : g = w.heap.size) (hm : n ≤ 1000000) (hs : cs.size = n) : (w.alloc (.cells cs e)).ownsRow 0 e 1 (.slice (some ⟨g, 0, none⟩) n n) n cs.toList := own_lit w cs e n g 0 hg hm hs

set_option maxHeartbeats 1000000 in
/-- The small living call of layer 2's statements. -/
theorem lives2_any (w : World) : Calls Try.prog 16 #[] w fun e w' => e = .returned (.bool true) ∧ Below w.heap.size w w' := by
  have hA := Lib.hid (show foldN (wsum ([[1, 2, 3]] : List (List UInt8)).flatten) = 1026 by decide)
  have hB := Lib.hid (show 65535 - foldN (wsum ([[255, 255]] : List (List UInt8)).flatten) = 0 by decide)
  have hC := Lib.hid (show decide (foldN (wsum ([[1], [2], [254, 253]] : List (List UInt8)).flatten) = 65535) = true by decide)
  have hD := Lib.hid (show decide (foldN (wsum ([[]] : List (List UInt8)).flatten) = 65535) = false by decide)
  go_enter Try.func16, Try.ntmps16
  go_wp2_with fail
  refine (sum_own [[1, 2, 3]] (by decide) (by decide) 0 _ _ (own_lit0 w _ _ 1 _ rfl (by omega) rfl)).mono ?_
  rintro e w1 ⟨rfl, d1, rfl⟩
  rw [hA.out]
  go_wp2_with fail
  refine (check_own [[255, 255]] (by decide) (by decide) 0 _ _ (own_lit0 _ #[.string ⟨#[255, 255]⟩] _ 1 _ (by simp) (by omega) rfl)).mono ?_
  rintro e w1 ⟨rfl, d2, rfl⟩
  rw [hB.out]
  go_wp2_with fail
  refine (good_own [[1], [2], [254, 253]] (by decide) (by decide) 0 _ _ (own_lit0 _ #[.string ⟨#[1]⟩, .string ⟨#[2]⟩, .string ⟨#[254, 253]⟩] _ 3 _ (by simp) (by omega) rfl)).mono ?_
  rintro e w1 ⟨rfl, d3, rfl⟩
  rw [hC.out]
  go_wp2_with fail
  refine (good_own [[]] (by decide) (by decide) 0 _ _ (own_lit0 _ #[.string ⟨#[]⟩] _ 1 _ (by simp) (by omega) rfl)).mono ?_
  rintro e w1 ⟨rfl, d4, rfl⟩
  rw [hD.out]
  go_wp2_with fail
  go_ret
  refine ⟨rfl, ?_⟩
  repeat (first | exact Below.refl _ _ | refine bdrewN ?_ _ | refine Below.alloc ?_ (by simp; try omega) _)

/-- Two bytes of a number. -/
theorem rput_two (n : Nat) (hn : n ≤ 18446744073709551615) (w : World) : Calls Try.prog 18 #[.int .u64 n, .int .i64 2] w fun e w' => e = .returned (.string (Str (putL n 2))) ∧ Below w.heap.size w w' := rput_any n hn 2 w
theorem rput_four (n : Nat) (hn : n ≤ 18446744073709551615) (w : World) : Calls Try.prog 18 #[.int .u64 n, .int .i64 4] w fun e w' => e = .returned (.string (Str (putL n 4))) ∧ Below w.heap.size w w' := rput_any n hn 4 w
theorem rput_one (n : Nat) (hn : n ≤ 18446744073709551615) (w : World) : Calls Try.prog 18 #[.int .u64 n, .int .i64 1] w fun e w' => e = .returned (.string (Str (putL n 1))) ∧ Below w.heap.size w w' := rput_any n hn 1 w
end Go.Proofs.Ytogdbpickcnjaaa
