/-
  Texts joined: CodP, SeD.
-/
import Derived.Test.YtalnfjnfcloonaaDoorMg09
import Derived.Lib.BitFns
import Derived.Lib.Tables
import Derived.Deep.Cut
import Derived.Test.YtalnfjnfcloonaaDoorMg22
import Derived.Test.YtalnfjnfcloonaaDoorSeB
import Derived.Test.YtalnfjnfcloonaaDoorGood
/-
  The contracts of package code: firstShifted, lastCode, value, code, Value8, Value16, Code8, Code16, Exact8, Exact16.
-/
namespace Go.Proofs.YtalnfjnfcloonaaDoor
open Go.RowKit
set_option linter.unusedVariables false
/-- The table of bits.Len8. -/
theorem len8_get (T : ByteArray) (hT : T = Lib.len8tab) (i : Nat) (hi : i < 256) (h : i < T.size) : ((T[i]'h).toNat : Int) = (Lib.bitLen i : Int) ∧ Lib.bitLen i ≤ 8 := by
  subst hT
  have h1 := Lib.len8_of (i : Int) (by omega) (by omega)
  have h2 := Lib.bitLen_le8' (i : Int) (by omega) (by omega)
  rw [Int.toNat_natCast] at h1 h2
  refine ⟨?_, h2⟩
  rw [← h1]
  unfold Lib.len8
  rw [Int.toNat_natCast, getElem?_pos Lib.len8tab i h]
  rfl

set_option maxRecDepth 100000 in
set_option maxHeartbeats 1000000 in
/-- bits.Len64 of a small number. -/
theorem len64_small (n : Nat) (hn : n < 16777216) (w : World) : Calls Tryd.prog 60 #[.int .u64 n] w fun x w' => x = .returned (.int .i64 (Lib.bitLen n)) ∧ w = w' := by
  have b1 : ¬ (4294967296 : Int) ≤ (n : Int) := by omega
  go_enter Tryd.func60, Tryd.ntmps60
  generalize hT0 : ByteArray.mk _ = T
  have hT : T = Lib.len8tab := hT0.symm.trans (by kernel_rfl)
  clear hT0
  have hsz : (T.size : Int) = 256 := by rw [hT, Lib.len8tab_size]; rfl
  have HG := Lib.hid (fun (i : Nat) hi h => len8_get T hT i hi h)
  clear hT
  by_cases h16 : (65536 : Int) ≤ (n : Int)
  · have HS := Lib.hid (Lib.bitLen_shift16 n (by omega) (by omega))
    obtain ⟨q, hq⟩ : ∃ q, q = n / 65536 := ⟨_, rfl⟩
    have e1 : (n : Int) / 65536 = (q : Int) := by omega
    rw [← hq] at HS
    have hq2 : q < 256 := by omega
    clear hq
    have HV := Lib.hid (HG.out q hq2 (by omega))
    go_wp2
    go_ret
    refine ⟨ret_int ?_, rfl⟩
    have h1 := HV.out; have h2 := HS.out
    unfold wrap64
    omega
  · by_cases h8 : (256 : Int) ≤ (n : Int)
    · have HS := Lib.hid (Lib.bitLen_shift8 n (by omega) (by omega))
      obtain ⟨q, hq⟩ : ∃ q, q = n / 256 := ⟨_, rfl⟩
      have e1 : (n : Int) / 256 = (q : Int) := by omega
      rw [← hq] at HS
      have hq2 : q < 256 := by omega
      clear hq
      have HV := Lib.hid (HG.out q hq2 (by omega))
      go_upto_region 10 with (fail)
      repeat (first | go_values | go_skip | go_guarded | go_step | go_upon | go_in)
      rw [dif_pos (show (q : Int) < 256 by omega)]
      repeat (first | go_values | go_skip | go_guarded | go_step | go_upon | go_in)
      go_ret
      refine ⟨ret_int ?_, rfl⟩
      have h1 := HV.out; have h2 := HS.out
      unfold wrap64
      omega
    · have hlt : n < T.size := by omega
      have HV := Lib.hid (HG.out n (by omega) hlt)
      go_wp2
      go_ret
      refine ⟨ret_int ?_, rfl⟩
      have h1 := HV.out
      unfold wrap64
      omega
end Go.Proofs.YtalnfjnfcloonaaDoor

/-
  The contracts of slices.SortFunc over addresses of one's own, slices.Compact, srcs' tidy and Of.
-/
namespace Go.Proofs.YtalnfjnfcloonaaDoor
open Go.RowKit
set_option linter.unusedVariables false
set_option linter.unusedSimpArgs false

set_option maxRecDepth 100000 in
theorem insort_nil (fv : Value) (w : World) : Calls Tryd.prog 51 #[.slice none 0 0, .int .i64 0, .int .i64 0, fv] w fun x w' => x = .returned (.tuple #[]) ∧ Below w.heap.size w w' := by
  go_enter Tryd.func51, Tryd.ntmps51
  go_wp2_with fail
  go_loop [8] (fun i => i = .int .i64 1) (fun _ => 0)
  case atStart => rfl
  case round =>
    subst hrel
    go_wp2
    go_end0
    exact ⟨rfl, Below.refl _ _⟩
set_option maxRecDepth 100000 in
theorem pdq_nil (fv : Value) (k : Int) (w : World) : Calls Tryd.prog 45 #[.slice none 0 0, .int .i64 0, .int .i64 0, .int .i64 k, fv] w fun x w' => x = .returned (.tuple #[]) ∧ Below w.heap.size w w' := by
  have HI := Lib.hid (fun W => insort_nil fv W)
  go_enter Tryd.func45, Tryd.ntmps45
  go_wp2_with fail
  go_loop [1, 2] (fun a b => a = .int .i64 0 ∧ b = .int .i64 0) (fun _ _ => 0)
  case atStart => exact ⟨rfl, rfl⟩
  case round =>
    obtain ⟨rfl, rfl⟩ := hrel
    go_wp2_with (go_at_call 51; (with_reducible refine (HI.out _).mono ?_); rintro x w1 ⟨rfl, hb1⟩; have H1 := Lib.hid hb1; clear hb1)
    refine bodyPost_ret (results_none rfl _ _ _) rfl ?_
    exact ⟨rfl, H1.out⟩
set_option maxRecDepth 100000 in
theorem bitslen0 (w : World) : Calls Tryd.prog 46 #[.int .u64 0] w fun x w' => (∃ k : Int, x = .returned (.int .i64 k)) ∧ Below w.heap.size w w' := by
  have HL : Hid (∀ W, Calls Tryd.prog 60 #[.int .u64 0] W fun x w' => (∃ k : Int, x = .returned (.int .i64 k)) ∧ W = w') := Lib.hid fun W => (len64_small 0 (by omega) W).mono fun _ _ h => ⟨⟨_, h.1⟩, h.2⟩
  go_enter Tryd.func46, Tryd.ntmps46
  go_wp2_with (go_at_call 60; (with_reducible refine (HL.out _).mono ?_); rintro x w1 ⟨⟨k, rfl⟩, rfl⟩)
  go_ret
  exact ⟨⟨_, rfl⟩, Below.refl _ _⟩
set_option maxRecDepth 100000 in
theorem sort_nil (fv : Value) (w : World) : Calls Tryd.prog 36 #[.slice none 0 0, fv] w fun x w' => x = .returned (.tuple #[]) ∧ Below w.heap.size w w' := by
  have HP := Lib.hid (fun k W => pdq_nil fv k W)
  have HB := Lib.hid (fun W => bitslen0 W)
  go_enter Tryd.func36, Tryd.ntmps36
  go_wp2_with (first
    | (go_at_call 46; (with_reducible refine (HB.out _).mono ?_); rintro x w1 ⟨⟨k, rfl⟩, hb1⟩; have H1 := Lib.hid hb1; clear hb1)
    | (go_at_call 45; (with_reducible refine (HP.out _ _).mono ?_); rintro x w2 ⟨rfl, hb2⟩; have H2 := Lib.hid (bstep H1.out hb2); clear hb2))
  go_end0
  exact ⟨rfl, H2.out⟩

/-- A list whose addresses are of sixteen bytes, as such. -/
def toA16 (l : List AD) (h : ∀ a ∈ l, adOk a) : List A16 := l.attach.map fun (x : { a // a ∈ l }) => ⟨x.1, h x.1 x.2⟩
theorem toA16_val (l : List AD) (h : ∀ a ∈ l, adOk a) : (toA16 l h).map (·.1) = l := by
  unfold toA16
  rw [List.map_map]
  exact List.attach_map_subtype_val l
theorem toA16_length (l : List AD) (h : ∀ a ∈ l, adOk a) : (toA16 l h).length = l.length := by unfold toA16; simp
theorem isAgg_ad (w : World) : (isAgg 25).run Tryd.prog w = .ok true w := Tryd.isAgg25 w
theorem sizeOf_ad (w : World) : (Go.sizeOf 25).run Tryd.prog w = .ok 17 w := Tryd.sizeOf25 w
/-- The library's sort over a row of addresses of one's own. -/
theorem sort_any (base : Nat) (v : Value) (l : List AD) (w : World) (hok : ∀ a ∈ l, adOk a) (hown : OwnL w base v l) (hll : l.length ≤ 1000000) : Calls Tryd.prog 36 #[v, .func (.func 24) #[] #[]] w fun x w' => x = .returned (.tuple #[]) ∧ ∃ s : List AD, s.Perm l ∧ s.Pairwise (fun x y => ltA y x = false) ∧ OwnL w' base v s ∧ w.grownBy w' v.ownBlock := by
  have hown' := hown
  obtain ⟨h1, ⟨h2, h3⟩ | ⟨g, cap, cur, e1, e2, e3, e4, e5, e6, e7⟩⟩ := hown
  · subst h2
    have hl : l = [] := List.eq_nil_of_length_eq_zero h3
    subst hl
    exact (sort_nil _ w).mono fun _ _ ⟨hx, hb⟩ => ⟨hx, [], List.Perm.refl _, List.Pairwise.nil, World.ownsRow_nil _ _ _ _, hb.os, hb.tape, hb.output, hb.size, fun k hk _ => hb.block k hk⟩
  · subst e1
    have hg : g < w.heap.size := (Array.getElem?_eq_some_iff.1 e3).1
    have hH : Sort.HoldsK encA 17 w g 0 (toA16 l hok).toArray := holds_own e3 (by rw [toA16_length, toA16_val]; exact e7)
    have hsz : (toA16 l hok).toArray.size = l.length := by rw [List.size_toArray, toA16_length]
    have hcon := AnyQ.slices_SortFunc Tryd.sortAd 17 isAgg_ad sizeOf_ad encA encA_length encA_one cfA swoA 24 #[] g 0 cap (toA16 l hok).toArray w (enters_of Tryd.func24 (by kernel_rfl) rfl) (cmp_lays g 0 _ w) hH hg (by rw [hsz]; omega)
    change Calls Tryd.prog 36 _ _ _ at hcon
    rw [hsz] at hcon
    refine hcon.mono fun x w' ⟨hx, d', n, os, hp, hs, hw⟩ => ⟨hx, d'.toList.map (·.1), ?_, ?_, ?_, ?_⟩
    · have h := hp.2.2
      have hd : d'.size = l.length := by rw [hp.1, hsz]
      rw [Array.extract_eq_self_of_le (by omega), Array.extract_eq_self_of_le (by omega)] at h
      have := h.map (·.1)
      simpa [toA16_val] using this
    · have hd : d'.size = l.length := by rw [hp.1, hsz]
      rw [List.pairwise_iff_getElem]
      intro i j hi hj hij
      simp only [List.length_map, Array.length_toList] at hi hj
      have := hs i j (Nat.zero_le _) hij (by omega)
      rw [ltOf_cfA, getElem!_pos d' i hi, getElem!_pos d' j hj] at this
      simpa using this
    · have hd : d'.toList.length = l.length := by rw [Array.length_toList, hp.1, hsz]
      rw [hw]
      have := own_sorted (n := n) (os := os) hd hown'
      simpa using this
    · rw [hw]
      exact grown_sortedK _
end Go.Proofs.YtalnfjnfcloonaaDoor

