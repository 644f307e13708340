/-
  Texts joined: CodP, SeD, SeE.
-/
import Derived.Test.YtokpogoblnhihaaMg05
import Derived.Lib.BitFns
import Derived.Lib.Tables
import Derived.Deep.Cut
import Derived.Test.YtokpogoblnhihaaMg22
import Derived.Test.YtokpogoblnhihaaSeB
import Derived.Test.YtokpogoblnhihaaMg04
/-
  The contracts of package code: firstShifted, lastCode, value, code, Value8, Value16, Code8, Code16, Exact8, Exact16.
-/
namespace Go.Proofs.Ytokpogoblnhihaa
open Go.RowKit
set_option linter.unusedVariables false
/-- The table of bits.Len8. -/
theorem len8_get (T : ByteArray) (hT : T = Lib.len8tab) (i : Nat) (hi : i < 256) (h : i < T.size) : ((T[i]'h).toNat : Int) = (Lib.bitLen i : Int) ∧ Lib.bitLen i ≤ 8 := by
  subst hT
  have h1 := Lib.len8_of (i : Int) (by omega) (by omega)
  have h2 := Lib.bitLen_le8' (i : Int) (by omega) (by omega)
  rw [Int.toNat_natCast] at h1 h2
  refine ⟨?_, h2⟩
  rw [← h1]
  unfold Lib.len8
  rw [Int.toNat_natCast, getElem?_pos Lib.len8tab i h]
  rfl

set_option maxRecDepth 100000 in
set_option maxHeartbeats 1000000 in
/-- bits.Len64 of a small number. -/
theorem len64_small (n : Nat) (hn : n < 16777216) (w : World) : Calls Try.prog 75 #[.int .u64 n] w fun x w' => x = .returned (.int .i64 (Lib.bitLen n)) ∧ w = w' := by
  have b1 : ¬ (4294967296 : Int) ≤ (n : Int) := by omega
  go_enter Try.func75, Try.ntmps75
  generalize hT0 : ByteArray.mk _ = T
  have hT : T = Lib.len8tab := hT0.symm.trans (by kernel_rfl)
  clear hT0
  have hsz : (T.size : Int) = 256 := by rw [hT, Lib.len8tab_size]; rfl
  have HG := Lib.hid (fun (i : Nat) hi h => len8_get T hT i hi h)
  clear hT
  by_cases h16 : (65536 : Int) ≤ (n : Int)
  · have HS := Lib.hid (Lib.bitLen_shift16 n (by omega) (by omega))
    obtain ⟨q, hq⟩ : ∃ q, q = n / 65536 := ⟨_, rfl⟩
    have e1 : (n : Int) / 65536 = (q : Int) := by omega
    rw [← hq] at HS
    have hq2 : q < 256 := by omega
    clear hq
    have HV := Lib.hid (HG.out q hq2 (by omega))
    go_wp2
    go_ret
    refine ⟨ret_int ?_, rfl⟩
    have h1 := HV.out; have h2 := HS.out
    unfold wrap64
    omega
  · by_cases h8 : (256 : Int) ≤ (n : Int)
    · have HS := Lib.hid (Lib.bitLen_shift8 n (by omega) (by omega))
      obtain ⟨q, hq⟩ : ∃ q, q = n / 256 := ⟨_, rfl⟩
      have e1 : (n : Int) / 256 = (q : Int) := by omega
      rw [← hq] at HS
      have hq2 : q < 256 := by omega
      clear hq
      have HV := Lib.hid (HG.out q hq2 (by omega))
      go_upto_region 10 with (fail)
      repeat (first | go_values | go_skip | go_guarded | go_step | go_upon | go_in)
      rw [dif_pos (show (q : Int) < 256 by omega)]
      repeat (first | go_values | go_skip | go_guarded | go_step | go_upon | go_in)
      go_ret
      refine ⟨ret_int ?_, rfl⟩
      have h1 := HV.out; have h2 := HS.out
      unfold wrap64
      omega
    · have hlt : n < T.size := by omega
      have HV := Lib.hid (HG.out n (by omega) hlt)
      go_wp2
      go_ret
      refine ⟨ret_int ?_, rfl⟩
      have h1 := HV.out
      unfold wrap64
      omega
end Go.Proofs.Ytokpogoblnhihaa

/-
  The contracts of slices.SortFunc over addresses of one's own, slices.Compact, srcs' tidy and Of.
-/
namespace Go.Proofs.Ytokpogoblnhihaa
open Go.RowKit
set_option linter.unusedVariables false
set_option linter.unusedSimpArgs false

set_option maxRecDepth 100000 in
theorem insort_nil (fv : Value) (w : World) : Calls Try.prog 66 #[.slice none 0 0, .int .i64 0, .int .i64 0, fv] w fun x w' => x = .returned (.tuple #[]) ∧ Below w.heap.size w w' := by
  go_enter Try.func66, Try.ntmps66
  go_wp2_with fail
  go_loop [8] (fun i => i = .int .i64 1) (fun _ => 0)
  case atStart => rfl
  case round =>
    subst hrel
    go_wp2
    go_end0
    exact ⟨rfl, Below.refl _ _⟩
set_option maxRecDepth 100000 in
theorem pdq_nil (fv : Value) (k : Int) (w : World) : Calls Try.prog 63 #[.slice none 0 0, .int .i64 0, .int .i64 0, .int .i64 k, fv] w fun x w' => x = .returned (.tuple #[]) ∧ Below w.heap.size w w' := by
  have HI := Lib.hid (fun W => insort_nil fv W)
  go_enter Try.func63, Try.ntmps63
  go_wp2_with fail
  go_loop [1, 2] (fun a b => a = .int .i64 0 ∧ b = .int .i64 0) (fun _ _ => 0)
  case atStart => exact ⟨rfl, rfl⟩
  case round =>
    obtain ⟨rfl, rfl⟩ := hrel
    go_wp2_with (go_at_call 66; (with_reducible refine (HI.out _).mono ?_); rintro x w1 ⟨rfl, hb1⟩; have H1 := Lib.hid hb1; clear hb1)
    refine bodyPost_ret (results_none rfl _ _ _) rfl ?_
    exact ⟨rfl, H1.out⟩
set_option maxRecDepth 100000 in
theorem bitslen0 (w : World) : Calls Try.prog 64 #[.int .u64 0] w fun x w' => (∃ k : Int, x = .returned (.int .i64 k)) ∧ Below w.heap.size w w' := by
  have HL : Hid (∀ W, Calls Try.prog 75 #[.int .u64 0] W fun x w' => (∃ k : Int, x = .returned (.int .i64 k)) ∧ W = w') := Lib.hid fun W => (len64_small 0 (by omega) W).mono fun _ _ h => ⟨⟨_, h.1⟩, h.2⟩
  go_enter Try.func64, Try.ntmps64
  go_wp2_with (go_at_call 75; (with_reducible refine (HL.out _).mono ?_); rintro x w1 ⟨⟨k, rfl⟩, rfl⟩)
  go_ret
  exact ⟨⟨_, rfl⟩, Below.refl _ _⟩
set_option maxRecDepth 100000 in
theorem sort_nil (fv : Value) (w : World) : Calls Try.prog 58 #[.slice none 0 0, fv] w fun x w' => x = .returned (.tuple #[]) ∧ Below w.heap.size w w' := by
  have HP := Lib.hid (fun k W => pdq_nil fv k W)
  have HB := Lib.hid (fun W => bitslen0 W)
  go_enter Try.func58, Try.ntmps58
  go_wp2_with (first
    | (go_at_call 64; (with_reducible refine (HB.out _).mono ?_); rintro x w1 ⟨⟨k, rfl⟩, hb1⟩; have H1 := Lib.hid hb1; clear hb1)
    | (go_at_call 63; (with_reducible refine (HP.out _ _).mono ?_); rintro x w2 ⟨rfl, hb2⟩; have H2 := Lib.hid (bstep H1.out hb2); clear hb2))
  go_end0
  exact ⟨rfl, H2.out⟩

/-- A list whose addresses are of sixteen bytes, as such. -/
def toA16 (l : List AD) (h : ∀ a ∈ l, adOk a) : List A16 := l.attach.map fun (x : { a // a ∈ l }) => ⟨x.1, h x.1 x.2⟩
theorem toA16_val (l : List AD) (h : ∀ a ∈ l, adOk a) : (toA16 l h).map (·.1) = l := by
  unfold toA16
  rw [List.map_map]
  exact List.attach_map_subtype_val l
theorem toA16_length (l : List AD) (h : ∀ a ∈ l, adOk a) : (toA16 l h).length = l.length := by unfold toA16; simp
theorem isAgg_ad (w : World) : (isAgg 37).run Try.prog w = .ok true w := Try.isAgg37 w
theorem sizeOf_ad (w : World) : (Go.sizeOf 37).run Try.prog w = .ok 17 w := Try.sizeOf37 w
/-- The library's sort over a row of addresses of one's own. -/
theorem sort_any (base : Nat) (v : Value) (l : List AD) (w : World) (hok : ∀ a ∈ l, adOk a) (hown : OwnL w base v l) (hll : l.length ≤ 1000000) : Calls Try.prog 58 #[v, .func (.func 52) #[] #[]] w fun x w' => x = .returned (.tuple #[]) ∧ ∃ s : List AD, s.Perm l ∧ s.Pairwise (fun x y => ltA y x = false) ∧ OwnL w' base v s ∧ w.grownBy w' v.ownBlock := by
  have hown' := hown
  obtain ⟨h1, ⟨h2, h3⟩ | ⟨g, cap, cur, e1, e2, e3, e4, e5, e6, e7⟩⟩ := hown
  · subst h2
    have hl : l = [] := List.eq_nil_of_length_eq_zero h3
    subst hl
    exact (sort_nil _ w).mono fun _ _ ⟨hx, hb⟩ => ⟨hx, [], List.Perm.refl _, List.Pairwise.nil, World.ownsRow_nil _ _ _ _, hb.os, hb.tape, hb.output, hb.size, fun k hk _ => hb.block k hk⟩
  · subst e1
    have hg : g < w.heap.size := (Array.getElem?_eq_some_iff.1 e3).1
    have hH : Sort.HoldsK encA 17 w g 0 (toA16 l hok).toArray := holds_own e3 (by rw [toA16_length, toA16_val]; exact e7)
    have hsz : (toA16 l hok).toArray.size = l.length := by rw [List.size_toArray, toA16_length]
    have hcon := AnyQ.slices_SortFunc Try.sortAd 17 isAgg_ad sizeOf_ad encA encA_length encA_one cfA swoA 52 #[] g 0 cap (toA16 l hok).toArray w (enters_of Try.func52 (by kernel_rfl) rfl) (cmp_lays g 0 _ w) hH hg (by rw [hsz]; omega)
    change Calls Try.prog 58 _ _ _ at hcon
    rw [hsz] at hcon
    refine hcon.mono fun x w' ⟨hx, d', n, os, hp, hs, hw⟩ => ⟨hx, d'.toList.map (·.1), ?_, ?_, ?_, ?_⟩
    · have h := hp.2.2
      have hd : d'.size = l.length := by rw [hp.1, hsz]
      rw [Array.extract_eq_self_of_le (by omega), Array.extract_eq_self_of_le (by omega)] at h
      have := h.map (·.1)
      simpa [toA16_val] using this
    · have hd : d'.size = l.length := by rw [hp.1, hsz]
      rw [List.pairwise_iff_getElem]
      intro i j hi hj hij
      simp only [List.length_map, Array.length_toList] at hi hj
      have := hs i j (Nat.zero_le _) hij (by omega)
      rw [ltOf_cfA, getElem!_pos d' i hi, getElem!_pos d' j hj] at this
      simpa using this
    · have hd : d'.toList.length = l.length := by rw [Array.length_toList, hp.1, hsz]
      rw [hw]
      have := own_sorted (n := n) (os := os) hd hown'
      simpa using this
    · rw [hw]
      exact grown_sortedK _
end Go.Proofs.Ytokpogoblnhihaa

/-
  A row of addresses of one's own that is written in place, and the contract of slices.Compact.
-/
namespace Go.Proofs.Ytokpogoblnhihaa
open Go.RowKit
set_option linter.unusedVariables false
set_option linter.unusedSimpArgs false

theorem setCells_heap {g : Nat} : ∀ (cs : List Value) (o : Nat) {w : World} {cur : Array Value} {e : TypeId} {fr : Nat × Nat}, w.heap[g]? = some (.cells cur e fr) →
    ∃ cur' : Array Value, (w.setCells g o cs).heap[g]? = some (.cells cur' e fr) ∧ cur'.size = cur.size ∧ (∀ j, j < o ∨ o + cs.length ≤ j → cur'[j]? = cur[j]?) ∧ ∀ j (h : j < cs.length), o + j < cur.size → cur'[o + j]? = some cs[j]
  | [], o, w, cur, e, fr, h => ⟨cur, h, rfl, fun _ _ => rfl, fun j h => absurd h (by simp)⟩
  | v :: r, o, w, cur, e, fr, h => by
    have h1 : (w.setCell ⟨g, o, none⟩ v).heap[g]? = some (.cells (cur.setIfInBounds o v) e fr) := by
      rw [Sort.setCell_eq]; simp [Sort.mapBlock, Array.getElem?_modify, h, Sort.onCells]
    obtain ⟨cur', a, b, c, d⟩ := setCells_heap r (o + 1) h1
    refine ⟨cur', a, by rw [b]; simp, fun j hj => ?_, fun j hj hlt => ?_⟩
    · simp only [List.length_cons] at hj
      rw [c j (by omega), Array.getElem?_setIfInBounds]
      rw [if_neg (by omega)]
    · cases j with
      | zero =>
        rw [Nat.add_zero, c o (Or.inl (by omega)), Array.getElem?_setIfInBounds, if_pos rfl]
        simp at hlt ⊢
        exact hlt
      | succ j =>
        rw [show o + (j + 1) = o + 1 + j by omega, d j (by simpa using hj) (by simp; omega)]
        rfl
theorem ads_get : ∀ {l : List AD}, (∀ a ∈ l, adOk a) → ∀ (i : Nat) (h : i < l.length) (c : Nat), c < 17 → (adsC l)[i * 17 + c]? = (adC l[i])[c]?
  | [], _, i, h, c, _ => by simp at h
  | a :: r, ho, i, h, c, hc => by
    have e : adsC (a :: r) = adC a ++ adsC r := by unfold adsC; simp
    have l1 : (adC a).length = 17 := adC_length (ho a (by simp))
    rw [e]
    cases i with
    | zero => rw [List.getElem?_append_left (by omega)]; simp
    | succ i =>
      rw [List.getElem?_append_right (by omega), l1, show (i + 1) * 17 + c - 17 = i * 17 + c by omega, ads_get (fun x hx => ho x (by simp [hx])) i (by simpa using h) c hc]
      rfl
theorem own_free {w : World} {base g n cap : Nat} {l : List AD} (h : OwnL w base (.slice (some ⟨g, 0, none⟩) n cap) l) (o m : Nat) (hm : o + m ≤ cap * 17) : free? w g o m = true := by
  obtain ⟨h1, ⟨h2, _⟩ | ⟨g', cap', cur, e1, e2, e3, e4, e5, e6, e7⟩⟩ := h
  · cases h2
  · cases e1
    refine free_of fun j hj => ⟨?_, by simp [World.frozen?, e3]⟩
    simp only [World.cell?, e3, Option.isSome_none, Bool.false_eq_true, if_false]
    rw [Array.getElem?_eq_getElem (by omega)]; rfl
theorem own_set {w : World} {base g n cap : Nat} {l : List AD} (hok : ∀ a ∈ l, adOk a) (h : OwnL w base (.slice (some ⟨g, 0, none⟩) n cap) l) (i : Nat) (hi : i < l.length) (a : AD) (ha : adOk a) : OwnL (aggO w g (i * 17) (adC a)) base (.slice (some ⟨g, 0, none⟩) n cap) (l.set i a) := by
  rw [aggO_eq]
  obtain ⟨h1, ⟨h2, _⟩ | ⟨g', cap', cur, e1, e2, e3, e4, e5, e6, e7⟩⟩ := h
  · cases h2
  · cases e1
    have hok2 : ∀ x ∈ l.set i a, adOk x := fun x hx => by
      rcases List.mem_or_eq_of_mem_set hx with h | h
      · exact hok x h
      · rw [h]; exact ha
    have hla : (adC a).length = 17 := adC_length ha
    obtain ⟨cur', c1, c2, c3, c4⟩ := setCells_heap (adC a) (i * 17) e3
    refine ⟨by rw [adsC_length' hok2], .inr ⟨g, cap, cur', by rw [List.length_set], e2, c1, by rw [List.length_set]; exact e4, e5, by rw [c2, e6], ?_⟩⟩
    rw [List.length_set]
    apply List.ext_getElem?
    intro j
    by_cases hj : j < l.length * 17
    · rw [List.getElem?_take_of_lt hj, Array.getElem?_toList]
      have hq : j / 17 < l.length := by omega
      have hj2 : j = j / 17 * 17 + j % 17 := by omega
      have hg := ads_get hok2 (j / 17) (by rw [List.length_set]; exact hq) (j % 17) (Nat.mod_lt _ (by omega))
      rw [← hj2, List.getElem_set] at hg
      rw [hg]
      by_cases e : i = j / 17
      · rw [if_pos e, List.getElem?_eq_getElem (by rw [hla]; exact Nat.mod_lt _ (by omega))]
        have := c4 (j % 17) (by rw [hla]; exact Nat.mod_lt _ (by omega)) (by rw [e6, e]; have : l.length * 17 ≤ cap * 17 := Nat.mul_le_mul_right _ e4; omega)
        rw [e, ← hj2] at this
        exact this
      · rw [if_neg e, c3 j (by rw [hla]; omega), ← ads_get hok (j / 17) hq (j % 17) (Nat.mod_lt _ (by omega)), ← hj2, ← e7, List.getElem?_take_of_lt hj, Array.getElem?_toList]
    · rw [List.getElem?_take_eq_none (by omega), List.getElem?_eq_none (by rw [adsC_length' hok2, List.length_set]; omega)]
/-- The row behind a place is written over, and the slice cut there. -/
theorem own_cut {w : World} {base g n cap : Nat} {d r : List AD} (hok : ∀ a ∈ d ++ r, adOk a) (h : OwnL w base (.slice (some ⟨g, 0, none⟩) n cap) (d ++ r)) (cs : List Value) : OwnL (aggO w g (d.length * 17) cs) base (.slice (some ⟨g, 0, none⟩) d.length cap) d := by
  rw [aggO_eq]
  obtain ⟨h1, ⟨h2, _⟩ | ⟨g', cap', cur, e1, e2, e3, e4, e5, e6, e7⟩⟩ := h
  · cases h2
  · cases e1
    have hd : ∀ a ∈ d, adOk a := fun a ha => hok a (List.mem_append.2 (Or.inl ha))
    obtain ⟨cur', c1, c2, c3, c4⟩ := setCells_heap cs (d.length * 17) e3
    have e4' : d.length ≤ cap := by rw [List.length_append] at e4; omega
    refine ⟨adsC_length' hd, .inr ⟨g, cap, cur', rfl, e2, c1, e4', e5, by rw [c2, e6], ?_⟩⟩
    have e8 : cur.toList.take (d.length * 17) = adsC d := by
      have := congrArg (List.take (d.length * 17)) e7
      rw [List.take_take, Nat.min_eq_left (by rw [List.length_append]; exact Nat.mul_le_mul_right _ (by omega)), adsC_append, List.take_left' (adsC_length' hd)] at this
      exact this
    rw [← e8]
    apply List.ext_getElem?
    intro j
    by_cases hj : j < d.length * 17
    · rw [List.getElem?_take_of_lt hj, List.getElem?_take_of_lt hj, Array.getElem?_toList, Array.getElem?_toList, c3 j (Or.inl hj)]
    · rw [List.getElem?_take_eq_none (by omega), List.getElem?_take_eq_none (by omega)]
theorem own_row {w : World} {base g n cap : Nat} {l : List AD} (hok : ∀ a ∈ l, adOk a) (hn : n = l.length) (h : OwnL w base (.slice (some ⟨g, 0, none⟩) n cap) l) (i : Nat) (hi : i < l.length) : row? w g (i * 17) 17 = some (adC l[i]) := by
  subst hn
  rcases own_at hok h with ⟨e, _⟩ | ⟨g', e, _, h2⟩
  · cases e
  · cases e
    have := h2 i hi
    rwa [Nat.zero_add] at this
theorem str_addrO (b o : Nat) (cs : Array Value) (w : World) : (aggSt 37 ⟨b, o, none⟩ (.agg cs)).run Try.prog w = match free? w b o 17 && fok cs 17 with | true => .ok () (aggO w b o cs.toList) | false => aggStSlow 37 b o (.agg cs) w := by
  split
  · rename_i h
    simp only [Bool.and_eq_true, fok, beq_iff_eq] at h
    obtain ⟨h1, h2, h3⟩ := h
    rw [aggO_eq]
    exact run_storeVar_mid w b o 37 cs (by rw [h2]; exact of_free h1) (by rw [h2]; kernel_rfl) h3
  · rfl
def zeroCs : Array Value := #[.bool false, .int .u8 0, .int .u8 0, .int .u8 0, .int .u8 0, .int .u8 0, .int .u8 0, .int .u8 0, .int .u8 0, .int .u8 0, .int .u8 0, .int .u8 0, .int .u8 0, .int .u8 0, .int .u8 0, .int .u8 0, .int .u8 0]
def clrC (n : Nat) : List Value := (Builtin.zeroCells zeroCs n).toList
theorem clrC_length (n : Nat) : (clrC n).length = n * 17 := by unfold clrC Builtin.zeroCells; simp [zeroCs]
theorem clrC_one (n : Nat) : ∀ v ∈ clrC n, v.oneCell' = true := by
  intro v hv
  unfold clrC Builtin.zeroCells at hv
  simp only [Array.toList_map, List.mem_map] at hv
  obtain ⟨i, _, rfl⟩ := hv
  have : ∀ k, k < 17 → (zeroCs[k]!).oneCell' = true := by decide +kernel
  exact this _ (Nat.mod_lt _ (by decide))
theorem run_clear_ad (w : World) (ty : TypeId) (b o n c : Nat) (hn : 0 < n) (hf : free? w b o (n * 17) = true) :
    (Builtin.clear_ #[22] ty #[.slice (some ⟨b, o, none⟩) n c]).run Try.prog w = .ok (.tuple #[]) (aggO w b o (clrC n)) := by
  have hst := run_storeCells_cells (P := Try.prog) b o (clrC n) 0 w (fun j hj => by rw [clrC_length] at hj; simpa using (of_free hf j hj).1) (fun j hj => by rw [clrC_length] at hj; simpa using (of_free hf j hj).2) (clrC_one n)
  simp only [Nat.add_zero] at hst
  obtain ⟨m, rfl⟩ : ∃ m, n = m + 1 := ⟨n - 1, by omega⟩
  have hz : ∀ w, (zeroValue 37).run Try.prog w = .ok (.agg zeroCs) w := Try.zeroValue37
  have hc : (Builtin.zeroCells (Value.agg zeroCs).cells (m + 1)).toList = clrC (m + 1) := rfl
  rw [aggO_eq]
  simp [Builtin.clear_, run_underlying Try.underlying22, hz, hc, hst]
end Go.Proofs.Ytokpogoblnhihaa

