/-
  The contract of ip6.Options.
-/
import Derived.Test.YtkmnnkklbgnfpaaIqG
import Derived.Test.YtkmnnkklbgnfpaaMgb
namespace Go.Proofs.Ytkmnnkklbgnfpaa
open Go.RowKit
set_option linter.unusedVariables false

theorem str_toList (l : List UInt8) : (Str l).toList = l := by
  rw [ByteArray.toList_eq]; simp [Str]
theorem by8_num (l : List UInt8) (h : 0 < l.length) : num (l.take 1) = by8 l 0 := by
  match l, h with
  | a :: r, _ => show num [a] = _; rw [num1]; rfl
/-- Num 1 of a reader that has a byte, and of one that has none. -/
theorem one_good (b : Nat) (l : List UInt8) (k : Nat) (h0 : 0 < l.length) (hl : l.length ≤ 1000000) (hk : k ≤ 1000000) (w : World) (h : RdAt w b l k false) :
    Calls Try.prog 30 #[.pointer (some ⟨b, 0, none⟩), .int .i64 1] w fun e w' => e = .returned (.int .u64 (by8 l 0)) ∧ RdAt w' b (l.drop 1) (k + 1) false ∧ w.grownBy w' (some b) := by
  have := numq_any b l k false 1 (by omega) hl hk w h
  obtain ⟨e1, e2, e3, e4⟩ := rd_good (l := l) (n := 1) (k := k) (by omega)
  rw [e1, e2, e3, e4, by8_num l h0] at this
  exact this
theorem one_short (b : Nat) (l : List UInt8) (k : Nat) (h0 : l.length = 0) (hk : k ≤ 1000000) (w : World) (h : RdAt w b l k false) :
    Calls Try.prog 30 #[.pointer (some ⟨b, 0, none⟩), .int .i64 1] w fun e w' => e = .returned (.int .u64 0) ∧ RdAt w' b l k true ∧ w.grownBy w' (some b) := by
  have := numq_any b l k false 1 (by omega) (by omega) hk w h
  obtain ⟨e1, e2, e3, e4⟩ := rd_short (l := l) (n := 1) (k := k) (by omega)
  rw [e1, e2, e3, e4] at this
  exact this
theorem take_good (b : Nat) (l : List UInt8) (k n : Nat) (hn : n ≤ l.length) (hl : l.length ≤ 1000000) (hk : k ≤ 1000000) (w : World) (h : RdAt w b l k false) :
    Calls Try.prog 31 #[.pointer (some ⟨b, 0, none⟩), .int .i64 n] w fun e w' => e = .returned (.string (Str (l.take n))) ∧ RdAt w' b (l.drop n) (k + n) false ∧ w.grownBy w' (some b) := by
  have := take_any b l k false n hl hk w h
  obtain ⟨e1, e2, e3, e4⟩ := rd_good (l := l) (n := n) (k := k) hn
  rw [e1, e2, e3, e4] at this
  exact this
theorem take_short (b : Nat) (l : List UInt8) (k n : Nat) (hn : l.length < n) (hl : l.length ≤ 1000000) (hk : k ≤ 1000000) (w : World) (h : RdAt w b l k false) :
    Calls Try.prog 31 #[.pointer (some ⟨b, 0, none⟩), .int .i64 n] w fun e w' => e = .returned (.string (Str [])) ∧ RdAt w' b l k true ∧ w.grownBy w' (some b) := by
  have := take_any b l k false n hl hk w h
  obtain ⟨e1, e2, e3, e4⟩ := rd_short (l := l) (n := n) (k := k) hn
  rw [e1, e2, e3, e4] at this
  exact this
theorem take_dead (b : Nat) (l : List UInt8) (k : Nat) (n : Int) (hl : l.length ≤ 1000000) (hk : k ≤ 1000000) (w : World) (h : RdAt w b l k true) :
    Calls Try.prog 31 #[.pointer (some ⟨b, 0, none⟩), .int .i64 n] w fun e w' => e = .returned (.string (Str [])) ∧ RdAt w' b l k true ∧ w.grownBy w' (some b) := by
  have := take_any b l k true n hl hk w h
  obtain ⟨e1, e2, e3, e4⟩ := rd_dead (l := l) (n := n) (k := k)
  rw [e1, e2, e3, e4] at this
  exact this
/-- The alert's test. -/
theorem al6_told (l : List UInt8) (h : by8 l 1 + 2 ≤ l.length) : al6 l = (decide (by8 l 0 = 5) && ((l.drop 2).take (by8 l 1) == [0, 0])) := by
  match l, h with
  | [], h => exact absurd h (by simp)
  | [a], h => exact absurd h (by simp)
  | a :: b :: r, h =>
    have e0 : by8 (a :: b :: r) 0 = a.toNat := rfl
    have e1 : by8 (a :: b :: r) 1 = b.toNat := rfl
    unfold al6
    rw [e0, e1]
    rw [e1] at h
    simp only [List.drop_succ_cons, List.drop_zero, List.length_cons] at h ⊢
    rw [Bool.eq_iff_iff]
    simp only [decide_eq_true_eq, Bool.and_eq_true, beq_iff_eq]
    constructor
    · rintro ⟨h1, h2, h3, h4⟩
      refine ⟨h1, ?_⟩
      rw [h2]
      match r, h with
      | [], h => exact absurd h (by simp; omega)
      | [c], h => exact absurd h (by simp; omega)
      | c :: d :: q, h =>
        have h3' : c.toNat = 0 := h3
        have h4' : d.toNat = 0 := h4
        rw [UInt8.toNat_inj.1 (show c.toNat = (0 : UInt8).toNat from h3'), UInt8.toNat_inj.1 (show d.toNat = (0 : UInt8).toNat from h4')]
        rfl
    · rintro ⟨h1, h2⟩
      have hl := congrArg List.length h2
      simp at hl
      have hb : b.toNat = 2 := by omega
      rw [hb] at h2
      refine ⟨h1, hb, ?_⟩
      match r, h2 with
      | [], h2 => simp at h2
      | [c], h2 => simp at h2
      | c :: d :: q, h2 =>
        simp at h2
        obtain ⟨rfl, rfl⟩ := h2
        exact ⟨rfl, rfl⟩

/-- The reader of Options, and what was ahead. -/
def OQ (w W : World) (L l : List UInt8) (k : Nat) (bad : Bool) : Prop := RdAt W w.heap.size l k bad ∧ Below w.heap.size w W ∧ l.length ≤ L.length ∧ k ≤ L.length
theorem OQ.start (w : World) (L : List UInt8) : OQ w (w.alloc (.cells #[.string (Str L), .int .i64 0, .bool false] 62)) L L 0 false :=
  ⟨ObjAt.made w _ _, (Below.refl _ _).alloc (Nat.le_refl _) _, Nat.le_refl _, by omega⟩
theorem OQ.size {w W : World} {L l : List UInt8} {k : Nat} {bad : Bool} (h : OQ w W L l k bad) : (match W.cell? ⟨w.heap.size, 0, none⟩ with | some (.string t) => t.size | _ => 0) = l.length := by
  have := ObjAt.cell h.1 0
  simp at this
  rw [this]
  simp [Str_size]
theorem OQ.grown {w W W' : World} {L l l' : List UInt8} {k k' : Nat} {bad bad' : Bool} (h : OQ w W L l k bad) (hr : RdAt W' w.heap.size l' k' bad') (hg : W.grownBy W' (some w.heap.size)) (hl : l'.length ≤ L.length) (hk : k' ≤ L.length) : OQ w W' L l' k' bad' :=
  ⟨hr, bgrown h.2.1 hg (fun n hn => by simp at hn; omega), hl, hk⟩

set_option maxRecDepth 100000 in
set_option maxHeartbeats 4000000 in
theorem opt6_any (L : List UInt8) (hL : L.length ≤ 100000) (w : World) : Calls Try.prog 16 #[.string (Str L)] w fun x w' => x = .returned (.tuple #[.bool (optQ false L).1, .int .i64 (optQ false L).2]) ∧ Below w.heap.size w w' := by
  obtain ⟨R, hR⟩ : ∃ R, R = optQ false L := ⟨_, rfl⟩
  rw [← hR]
  have HR := Lib.hid hR; clear hR
  have H0 := Lib.hid (OQ.start w L)
  go_enter Try.func16, Try.ntmps16
  go_wp2_with (go_at_call 28; refine (new_any (Str L) _).mono ?_; rintro x w1 ⟨rfl, rfl⟩)
  go_loopw [4, 6, 7] (fun a x t wr => ∃ (l : List UInt8) (is : Bool) (k : Nat), a = .bool is ∧ k + l.length = L.length ∧ R = optQ is l ∧ Hid (OQ w wr L l k false)) (fun _ _ _ wr => match wr.cell? ⟨w.heap.size, 0, none⟩ with | some (.string t) => t.size | _ => 0)
  case atStart => exact ⟨L, false, 0, rfl, by omega, HR.out, H0⟩
  case round =>
    obtain ⟨l, is, k, rfl, hkl, hRl, HQ⟩ := hrel
    have HRl := Lib.hid hRl; clear hRl
    have HM0 : Hid (∀ W, OQ w W L l k false → (match W.cell? ⟨w.heap.size, 0, none⟩ with | some (.string t) => t.size | _ => 0) = l.length) := Lib.hid fun W h => h.size
    have HLf : Hid (∀ W, OQ w W L l k false → Calls Try.prog 29 #[.pointer (some ⟨w.heap.size, 0, none⟩)] W fun e w' => e = .returned (.int .i64 l.length) ∧ w' = W) := Lib.hid fun W h => left_any _ l k false W h.1
    have HBD : Hid (∀ W l' k' bad, OQ w W L l' k' bad → Calls Try.prog 32 #[.pointer (some ⟨w.heap.size, 0, none⟩)] W fun e w' => e = .returned (.bool bad) ∧ w' = W) := Lib.hid fun W l' k' bad h => bad_any _ l' k' bad W h.1
    by_cases hl0 : l.length = 0
    · have HV := Lib.hid (show R = (is, 0) by rw [HRl.out]; exact optQ_nil is _ hl0)
      have hd : ¬ ((0 : Int) < (l.length : Int)) := by omega
      clear hkl hl0
      go_wp2_with (first
        | (go_at_call 29; (with_reducible refine (HLf.out _ HQ.out).mono ?_); rintro e w0 ⟨rfl, hw0⟩; subst hw0))
      go_ret2
      exact ⟨by rw [HV.out]; rfl, HQ.out.2.1⟩
    · have hpos : 0 < l.length := by omega
      have hd : (0 : Int) < (l.length : Int) := by omega
      have b0 := by8_lt l 0
      have b1 := by8_lt l 1
      have q1 : by8 (l.drop 1) 0 = by8 l 1 := by8_drop l 1 0
      obtain ⟨x, hxe⟩ : ∃ x, x = by8 l 0 := ⟨_, rfl⟩
      have hl1 : (l.drop 1).length = l.length - 1 := by simp
      have hl2 : (l.drop (1 + 1)).length = l.length - 2 := by simp
      have HN1 : Hid (∀ W, OQ w W L (l) (k) false → Calls Try.prog 30 #[.pointer (some ⟨w.heap.size, 0, none⟩), .int .i64 1] W fun e w' => e = .returned (.int .u64 (x : Int)) ∧ OQ w w' L (l.drop 1) (k + 1) false) := Lib.hid fun W h => by
        have hone := one_good w.heap.size l k hpos (by omega) (by omega) W h.1
        rw [← hxe] at hone
        refine hone.mono ?_
        rintro e w1 ⟨rfl, hr, hg⟩
        exact ⟨rfl, h.grown hr hg (by omega) (by omega)⟩
      by_cases hz : by8 l 0 = 0
      · have HV := Lib.hid (show R = optQ is (l.drop 1) by rw [HRl.out, optQ_pad is _ hpos hz])
        have hx : ((x : Int) == 0) = true := by simp; omega
        have HKL := Lib.hid (show k + 1 + (l.drop 1).length = L.length by omega)
        have HME := Lib.hid (show (l.drop 1).length < l.length by omega)
        clear hxe hz hkl hl1 hl2 q1 b0 b1 hl0 hpos
        generalize l.drop 1 = l1 at *
        go_wp2_with (first
          | (go_at_call 29; (with_reducible refine (HLf.out _ HQ.out).mono ?_); rintro e w0 ⟨rfl, hw0⟩; subst hw0)
          | (go_at_call 30; (with_reducible refine (HN1.out _ HQ.out).mono ?_); rintro e w1 ⟨rfl, hq1⟩; have Q1 := Lib.hid hq1; clear hq1))
        go_roundw
        case rel => exact ⟨l1, is, k + 1, rfl, HKL.out, HV.out, Q1⟩
        case measure =>
          rw [HM0.out _ HQ.out, Q1.out.size]
          exact HME.out
      · have hx : ((x : Int) == 0) = false := by simp; omega
        by_cases h2 : l.length < 2
        · have HV := Lib.hid (show R = (false, 2) by rw [HRl.out]; exact optQ_end is _ hpos hz (Or.inl h2))
          have HN2 : Hid (∀ W, OQ w W L (l.drop 1) (k + 1) false → Calls Try.prog 30 #[.pointer (some ⟨w.heap.size, 0, none⟩), .int .i64 1] W fun e w' => e = .returned (.int .u64 0) ∧ OQ w w' L (l.drop 1) (k + 1) true) := Lib.hid fun W h => by
            refine (one_short _ (l.drop 1) (k + 1) (by omega) (by omega) _ h.1).mono ?_
            rintro e w1 ⟨rfl, hr, hg⟩
            exact ⟨rfl, h.grown hr hg (by omega) (by omega)⟩
          have HT3 : Hid (∀ W, OQ w W L (l.drop 1) (k + 1) true → Calls Try.prog 31 #[.pointer (some ⟨w.heap.size, 0, none⟩), .int .i64 0] W fun e w' => e = .returned (.string (Str [])) ∧ OQ w w' L (l.drop 1) (k + 1) true) := Lib.hid fun W h => by
            refine (take_dead _ (l.drop 1) (k + 1) 0 (by omega) (by omega) _ h.1).mono ?_
            rintro e w1 ⟨rfl, hr, hg⟩
            exact ⟨rfl, h.grown hr hg (by omega) (by omega)⟩
          clear hxe hz hkl hl1 hl2 q1 b0 b1 hl0 hpos h2
          generalize l.drop 1 = l1 at *
          go_wp2_with (first
            | (go_at_call 29; (with_reducible refine (HLf.out _ HQ.out).mono ?_); rintro e w0 ⟨rfl, hw0⟩; subst hw0)
            | (go_at_call 30; (with_reducible refine (HN1.out _ HQ.out).mono ?_); rintro e w1 ⟨rfl, hq1⟩; have Q1 := Lib.hid hq1; clear hq1)
            | (go_at_call 30; (with_reducible refine (HN2.out _ Q1.out).mono ?_); rintro e w2 ⟨rfl, hq1⟩; have Q2 := Lib.hid hq1; clear hq1)
            | (go_at_call 31; (with_reducible refine (HT3.out _ Q2.out).mono ?_); rintro e w3 ⟨rfl, hq1⟩; have Q3 := Lib.hid hq1; clear hq1)
            | (go_at_call 32; (with_reducible refine (HBD.out _ _ _ _ Q3.out).mono ?_); rintro e w4 ⟨rfl, hw4⟩; subst hw4))
          go_ret2
          exact ⟨by rw [HV.out]; rfl, Q3.out.2.1⟩
        · obtain ⟨n, hn⟩ : ∃ n, n = by8 l 1 := ⟨_, rfl⟩
          have hwn : IntKind.i64.wrap (n : Int) = (n : Int) := by simp only [IntKind.wrap_i64]; omega
          rw [← hn] at q1
          have HN2 : Hid (∀ W, OQ w W L (l.drop 1) (k + 1) false → Calls Try.prog 30 #[.pointer (some ⟨w.heap.size, 0, none⟩), .int .i64 1] W fun e w' => e = .returned (.int .u64 (n : Int)) ∧ OQ w w' L (l.drop (1 + 1)) (k + 1 + 1) false) := Lib.hid fun W h => by
            have := one_good w.heap.size (l.drop 1) (k + 1) (by omega) (by omega) (by omega) W h.1
            rw [q1, List.drop_drop] at this
            refine (this).mono ?_
            rintro e w1 ⟨rfl, hr, hg⟩
            exact ⟨rfl, h.grown hr hg (by omega) (by omega)⟩
          by_cases h3 : l.length < n + 2
          · have HV := Lib.hid (show R = (false, 2) by rw [HRl.out]; exact optQ_end is _ hpos hz (Or.inr (by omega)))
            have HT3 : Hid (∀ W, OQ w W L (l.drop (1 + 1)) (k + 1 + 1) false → Calls Try.prog 31 #[.pointer (some ⟨w.heap.size, 0, none⟩), .int .i64 (n : Int)] W fun e w' => e = .returned (.string (Str [])) ∧ OQ w w' L (l.drop (1 + 1)) (k + 1 + 1) true) := Lib.hid fun W h => by
              refine (take_short _ (l.drop (1 + 1)) (k + 1 + 1) n (by omega) (by omega) (by omega) _ h.1).mono ?_
              rintro e w1 ⟨rfl, hr, hg⟩
              exact ⟨rfl, h.grown hr hg (by omega) (by omega)⟩
            clear hxe hz hkl hl1 hl2 q1 b0 b1 hl0 hpos h2 h3 hn
            generalize l.drop (1 + 1) = l2 at *
            generalize l.drop 1 = l1 at *
            go_wp2_with (first
              | (go_at_call 29; (with_reducible refine (HLf.out _ HQ.out).mono ?_); rintro e w0 ⟨rfl, hw0⟩; subst hw0)
              | (go_at_call 30; (with_reducible refine (HN1.out _ HQ.out).mono ?_); rintro e w1 ⟨rfl, hq1⟩; have Q1 := Lib.hid hq1; clear hq1)
              | (go_at_call 30; (with_reducible refine (HN2.out _ Q1.out).mono ?_); rintro e w2 ⟨rfl, hq1⟩; have Q2 := Lib.hid hq1; clear hq1)
              | (go_at_call 31; (with_reducible refine (HT3.out _ Q2.out).mono ?_); rintro e w3 ⟨rfl, hq1⟩; have Q3 := Lib.hid hq1; clear hq1)
              | (go_at_call 32; (with_reducible refine (HBD.out _ _ _ _ Q3.out).mono ?_); rintro e w4 ⟨rfl, hw4⟩; subst hw4))
            go_ret2
            exact ⟨by rw [HV.out]; rfl, Q3.out.2.1⟩
          · have hnend : ¬ (l.length < 2 ∨ l.length < by8 l 1 + 2) := by omega
            have hl3 : (l.drop (1 + 1 + n)).length = l.length - (2 + n) := by simp
            have HT3 : Hid (∀ W, OQ w W L (l.drop (1 + 1)) (k + 1 + 1) false → Calls Try.prog 31 #[.pointer (some ⟨w.heap.size, 0, none⟩), .int .i64 (n : Int)] W fun e w' => e = .returned (.string (Str ((l.drop (1 + 1)).take n))) ∧ OQ w w' L (l.drop (1 + 1 + n)) (k + 1 + 1 + n) false) := Lib.hid fun W h => by
              have := take_good w.heap.size (l.drop (1 + 1)) (k + 1 + 1) n (by omega) (by omega) (by omega) W h.1
              rw [List.drop_drop] at this
              refine (this).mono ?_
              rintro e w1 ⟨rfl, hr, hg⟩
              exact ⟨rfl, h.grown hr hg (by omega) (by omega)⟩
            have HKL := Lib.hid (show k + 1 + 1 + n + (l.drop (1 + 1 + n)).length = L.length by omega)
            have HME := Lib.hid (show (l.drop (1 + 1 + n)).length < l.length by omega)
            have hst := str_toList ((l.drop (1 + 1)).take n)
            by_cases hk : 63 < by8 l 0
            · have HV := Lib.hid (show R = (false, 5) by rw [HRl.out]; exact optQ_kind is _ hpos hz hnend (by omega))
              have hsh : ((x : Int) / 64 != 0) = true := by simp; omega
              clear hxe hz hkl hl1 hl2 hl3 q1 b0 b1 hl0 hpos h2 h3 hn hnend hk HRl
              generalize l.drop (1 + 1 + n) = l3 at *
              generalize (l.drop (1 + 1)).take n = t at *
              generalize l.drop (1 + 1) = l2 at *
              generalize l.drop 1 = l1 at *
              go_wp2_with (first
                | (go_at_call 29; (with_reducible refine (HLf.out _ HQ.out).mono ?_); rintro e w0 ⟨rfl, hw0⟩; subst hw0)
                | (go_at_call 30; (with_reducible refine (HN1.out _ HQ.out).mono ?_); rintro e w1 ⟨rfl, hq1⟩; have Q1 := Lib.hid hq1; clear hq1)
                | (go_at_call 30; (with_reducible refine (HN2.out _ Q1.out).mono ?_); rintro e w2 ⟨rfl, hq1⟩; have Q2 := Lib.hid hq1; clear hq1)
                | (go_at_call 31; (with_reducible refine (HT3.out _ Q2.out).mono ?_); rintro e w3 ⟨rfl, hq1⟩; have Q3 := Lib.hid hq1; clear hq1)
                | (go_at_call 32; (with_reducible refine (HBD.out _ _ _ _ Q3.out).mono ?_); rintro e w4 ⟨rfl, hw4⟩; subst hw4))
              go_ret2
              exact ⟨by rw [HV.out]; rfl, Q3.out.2.1⟩
            · have HV := Lib.hid (show R = optQ (is || (decide (by8 l 0 = 5) && ((l.drop (1 + 1)).take n == [0, 0]))) (l.drop (1 + 1 + n)) by
                rw [HRl.out, optQ_step is _ hpos hz hnend (by omega), al6_told l (by omega), ← hn, show n + 2 = 1 + 1 + n by omega])
              have hsh : ((x : Int) / 64 != 0) = false := by simp; omega
              cases is with
              | true =>
                have HV2 := Lib.hid (show R = optQ true (l.drop (1 + 1 + n)) by rw [HV.out, Bool.true_or])
                clear HV
                clear hxe hz hkl hl1 hl2 hl3 q1 b0 b1 hl0 hpos h2 h3 hn hnend hk HRl
                generalize l.drop (1 + 1 + n) = l3 at *
                generalize (l.drop (1 + 1)).take n = t at *
                generalize l.drop (1 + 1) = l2 at *
                generalize l.drop 1 = l1 at *
                go_wp2_with (first
                  | (go_at_call 29; (with_reducible refine (HLf.out _ HQ.out).mono ?_); rintro e w0 ⟨rfl, hw0⟩; subst hw0)
                  | (go_at_call 30; (with_reducible refine (HN1.out _ HQ.out).mono ?_); rintro e w1 ⟨rfl, hq1⟩; have Q1 := Lib.hid hq1; clear hq1)
                  | (go_at_call 30; (with_reducible refine (HN2.out _ Q1.out).mono ?_); rintro e w2 ⟨rfl, hq1⟩; have Q2 := Lib.hid hq1; clear hq1)
                  | (go_at_call 31; (with_reducible refine (HT3.out _ Q2.out).mono ?_); rintro e w3 ⟨rfl, hq1⟩; have Q3 := Lib.hid hq1; clear hq1)
                  | (go_at_call 32; (with_reducible refine (HBD.out _ _ _ _ Q3.out).mono ?_); rintro e w4 ⟨rfl, hw4⟩; subst hw4))
                go_roundw
                case rel => exact ⟨l3, true, k + 1 + 1 + n, rfl, HKL.out, HV2.out, Q3⟩
                case measure =>
                  rw [HM0.out _ HQ.out, Q3.out.size]
                  exact HME.out
              | false =>
                by_cases h5 : by8 l 0 = 5
                · have hx5 : ((x : Int) == 5) = true := by simp; omega
                  have HV2 := Lib.hid (show R = optQ ((l.drop (1 + 1)).take n == [0, 0]) (l.drop (1 + 1 + n)) by rw [HV.out, decide_eq_true h5, Bool.true_and, Bool.false_or])
                  clear HV h5
                  clear hxe hz hkl hl1 hl2 hl3 q1 b0 b1 hl0 hpos h2 h3 hn hnend hk HRl
                  generalize l.drop (1 + 1 + n) = l3 at *
                  generalize (l.drop (1 + 1)).take n = t at *
                  generalize l.drop (1 + 1) = l2 at *
                  generalize l.drop 1 = l1 at *
                  go_wp2_with (first
                    | (go_at_call 29; (with_reducible refine (HLf.out _ HQ.out).mono ?_); rintro e w0 ⟨rfl, hw0⟩; subst hw0)
                    | (go_at_call 30; (with_reducible refine (HN1.out _ HQ.out).mono ?_); rintro e w1 ⟨rfl, hq1⟩; have Q1 := Lib.hid hq1; clear hq1)
                    | (go_at_call 30; (with_reducible refine (HN2.out _ Q1.out).mono ?_); rintro e w2 ⟨rfl, hq1⟩; have Q2 := Lib.hid hq1; clear hq1)
                    | (go_at_call 31; (with_reducible refine (HT3.out _ Q2.out).mono ?_); rintro e w3 ⟨rfl, hq1⟩; have Q3 := Lib.hid hq1; clear hq1)
                    | (go_at_call 32; (with_reducible refine (HBD.out _ _ _ _ Q3.out).mono ?_); rintro e w4 ⟨rfl, hw4⟩; subst hw4))
                  go_roundw
                  case rel => exact ⟨l3, _, k + 1 + 1 + n, rfl, HKL.out, HV2.out, Q3⟩
                  case measure =>
                    rw [HM0.out _ HQ.out, Q3.out.size]
                    exact HME.out
                · have hx5 : ((x : Int) == 5) = false := by simp; omega
                  have HV2 := Lib.hid (show R = optQ false (l.drop (1 + 1 + n)) by rw [HV.out, decide_eq_false h5, Bool.false_and, Bool.false_or])
                  clear HV h5
                  clear hxe hz hkl hl1 hl2 hl3 q1 b0 b1 hl0 hpos h2 h3 hn hnend hk HRl
                  generalize l.drop (1 + 1 + n) = l3 at *
                  generalize (l.drop (1 + 1)).take n = t at *
                  generalize l.drop (1 + 1) = l2 at *
                  generalize l.drop 1 = l1 at *
                  go_wp2_with (first
                    | (go_at_call 29; (with_reducible refine (HLf.out _ HQ.out).mono ?_); rintro e w0 ⟨rfl, hw0⟩; subst hw0)
                    | (go_at_call 30; (with_reducible refine (HN1.out _ HQ.out).mono ?_); rintro e w1 ⟨rfl, hq1⟩; have Q1 := Lib.hid hq1; clear hq1)
                    | (go_at_call 30; (with_reducible refine (HN2.out _ Q1.out).mono ?_); rintro e w2 ⟨rfl, hq1⟩; have Q2 := Lib.hid hq1; clear hq1)
                    | (go_at_call 31; (with_reducible refine (HT3.out _ Q2.out).mono ?_); rintro e w3 ⟨rfl, hq1⟩; have Q3 := Lib.hid hq1; clear hq1)
                    | (go_at_call 32; (with_reducible refine (HBD.out _ _ _ _ Q3.out).mono ?_); rintro e w4 ⟨rfl, hw4⟩; subst hw4))
                  go_roundw
                  case rel => exact ⟨l3, false, k + 1 + 1 + n, rfl, HKL.out, HV2.out, Q3⟩
                  case measure =>
                    rw [HM0.out _ HQ.out, Q3.out.size]
                    exact HME.out
end Go.Proofs.Ytkmnnkklbgnfpaa
