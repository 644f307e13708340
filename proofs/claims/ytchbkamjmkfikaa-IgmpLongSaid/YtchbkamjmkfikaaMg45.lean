/-
  Texts joined: TkP, Tl, PureTkB, TlR.
-/
import Derived.Test.YtchbkamjmkfikaaMg16
import Derived.Test.YtchbkamjmkfikaaMg20
import Derived.Test.YtchbkamjmkfikaaTqB
import Derived.Test.YtchbkamjmkfikaaMg25
import Derived.Test.YtchbkamjmkfikaaIgZ
import Derived.Test.YtchbkamjmkfikaaIgH
/-
  The contracts of package igmp: good8_any, same8_any (XIgD, XIgC), write8_any (XIgZ), read8_any (XIgH).
-/
namespace Go.Proofs.Ytchbkamjmkfikaa
end Go.Proofs.Ytchbkamjmkfikaa

/-
  The small living call of the laws on talks of IGMP.
-/
namespace Go.Proofs.Ytchbkamjmkfikaa
open Go.RowKit
set_option linter.unusedVariables false
attribute [local go_sem ↓] ld_addr st_addr bld_addr ld_tk st_tk bld_tk
attribute [local go_sem] ldr_addr str_addr ldr_tk str_tk

def liveT : TK := ⟨false, 2, 1, 100, zeroA, false, 0, 0, [], []⟩
theorem live_read : readT [17, 100, 238, 155, 0, 0, 0, 0] = (liveT, 0) := by decide
set_option maxRecDepth 100000 in
set_option maxHeartbeats 1000000 in
theorem lives8_any (w : World) : Calls Try.prog 10 #[] w fun x w' => x = .returned (.bool true) ∧ Below w.heap.size w w' := by
  have HR : Hid (∀ W, Calls Try.prog 6 #[.string ⟨#[17, 100, 238, 155, 0, 0, 0, 0]⟩] W fun x w' => ∃ us ur, x = .returned (.tuple #[.agg (tkC liveT us ur).toArray, .int .i64 0]) ∧ Below W.heap.size W w' ∧ Ads w' us [] ∧ Rcs w' ur []) := Lib.hid fun W => by
    have := read8_any [17, 100, 238, 155, 0, 0, 0, 0] (by decide) W
    unfold ReadQ at this
    rw [live_read] at this
    exact this.mono fun x w' ⟨us, ur, h1, h2, h3, h4, h5⟩ => ⟨us, ur, h1, h2, h4, h5⟩
  have hfm := hfm26
  go_enter Try.func10, Try.ntmps10
  go_upto_region 2 with (go_at_call 6; (with_reducible refine (HR.out _).mono ?_); rintro x w1 ⟨us, ur, rfl, hb1, hs1, hr1⟩; have hft := TM.fok (t := liveT) zeroA_ok hs1 hr1; have H1 := Lib.hid (TM.made (t := liveT) hb1 zeroA_ok hs1 hr1); clear hb1 hs1 hr1)
  generalize aggW (w1.alloc (.cells #[.bool false, .int .i64 0, .int .i64 0, .int .i64 0, .bool false, .int .u8 0, .int .u8 0, .int .u8 0, .int .u8 0, .int .u8 0, .int .u8 0, .int .u8 0, .int .u8 0, .int .u8 0, .int .u8 0, .int .u8 0, .int .u8 0, .int .u8 0, .int .u8 0, .int .u8 0, .int .u8 0, .bool false, .int .i64 0, .int .i64 0, .slice none 0 0, .slice none 0 0] 29)) w1.heap.size _ = W2 at H1 ⊢
  have c1 := H1.out.tk.ver
  have c2 := H1.out.tk.kind
  have c3 := H1.out.tk.resp
  simp only [liveT] at c1 c2 c3
  go_wp2
  go_ret
  exact ⟨rfl, H1.out.blw⟩
end Go.Proofs.Ytchbkamjmkfikaa

/-
  Talks of IGMP, plain: what is read of some bytes is good.
-/
namespace Go.Proofs.Ytchbkamjmkfikaa
open Go.RowKit
set_option linter.unusedVariables false

theorem four_src8 (s : List UInt8) (i : Nat) (h : i + 4 ≤ s.length) : src8 (fourL s i) = true := by
  unfold src8 fourL
  rw [goodV_read _ (by simp; omega)]
  rfl
theorem srcs_good (s : List UInt8) (i n : Nat) (h : srcsE s i n = 0) : srcs8 (srcsL s i n) = true ∧ n ≤ 64 ∧ i + 4 * n ≤ s.length := by
  unfold srcsE at h
  split at h
  · omega
  split at h
  · omega
  rename_i h1 h2
  refine ⟨?_, by omega, by omega⟩
  unfold srcs8
  rw [Bool.and_eq_true, decide_eq_true_eq, srcsL_length, List.all_eq_true]
  refine ⟨?_, by omega⟩
  intro a ha
  unfold srcsL at ha
  obtain ⟨k, hk, rfl⟩ := List.mem_map.1 ha
  exact four_src8 s _ (by have := List.mem_range.1 hk; omega)
def sumR (l : List RC) : Nat := (l.map fun r => 8 + 4 * r.src.length).sum
theorem recL_good (s : List UInt8) : ∀ (n i : Nat), i ≤ s.length → (recL s i n).2 = 0 → (recL s i n).1.all recOk = true ∧ (recL s i n).1.length ≤ n ∧ i + sumR (recL s i n).1 ≤ s.length ∧ ∀ r ∈ (recL s i n).1, adOk r.g ∧ ∀ a ∈ r.src, adOk a := by
  intro n
  induction n with
  | zero => intro i hi h; exact ⟨rfl, Nat.le_refl _, by simpa [recL, sumR] using hi, fun r hr => by cases hr⟩
  | succ n ih =>
    intro i hi h
    unfold recL at h ⊢
    by_cases h1 : s.length < i + 8
    · rw [if_pos h1] at h; exact absurd h (by simp)
    rw [if_neg h1] at h ⊢
    by_cases h2 : srcsE s (i + 8) (wd s (i + 2)) ≠ 0
    · rw [if_pos h2] at h; exact absurd h h2
    rw [if_neg h2] at h ⊢
    by_cases h3 : s.length < recN s i
    · rw [if_pos h3] at h; exact absurd h (by simp)
    rw [if_neg h3] at h ⊢
    by_cases h4 : (recL s (recN s i) n).2 ≠ 0
    · rw [if_pos h4] at h; exact absurd h h4
    rw [if_neg h4] at h ⊢
    obtain ⟨e1, e2, e3, e4⟩ := ih (recN s i) (by omega) (Decidable.byContradiction h4)
    obtain ⟨g1, g2, g3⟩ := srcs_good s (i + 8) (wd s (i + 2)) (Decidable.byContradiction h2)
    have hN : recN s i = i + 8 + 4 * wd s (i + 2) + 4 * by8 s (i + 1) := rfl
    by_cases h5 : rcOk (rec1 s i) = true
    · simp only [if_pos h5]
      refine ⟨?_, by rw [List.length_cons]; omega, ?_, ?_⟩
      · rw [List.all_cons, e1, Bool.and_true]
        unfold recOk
        rw [h5, Bool.true_and]
        exact g1
      · have hs : sumR (rec1 s i :: (recL s (recN s i) n).1) = 8 + 4 * wd s (i + 2) + sumR (recL s (recN s i) n).1 := by
          unfold sumR
          rw [List.map_cons, List.sum_cons]
          congr 3
          exact srcsL_length s _ _
        omega
      · intro r hr
        rcases List.mem_cons.1 hr with rfl | hr
        · exact ⟨fourL_ok s _, srcsL_ok s _ _⟩
        · exact e4 r hr
    · simp only [if_neg h5]
      exact ⟨e1, by omega, by omega, e4⟩
theorem exact_valN (c u m : Nat) (hu : 0 < u) (hm : m < 16 * u) (hc : c ≤ m) : exactN (valN c u) u m = true := by
  unfold exactN
  rw [decide_eq_true_eq]
  exact ⟨Int.natCast_nonneg _, by rw [← codeN_uniq hu hm (IsCode.back hu hm hc)]⟩
theorem zeroT_ok : zeroT.ok := ⟨rfl, fun a h => (by cases h), fun r h => (by cases h)⟩
theorem qry_good (s : List UInt8) (hl : 8 ≤ s.length) (h : (qry s).2 = 0) : good8 (qry s).1 = true ∧ (qry s).1.ok := by
  unfold qry at h ⊢
  have hb1 := by8_lt s 1
  have hb9 := by8_lt s 9
  by_cases h1 : 8 < s.length ∧ s.length < 12
  · rw [if_pos h1] at h; exact absurd h (by simp)
  rw [if_neg h1] at h ⊢
  by_cases h2 : fourL s 4 ≠ zeroA ∧ grp8 (fourL s 4) = false
  · rw [if_pos h2] at h; exact absurd h (by simp)
  rw [if_neg h2] at h ⊢
  have hg : fourL s 4 = zeroA ∨ grp8 (fourL s 4) = true := by
    by_cases hz : fourL s 4 = zeroA
    · exact Or.inl hz
    · right
      cases hq : grp8 (fourL s 4)
      · exact absurd ⟨hz, hq⟩ h2
      · rfl
  have hok := fourL_ok s 4
  by_cases h3 : s.length = 8
  · rw [if_pos h3] at h ⊢
    by_cases h4 : by8 s 1 = 0
    · rw [if_pos h4] at h ⊢
      by_cases h5 : fourL s 4 ≠ zeroA
      · rw [if_pos h5] at h; exact absurd h (by simp)
      · rw [if_neg h5]
        have hz : fourL s 4 = zeroA := Decidable.byContradiction h5
        exact ⟨by rw [hz]; decide, hok, fun a h => (by cases h), fun r h => (by cases h)⟩
    · rw [if_neg h4]
      refine ⟨?_, hok, fun a h => (by cases h), fun r h => (by cases h)⟩
      generalize fourL s 4 = g at *
      generalize by8 s 1 = b at *
      unfold good8
      simp only
      rw [if_neg (by simp), if_neg (by simp), if_neg (by simp), if_neg (by omega), if_neg (by omega), if_neg (by omega), if_neg (by omega), if_neg h2, if_pos trivial, decide_eq_true_eq]
      omega
  · rw [if_neg h3] at h ⊢
    by_cases h4 : fourL s 4 = zeroA ∧ 0 < wd s 10
    · rw [if_pos h4] at h; exact absurd h (by simp)
    rw [if_neg h4] at h ⊢
    by_cases h5 : srcsE s 12 (wd s 10) ≠ 0
    · rw [if_pos h5] at h; exact absurd h h5
    rw [if_neg h5]
    obtain ⟨g1, g2, g3⟩ := srcs_good s 12 (wd s 10) (Decidable.byContradiction h5)
    refine ⟨?_, hok, srcsL_ok s _ _, fun r h => (by cases h)⟩
    have hlen := srcsL_length s 12 (wd s 10)
    have x1 := exact_valN (by8 s 1) 16 255 (by omega) (by omega) (by omega)
    have x2 := exact_valN (by8 s 9) 16 255 (by omega) (by omega) (by omega)
    have hz : decide (fourL s 4 ≠ zeroA) = true ∨ decide ((srcsL s 12 (wd s 10)).length = 0) = true := by
      rw [decide_eq_true_iff, decide_eq_true_iff, hlen]
      by_cases hq : fourL s 4 = zeroA
      · right; have : ¬ 0 < wd s 10 := fun h' => h4 ⟨hq, h'⟩; omega
      · exact Or.inl hq
    unfold good8
    simp only
    rw [if_neg (by simp), if_neg (by simp), if_neg (by simp), if_neg (by omega), if_neg (by omega), if_neg (by omega), if_neg (by omega), if_neg h2, if_neg (by omega), x1, x2, g1, Bool.true_and, Bool.true_and, Bool.true_and, Bool.and_eq_true, Bool.or_eq_true, decide_eq_true_eq]
    exact ⟨by omega, hz⟩
theorem reads_good (s : List UInt8) (hl : s.length ≤ 1400) (h : (readT s).2 = 0) : good8 (readT s).1 = true ∧ (readT s).1.ok := by
  unfold readT at h ⊢
  by_cases h1 : s.length < 8
  · rw [if_pos h1] at h; exact absurd h (by simp)
  rw [if_neg h1] at h ⊢
  by_cases h2 : foldN (wsum s) ≠ 65535
  · rw [if_pos h2] at h; exact absurd h (by simp)
  rw [if_neg h2] at h ⊢
  by_cases h3 : by8 s 0 = 17
  · rw [if_pos h3] at h ⊢; exact qry_good s (by omega) h
  rw [if_neg h3] at h ⊢
  by_cases h4 : by8 s 0 = 34
  · rw [if_pos h4] at h ⊢
    by_cases h5 : 64 < wd s 6
    · rw [if_pos h5] at h; exact absurd h (by simp)
    rw [if_neg h5] at h ⊢
    by_cases h6 : (recL s 8 (wd s 6)).2 ≠ 0
    · rw [if_pos h6] at h; exact absurd h h6
    rw [if_neg h6]
    obtain ⟨e1, e2, e3, e4⟩ := recL_good s (wd s 6) 8 (by omega) (Decidable.byContradiction h6)
    refine ⟨?_, zeroA_ok, fun a h => (by cases h), e4⟩
    have hs : sizeR (recL s 8 (wd s 6)).1 = sumR (recL s 8 (wd s 6)).1 + 8 := rfl
    unfold good8
    simp only
    rw [if_neg (by simp), if_neg (by simp), if_neg (by simp), if_neg (by omega), if_neg (by omega), if_pos trivial, e1, Bool.true_and, Bool.and_eq_true, Bool.and_eq_true, decide_eq_true_eq, decide_eq_true_eq, decide_eq_true_eq]
    exact ⟨trivial, by omega, by omega⟩
  rw [if_neg h4] at h ⊢
  by_cases h5 : by8 s 0 = 18 ∨ by8 s 0 = 22 ∨ by8 s 0 = 23
  · rw [if_pos h5] at h ⊢
    by_cases h6 : grp8 (fourL s 4) = false
    · rw [if_pos h6] at h; exact absurd h (by simp)
    rw [if_neg h6]
    have hg : grp8 (fourL s 4) = true := by simpa using h6
    refine ⟨?_, fourL_ok s 4, fun a h => (by cases h), fun r h => (by cases h)⟩
    generalize fourL s 4 = g at *
    unfold good8
    rcases h5 with h5 | h5 | h5 <;> simp [h5, hg]
  · rw [if_neg h5] at h; exact absurd h (by simp)
end Go.Proofs.Ytchbkamjmkfikaa

/-
  The walk of the law IgmpReads.
-/
namespace Go.Proofs.Ytchbkamjmkfikaa
open Go.RowKit
set_option linter.unusedVariables false
attribute [local go_sem ↓] ld_addr st_addr bld_addr ld_tk st_tk bld_tk
attribute [local go_sem] ldr_addr str_addr ldr_tk str_tk

theorem good8_rcs {t : TK} (h : good8 t = true) : t.rcs.length < 65 := by
  unfold good8 at h
  by_cases c1 : t.v6 = true ∨ t.ver < 1 ∨ 3 < t.ver ∨ t.kind < 1 ∨ 3 < t.kind
  · rw [if_pos c1] at h; exact absurd h (by simp)
  rw [if_neg c1] at h
  by_cases c2 : ¬ (t.ver = 3 ∧ t.kind = 1) ∧ (t.quiet = true ∨ t.rob ≠ 0 ∨ t.every ≠ 0 ∨ 0 < t.src.length)
  · rw [if_pos c2] at h; exact absurd h (by simp)
  rw [if_neg c2] at h
  by_cases c3 : (t.kind ≠ 1 ∧ t.resp ≠ 0) ∨ (0 < t.rcs.length ∧ (t.ver < 3 ∨ t.kind ≠ 2))
  · rw [if_pos c3] at h; exact absurd h (by simp)
  rw [if_neg c3] at h
  by_cases k3 : t.kind = 3
  · omega
  rw [if_neg k3] at h
  by_cases k2 : t.kind = 2 ∧ t.ver < 3
  · omega
  rw [if_neg k2] at h
  by_cases k2' : t.kind = 2
  · rw [if_pos k2', Bool.and_eq_true, Bool.and_eq_true, Bool.and_eq_true, decide_eq_true_eq, decide_eq_true_eq, decide_eq_true_eq] at h
    exact h.2.2.1
  · omega
/-- Two talks made later. -/
def TM2 (w W : World) (m1 m2 : Nat) (t1 t2 : TK) (u1 v1 u2 v2 : Value) : Prop := TM w W m1 t1 u1 v1 ∧ TM w W m2 t2 u2 v2
theorem TM2.below {w W W' : World} {m1 m2 : Nat} {t1 t2 : TK} {u1 v1 u2 v2 : Value} (h : TM2 w W m1 m2 t1 t2 u1 v1 u2 v2) (hb : Below W.heap.size W W') : TM2 w W' m1 m2 t1 t2 u1 v1 u2 v2 := ⟨h.1.below hb, h.2.below hb⟩
/-- A second one beside the first. -/
theorem TM.second {w W : World} {m : Nat} {t t2 : TK} {us ur u2 v2 : Value} (h : TM w W m t us ur) (ho : adOk t2.g) (hs : Ads W u2 t2.src) (hr : Rcs W v2 t2.rcs) : TM2 w (aggW (W.alloc (.cells #[.bool false, .int .i64 0, .int .i64 0, .int .i64 0, .bool false, .int .u8 0, .int .u8 0, .int .u8 0, .int .u8 0, .int .u8 0, .int .u8 0, .int .u8 0, .int .u8 0, .int .u8 0, .int .u8 0, .int .u8 0, .int .u8 0, .int .u8 0, .int .u8 0, .int .u8 0, .int .u8 0, .bool false, .int .i64 0, .int .i64 0, .slice none 0 0, .slice none 0 0] 29)) W.heap.size (tkC t2 u2 v2)) m W.heap.size t t2 us ur u2 v2 :=
  ⟨h.below (aggW_below ((Below.refl _ _).alloc (Nat.le_refl _) _) (Nat.le_refl _) _), TM.made h.blw ho hs hr⟩

set_option maxRecDepth 100000 in
set_option maxHeartbeats 2000000 in
theorem greads (s : ByteArray) (hs : s.size ≤ maxLen) (w : World) : Calls Try.prog 3 #[.string s] w fun x w' => x = .returned (.bool true) ∧ Below w.heap.size w w' := by
  obtain ⟨l, hlE⟩ : ∃ l : List UInt8, Str l = cutB s 150 := ⟨(cutB s 150).data.toList, Str_of _⟩
  have hll : l.length ≤ 150 := by have := cutB_size s 150; rw [← hlE, Str_size] at this; exact this
  have HC : Hid (∀ W, Calls Try.prog 5 #[.string s, .int .i64 150] W fun x w' => x = .returned (.string (Str l)) ∧ W = w') := Lib.hid fun W => by
    rw [hlE]; exact cut_any s hs 150 (by omega) W
  have HR := Lib.hid (fun W => read8_any l (by omega) W)
  have HX := Lib.hid (fun W => (rread8_any l (by omega) W).mono (fun x w' h => h.q))
  unfold ReadQ at HR HX
  have HGD := Lib.hid (fun h => reads_good l (by omega) h)
  obtain ⟨T, hT⟩ : ∃ T, T = (readT l).1 := ⟨_, rfl⟩
  obtain ⟨E, hE⟩ : ∃ E, E = (readT l).2 := ⟨_, rfl⟩
  rw [← hT, ← hE] at HR HX HGD
  have HG : Hid (E = 0 → ∀ W us ur, adOk T.g → Ads W us T.src → Rcs W ur T.rcs → Calls Try.prog 9 #[.agg (tkC T us ur).toArray] W fun x w' => x = .returned (.bool true) ∧ Below W.heap.size W w') := Lib.hid fun h W us ur ho hs hr => by
    obtain ⟨g1, g2⟩ := HGD.out h
    have := good8_any T us ur W g2 hs hr (by have := good8_rcs g1; omega)
    rw [g1] at this
    exact this
  have HS : Hid (∀ W ca cb, Tks W ca T → Tks W cb T → Calls Try.prog 8 #[.agg ca.toArray, .agg cb.toArray] W fun x w' => x = .returned (.bool true) ∧ Below W.heap.size W w') := Lib.hid fun W ca cb h1 h2 => by
    have := same_any ca cb T T W h1 h2
    rw [decide_eq_true rfl] at this
    exact this
  have HL := Lib.hid (fun W => lives8_any W)
  have hfm := hfm26
  have hee : (E == E) = true := by simp
  generalize Str l = S at HC HR HX
  clear hll hlE hs hT hE HGD
  have K2 : Hid (∀ (W : World) (m1 m2 : Nat) (u1 v1 u2 v2 : Value), TM2 w W m1 m2 T T u1 v1 u2 v2 → row? W m1 0 26 = some (tkC T u1 v1) ∧ row? W m2 0 26 = some (tkC T u2 v2)) := Lib.hid fun W m1 m2 u1 v1 u2 v2 h => ⟨h.1.tk.row, h.2.tk.row⟩
  go_enter Try.func3, Try.ntmps3
  go_upto_region 3 with (first
    | (go_at_call 5; (with_reducible refine (HC.out _).mono ?_); rintro x w0 ⟨rfl, rfl⟩)
    | (go_at_call 6; (with_reducible refine (HR.out _).mono ?_); rintro x w1 ⟨us, ur, rfl, hb1, ho1, hs1, hr1⟩; have hft := TM.fok ho1 hs1 hr1; have H1 := Lib.hid (TM.made hb1 ho1 hs1 hr1); clear hb1 ho1 hs1 hr1))
  generalize aggW (w1.alloc (.cells #[.bool false, .int .i64 0, .int .i64 0, .int .i64 0, .bool false, .int .u8 0, .int .u8 0, .int .u8 0, .int .u8 0, .int .u8 0, .int .u8 0, .int .u8 0, .int .u8 0, .int .u8 0, .int .u8 0, .int .u8 0, .int .u8 0, .int .u8 0, .int .u8 0, .int .u8 0, .int .u8 0, .bool false, .int .i64 0, .int .i64 0, .slice none 0 0, .slice none 0 0] 29)) w1.heap.size _ = W2 at H1 ⊢
  generalize w1.heap.size = m1 at H1 ⊢
  clear hft
  go_upto_region 4 with (go_at_call 7; (with_reducible refine (HX.out _).mono ?_); rintro x w3 ⟨us2, ur2, rfl, hb3, ho3, hs3, hr3⟩; have hft := TM.fok ho3 hs3 hr3; have H3 := Lib.hid ((H1.out.below hb3).second ho3 hs3 hr3); clear hb3 ho3 hs3 hr3)
  generalize aggW (w3.alloc (.cells #[.bool false, .int .i64 0, .int .i64 0, .int .i64 0, .bool false, .int .u8 0, .int .u8 0, .int .u8 0, .int .u8 0, .int .u8 0, .int .u8 0, .int .u8 0, .int .u8 0, .int .u8 0, .int .u8 0, .int .u8 0, .int .u8 0, .int .u8 0, .int .u8 0, .int .u8 0, .int .u8 0, .bool false, .int .i64 0, .int .i64 0, .slice none 0 0, .slice none 0 0] 29)) w3.heap.size _ = W4 at H3 ⊢
  generalize w3.heap.size = m2 at H3 ⊢
  clear hft hfm HR HX HC
  obtain ⟨r1, r2⟩ := K2.out _ _ _ _ _ _ _ H3.out
  have HS3 := Lib.hid (HS.out _ _ _ H3.out.1.tks H3.out.2.tks)
  by_cases h0 : E = 0
  · have te : (E != 0) = false := by rw [bne_eq_false_iff_eq]; exact h0
    have HG2 := Lib.hid (HG.out h0)
    clear h0
    go_wp2_with (first
      | (go_at_call 8; (with_reducible refine (HS3.out).mono ?_); rintro x w5 ⟨rfl, hb5⟩; have H5 := Lib.hid (H3.out.below hb5); have HG5 := Lib.hid (HG2.out _ _ _ H5.out.1.tk.2 H5.out.1.src H5.out.1.rcs); clear hb5 r1 r2; obtain ⟨r1, r2⟩ := K2.out _ _ _ _ _ _ _ H5.out)
      | (go_at_call 9; (with_reducible refine (HG5.out).mono ?_); rintro x w6 ⟨rfl, hb6⟩; have H6 := Lib.hid (H5.out.below hb6); clear hb6)
      | (go_at_call 10; (with_reducible refine (HL.out _).mono ?_); rintro x w7 ⟨rfl, hb7⟩; have H7 := Lib.hid (H6.out.below hb7); clear hb7))
    go_ret
    exact ⟨rfl, H7.out.1.blw⟩
  · have te : (E != 0) = true := by rw [bne_iff_ne]; exact h0
    have H0 := Lib.hid h0
    clear h0
    go_wp2_with (first
      | (go_at_call 8; (with_reducible refine (HS3.out).mono ?_); rintro x w5 ⟨rfl, hb5⟩; have H5 := Lib.hid (H3.out.below hb5); clear hb5 r1 r2; obtain ⟨r1, r2⟩ := K2.out _ _ _ _ _ _ _ H5.out)
      | (go_at_call 10; (with_reducible refine (HL.out _).mono ?_); rintro x w7 ⟨rfl, hb7⟩; have H7 := Lib.hid (H5.out.below hb7); clear hb7))
    go_ret
    exact ⟨rfl, H7.out.1.blw⟩
end Go.Proofs.Ytchbkamjmkfikaa

