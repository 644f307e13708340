/-
  The contracts of igmp's parser: num, addr, checksum, end, and each.
-/
import Derived.Test.YtchbkamjmkfikaaMg35
import Derived.Test.YtchbkamjmkfikaaIgA
import Derived.Test.YtchbkamjmkfikaaTrA
import Derived.Shelf.Abstract
namespace Go.Proofs.Ytchbkamjmkfikaa
open Go.RowKit
set_option linter.unusedVariables false
set_option linter.unusedSimpArgs false
attribute [local go_sem ↓] ld_addr st_addr bld_addr
attribute [local go_sem] ldr_addr str_addr row?_drew_eq

/-- A parser by value. -/
abbrev pv (b0 : Nat) : Value := .agg #[.pointer (some ⟨b0, 0, none⟩)]
/-- The parser boxed first of all. -/
structure PB (w W : World) (b0 : Nat) (l : List UInt8) (k : Nat) (bad : Bool) : Prop where
  rd : RdAt W b0 l k bad
  pp : ObjAt W w.heap.size #[.pointer (some ⟨b0, 0, none⟩)] 46
  frm : w.grownBy W (some b0)
  lt : b0 < w.heap.size
theorem PB.start {w : World} {b0 : Nat} {l : List UInt8} {k : Nat} {bad : Bool} (h : RdAt w b0 l k bad) : PB w (w.alloc (.cells #[.pointer (some ⟨b0, 0, none⟩)] 46)) b0 l k bad :=
  ⟨ObjAt.alloc h _, ObjAt.made w _ _, qof ((Below.refl _ _).alloc (Nat.le_refl _) _), ObjAt.lt h⟩
theorem PB.call {w W W' : World} {b0 : Nat} {l l' : List UInt8} {k k' : Nat} {bad bad' : Bool} (h : PB w W b0 l k bad) (hr : RdAt W' b0 l' k' bad') (hg : W.grownBy W' (some b0)) : PB w W' b0 l' k' bad' :=
  ⟨hr, ObjAt.grown h.pp hg (by have := h.lt; simp; omega), gtrans h.frm hg, h.lt⟩
theorem PB.below {w W W' : World} {b0 : Nat} {l : List UInt8} {k : Nat} {bad : Bool} (h : PB w W b0 l k bad) (hb : Below W.heap.size W W') : PB w W' b0 l k bad :=
  ⟨ObjAt.below h.rd hb (ObjAt.lt h.rd), h.pp.below hb h.pp.lt, qbelow h.frm (hb.mono h.frm.size), h.lt⟩
theorem PB.c {w W : World} {b0 : Nat} {l : List UInt8} {k : Nat} {bad : Bool} (h : PB w W b0 l k bad) : W.cell? ⟨w.heap.size, 0, none⟩ = some (.pointer (some ⟨b0, 0, none⟩)) := by rw [ObjAt.cell h.pp]; rfl

theorem pnum_any (b0 : Nat) (l : List UInt8) (k : Nat) (bad : Bool) (n : Nat) (hn : n ≤ 4) (hl : l.length ≤ 1000000) (hk : k ≤ 1000000) (w : World) (h : RdAt w b0 l k bad) :
    Calls Try.prog 16 #[pv b0, .int .i64 n] w fun x w' => x = .returned (.int .i64 (num (takeV l bad n))) ∧ RdAt w' b0 (leftV l bad n) (pastV l bad n k) (badV l bad n) ∧ w.grownBy w' (some b0) := by
  have HN := Lib.hid (fun W (h : RdAt W b0 l k bad) => numq_any b0 l k bad n (by omega) hl hk W h)
  have h1 := num_takeV l bad n hn
  have h2 : 256 ^ n ≤ 4294967296 := Nat.le_trans (Nat.pow_le_pow_right (by omega) hn) (by decide : 256 ^ 4 ≤ 4294967296)
  have H0 := Lib.hid (PB.start h)
  generalize num (takeV l bad n) = m at *
  generalize leftV l bad n = l' at *
  generalize pastV l bad n k = k' at *
  generalize badV l bad n = bad' at *
  have hw : IntKind.i64.wrap (m : Int) = (m : Int) := by simp only [IntKind.wrap_i64]; omega
  clear h1 h2 h
  unfold pv
  go_enter Try.func16, Try.ntmps16
  go_upto_region 1 with (fail)
  generalize w.alloc (.cells #[.pointer (some ⟨b0, 0, none⟩)] 46) = W at H0 ⊢
  have c0 := H0.out.c
  go_wp2_with (go_at_call 49; (with_reducible refine (HN.out _ H0.out.rd).mono ?_); rintro x w1 ⟨rfl, h9, k9⟩; have H1 := Lib.hid (H0.out.call h9 k9); clear h9 k9)
  go_ret
  exact ⟨rfl, H1.out.rd, H1.out.frm⟩
theorem pchk_any (b0 : Nat) (l : List UInt8) (k : Nat) (bad : Bool) (hl : l.length ≤ 1000000) (hk : k ≤ 1000000) (w : World) (h : RdAt w b0 l k bad) :
    Calls Try.prog 50 #[pv b0] w fun x w' => x = .returned (.tuple #[]) ∧ RdAt w' b0 (leftV l bad 2) (pastV l bad 2 k) (badV l bad 2) ∧ w.grownBy w' (some b0) := by
  have HN := Lib.hid (fun W (h : RdAt W b0 l k bad) => take_any b0 l k bad 2 hl hk W h)
  have H0 := Lib.hid (PB.start h)
  generalize leftV l bad 2 = l' at *
  generalize pastV l bad 2 k = k' at *
  generalize badV l bad 2 = bad' at *
  generalize takeV l bad 2 = t at *
  clear h
  unfold pv
  go_enter Try.func50, Try.ntmps50
  go_upto_region 1 with (fail)
  generalize w.alloc (.cells #[.pointer (some ⟨b0, 0, none⟩)] 46) = W at H0 ⊢
  have c0 := H0.out.c
  go_wp2_with (go_at_call 55; (with_reducible refine (HN.out _ H0.out.rd).mono ?_); rintro x w1 ⟨rfl, h9, k9⟩; have H1 := Lib.hid (H0.out.call h9 k9); clear h9 k9)
  go_end0
  exact ⟨rfl, H1.out.rd, H1.out.frm⟩
theorem pend_any (b0 : Nat) (l : List UInt8) (k : Nat) (bad : Bool) (w : World) (h : RdAt w b0 l k bad) :
    Calls Try.prog 89 #[pv b0] w fun x w' => x = .returned (.int .i64 (if bad then 3 else 0)) ∧ Below w.heap.size w w' := by
  have HN := Lib.hid (fun W (h : RdAt W b0 l k bad) => bad_any b0 l k bad W h)
  have H0 := Lib.hid (And.intro (PB.start h) ((Below.refl w.heap.size w).alloc (Nat.le_refl _) (.cells #[.pointer (some ⟨b0, 0, none⟩)] 46)))
  clear h
  unfold pv
  cases bad with
  | true =>
    go_enter Try.func89, Try.ntmps89
    go_upto_region 1 with (fail)
    generalize w.alloc (.cells #[.pointer (some ⟨b0, 0, none⟩)] 46) = W at H0 ⊢
    have c0 := H0.out.1.c
    go_wp2_with (go_at_call 88; (with_reducible refine (HN.out _ H0.out.1.rd).mono ?_); rintro x w1 ⟨rfl, h9⟩; subst h9)
    go_ret
    exact ⟨rfl, H0.out.2⟩
  | false =>
    go_enter Try.func89, Try.ntmps89
    go_upto_region 1 with (fail)
    generalize w.alloc (.cells #[.pointer (some ⟨b0, 0, none⟩)] 46) = W at H0 ⊢
    have c0 := H0.out.1.c
    go_wp2_with (go_at_call 88; (with_reducible refine (HN.out _ H0.out.1.rd).mono ?_); rintro x w1 ⟨rfl, h9⟩; subst h9)
    go_ret
    exact ⟨rfl, H0.out.2⟩

/-- What addr makes of the bytes that it took. -/
def ad4 (t : List UInt8) : AD := if t.length = 4 then (false, readV t) else zeroA
theorem ad4_ok (t : List UInt8) : adOk (ad4 t) := by
  unfold ad4; split
  · rename_i h; exact readV_length _ (by omega)
  · exact zeroA_ok
theorem read_took4 (l : List UInt8) (bad : Bool) (w : World) : ∃ c, Calls Try.prog 83 #[.string (Str (takeV l bad 4))] w fun e w' => e = .returned (.tuple #[.agg (adC (ad4 (takeV l bad 4))).toArray, .int .i64 c]) ∧ Below w.heap.size w w' := by
  by_cases h : (takeV l bad 4).length = 4
  · refine ⟨0, ?_⟩
    have := read_good false (takeV l bad 4) (by omega) (by rw [h]; rfl) (by rw [h]; rfl) w
    unfold ad4
    rw [if_pos h]
    exact this
  · refine ⟨2, ?_⟩
    have h0 : takeV l bad 4 = [] := takeV_all l bad 4 h
    have := read_bad (takeV l bad 4) (by rw [h0]; simp) (by rw [h0]; rfl) (by rw [h0]; rfl) w
    unfold ad4
    rw [if_neg h]
    exact this
/-- The parser boxed, the result's block behind it. -/
structure PA (w W : World) (b0 : Nat) (l : List UInt8) (k : Nat) (bad : Bool) : Prop where
  pb : PB w W b0 l k bad
  res : ObjAt W (w.heap.size + 1) #[.bool false, .int .u8 0, .int .u8 0, .int .u8 0, .int .u8 0, .int .u8 0, .int .u8 0, .int .u8 0, .int .u8 0, .int .u8 0, .int .u8 0, .int .u8 0, .int .u8 0, .int .u8 0, .int .u8 0, .int .u8 0, .int .u8 0] 25
theorem PA.start {w : World} {b0 : Nat} {l : List UInt8} {k : Nat} {bad : Bool} (h : RdAt w b0 l k bad) : PA w ((w.alloc (.cells #[.pointer (some ⟨b0, 0, none⟩)] 46)).alloc (.cells #[.bool false, .int .u8 0, .int .u8 0, .int .u8 0, .int .u8 0, .int .u8 0, .int .u8 0, .int .u8 0, .int .u8 0, .int .u8 0, .int .u8 0, .int .u8 0, .int .u8 0, .int .u8 0, .int .u8 0, .int .u8 0, .int .u8 0] 25)) b0 l k bad := by
  refine ⟨(PB.start h).below ((Below.refl _ _).alloc (Nat.le_refl _) _), ?_⟩
  have := ObjAt.made (w.alloc (.cells #[.pointer (some ⟨b0, 0, none⟩)] 46)) #[.bool false, .int .u8 0, .int .u8 0, .int .u8 0, .int .u8 0, .int .u8 0, .int .u8 0, .int .u8 0, .int .u8 0, .int .u8 0, .int .u8 0, .int .u8 0, .int .u8 0, .int .u8 0, .int .u8 0, .int .u8 0, .int .u8 0] 25
  rw [show (w.alloc (.cells #[.pointer (some ⟨b0, 0, none⟩)] 46)).heap.size = w.heap.size + 1 by simp] at this
  exact this
theorem PA.call {w W W' : World} {b0 : Nat} {l l' : List UInt8} {k k' : Nat} {bad bad' : Bool} (h : PA w W b0 l k bad) (hr : RdAt W' b0 l' k' bad') (hg : W.grownBy W' (some b0)) : PA w W' b0 l' k' bad' :=
  ⟨h.pb.call hr hg, ObjAt.grown h.res hg (by have := h.pb.lt; simp; omega)⟩
theorem PA.below {w W W' : World} {b0 : Nat} {l : List UInt8} {k : Nat} {bad : Bool} (h : PA w W b0 l k bad) (hb : Below W.heap.size W W') : PA w W' b0 l k bad := ⟨h.pb.below hb, h.res.below hb h.res.lt⟩
theorem PA.done {w W : World} {b0 : Nat} {l : List UInt8} {k : Nat} {bad : Bool} (h : PA w W b0 l k bad) (cs : List Value) (hc : cs.length = 17) :
    row? (aggW W (w.heap.size + 1) cs) (w.heap.size + 1) 0 17 = some cs ∧ RdAt (aggW W (w.heap.size + 1) cs) b0 l k bad ∧ w.grownBy (aggW W (w.heap.size + 1) cs) (some b0) :=
  ⟨aggW_row (obj_free h.res (by simp)) hc, aggW_other h.pb.rd _ (by have := h.pb.lt; omega), qbelow h.pb.frm (aggW_below (Below.refl _ _) (by omega) _)⟩
set_option maxRecDepth 100000 in
set_option maxHeartbeats 1000000 in
theorem paddr_any (b0 : Nat) (l : List UInt8) (k : Nat) (bad : Bool) (hl : l.length ≤ 1000000) (hk : k ≤ 1000000) (w : World) (h : RdAt w b0 l k bad) :
    Calls Try.prog 51 #[pv b0] w fun x w' => x = .returned (.agg (adC (ad4 (takeV l bad 4))).toArray) ∧ RdAt w' b0 (leftV l bad 4) (pastV l bad 4 k) (badV l bad 4) ∧ w.grownBy w' (some b0) := by
  have HT := Lib.hid (PA.start h)
  have HR : Hid (∀ W, RdAt W b0 l k bad → Calls Try.prog 55 #[.pointer (some ⟨b0, 0, none⟩), .int .i64 4] W fun e w' => e = .returned (.string (Str (takeV l bad 4))) ∧ RdAt w' b0 (leftV l bad 4) (pastV l bad 4 k) (badV l bad 4) ∧ W.grownBy w' (some b0)) := Lib.hid fun W hW => take_any b0 l k bad 4 hl hk W hW
  have HA := Lib.hid (fun W => read_took4 l bad W)
  have hal := ad4_ok (takeV l bad 4)
  have hfok : fok (adC (ad4 (takeV l bad 4))).toArray 17 = true := fok_addr _ _ hal
  have HL := Lib.hid (adC_length hal)
  generalize adC (ad4 (takeV l bad 4)) = A at *
  generalize takeV l bad 4 = t at HR HA
  generalize leftV l bad 4 = l' at HR ⊢
  generalize pastV l bad 4 k = k' at HR ⊢
  generalize badV l bad 4 = bad' at HR ⊢
  clear h hal
  unfold pv
  go_enter Try.func51, Try.ntmps51
  go_upto_region 1 with (fail)
  generalize (w.alloc (.cells #[.pointer (some ⟨b0, 0, none⟩)] 46)).alloc (.cells #[.bool false, .int .u8 0, .int .u8 0, .int .u8 0, .int .u8 0, .int .u8 0, .int .u8 0, .int .u8 0, .int .u8 0, .int .u8 0, .int .u8 0, .int .u8 0, .int .u8 0, .int .u8 0, .int .u8 0, .int .u8 0, .int .u8 0] 25) = W at HT ⊢
  have c0 := HT.out.pb.c
  have hfm : ∀ W : World, free? (W.alloc (.cells #[.bool false, .int .u8 0, .int .u8 0, .int .u8 0, .int .u8 0, .int .u8 0, .int .u8 0, .int .u8 0, .int .u8 0, .int .u8 0, .int .u8 0, .int .u8 0, .int .u8 0, .int .u8 0, .int .u8 0, .int .u8 0, .int .u8 0] 25)) W.heap.size 0 17 = true := fun W => free_made W _ _ 17 (by simp)
  go_upto_region 2 with (first
    | (go_at_call 55; refine (HR.out _ HT.out.pb.rd).mono ?_; rintro e w1 ⟨rfl, hr1, hg1⟩; have HT1 := Lib.hid (HT.out.call hr1 hg1); clear hr1 hg1)
    | (go_at_call 83; obtain ⟨c, hc⟩ := HA.out w1; refine hc.mono ?_; rintro e w2 ⟨rfl, hb2⟩; clear hc; have HT2 := Lib.hid (HT1.out.below hb2); clear hb2))
  have hlt := HT2.out.res.lt
  have hm := aggW_row (cs := A) (hfm w2) HL.out
  have HT3 := Lib.hid (HT2.out.below (aggW_below ((Below.refl w2.heap.size w2).alloc (Nat.le_refl _) (.cells #[.bool false, .int .u8 0, .int .u8 0, .int .u8 0, .int .u8 0, .int .u8 0, .int .u8 0, .int .u8 0, .int .u8 0, .int .u8 0, .int .u8 0, .int .u8 0, .int .u8 0, .int .u8 0, .int .u8 0, .int .u8 0, .int .u8 0] 25)) (Nat.le_refl _) A))
  have hf3 : free? (aggW (w2.alloc (.cells #[.bool false, .int .u8 0, .int .u8 0, .int .u8 0, .int .u8 0, .int .u8 0, .int .u8 0, .int .u8 0, .int .u8 0, .int .u8 0, .int .u8 0, .int .u8 0, .int .u8 0, .int .u8 0, .int .u8 0, .int .u8 0, .int .u8 0] 25)) w2.heap.size A) (w.heap.size + 1) 0 17 = true := obj_free HT3.out.res (by simp)
  generalize aggW (w2.alloc (.cells #[.bool false, .int .u8 0, .int .u8 0, .int .u8 0, .int .u8 0, .int .u8 0, .int .u8 0, .int .u8 0, .int .u8 0, .int .u8 0, .int .u8 0, .int .u8 0, .int .u8 0, .int .u8 0, .int .u8 0, .int .u8 0, .int .u8 0] 25)) w2.heap.size A = W3 at HT3 hf3 hm ⊢
  go_wp2
  obtain ⟨q1, q2, q3⟩ := HT3.out.done A HL.out
  exact bodyPost_ret (results_cell Try.results51 rfl (ld_some q1 (ldr_addr _ _ _))) rfl ⟨rfl, q2, q3⟩

/-- Calls that go on as long as nothing is wrong. -/
theorem each_any (g : Nat) (lb : Array Value) (eg : ∀ args w, (callFunc g args).run Try.prog w = .ok (.enter g args) w) (n : Nat) (hn : n ≤ 64) (I : Nat → World → Prop) (E : Int → World → Prop) (w : World) (h0 : I 0 w)
    (H : ∀ k W, k < n → I k W → Calls Try.prog g lb W fun x W' => ∃ e : Int, x = .returned (.int .i64 e) ∧ (e = 0 → I (k + 1) W') ∧ (e ≠ 0 → E e W')) :
    Calls Try.prog 56 #[.int .i64 n, .int .i64 64, .func (.func g) #[] lb] w fun x W' => ∃ e : Int, x = .returned (.int .i64 e) ∧ (e = 0 → I n W') ∧ (e ≠ 0 → E e W') := by
  have HH := Lib.hid H
  have H0 := Lib.hid h0
  clear H h0
  have t1 : decide (64 < (n : Int)) = false := decide_eq_false (by omega)
  go_enter Try.func56, Try.ntmps56
  go_wp2_with fail
  go_loopw [12] (fun i wr => ∃ k : Nat, k ≤ n ∧ i = .int .i64 k ∧ Hid (I k wr)) (fun i _ => n - (intOf i).toNat)
  case atStart => exact ⟨0, by omega, rfl, H0⟩
  case round =>
    obtain ⟨k, hk, rfl, HI⟩ := hrel
    by_cases hlt : k < n
    · have hd : decide ((k : Int) < (n : Int)) = true := by simp; omega
      have hk1 : (k : Int) < (n : Int) := by omega
      have hw1 : IntKind.i64.wrap ((k : Int) + 1) = (k : Int) + 1 := by simp only [IntKind.wrap_i64]; omega
      have HC := Lib.hid (HH.out k wr hlt HI.out)
      go_upto_region 6 with (go_at_fn g; (with_reducible refine (HC.out).mono ?_); rintro x w1 ⟨e, rfl, h1, h2⟩; have HA := Lib.hid h1; have HE := Lib.hid h2; clear h1 h2)
      by_cases he : e = 0
      · subst he
        have t2 : ((0 : Int) != 0) = false := rfl
        have HI2 := Lib.hid (HA.out rfl)
        go_wp2
        go_roundw
        case rel => exact ⟨k + 1, by omega, by go_num, HI2⟩
        case measure => simp [intOf]; omega
      · have t2 : (e != 0) = true := by simpa using he
        have HE2 := Lib.hid (HE.out he)
        have HNE := Lib.hid he
        clear he
        go_wp2
        go_ret
        exact ⟨e, rfl, fun h => absurd h HNE.out, fun _ => HE2.out⟩
    · have hd : ¬ (k : Int) < (n : Int) := by omega
      have hkn : k = n := by omega
      subst hkn
      go_wp2
      go_ret
      exact ⟨0, rfl, fun _ => HI.out, fun h => absurd rfl h⟩
theorem each_long (f : Value) (n : Nat) (hn : 64 < n) (hw : n < 1000000) (w : World) :
    Calls Try.prog 56 #[.int .i64 n, .int .i64 64, f] w fun x W' => x = .returned (.int .i64 6) ∧ W' = w := by
  have t1 : decide (64 < (n : Int)) = true := decide_eq_true (by omega)
  go_enter Try.func56, Try.ntmps56
  go_wp2
  go_ret
  exact ⟨rfl, rfl⟩
end Go.Proofs.Ytchbkamjmkfikaa
