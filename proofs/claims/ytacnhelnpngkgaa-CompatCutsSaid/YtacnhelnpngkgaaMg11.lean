/-
  Texts joined: TkA, TkB.
-/
import Derived.Test.YtacnhelnpngkgaaTk
import Derived.Test.YtacnhelnpngkgaaTell
import Derived.Test.YtacnhelnpngkgaaMg09
import Derived.Test.YtacnhelnpngkgaaCodR
import Derived.Test.YtacnhelnpngkgaaMg07
/-
  The document's own Group, Sources, exact and list of layer 8.
-/
namespace Go.Proofs.Ytacnhelnpngkgaa
open Go.RowKit
set_option linter.unusedVariables false
attribute [local go_sem ↓] ld_addr
attribute [local go_sem] ldr_addr row?_drewN_eq row?_drew_eq

/-- Whether an address is a group's of IPv4. -/
def grp8 (a : AD) : Bool := !a.1 && (goodV a.1 a.2 && grpV a.1 a.2)
/-- Whether a source may be said. -/
def src8 (a : AD) : Bool := !a.1 && goodV a.1 a.2
def srcs8 (l : List AD) : Bool := l.all src8 && decide (l.length < 65)
/-- An address boxed first of all. -/
def ABox (w W : World) (a : AD) : Prop := ObjAt W w.heap.size (adC a).toArray 24 ∧ Below w.heap.size w W
theorem ABox.made (w : World) (a : AD) : ABox w (w.alloc (.cells (adC a).toArray 24)) a := ⟨ObjAt.made w _ _, (Below.refl _ _).alloc (Nat.le_refl _) _⟩
theorem ABox.below {w W W' : World} {a : AD} (h : ABox w W a) (hb : Below W.heap.size W W') : ABox w W' a := ⟨h.1.below hb h.1.lt, bstep h.2 hb⟩
theorem ABox.row {w W : World} {a : AD} (h : ABox w W a) (ho : adOk a) : row? W w.heap.size 0 17 = some (adC a) := obj_row (A := []) (M := adC a) (C := []) (by simpa using h.1) rfl (adC_length ho)
theorem ABox.v {w W : World} {a : AD} (h : ABox w W a) : W.cell? ⟨w.heap.size, 0, none⟩ = some (.bool a.1) := by
  rw [ObjAt.cell h.1, List.getElem?_toArray]; rfl
set_option maxRecDepth 100000 in
set_option maxHeartbeats 1000000 in
theorem rgroup8_any (a : AD) (ho : adOk a) (w : World) : Calls Try.prog 35 #[.agg (adC a).toArray] w fun x w' => x = .returned (.bool (grp8 a)) ∧ Below w.heap.size w w' := by
  have H0 := Lib.hid (ABox.made w a)
  have HG := Lib.hid (fun W => rgood_any a.1 a.2 ho W)
  have HH := Lib.hid (fun W => rgroup_any a.1 a.2 ho W)
  have HK : Hid (∀ W, ABox w W a → row? W w.heap.size 0 17 = some (adC a) ∧ W.cell? ⟨w.heap.size, 0, none⟩ = some (.bool a.1)) := Lib.hid fun W h => ⟨h.row ho, h.v⟩
  obtain ⟨R, hR⟩ : ∃ R, R = grp8 a := ⟨_, rfl⟩
  rw [← hR]
  unfold grp8 at hR
  change Hid (∀ W, Calls Try.prog 42 #[.agg (adC a).toArray] W _) at HG
  change Hid (∀ W, Calls Try.prog 38 #[.agg (adC a).toArray] W _) at HH
  generalize goodV a.1 a.2 = g at HG hR
  generalize grpV a.1 a.2 = h at HH hR
  go_enter Try.func35, Try.ntmps35
  go_upto_region 1 with (fail)
  generalize w.alloc (.cells (adC a).toArray 24) = W at H0 ⊢
  obtain ⟨r1, c1⟩ := HK.out _ H0.out
  generalize a.1 = v at c1 hR HK
  have HR := Lib.hid hR
  clear hR
  cases v with
  | true =>
    go_wp2
    go_ret
    exact ⟨ret_bool8 (by rw [HR.out]; rfl), H0.out.2⟩
  | false =>
    cases g with
    | false =>
      go_wp2_with (go_at_call 42; (with_reducible refine (HG.out _).mono ?_); rintro x w1 ⟨rfl, hb1⟩; have H1 := Lib.hid (H0.out.below hb1); clear hb1)
      go_ret
      exact ⟨ret_bool8 (by rw [HR.out]; rfl), H1.out.2⟩
    | true =>
      go_wp2_with (first
        | (go_at_call 42; (with_reducible refine (HG.out _).mono ?_); rintro x w1 ⟨rfl, hb1⟩; have H1 := Lib.hid (H0.out.below hb1); clear hb1 r1 c1; obtain ⟨r1, c1⟩ := HK.out _ H1.out)
        | (go_at_call 38; (with_reducible refine (HH.out _).mono ?_); rintro x w2 ⟨rfl, hb2⟩; have H2 := Lib.hid (H1.out.below hb2); clear hb2))
      go_ret
      exact ⟨ret_bool8 (by rw [HR.out]; rfl), H2.out.2⟩
theorem rexact8 (n : Int) (w : World) : Calls Try.prog 37 #[.int .i64 n] w fun x w' => x = .returned (.bool (exactN n 16 255)) ∧ w = w' := by
  have HC := Lib.hid (fun W => rcode8 n W)
  have hle := codeN_le n 16 255
  have HV : Hid (∀ W, Calls Try.prog 33 #[.int .i64 (codeN n 16 255)] W fun x w' => x = .returned (.int .i64 (valN (codeN n 16 255) 16)) ∧ W = w') := Lib.hid fun W => by
    have := rvalue8 (codeN n 16 255) W
    rw [show clampN ((codeN n 16 255 : Nat) : Int) 255 = codeN n 16 255 by unfold clampN; split <;> omega] at this
    exact this
  unfold exactN
  generalize valN (codeN n 16 255) 16 = V at HV ⊢
  generalize codeN n 16 255 = R at HC HV hle
  clear hle
  go_enter Try.func37, Try.ntmps37
  go_wp2_with (first
    | (go_at_call 34; (with_reducible refine (HC.out _).mono ?_); rintro x w1 ⟨rfl, rfl⟩)
    | (go_at_call 33; (with_reducible refine (HV.out _).mono ?_); rintro x w1 ⟨rfl, rfl⟩))
  all_goals
    go_ret
    exact ⟨ret_bool8 (by rw [Bool.eq_iff_iff]; simp; try omega), rfl⟩

theorem all_take_succ {l : List AD} {k : Nat} (h : k < l.length) (f : AD → Bool) : (l.take (k + 1)).all f = ((l.take k).all f && f l[k]) := by
  rw [List.take_succ_eq_append_getElem h, List.all_append]; simp
theorem cells_ad {w : World} {b o : Nat} {a : AD} (h : row? w b o 17 = some (adC a)) : w.cell? ⟨b, o, none⟩ = some (.bool a.1) := by
  obtain ⟨h1, _⟩ := rangeAt_of_row? h
  exact h1 0 _ rfl
set_option maxRecDepth 100000 in
set_option maxHeartbeats 2000000 in
theorem rsources8_any (v : Value) (l : List AD) (w : World) (ha : Ads w v l) : Calls Try.prog 36 #[v] w fun x w' => x = .returned (.bool (srcs8 l)) ∧ Below w.heap.size w w' := by
  obtain ⟨p, cap, rfl, h1, h2⟩ := ha.len
  by_cases h0 : l.length = 0
  · have e1 : l = [] := List.eq_nil_of_length_eq_zero h0
    subst e1
    go_enter Try.func36, Try.ntmps36
    go_wp2_with fail
    go_loop [3] (fun i => i = .int .i64 0) (fun _ => 0)
    case atStart => rfl
    case round =>
      subst hrel
      go_wp2
      go_ret
      exact ⟨rfl, Below.refl _ _⟩
  · have na : l ≠ [] := fun h => h0 (by rw [h]; rfl)
    obtain ⟨b, o, cap', e, _, _, hbl, Ra⟩ := ha.parts na
    simp only [Value.slice.injEq] at e
    obtain ⟨rfl, _, rfl⟩ := e
    have OA := Lib.hid ha.ok
    have RA := Lib.hid Ra
    have HBL := Lib.hid hbl
    obtain ⟨n, hn⟩ : ∃ n, n = l.length := ⟨_, rfl⟩
    have hmx : n ≤ maxLen := by omega
    unfold maxLen at hmx
    obtain ⟨R, hR⟩ : ∃ R, R = srcs8 l := ⟨_, rfl⟩
    rw [← hR]
    unfold srcs8 at hR
    rw [← hn] at hR h0 h1 ⊢
    have HR := Lib.hid hR
    have HN := Lib.hid hn
    clear Ra ha na hn hbl hR h1 h2
    go_enter Try.func36, Try.ntmps36
    go_wp2_with fail
    go_loopw [3] (fun i wr => ∃ k : Nat, k ≤ n ∧ i = .int .i64 k ∧ Hid ((l.take k).all src8 = true) ∧ Hid (Below w.heap.size w wr)) (fun i _ => n - (intOf i).toNat)
    case atStart => exact ⟨0, by omega, rfl, Lib.hid (by simp), Lib.hid (Below.refl _ _)⟩
    case round =>
      obtain ⟨k, hk, rfl, HT, HB⟩ := hrel
      by_cases hlt : k < n
      · have g1 : k < l.length := by rw [← HN.out]; exact hlt
        have r1 := row?_below (RA.out k g1) HBL.out HB.out
        have c1 := cells_ad r1
        have HG : Hid (∀ W, Calls Try.prog 42 #[.agg (adC l[k]).toArray] W fun x w' => x = .returned (.bool (goodV l[k].1 l[k].2)) ∧ Below W.heap.size W w') := Lib.hid fun W => rgood_any l[k].1 l[k].2 (OA.out _ (List.getElem_mem g1)) W
        have HS := Lib.hid (all_take_succ g1 src8)
        have HF : Hid (src8 l[k] = false → l.all src8 = false) := Lib.hid fun h => by
          rw [← Bool.not_eq_true, List.all_eq_true]
          intro hx
          have := hx _ (List.getElem_mem g1)
          rw [h] at this
          exact absurd this (by simp)
        have hq : src8 l[k] = (!l[k].1 && goodV l[k].1 l[k].2) := rfl
        rw [hq] at HS HF
        clear hq
        have hd : decide ((k : Int) < (n : Int)) = true := by simp; omega
        have hk1 : (k : Int) < (n : Int) := by omega
        have hw1 : IntKind.i64.wrap ((k : Int) + 1) = (k : Int) + 1 := by simp only [IntKind.wrap_i64]; omega
        generalize goodV l[k].1 l[k].2 = g at *
        generalize adC l[k] = A at *
        generalize l[k].1 = v6 at *
        clear g1
        cases v6 with
        | true =>
          have HV := Lib.hid (show R = false by rw [HR.out, HF.out rfl]; rfl)
          go_wp2
          go_ret
          exact ⟨ret_bool8 (by rw [HV.out]), HB.out⟩
        | false =>
          cases g with
          | false =>
            have HV := Lib.hid (show R = false by rw [HR.out, HF.out rfl]; rfl)
            go_wp2_with (go_at_call 42; (with_reducible refine (HG.out _).mono ?_); rintro x w1 ⟨rfl, hb1⟩; have H1 := Lib.hid (bstep HB.out hb1); clear hb1)
            go_ret
            exact ⟨ret_bool8 (by rw [HV.out]), H1.out⟩
          | true =>
            have HV := Lib.hid (show (l.take (k + 1)).all src8 = true by rw [HS.out, HT.out]; rfl)
            go_wp2_with (go_at_call 42; (with_reducible refine (HG.out _).mono ?_); rintro x w1 ⟨rfl, hb1⟩; have H1 := Lib.hid (bstep HB.out hb1); clear hb1)
            go_roundw
            case rel => exact ⟨k + 1, by omega, by go_num, HV, H1⟩
            case measure => simp [intOf]; omega
      · have hd : ¬ (k : Int) < (n : Int) := by omega
        have HV := Lib.hid (show R = decide ((n : Int) < 65) by
          have e := HT.out
          rw [List.take_of_length_le (by rw [← HN.out]; omega)] at e
          rw [HR.out, e, Bool.true_and, Bool.eq_iff_iff]
          simp; omega)
        go_wp2
        go_ret
        exact ⟨ret_bool8 (by rw [HV.out]), HB.out⟩
end Go.Proofs.Ytacnhelnpngkgaa

/-
  The document's own list and Good of layer 8.
-/
namespace Go.Proofs.Ytacnhelnpngkgaa
open Go.RowKit
set_option linter.unusedVariables false
attribute [local go_sem ↓] ld_addr st_addr bld_addr
attribute [local go_sem] ldr_addr str_addr row?_drewN_eq row?_drew_eq

end Go.Proofs.Ytacnhelnpngkgaa

